/- Layer 7 in numbers: base 64, hex, decimal digits. -/
import Derived.Test.YtbipbkancghkfaaDoorTxt
namespace Go.Proofs.YtbipbkancghkfaaDoor
open Go.RowKit
/-! Base 64. -/
/-- The digit of a number below 64. -/
def d64 (i : Nat) : Nat := if i < 26 then 65 + i else if i < 52 then 71 + i else if i < 62 then i - 4 else if i = 62 then 43 else 47
theorem d64_lt (i : Nat) (h : i < 64) : d64 i < 123 ∧ 43 ≤ d64 i ∧ d64 i ≠ 61 := by unfold d64; (repeat' split) <;> omega
theorem d64_inj {i j : Nat} (hi : i < 64) (hj : j < 64) (h : d64 i = d64 j) : i = j := by unfold d64 at h; (repeat' split at h) <;> omega
/-- Three bytes' number. -/
def tri3 (s : ByteArray) (g : Nat) : Nat := byteS s (3 * g) * 65536 + byteS s (3 * g + 1) * 256 + byteS s (3 * g + 2)
/-- Sign k of four: the six bits of n, while there are some. -/
def six (n k : Nat) : Nat := n / 2 ^ (18 - 6 * k) % 64
def e64B (s : ByteArray) (j : Nat) : Nat := if j % 4 < min (s.size - 3 * (j / 4)) 3 + 1 then d64 (six (tri3 s (j / 4)) (j % 4)) else 61
def e64 (s : ByteArray) : ByteArray := textN ((s.size + 2) / 3 * 4) (e64B s)
theorem six_lt (n k : Nat) : six n k < 64 := Nat.mod_lt _ (by decide)
theorem e64B_lt (s : ByteArray) (j : Nat) : e64B s j < 256 := by
  unfold e64B; split
  · have := (d64_lt _ (six_lt (tri3 s (j / 4)) (j % 4))).1; omega
  · omega
theorem e64_size (s : ByteArray) : (e64 s).size = (s.size + 2) / 3 * 4 := textN_size _ _
theorem e64_at (s : ByteArray) (j : Nat) (h : j < (s.size + 2) / 3 * 4) : byteS (e64 s) j = e64B s j := byteS_textN _ _ _ h (e64B_lt s j)
/-- A byte out of the sixes. -/
theorem six_back (a b c : Nat) (ha : a < 256) (hb : b < 256) (hc : c < 256) :
    six (a * 65536 + b * 256 + c) 0 * 4 + six (a * 65536 + b * 256 + c) 1 / 16 = a ∧ six (a * 65536 + b * 256 + c) 1 % 16 * 16 + six (a * 65536 + b * 256 + c) 2 / 4 = b ∧ six (a * 65536 + b * 256 + c) 2 % 4 * 64 + six (a * 65536 + b * 256 + c) 3 = c := by
  unfold six
  simp only [Nat.reduceMul, Nat.reduceSub, Nat.reducePow]
  omega
/-- Which text it is, is told by what is written. -/
theorem e64_inj {s t : ByteArray} (h : e64 s = e64 t) : s = t := by
  have hz : (s.size + 2) / 3 * 4 = (t.size + 2) / 3 * 4 := by rw [← e64_size, ← e64_size, h]
  have hb : ∀ j, j < (s.size + 2) / 3 * 4 → e64B s j = e64B t j := fun j hj => by rw [← e64_at s j hj, ← e64_at t j (by omega), h]
  have hsz : s.size = t.size := by
    by_cases h0 : s.size = 0
    · omega
    · have h2 := hb (4 * ((s.size - 1) / 3) + 2) (by omega)
      have h3 := hb (4 * ((s.size - 1) / 3) + 3) (by omega)
      unfold e64B at h2 h3
      rw [show (4 * ((s.size - 1) / 3) + 2) % 4 = 2 by omega, show (4 * ((s.size - 1) / 3) + 2) / 4 = (s.size - 1) / 3 by omega] at h2
      rw [show (4 * ((s.size - 1) / 3) + 3) % 4 = 3 by omega, show (4 * ((s.size - 1) / 3) + 3) / 4 = (s.size - 1) / 3 by omega] at h3
      have x2 := (d64_lt _ (six_lt (tri3 s ((s.size - 1) / 3)) 2)).2.2
      have y2 := (d64_lt _ (six_lt (tri3 t ((s.size - 1) / 3)) 2)).2.2
      have x3 := (d64_lt _ (six_lt (tri3 s ((s.size - 1) / 3)) 3)).2.2
      have y3 := (d64_lt _ (six_lt (tri3 t ((s.size - 1) / 3)) 3)).2.2
      split at h2 <;> split at h2 <;> split at h3 <;> split at h3 <;> first | omega | (exfalso; exact x2 h2) | (exfalso; exact y2 h2.symm) | (exfalso; exact x3 h3) | (exfalso; exact y3 h3.symm)
  refine text_same hsz fun j hj => ?_
  have key : ∀ k, k < min (s.size - 3 * (j / 3)) 3 + 1 → six (tri3 s (j / 3)) k = six (tri3 t (j / 3)) k := fun k hk => by
    have h1 := hb (4 * (j / 3) + k) (by omega)
    unfold e64B at h1
    rw [show (4 * (j / 3) + k) % 4 = k by omega, show (4 * (j / 3) + k) / 4 = j / 3 by omega, if_pos hk, if_pos (by omega)] at h1
    exact d64_inj (six_lt _ _) (six_lt _ _) h1
  have s1 := six_back _ _ _ (byteS_lt s (3 * (j / 3))) (byteS_lt s (3 * (j / 3) + 1)) (byteS_lt s (3 * (j / 3) + 2))
  have t1 := six_back _ _ _ (byteS_lt t (3 * (j / 3))) (byteS_lt t (3 * (j / 3) + 1)) (byteS_lt t (3 * (j / 3) + 2))
  have k0 := key 0 (by omega)
  have k1 := key 1 (by omega)
  unfold tri3 at key k0 k1
  rcases (show j % 3 = 0 ∨ j % 3 = 1 ∨ j % 3 = 2 by omega) with h3 | h3 | h3
  · rw [show j = 3 * (j / 3) by omega, ← s1.1, ← t1.1, k0, k1]
  · have k2 := key 2 (by omega)
    rw [show j = 3 * (j / 3) + 1 by omega, ← s1.2.1, ← t1.2.1, k1, k2]
  · have k2 := key 2 (by omega)
    have k3 := key 3 (by omega)
    rw [show j = 3 * (j / 3) + 2 by omega, ← s1.2.2, ← t1.2.2, k2, k3]
/-! Hex. -/
def hexD (n : Nat) : Nat := if n < 10 then 48 + n else 87 + n
theorem hexD_lt (n : Nat) (h : n < 16) : hexD n < 103 := by unfold hexD; split <;> omega
theorem hexD_inj {i j : Nat} (hi : i < 16) (hj : j < 16) (h : hexD i = hexD j) : i = j := by unfold hexD at h; (repeat' split at h) <;> omega
def hexB (s : ByteArray) (j : Nat) : Nat := if j % 2 = 0 then hexD (byteS s (j / 2) / 16) else hexD (byteS s (j / 2) % 16)
def hexT (s : ByteArray) : ByteArray := textN (2 * s.size) (hexB s)
theorem hexB_lt (s : ByteArray) (j : Nat) : hexB s j < 256 := by
  have := byteS_lt s (j / 2)
  unfold hexB hexD; (repeat' split) <;> omega
theorem hexT_size (s : ByteArray) : (hexT s).size = 2 * s.size := textN_size _ _
theorem hexT_at (s : ByteArray) (j : Nat) (h : j < 2 * s.size) : byteS (hexT s) j = hexB s j := byteS_textN _ _ _ h (hexB_lt s j)
theorem hexT_inj {s t : ByteArray} (h : hexT s = hexT t) : s = t := by
  have hz : s.size = t.size := by have h1 := hexT_size s; have h2 := hexT_size t; rw [h] at h1; omega
  refine text_same hz fun j hj => ?_
  have h0 : hexB s (2 * j) = hexB t (2 * j) := by rw [← hexT_at s _ (by omega), ← hexT_at t _ (by omega), h]
  have h1 : hexB s (2 * j + 1) = hexB t (2 * j + 1) := by rw [← hexT_at s _ (by omega), ← hexT_at t _ (by omega), h]
  have a := byteS_lt s j
  have b := byteS_lt t j
  unfold hexB at h0 h1
  rw [if_pos (by omega), if_pos (by omega), show 2 * j / 2 = j by omega] at h0
  rw [if_neg (by omega), if_neg (by omega), show (2 * j + 1) / 2 = j by omega] at h1
  have := hexD_inj (by omega) (by omega) h0
  have := hexD_inj (by omega) (by omega) h1
  omega
/-! Decimal digits: how many, and which. -/
def decN (n : Nat) : Nat := if n < 10 then 1 else decN (n / 10) + 1
theorem decN_pos (n : Nat) : 0 < decN n := by unfold decN; split <;> omega
/-- The digits, the greatest one first. -/
def decB (n j : Nat) : Nat := 48 + n / 10 ^ (decN n - 1 - j) % 10
def decT (n : Nat) : ByteArray := textN (decN n) (decB n)
theorem decT_size (n : Nat) : (decT n).size = decN n := textN_size _ _
theorem decT_at (n j : Nat) (h : j < decN n) : byteS (decT n) j = decB n j := byteS_textN _ _ _ h (by unfold decB; omega)
theorem decN_lt (n : Nat) : n < 10 ^ decN n := by
  induction n using Nat.strongRecOn with
  | _ n ih =>
    unfold decN
    by_cases h : n < 10
    · rw [if_pos h]; omega
    · rw [if_neg h, Nat.pow_succ]
      have := ih (n / 10) (by omega)
      omega
theorem decN_le (n : Nat) (h : 0 < n) : 10 ^ (decN n - 1) ≤ n := by
  induction n using Nat.strongRecOn with
  | _ n ih =>
    unfold decN
    by_cases h : n < 10
    · rw [if_pos h, Nat.sub_self, Nat.pow_zero]; omega
    · rw [if_neg h, Nat.add_sub_cancel]
      have := ih (n / 10) (by omega) (by omega)
      have hp := decN_pos (n / 10)
      rw [show decN (n / 10) = decN (n / 10) - 1 + 1 by omega, Nat.pow_succ]
      omega
/-- What the first k digits say. -/
theorem dec_first (n : Nat) : ∀ k, k ≤ decN n → (List.range k).foldl (fun x j => 10 * x + (decB n j - 48)) 0 = n / 10 ^ (decN n - k)
  | 0, _ => by
    show 0 = _
    rw [Nat.sub_zero]; exact (Nat.div_eq_of_lt (decN_lt n)).symm
  | k + 1, hk => by
    rw [List.range_succ, List.foldl_append, dec_first n k (by omega)]
    show 10 * (n / 10 ^ (decN n - k)) + (decB n k - 48) = _
    unfold decB
    rw [show decN n - 1 - k = decN n - (k + 1) by omega, show decN n - k = decN n - (k + 1) + 1 by omega, Nat.pow_succ, ← Nat.div_div_eq_div_mul]
    omega
theorem decT_inj {n m : Nat} (h : decT n = decT m) : n = m := by
  have hz : decN n = decN m := by rw [← decT_size, ← decT_size, h]
  have hb : ∀ j, j < decN n → decB n j = decB m j := fun j hj => by rw [← decT_at n j hj, ← decT_at m j (by omega), h]
  have h1 := dec_first n (decN n) (Nat.le_refl _)
  have h2 := dec_first m (decN m) (Nat.le_refl _)
  rw [Nat.sub_self, Nat.pow_zero, Nat.div_one] at h1 h2
  rw [← h1, ← h2, ← hz]
  have : ∀ k, k ≤ decN n → ∀ x, (List.range k).foldl (fun x j => 10 * x + (decB n j - 48)) x = (List.range k).foldl (fun x j => 10 * x + (decB m j - 48)) x := by
    intro k
    induction k with
    | zero => intro _ _; rfl
    | succ k ih =>
      intro hk x
      rw [List.range_succ, List.foldl_append, List.foldl_append, ih (by omega)]
      show 10 * _ + (decB n k - 48) = 10 * _ + (decB m k - 48)
      rw [hb k (by omega)]
  exact this _ (Nat.le_refl _) 0
end Go.Proofs.YtbipbkancghkfaaDoor
