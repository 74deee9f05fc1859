/- Numbers as lists of bytes: doubled, less another one; modulo L. -/
import Derived.Test.YtmmkmbinmmfblaaBytes
import Derived.IntWalk
namespace Go.Proofs.Ytmmkmbinmmfblaa
/-- L of the chapter. -/
def qL : Nat := 7237005577332262213973186563042994240857116359379907606001950938285454250989
/-- Byte k of n. -/
def byteK (n k : Nat) : Nat := n / 2 ^ (8 * k) % 256
theorem byteK_lt (n k : Nat) : byteK n k < 256 := Nat.mod_lt _ (by decide)
theorem pow8 (k : Nat) : (2 : Nat) ^ (8 * (k + 1)) = 2 ^ (8 * k) * 256 := by rw [Nat.mul_succ, Nat.pow_add]
theorem mod8 (n k : Nat) : n % 2 ^ (8 * (k + 1)) = n % 2 ^ (8 * k) + 2 ^ (8 * k) * byteK n k := by
  unfold byteK; rw [pow8, Nat.mod_mul]
/-- The carry into place k when R is doubled and c is added. -/
def dc (R c k : Nat) : Nat := (2 * (R % 2 ^ (8 * k)) + c) / 2 ^ (8 * k)
theorem dc_zero (R c : Nat) : dc R c 0 = c := by
  unfold dc; rw [Nat.mul_zero, Nat.pow_zero, Nat.mod_one, Nat.div_one, Nat.mul_zero, Nat.zero_add]
theorem dc_byte (R c k : Nat) : (2 * byteK R k + dc R c k) % 256 = byteK (2 * R + c) k := by
  have hQ : 0 < 2 ^ (8 * k) := Nat.pow_pos (by decide)
  unfold byteK dc
  have h := Nat.mod_add_div R (2 ^ (8 * k))
  generalize 2 ^ (8 * k) = Q at *
  have e : 2 * R + c = (2 * (R % Q) + c) + Q * (2 * (R / Q)) := by
    rw [Nat.mul_left_comm]; omega
  rw [e, Nat.add_mul_div_left _ _ hQ]
  omega
theorem dc_next (R c k : Nat) : (2 * byteK R k + dc R c k) / 256 = dc R c (k + 1) := by
  have hQ : 0 < 2 ^ (8 * k) := Nat.pow_pos (by decide)
  unfold dc
  rw [mod8, pow8, ← Nat.div_div_eq_div_mul]
  generalize byteK R k = b
  generalize R % 2 ^ (8 * k) = m
  generalize 2 ^ (8 * k) = Q at *
  rw [show 2 * (m + Q * b) + c = (2 * m + c) + Q * (2 * b) by rw [Nat.mul_left_comm Q]; omega, Nat.add_mul_div_left _ _ hQ, Nat.add_comm]
theorem dc_le (R c k : Nat) (hc : c ≤ 1) : dc R c k ≤ 1 := by
  have hQ : 0 < 2 ^ (8 * k) := Nat.pow_pos (by decide)
  unfold dc
  have h := Nat.mod_lt R hQ
  generalize 2 ^ (8 * k) = Q at *
  exact Nat.le_of_lt_succ ((Nat.div_lt_iff_lt_mul hQ).2 (by omega))
/-- The borrow into place k of X less l. -/
def bo (X l k : Nat) : Nat := if X % 2 ^ (8 * k) < l % 2 ^ (8 * k) then 1 else 0
theorem bo_zero (X l : Nat) : bo X l 0 = 0 := by
  unfold bo; rw [Nat.mul_zero, Nat.pow_zero, Nat.mod_one, Nat.mod_one, if_neg (by omega)]
theorem bo_le (X l k : Nat) : bo X l k ≤ 1 := by unfold bo; split <;> omega
theorem bo_next (X l k : Nat) : 1 - (byteK X k + 256 - byteK l k - bo X l k) / 256 = bo X l (k + 1) := by
  have hQ : 0 < 2 ^ (8 * k) := Nat.pow_pos (by decide)
  have h1 := byteK_lt X k
  have h2 := byteK_lt l k
  unfold bo
  rw [mod8, mod8]
  generalize byteK X k = x at *
  generalize byteK l k = y at *
  have h3 := Nat.mod_lt X hQ
  have h4 := Nat.mod_lt l hQ
  generalize X % 2 ^ (8 * k) = m at *
  generalize l % 2 ^ (8 * k) = n at *
  generalize 2 ^ (8 * k) = Q at *
  rcases Nat.lt_trichotomy x y with h | h | h
  · have hm := Nat.mul_le_mul_left Q (show x + 1 ≤ y from h)
    rw [Nat.mul_succ] at hm
    rw [if_pos (show m + Q * x < n + Q * y by omega)]
    split <;> omega
  · subst h
    by_cases hmn : m < n
    · rw [if_pos hmn, if_pos (by omega)]; omega
    · rw [if_neg hmn, if_neg (by omega)]; omega
  · have hm := Nat.mul_le_mul_left Q (show y + 1 ≤ x from h)
    rw [Nat.mul_succ] at hm
    rw [if_neg (show ¬ m + Q * x < n + Q * y by omega)]
    split <;> omega
theorem bo_byte (X l k : Nat) (hl : l ≤ X) : (byteK X k + 256 - byteK l k - bo X l k) % 256 = byteK (X - l) k := by
  have hQ : 0 < 2 ^ (8 * k) := Nat.pow_pos (by decide)
  unfold bo byteK
  have hX := Nat.mod_add_div X (2 ^ (8 * k))
  have hL := Nat.mod_add_div l (2 ^ (8 * k))
  have h3 := Nat.mod_lt X hQ
  have h4 := Nat.mod_lt l hQ
  have hd : l / 2 ^ (8 * k) ≤ X / 2 ^ (8 * k) := Nat.div_le_div_right hl
  generalize X % 2 ^ (8 * k) = m at *
  generalize l % 2 ^ (8 * k) = n at *
  generalize X / 2 ^ (8 * k) = x at *
  generalize l / 2 ^ (8 * k) = y at *
  generalize 2 ^ (8 * k) = Q at *
  obtain ⟨d, rfl⟩ : ∃ d, x = y + d := ⟨x - y, by omega⟩
  rw [Nat.mul_add] at hX
  by_cases hmn : m < n
  · rw [if_pos hmn]
    have hd1 : 0 < d := by
      rcases Nat.eq_zero_or_pos d with h | h
      · subst h; rw [Nat.mul_zero] at hX; omega
      · exact h
    obtain ⟨f, rfl⟩ : ∃ f, d = f + 1 := ⟨d - 1, by omega⟩
    rw [Nat.mul_succ] at hX
    have e : X - l = (m + Q - n) + Q * f := by omega
    rw [e, Nat.add_mul_div_left _ _ hQ, Nat.div_eq_of_lt (show m + Q - n < Q by omega)]
    omega
  · rw [if_neg hmn]
    have e : X - l = (m - n) + Q * d := by omega
    rw [e, Nat.add_mul_div_left _ _ hQ, Nat.div_eq_of_lt (show m - n < Q by omega)]
    omega
theorem div8 (n k : Nat) : n / 2 ^ (8 * k) = n / 2 ^ (8 * (k + 1)) * 256 + byteK n k := by
  unfold byteK; rw [pow8, ← Nat.div_div_eq_div_mul]; omega
theorem cmp_same {X l k : Nat} (h : X / 2 ^ (8 * (k + 1)) = l / 2 ^ (8 * (k + 1))) (hb : byteK X k = byteK l k) : X / 2 ^ (8 * k) = l / 2 ^ (8 * k) := by
  rw [div8 X k, div8 l k, h, hb]
theorem cmp_next {X l k : Nat} (h : X / 2 ^ (8 * (k + 1)) = l / 2 ^ (8 * (k + 1))) (hb : ¬ byteK X k = byteK l k) : byteK X k < byteK l k ↔ X < l := by
  have hQ : 0 < 2 ^ (8 * k) := Nat.pow_pos (by decide)
  have h1 := div8 X k
  have h2 := div8 l k
  rw [h] at h1
  constructor
  · intro hlt
    refine Nat.lt_of_not_le fun hle => ?_
    have := Nat.div_le_div_right (c := 2 ^ (8 * k)) hle
    omega
  · intro hlt
    have := Nat.div_le_div_right (c := 2 ^ (8 * k)) (Nat.le_of_lt hlt)
    omega
theorem cmp_end {X l : Nat} (h : X / 2 ^ (8 * 0) = l / 2 ^ (8 * 0)) : X = l := by
  rwa [Nat.mul_zero, Nat.pow_zero, Nat.div_one, Nat.div_one] at h
theorem cmp_top {X : Nat} (hX : X < 2 ^ 256 * 256) (h : byteK X 32 = 0) : X / 2 ^ (8 * (31 + 1)) = 0 := by
  unfold byteK at h
  rw [show 8 * (31 + 1) = 256 by rfl]
  rw [show 8 * 32 = 256 by rfl] at h
  have : X / 2 ^ 256 < 256 := Nat.div_lt_of_lt_mul hX
  rwa [Nat.mod_eq_of_lt this] at h
theorem cmp_over {X : Nat} (h : ¬ byteK X 32 = 0) : ¬ X < qL := by
  intro hlt
  apply h
  unfold byteK
  rw [Nat.div_eq_of_lt (Nat.lt_of_lt_of_le hlt (by decide))]
/-- One bit more: the rest modulo L. -/
theorem rest_next (n i : Nat) : (2 * (n / 2 ^ (i + 1) % qL) + n / 2 ^ i % 2) % qL = n / 2 ^ i % qL := by
  have e : n / 2 ^ i = 2 * (n / 2 ^ (i + 1)) + n / 2 ^ i % 2 := by
    rw [Nat.pow_succ, ← Nat.div_div_eq_div_mul]; omega
  have h : n / 2 ^ i % qL = (2 * (n / 2 ^ (i + 1)) + n / 2 ^ i % 2) % qL := by rw [← e]
  rw [h, Nat.add_mod, Nat.mul_mod, Nat.mod_mod, ← Nat.mul_mod, ← Nat.add_mod]
theorem rest_lt (R c : Nat) (hR : R < qL) (hc : c ≤ 1) : 2 * R + c < 2 * qL := by omega
theorem rest_below {X : Nat} (h : X < qL) : X % qL = X := Nat.mod_eq_of_lt h
theorem rest_less {X : Nat} (h : ¬ X < qL) (h2 : X < 2 * qL) : X % qL = X - qL := by
  rw [Nat.mod_eq_sub_mod (by omega), Nat.mod_eq_of_lt (by omega)]
end Go.Proofs.Ytmmkmbinmmfblaa
