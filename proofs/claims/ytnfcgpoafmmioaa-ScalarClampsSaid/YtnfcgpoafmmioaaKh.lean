/- Lists of numbers that carry: what MulAdd wants; Bit of any number. -/
import Derived.Test.YtnfcgpoafmmioaaKg
namespace Go.Proofs.Ytnfcgpoafmmioaa
open Go.RowKit
theorem bv_add (o : Nat → Nat) (j x : Nat) : ∀ n, j < n → bv (fun i => if i = j then o i + x else o i) n = bv o n + x * 2 ^ (8 * j)
  | 0, h => by omega
  | n + 1, h => by
    show bv _ n + (if n = j then o n + x else o n) * 2 ^ (8 * n) = bv o n + o n * 2 ^ (8 * n) + x * 2 ^ (8 * j)
    by_cases hn : n = j
    · subst hn
      rw [if_pos rfl, bv_congr (f := fun i => if i = n then o i + x else o i) (g := o) n (fun i hi => by rw [if_neg (by omega)]), Nat.add_mul]
      omega
    · rw [if_neg hn, bv_add o j x n (by omega)]
      omega
/-- The carry into place k. -/
def cK (o : Nat → Nat) (k : Nat) : Nat := bv o k / 2 ^ (8 * k)
theorem cK_zero (o : Nat → Nat) : cK o 0 = 0 := by unfold cK; show 0 / _ = 0; rw [Nat.zero_div]
theorem cK_sum (o : Nat → Nat) (k : Nat) : bv o (k + 1) / 2 ^ (8 * k) = o k + cK o k := by
  unfold cK
  show (bv o k + o k * 2 ^ (8 * k)) / 2 ^ (8 * k) = _
  rw [Nat.add_mul_div_right _ _ (Nat.pow_pos (by decide)), Nat.add_comm]
theorem cK_next (o : Nat → Nat) (k : Nat) : (o k + cK o k) / 256 = cK o (k + 1) := by
  rw [← cK_sum, Nat.div_div_eq_div_mul, ← pow8]; rfl
theorem bv_high (o : Nat → Nat) (k : Nat) : ∀ n, k ≤ n → ∃ h, bv o n = bv o k + h * 2 ^ (8 * k)
  | 0, hn => ⟨0, by rw [show k = 0 by omega, Nat.zero_mul, Nat.add_zero]⟩
  | n + 1, hn => by
    by_cases he : k = n + 1
    · subst he; exact ⟨0, by rw [Nat.zero_mul]; rfl⟩
    · obtain ⟨h, e⟩ := bv_high o k n (by omega)
      obtain ⟨d, rfl⟩ : ∃ d, n = k + d := ⟨n - k, by omega⟩
      refine ⟨h + o (k + d) * 2 ^ (8 * d), ?_⟩
      show bv o (k + d) + o (k + d) * 2 ^ (8 * (k + d)) = _
      rw [e, Nat.mul_add 8, Nat.pow_add, Nat.add_mul h, Nat.mul_assoc (o (k + d)), Nat.mul_comm (2 ^ (8 * d))]
      omega
theorem cK_byte (o : Nat → Nat) (k n : Nat) (h : k < n) : (o k + cK o k) % 256 = byteK (bv o n) k := by
  obtain ⟨d, e⟩ := bv_high o (k + 1) n h
  unfold byteK
  rw [← cK_sum, e, pow8, show d * (2 ^ (8 * k) * 256) = d * 256 * 2 ^ (8 * k) by rw [Nat.mul_comm (2 ^ (8 * k)), Nat.mul_assoc], Nat.add_mul_div_right _ _ (Nat.pow_pos (by decide)), Nat.add_mul_mod_self_right]
theorem cK_le (o : Nat → Nat) (m : Nat) (ho : ∀ j, o j ≤ m) : ∀ k, cK o k ≤ m
  | 0 => by rw [cK_zero]; omega
  | k + 1 => by
    have h := cK_le o m ho k
    have h1 := ho k
    rw [← cK_next]; omega
set_option maxRecDepth 100000 in
set_option maxHeartbeats 1000000 in
theorem rbit_neg (s : ByteArray) (i : Int) (w : World) (h : i < 0) :
    Calls Try.prog 19 #[.string s, .int .i64 i] w fun e w' => e = .returned (.int .i64 0) ∧ w' = w := by
  have hd : decide (i < 0) = true := decide_eq_true h
  clear h
  go_enter Try.func19, Try.ntmps19
  go_wp2_with fail
  go_ret
  exact ⟨rfl, rfl⟩
/-- The bit at any place. -/
def bitI (s : ByteArray) (i : Int) : Nat := if i < 0 then 0 else bitS s i.toNat
theorem rbit_int (s : ByteArray) (i : Int) (w : World) (h : i < 9223372036854775808) :
    Calls Try.prog 19 #[.string s, .int .i64 i] w fun e w' => e = .returned (.int .i64 (bitI s i : Int)) ∧ w' = w := by
  unfold bitI
  by_cases hi : i < 0
  · rw [if_pos hi]; exact rbit_neg s i w hi
  · rw [if_neg hi]
    have := rbit_any s i.toNat w (by omega)
    rwa [show ((i.toNat : Nat) : Int) = i by omega] at this
end Go.Proofs.Ytnfcgpoafmmioaa
