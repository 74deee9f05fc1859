/- Layer 9: the bits of a code laid into eight bytes, from a bit on. -/
import Derived.Test.YtmmkmbinmmfblaaMC
import Derived.Laws.BitsAllLaws
namespace Go.Proofs.Ytmmkmbinmmfblaa
open Go.RowKit
/-- Eight bytes, of the code c of L bits the first i laid from at_ on. -/
def laidB (at_ L c : Nat) : Nat → Nat → BitVec 8
  | 0, _ => litw 8 0
  | i + 1, q => if c / 2 ^ (L - 1 - i) % 2 = 1 ∧ q = (at_ + i) / 8 then orw (laidB at_ L c i q) (shlw (litw 8 1) ((at_ + i) % 8)) else laidB at_ L c i q
theorem laidB_bit (at_ L c : Nat) (i q r : Nat) (hr : r < 8) : (laidB at_ L c i q).getLsbD r = decide (at_ ≤ 8 * q + r ∧ 8 * q + r < at_ + i ∧ c / 2 ^ (L - 1 - (8 * q + r - at_)) % 2 = 1) := by
  induction i with
  | zero =>
    have h : ¬ (at_ ≤ 8 * q + r ∧ 8 * q + r < at_ + 0 ∧ c / 2 ^ (L - 1 - (8 * q + r - at_)) % 2 = 1) := by omega
    rw [decide_eq_false h]
    show (litw 8 0).getLsbD r = false
    unfold litw
    simp
  | succ i ih =>
    unfold laidB
    by_cases h : c / 2 ^ (L - 1 - i) % 2 = 1 ∧ q = (at_ + i) / 8
    · rw [if_pos h]
      unfold orw shlw litw
      rw [BitVec.getLsbD_or, ih, BitVec.getLsbD_shiftLeft]
      by_cases e : 8 * q + r = at_ + i
      · have h2 : 8 * q + r - at_ = i := by omega
        have h3 : r = (at_ + i) % 8 := by omega
        rw [h2, ← h3]
        simp only [h.1, e]
        simp [hr]
      · have h3 : r ≠ (at_ + i) % 8 := by omega
        have h4 : (decide (r < 8) && !decide (r < (at_ + i) % 8) && (BitVec.ofNat 8 1).getLsbD (r - (at_ + i) % 8)) = false := by
          by_cases h5 : r < (at_ + i) % 8
          · simp [h5]
          · have : r - (at_ + i) % 8 ≠ 0 := by omega
            simp [BitVec.getLsbD_one, this]
        rw [h4, Bool.or_false]
        apply decide_eq_decide.2
        omega
    · rw [if_neg h, ih]
      apply decide_eq_decide.2
      constructor
      · intro ⟨a, b, d⟩; exact ⟨a, by omega, d⟩
      · intro ⟨a, b, d⟩
        refine ⟨a, ?_, d⟩
        rcases Nat.lt_or_ge (8 * q + r) (at_ + i) with h2 | h2
        · exact h2
        · exfalso
          have h3 : 8 * q + r - at_ = i := by omega
          rw [h3] at d
          exact h ⟨d, by omega⟩
/-- The bits of the code stand in the text. -/
theorem laid_bits (at_ L c : Nat) (s t : ByteArray) (hs : s.size = 8) (hb : ∀ q, q < 8 → byteS s q = (laidB at_ L c L q).toNat) (j : Nat) (hj : j < L) (ha : at_ + L ≤ 64) : bitH (s ++ t) (at_ + j) = c / 2 ^ (L - 1 - j) % 2 := by
  unfold bitH
  rw [byteS_app, if_pos (by omega), hb _ (by omega)]
  have h := laidB_bit at_ L c L ((at_ + j) / 8) ((at_ + j) % 8) (Nat.mod_lt _ (by decide))
  rw [show 8 * ((at_ + j) / 8) + (at_ + j) % 8 = at_ + j by omega, show at_ + j - at_ = j by omega] at h
  unfold BitVec.getLsbD at h
  rw [Nat.testBit_eq_decide_div_mod_eq] at h
  have h2 := decide_eq_decide.1 h
  have e : (at_ ≤ at_ + j ∧ at_ + j < at_ + L ∧ c / 2 ^ (L - 1 - j) % 2 = 1) ↔ c / 2 ^ (L - 1 - j) % 2 = 1 := ⟨fun h => h.2.2, fun h => ⟨by omega, by omega, h⟩⟩
  have h3 := h2.trans e
  generalize (laidB at_ L c L ((at_ + j) / 8)).toNat / 2 ^ ((at_ + j) % 8) = x at h3 ⊢
  generalize c / 2 ^ (L - 1 - j) = y at h3 ⊢
  omega
theorem or8w (x y : BitVec 8) : bits .or .u8 (iw x) (iw y) = iw (orw x y) := by
  simp only [iw, orw, BitVec.toNat_or]; exact u8_or_nat _ _ x.isLt y.isLt
theorem wrap8_pow (r : Nat) : IntKind.u8.wrap (2 ^ r) = iw (shlw (litw 8 1) r) := by
  rw [show ((2 : Int) ^ r) = ((2 ^ r : Nat) : Int) by push_cast; rfl, wrap_of_nat8]
  congr 1
  apply BitVec.eq_of_toNat_eq
  unfold shlw litw
  rw [BitVec.toNat_ofNat, BitVec.toNat_shiftLeft, BitVec.toNat_ofNat, Nat.shiftLeft_eq, Nat.mod_eq_of_lt (show 1 < 2 ^ 8 by decide), Nat.one_mul]
end Go.Proofs.Ytmmkmbinmmfblaa
