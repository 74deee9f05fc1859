/- The document's answer to chapter 2: eight. -/
import Derived.Test.YtmmijnacgolopaaSb8
namespace Go.Proofs.Ytmmijnacgolopaa
open Go.RowKit
def eF (x : BitVec 64) (k i : Nat) : Value := b8v (if i < k then byteAt x i else litw 8 0)
theorem eF_all (x : BitVec 64) : (row 8 (eF x 8)).toList = (eight x).map b8v := by
  unfold eF eight eightK row
  rfl
set_option maxRecDepth 100000 in
set_option maxHeartbeats 1000000 in
theorem reight_any (x : BitVec 64) (w : World) :
    Calls Try.prog 16 #[.int .u64 (iw x)] w fun e w' => e = .returned (.string ⟨(asBytes (eight x)).toArray⟩) ∧ Below w.heap.size w w' := by
  have hmk : ∀ w, (Instr.makeSlice 33 (.int .i64 8) (.int .i64 8)).run Try.prog w = .ok (.slice (some ⟨w.heap.size, 0, none⟩) 8 8) (w.alloc (.cells (row 8 (eF x 0)) 5)) := fun w => by kernel_rfl
  go_enter Try.func16, Try.ntmps16
  go_wp2_with fail
  clear hmk
  go_loopw [4] (fun i wr => ∃ k : Nat, k ≤ 8 ∧ i = .int .i64 (k : Int) ∧ Blk wr w.heap.size 5 (row 8 (eF x k)) ∧ Below w.heap.size w wr) (fun i _ => 8 - (intOf i).toNat)
  case atStart => exact ⟨0, by omega, rfl, Blk.new w _ _, (Below.refl _ _).alloc (Nat.le_refl _) _⟩
  case round =>
    obtain ⟨k, hk, rfl, hb, hl⟩ := hrel
    by_cases hlt : k < 8
    · have hsh : (iw x : Int) / 2 ^ (56 - 8 * (k : Int)).toNat = iw (shrw x (56 - 8 * k)) := by
        rw [show (56 - 8 * (k : Int)).toNat = 56 - 8 * k by omega]
        unfold iw shrw
        rw [BitVec.toNat_ushiftRight, Nat.shiftRight_eq_div_pow, Int.natCast_ediv, Int.natCast_pow]
        rfl
      have hc := hb.at_ hlt
      have hf := hb.frozen k
      have K : Blk (wr.setCell ⟨w.heap.size, k, none⟩ (.int .u8 (iw (castw 8 (shrw x (56 - 8 * k)))))) w.heap.size 5 (row 8 (eF x (k + 1))) :=
        (hb.put hlt _).cast_ (row_ext fun i _ => by
          by_cases h1 : i = k
          · subst h1; simp [eF, b8v, byteAt]
          · by_cases h2 : i < k
            · simp [eF, h1, h2, Nat.lt_succ_of_lt h2]
            · simp [eF, h1, h2, show ¬ i < k + 1 by omega])
      have KL := hl.setCell (p := ⟨w.heap.size, k, none⟩) (Nat.le_refl _) (.int .u8 (iw (castw 8 (shrw x (56 - 8 * k)))))
      clear hb hl
      go_wp2_with fail
      go_roundw
      case rel => exact ⟨k + 1, by omega, by go_num, K, KL⟩
      case measure => simp [intOf]; omega
    · obtain rfl : k = 8 := by omega
      have hown : wr.ownsRow w.heap.size 5 1 (.slice (some ⟨w.heap.size, 0, none⟩) 8 8) 8 ((eight x).map b8v) := by
        rw [← eF_all]
        exact ⟨by simp [row], .inr ⟨w.heap.size, 8, _, rfl, Nat.le_refl _, hb, by omega, by unfold maxLen; omega, by rw [row_size], rfl⟩⟩
      have hcv : (convert 33 9 (.slice (some ⟨w.heap.size, 0, none⟩) 8 8)).run Try.prog wr = .ok (.string ⟨(asBytes (eight x)).toArray⟩) wr :=
        run_string_of_own wr _ _ 5 _ Try.underlying33 Try.underlying5 Try.underlying9 _ _ _ hown
      clear hown hb
      go_wp2_with fail
      go_ret
      exact ⟨rfl, hl⟩
end Go.Proofs.Ytmmijnacgolopaa
