/- The calls of layer 5 by names of points: Add, Neg, Encode; sixes of the law. -/
import Derived.Test.YtehcigidjghddaaQw
import Derived.Test.YtehcigidjghddaaQt
namespace Go.Proofs.Ytehcigidjghddaa
open Go.RowKit
theorem add_is (P Q R : Pt) (hP : P.ok) (hQ : Q.ok) (h : padd (cnt P) (cnt Q) = R) (w : World) :
    Calls Try.prog 14 #[.agg (nums 2 (two P.x P.y)), .agg (nums 2 (two Q.x Q.y))] w fun e w' => e = .returned (.agg (nums 2 (two R.x R.y))) ∧ Below w.heap.size w w' := by
  have := qadd_any P hP.x hP.y Q hQ.x hQ.y w
  rwa [addV_is, h] at this
theorem neg_is (P R : Pt) (hP : P.ok) (h : pneg (cnt P) = R) (w : World) :
    Calls Try.prog 16 #[.agg (nums 2 (two P.x P.y))] w fun e w' => e = .returned (.agg (nums 2 (two R.x R.y))) ∧ Below w.heap.size w w' := by
  have := qneg_any P hP.x hP.y w
  rwa [h] at this
theorem enc_is (P : Pt) (b : ByteArray) (c : Bool) (hP : P.ok) (h : encV P = (b, c)) (w : World) :
    Calls Try.prog 12 #[.agg (nums 2 (two P.x P.y))] w fun e w' => e = .returned (.tuple #[.string b, .bool c]) ∧ Below w.heap.size w w' := by
  have := qenc_any P hP w
  rwa [h] at this
/-! The law's own functions. -/
def sixT : ByteArray := ⟨(asBytes ((List.range 31).map fun _ => (102 : BitVec 8))).toArray⟩
def sixF (k i : Nat) : BitVec 8 := if i < k then 102 else 0
theorem six_none : (Array.replicate 31 (Value.int .u8 0)) = r8 31 (sixF 0) := by kernel_rfl
theorem six_put (k : Nat) : (row 31 fun j => if j = k then Value.int .u8 102 else Value.int .u8 (iw (sixF k j))) = r8 31 (sixF (k + 1)) := row_ext fun j _ => by
  unfold sixF
  by_cases h1 : j = k
  · subst h1; rw [if_pos rfl, if_pos (by omega)]; unfold iw; rfl
  · rw [if_neg h1]
    by_cases h2 : j < k
    · rw [if_pos h2, if_pos (by omega)]
    · rw [if_neg h2, if_neg (by omega)]
theorem six_all : (⟨(asBytes ((List.range 31).map (sixF 31))).toArray⟩ : ByteArray) = sixT := by
  unfold sixT
  rw [show (List.range 31).map (sixF 31) = (List.range 31).map fun _ => (102 : BitVec 8) from List.map_congr_left fun i hi => by
    unfold sixF; rw [if_pos (List.mem_range.1 hi)]]
set_option maxRecDepth 100000 in
set_option maxHeartbeats 1000000 in
theorem sixes_any (w : World) :
    Calls Try.prog 30 #[] w fun e w' => e = .returned (.string sixT) ∧ Below w.heap.size w w' := by
  go_enter Try.func30, Try.ntmps30
  have hmk : ∀ w, (Instr.makeSlice 45 (.int .i64 31) (.int .i64 31)).run Try.prog w = .ok (.slice (some ⟨w.heap.size, 0, none⟩) 31 31) (w.alloc (.cells (r8 31 (sixF 0)) 5)) := fun w => by rw [← six_none]; kernel_rfl
  go_wp2_with fail
  go_loopw [2] (fun i wr => ∃ k : Nat, k ≤ 31 ∧ i = .int .i64 (k : Int) ∧ Blk wr w.heap.size 5 (r8 31 (sixF k)) ∧ Below w.heap.size w wr) (fun i _ => 31 - (intOf i).toNat)
  case atStart => exact ⟨0, by omega, rfl, Blk.new w _ _, (Below.refl _ _).alloc (Nat.le_refl _) _⟩
  case round =>
    obtain ⟨k, hk, rfl, hr, hb⟩ := hrel
    by_cases hlt : k < 31
    · have c0 := hr.at_ hlt
      have f0 := hr.frozen k
      have HP := Lib.hid ((hr.put hlt (.int .u8 102)).cast_ (six_put k))
      have HQ := Lib.hid (hb.setCell (p := ⟨w.heap.size, k, none⟩) (Nat.le_refl _) (.int .u8 102))
      clear hr hb
      go_wp2_with fail
      go_roundw
      case rel => exact ⟨k + 1, by omega, by go_num, HP.out, HQ.out⟩
      case measure => simp [intOf]; omega
    · obtain rfl : k = 31 := by omega
      have hst := run_string_of_blk (P := Try.prog) wr 45 9 5 Try.underlying45 Try.underlying5 Try.underlying9 w.heap.size 31 31 _ _ hr
      rw [six_all] at hst
      generalize hT : sixT = t at hst
      clear hr
      go_wp2_with fail
      go_ret
      exact ⟨by rw [hT]; rfl, hb⟩
end Go.Proofs.Ytehcigidjghddaa
