/- The document's answer to chapter 3: Small, Odd. -/
import Derived.Test.YtjggclhhimccoaaFh
namespace Go.Proofs.Ytjggclhhimccoaa
open Go.RowKit
theorem F4_small (n : Nat) (hn : n < 18446744073709551616) (i : Nat) (hi : i < 4) : F4 n i = if i = 0 then BitVec.ofNat 64 n else litw 64 0 := by
  apply BitVec.eq_of_toNat_eq
  rw [F4_nat]
  match i, hi with
  | 0, _ => rw [if_pos rfl, BitVec.toNat_ofNat]; simp only [Nat.reduceMul, Nat.reducePow]; omega
  | 1, _ => rw [if_neg (by omega)]; simp only [Nat.reduceMul, Nat.reducePow]; show _ = 0; omega
  | 2, _ => rw [if_neg (by omega)]; simp only [Nat.reduceMul, Nat.reducePow]; show _ = 0; omega
  | 3, _ => rw [if_neg (by omega)]; simp only [Nat.reduceMul, Nat.reducePow]; show _ = 0; omega
theorem small_row (n : Nat) (hn : n < 18446744073709551616) : #[Value.int .u64 (iw (BitVec.ofNat 64 n)), .int .u64 0, .int .u64 0, .int .u64 0] = r64 4 (F4 n) := by
  have e : r64 4 (F4 n) = r64 4 (fun i => if i = 0 then BitVec.ofNat 64 n else litw 64 0) := row_ext fun i hi => by rw [F4_small n hn i hi]
  rw [e]
  have z : (0 : Int) = iw (litw 64 0) := (iw_zero 64).symm
  rw [z]
  rfl
set_option maxRecDepth 100000 in
set_option maxHeartbeats 400000 in
theorem small_any (n : Nat) (w : World) (hn : n < 18446744073709551616) :
    Calls Try.prog 29 #[.int .u64 (iw (BitVec.ofNat 64 n))] w fun e w' => e = .returned (.agg (r64 4 (F4 n))) ∧ Below w.heap.size w w' := by
  have hsz : (Try.prog.info? 24).map (·.size) = some (r64 4 (F4 n)).size := by rw [row_size]; kernel_rfl
  go_enter Try.func29, Try.ntmps29
  go_wp2_with (refine wpList_store_row rfl 24 _ _ rfl w.heap.size (r64 4 (F4 n)) rfl (congrArg Value.agg (small_row n hn)) 24 _ (Blk.new w _ _) hsz (by rw [row_size]; rfl) (row_one fun _ => rfl) ?_)
  simp only [Act.put]
  exact bodyPost_ret (results_cell_row rfl _ _ w.heap.size 24 (r64 4 (F4 n)) (0, 0) _ rfl ((Blk.new w _ _).row_ _) Try.underlying24 rfl hsz) rfl ⟨rfl, below_setRow' ((Below.refl _ _).alloc (Nat.le_refl _) _) (by omega) _⟩
set_option maxRecDepth 100000 in
set_option maxHeartbeats 400000 in
theorem odd_any (a : Nat) (w : World) (ha : a < M256) :
    Calls Try.prog 25 #[.agg (r64 4 (F4 a))] w fun e w' => e = .returned (.bool (decide (a % pP % 2 = 1))) ∧ Below w.heap.size w w' := by
  have hsz : (Try.prog.info? 24).map (·.size) = some (r64 4 (F4 a)).size := by rw [row_size]; kernel_rfl
  have hx : (N8 (a % pP) 0).toNat % 2 = a % pP % 2 := by rw [N8_nat]; simp only [Nat.mul_zero, Nat.pow_zero, Nat.div_one]; omega
  have hix : ∀ w, (Instr.index 47 (.agg (r32 8 (N8 (a % pP)))) (.int .i64 0)).run Try.prog w = .ok (.int .u32 (iw (N8 (a % pP) 0))) w := fun w =>
    run_index_cell w _ 39 8 _ Try.underlying47 Try.underlying39 rfl (by kernel_rfl) _ _ 0 (by omega) (row_get _ (by omega)) _
  generalize N8 (a % pP) 0 = z at hx hix
  have hz : iw z % 2 = ((a % pP % 2 : Nat) : Int) := by rw [← hx]; unfold iw; omega
  have HZ := Lib.hid hz
  clear hx hz
  go_enter Try.func25, Try.ntmps25
  go_wp2_with (refine wpList_load_row rfl 24 _ rfl w.heap.size rfl 24 _ (0, 0) _ (Blk.new w _ _) Try.underlying24 rfl hsz ?_)
  refine (digits_any a _ ha).mono ?_
  rintro e w2 ⟨rfl, hq⟩
  have hb : Below w.heap.size w w2 := ((Below.refl _ _).alloc (Nat.le_refl _) _).trans (hq.mono (by simp))
  clear hq
  go_wp2_with fail
  go_ret
  refine ⟨?_, hb⟩
  show Ending.returned (.bool ((iw z).tmod 2 == 1)) = _
  have e : (iw z).tmod 2 = ((a % pP % 2 : Nat) : Int) := by rw [Int.tmod_eq_emod_of_nonneg (by unfold iw; omega), HZ.out]
  rw [e]
  have e2 : ((((a % pP % 2 : Nat) : Int)) == 1) = decide (a % pP % 2 = 1) := by
    rw [Bool.eq_iff_iff, beq_iff_eq, decide_eq_true_eq]; omega
  rw [e2]
end Go.Proofs.Ytjggclhhimccoaa
