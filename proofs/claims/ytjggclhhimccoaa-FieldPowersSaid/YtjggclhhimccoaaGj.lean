/- Small, Odd, timesSquare, half, rootOfMinusOne of the layer field. -/
import Derived.Test.YtjggclhhimccoaaGi
namespace Go.Proofs.Ytjggclhhimccoaa
open Go.RowKit
theorem built1 (v : BitVec 64) : Try.prog.built 24 [(0, .int .u64 (iw v))] = some #[.int .u64 (iw v), .int .u64 0, .int .u64 0, .int .u64 0] := by kernel_rfl
theorem row1 (v : BitVec 64) : #[Value.int .u64 (iw v), .int .u64 0, .int .u64 0, .int .u64 0] = r64 4 (F4 v.toNat) := by
  rw [lit0w]
  exact row4 _ _ _ _ _ (F4_word v).symm (F4_word' v 0).symm (F4_word' v 1).symm (F4_word' v 2).symm
theorem fsmall_any (v : BitVec 64) (w : World) :
    Calls Try.prog 28 #[.int .u64 (iw v)] w fun e w' => e = .returned (.agg (r64 4 (F4 v.toNat))) ∧ Below w.heap.size w w' := by
  have HS := Lib.hid fe_size
  have R := Lib.hid (row1 v)
  have hb := built1 v
  have Z0 : Blk (w.alloc (.cells #[.int .u64 0, .int .u64 0, .int .u64 0, .int .u64 0] 24)) w.heap.size 24 (r64 4 fun _ => litw 64 0) := (Blk.new w _ _).cast_ zero4'
  go_enter Try.func28, Try.ntmps28
  go_wp2_with (refine wpList_store_row rfl 24 _ _ rfl w.heap.size (r64 4 (F4 v.toNat)) rfl (congrArg Value.agg R.out) 24 _ Z0 (HS.out _) (by simp only [row_size]) (row_one fun _ => rfl) ?_)
  simp only [Act.put]
  exact bodyPost_ret (results_cell_row rfl _ _ w.heap.size 24 (r64 4 (F4 v.toNat)) (0, 0) _ rfl (Z0.row_ _) Try.underlying24 rfl (HS.out _)) rfl ⟨rfl, below_setRow' ((Below.refl _ _).alloc (Nat.le_refl _) _) (by omega) _⟩
theorem fsmall_lit (v : BitVec 64) (n : Int) (m : Nat) (hn : Value.int .u64 n = .int .u64 (iw v)) (hm : v.toNat = m) (w : World) :
    Calls Try.prog 28 #[.int .u64 n] w fun e w' => e = .returned (.agg (r64 4 (F4 m))) ∧ Below w.heap.size w w' := by
  rw [hn, ← hm]; exact fsmall_any v w
theorem fsmall1 (w : World) : Calls Try.prog 28 #[.int .u64 1] w fun e w' => e = .returned (.agg (r64 4 (F4 1))) ∧ Below w.heap.size w w' := fsmall_lit (litw 64 1) 1 1 (by kernel_rfl) (by unfold litw; rfl) w
theorem fsmall2 (w : World) : Calls Try.prog 28 #[.int .u64 2] w fun e w' => e = .returned (.agg (r64 4 (F4 2))) ∧ Below w.heap.size w w' := fsmall_lit (litw 64 2) 2 2 (by kernel_rfl) (by unfold litw; rfl) w
theorem fsmall4 (w : World) : Calls Try.prog 28 #[.int .u64 4] w fun e w' => e = .returned (.agg (r64 4 (F4 4))) ∧ Below w.heap.size w w' := fsmall_lit (litw 64 4) 4 4 (by kernel_rfl) (by unfold litw; rfl) w
theorem and_one (n : Nat) : bits .and .u64 (iw (F4 n 0)) 1 = ((n % 2 : Nat) : Int) := by
  have h := and64_lit (F4 n 0) 1
  rw [show (1 : Int) = @OfNat.ofNat Int 1 instOfNat from rfl, h]
  unfold iw andw litw
  rw [BitVec.toNat_and, show (BitVec.ofNat 64 1).toNat = 2 ^ 1 - 1 by rfl, Nat.and_two_pow_sub_one_eq_mod, F4_nat]
  simp only [Nat.mul_zero, Nat.pow_zero, Nat.div_one]
  omega
def oddB (n : Nat) : Bool := decide (n % 2 = 1)
set_option maxHeartbeats 1000000 in
theorem fodd_any (a : Nat) (w : World) (ha : a < M256) :
    Calls Try.prog 24 #[.agg (r64 4 (F4 a))] w fun e w' => e = .returned (.bool (oddB (a % pP))) ∧ Below w.heap.size w w' := by
  have HS := Lib.hid fe_size
  have W0 : Blk (w.alloc (.cells (r64 4 (F4 a)) 24)) w.heap.size 24 (r64 4 (F4 a)) := Blk.new w _ _
  have hix : ∀ w, (Instr.index 24 (.agg (r64 4 (F4 (a % pP)))) (.int .i64 0)).run Try.prog w = .ok (.int .u64 (iw (F4 (a % pP) 0))) w := fun w => run_index4 (F4 (a % pP)) 0 (by omega) w
  have hand := and_one (a % pP)
  by_cases hc : a % pP % 2 = 1
  all_goals
    have HB : Hid (oddB (a % pP) = decide (a % pP % 2 = 1)) := Lib.hid rfl
    first
      | rw [decide_eq_true hc] at HB
      | rw [decide_eq_false hc] at HB
    have hand2 : bits .and .u64 (iw (F4 (a % pP) 0)) 1 = (if a % pP % 2 = 1 then 1 else 0) := by rw [hand]; split <;> omega
    clear hand
    first
      | rw [if_pos hc] at hand2
      | rw [if_neg hc] at hand2
    clear hc
    go_enter Try.func24, Try.ntmps24
    go_wp2_with (refine wpList_load_row rfl 24 _ rfl w.heap.size rfl 24 _ (0, 0) _ W0 Try.underlying24 rfl (HS.out _) ?_)
    refine (reduced_any a _ ha).mono ?_
    rintro e w2 ⟨rfl, hq⟩
    go_wp2_with fail
    go_ret
    exact ⟨by rw [HB.out]; rfl, ((Below.refl _ _).alloc (Nat.le_refl _) _).trans (hq.mono (by simp))⟩
/-- The number whose square is -1. -/
def iR : Nat := 19681161376707505956807079304988542015446066515923890162744021073123829784752
theorem fminus_any (w : World) :
    Calls Try.prog 50 #[] w fun e w' => e = .returned (.agg (r64 4 (F4 iR))) ∧ Below w.heap.size w w' := by
  have HS := Lib.hid fe_size
  go_enter Try.func50, Try.ntmps50
  go_wp2_with (refine wpList_store_row rfl 24 _ _ rfl w.heap.size (r64 4 (F4 iR)) rfl (by kernel_rfl) 24 _ (Blk.new w _ _) (HS.out _) (by rw [row_size]; rfl) (row_one fun _ => rfl) ?_)
  simp only [Act.put]
  exact bodyPost_ret (results_cell_row rfl _ _ w.heap.size 24 (r64 4 (F4 iR)) (0, 0) _ rfl ((Blk.new w _ _).row_ _) Try.underlying24 rfl (HS.out _)) rfl ⟨rfl, below_setRow' ((Below.refl _ _).alloc (Nat.le_refl _) _) (by omega) _⟩
set_option maxRecDepth 100000 in
set_option maxHeartbeats 1000000 in
theorem tsq_any (a b : Nat) (w : World) (ha : a < M256) (hb : b < M256) :
    Calls Try.prog 49 #[.agg (r64 4 (F4 a)), .agg (r64 4 (F4 b))] w fun e w' => e = .returned (.agg (r64 4 (F4 (a * (b * b % pP) % pP)))) ∧ Below w.heap.size w w' := by
  have L0 := L3.start a b w
  have HS := Lib.hid fe_size
  go_enter Try.func49, Try.ntmps49
  go_wp2_with fail
  refine wp_gen (L3 a b w) L0 (fun w1 h1 => ?_)
  clear L0
  refine wp_region_anyL (Two 5 1000 fun f1 _ wx => L3r a b (onceF f1 (a * (b * b % pP) % pP)) w wx) (by kernel_rfl) ⟨h1.da, h1.db, h1.r, h1.l.drew⟩ ?_
  refine anyL_take (i := 0) (v := .agg (r64 4 (F4 a))) rfl (by kernel_rfl) (by kernel_rfl) (by kernel_rfl) (yl_other (by decide) (by decide) rfl (fun f1 f2 wx hT => ?_)) ?_
  · exact lands_fe _ rfl _ rfl _ hT.da hT
  simp only [Act.put, List.setIfInBounds_toArray, List.set_cons_zero, List.set_cons_succ]
  refine anyL_take (i := 1) (v := .agg (r64 4 (F4 b))) rfl (by kernel_rfl) (by kernel_rfl) (by kernel_rfl) (yl_other (by decide) (by decide) rfl (fun f1 f2 wx hT => ?_)) ?_
  · exact lands_fe _ rfl _ rfl _ hT.db hT
  simp only [Act.put, List.setIfInBounds_toArray, List.set_cons_zero, List.set_cons_succ]
  refine anyL_take (i := 2) (v := .agg (r64 4 (F4 b))) rfl (by kernel_rfl) (by kernel_rfl) (by kernel_rfl) (yl_other (by decide) (by decide) rfl (fun f1 f2 wx hT => ?_)) ?_
  · exact lands_fe _ rfl _ rfl _ hT.db hT
  simp only [Act.put, List.setIfInBounds_toArray, List.set_cons_zero, List.set_cons_succ]
  refine anyL_take (i := 3) (v := .agg (r64 4 (F4 (b * b % pP)))) rfl (by kernel_rfl) (by kernel_rfl) (by kernel_rfl) (yl_other (by decide) (by decide) rfl (fun f1 f2 wx hT => ?_)) ?_
  · exact lands_calls (w := wx) ((fmul_any b b wx hb hb).mono fun _ _ ⟨he, hb⟩ => ⟨he, hT.below hb⟩) (by go_simp)
  simp only [Act.put, List.setIfInBounds_toArray, List.set_cons_zero, List.set_cons_succ]
  refine anyL_take (i := 4) (v := .agg (r64 4 (F4 (a * (b * b % pP) % pP)))) rfl (by kernel_rfl) (by kernel_rfl) (by kernel_rfl) (yl_other (by decide) (by decide) rfl (fun f1 f2 wx hT => ?_)) ?_
  · exact lands_calls (w := wx) ((fmul_any a (b * b % pP) wx ha (mod_lt_M _)).mono fun _ _ ⟨he, hb⟩ => ⟨he, hT.below hb⟩) (by go_simp)
  simp only [Act.put, List.setIfInBounds_toArray, List.set_cons_zero, List.set_cons_succ]
  refine anyL_take (i := 5) (v := undef) rfl (by kernel_rfl) (by kernel_rfl) (by kernel_rfl) (yl_first (by decide) rfl (fun f2 wx hT => ?_)) ?_
  · exact stores_fe _ _ rfl (w.heap.size + 2) _ _ rfl rfl hT.r (hT.put _)
  simp only [Act.put]
  refine anyL_done (by kernel_rfl) (fun w3 (K : L3r a b (onceF true (a * (b * b % pP) % pP)) w w3) => ?_) _
  go_wp2_with fail
  exact bodyPost_ret (results_cell_row rfl _ _ (w.heap.size + 2) 24 (r64 4 (F4 (a * (b * b % pP) % pP))) (0, 0) _ rfl K.r Try.underlying24 rfl (HS.out _)) rfl ⟨rfl, K.l⟩
/-! half -/
theorem half_word (e k : Nat) : orw (shrw (F4 e k) 1) (shlw (F4 e (k + 1)) 63) = F4 (e / 2) k := by
  apply BitVec.eq_of_toNat_eq
  unfold orw shrw shlw
  rw [BitVec.toNat_or, BitVec.toNat_ushiftRight, BitVec.toNat_shiftLeft, Nat.shiftRight_eq_div_pow, Nat.shiftLeft_eq, F4_nat, F4_nat, F4_nat]
  have e1 : e / 2 ^ (64 * (k + 1)) = e / 2 ^ (64 * k) / 18446744073709551616 := by rw [Nat.mul_succ, Nat.pow_add, ← Nat.div_div_eq_div_mul]
  have e2 : e / 2 / 2 ^ (64 * k) = e / 2 ^ (64 * k) / 2 := by rw [Nat.div_div_eq_div_mul, Nat.div_div_eq_div_mul, Nat.mul_comm]
  rw [e1, e2]
  generalize e / 2 ^ (64 * k) = x
  have h := Nat.two_pow_add_eq_or_of_lt (i := 63) (b := x % 18446744073709551616 / 2 ^ 1) (by omega) (x / 18446744073709551616 % 2)
  have e3 : x / 18446744073709551616 % 18446744073709551616 * 2 ^ 63 % 2 ^ 64 = 2 ^ 63 * (x / 18446744073709551616 % 2) := by omega
  rw [e3, Nat.or_comm, ← h]
  omega
theorem half_top (e : Nat) (he : e < M256) : shrw (F4 e 3) 1 = F4 (e / 2) 3 := by
  apply BitVec.eq_of_toNat_eq
  unfold shrw
  rw [BitVec.toNat_ushiftRight, Nat.shiftRight_eq_div_pow, F4_nat, F4_nat]
  unfold M256 at he
  simp only [Nat.reduceMul, Nat.reducePow]
  omega
theorem built4' (a b c d : BitVec 64) : Try.prog.built 23 [(0, .int .u64 (iw a)), (1, .int .u64 (iw b)), (2, .int .u64 (iw c)), (3, .int .u64 (iw d))] = some #[.int .u64 (iw a), .int .u64 (iw b), .int .u64 (iw c), .int .u64 (iw d)] := by kernel_rfl
theorem a4_size (f : Nat → BitVec 64) : (Try.prog.info? 23).map (·.size) = some (r64 4 f).size := by rw [row_size]; kernel_rfl
set_option maxRecDepth 100000 in
set_option maxHeartbeats 1000000 in
theorem half_any (e : Nat) (w : World) (he : e < M256) :
    Calls Try.prog 51 #[.agg (r64 4 (F4 e))] w fun e' w' => e' = .returned (.agg (r64 4 (F4 (e / 2)))) ∧ Below w.heap.size w w' := by
  have HS := Lib.hid a4_size
  have R4 := Lib.hid (row4 _ _ _ _ (F4 (e / 2)) (half_word e 0) (half_word e 1) (half_word e 2) (half_top e he))
  have W0 : Blk ((w.alloc (.cells (r64 4 (F4 e)) 23)).alloc (.cells #[.int .u64 0, .int .u64 0, .int .u64 0, .int .u64 0] 23)) w.heap.size 23 (r64 4 (F4 e)) := (Blk.new w _ _).alloc _
  have Z0 : Blk ((w.alloc (.cells (r64 4 (F4 e)) 23)).alloc (.cells #[.int .u64 0, .int .u64 0, .int .u64 0, .int .u64 0] 23)) (w.heap.size + 1) 23 (r64 4 fun _ => litw 64 0) := (Blk.new _ _ _).cast' ⟨by simp, zero4'⟩
  have c0 := W0.at_ (i := 0) (by omega)
  have c1 := W0.at_ (i := 1) (by omega)
  have c2 := W0.at_ (i := 2) (by omega)
  have c3 := W0.at_ (i := 3) (by omega)
  have hbu := built4'
  go_enter Try.func51, Try.ntmps51
  go_wp2_with (refine wpList_store_row rfl 23 _ _ rfl (w.heap.size + 1) (r64 4 (F4 (e / 2))) rfl (congrArg Value.agg R4.out) 23 _ Z0 (HS.out _) (by simp only [row_size]) (row_one fun _ => rfl) ?_)
  simp only [Act.put]
  exact bodyPost_ret (results_cell_row rfl _ _ (w.heap.size + 1) 23 (r64 4 (F4 (e / 2))) (0, 0) _ rfl (Z0.row_ _) Try.underlying23 rfl (HS.out _)) rfl ⟨rfl, below_setRow' (((Below.refl _ _).alloc (Nat.le_refl _) _).alloc (by simp) _) (by omega) _⟩
end Go.Proofs.Ytjggclhhimccoaa
