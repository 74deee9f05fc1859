/- reduced of the layer scalar. -/
import Derived.Test.YtnfcgpoafmmioaaLc
namespace Go.Proofs.Ytnfcgpoafmmioaa
open Go.RowKit
/-- What is left, modulo L, of the words from k on. -/
def hiQ (n k : Nat) : Nat := n / 2 ^ (64 * k) % qL
theorem hiQ_lt (n k : Nat) : hiQ n k < qL := Nat.mod_lt _ (by decide)
theorem hiQ_zero (n : Nat) : hiQ n 0 = n % qL := by unfold hiQ; rw [Nat.mul_zero, Nat.pow_zero, Nat.div_one]
theorem hiQ_top (n a b k : Nat) (hk : k = a + b) (h : n < 2 ^ (64 * a) * 2 ^ (64 * b)) : hiQ n k = 0 := by
  subst hk; unfold hiQ; rw [Nat.div_eq_of_lt (by rw [Nat.mul_add, Nat.pow_add]; exact h)]; rfl
def midQ (n k : Nat) : Nat := (hiQ n (k + 1) * 4294967296 + (F4 n k).toNat / 4294967296) % qL
theorem midQ_lt (n k : Nat) : midQ n k < qL := Nat.mod_lt _ (by decide)
theorem mul_mod_next (x B h : Nat) : (x % qL * B + h) % qL = (x * B + h) % qL := by
  rw [Nat.add_mod, Nat.mul_mod, Nat.mod_mod, ← Nat.mul_mod, ← Nat.add_mod]
theorem midQ_next (n k : Nat) : (midQ n k * 4294967296 + (F4 n k).toNat % 4294967296) % qL = hiQ n k := by
  unfold midQ hiQ
  rw [mul_mod_next, Nat.add_mul, Nat.add_assoc]
  have e : (F4 n k).toNat / 4294967296 * 4294967296 + (F4 n k).toNat % 4294967296 = (F4 n k).toNat := by omega
  rw [e, Nat.mul_assoc, mul_mod_next, F4_nat', W64_pow, ← Nat.div_div_eq_div_mul]
  generalize n / 2 ^ (64 * k) = x
  have e2 : 4294967296 * 4294967296 = W64 := by decide
  have e3 : x / W64 * (4294967296 * 4294967296) + x % W64 = x := by rw [e2]; exact Nat.div_add_mod' x W64
  rw [e3]
theorem shr_half (x : BitVec 64) : shrw x 32 = nw (x.toNat / 4294967296) := by
  apply BitVec.eq_of_toNat_eq
  rw [shr_nat, nw_nat _ (by have := x.isLt; unfold W64; omega)]
theorem and_half (x : BitVec 64) : andw x (litw 64 4294967295) = nw (x.toNat % 4294967296) := by
  apply BitVec.eq_of_toNat_eq
  unfold andw litw
  rw [BitVec.toNat_and, show (BitVec.ofNat 64 4294967295).toNat = 2 ^ 32 - 1 by rfl, Nat.and_two_pow_sub_one_eq_mod, nw_nat _ (by have := x.isLt; unfold W64; omega)]
theorem behind_hi (n k : Nat) (w : World) : Calls Try.prog 29 #[.agg (r64 4 (F4 (hiQ n (k + 1)))), .int .u64 (iw (shrw (F4 n k) 32))] w fun e w' => e = .returned (.agg (r64 4 (F4 (midQ n k)))) ∧ Below w.heap.size w w' := by
  rw [shr_half]
  exact qbehind_any _ _ (hiQ_lt _ _) (by have := (F4 n k).isLt; omega) w
theorem behind_lo (n k : Nat) (w : World) : Calls Try.prog 29 #[.agg (r64 4 (F4 (midQ n k))), .int .u64 (iw (andw (F4 n k) (litw 64 4294967295)))] w fun e w' => e = .returned (.agg (r64 4 (F4 (hiQ n k)))) ∧ Below w.heap.size w w' := by
  rw [and_half]
  have h := qbehind_any (midQ n k) ((F4 n k).toNat % 4294967296) (midQ_lt _ _) (Nat.mod_lt _ (by decide)) w
  rw [midQ_next] at h
  exact h
/-- The blocks of reduced. -/
def rBl (g : Nat) (T1 T2 : TypeId) (f : Nat → BitVec 64) (n : Nat) : List (Nat × TypeId × Array Value) := [(g + 1, T1, r64 4 f), (g, T2, r64 8 (F4 n))]
theorem rBl_put (g : Nat) (T1 T2 : TypeId) (f f' : Nat → BitVec 64) (n : Nat) : ∀ x ∈ rBl g T1 T2 f' n, (x = (g + 1, T1, r64 4 f')) ∨ (x ∈ rBl g T1 T2 f n ∧ x.1 ≠ g + 1) := by
  intro x hx
  simp only [rBl, List.mem_cons, List.not_mem_nil, or_false] at hx
  rcases hx with rfl | rfl
  · exact .inl rfl
  · exact .inr ⟨m1, by show g ≠ _; omega⟩
abbrev RdQ (n : Nat) (f : Nat → BitVec 64) (w wr : World) : Prop := Known w.heap.size w (rBl w.heap.size 39 42 f n) wr
theorem RdQ.put {n : Nat} {f : Nat → BitVec 64} {w wr : World} (h : RdQ n f w wr) (f' : Nat → BitVec 64) : RdQ n f' w (wr.setRow (w.heap.size + 1) (r64 4 f')) :=
  Known.put h (Known.blk h _ m0) (by omega) _ _ (rBl_put _ _ _ _ _ _)
set_option maxRecDepth 100000 in
set_option maxHeartbeats 2000000 in
theorem qreduced_any (n : Nat) (hn : n < 2 ^ (64 * 4) * 2 ^ (64 * 4)) (w : World) :
    Calls Try.prog 23 #[.agg (r64 8 (F4 n))] w fun e w' => e = .returned (.agg (r64 4 (F4 (n % qL)))) ∧ Below w.heap.size w w' := by
  have HS := Lib.hid num_size
  have hal : Try.prog.arrayLen 42 = 8 := by kernel_rfl
  have HT : Hid (hiQ n 8 = 0) := Lib.hid (hiQ_top n 4 4 8 rfl hn)
  have HZ := Lib.hid (hiQ_zero n)
  have hand : ∀ x : BitVec 64, bits .and .u64 (iw x) 4294967295 = iw (andw x (litw 64 4294967295)) := fun x => and64_lit x _
  clear hn
  have K0 : RdQ n (F4 (hiQ n 8)) w ((w.alloc (.cells (r64 8 (F4 n)) 42)).alloc (.cells #[.int .u64 0, .int .u64 0, .int .u64 0, .int .u64 0] 39)) := by
    refine (((Known.begin w).add _ 42).add _ 39).cast ?_
    rw [HT.out, zero4', show r64 4 (fun _ => litw 64 0) = r64 4 (F4 0) from row_ext fun i _ => by rw [F4_zero]]; simp [rBl]
  go_enter Try.func23, Try.ntmps23
  go_wp2_with fail
  go_loopw [3] (fun i wr => ∃ k : Nat, k ≤ 8 ∧ i = .int .i64 ((k : Int) - 1) ∧ RdQ n (F4 (hiQ n k)) w wr) (fun i _ => (intOf i + 1).toNat)
  case atStart => exact ⟨8, by omega, rfl, K0⟩
  case round =>
    obtain ⟨k, hk, rfl, hr⟩ := hrel
    clear K0
    by_cases hlt : 0 < k
    · obtain ⟨j, rfl⟩ : ∃ j, k = j + 1 := ⟨k - 1, by omega⟩
      have hj8 : j < 8 := by omega
      have hl0 : (j : Int) < 8 := by omega
      have hl1 : (0 : Int) ≤ j := by omega
      have hwj : IntKind.i64.wrap (j : Int) = (j : Int) := IntWalk.i64_in _ (by omega)
      have CH := Lib.hid (behind_hi n j)
      have CO := Lib.hid (behind_lo n j)
      rw [show ((j + 1 : Nat) : Int) - 1 = (j : Int) by omega]
      generalize hiQ n (j + 1) = r0 at hr CH
      generalize midQ n j = r1 at CH CO
      generalize hR2 : hiQ n j = r2 at CO
      have HR2 := Lib.hid hR2
      clear hR2 hk hlt
      go_wp2_with fail
      refine wp_region_anyL (Two 6 1000 fun f1 _ wx => RdQ n (if f1 then F4 r1 else F4 r0) w wx) (by kernel_rfl) hr.drew ?_
      refine anyL_take (i := 0) (v := .agg (r64 4 (F4 r0))) rfl (by kernel_rfl) (by kernel_rfl) (by kernel_rfl) (yl_ahead (n := 9) (by decide) (by decide) (by kernel_rfl) rfl (fun f2 wx hT => ?_)) ?_
      · exact lands_num _ rfl _ rfl _ (Known.blk hT _ m0) hT
      simp only [Act.put, List.setIfInBounds_toArray, List.set_cons_zero, List.set_cons_succ]
      refine anyL_take (i := 1) (v := ?_) rfl (by kernel_rfl) (by kernel_rfl) (by kernel_rfl) (yl_other (by decide) (by decide) rfl (fun f1 f2 wx hT => ?_)) ?_; rotate_left
      · refine lands_value (w := wx) ?_ hT; go_simp <;> rfl
      simp only [Act.put, List.setIfInBounds_toArray, List.set_cons_zero, List.set_cons_succ]
      refine anyL_take (i := 2) (v := ?_) rfl (by kernel_rfl) (by kernel_rfl) (by kernel_rfl) (yl_other (by decide) (by decide) rfl (fun f1 f2 wx hT => ?_)) ?_; rotate_left
      · refine lands_value (w := wx) ?_ hT; go_simp <;> rfl
      simp only [Act.put, List.setIfInBounds_toArray, List.set_cons_zero, List.set_cons_succ]
      refine anyL_take (i := 3) (v := .int .u64 (iw (F4 n j))) rfl (by kernel_rfl) (by kernel_rfl) (by kernel_rfl) (yl_other (by decide) (by decide) rfl (fun f1 f2 wx hT => ?_)) ?_
      · have c0 := (Known.blk hT _ m1).at_ hj8; refine lands_value (w := wx) ?_ hT; go_simp
      simp only [Act.put, List.setIfInBounds_toArray, List.set_cons_zero, List.set_cons_succ]
      refine anyL_take (i := 4) (v := ?_) rfl (by kernel_rfl) (by kernel_rfl) (by kernel_rfl) (yl_other (by decide) (by decide) rfl (fun f1 f2 wx hT => ?_)) ?_; rotate_left
      · refine lands_value (w := wx) ?_ hT; go_simp <;> rfl
      simp only [Act.put, List.setIfInBounds_toArray, List.set_cons_zero, List.set_cons_succ]
      refine anyL_take (i := 5) (v := .agg (r64 4 (F4 r1))) rfl (by kernel_rfl) (by kernel_rfl) (by kernel_rfl) (yl_other (by decide) (by decide) rfl (fun f1 f2 wx hT => ?_)) ?_
      · exact lands_calls (w := wx) ((CH.out wx).mono fun _ _ ⟨he, hb⟩ => ⟨he, Known.below hT hb⟩) (by go_simp)
      simp only [Act.put, List.setIfInBounds_toArray, List.set_cons_zero, List.set_cons_succ]
      refine anyL_take (i := 6) (v := undef) rfl (by kernel_rfl) (by kernel_rfl) (by kernel_rfl) (yl_first (by decide) rfl (fun f2 wx hT => ?_)) ?_
      · exact stores_num _ _ rfl (w.heap.size + 1) _ _ rfl rfl (Known.blk hT _ m0) (RdQ.put hT _)
      simp only [Act.put]
      refine anyL_done (by kernel_rfl) (fun w3 (K : RdQ n (F4 r1) w w3) => ?_) _
      clear hr CH
      go_wp2_with fail
      refine wp_region_anyL (Two 6 1000 fun f1 _ wx => RdQ n (if f1 then F4 r2 else F4 r1) w wx) (by kernel_rfl) (Known.drew K) ?_
      refine anyL_take (i := 0) (v := .agg (r64 4 (F4 r1))) rfl (by kernel_rfl) (by kernel_rfl) (by kernel_rfl) (yl_ahead (n := 9) (by decide) (by decide) (by kernel_rfl) rfl (fun f2 wx hT => ?_)) ?_
      · exact lands_num _ rfl _ rfl _ (Known.blk hT _ m0) hT
      simp only [Act.put, List.setIfInBounds_toArray, List.set_cons_zero, List.set_cons_succ]
      refine anyL_take (i := 1) (v := ?_) rfl (by kernel_rfl) (by kernel_rfl) (by kernel_rfl) (yl_other (by decide) (by decide) rfl (fun f1 f2 wx hT => ?_)) ?_; rotate_left
      · refine lands_value (w := wx) ?_ hT; go_simp <;> rfl
      simp only [Act.put, List.setIfInBounds_toArray, List.set_cons_zero, List.set_cons_succ]
      refine anyL_take (i := 2) (v := ?_) rfl (by kernel_rfl) (by kernel_rfl) (by kernel_rfl) (yl_other (by decide) (by decide) rfl (fun f1 f2 wx hT => ?_)) ?_; rotate_left
      · refine lands_value (w := wx) ?_ hT; go_simp <;> rfl
      simp only [Act.put, List.setIfInBounds_toArray, List.set_cons_zero, List.set_cons_succ]
      refine anyL_take (i := 3) (v := .int .u64 (iw (F4 n j))) rfl (by kernel_rfl) (by kernel_rfl) (by kernel_rfl) (yl_other (by decide) (by decide) rfl (fun f1 f2 wx hT => ?_)) ?_
      · have c0 := (Known.blk hT _ m1).at_ hj8; refine lands_value (w := wx) ?_ hT; go_simp
      simp only [Act.put, List.setIfInBounds_toArray, List.set_cons_zero, List.set_cons_succ]
      refine anyL_take (i := 4) (v := ?_) rfl (by kernel_rfl) (by kernel_rfl) (by kernel_rfl) (yl_other (by decide) (by decide) rfl (fun f1 f2 wx hT => ?_)) ?_; rotate_left
      · refine lands_value (w := wx) ?_ hT; go_simp <;> rfl
      simp only [Act.put, List.setIfInBounds_toArray, List.set_cons_zero, List.set_cons_succ]
      refine anyL_take (i := 5) (v := .agg (r64 4 (F4 r2))) rfl (by kernel_rfl) (by kernel_rfl) (by kernel_rfl) (yl_other (by decide) (by decide) rfl (fun f1 f2 wx hT => ?_)) ?_
      · exact lands_calls (w := wx) ((CO.out wx).mono fun _ _ ⟨he, hb⟩ => ⟨he, Known.below hT hb⟩) (by go_simp)
      simp only [Act.put, List.setIfInBounds_toArray, List.set_cons_zero, List.set_cons_succ]
      refine anyL_take (i := 6) (v := undef) rfl (by kernel_rfl) (by kernel_rfl) (by kernel_rfl) (yl_first (by decide) rfl (fun f2 wx hT => ?_)) ?_
      · exact stores_num _ _ rfl (w.heap.size + 1) _ _ rfl rfl (Known.blk hT _ m0) (RdQ.put hT _)
      simp only [Act.put]
      refine anyL_done (by kernel_rfl) (fun w4 (K2 : RdQ n (F4 r2) w w4) => ?_) _
      clear K CO hand
      go_wp2_with fail
      go_roundw
      case rel => exact ⟨j, by omega, by go_num, by rw [HR2.out]; exact K2⟩
      case measure => simp [intOf]
    · obtain rfl : k = 0 := by omega
      rw [HZ.out] at hr
      generalize hR : n % qL = r at hr
      have HZ2 := Lib.hid hR
      clear hR
      rw [show ((0 : Nat) : Int) - 1 = -1 by rfl]
      clear hlt hk
      go_wp2_with (first
        | (refine wpList_load_row rfl 39 _ rfl (w.heap.size + 1) rfl 39 _ (0, 0) _ (Known.blk hr _ m0) Try.underlying39 rfl (HS.out _) ?_)
        | (refine wpList_store_row rfl 39 _ _ rfl (w.heap.size + 1) (r64 4 (F4 r)) rfl rfl 39 _ (Known.blk hr _ m0) (HS.out _) (by simp only [row_size]) (row_one fun _ => rfl) ?_))
      exact bodyPost_ret (results_cell_row rfl _ _ (w.heap.size + 1) 39 (r64 4 (F4 r)) (0, 0) _ rfl ((Known.blk hr _ m0).row_ _) Try.underlying39 rfl (HS.out _)) rfl ⟨by rw [HZ2.out], below_setRow' (Known.b hr) (by omega) _⟩
end Go.Proofs.Ytnfcgpoafmmioaa
