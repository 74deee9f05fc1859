/- FieldTwice: the walk. -/
import Derived.Test.YtjggclhhimccoaaGq
import Derived.IntWalk
namespace Go.Proofs.Ytjggclhhimccoaa
open Go.RowKit
theorem twice1 (a : Nat) : (a + a) % pP = 2 * a % pP := by rw [Nat.two_mul]
theorem twice2 (a : Nat) : (pP - (pP - a % pP) % pP % pP) % pP = (a + 0) % pP := by
  have h := Nat.mod_lt a (show 0 < pP by decide)
  rw [Nat.mod_mod, Nat.add_zero]
  generalize a % pP = x at *
  by_cases hx : x = 0
  · subst hx; decide
  · rw [Nat.mod_eq_of_lt (show pP - x < pP by omega), Nat.mod_eq_of_lt (show pP - (pP - x) < pP by omega)]; omega
theorem twice3 (a : Nat) : (a + (pP - a % pP) % pP) % pP = 0 := by
  have h := Nat.mod_lt a (show 0 < pP by decide)
  rw [Nat.add_mod_mod]
  have e : a + (pP - a % pP) = pP * (a / pP + 1) := by
    have := Nat.mod_add_div a pP
    rw [Nat.mul_add, Nat.mul_one]; omega
  rw [e, Nat.mul_mod_right]
theorem twice_next (i : Nat) : addP (powP 2 i) (powP 2 i) = powP 2 (i + 1) := by
  unfold addP powP
  rw [← Nat.two_mul, Nat.mul_mod_mod, Nat.pow_succ, Nat.mul_comm]
theorem row1n (n : Nat) (hn : n < W64) : #[Value.int .u64 (n : Int), .int .u64 0, .int .u64 0, .int .u64 0] = r64 4 (F4 n) := by
  have h := row1 (nw n)
  rw [nw_nat n hn] at h
  have e : iw (nw n) = (n : Int) := by unfold iw; rw [nw_nat n hn]
  rw [e] at h; exact h
theorem built1n (n : Int) : Try.prog.built 23 [(0, .int .u64 n)] = some #[.int .u64 n, .int .u64 0, .int .u64 0, .int .u64 0] := by kernel_rfl
theorem lands_num {R : World → Prop} {o : Oper} {ac : Act} {w : World} (n : Nat) (hn : n < W64) (x : Operand) (ho : o.op = .build 23 #[(0, x)]) (hx : ac.eval x = .int .u64 (n : Int)) (hR : R w) : Lands Try.prog R (.agg (r64 4 (F4 n))) ((execOp ac.eval o).run Try.prog w) := by
  rw [← row1n n hn]
  exact lands_lit 23 _ ho _ (by simpa [hx] using built1n n) hR
def oddN (b : Bool) : Nat := if b then 1 else 0
theorem oddN_beq (b : Bool) : (((oddN b : Nat) : Int) == 1) = b := by cases b <;> rfl
theorem own_low (a : Nat) : (iw (F4 (addP a 0) 0)).tmod 2 = ((oddN (oddP a) : Nat) : Int) := by
  rw [Int.tmod_eq_emod_of_nonneg (iw_lo _)]
  unfold oddN iw oddP oddB addP
  rw [F4_nat, Nat.add_zero]
  simp only [Nat.mul_zero, Nat.pow_zero, Nat.div_one]
  by_cases h : a % pP % 2 = 1
  · rw [if_pos (by simpa using h)]; omega
  · rw [if_neg (by simpa using h)]; omega
set_option maxRecDepth 100000 in
set_option maxHeartbeats 8000000 in
theorem twice_any (a n : Nat) (w : World) (ha : a < M256) (hn : n < 256) :
    Calls Try.prog 10 #[.agg (r64 4 (F4 a)), .int .u8 (n : Int)] w fun e w' => e = .returned (.bool true) ∧ Below w.heap.size w w' := by
  have HS := Lib.hid fe_size
  have E1 : Hid (addP a a = mulP 2 a) := Lib.hid (twice1 a)
  have E2 : Hid (negP (negP a) = addP a 0) := Lib.hid (twice2 a)
  have E3 : Hid (addP a (negP a) = 0) := Lib.hid (twice3 a)
  have hnM : n < M256 := Nat.lt_trans hn (by decide)
  have hnW : n < W64 := Nat.lt_trans hn (by decide)
  have hw64 : IntKind.u64.wrap (n : Int) = (n : Int) := by rw [IntKind.wrap_u64]; omega
  have L0 := KF.start1 a w
  go_enter Try.func10, Try.ntmps10
  go_wp2_with fail
  refine (examples_any _).mono ?_
  rintro e w1 ⟨rfl, hq⟩
  have h1 := L0.below hq
  clear L0 hq
  go_wp2_with fail
  refine (fsmall1 _).mono ?_
  rintro e w2 ⟨rfl, hq⟩
  have h2 := h1.below hq
  clear h1 hq
  go_wp2_with (refine wpList_store_row rfl 24 _ _ rfl w2.heap.size (r64 4 (F4 1)) rfl rfl 24 (r64 4 zF) ((Blk.new w2 _ _).cast_ zero4') (HS.out _) (by simp only [row_size]) (row_one fun _ => rfl) ?_; refine wpList_gen (KF w.heap.size w [(w2.heap.size, F4 1), (w.heap.size, F4 a)]) (h2.new _ _) (fun w3 h3 => ?_))
  have l6 : w.heap.size < w2.heap.size := h2.lt _ m0
  clear h2
  generalize w2.heap.size = g6 at h3 l6 ⊢
  have HG : Hid (∀ x ∈ [(w.heap.size, F4 a)], x.1 ≠ g6) := Lib.hid (fun x hx => by rcases List.mem_singleton.1 hx with rfl; show w.heap.size ≠ g6; omega)
  go_loopw [7] (fun i wr => ∃ k : Nat, k ≤ n ∧ i = .int .i64 (k : Int) ∧ KF w.heap.size w [(g6, F4 (powP 2 k)), (w.heap.size, F4 a)] wr) (fun i _ => n - (intOf i).toNat)
  case atStart => exact ⟨0, by omega, rfl, h3⟩
  case round =>
    obtain ⟨k, hk, rfl, hr⟩ := hrel
    clear h3
    by_cases hlt : k < n
    · go_wp2_with (refine wpList_load_row rfl 24 _ rfl (g6) rfl 24 _ (0, 0) _ (hr.blk _ m0) Try.underlying24 rfl (HS.out _) ?_)
      refine (faddP (powP 2 k) (powP 2 k) _ (powP_lt _ _) (powP_lt _ _)).mono ?_
      rw [twice_next]
      rintro e w4 ⟨rfl, hq⟩
      have h4 := hr.below hq
      clear hr hq
      go_wp2_with (refine wpList_store_row rfl 24 _ _ rfl g6 (r64 4 (F4 (powP 2 (k + 1)))) rfl rfl 24 _ (h4.blk _ m0) (HS.out _) (by simp only [row_size]) (row_one fun _ => rfl) ?_; refine wpList_gen (KF w.heap.size w [(g6, F4 (powP 2 (k + 1))), (w.heap.size, F4 a)]) (h4.put0 (by omega) HG.out _) (fun w5 h5 => ?_))
      go_roundw
      case rel => exact ⟨k + 1, by omega, by go_num, h5⟩
      case measure => simp [intOf]; omega
    · obtain rfl : k = n := by omega
      clear hlt hk
      go_wp2_with (first
        | (refine wpList_load_row rfl 24 _ rfl (w.heap.size) rfl 24 _ (0, 0) _ (hr.blk _ m1) Try.underlying24 rfl (HS.out _) ?_)
        | (refine wpList_val (R := fun w' => w' = _) (.agg (r64 4 (F4 0))) rfl (lands_zero rfl rfl) ?_; rintro _ rfl))
      refine (faddP a 0 _ ha (by decide)).mono ?_
      rintro e w6 ⟨rfl, hq⟩
      have h6 := hr.below hq
      clear hr hq
      go_wp2_with (refine wpList_store_row rfl 24 _ _ rfl w6.heap.size (r64 4 (F4 (addP a 0))) rfl rfl 24 (r64 4 zF) ((Blk.new w6 _ _).cast_ zero4') (HS.out _) (by simp only [row_size]) (row_one fun _ => rfl) ?_; refine wpList_gen (KF w.heap.size w [(w6.heap.size, F4 (addP a 0)), (g6, F4 (powP 2 k)), (w.heap.size, F4 a)]) (h6.new _ _) (fun w7 h7 => ?_))
      clear h6
      generalize w6.heap.size = g8 at h7 ⊢
      refine wp_region_anyL (Two 1000 1001 fun _ _ wx => KF w.heap.size w [(g8, F4 (addP a 0)), (g6, F4 (powP 2 k)), (w.heap.size, F4 a)] wx) (by kernel_rfl) h7.drew ?_
      refine anyL_take (i := 0) (v := ?_) rfl (by kernel_rfl) (by kernel_rfl) (by kernel_rfl) (yl_other (by decide) (by decide) rfl (fun f1 f2 wx hT => ?_)) ?_; rotate_left
      · refine lands_value (w := wx) ?_ hT; go_simp <;> rfl
      simp only [Act.put, List.setIfInBounds_toArray, List.set_cons_zero, List.set_cons_succ]
      refine anyL_take (i := 1) (v := ?_) rfl (by kernel_rfl) (by kernel_rfl) (by kernel_rfl) (yl_other (by decide) (by decide) rfl (fun f1 f2 wx hT => ?_)) ?_; rotate_left
      · refine lands_value (w := wx) ?_ hT; go_simp <;> rfl
      simp only [Act.put, List.setIfInBounds_toArray, List.set_cons_zero, List.set_cons_succ]
      refine anyL_take (i := 2) (v := .agg (r64 4 (F4 a))) rfl (by kernel_rfl) (by kernel_rfl) (by kernel_rfl) (yl_other (by decide) (by decide) rfl (fun f1 f2 wx hT => ?_)) ?_
      · exact lands_fe _ rfl _ rfl _ (hT.blk _ m2) hT
      simp only [Act.put, List.setIfInBounds_toArray, List.set_cons_zero, List.set_cons_succ]
      refine anyL_take (i := 3) (v := .agg (r64 4 (F4 a))) rfl (by kernel_rfl) (by kernel_rfl) (by kernel_rfl) (yl_other (by decide) (by decide) rfl (fun f1 f2 wx hT => ?_)) ?_
      · exact lands_fe _ rfl _ rfl _ (hT.blk _ m2) hT
      simp only [Act.put, List.setIfInBounds_toArray, List.set_cons_zero, List.set_cons_succ]
      refine anyL_take (i := 4) (v := .agg (r64 4 (F4 (addP a a)))) rfl (by kernel_rfl) (by kernel_rfl) (by kernel_rfl) (yl_other (by decide) (by decide) rfl (fun f1 f2 wx hT => ?_)) ?_
      · exact lands_calls (w := wx) ((faddP a a wx ha ha).mono fun _ _ ⟨he, hb⟩ => ⟨he, hT.below hb⟩) (by go_simp)
      simp only [Act.put, List.setIfInBounds_toArray, List.set_cons_zero, List.set_cons_succ]
      refine anyL_take (i := 5) (v := .agg (r64 4 (F4 2))) rfl (by kernel_rfl) (by kernel_rfl) (by kernel_rfl) (yl_other (by decide) (by decide) rfl (fun f1 f2 wx hT => ?_)) ?_
      · exact lands_calls (w := wx) ((fsmall2 wx).mono fun _ _ ⟨he, hb⟩ => ⟨he, hT.below hb⟩) (by go_simp)
      simp only [Act.put, List.setIfInBounds_toArray, List.set_cons_zero, List.set_cons_succ]
      refine anyL_take (i := 6) (v := .agg (r64 4 (F4 a))) rfl (by kernel_rfl) (by kernel_rfl) (by kernel_rfl) (yl_other (by decide) (by decide) rfl (fun f1 f2 wx hT => ?_)) ?_
      · exact lands_fe _ rfl _ rfl _ (hT.blk _ m2) hT
      simp only [Act.put, List.setIfInBounds_toArray, List.set_cons_zero, List.set_cons_succ]
      refine anyL_take (i := 7) (v := .agg (r64 4 (F4 (mulP 2 a)))) rfl (by kernel_rfl) (by kernel_rfl) (by kernel_rfl) (yl_other (by decide) (by decide) rfl (fun f1 f2 wx hT => ?_)) ?_
      · exact lands_calls (w := wx) ((fmulP 2 a wx (by decide) ha).mono fun _ _ ⟨he, hb⟩ => ⟨he, hT.below hb⟩) (by go_simp)
      simp only [Act.put, List.setIfInBounds_toArray, List.set_cons_zero, List.set_cons_succ]
      refine anyL_take (i := 8) (v := .bool true) rfl (by kernel_rfl) (by kernel_rfl) (by kernel_rfl) (yl_other (by decide) (by decide) rfl (fun f1 f2 wx hT => ?_)) ?_
      · exact lands_eql _ _ rfl (addP a a) (mulP 2 a) rfl rfl (addP_lt _ _) (mulP_lt _ _) true (decide_eq_true (E1.out)) hT
      simp only [Act.put, List.setIfInBounds_toArray, List.set_cons_zero, List.set_cons_succ]
      refine anyL_take (i := 9) (v := ?_) rfl (by kernel_rfl) (by kernel_rfl) (by kernel_rfl) (yl_other (by decide) (by decide) rfl (fun f1 f2 wx hT => ?_)) ?_; rotate_left
      · refine lands_value (w := wx) ?_ hT; go_simp <;> rfl
      simp only [Act.put, List.setIfInBounds_toArray, List.set_cons_zero, List.set_cons_succ]
      refine anyL_take (i := 10) (v := ?_) rfl (by kernel_rfl) (by kernel_rfl) (by kernel_rfl) (yl_other (by decide) (by decide) rfl (fun f1 f2 wx hT => ?_)) ?_; rotate_left
      · refine lands_value (w := wx) ?_ hT; go_simp <;> rfl
      simp only [Act.put, List.setIfInBounds_toArray, List.set_cons_zero, List.set_cons_succ]
      refine anyL_take (i := 11) (v := .agg (r64 4 (F4 a))) rfl (by kernel_rfl) (by kernel_rfl) (by kernel_rfl) (yl_other (by decide) (by decide) rfl (fun f1 f2 wx hT => ?_)) ?_
      · exact lands_fe _ rfl _ rfl _ (hT.blk _ m2) hT
      simp only [Act.put, List.setIfInBounds_toArray, List.set_cons_zero, List.set_cons_succ]
      refine anyL_take (i := 12) (v := .agg (r64 4 (F4 (negP a)))) rfl (by kernel_rfl) (by kernel_rfl) (by kernel_rfl) (yl_other (by decide) (by decide) rfl (fun f1 f2 wx hT => ?_)) ?_
      · exact lands_calls (w := wx) ((fnegP a wx ha).mono fun _ _ ⟨he, hb⟩ => ⟨he, hT.below hb⟩) (by go_simp)
      simp only [Act.put, List.setIfInBounds_toArray, List.set_cons_zero, List.set_cons_succ]
      refine anyL_take (i := 13) (v := .agg (r64 4 (F4 (negP (negP a))))) rfl (by kernel_rfl) (by kernel_rfl) (by kernel_rfl) (yl_other (by decide) (by decide) rfl (fun f1 f2 wx hT => ?_)) ?_
      · exact lands_calls (w := wx) ((fnegP (negP a) wx (negP_lt _)).mono fun _ _ ⟨he, hb⟩ => ⟨he, hT.below hb⟩) (by go_simp)
      simp only [Act.put, List.setIfInBounds_toArray, List.set_cons_zero, List.set_cons_succ]
      refine anyL_take (i := 14) (v := .agg (r64 4 (F4 (addP a 0)))) rfl (by kernel_rfl) (by kernel_rfl) (by kernel_rfl) (yl_other (by decide) (by decide) rfl (fun f1 f2 wx hT => ?_)) ?_
      · exact lands_fe _ rfl _ rfl _ (hT.blk _ m0) hT
      simp only [Act.put, List.setIfInBounds_toArray, List.set_cons_zero, List.set_cons_succ]
      refine anyL_take (i := 15) (v := .bool true) rfl (by kernel_rfl) (by kernel_rfl) (by kernel_rfl) (yl_other (by decide) (by decide) rfl (fun f1 f2 wx hT => ?_)) ?_
      · exact lands_eql _ _ rfl (negP (negP a)) (addP a 0) rfl rfl (negP_lt _) (addP_lt _ _) true (decide_eq_true (E2.out)) hT
      simp only [Act.put, List.setIfInBounds_toArray, List.set_cons_zero, List.set_cons_succ]
      refine anyL_take (i := 16) (v := ?_) rfl (by kernel_rfl) (by kernel_rfl) (by kernel_rfl) (yl_other (by decide) (by decide) rfl (fun f1 f2 wx hT => ?_)) ?_; rotate_left
      · refine lands_value (w := wx) ?_ hT; go_simp <;> rfl
      simp only [Act.put, List.setIfInBounds_toArray, List.set_cons_zero, List.set_cons_succ]
      refine anyL_take (i := 17) (v := ?_) rfl (by kernel_rfl) (by kernel_rfl) (by kernel_rfl) (yl_other (by decide) (by decide) rfl (fun f1 f2 wx hT => ?_)) ?_; rotate_left
      · refine lands_value (w := wx) ?_ hT; go_simp <;> rfl
      simp only [Act.put, List.setIfInBounds_toArray, List.set_cons_zero, List.set_cons_succ]
      refine anyL_take (i := 18) (v := .agg (r64 4 (F4 a))) rfl (by kernel_rfl) (by kernel_rfl) (by kernel_rfl) (yl_other (by decide) (by decide) rfl (fun f1 f2 wx hT => ?_)) ?_
      · exact lands_fe _ rfl _ rfl _ (hT.blk _ m2) hT
      simp only [Act.put, List.setIfInBounds_toArray, List.set_cons_zero, List.set_cons_succ]
      refine anyL_take (i := 19) (v := .agg (r64 4 (F4 a))) rfl (by kernel_rfl) (by kernel_rfl) (by kernel_rfl) (yl_other (by decide) (by decide) rfl (fun f1 f2 wx hT => ?_)) ?_
      · exact lands_fe _ rfl _ rfl _ (hT.blk _ m2) hT
      simp only [Act.put, List.setIfInBounds_toArray, List.set_cons_zero, List.set_cons_succ]
      refine anyL_take (i := 20) (v := .agg (r64 4 (F4 (negP a)))) rfl (by kernel_rfl) (by kernel_rfl) (by kernel_rfl) (yl_other (by decide) (by decide) rfl (fun f1 f2 wx hT => ?_)) ?_
      · exact lands_calls (w := wx) ((fnegP a wx ha).mono fun _ _ ⟨he, hb⟩ => ⟨he, hT.below hb⟩) (by go_simp)
      simp only [Act.put, List.setIfInBounds_toArray, List.set_cons_zero, List.set_cons_succ]
      refine anyL_take (i := 21) (v := .agg (r64 4 (F4 (addP a (negP a))))) rfl (by kernel_rfl) (by kernel_rfl) (by kernel_rfl) (yl_other (by decide) (by decide) rfl (fun f1 f2 wx hT => ?_)) ?_
      · exact lands_calls (w := wx) ((faddP a (negP a) wx ha (negP_lt _)).mono fun _ _ ⟨he, hb⟩ => ⟨he, hT.below hb⟩) (by go_simp)
      simp only [Act.put, List.setIfInBounds_toArray, List.set_cons_zero, List.set_cons_succ]
      refine anyL_take (i := 22) (v := .agg (r64 4 (F4 0))) rfl (by kernel_rfl) (by kernel_rfl) (by kernel_rfl) (yl_other (by decide) (by decide) rfl (fun f1 f2 wx hT => ?_)) ?_
      · exact lands_zero rfl hT
      simp only [Act.put, List.setIfInBounds_toArray, List.set_cons_zero, List.set_cons_succ]
      refine anyL_take (i := 23) (v := .bool true) rfl (by kernel_rfl) (by kernel_rfl) (by kernel_rfl) (yl_other (by decide) (by decide) rfl (fun f1 f2 wx hT => ?_)) ?_
      · exact lands_eql _ _ rfl (addP a (negP a)) 0 rfl rfl (addP_lt _ _) (by decide) true (decide_eq_true (E3.out)) hT
      simp only [Act.put, List.setIfInBounds_toArray, List.set_cons_zero, List.set_cons_succ]
      refine anyL_take (i := 24) (v := ?_) rfl (by kernel_rfl) (by kernel_rfl) (by kernel_rfl) (yl_other (by decide) (by decide) rfl (fun f1 f2 wx hT => ?_)) ?_; rotate_left
      · refine lands_value (w := wx) ?_ hT; go_simp <;> rfl
      simp only [Act.put, List.setIfInBounds_toArray, List.set_cons_zero, List.set_cons_succ]
      refine anyL_take (i := 25) (v := ?_) rfl (by kernel_rfl) (by kernel_rfl) (by kernel_rfl) (yl_other (by decide) (by decide) rfl (fun f1 f2 wx hT => ?_)) ?_; rotate_left
      · refine lands_value (w := wx) ?_ hT; go_simp <;> rfl
      simp only [Act.put, List.setIfInBounds_toArray, List.set_cons_zero, List.set_cons_succ]
      refine anyL_take (i := 26) (v := .agg (r64 4 (F4 (powP 2 k)))) rfl (by kernel_rfl) (by kernel_rfl) (by kernel_rfl) (yl_other (by decide) (by decide) rfl (fun f1 f2 wx hT => ?_)) ?_
      · exact lands_fe _ rfl _ rfl _ (hT.blk _ m1) hT
      simp only [Act.put, List.setIfInBounds_toArray, List.set_cons_zero, List.set_cons_succ]
      refine anyL_take (i := 27) (v := .agg (r64 4 (F4 2))) rfl (by kernel_rfl) (by kernel_rfl) (by kernel_rfl) (yl_other (by decide) (by decide) rfl (fun f1 f2 wx hT => ?_)) ?_
      · exact lands_calls (w := wx) ((fsmall2 wx).mono fun _ _ ⟨he, hb⟩ => ⟨he, hT.below hb⟩) (by go_simp)
      simp only [Act.put, List.setIfInBounds_toArray, List.set_cons_zero, List.set_cons_succ]
      refine anyL_take (i := 28) (v := ?_) rfl (by kernel_rfl) (by kernel_rfl) (by kernel_rfl) (yl_other (by decide) (by decide) rfl (fun f1 f2 wx hT => ?_)) ?_; rotate_left
      · refine lands_value (w := wx) ?_ hT; go_simp <;> rfl
      simp only [Act.put, List.setIfInBounds_toArray, List.set_cons_zero, List.set_cons_succ]
      refine anyL_take (i := 29) (v := ?_) rfl (by kernel_rfl) (by kernel_rfl) (by kernel_rfl) (yl_other (by decide) (by decide) rfl (fun f1 f2 wx hT => ?_)) ?_; rotate_left
      · refine lands_value (w := wx) ?_ hT; go_simp <;> rfl
      simp only [Act.put, List.setIfInBounds_toArray, List.set_cons_zero, List.set_cons_succ]
      refine anyL_take (i := 30) (v := .agg (r64 4 (F4 k))) rfl (by kernel_rfl) (by kernel_rfl) (by kernel_rfl) (yl_other (by decide) (by decide) rfl (fun f1 f2 wx hT => ?_)) ?_
      · exact lands_num k hnW _ rfl rfl hT
      simp only [Act.put, List.setIfInBounds_toArray, List.set_cons_zero, List.set_cons_succ]
      refine anyL_take (i := 31) (v := .agg (r64 4 (F4 (powP 2 k)))) rfl (by kernel_rfl) (by kernel_rfl) (by kernel_rfl) (yl_other (by decide) (by decide) rfl (fun f1 f2 wx hT => ?_)) ?_
      · exact lands_calls (w := wx) ((fpowP 2 k wx (by decide) hnM).mono fun _ _ ⟨he, hb⟩ => ⟨he, hT.below hb⟩) (by go_simp)
      simp only [Act.put, List.setIfInBounds_toArray, List.set_cons_zero, List.set_cons_succ]
      refine anyL_take (i := 32) (v := .bool true) rfl (by kernel_rfl) (by kernel_rfl) (by kernel_rfl) (yl_other (by decide) (by decide) rfl (fun f1 f2 wx hT => ?_)) ?_
      · exact lands_eql _ _ rfl (powP 2 k) (powP 2 k) rfl rfl (powP_lt _ _) (powP_lt _ _) true (decide_eq_true (rfl)) hT
      simp only [Act.put, List.setIfInBounds_toArray, List.set_cons_zero, List.set_cons_succ]
      refine anyL_take (i := 33) (v := ?_) rfl (by kernel_rfl) (by kernel_rfl) (by kernel_rfl) (yl_other (by decide) (by decide) rfl (fun f1 f2 wx hT => ?_)) ?_; rotate_left
      · refine lands_value (w := wx) ?_ hT; go_simp <;> rfl
      simp only [Act.put, List.setIfInBounds_toArray, List.set_cons_zero, List.set_cons_succ]
      refine anyL_take (i := 34) (v := ?_) rfl (by kernel_rfl) (by kernel_rfl) (by kernel_rfl) (yl_other (by decide) (by decide) rfl (fun f1 f2 wx hT => ?_)) ?_; rotate_left
      · refine lands_value (w := wx) ?_ hT; go_simp <;> rfl
      simp only [Act.put, List.setIfInBounds_toArray, List.set_cons_zero, List.set_cons_succ]
      refine anyL_take (i := 35) (v := .agg (r64 4 (F4 a))) rfl (by kernel_rfl) (by kernel_rfl) (by kernel_rfl) (yl_other (by decide) (by decide) rfl (fun f1 f2 wx hT => ?_)) ?_
      · exact lands_fe _ rfl _ rfl _ (hT.blk _ m2) hT
      simp only [Act.put, List.setIfInBounds_toArray, List.set_cons_zero, List.set_cons_succ]
      refine anyL_take (i := 36) (v := .bool (oddP a)) rfl (by kernel_rfl) (by kernel_rfl) (by kernel_rfl) (yl_other (by decide) (by decide) rfl (fun f1 f2 wx hT => ?_)) ?_
      · exact lands_calls (w := wx) ((foddP a wx ha).mono fun _ _ ⟨he, hb⟩ => ⟨he, hT.below hb⟩) (by go_simp)
      simp only [Act.put, List.setIfInBounds_toArray, List.set_cons_zero, List.set_cons_succ]
      refine anyL_take (i := 37) (v := ?_) rfl (by kernel_rfl) (by kernel_rfl) (by kernel_rfl) (yl_other (by decide) (by decide) rfl (fun f1 f2 wx hT => ?_)) ?_; rotate_left
      · refine lands_value (w := wx) ?_ hT; go_simp <;> rfl
      simp only [Act.put, List.setIfInBounds_toArray, List.set_cons_zero, List.set_cons_succ]
      refine anyL_take (i := 38) (v := ?_) rfl (by kernel_rfl) (by kernel_rfl) (by kernel_rfl) (yl_other (by decide) (by decide) rfl (fun f1 f2 wx hT => ?_)) ?_; rotate_left
      · have c0 := (hT.blk _ m0).at_ (i := 0) (by omega); refine lands_value (w := wx) ?_ hT; go_simp <;> rfl
      simp only [Act.put, List.setIfInBounds_toArray, List.set_cons_zero, List.set_cons_succ]
      refine anyL_take (i := 39) (v := .int .u64 ((oddN (oddP a) : Nat) : Int)) rfl (by kernel_rfl) (by kernel_rfl) (by kernel_rfl) (yl_other (by decide) (by decide) rfl (fun f1 f2 wx hT => ?_)) ?_
      · refine lands_value (w := wx) ?_ hT; go_simp; exact own_low a
      simp only [Act.put, List.setIfInBounds_toArray, List.set_cons_zero, List.set_cons_succ]
      refine anyL_take (i := 40) (v := .bool (oddP a)) rfl (by kernel_rfl) (by kernel_rfl) (by kernel_rfl) (yl_other (by decide) (by decide) rfl (fun f1 f2 wx hT => ?_)) ?_
      · refine lands_value (w := wx) ?_ hT; go_simp; exact oddN_beq _
      simp only [Act.put, List.setIfInBounds_toArray, List.set_cons_zero, List.set_cons_succ]
      refine anyL_take (i := 41) (v := ?_) rfl (by kernel_rfl) (by kernel_rfl) (by kernel_rfl) (yl_other (by decide) (by decide) rfl (fun f1 f2 wx hT => ?_)) ?_; rotate_left
      · refine lands_value (w := wx) ?_ hT; go_simp <;> rfl
      simp only [Act.put, List.setIfInBounds_toArray, List.set_cons_zero, List.set_cons_succ]
      refine anyL_take (i := 42) (v := ?_) rfl (by kernel_rfl) (by kernel_rfl) (by kernel_rfl) (yl_other (by decide) (by decide) rfl (fun f1 f2 wx hT => ?_)) ?_; rotate_left
      · refine lands_value (w := wx) ?_ hT; go_simp <;> rfl
      simp only [Act.put, List.setIfInBounds_toArray, List.set_cons_zero, List.set_cons_succ]
      refine anyL_take (i := 43) (v := ?_) rfl (by kernel_rfl) (by kernel_rfl) (by kernel_rfl) (yl_other (by decide) (by decide) rfl (fun f1 f2 wx hT => ?_)) ?_; rotate_left
      · refine lands_value (w := wx) ?_ hT; go_simp <;> rfl
      simp only [Act.put, List.setIfInBounds_toArray, List.set_cons_zero, List.set_cons_succ]
      refine anyL_done (by kernel_rfl) (fun w8 (h8 : KF w.heap.size w [(g8, F4 (addP a 0)), (g6, F4 (powP 2 k)), (w.heap.size, F4 a)] w8) => ?_) _
      clear h7
      go_wp2_with fail
      go_ret
      exact ⟨rfl, h8.b⟩
theorem twice_int (a : Nat) (n : Int) (w : World) (ha : a < M256) (h0 : 0 ≤ n) (h1 : n < 256) :
    Calls Try.prog 10 #[.agg (r64 4 (F4 a)), .int .u8 n] w fun e w' => e = .returned (.bool true) ∧ Below w.heap.size w w' := by
  obtain ⟨m, rfl⟩ := Int.eq_ofNat_of_zero_le h0
  exact twice_any a m w ha (by omega)
end Go.Proofs.Ytjggclhhimccoaa
