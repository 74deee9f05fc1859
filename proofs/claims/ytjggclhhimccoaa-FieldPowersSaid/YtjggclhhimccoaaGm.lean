/- Root of the layer field. -/
import Derived.Test.YtjggclhhimccoaaGl
namespace Go.Proofs.Ytjggclhhimccoaa
open Go.RowKit
theorem run_neq_num (a b : Nat) (ha : a < M256) (hb : b < M256) (w : World) : (binOp .neq 24 (.agg (r64 4 (F4 a))) (.agg (r64 4 (F4 b)))).run Try.prog w = .ok (.bool (!decide (a = b))) w := by
  rw [run_neq_struct, run_eq_num a b ha hb]; rfl
theorem run_eql_num (a b : Nat) (ha : a < M256) (hb : b < M256) (w : World) : (binOp .eql 24 (.agg (r64 4 (F4 a))) (.agg (r64 4 (F4 b)))).run Try.prog w = .ok (.bool (decide (a = b))) w := by
  rw [run_eql_struct, run_eq_num a b ha hb]; rfl
theorem lands_neq {R : World → Prop} {o : Oper} {ac : Act} {w : World} (x y : Operand) (ho : o.op = .binOp .neq 24 x y 24) (a b : Nat) (hx : ac.eval x = .agg (r64 4 (F4 a))) (hy : ac.eval y = .agg (r64 4 (F4 b))) (ha : a < M256) (hb : b < M256) (c : Bool) (hc : (!decide (a = b)) = c) (hR : R w) :
    Lands Try.prog R (.bool c) ((execOp ac.eval o).run Try.prog w) := by
  have : (execOp ac.eval o).run Try.prog w = .ok (.value (.bool c)) w := by
    unfold execOp
    simp only [ho, hx, hy, Sem.run_bind, run_eqGuard_agg _ _ _ _ _ _ _ guard_fe, Result.andThen_ok, run_neq_num a b ha hb, hc, Sem.run_pure]
  rw [this]; exact ⟨rfl, hR⟩
theorem lands_eql {R : World → Prop} {o : Oper} {ac : Act} {w : World} (x y : Operand) (ho : o.op = .binOp .eql 24 x y 24) (a b : Nat) (hx : ac.eval x = .agg (r64 4 (F4 a))) (hy : ac.eval y = .agg (r64 4 (F4 b))) (ha : a < M256) (hb : b < M256) (c : Bool) (hc : decide (a = b) = c) (hR : R w) :
    Lands Try.prog R (.bool c) ((execOp ac.eval o).run Try.prog w) := by
  have : (execOp ac.eval o).run Try.prog w = .ok (.value (.bool c)) w := by
    unfold execOp
    simp only [ho, hx, hy, Sem.run_bind, run_eqGuard_agg _ _ _ _ _ _ _ guard_fe, Result.andThen_ok, run_eql_num a b ha hb, hc, Sem.run_pure]
  rw [this]; exact ⟨rfl, hR⟩
theorem KF.put0 {B g : Nat} {w0 w : World} {l : List (Nat × (Nat → BitVec 64))} {f0 : Nat → BitVec 64} (h : KF B w0 ((g, f0) :: l) w) (hB : B ≤ g) (hl : ∀ x ∈ l, x.1 ≠ g) (f : Nat → BitVec 64) : KF B w0 ((g, f) :: l) (w.setRow g (r64 4 f)) :=
  h.put (h.blk _ m0) hB f _ fun x hx => by
    rcases List.mem_cons.1 hx with rfl | hx
    · exact .inl rfl
    · exact .inr ⟨.tail _ hx, hl x hx⟩
def tsV (v x : Nat) : Nat := v * (x * x % pP) % pP
/-- What Root answers when its first try is x. -/
def rootW (u v x : Nat) : Nat × Bool :=
  let y := if tsV v x = u then x else x * iR % pP
  if tsV v y = u then (if oddB (y % pP) then (pP - y % pP) % pP else y, true) else (0, false)
def rootV (u v : Nat) : Nat × Bool := rootW (u % pP) v (nearV (u % pP) v)
theorem rootW_a {u v x : Nat} (c1 : tsV v x = u) (ho : oddB (x % pP) = true) : rootW u v x = ((pP - x % pP) % pP, true) := by
  unfold rootW; simp only [if_pos c1, ho, if_true]
theorem rootW_b {u v x : Nat} (c1 : tsV v x = u) (ho : oddB (x % pP) = false) : rootW u v x = (x, true) := by
  unfold rootW; simp only [if_pos c1, ho, Bool.false_eq_true, if_false]
theorem rootW_c {u v x y : Nat} (hy : x * iR % pP = y) (c1 : ¬ tsV v x = u) (c2 : tsV v y = u) (ho : oddB (y % pP) = true) : rootW u v x = ((pP - y % pP) % pP, true) := by
  unfold rootW; simp only [if_neg c1, hy, if_pos c2, ho, if_true]
theorem rootW_d {u v x y : Nat} (hy : x * iR % pP = y) (c1 : ¬ tsV v x = u) (c2 : tsV v y = u) (ho : oddB (y % pP) = false) : rootW u v x = (y, true) := by
  unfold rootW; simp only [if_neg c1, hy, if_pos c2, ho, Bool.false_eq_true, if_false]
theorem rootW_e {u v x y : Nat} (hy : x * iR % pP = y) (c1 : ¬ tsV v x = u) (c2 : ¬ tsV v y = u) : rootW u v x = (0, false) := by
  unfold rootW; simp only [if_neg c1, hy, if_neg c2]
/-- The first try's block turns into the second one's. -/
def onceX (b : Bool) (x y : Nat) : Nat → BitVec 64 := if b then F4 y else F4 x
theorem builtE : Try.prog.built 24 [] = some #[.int .u64 0, .int .u64 0, .int .u64 0, .int .u64 0] := by kernel_rfl
set_option maxRecDepth 100000 in
set_option maxHeartbeats 8000000 in
theorem froot_1 (u v : Nat) (w : World) (hu : u < M256) (hv : v < M256) (c0 : tsV v (nearV (u % pP) v) = u % pP) :
    Calls Try.prog 30 #[.agg (r64 4 (F4 u)), .agg (r64 4 (F4 v))] w fun e w' => e = .returned (.tuple #[.agg (r64 4 (F4 (rootV u v).1)), .bool (rootV u v).2]) ∧ Below w.heap.size w w' := by
  have HS := Lib.hid fe_size
  have hb := builtE
  have hg := guard_fe
  have L0 := KF.start u v w
  have HV : Hid (rootV u v = rootW (u % pP) v (nearV (u % pP) v)) := Lib.hid rfl
  have hu1 : u % pP < M256 := mod_lt_M _
  have C1 := Lib.hid c0
  clear c0
  go_enter Try.func30, Try.ntmps30
  go_wp2_with (refine wpList_load_row rfl 24 _ rfl w.heap.size rfl 24 _ (0, 0) _ (L0.blk _ m0) Try.underlying24 rfl (HS.out _) ?_)
  refine (reduced_any u _ hu).mono ?_
  rintro e w1 ⟨rfl, hq⟩
  have h1 := L0.below hq
  clear L0 hq
  generalize u % pP = u1 at HV hu1 C1 ⊢
  go_wp2_with (first
    | (refine wpList_store_row rfl 24 _ _ rfl w.heap.size (r64 4 (F4 u1)) rfl rfl 24 _ (h1.blk _ m0) (HS.out _) (by simp only [row_size]) (row_one fun _ => rfl) ?_; refine wpList_gen (KF w.heap.size w [(w.heap.size, F4 u1), (w.heap.size + 1, F4 v), (w.heap.size + 2, zF)]) (h1.put0 (by omega) (by simp) _) (fun w2 h2 => ?_))
    | (refine wpList_load_row rfl 24 _ rfl w.heap.size rfl 24 _ (0, 0) _ (h2.blk _ m0) Try.underlying24 rfl (HS.out _) ?_)
    | (refine wpList_load_row rfl 24 _ rfl (w.heap.size + 1) rfl 24 _ (0, 0) _ (h2.blk _ m1) Try.underlying24 rfl (HS.out _) ?_))
  refine (near_any u1 v _ hu1 hv).mono ?_
  rintro e w3 ⟨rfl, hq⟩
  have h3 := h2.below hq
  clear h1 h2 hq
  have hx_x0 : nearV u1 v < M256 := mod_lt_M _
  generalize nearV u1 v = x0 at HV hx_x0 C1 ⊢
  go_wp2_with (refine wpList_store_row rfl 24 _ _ rfl w3.heap.size (r64 4 (F4 x0)) rfl rfl 24 (r64 4 zF) ((Blk.new w3 _ _).cast_ zero4') (HS.out _) (by simp only [row_size]) (row_one fun _ => rfl) ?_; refine wpList_gen (KF w.heap.size w [(w3.heap.size, F4 x0), (w.heap.size, F4 u1), (w.heap.size + 1, F4 v), (w.heap.size + 2, zF)]) (h3.new _ _) (fun w4 h4 => ?_))
  have l6 : w.heap.size + 2 < w3.heap.size := h3.lt _ m2
  clear h3
  generalize w3.heap.size = g6 at h4 l6 ⊢
  have hg6 : Hid (∀ (f1 f2 : Nat → BitVec 64), ∀ x ∈ [(w.heap.size, f1), (w.heap.size + 1, f2), (w.heap.size + 2, zF)], x.1 ≠ g6) := Lib.hid (by
    intro f1 f2 x hx
    simp only [List.mem_cons, List.not_mem_nil, or_false] at hx
    rcases hx with rfl | rfl | rfl
    · show w.heap.size ≠ g6; omega
    · show w.heap.size + 1 ≠ g6; omega
    · show w.heap.size + 2 ≠ g6; omega)
  simp only [Act.put]
  refine wp_region_anyL (Two 1000 1001 fun _ _ wx => KF w.heap.size w [(g6, F4 x0), (w.heap.size, F4 u1), (w.heap.size + 1, F4 v), (w.heap.size + 2, zF)] wx) (by kernel_rfl) h4.drew ?_
  refine anyL_take (i := 0) (v := .agg (r64 4 (F4 v))) rfl (by kernel_rfl) (by kernel_rfl) (by kernel_rfl) (yl_other (by decide) (by decide) rfl (fun f1 f2 wx hT => ?_)) ?_
  · exact lands_fe _ rfl _ rfl _ (hT.blk _ m2) hT
  simp only [Act.put, List.setIfInBounds_toArray, List.set_cons_zero, List.set_cons_succ]
  refine anyL_take (i := 1) (v := .agg (r64 4 (F4 x0))) rfl (by kernel_rfl) (by kernel_rfl) (by kernel_rfl) (yl_other (by decide) (by decide) rfl (fun f1 f2 wx hT => ?_)) ?_
  · exact lands_fe _ rfl _ rfl _ (hT.blk _ m0) hT
  simp only [Act.put, List.setIfInBounds_toArray, List.set_cons_zero, List.set_cons_succ]
  refine anyL_take (i := 2) (v := .agg (r64 4 (F4 (tsV v x0)))) rfl (by kernel_rfl) (by kernel_rfl) (by kernel_rfl) (yl_other (by decide) (by decide) rfl (fun f1 f2 wx hT => ?_)) ?_
  · exact lands_calls (w := wx) ((tsq_any v x0 wx hv hx_x0).mono fun _ _ ⟨he, hb⟩ => ⟨he, hT.below hb⟩) (by go_simp)
  simp only [Act.put, List.setIfInBounds_toArray, List.set_cons_zero, List.set_cons_succ]
  refine anyL_take (i := 3) (v := .agg (r64 4 (F4 u1))) rfl (by kernel_rfl) (by kernel_rfl) (by kernel_rfl) (yl_other (by decide) (by decide) rfl (fun f1 f2 wx hT => ?_)) ?_
  · exact lands_fe _ rfl _ rfl _ (hT.blk _ m1) hT
  simp only [Act.put, List.setIfInBounds_toArray, List.set_cons_zero, List.set_cons_succ]
  refine anyL_take (i := 4) (v := .bool false) rfl (by kernel_rfl) (by kernel_rfl) (by kernel_rfl) (yl_other (by decide) (by decide) rfl (fun f1 f2 wx hT => ?_)) ?_
  · exact lands_neq _ _ rfl (tsV v x0) u1 rfl rfl (mod_lt_M _) hu1 false (by rw [decide_eq_true C1.out]; rfl) hT
  simp only [Act.put, List.setIfInBounds_toArray, List.set_cons_zero, List.set_cons_succ]
  refine anyL_done (by kernel_rfl) (fun w5 (h5 : KF w.heap.size w [(g6, F4 x0), (w.heap.size, F4 u1), (w.heap.size + 1, F4 v), (w.heap.size + 2, zF)] w5) => ?_) _
  clear h4
  go_wp2_with fail
  refine wp_region_anyL (Two 1000 1001 fun _ _ wx => KF w.heap.size w [(g6, F4 x0), (w.heap.size, F4 u1), (w.heap.size + 1, F4 v), (w.heap.size + 2, zF)] wx) (by kernel_rfl) h5.drew ?_
  refine anyL_take (i := 0) (v := .agg (r64 4 (F4 v))) rfl (by kernel_rfl) (by kernel_rfl) (by kernel_rfl) (yl_other (by decide) (by decide) rfl (fun f1 f2 wx hT => ?_)) ?_
  · exact lands_fe _ rfl _ rfl _ (hT.blk _ m2) hT
  simp only [Act.put, List.setIfInBounds_toArray, List.set_cons_zero, List.set_cons_succ]
  refine anyL_take (i := 1) (v := .agg (r64 4 (F4 x0))) rfl (by kernel_rfl) (by kernel_rfl) (by kernel_rfl) (yl_other (by decide) (by decide) rfl (fun f1 f2 wx hT => ?_)) ?_
  · exact lands_fe _ rfl _ rfl _ (hT.blk _ m0) hT
  simp only [Act.put, List.setIfInBounds_toArray, List.set_cons_zero, List.set_cons_succ]
  refine anyL_take (i := 2) (v := .agg (r64 4 (F4 (tsV v x0)))) rfl (by kernel_rfl) (by kernel_rfl) (by kernel_rfl) (yl_other (by decide) (by decide) rfl (fun f1 f2 wx hT => ?_)) ?_
  · exact lands_calls (w := wx) ((tsq_any v x0 wx hv hx_x0).mono fun _ _ ⟨he, hb⟩ => ⟨he, hT.below hb⟩) (by go_simp)
  simp only [Act.put, List.setIfInBounds_toArray, List.set_cons_zero, List.set_cons_succ]
  refine anyL_take (i := 3) (v := .agg (r64 4 (F4 u1))) rfl (by kernel_rfl) (by kernel_rfl) (by kernel_rfl) (yl_other (by decide) (by decide) rfl (fun f1 f2 wx hT => ?_)) ?_
  · exact lands_fe _ rfl _ rfl _ (hT.blk _ m1) hT
  simp only [Act.put, List.setIfInBounds_toArray, List.set_cons_zero, List.set_cons_succ]
  refine anyL_take (i := 4) (v := .bool false) rfl (by kernel_rfl) (by kernel_rfl) (by kernel_rfl) (yl_other (by decide) (by decide) rfl (fun f1 f2 wx hT => ?_)) ?_
  · exact lands_neq _ _ rfl (tsV v x0) u1 rfl rfl (mod_lt_M _) hu1 false (by rw [decide_eq_true C1.out]; rfl) hT
  simp only [Act.put, List.setIfInBounds_toArray, List.set_cons_zero, List.set_cons_succ]
  refine anyL_done (by kernel_rfl) (fun w6 (h6 : KF w.heap.size w [(g6, F4 x0), (w.heap.size, F4 u1), (w.heap.size + 1, F4 v), (w.heap.size + 2, zF)] w6) => ?_) _
  clear h5
  go_wp2_with (first
    | (refine wpList_load_row rfl 24 _ rfl (g6) rfl 24 _ (0, 0) _ (h6.blk _ m0) Try.underlying24 rfl (HS.out _) ?_))
  refine (fodd_any x0 _ hx_x0).mono ?_
  rintro e wt ⟨rfl, hq⟩
  have ht := h6.below hq
  clear hq
  cases ho : oddB (x0 % pP) with
  | true =>
    have HE := Lib.hid (rootW_a C1.out ho)
    clear ho
    go_wp2_with (first
      | (refine wpList_load_row rfl 24 _ rfl (g6) rfl 24 _ (0, 0) _ (ht.blk _ m0) Try.underlying24 rfl (HS.out _) ?_))
    refine (fneg_any x0 _ hx_x0).mono ?_
    rintro e wn ⟨rfl, hq⟩
    have hn := ht.below hq
    clear hq ht
    go_wp2_with (first
      | (refine wpList_store_row rfl 24 _ _ rfl g6 (r64 4 (F4 ((pP - x0 % pP) % pP))) rfl rfl 24 _ (hn.blk _ m0) (HS.out _) (by simp only [row_size]) (row_one fun _ => rfl) ?_; refine wpList_gen (KF w.heap.size w [(g6, F4 ((pP - x0 % pP) % pP)), (w.heap.size, F4 u1), (w.heap.size + 1, F4 v), (w.heap.size + 2, zF)]) (hn.put0 (by omega) (hg6.out _ _) _) (fun wr hr => ?_))
      | (refine wpList_load_row rfl 24 _ rfl (g6) rfl 24 _ (0, 0) _ (hr.blk _ m0) Try.underlying24 rfl (HS.out _) ?_)
      | (refine wpList_store_row rfl 24 _ _ rfl (w.heap.size + 2) (r64 4 (F4 ((pP - x0 % pP) % pP))) rfl rfl 24 _ (hr.blk _ m3) (HS.out _) (by simp only [row_size]) (row_one fun _ => rfl) ?_))
    exact bodyPost_ret (results_cell_row_slot rfl _ _ (w.heap.size + 2) 24 (r64 4 (F4 ((pP - x0 % pP) % pP))) (0, 0) _ _ rfl ((hr.blk _ m3).row_ _) Try.underlying24 rfl (HS.out _) rfl) rfl ⟨by rw [HV.out, HE.out]; rfl, below_setRow' hr.b (by omega) _⟩
  | false =>
    have HE := Lib.hid (rootW_b C1.out ho)
    clear ho
    go_wp2_with (first
      | (refine wpList_load_row rfl 24 _ rfl (g6) rfl 24 _ (0, 0) _ (ht.blk _ m0) Try.underlying24 rfl (HS.out _) ?_)
      | (refine wpList_store_row rfl 24 _ _ rfl (w.heap.size + 2) (r64 4 (F4 x0)) rfl rfl 24 _ (ht.blk _ m3) (HS.out _) (by simp only [row_size]) (row_one fun _ => rfl) ?_))
    exact bodyPost_ret (results_cell_row_slot rfl _ _ (w.heap.size + 2) 24 (r64 4 (F4 x0)) (0, 0) _ _ rfl ((ht.blk _ m3).row_ _) Try.underlying24 rfl (HS.out _) rfl) rfl ⟨by rw [HV.out, HE.out]; rfl, below_setRow' ht.b (by omega) _⟩
set_option maxRecDepth 100000 in
set_option maxHeartbeats 8000000 in
theorem froot_2 (u v : Nat) (w : World) (hu : u < M256) (hv : v < M256) (c0 : ¬ tsV v (nearV (u % pP) v) = u % pP) (cc : tsV v (nearV (u % pP) v * iR % pP) = u % pP) :
    Calls Try.prog 30 #[.agg (r64 4 (F4 u)), .agg (r64 4 (F4 v))] w fun e w' => e = .returned (.tuple #[.agg (r64 4 (F4 (rootV u v).1)), .bool (rootV u v).2]) ∧ Below w.heap.size w w' := by
  have HS := Lib.hid fe_size
  have hb := builtE
  have hg := guard_fe
  have L0 := KF.start u v w
  have HV : Hid (rootV u v = rootW (u % pP) v (nearV (u % pP) v)) := Lib.hid rfl
  have hu1 : u % pP < M256 := mod_lt_M _
  have C1 := Lib.hid c0
  have C2 := Lib.hid cc
  clear c0 cc
  go_enter Try.func30, Try.ntmps30
  go_wp2_with (refine wpList_load_row rfl 24 _ rfl w.heap.size rfl 24 _ (0, 0) _ (L0.blk _ m0) Try.underlying24 rfl (HS.out _) ?_)
  refine (reduced_any u _ hu).mono ?_
  rintro e w1 ⟨rfl, hq⟩
  have h1 := L0.below hq
  clear L0 hq
  generalize u % pP = u1 at HV hu1 C1 C2 ⊢
  go_wp2_with (first
    | (refine wpList_store_row rfl 24 _ _ rfl w.heap.size (r64 4 (F4 u1)) rfl rfl 24 _ (h1.blk _ m0) (HS.out _) (by simp only [row_size]) (row_one fun _ => rfl) ?_; refine wpList_gen (KF w.heap.size w [(w.heap.size, F4 u1), (w.heap.size + 1, F4 v), (w.heap.size + 2, zF)]) (h1.put0 (by omega) (by simp) _) (fun w2 h2 => ?_))
    | (refine wpList_load_row rfl 24 _ rfl w.heap.size rfl 24 _ (0, 0) _ (h2.blk _ m0) Try.underlying24 rfl (HS.out _) ?_)
    | (refine wpList_load_row rfl 24 _ rfl (w.heap.size + 1) rfl 24 _ (0, 0) _ (h2.blk _ m1) Try.underlying24 rfl (HS.out _) ?_))
  refine (near_any u1 v _ hu1 hv).mono ?_
  rintro e w3 ⟨rfl, hq⟩
  have h3 := h2.below hq
  clear h1 h2 hq
  have hx_x0 : nearV u1 v < M256 := mod_lt_M _
  generalize nearV u1 v = x0 at HV hx_x0 C1 C2 ⊢
  go_wp2_with (refine wpList_store_row rfl 24 _ _ rfl w3.heap.size (r64 4 (F4 x0)) rfl rfl 24 (r64 4 zF) ((Blk.new w3 _ _).cast_ zero4') (HS.out _) (by simp only [row_size]) (row_one fun _ => rfl) ?_; refine wpList_gen (KF w.heap.size w [(w3.heap.size, F4 x0), (w.heap.size, F4 u1), (w.heap.size + 1, F4 v), (w.heap.size + 2, zF)]) (h3.new _ _) (fun w4 h4 => ?_))
  have l6 : w.heap.size + 2 < w3.heap.size := h3.lt _ m2
  clear h3
  generalize w3.heap.size = g6 at h4 l6 ⊢
  have hg6 : Hid (∀ (f1 f2 : Nat → BitVec 64), ∀ x ∈ [(w.heap.size, f1), (w.heap.size + 1, f2), (w.heap.size + 2, zF)], x.1 ≠ g6) := Lib.hid (by
    intro f1 f2 x hx
    simp only [List.mem_cons, List.not_mem_nil, or_false] at hx
    rcases hx with rfl | rfl | rfl
    · show w.heap.size ≠ g6; omega
    · show w.heap.size + 1 ≠ g6; omega
    · show w.heap.size + 2 ≠ g6; omega)
  simp only [Act.put]
  refine wp_region_anyL (Two 1000 1001 fun _ _ wx => KF w.heap.size w [(g6, F4 x0), (w.heap.size, F4 u1), (w.heap.size + 1, F4 v), (w.heap.size + 2, zF)] wx) (by kernel_rfl) h4.drew ?_
  refine anyL_take (i := 0) (v := .agg (r64 4 (F4 v))) rfl (by kernel_rfl) (by kernel_rfl) (by kernel_rfl) (yl_other (by decide) (by decide) rfl (fun f1 f2 wx hT => ?_)) ?_
  · exact lands_fe _ rfl _ rfl _ (hT.blk _ m2) hT
  simp only [Act.put, List.setIfInBounds_toArray, List.set_cons_zero, List.set_cons_succ]
  refine anyL_take (i := 1) (v := .agg (r64 4 (F4 x0))) rfl (by kernel_rfl) (by kernel_rfl) (by kernel_rfl) (yl_other (by decide) (by decide) rfl (fun f1 f2 wx hT => ?_)) ?_
  · exact lands_fe _ rfl _ rfl _ (hT.blk _ m0) hT
  simp only [Act.put, List.setIfInBounds_toArray, List.set_cons_zero, List.set_cons_succ]
  refine anyL_take (i := 2) (v := .agg (r64 4 (F4 (tsV v x0)))) rfl (by kernel_rfl) (by kernel_rfl) (by kernel_rfl) (yl_other (by decide) (by decide) rfl (fun f1 f2 wx hT => ?_)) ?_
  · exact lands_calls (w := wx) ((tsq_any v x0 wx hv hx_x0).mono fun _ _ ⟨he, hb⟩ => ⟨he, hT.below hb⟩) (by go_simp)
  simp only [Act.put, List.setIfInBounds_toArray, List.set_cons_zero, List.set_cons_succ]
  refine anyL_take (i := 3) (v := .agg (r64 4 (F4 u1))) rfl (by kernel_rfl) (by kernel_rfl) (by kernel_rfl) (yl_other (by decide) (by decide) rfl (fun f1 f2 wx hT => ?_)) ?_
  · exact lands_fe _ rfl _ rfl _ (hT.blk _ m1) hT
  simp only [Act.put, List.setIfInBounds_toArray, List.set_cons_zero, List.set_cons_succ]
  refine anyL_take (i := 4) (v := .bool true) rfl (by kernel_rfl) (by kernel_rfl) (by kernel_rfl) (yl_other (by decide) (by decide) rfl (fun f1 f2 wx hT => ?_)) ?_
  · exact lands_neq _ _ rfl (tsV v x0) u1 rfl rfl (mod_lt_M _) hu1 true (by rw [decide_eq_false C1.out]; rfl) hT
  simp only [Act.put, List.setIfInBounds_toArray, List.set_cons_zero, List.set_cons_succ]
  refine anyL_done (by kernel_rfl) (fun w5 (h5 : KF w.heap.size w [(g6, F4 x0), (w.heap.size, F4 u1), (w.heap.size + 1, F4 v), (w.heap.size + 2, zF)] w5) => ?_) _
  clear h4
  go_wp2_with fail
  have hx_y : x0 * iR % pP < M256 := mod_lt_M _
  have cm := fun w => fmul_any x0 iR w hx_x0 (by decide)
  generalize hy : x0 * iR % pP = y at hx_y cm C2
  have HY := Lib.hid hy
  clear hy
  refine wp_region_anyL (Two 3 1000 fun f1 _ wx => KF w.heap.size w [(g6, onceX f1 x0 y), (w.heap.size, F4 u1), (w.heap.size + 1, F4 v), (w.heap.size + 2, zF)] wx) (by kernel_rfl) h5.drew ?_
  refine anyL_take (i := 0) (v := .agg (r64 4 (F4 x0))) rfl (by kernel_rfl) (by kernel_rfl) (by kernel_rfl) (yl_ahead (n := 3) (by decide) (by decide) (by kernel_rfl) rfl (fun f2 wx hT => ?_)) ?_
  · exact lands_fe _ rfl _ rfl _ (hT.blk _ m0) hT
  simp only [Act.put, List.setIfInBounds_toArray, List.set_cons_zero, List.set_cons_succ]
  refine anyL_take (i := 1) (v := .agg (r64 4 (F4 iR))) rfl (by kernel_rfl) (by kernel_rfl) (by kernel_rfl) (yl_other (by decide) (by decide) rfl (fun f1 f2 wx hT => ?_)) ?_
  · exact lands_calls (w := wx) ((fminus_any wx).mono fun _ _ ⟨he, hb⟩ => ⟨he, hT.below hb⟩) (by go_simp)
  simp only [Act.put, List.setIfInBounds_toArray, List.set_cons_zero, List.set_cons_succ]
  refine anyL_take (i := 2) (v := .agg (r64 4 (F4 y))) rfl (by kernel_rfl) (by kernel_rfl) (by kernel_rfl) (yl_other (by decide) (by decide) rfl (fun f1 f2 wx hT => ?_)) ?_
  · exact lands_calls (w := wx) ((cm wx).mono fun _ _ ⟨he, hb⟩ => ⟨he, hT.below hb⟩) (by go_simp)
  simp only [Act.put, List.setIfInBounds_toArray, List.set_cons_zero, List.set_cons_succ]
  refine anyL_take (i := 3) (v := undef) rfl (by kernel_rfl) (by kernel_rfl) (by kernel_rfl) (yl_first (by decide) rfl (fun f2 wx hT => ?_)) ?_
  · exact stores_fe _ _ rfl g6 _ _ rfl rfl (hT.blk _ m0) (hT.put0 (by omega) (hg6.out _ _) _)
  simp only [Act.put]
  refine anyL_done (by kernel_rfl) (fun w6 (h6 : KF w.heap.size w [(g6, F4 y), (w.heap.size, F4 u1), (w.heap.size + 1, F4 v), (w.heap.size + 2, zF)] w6) => ?_) _
  clear h5 cm
  go_wp2_with fail
  refine wp_region_anyL (Two 1000 1001 fun _ _ wx => KF w.heap.size w [(g6, F4 y), (w.heap.size, F4 u1), (w.heap.size + 1, F4 v), (w.heap.size + 2, zF)] wx) (by kernel_rfl) h6.drew ?_
  refine anyL_take (i := 0) (v := .agg (r64 4 (F4 v))) rfl (by kernel_rfl) (by kernel_rfl) (by kernel_rfl) (yl_other (by decide) (by decide) rfl (fun f1 f2 wx hT => ?_)) ?_
  · exact lands_fe _ rfl _ rfl _ (hT.blk _ m2) hT
  simp only [Act.put, List.setIfInBounds_toArray, List.set_cons_zero, List.set_cons_succ]
  refine anyL_take (i := 1) (v := .agg (r64 4 (F4 y))) rfl (by kernel_rfl) (by kernel_rfl) (by kernel_rfl) (yl_other (by decide) (by decide) rfl (fun f1 f2 wx hT => ?_)) ?_
  · exact lands_fe _ rfl _ rfl _ (hT.blk _ m0) hT
  simp only [Act.put, List.setIfInBounds_toArray, List.set_cons_zero, List.set_cons_succ]
  refine anyL_take (i := 2) (v := .agg (r64 4 (F4 (tsV v y)))) rfl (by kernel_rfl) (by kernel_rfl) (by kernel_rfl) (yl_other (by decide) (by decide) rfl (fun f1 f2 wx hT => ?_)) ?_
  · exact lands_calls (w := wx) ((tsq_any v y wx hv hx_y).mono fun _ _ ⟨he, hb⟩ => ⟨he, hT.below hb⟩) (by go_simp)
  simp only [Act.put, List.setIfInBounds_toArray, List.set_cons_zero, List.set_cons_succ]
  refine anyL_take (i := 3) (v := .agg (r64 4 (F4 u1))) rfl (by kernel_rfl) (by kernel_rfl) (by kernel_rfl) (yl_other (by decide) (by decide) rfl (fun f1 f2 wx hT => ?_)) ?_
  · exact lands_fe _ rfl _ rfl _ (hT.blk _ m1) hT
  simp only [Act.put, List.setIfInBounds_toArray, List.set_cons_zero, List.set_cons_succ]
  refine anyL_take (i := 4) (v := .bool false) rfl (by kernel_rfl) (by kernel_rfl) (by kernel_rfl) (yl_other (by decide) (by decide) rfl (fun f1 f2 wx hT => ?_)) ?_
  · exact lands_neq _ _ rfl (tsV v y) u1 rfl rfl (mod_lt_M _) hu1 false (by rw [decide_eq_true C2.out]; rfl) hT
  simp only [Act.put, List.setIfInBounds_toArray, List.set_cons_zero, List.set_cons_succ]
  refine anyL_done (by kernel_rfl) (fun w7 (h7 : KF w.heap.size w [(g6, F4 y), (w.heap.size, F4 u1), (w.heap.size + 1, F4 v), (w.heap.size + 2, zF)] w7) => ?_) _
  clear h6
  go_wp2_with (first
    | (refine wpList_load_row rfl 24 _ rfl (g6) rfl 24 _ (0, 0) _ (h7.blk _ m0) Try.underlying24 rfl (HS.out _) ?_))
  refine (fodd_any y _ hx_y).mono ?_
  rintro e wt ⟨rfl, hq⟩
  have ht := h7.below hq
  clear hq
  cases ho : oddB (y % pP) with
  | true =>
    have HE := Lib.hid (rootW_c HY.out C1.out C2.out ho)
    clear ho
    go_wp2_with (first
      | (refine wpList_load_row rfl 24 _ rfl (g6) rfl 24 _ (0, 0) _ (ht.blk _ m0) Try.underlying24 rfl (HS.out _) ?_))
    refine (fneg_any y _ hx_y).mono ?_
    rintro e wn ⟨rfl, hq⟩
    have hn := ht.below hq
    clear hq ht
    go_wp2_with (first
      | (refine wpList_store_row rfl 24 _ _ rfl g6 (r64 4 (F4 ((pP - y % pP) % pP))) rfl rfl 24 _ (hn.blk _ m0) (HS.out _) (by simp only [row_size]) (row_one fun _ => rfl) ?_; refine wpList_gen (KF w.heap.size w [(g6, F4 ((pP - y % pP) % pP)), (w.heap.size, F4 u1), (w.heap.size + 1, F4 v), (w.heap.size + 2, zF)]) (hn.put0 (by omega) (hg6.out _ _) _) (fun wr hr => ?_))
      | (refine wpList_load_row rfl 24 _ rfl (g6) rfl 24 _ (0, 0) _ (hr.blk _ m0) Try.underlying24 rfl (HS.out _) ?_)
      | (refine wpList_store_row rfl 24 _ _ rfl (w.heap.size + 2) (r64 4 (F4 ((pP - y % pP) % pP))) rfl rfl 24 _ (hr.blk _ m3) (HS.out _) (by simp only [row_size]) (row_one fun _ => rfl) ?_))
    exact bodyPost_ret (results_cell_row_slot rfl _ _ (w.heap.size + 2) 24 (r64 4 (F4 ((pP - y % pP) % pP))) (0, 0) _ _ rfl ((hr.blk _ m3).row_ _) Try.underlying24 rfl (HS.out _) rfl) rfl ⟨by rw [HV.out, HE.out]; rfl, below_setRow' hr.b (by omega) _⟩
  | false =>
    have HE := Lib.hid (rootW_d HY.out C1.out C2.out ho)
    clear ho
    go_wp2_with (first
      | (refine wpList_load_row rfl 24 _ rfl (g6) rfl 24 _ (0, 0) _ (ht.blk _ m0) Try.underlying24 rfl (HS.out _) ?_)
      | (refine wpList_store_row rfl 24 _ _ rfl (w.heap.size + 2) (r64 4 (F4 y)) rfl rfl 24 _ (ht.blk _ m3) (HS.out _) (by simp only [row_size]) (row_one fun _ => rfl) ?_))
    exact bodyPost_ret (results_cell_row_slot rfl _ _ (w.heap.size + 2) 24 (r64 4 (F4 y)) (0, 0) _ _ rfl ((ht.blk _ m3).row_ _) Try.underlying24 rfl (HS.out _) rfl) rfl ⟨by rw [HV.out, HE.out]; rfl, below_setRow' ht.b (by omega) _⟩
set_option maxRecDepth 100000 in
set_option maxHeartbeats 8000000 in
theorem froot_3 (u v : Nat) (w : World) (hu : u < M256) (hv : v < M256) (c0 : ¬ tsV v (nearV (u % pP) v) = u % pP) (cc : ¬ tsV v (nearV (u % pP) v * iR % pP) = u % pP) :
    Calls Try.prog 30 #[.agg (r64 4 (F4 u)), .agg (r64 4 (F4 v))] w fun e w' => e = .returned (.tuple #[.agg (r64 4 (F4 (rootV u v).1)), .bool (rootV u v).2]) ∧ Below w.heap.size w w' := by
  have HS := Lib.hid fe_size
  have hb := builtE
  have hg := guard_fe
  have L0 := KF.start u v w
  have HV : Hid (rootV u v = rootW (u % pP) v (nearV (u % pP) v)) := Lib.hid rfl
  have hu1 : u % pP < M256 := mod_lt_M _
  have C1 := Lib.hid c0
  have C2 := Lib.hid cc
  clear c0 cc
  go_enter Try.func30, Try.ntmps30
  go_wp2_with (refine wpList_load_row rfl 24 _ rfl w.heap.size rfl 24 _ (0, 0) _ (L0.blk _ m0) Try.underlying24 rfl (HS.out _) ?_)
  refine (reduced_any u _ hu).mono ?_
  rintro e w1 ⟨rfl, hq⟩
  have h1 := L0.below hq
  clear L0 hq
  generalize u % pP = u1 at HV hu1 C1 C2 ⊢
  go_wp2_with (first
    | (refine wpList_store_row rfl 24 _ _ rfl w.heap.size (r64 4 (F4 u1)) rfl rfl 24 _ (h1.blk _ m0) (HS.out _) (by simp only [row_size]) (row_one fun _ => rfl) ?_; refine wpList_gen (KF w.heap.size w [(w.heap.size, F4 u1), (w.heap.size + 1, F4 v), (w.heap.size + 2, zF)]) (h1.put0 (by omega) (by simp) _) (fun w2 h2 => ?_))
    | (refine wpList_load_row rfl 24 _ rfl w.heap.size rfl 24 _ (0, 0) _ (h2.blk _ m0) Try.underlying24 rfl (HS.out _) ?_)
    | (refine wpList_load_row rfl 24 _ rfl (w.heap.size + 1) rfl 24 _ (0, 0) _ (h2.blk _ m1) Try.underlying24 rfl (HS.out _) ?_))
  refine (near_any u1 v _ hu1 hv).mono ?_
  rintro e w3 ⟨rfl, hq⟩
  have h3 := h2.below hq
  clear h1 h2 hq
  have hx_x0 : nearV u1 v < M256 := mod_lt_M _
  generalize nearV u1 v = x0 at HV hx_x0 C1 C2 ⊢
  go_wp2_with (refine wpList_store_row rfl 24 _ _ rfl w3.heap.size (r64 4 (F4 x0)) rfl rfl 24 (r64 4 zF) ((Blk.new w3 _ _).cast_ zero4') (HS.out _) (by simp only [row_size]) (row_one fun _ => rfl) ?_; refine wpList_gen (KF w.heap.size w [(w3.heap.size, F4 x0), (w.heap.size, F4 u1), (w.heap.size + 1, F4 v), (w.heap.size + 2, zF)]) (h3.new _ _) (fun w4 h4 => ?_))
  have l6 : w.heap.size + 2 < w3.heap.size := h3.lt _ m2
  clear h3
  generalize w3.heap.size = g6 at h4 l6 ⊢
  have hg6 : Hid (∀ (f1 f2 : Nat → BitVec 64), ∀ x ∈ [(w.heap.size, f1), (w.heap.size + 1, f2), (w.heap.size + 2, zF)], x.1 ≠ g6) := Lib.hid (by
    intro f1 f2 x hx
    simp only [List.mem_cons, List.not_mem_nil, or_false] at hx
    rcases hx with rfl | rfl | rfl
    · show w.heap.size ≠ g6; omega
    · show w.heap.size + 1 ≠ g6; omega
    · show w.heap.size + 2 ≠ g6; omega)
  simp only [Act.put]
  refine wp_region_anyL (Two 1000 1001 fun _ _ wx => KF w.heap.size w [(g6, F4 x0), (w.heap.size, F4 u1), (w.heap.size + 1, F4 v), (w.heap.size + 2, zF)] wx) (by kernel_rfl) h4.drew ?_
  refine anyL_take (i := 0) (v := .agg (r64 4 (F4 v))) rfl (by kernel_rfl) (by kernel_rfl) (by kernel_rfl) (yl_other (by decide) (by decide) rfl (fun f1 f2 wx hT => ?_)) ?_
  · exact lands_fe _ rfl _ rfl _ (hT.blk _ m2) hT
  simp only [Act.put, List.setIfInBounds_toArray, List.set_cons_zero, List.set_cons_succ]
  refine anyL_take (i := 1) (v := .agg (r64 4 (F4 x0))) rfl (by kernel_rfl) (by kernel_rfl) (by kernel_rfl) (yl_other (by decide) (by decide) rfl (fun f1 f2 wx hT => ?_)) ?_
  · exact lands_fe _ rfl _ rfl _ (hT.blk _ m0) hT
  simp only [Act.put, List.setIfInBounds_toArray, List.set_cons_zero, List.set_cons_succ]
  refine anyL_take (i := 2) (v := .agg (r64 4 (F4 (tsV v x0)))) rfl (by kernel_rfl) (by kernel_rfl) (by kernel_rfl) (yl_other (by decide) (by decide) rfl (fun f1 f2 wx hT => ?_)) ?_
  · exact lands_calls (w := wx) ((tsq_any v x0 wx hv hx_x0).mono fun _ _ ⟨he, hb⟩ => ⟨he, hT.below hb⟩) (by go_simp)
  simp only [Act.put, List.setIfInBounds_toArray, List.set_cons_zero, List.set_cons_succ]
  refine anyL_take (i := 3) (v := .agg (r64 4 (F4 u1))) rfl (by kernel_rfl) (by kernel_rfl) (by kernel_rfl) (yl_other (by decide) (by decide) rfl (fun f1 f2 wx hT => ?_)) ?_
  · exact lands_fe _ rfl _ rfl _ (hT.blk _ m1) hT
  simp only [Act.put, List.setIfInBounds_toArray, List.set_cons_zero, List.set_cons_succ]
  refine anyL_take (i := 4) (v := .bool true) rfl (by kernel_rfl) (by kernel_rfl) (by kernel_rfl) (yl_other (by decide) (by decide) rfl (fun f1 f2 wx hT => ?_)) ?_
  · exact lands_neq _ _ rfl (tsV v x0) u1 rfl rfl (mod_lt_M _) hu1 true (by rw [decide_eq_false C1.out]; rfl) hT
  simp only [Act.put, List.setIfInBounds_toArray, List.set_cons_zero, List.set_cons_succ]
  refine anyL_done (by kernel_rfl) (fun w5 (h5 : KF w.heap.size w [(g6, F4 x0), (w.heap.size, F4 u1), (w.heap.size + 1, F4 v), (w.heap.size + 2, zF)] w5) => ?_) _
  clear h4
  go_wp2_with fail
  have hx_y : x0 * iR % pP < M256 := mod_lt_M _
  have cm := fun w => fmul_any x0 iR w hx_x0 (by decide)
  generalize hy : x0 * iR % pP = y at hx_y cm C2
  have HY := Lib.hid hy
  clear hy
  refine wp_region_anyL (Two 3 1000 fun f1 _ wx => KF w.heap.size w [(g6, onceX f1 x0 y), (w.heap.size, F4 u1), (w.heap.size + 1, F4 v), (w.heap.size + 2, zF)] wx) (by kernel_rfl) h5.drew ?_
  refine anyL_take (i := 0) (v := .agg (r64 4 (F4 x0))) rfl (by kernel_rfl) (by kernel_rfl) (by kernel_rfl) (yl_ahead (n := 3) (by decide) (by decide) (by kernel_rfl) rfl (fun f2 wx hT => ?_)) ?_
  · exact lands_fe _ rfl _ rfl _ (hT.blk _ m0) hT
  simp only [Act.put, List.setIfInBounds_toArray, List.set_cons_zero, List.set_cons_succ]
  refine anyL_take (i := 1) (v := .agg (r64 4 (F4 iR))) rfl (by kernel_rfl) (by kernel_rfl) (by kernel_rfl) (yl_other (by decide) (by decide) rfl (fun f1 f2 wx hT => ?_)) ?_
  · exact lands_calls (w := wx) ((fminus_any wx).mono fun _ _ ⟨he, hb⟩ => ⟨he, hT.below hb⟩) (by go_simp)
  simp only [Act.put, List.setIfInBounds_toArray, List.set_cons_zero, List.set_cons_succ]
  refine anyL_take (i := 2) (v := .agg (r64 4 (F4 y))) rfl (by kernel_rfl) (by kernel_rfl) (by kernel_rfl) (yl_other (by decide) (by decide) rfl (fun f1 f2 wx hT => ?_)) ?_
  · exact lands_calls (w := wx) ((cm wx).mono fun _ _ ⟨he, hb⟩ => ⟨he, hT.below hb⟩) (by go_simp)
  simp only [Act.put, List.setIfInBounds_toArray, List.set_cons_zero, List.set_cons_succ]
  refine anyL_take (i := 3) (v := undef) rfl (by kernel_rfl) (by kernel_rfl) (by kernel_rfl) (yl_first (by decide) rfl (fun f2 wx hT => ?_)) ?_
  · exact stores_fe _ _ rfl g6 _ _ rfl rfl (hT.blk _ m0) (hT.put0 (by omega) (hg6.out _ _) _)
  simp only [Act.put]
  refine anyL_done (by kernel_rfl) (fun w6 (h6 : KF w.heap.size w [(g6, F4 y), (w.heap.size, F4 u1), (w.heap.size + 1, F4 v), (w.heap.size + 2, zF)] w6) => ?_) _
  clear h5 cm
  go_wp2_with fail
  have HE := Lib.hid (rootW_e HY.out C1.out C2.out)
  refine wp_region_anyL (Two 1000 1001 fun _ _ wx => KF w.heap.size w [(g6, F4 y), (w.heap.size, F4 u1), (w.heap.size + 1, F4 v), (w.heap.size + 2, zF)] wx) (by kernel_rfl) h6.drew ?_
  refine anyL_take (i := 0) (v := .agg (r64 4 (F4 v))) rfl (by kernel_rfl) (by kernel_rfl) (by kernel_rfl) (yl_other (by decide) (by decide) rfl (fun f1 f2 wx hT => ?_)) ?_
  · exact lands_fe _ rfl _ rfl _ (hT.blk _ m2) hT
  simp only [Act.put, List.setIfInBounds_toArray, List.set_cons_zero, List.set_cons_succ]
  refine anyL_take (i := 1) (v := .agg (r64 4 (F4 y))) rfl (by kernel_rfl) (by kernel_rfl) (by kernel_rfl) (yl_other (by decide) (by decide) rfl (fun f1 f2 wx hT => ?_)) ?_
  · exact lands_fe _ rfl _ rfl _ (hT.blk _ m0) hT
  simp only [Act.put, List.setIfInBounds_toArray, List.set_cons_zero, List.set_cons_succ]
  refine anyL_take (i := 2) (v := .agg (r64 4 (F4 (tsV v y)))) rfl (by kernel_rfl) (by kernel_rfl) (by kernel_rfl) (yl_other (by decide) (by decide) rfl (fun f1 f2 wx hT => ?_)) ?_
  · exact lands_calls (w := wx) ((tsq_any v y wx hv hx_y).mono fun _ _ ⟨he, hb⟩ => ⟨he, hT.below hb⟩) (by go_simp)
  simp only [Act.put, List.setIfInBounds_toArray, List.set_cons_zero, List.set_cons_succ]
  refine anyL_take (i := 3) (v := .agg (r64 4 (F4 u1))) rfl (by kernel_rfl) (by kernel_rfl) (by kernel_rfl) (yl_other (by decide) (by decide) rfl (fun f1 f2 wx hT => ?_)) ?_
  · exact lands_fe _ rfl _ rfl _ (hT.blk _ m1) hT
  simp only [Act.put, List.setIfInBounds_toArray, List.set_cons_zero, List.set_cons_succ]
  refine anyL_take (i := 4) (v := .bool true) rfl (by kernel_rfl) (by kernel_rfl) (by kernel_rfl) (yl_other (by decide) (by decide) rfl (fun f1 f2 wx hT => ?_)) ?_
  · exact lands_neq _ _ rfl (tsV v y) u1 rfl rfl (mod_lt_M _) hu1 true (by rw [decide_eq_false C2.out]; rfl) hT
  simp only [Act.put, List.setIfInBounds_toArray, List.set_cons_zero, List.set_cons_succ]
  refine anyL_done (by kernel_rfl) (fun w7 (h7 : KF w.heap.size w [(g6, F4 y), (w.heap.size, F4 u1), (w.heap.size + 1, F4 v), (w.heap.size + 2, zF)] w7) => ?_) _
  clear h6
  go_wp2_with (refine wpList_store_row rfl 24 _ _ rfl (w.heap.size + 2) (r64 4 (F4 0)) rfl (congrArg Value.agg zero4F) 24 _ (h7.blk _ m3) (HS.out _) (by simp only [row_size]) (row_one fun _ => rfl) ?_)
  exact bodyPost_ret (results_cell_row_slot rfl _ _ (w.heap.size + 2) 24 (r64 4 (F4 0)) (0, 0) _ _ rfl ((h7.blk _ m3).row_ _) Try.underlying24 rfl (HS.out _) rfl) rfl ⟨by rw [HV.out, HE.out]; rfl, below_setRow' h7.b (by omega) _⟩
theorem froot_any (u v : Nat) (w : World) (hu : u < M256) (hv : v < M256) :
    Calls Try.prog 30 #[.agg (r64 4 (F4 u)), .agg (r64 4 (F4 v))] w fun e w' => e = .returned (.tuple #[.agg (r64 4 (F4 (rootV u v).1)), .bool (rootV u v).2]) ∧ Below w.heap.size w w' := by
  by_cases c : tsV v (nearV (u % pP) v) = u % pP
  · exact froot_1 u v w hu hv c
  · by_cases c2 : tsV v (nearV (u % pP) v * iR % pP) = u % pP
    · exact froot_2 u v w hu hv c c2
    · exact froot_3 u v w hu hv c c2
end Go.Proofs.Ytjggclhhimccoaa
