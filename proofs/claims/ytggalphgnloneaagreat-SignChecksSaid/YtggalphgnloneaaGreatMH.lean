/- Root of the layer field. -/
import Derived.Test.YtggalphgnloneaaGreatPu
import Derived.Test.YtggalphgnloneaaGreatMG
import Derived.Test.YtggalphgnloneaaGreatMA
import Derived.ProofKit
import Derived.OpenShut
import Derived.Lib.SmallJoins
import Derived.StillTailTactics
import Derived.IntWalk
namespace Go.Proofs.YtggalphgnloneaaGreat
open Go.RowKit
theorem run_neq_num (a b : Nat) (ha : a < M256) (hb : b < M256) (w : World) : (binOp .neq 40 (.agg (r64 4 (F4 a))) (.agg (r64 4 (F4 b)))).run Tryz.prog w = .ok (.bool (!decide (a = b))) w := by
  rw [run_neq_struct, run_eq_num a b ha hb]; rfl
theorem run_eql_num (a b : Nat) (ha : a < M256) (hb : b < M256) (w : World) : (binOp .eql 40 (.agg (r64 4 (F4 a))) (.agg (r64 4 (F4 b)))).run Tryz.prog w = .ok (.bool (decide (a = b))) w := by
  rw [run_eql_struct, run_eq_num a b ha hb]; rfl
theorem lands_neq {R : World → Prop} {o : Oper} {ac : Act} {w : World} (x y : Operand) (ho : o.op = .binOp .neq 40 x y 40) (a b : Nat) (hx : ac.eval x = .agg (r64 4 (F4 a))) (hy : ac.eval y = .agg (r64 4 (F4 b))) (ha : a < M256) (hb : b < M256) (c : Bool) (hc : (!decide (a = b)) = c) (hR : R w) :
    Lands Tryz.prog R (.bool c) ((execOp ac.eval o).run Tryz.prog w) := by
  have : (execOp ac.eval o).run Tryz.prog w = .ok (.value (.bool c)) w := by
    unfold execOp
    simp only [ho, hx, hy, Sem.run_bind, run_eqGuard_agg _ _ _ _ _ _ _ guard_fe, Result.andThen_ok, run_neq_num a b ha hb, hc, Sem.run_pure]
  rw [this]; exact ⟨rfl, hR⟩
theorem lands_eql {R : World → Prop} {o : Oper} {ac : Act} {w : World} (x y : Operand) (ho : o.op = .binOp .eql 40 x y 40) (a b : Nat) (hx : ac.eval x = .agg (r64 4 (F4 a))) (hy : ac.eval y = .agg (r64 4 (F4 b))) (ha : a < M256) (hb : b < M256) (c : Bool) (hc : decide (a = b) = c) (hR : R w) :
    Lands Tryz.prog R (.bool c) ((execOp ac.eval o).run Tryz.prog w) := by
  have : (execOp ac.eval o).run Tryz.prog w = .ok (.value (.bool c)) w := by
    unfold execOp
    simp only [ho, hx, hy, Sem.run_bind, run_eqGuard_agg _ _ _ _ _ _ _ guard_fe, Result.andThen_ok, run_eql_num a b ha hb, hc, Sem.run_pure]
  rw [this]; exact ⟨rfl, hR⟩
theorem KF.put0 {B g : Nat} {w0 w : World} {l : List (Nat × (Nat → BitVec 64))} {f0 : Nat → BitVec 64} (h : KF B w0 ((g, f0) :: l) w) (hB : B ≤ g) (hl : ∀ x ∈ l, x.1 ≠ g) (f : Nat → BitVec 64) : KF B w0 ((g, f) :: l) (w.setRow g (r64 4 f)) :=
  h.put (h.blk _ m0) hB f _ fun x hx => by
    rcases List.mem_cons.1 hx with rfl | hx
    · exact .inl rfl
    · exact .inr ⟨.tail _ hx, hl x hx⟩
def tsV (v x : Nat) : Nat := v * (x * x % pP) % pP
/-- What Root answers when its first try is x. -/
def rootW (u v x : Nat) : Nat × Bool :=
  let y := if tsV v x = u then x else x * iR % pP
  if tsV v y = u then (if oddB (y % pP) then (pP - y % pP) % pP else y, true) else (0, false)
def rootV (u v : Nat) : Nat × Bool := rootW (u % pP) v (nearV (u % pP) v)
theorem rootW_a {u v x : Nat} (c1 : tsV v x = u) (ho : oddB (x % pP) = true) : rootW u v x = ((pP - x % pP) % pP, true) := by
  unfold rootW; simp only [if_pos c1, ho, if_true]
theorem rootW_b {u v x : Nat} (c1 : tsV v x = u) (ho : oddB (x % pP) = false) : rootW u v x = (x, true) := by
  unfold rootW; simp only [if_pos c1, ho, Bool.false_eq_true, if_false]
theorem rootW_c {u v x y : Nat} (hy : x * iR % pP = y) (c1 : ¬ tsV v x = u) (c2 : tsV v y = u) (ho : oddB (y % pP) = true) : rootW u v x = ((pP - y % pP) % pP, true) := by
  unfold rootW; simp only [if_neg c1, hy, if_pos c2, ho, if_true]
theorem rootW_d {u v x y : Nat} (hy : x * iR % pP = y) (c1 : ¬ tsV v x = u) (c2 : tsV v y = u) (ho : oddB (y % pP) = false) : rootW u v x = (y, true) := by
  unfold rootW; simp only [if_neg c1, hy, if_pos c2, ho, Bool.false_eq_true, if_false]
theorem rootW_e {u v x y : Nat} (hy : x * iR % pP = y) (c1 : ¬ tsV v x = u) (c2 : ¬ tsV v y = u) : rootW u v x = (0, false) := by
  unfold rootW; simp only [if_neg c1, hy, if_neg c2]
/-- The first try's block turns into the second one's. -/
def onceX (b : Bool) (x y : Nat) : Nat → BitVec 64 := if b then F4 y else F4 x
theorem builtE : Tryz.prog.built 40 [] = some #[.int .u64 0, .int .u64 0, .int .u64 0, .int .u64 0] := by kernel_rfl
set_option maxRecDepth 100000 in
set_option maxHeartbeats 8000000 in
theorem froot_1 (u v : Nat) (w : World) (hu : u < M256) (hv : v < M256) (c0 : tsV v (nearV (u % pP) v) = u % pP) :
    Calls Tryz.prog 88 #[.agg (r64 4 (F4 u)), .agg (r64 4 (F4 v))] w fun e w' => e = .returned (.tuple #[.agg (r64 4 (F4 (rootV u v).1)), .bool (rootV u v).2]) ∧ Below w.heap.size w w' := by
  have HS := Lib.hid fe_size
  have hb := builtE
  have hg := guard_fe
  have L0 := KF.start u v w
  have HV : Hid (rootV u v = rootW (u % pP) v (nearV (u % pP) v)) := Lib.hid rfl
  have hu1 : u % pP < M256 := mod_lt_M _
  have C1 := Lib.hid c0
  clear c0
  go_enter Tryz.func88, Tryz.ntmps88
  go_wp2_with (refine wpList_load_row rfl 40 _ rfl w.heap.size rfl 40 _ (0, 0) _ (L0.blk _ m0) Tryz.underlying40 rfl (HS.out _) ?_)
  refine (reduced_any u _ hu).mono ?_
  rintro e w1 ⟨rfl, hq⟩
  have h1 := L0.below hq
  clear L0 hq
  generalize u % pP = u1 at HV hu1 C1 ⊢
  go_wp2_with (first
    | (refine wpList_store_row rfl 40 _ _ rfl w.heap.size (r64 4 (F4 u1)) rfl rfl 40 _ (h1.blk _ m0) (HS.out _) (by simp only [row_size]) (row_one fun _ => rfl) ?_; refine wpList_gen (KF w.heap.size w [(w.heap.size, F4 u1), (w.heap.size + 1, F4 v), (w.heap.size + 2, zF)]) (h1.put0 (by omega) (by simp) _) (fun w2 h2 => ?_))
    | (refine wpList_load_row rfl 40 _ rfl w.heap.size rfl 40 _ (0, 0) _ (h2.blk _ m0) Tryz.underlying40 rfl (HS.out _) ?_)
    | (refine wpList_load_row rfl 40 _ rfl (w.heap.size + 1) rfl 40 _ (0, 0) _ (h2.blk _ m1) Tryz.underlying40 rfl (HS.out _) ?_))
  refine (near_any u1 v _ hu1 hv).mono ?_
  rintro e w3 ⟨rfl, hq⟩
  have h3 := h2.below hq
  clear h1 h2 hq
  have hx_x0 : nearV u1 v < M256 := mod_lt_M _
  generalize nearV u1 v = x0 at HV hx_x0 C1 ⊢
  go_wp2_with (refine wpList_store_row rfl 40 _ _ rfl w3.heap.size (r64 4 (F4 x0)) rfl rfl 40 (r64 4 zF) ((Blk.new w3 _ _).cast_ zero4') (HS.out _) (by simp only [row_size]) (row_one fun _ => rfl) ?_; refine wpList_gen (KF w.heap.size w [(w3.heap.size, F4 x0), (w.heap.size, F4 u1), (w.heap.size + 1, F4 v), (w.heap.size + 2, zF)]) (h3.new _ _) (fun w4 h4 => ?_))
  have l6 : w.heap.size + 2 < w3.heap.size := h3.lt _ m2
  clear h3
  generalize w3.heap.size = g6 at h4 l6 ⊢
  have hg6 : Hid (∀ (f1 f2 : Nat → BitVec 64), ∀ x ∈ [(w.heap.size, f1), (w.heap.size + 1, f2), (w.heap.size + 2, zF)], x.1 ≠ g6) := Lib.hid (by
    intro f1 f2 x hx
    simp only [List.mem_cons, List.not_mem_nil, or_false] at hx
    rcases hx with rfl | rfl | rfl
    · show w.heap.size ≠ g6; omega
    · show w.heap.size + 1 ≠ g6; omega
    · show w.heap.size + 2 ≠ g6; omega)
  simp only [Act.put]
  refine wp_region_anyL (Two 1000 1001 fun _ _ wx => KF w.heap.size w [(g6, F4 x0), (w.heap.size, F4 u1), (w.heap.size + 1, F4 v), (w.heap.size + 2, zF)] wx) (by kernel_rfl) h4.drew ?_
  refine anyL_take (i := 0) (v := .agg (r64 4 (F4 v))) rfl (by kernel_rfl) (by kernel_rfl) (by kernel_rfl) (yl_other (by decide) (by decide) rfl (fun f1 f2 wx hT => ?_)) ?_
  · exact lands_fe _ rfl _ rfl _ (hT.blk _ m2) hT
  simp only [pu]
  refine anyL_take (i := 1) (v := .agg (r64 4 (F4 x0))) rfl (by kernel_rfl) (by kernel_rfl) (by kernel_rfl) (yl_other (by decide) (by decide) rfl (fun f1 f2 wx hT => ?_)) ?_
  · exact lands_fe _ rfl _ rfl _ (hT.blk _ m0) hT
  simp only [pu]
  refine anyL_take (i := 2) (v := .agg (r64 4 (F4 (tsV v x0)))) rfl (by kernel_rfl) (by kernel_rfl) (by kernel_rfl) (yl_other (by decide) (by decide) rfl (fun f1 f2 wx hT => ?_)) ?_
  · exact lands_calls (w := wx) ((tsq_any v x0 wx hv hx_x0).mono fun _ _ ⟨he, hb⟩ => ⟨he, hT.below hb⟩) (by go_simp)
  simp only [pu]
  refine anyL_take (i := 3) (v := .agg (r64 4 (F4 u1))) rfl (by kernel_rfl) (by kernel_rfl) (by kernel_rfl) (yl_other (by decide) (by decide) rfl (fun f1 f2 wx hT => ?_)) ?_
  · exact lands_fe _ rfl _ rfl _ (hT.blk _ m1) hT
  simp only [pu]
  refine anyL_take (i := 4) (v := .bool false) rfl (by kernel_rfl) (by kernel_rfl) (by kernel_rfl) (yl_other (by decide) (by decide) rfl (fun f1 f2 wx hT => ?_)) ?_
  · exact lands_neq _ _ rfl (tsV v x0) u1 rfl rfl (mod_lt_M _) hu1 false (by rw [decide_eq_true C1.out]; rfl) hT
  simp only [pu]
  refine anyL_done (by kernel_rfl) (fun w5 (h5 : KF w.heap.size w [(g6, F4 x0), (w.heap.size, F4 u1), (w.heap.size + 1, F4 v), (w.heap.size + 2, zF)] w5) => ?_) _
  clear h4
  go_wp2_with fail
  refine wp_region_anyL (Two 1000 1001 fun _ _ wx => KF w.heap.size w [(g6, F4 x0), (w.heap.size, F4 u1), (w.heap.size + 1, F4 v), (w.heap.size + 2, zF)] wx) (by kernel_rfl) h5.drew ?_
  refine anyL_take (i := 0) (v := .agg (r64 4 (F4 v))) rfl (by kernel_rfl) (by kernel_rfl) (by kernel_rfl) (yl_other (by decide) (by decide) rfl (fun f1 f2 wx hT => ?_)) ?_
  · exact lands_fe _ rfl _ rfl _ (hT.blk _ m2) hT
  simp only [pu]
  refine anyL_take (i := 1) (v := .agg (r64 4 (F4 x0))) rfl (by kernel_rfl) (by kernel_rfl) (by kernel_rfl) (yl_other (by decide) (by decide) rfl (fun f1 f2 wx hT => ?_)) ?_
  · exact lands_fe _ rfl _ rfl _ (hT.blk _ m0) hT
  simp only [pu]
  refine anyL_take (i := 2) (v := .agg (r64 4 (F4 (tsV v x0)))) rfl (by kernel_rfl) (by kernel_rfl) (by kernel_rfl) (yl_other (by decide) (by decide) rfl (fun f1 f2 wx hT => ?_)) ?_
  · exact lands_calls (w := wx) ((tsq_any v x0 wx hv hx_x0).mono fun _ _ ⟨he, hb⟩ => ⟨he, hT.below hb⟩) (by go_simp)
  simp only [pu]
  refine anyL_take (i := 3) (v := .agg (r64 4 (F4 u1))) rfl (by kernel_rfl) (by kernel_rfl) (by kernel_rfl) (yl_other (by decide) (by decide) rfl (fun f1 f2 wx hT => ?_)) ?_
  · exact lands_fe _ rfl _ rfl _ (hT.blk _ m1) hT
  simp only [pu]
  refine anyL_take (i := 4) (v := .bool false) rfl (by kernel_rfl) (by kernel_rfl) (by kernel_rfl) (yl_other (by decide) (by decide) rfl (fun f1 f2 wx hT => ?_)) ?_
  · exact lands_neq _ _ rfl (tsV v x0) u1 rfl rfl (mod_lt_M _) hu1 false (by rw [decide_eq_true C1.out]; rfl) hT
  simp only [pu]
  refine anyL_done (by kernel_rfl) (fun w6 (h6 : KF w.heap.size w [(g6, F4 x0), (w.heap.size, F4 u1), (w.heap.size + 1, F4 v), (w.heap.size + 2, zF)] w6) => ?_) _
  clear h5
  go_wp2_with (first
    | (refine wpList_load_row rfl 40 _ rfl (g6) rfl 40 _ (0, 0) _ (h6.blk _ m0) Tryz.underlying40 rfl (HS.out _) ?_))
  refine (fodd_any x0 _ hx_x0).mono ?_
  rintro e wt ⟨rfl, hq⟩
  have ht := h6.below hq
  clear hq
  cases ho : oddB (x0 % pP) with
  | true =>
    have HE := Lib.hid (rootW_a C1.out ho)
    clear ho
    go_wp2_with (first
      | (refine wpList_load_row rfl 40 _ rfl (g6) rfl 40 _ (0, 0) _ (ht.blk _ m0) Tryz.underlying40 rfl (HS.out _) ?_))
    refine (fneg_any x0 _ hx_x0).mono ?_
    rintro e wn ⟨rfl, hq⟩
    have hn := ht.below hq
    clear hq ht
    go_wp2_with (first
      | (refine wpList_store_row rfl 40 _ _ rfl g6 (r64 4 (F4 ((pP - x0 % pP) % pP))) rfl rfl 40 _ (hn.blk _ m0) (HS.out _) (by simp only [row_size]) (row_one fun _ => rfl) ?_; refine wpList_gen (KF w.heap.size w [(g6, F4 ((pP - x0 % pP) % pP)), (w.heap.size, F4 u1), (w.heap.size + 1, F4 v), (w.heap.size + 2, zF)]) (hn.put0 (by omega) (hg6.out _ _) _) (fun wr hr => ?_))
      | (refine wpList_load_row rfl 40 _ rfl (g6) rfl 40 _ (0, 0) _ (hr.blk _ m0) Tryz.underlying40 rfl (HS.out _) ?_)
      | (refine wpList_store_row rfl 40 _ _ rfl (w.heap.size + 2) (r64 4 (F4 ((pP - x0 % pP) % pP))) rfl rfl 40 _ (hr.blk _ m3) (HS.out _) (by simp only [row_size]) (row_one fun _ => rfl) ?_))
    exact bodyPost_ret (results_cell_row_slot rfl _ _ (w.heap.size + 2) 40 (r64 4 (F4 ((pP - x0 % pP) % pP))) (0, 0) _ _ rfl ((hr.blk _ m3).row_ _) Tryz.underlying40 rfl (HS.out _) rfl) rfl ⟨by rw [HV.out, HE.out]; rfl, below_setRow' hr.b (by omega) _⟩
  | false =>
    have HE := Lib.hid (rootW_b C1.out ho)
    clear ho
    go_wp2_with (first
      | (refine wpList_load_row rfl 40 _ rfl (g6) rfl 40 _ (0, 0) _ (ht.blk _ m0) Tryz.underlying40 rfl (HS.out _) ?_)
      | (refine wpList_store_row rfl 40 _ _ rfl (w.heap.size + 2) (r64 4 (F4 x0)) rfl rfl 40 _ (ht.blk _ m3) (HS.out _) (by simp only [row_size]) (row_one fun _ => rfl) ?_))
    exact bodyPost_ret (results_cell_row_slot rfl _ _ (w.heap.size + 2) 40 (r64 4 (F4 x0)) (0, 0) _ _ rfl ((ht.blk _ m3).row_ _) Tryz.underlying40 rfl (HS.out _) rfl) rfl ⟨by rw [HV.out, HE.out]; rfl, below_setRow' ht.b (by omega) _⟩
set_option maxRecDepth 100000 in
set_option maxHeartbeats 8000000 in
theorem froot_2 (u v : Nat) (w : World) (hu : u < M256) (hv : v < M256) (c0 : ¬ tsV v (nearV (u % pP) v) = u % pP) (cc : tsV v (nearV (u % pP) v * iR % pP) = u % pP) :
    Calls Tryz.prog 88 #[.agg (r64 4 (F4 u)), .agg (r64 4 (F4 v))] w fun e w' => e = .returned (.tuple #[.agg (r64 4 (F4 (rootV u v).1)), .bool (rootV u v).2]) ∧ Below w.heap.size w w' := by
  have HS := Lib.hid fe_size
  have hb := builtE
  have hg := guard_fe
  have L0 := KF.start u v w
  have HV : Hid (rootV u v = rootW (u % pP) v (nearV (u % pP) v)) := Lib.hid rfl
  have hu1 : u % pP < M256 := mod_lt_M _
  have C1 := Lib.hid c0
  have C2 := Lib.hid cc
  clear c0 cc
  go_enter Tryz.func88, Tryz.ntmps88
  go_wp2_with (refine wpList_load_row rfl 40 _ rfl w.heap.size rfl 40 _ (0, 0) _ (L0.blk _ m0) Tryz.underlying40 rfl (HS.out _) ?_)
  refine (reduced_any u _ hu).mono ?_
  rintro e w1 ⟨rfl, hq⟩
  have h1 := L0.below hq
  clear L0 hq
  generalize u % pP = u1 at HV hu1 C1 C2 ⊢
  go_wp2_with (first
    | (refine wpList_store_row rfl 40 _ _ rfl w.heap.size (r64 4 (F4 u1)) rfl rfl 40 _ (h1.blk _ m0) (HS.out _) (by simp only [row_size]) (row_one fun _ => rfl) ?_; refine wpList_gen (KF w.heap.size w [(w.heap.size, F4 u1), (w.heap.size + 1, F4 v), (w.heap.size + 2, zF)]) (h1.put0 (by omega) (by simp) _) (fun w2 h2 => ?_))
    | (refine wpList_load_row rfl 40 _ rfl w.heap.size rfl 40 _ (0, 0) _ (h2.blk _ m0) Tryz.underlying40 rfl (HS.out _) ?_)
    | (refine wpList_load_row rfl 40 _ rfl (w.heap.size + 1) rfl 40 _ (0, 0) _ (h2.blk _ m1) Tryz.underlying40 rfl (HS.out _) ?_))
  refine (near_any u1 v _ hu1 hv).mono ?_
  rintro e w3 ⟨rfl, hq⟩
  have h3 := h2.below hq
  clear h1 h2 hq
  have hx_x0 : nearV u1 v < M256 := mod_lt_M _
  generalize nearV u1 v = x0 at HV hx_x0 C1 C2 ⊢
  go_wp2_with (refine wpList_store_row rfl 40 _ _ rfl w3.heap.size (r64 4 (F4 x0)) rfl rfl 40 (r64 4 zF) ((Blk.new w3 _ _).cast_ zero4') (HS.out _) (by simp only [row_size]) (row_one fun _ => rfl) ?_; refine wpList_gen (KF w.heap.size w [(w3.heap.size, F4 x0), (w.heap.size, F4 u1), (w.heap.size + 1, F4 v), (w.heap.size + 2, zF)]) (h3.new _ _) (fun w4 h4 => ?_))
  have l6 : w.heap.size + 2 < w3.heap.size := h3.lt _ m2
  clear h3
  generalize w3.heap.size = g6 at h4 l6 ⊢
  have hg6 : Hid (∀ (f1 f2 : Nat → BitVec 64), ∀ x ∈ [(w.heap.size, f1), (w.heap.size + 1, f2), (w.heap.size + 2, zF)], x.1 ≠ g6) := Lib.hid (by
    intro f1 f2 x hx
    simp only [List.mem_cons, List.not_mem_nil, or_false] at hx
    rcases hx with rfl | rfl | rfl
    · show w.heap.size ≠ g6; omega
    · show w.heap.size + 1 ≠ g6; omega
    · show w.heap.size + 2 ≠ g6; omega)
  simp only [Act.put]
  refine wp_region_anyL (Two 1000 1001 fun _ _ wx => KF w.heap.size w [(g6, F4 x0), (w.heap.size, F4 u1), (w.heap.size + 1, F4 v), (w.heap.size + 2, zF)] wx) (by kernel_rfl) h4.drew ?_
  refine anyL_take (i := 0) (v := .agg (r64 4 (F4 v))) rfl (by kernel_rfl) (by kernel_rfl) (by kernel_rfl) (yl_other (by decide) (by decide) rfl (fun f1 f2 wx hT => ?_)) ?_
  · exact lands_fe _ rfl _ rfl _ (hT.blk _ m2) hT
  simp only [pu]
  refine anyL_take (i := 1) (v := .agg (r64 4 (F4 x0))) rfl (by kernel_rfl) (by kernel_rfl) (by kernel_rfl) (yl_other (by decide) (by decide) rfl (fun f1 f2 wx hT => ?_)) ?_
  · exact lands_fe _ rfl _ rfl _ (hT.blk _ m0) hT
  simp only [pu]
  refine anyL_take (i := 2) (v := .agg (r64 4 (F4 (tsV v x0)))) rfl (by kernel_rfl) (by kernel_rfl) (by kernel_rfl) (yl_other (by decide) (by decide) rfl (fun f1 f2 wx hT => ?_)) ?_
  · exact lands_calls (w := wx) ((tsq_any v x0 wx hv hx_x0).mono fun _ _ ⟨he, hb⟩ => ⟨he, hT.below hb⟩) (by go_simp)
  simp only [pu]
  refine anyL_take (i := 3) (v := .agg (r64 4 (F4 u1))) rfl (by kernel_rfl) (by kernel_rfl) (by kernel_rfl) (yl_other (by decide) (by decide) rfl (fun f1 f2 wx hT => ?_)) ?_
  · exact lands_fe _ rfl _ rfl _ (hT.blk _ m1) hT
  simp only [pu]
  refine anyL_take (i := 4) (v := .bool true) rfl (by kernel_rfl) (by kernel_rfl) (by kernel_rfl) (yl_other (by decide) (by decide) rfl (fun f1 f2 wx hT => ?_)) ?_
  · exact lands_neq _ _ rfl (tsV v x0) u1 rfl rfl (mod_lt_M _) hu1 true (by rw [decide_eq_false C1.out]; rfl) hT
  simp only [pu]
  refine anyL_done (by kernel_rfl) (fun w5 (h5 : KF w.heap.size w [(g6, F4 x0), (w.heap.size, F4 u1), (w.heap.size + 1, F4 v), (w.heap.size + 2, zF)] w5) => ?_) _
  clear h4
  go_wp2_with fail
  have hx_y : x0 * iR % pP < M256 := mod_lt_M _
  have cm := fun w => fmul_any x0 iR w hx_x0 (by decide)
  generalize hy : x0 * iR % pP = y at hx_y cm C2
  have HY := Lib.hid hy
  clear hy
  refine wp_region_anyL (Two 3 1000 fun f1 _ wx => KF w.heap.size w [(g6, onceX f1 x0 y), (w.heap.size, F4 u1), (w.heap.size + 1, F4 v), (w.heap.size + 2, zF)] wx) (by kernel_rfl) h5.drew ?_
  refine anyL_take (i := 0) (v := .agg (r64 4 (F4 x0))) rfl (by kernel_rfl) (by kernel_rfl) (by kernel_rfl) (yl_ahead (n := 3) (by decide) (by decide) (by kernel_rfl) rfl (fun f2 wx hT => ?_)) ?_
  · exact lands_fe _ rfl _ rfl _ (hT.blk _ m0) hT
  simp only [pu]
  refine anyL_take (i := 1) (v := .agg (r64 4 (F4 iR))) rfl (by kernel_rfl) (by kernel_rfl) (by kernel_rfl) (yl_other (by decide) (by decide) rfl (fun f1 f2 wx hT => ?_)) ?_
  · exact lands_calls (w := wx) ((fminus_any wx).mono fun _ _ ⟨he, hb⟩ => ⟨he, hT.below hb⟩) (by go_simp)
  simp only [pu]
  refine anyL_take (i := 2) (v := .agg (r64 4 (F4 y))) rfl (by kernel_rfl) (by kernel_rfl) (by kernel_rfl) (yl_other (by decide) (by decide) rfl (fun f1 f2 wx hT => ?_)) ?_
  · exact lands_calls (w := wx) ((cm wx).mono fun _ _ ⟨he, hb⟩ => ⟨he, hT.below hb⟩) (by go_simp)
  simp only [pu]
  refine anyL_take (i := 3) (v := undef) rfl (by kernel_rfl) (by kernel_rfl) (by kernel_rfl) (yl_first (by decide) rfl (fun f2 wx hT => ?_)) ?_
  · exact stores_fe _ _ rfl g6 _ _ rfl rfl (hT.blk _ m0) (hT.put0 (by omega) (hg6.out _ _) _)
  simp only [Act.put]
  refine anyL_done (by kernel_rfl) (fun w6 (h6 : KF w.heap.size w [(g6, F4 y), (w.heap.size, F4 u1), (w.heap.size + 1, F4 v), (w.heap.size + 2, zF)] w6) => ?_) _
  clear h5 cm
  go_wp2_with fail
  refine wp_region_anyL (Two 1000 1001 fun _ _ wx => KF w.heap.size w [(g6, F4 y), (w.heap.size, F4 u1), (w.heap.size + 1, F4 v), (w.heap.size + 2, zF)] wx) (by kernel_rfl) h6.drew ?_
  refine anyL_take (i := 0) (v := .agg (r64 4 (F4 v))) rfl (by kernel_rfl) (by kernel_rfl) (by kernel_rfl) (yl_other (by decide) (by decide) rfl (fun f1 f2 wx hT => ?_)) ?_
  · exact lands_fe _ rfl _ rfl _ (hT.blk _ m2) hT
  simp only [pu]
  refine anyL_take (i := 1) (v := .agg (r64 4 (F4 y))) rfl (by kernel_rfl) (by kernel_rfl) (by kernel_rfl) (yl_other (by decide) (by decide) rfl (fun f1 f2 wx hT => ?_)) ?_
  · exact lands_fe _ rfl _ rfl _ (hT.blk _ m0) hT
  simp only [pu]
  refine anyL_take (i := 2) (v := .agg (r64 4 (F4 (tsV v y)))) rfl (by kernel_rfl) (by kernel_rfl) (by kernel_rfl) (yl_other (by decide) (by decide) rfl (fun f1 f2 wx hT => ?_)) ?_
  · exact lands_calls (w := wx) ((tsq_any v y wx hv hx_y).mono fun _ _ ⟨he, hb⟩ => ⟨he, hT.below hb⟩) (by go_simp)
  simp only [pu]
  refine anyL_take (i := 3) (v := .agg (r64 4 (F4 u1))) rfl (by kernel_rfl) (by kernel_rfl) (by kernel_rfl) (yl_other (by decide) (by decide) rfl (fun f1 f2 wx hT => ?_)) ?_
  · exact lands_fe _ rfl _ rfl _ (hT.blk _ m1) hT
  simp only [pu]
  refine anyL_take (i := 4) (v := .bool false) rfl (by kernel_rfl) (by kernel_rfl) (by kernel_rfl) (yl_other (by decide) (by decide) rfl (fun f1 f2 wx hT => ?_)) ?_
  · exact lands_neq _ _ rfl (tsV v y) u1 rfl rfl (mod_lt_M _) hu1 false (by rw [decide_eq_true C2.out]; rfl) hT
  simp only [pu]
  refine anyL_done (by kernel_rfl) (fun w7 (h7 : KF w.heap.size w [(g6, F4 y), (w.heap.size, F4 u1), (w.heap.size + 1, F4 v), (w.heap.size + 2, zF)] w7) => ?_) _
  clear h6
  go_wp2_with (first
    | (refine wpList_load_row rfl 40 _ rfl (g6) rfl 40 _ (0, 0) _ (h7.blk _ m0) Tryz.underlying40 rfl (HS.out _) ?_))
  refine (fodd_any y _ hx_y).mono ?_
  rintro e wt ⟨rfl, hq⟩
  have ht := h7.below hq
  clear hq
  cases ho : oddB (y % pP) with
  | true =>
    have HE := Lib.hid (rootW_c HY.out C1.out C2.out ho)
    clear ho
    go_wp2_with (first
      | (refine wpList_load_row rfl 40 _ rfl (g6) rfl 40 _ (0, 0) _ (ht.blk _ m0) Tryz.underlying40 rfl (HS.out _) ?_))
    refine (fneg_any y _ hx_y).mono ?_
    rintro e wn ⟨rfl, hq⟩
    have hn := ht.below hq
    clear hq ht
    go_wp2_with (first
      | (refine wpList_store_row rfl 40 _ _ rfl g6 (r64 4 (F4 ((pP - y % pP) % pP))) rfl rfl 40 _ (hn.blk _ m0) (HS.out _) (by simp only [row_size]) (row_one fun _ => rfl) ?_; refine wpList_gen (KF w.heap.size w [(g6, F4 ((pP - y % pP) % pP)), (w.heap.size, F4 u1), (w.heap.size + 1, F4 v), (w.heap.size + 2, zF)]) (hn.put0 (by omega) (hg6.out _ _) _) (fun wr hr => ?_))
      | (refine wpList_load_row rfl 40 _ rfl (g6) rfl 40 _ (0, 0) _ (hr.blk _ m0) Tryz.underlying40 rfl (HS.out _) ?_)
      | (refine wpList_store_row rfl 40 _ _ rfl (w.heap.size + 2) (r64 4 (F4 ((pP - y % pP) % pP))) rfl rfl 40 _ (hr.blk _ m3) (HS.out _) (by simp only [row_size]) (row_one fun _ => rfl) ?_))
    exact bodyPost_ret (results_cell_row_slot rfl _ _ (w.heap.size + 2) 40 (r64 4 (F4 ((pP - y % pP) % pP))) (0, 0) _ _ rfl ((hr.blk _ m3).row_ _) Tryz.underlying40 rfl (HS.out _) rfl) rfl ⟨by rw [HV.out, HE.out]; rfl, below_setRow' hr.b (by omega) _⟩
  | false =>
    have HE := Lib.hid (rootW_d HY.out C1.out C2.out ho)
    clear ho
    go_wp2_with (first
      | (refine wpList_load_row rfl 40 _ rfl (g6) rfl 40 _ (0, 0) _ (ht.blk _ m0) Tryz.underlying40 rfl (HS.out _) ?_)
      | (refine wpList_store_row rfl 40 _ _ rfl (w.heap.size + 2) (r64 4 (F4 y)) rfl rfl 40 _ (ht.blk _ m3) (HS.out _) (by simp only [row_size]) (row_one fun _ => rfl) ?_))
    exact bodyPost_ret (results_cell_row_slot rfl _ _ (w.heap.size + 2) 40 (r64 4 (F4 y)) (0, 0) _ _ rfl ((ht.blk _ m3).row_ _) Tryz.underlying40 rfl (HS.out _) rfl) rfl ⟨by rw [HV.out, HE.out]; rfl, below_setRow' ht.b (by omega) _⟩
set_option maxRecDepth 100000 in
set_option maxHeartbeats 8000000 in
theorem froot_3 (u v : Nat) (w : World) (hu : u < M256) (hv : v < M256) (c0 : ¬ tsV v (nearV (u % pP) v) = u % pP) (cc : ¬ tsV v (nearV (u % pP) v * iR % pP) = u % pP) :
    Calls Tryz.prog 88 #[.agg (r64 4 (F4 u)), .agg (r64 4 (F4 v))] w fun e w' => e = .returned (.tuple #[.agg (r64 4 (F4 (rootV u v).1)), .bool (rootV u v).2]) ∧ Below w.heap.size w w' := by
  have HS := Lib.hid fe_size
  have hb := builtE
  have hg := guard_fe
  have L0 := KF.start u v w
  have HV : Hid (rootV u v = rootW (u % pP) v (nearV (u % pP) v)) := Lib.hid rfl
  have hu1 : u % pP < M256 := mod_lt_M _
  have C1 := Lib.hid c0
  have C2 := Lib.hid cc
  clear c0 cc
  go_enter Tryz.func88, Tryz.ntmps88
  go_wp2_with (refine wpList_load_row rfl 40 _ rfl w.heap.size rfl 40 _ (0, 0) _ (L0.blk _ m0) Tryz.underlying40 rfl (HS.out _) ?_)
  refine (reduced_any u _ hu).mono ?_
  rintro e w1 ⟨rfl, hq⟩
  have h1 := L0.below hq
  clear L0 hq
  generalize u % pP = u1 at HV hu1 C1 C2 ⊢
  go_wp2_with (first
    | (refine wpList_store_row rfl 40 _ _ rfl w.heap.size (r64 4 (F4 u1)) rfl rfl 40 _ (h1.blk _ m0) (HS.out _) (by simp only [row_size]) (row_one fun _ => rfl) ?_; refine wpList_gen (KF w.heap.size w [(w.heap.size, F4 u1), (w.heap.size + 1, F4 v), (w.heap.size + 2, zF)]) (h1.put0 (by omega) (by simp) _) (fun w2 h2 => ?_))
    | (refine wpList_load_row rfl 40 _ rfl w.heap.size rfl 40 _ (0, 0) _ (h2.blk _ m0) Tryz.underlying40 rfl (HS.out _) ?_)
    | (refine wpList_load_row rfl 40 _ rfl (w.heap.size + 1) rfl 40 _ (0, 0) _ (h2.blk _ m1) Tryz.underlying40 rfl (HS.out _) ?_))
  refine (near_any u1 v _ hu1 hv).mono ?_
  rintro e w3 ⟨rfl, hq⟩
  have h3 := h2.below hq
  clear h1 h2 hq
  have hx_x0 : nearV u1 v < M256 := mod_lt_M _
  generalize nearV u1 v = x0 at HV hx_x0 C1 C2 ⊢
  go_wp2_with (refine wpList_store_row rfl 40 _ _ rfl w3.heap.size (r64 4 (F4 x0)) rfl rfl 40 (r64 4 zF) ((Blk.new w3 _ _).cast_ zero4') (HS.out _) (by simp only [row_size]) (row_one fun _ => rfl) ?_; refine wpList_gen (KF w.heap.size w [(w3.heap.size, F4 x0), (w.heap.size, F4 u1), (w.heap.size + 1, F4 v), (w.heap.size + 2, zF)]) (h3.new _ _) (fun w4 h4 => ?_))
  have l6 : w.heap.size + 2 < w3.heap.size := h3.lt _ m2
  clear h3
  generalize w3.heap.size = g6 at h4 l6 ⊢
  have hg6 : Hid (∀ (f1 f2 : Nat → BitVec 64), ∀ x ∈ [(w.heap.size, f1), (w.heap.size + 1, f2), (w.heap.size + 2, zF)], x.1 ≠ g6) := Lib.hid (by
    intro f1 f2 x hx
    simp only [List.mem_cons, List.not_mem_nil, or_false] at hx
    rcases hx with rfl | rfl | rfl
    · show w.heap.size ≠ g6; omega
    · show w.heap.size + 1 ≠ g6; omega
    · show w.heap.size + 2 ≠ g6; omega)
  simp only [Act.put]
  refine wp_region_anyL (Two 1000 1001 fun _ _ wx => KF w.heap.size w [(g6, F4 x0), (w.heap.size, F4 u1), (w.heap.size + 1, F4 v), (w.heap.size + 2, zF)] wx) (by kernel_rfl) h4.drew ?_
  refine anyL_take (i := 0) (v := .agg (r64 4 (F4 v))) rfl (by kernel_rfl) (by kernel_rfl) (by kernel_rfl) (yl_other (by decide) (by decide) rfl (fun f1 f2 wx hT => ?_)) ?_
  · exact lands_fe _ rfl _ rfl _ (hT.blk _ m2) hT
  simp only [pu]
  refine anyL_take (i := 1) (v := .agg (r64 4 (F4 x0))) rfl (by kernel_rfl) (by kernel_rfl) (by kernel_rfl) (yl_other (by decide) (by decide) rfl (fun f1 f2 wx hT => ?_)) ?_
  · exact lands_fe _ rfl _ rfl _ (hT.blk _ m0) hT
  simp only [pu]
  refine anyL_take (i := 2) (v := .agg (r64 4 (F4 (tsV v x0)))) rfl (by kernel_rfl) (by kernel_rfl) (by kernel_rfl) (yl_other (by decide) (by decide) rfl (fun f1 f2 wx hT => ?_)) ?_
  · exact lands_calls (w := wx) ((tsq_any v x0 wx hv hx_x0).mono fun _ _ ⟨he, hb⟩ => ⟨he, hT.below hb⟩) (by go_simp)
  simp only [pu]
  refine anyL_take (i := 3) (v := .agg (r64 4 (F4 u1))) rfl (by kernel_rfl) (by kernel_rfl) (by kernel_rfl) (yl_other (by decide) (by decide) rfl (fun f1 f2 wx hT => ?_)) ?_
  · exact lands_fe _ rfl _ rfl _ (hT.blk _ m1) hT
  simp only [pu]
  refine anyL_take (i := 4) (v := .bool true) rfl (by kernel_rfl) (by kernel_rfl) (by kernel_rfl) (yl_other (by decide) (by decide) rfl (fun f1 f2 wx hT => ?_)) ?_
  · exact lands_neq _ _ rfl (tsV v x0) u1 rfl rfl (mod_lt_M _) hu1 true (by rw [decide_eq_false C1.out]; rfl) hT
  simp only [pu]
  refine anyL_done (by kernel_rfl) (fun w5 (h5 : KF w.heap.size w [(g6, F4 x0), (w.heap.size, F4 u1), (w.heap.size + 1, F4 v), (w.heap.size + 2, zF)] w5) => ?_) _
  clear h4
  go_wp2_with fail
  have hx_y : x0 * iR % pP < M256 := mod_lt_M _
  have cm := fun w => fmul_any x0 iR w hx_x0 (by decide)
  generalize hy : x0 * iR % pP = y at hx_y cm C2
  have HY := Lib.hid hy
  clear hy
  refine wp_region_anyL (Two 3 1000 fun f1 _ wx => KF w.heap.size w [(g6, onceX f1 x0 y), (w.heap.size, F4 u1), (w.heap.size + 1, F4 v), (w.heap.size + 2, zF)] wx) (by kernel_rfl) h5.drew ?_
  refine anyL_take (i := 0) (v := .agg (r64 4 (F4 x0))) rfl (by kernel_rfl) (by kernel_rfl) (by kernel_rfl) (yl_ahead (n := 3) (by decide) (by decide) (by kernel_rfl) rfl (fun f2 wx hT => ?_)) ?_
  · exact lands_fe _ rfl _ rfl _ (hT.blk _ m0) hT
  simp only [pu]
  refine anyL_take (i := 1) (v := .agg (r64 4 (F4 iR))) rfl (by kernel_rfl) (by kernel_rfl) (by kernel_rfl) (yl_other (by decide) (by decide) rfl (fun f1 f2 wx hT => ?_)) ?_
  · exact lands_calls (w := wx) ((fminus_any wx).mono fun _ _ ⟨he, hb⟩ => ⟨he, hT.below hb⟩) (by go_simp)
  simp only [pu]
  refine anyL_take (i := 2) (v := .agg (r64 4 (F4 y))) rfl (by kernel_rfl) (by kernel_rfl) (by kernel_rfl) (yl_other (by decide) (by decide) rfl (fun f1 f2 wx hT => ?_)) ?_
  · exact lands_calls (w := wx) ((cm wx).mono fun _ _ ⟨he, hb⟩ => ⟨he, hT.below hb⟩) (by go_simp)
  simp only [pu]
  refine anyL_take (i := 3) (v := undef) rfl (by kernel_rfl) (by kernel_rfl) (by kernel_rfl) (yl_first (by decide) rfl (fun f2 wx hT => ?_)) ?_
  · exact stores_fe _ _ rfl g6 _ _ rfl rfl (hT.blk _ m0) (hT.put0 (by omega) (hg6.out _ _) _)
  simp only [Act.put]
  refine anyL_done (by kernel_rfl) (fun w6 (h6 : KF w.heap.size w [(g6, F4 y), (w.heap.size, F4 u1), (w.heap.size + 1, F4 v), (w.heap.size + 2, zF)] w6) => ?_) _
  clear h5 cm
  go_wp2_with fail
  have HE := Lib.hid (rootW_e HY.out C1.out C2.out)
  refine wp_region_anyL (Two 1000 1001 fun _ _ wx => KF w.heap.size w [(g6, F4 y), (w.heap.size, F4 u1), (w.heap.size + 1, F4 v), (w.heap.size + 2, zF)] wx) (by kernel_rfl) h6.drew ?_
  refine anyL_take (i := 0) (v := .agg (r64 4 (F4 v))) rfl (by kernel_rfl) (by kernel_rfl) (by kernel_rfl) (yl_other (by decide) (by decide) rfl (fun f1 f2 wx hT => ?_)) ?_
  · exact lands_fe _ rfl _ rfl _ (hT.blk _ m2) hT
  simp only [pu]
  refine anyL_take (i := 1) (v := .agg (r64 4 (F4 y))) rfl (by kernel_rfl) (by kernel_rfl) (by kernel_rfl) (yl_other (by decide) (by decide) rfl (fun f1 f2 wx hT => ?_)) ?_
  · exact lands_fe _ rfl _ rfl _ (hT.blk _ m0) hT
  simp only [pu]
  refine anyL_take (i := 2) (v := .agg (r64 4 (F4 (tsV v y)))) rfl (by kernel_rfl) (by kernel_rfl) (by kernel_rfl) (yl_other (by decide) (by decide) rfl (fun f1 f2 wx hT => ?_)) ?_
  · exact lands_calls (w := wx) ((tsq_any v y wx hv hx_y).mono fun _ _ ⟨he, hb⟩ => ⟨he, hT.below hb⟩) (by go_simp)
  simp only [pu]
  refine anyL_take (i := 3) (v := .agg (r64 4 (F4 u1))) rfl (by kernel_rfl) (by kernel_rfl) (by kernel_rfl) (yl_other (by decide) (by decide) rfl (fun f1 f2 wx hT => ?_)) ?_
  · exact lands_fe _ rfl _ rfl _ (hT.blk _ m1) hT
  simp only [pu]
  refine anyL_take (i := 4) (v := .bool true) rfl (by kernel_rfl) (by kernel_rfl) (by kernel_rfl) (yl_other (by decide) (by decide) rfl (fun f1 f2 wx hT => ?_)) ?_
  · exact lands_neq _ _ rfl (tsV v y) u1 rfl rfl (mod_lt_M _) hu1 true (by rw [decide_eq_false C2.out]; rfl) hT
  simp only [pu]
  refine anyL_done (by kernel_rfl) (fun w7 (h7 : KF w.heap.size w [(g6, F4 y), (w.heap.size, F4 u1), (w.heap.size + 1, F4 v), (w.heap.size + 2, zF)] w7) => ?_) _
  clear h6
  go_wp2_with (refine wpList_store_row rfl 40 _ _ rfl (w.heap.size + 2) (r64 4 (F4 0)) rfl (congrArg Value.agg zero4F) 40 _ (h7.blk _ m3) (HS.out _) (by simp only [row_size]) (row_one fun _ => rfl) ?_)
  exact bodyPost_ret (results_cell_row_slot rfl _ _ (w.heap.size + 2) 40 (r64 4 (F4 0)) (0, 0) _ _ rfl ((h7.blk _ m3).row_ _) Tryz.underlying40 rfl (HS.out _) rfl) rfl ⟨by rw [HV.out, HE.out]; rfl, below_setRow' h7.b (by omega) _⟩
theorem froot_any (u v : Nat) (w : World) (hu : u < M256) (hv : v < M256) :
    Calls Tryz.prog 88 #[.agg (r64 4 (F4 u)), .agg (r64 4 (F4 v))] w fun e w' => e = .returned (.tuple #[.agg (r64 4 (F4 (rootV u v).1)), .bool (rootV u v).2]) ∧ Below w.heap.size w w' := by
  by_cases c : tsV v (nearV (u % pP) v) = u % pP
  · exact froot_1 u v w hu hv c
  · by_cases c2 : tsV v (nearV (u % pP) v * iR % pP) = u % pP
    · exact froot_2 u v w hu hv c c2
    · exact froot_3 u v w hu hv c c2
end Go.Proofs.YtggalphgnloneaaGreat
/- What the drawn regions of the laws want: words of a literal, roots of small numbers. -/
namespace Go.Proofs.YtggalphgnloneaaGreat
open Go.RowKit
theorem fright_true (a : Nat) (w : World) (ha : a < M256) (h : a % pP = a) :
    Calls Tryz.prog 86 #[.agg (r64 4 (F4 a))] w fun e w' => e = .returned (.bool true) ∧ Below w.heap.size w w' := by
  have := fright_any a w ha
  rw [decide_eq_true h] at this; exact this
theorem fright_false (a : Nat) (w : World) (ha : a < M256) (h : ¬ a % pP = a) :
    Calls Tryz.prog 86 #[.agg (r64 4 (F4 a))] w fun e w' => e = .returned (.bool false) ∧ Below w.heap.size w w' := by
  have := fright_any a w ha
  rw [decide_eq_false h] at this; exact this
/-- A literal of four words, built. -/
theorem lands_lit {P : Program} {R : World → Prop} {o : Oper} {ac : Act} {w : World} (T : TypeId) (parts : Array (Nat × Operand)) (ho : o.op = .build T parts) (cs : Array Value)
    (hb : P.built T (parts.map fun (i, x) => (i, ac.eval x)).toList = some cs) (hR : R w) : Lands P R (.agg cs) ((execOp ac.eval o).run P w) := by
  have : (execOp ac.eval o).run P w = .ok (.value (.agg cs)) w := by
    unfold execOp
    simp only [ho, Sem.run_bind, run_build w _ _ _ hb, Result.andThen_ok, Sem.run_pure]
  rw [this]; exact ⟨rfl, hR⟩
theorem e8_pow (a : Nat) : a ^ E8 % pP = pmod pP a 253 E8 := (pmod_eq pP a 253 E8 (by decide)).symm
theorem near_pmod (u v : Nat) : nearV u v = (u * cuV v % pP) * pmod pP (u * seV v % pP) 253 E8 % pP := by
  unfold nearV pwV; rw [e8_pow]
theorem root_pmod (u v : Nat) : rootV u v = rootW (u % pP) v ((u % pP * cuV v % pP) * pmod pP (u % pP * seV v % pP) 253 E8 % pP) := by
  unfold rootV; rw [near_pmod]
end Go.Proofs.YtggalphgnloneaaGreat
/- What the laws' walks need: a region met at its beginning, in the text's order too; calls' boxes. -/
namespace Go.Proofs.YtggalphgnloneaaGreat
open Go.RowKit
section
variable {P : Program} {ops : Array Oper} {Q : Exit → Act → World → Prop}
theorem wpList_val {R : World → Prop} {o : Oper} {rest : List Oper} {a : Act} {w : World} (v : Value) (hg : o.guard = none) (h : Lands P R v ((execOp a.eval o).run P w)) (k : ∀ w', R w' → wpList P ops Q rest (a.put o.dst v) w') : wpList P ops Q (o :: rest) a w :=
  wpList_plain hg fun _ hK => h.upon fun w' hR => hK _ _ (k w' hR)
theorem wpList_valG {R : World → Prop} {o : Oper} {rest : List Oper} {a : Act} {w : World} (v : Value) (hw : Region.wanted o (yielded ops a.tmps) = true) (h : Lands P R v ((execOp a.eval o).run P w)) (k : ∀ w', R w' → wpList P ops Q rest (a.put o.dst v) w') : wpList P ops Q (o :: rest) a w :=
  wpList_step fun _ hK => by rw [if_pos hw]; exact h.upon fun w' hR => hK _ _ (k w' hR)
end
theorem KF.start1 (a : Nat) (w : World) : KF w.heap.size w [(w.heap.size, F4 a)] (w.alloc (.cells (r64 4 (F4 a)) 40)) := KF.mk1 w (F4 a)
end Go.Proofs.YtggalphgnloneaaGreat
/- The field's calls in words that no step of a walk opens. -/
namespace Go.Proofs.YtggalphgnloneaaGreat
open Go.RowKit
def addP (a b : Nat) : Nat := (a + b) % pP
def mulP (a b : Nat) : Nat := a * b % pP
def negP (a : Nat) : Nat := (pP - a % pP) % pP
def subP (a b : Nat) : Nat := (a + (pP - b % pP)) % pP
def invP (a : Nat) : Nat := a ^ (pP - 2) % pP
def powP (a e : Nat) : Nat := a ^ e % pP
theorem addP_lt (a b : Nat) : addP a b < M256 := mod_lt_M _
theorem mulP_lt (a b : Nat) : mulP a b < M256 := mod_lt_M _
theorem negP_lt (a : Nat) : negP a < M256 := mod_lt_M _
theorem subP_lt (a b : Nat) : subP a b < M256 := mod_lt_M _
theorem invP_lt (a : Nat) : invP a < M256 := mod_lt_M _
theorem powP_lt (a e : Nat) : powP a e < M256 := mod_lt_M _
theorem faddP (a b : Nat) (w : World) (ha : a < M256) (hb : b < M256) :
    Calls Tryz.prog 91 #[.agg (r64 4 (F4 a)), .agg (r64 4 (F4 b))] w fun e w' => e = .returned (.agg (r64 4 (F4 (addP a b)))) ∧ Below w.heap.size w w' := fadd_any a b w ha hb
theorem fmulP (a b : Nat) (w : World) (ha : a < M256) (hb : b < M256) :
    Calls Tryz.prog 87 #[.agg (r64 4 (F4 a)), .agg (r64 4 (F4 b))] w fun e w' => e = .returned (.agg (r64 4 (F4 (mulP a b)))) ∧ Below w.heap.size w w' := fmul_any a b w ha hb
theorem fsubP (a b : Nat) (w : World) (ha : a < M256) (hb : b < M256) :
    Calls Tryz.prog 89 #[.agg (r64 4 (F4 a)), .agg (r64 4 (F4 b))] w fun e w' => e = .returned (.agg (r64 4 (F4 (subP a b)))) ∧ Below w.heap.size w w' := fsub_any a b w ha hb
theorem fnegP (a : Nat) (w : World) (ha : a < M256) :
    Calls Tryz.prog 62 #[.agg (r64 4 (F4 a))] w fun e w' => e = .returned (.agg (r64 4 (F4 (negP a)))) ∧ Below w.heap.size w w' := fneg_any a w ha
theorem finvP (a : Nat) (w : World) (ha : a < M256) :
    Calls Tryz.prog 96 #[.agg (r64 4 (F4 a))] w fun e w' => e = .returned (.agg (r64 4 (F4 (invP a)))) ∧ Below w.heap.size w w' := finv_any a w ha
def oddP (a : Nat) : Bool := oddB (a % pP)
theorem foddP (a : Nat) (w : World) (ha : a < M256) :
    Calls Tryz.prog 56 #[.agg (r64 4 (F4 a))] w fun e w' => e = .returned (.bool (oddP a)) ∧ Below w.heap.size w w' := fodd_any a w ha
theorem foddB (a : Nat) (w : World) (ha : a < M256) (b : Bool) (h : oddP a = b) :
    Calls Tryz.prog 56 #[.agg (r64 4 (F4 a))] w fun e w' => e = .returned (.bool b) ∧ Below w.heap.size w w' := by
  subst h; exact foddP a w ha
end Go.Proofs.YtggalphgnloneaaGreat
/- The inverse modulo p. -/
namespace Go.Proofs.YtggalphgnloneaaGreat
end Go.Proofs.YtggalphgnloneaaGreat
/- Square roots modulo p. -/
namespace Go.Proofs.YtggalphgnloneaaGreat
open Go.RowKit
theorem prime_pP : IsPrime pP := lucasP.1
theorem prod_zero {a b : Nat} (h : a * b % pP = 0) : a % pP = 0 ∨ b % pP = 0 := by
  rcases prime_pP.euclid (Nat.dvd_of_mod_eq_zero h) with h | h
  · exact .inl (Nat.mod_eq_zero_of_dvd h)
  · exact .inr (Nat.mod_eq_zero_of_dvd h)
theorem mod_cancel {a c : Nat} (h : (a + c) % pP = c % pP) : a % pP = 0 := by
  have := Nat.sub_mod_eq_zero_of_mod_eq h
  rwa [Nat.add_sub_cancel] at this
theorem sq_eq {x y : Nat} (h : x * x % pP = y * y % pP) : x % pP = y % pP ∨ x % pP = (pP - y % pP) % pP := by
  have hy := Nat.mod_lt y (show 0 < pP by decide)
  have h' : x * x % pP = (y % pP) * (y % pP) % pP := by rw [h, Nat.mul_mod]
  generalize y % pP = z at *
  have e : (x + (pP - z)) * (x + z) + z * z = x * x + pP * (x + z) := by
    obtain ⟨d, hd⟩ : ∃ d, pP = z + d := ⟨pP - z, by omega⟩
    rw [hd, Nat.add_sub_cancel_left]
    simp only [Nat.mul_add, Nat.mul_comm]
    omega
  have h2 : ((x + (pP - z)) * (x + z) + z * z) % pP = z * z % pP := by
    rw [e, Nat.add_mul_mod_self_left, h']
  rcases prod_zero (mod_cancel h2) with h3 | h3
  · left; unfold pP at *; omega
  · right
    by_cases hz : z = 0
    · subst hz; rw [Nat.add_zero] at h3; rw [h3]; decide
    · rw [Nat.mod_eq_of_lt (show pP - z < pP by omega)]; unfold pP at *; omega
theorem neg_sq (y : Nat) : (pP - y % pP) % pP * ((pP - y % pP) % pP) % pP = y * y % pP := by
  have hy := Nat.mod_lt y (show 0 < pP by decide)
  rw [Nat.mul_mod y y]
  generalize y % pP = z at *
  rw [Nat.mod_mul_mod, Nat.mul_mod_mod]
  obtain ⟨d, hd⟩ : ∃ d, pP = z + d := ⟨pP - z, by omega⟩
  have e : pP - z = d := by omega
  rw [e]
  have h : d * d + pP * z = z * z + pP * d := by
    rw [hd, Nat.add_mul, Nat.add_mul, Nat.mul_comm d z]; omega
  have h1 : (d * d + pP * z) % pP = (z * z + pP * d) % pP := by rw [h]
  rwa [Nat.add_mul_mod_self_left, Nat.add_mul_mod_self_left] at h1
def H2 : Nat := (pP - 1) / 2
theorem half_one {t : Nat} (h : ¬ t % pP = 0) : t ^ H2 % pP = 1 ∨ t ^ H2 % pP = pP - 1 := by
  have h1 : t ^ H2 * t ^ H2 % pP = 1 * 1 % pP := by
    rw [← Nat.pow_add, show H2 + H2 = pP - 1 by decide]
    exact fermatP t h
  rcases sq_eq h1 with h2 | h2
  · left; rw [h2]; decide
  · right; rw [h2]; decide
/-- What Root's first try, squared, and times v, is. -/
theorem near_ts (u v : Nat) : tsV v (nearV u v) = u * (u * v ^ 7) ^ (2 * E8 + 1) % pP := by
  have e1 : cuV v = v ^ 3 % pP := by
    unfold cuV sqV; rw [Nat.mod_mul_mod]; congr 1
    simp only [Nat.pow_succ, Nat.pow_zero, Nat.one_mul]
  have e2 : seV v = v ^ 7 % pP := by
    unfold seV; rw [e1]; unfold sqV
    rw [Nat.mul_mod_mod, Nat.mod_mul_mod, Nat.mul_mod (v * v % pP * (v * v % pP)) (v ^ 3), ← Nat.mul_mod (v * v) (v * v), ← Nat.mul_mod]; congr 1
    simp only [Nat.pow_succ, Nat.pow_zero, Nat.one_mul, Nat.mul_assoc]
  have e3 : pwV u v = (u * v ^ 7) ^ E8 % pP := by
    unfold pwV; rw [e2, Nat.mul_mod_mod, ← Nat.pow_mod]
  have e4 : nearV u v = u * v ^ 3 * (u * v ^ 7) ^ E8 % pP := by
    unfold nearV; rw [e1, e3, Nat.mul_mod_mod u, ← Nat.mul_mod]
  unfold tsV
  rw [e4, ← Nat.mul_mod, Nat.mul_mod_mod]
  congr 1
  have hp : (u * v ^ 7) ^ (2 * E8 + 1) = (u * v ^ 7) ^ E8 * (u * v ^ 7) ^ E8 * (u * v ^ 7) := by
    rw [Nat.pow_succ, Nat.two_mul, Nat.pow_add]
  rw [hp]
  generalize (u * v ^ 7) ^ E8 = q
  have h7 : v ^ 7 = v * (v ^ 3 * v ^ 3) := by
    rw [← Nat.pow_add, Nat.mul_comm, ← Nat.pow_succ]
  rw [h7]
  generalize v ^ 3 = c
  simp only [Nat.mul_comm, Nat.mul_left_comm]
theorem iR_sq : iR * iR % pP = pP - 1 := by decide
/-- With the root of -1 the square turns. -/
theorem ts_turn (v x : Nat) : tsV v (x * iR % pP) = tsV v x * (pP - 1) % pP := by
  unfold tsV
  rw [← Nat.mul_mod, Nat.mul_mod_mod, Nat.mul_mod_mod, Nat.mod_mul_mod, ← iR_sq, Nat.mul_mod_mod]
  congr 1
  simp only [Nat.mul_comm, Nat.mul_left_comm]
theorem ts_neg (v y : Nat) : tsV v ((pP - y % pP) % pP) = tsV v y := by
  unfold tsV; rw [neg_sq]
/-- If u is v times a square, one of the two tries is a root. -/
theorem near_found {u v z : Nat} (h : u % pP = v * (z * z) % pP) : tsV v (nearV (u % pP) v) = u % pP ∨ tsV v (nearV (u % pP) v * iR % pP) = u % pP := by
  rw [ts_turn, near_ts]
  have hu := Nat.mod_lt u (show 0 < pP by decide)
  generalize hU : u % pP = U at *
  have e0 : U * v ^ 7 % pP = (v ^ 4 * z) * (v ^ 4 * z) % pP := by
    rw [h, Nat.mod_mul_mod]; congr 1
    rw [show v ^ 7 = v ^ 4 * (v * v * v) by simp only [Nat.pow_succ, Nat.pow_zero, Nat.one_mul, Nat.mul_assoc], show v ^ 4 = v * (v * v * v) by simp only [Nat.pow_succ, Nat.pow_zero, Nat.one_mul, Nat.mul_assoc]]
    generalize v * v * v = c
    simp only [Nat.mul_comm, Nat.mul_left_comm]
  have e1 : (U * v ^ 7) ^ (2 * E8 + 1) % pP = (v ^ 4 * z) ^ H2 % pP := by
    rw [Nat.pow_mod, e0, ← Nat.pow_mod, ← Nat.pow_two, ← Nat.pow_mul, show 2 * (2 * E8 + 1) = H2 by decide]
  have e2 : U * (U * v ^ 7) ^ (2 * E8 + 1) % pP = U * ((v ^ 4 * z) ^ H2 % pP) % pP := by
    rw [Nat.mul_mod, e1, ← Nat.mul_mod_mod U, Nat.mod_mod, Nat.mod_mul_mod]
  rw [e2]
  by_cases ht : v ^ 4 * z % pP = 0
  · left
    have hU0 : U = 0 := by
      have hv : v * (z * z) % pP = 0 := by
        rcases prod_zero ht with h4 | hz
        · have hv0 : v % pP = 0 := by
            rcases prod_zero (a := v ^ 2) (b := v ^ 2) (by rw [← Nat.pow_add]; exact h4) with h5 | h5 <;>
              (rw [Nat.pow_two] at h5; rcases prod_zero h5 with h6 | h6 <;> exact h6)
          rw [Nat.mul_mod, hv0, Nat.zero_mul, Nat.zero_mod]
        · rw [Nat.mul_mod, Nat.mul_mod z, hz, Nat.zero_mul, Nat.zero_mod, Nat.mul_zero, Nat.zero_mod]
      omega
    rw [hU0, Nat.zero_mul, Nat.zero_mod]
  · rcases half_one ht with h1 | h1
    · left; rw [h1, Nat.mul_one, Nat.mod_eq_of_lt hu]
    · right
      rw [h1, Nat.mod_mul_mod, Nat.mul_assoc]
      rw [Nat.mul_mod, show (pP - 1) * (pP - 1) % pP = 1 by decide, Nat.mul_one, Nat.mod_mod, Nat.mod_eq_of_lt hu]
theorem near_lt (u v : Nat) : nearV u v < pP := Nat.mod_lt _ (by decide)
theorem rootW_fst {u v y x : Nat} (hy : y < pP) (c : tsV v y = u) (h : x = if oddB (y % pP) then (pP - y % pP) % pP else y) : tsV v x = u ∧ x < pP ∧ oddB (x % pP) = false := by
  cases ho : oddB (y % pP) with
  | true =>
    rw [ho, if_pos rfl] at h
    subst h
    refine ⟨by rw [ts_neg]; exact c, Nat.mod_lt _ (by decide), ?_⟩
    unfold oddB at ho ⊢
    rw [Nat.mod_eq_of_lt hy] at ho ⊢
    rw [decide_eq_true_eq] at ho
    rw [Nat.mod_mod, Nat.mod_eq_of_lt (show pP - y < pP by omega), decide_eq_false_iff_not]
    unfold pP at *; omega
  | false =>
    rw [ho, if_neg (by decide)] at h
    subst h
    exact ⟨c, hy, ho⟩
/-- What Root finds is a root, below p, and even. -/
theorem rootW_ok {u v x0 x : Nat} (h0 : x0 < pP) (h : rootW u v x0 = (x, true)) : tsV v x = u ∧ x < pP ∧ oddB (x % pP) = false := by
  by_cases c1 : tsV v x0 = u
  · cases ho : oddB (x0 % pP) with
    | true => rw [rootW_a c1 ho] at h; exact rootW_fst h0 c1 (by rw [ho, if_pos rfl]; exact (congrArg Prod.fst h).symm)
    | false => rw [rootW_b c1 ho] at h; exact rootW_fst h0 c1 (by rw [ho, if_neg (by decide)]; exact (congrArg Prod.fst h).symm)
  · obtain ⟨y, hy⟩ : ∃ y, x0 * iR % pP = y := ⟨_, rfl⟩
    have hyl : y < pP := by rw [← hy]; exact Nat.mod_lt _ (by decide)
    by_cases c2 : tsV v y = u
    · cases ho : oddB (y % pP) with
      | true => rw [rootW_c hy c1 c2 ho] at h; exact rootW_fst hyl c2 (by rw [ho, if_pos rfl]; exact (congrArg Prod.fst h).symm)
      | false => rw [rootW_d hy c1 c2 ho] at h; exact rootW_fst hyl c2 (by rw [ho, if_neg (by decide)]; exact (congrArg Prod.fst h).symm)
    · rw [rootW_e hy c1 c2] at h
      have := congrArg Prod.snd h
      cases this
theorem rootW_no {u v x0 : Nat} (h : (rootW u v x0).2 = false) : rootW u v x0 = (0, false) := by
  by_cases c1 : tsV v x0 = u
  · cases ho : oddB (x0 % pP) with
    | true => rw [rootW_a c1 ho] at h; cases h
    | false => rw [rootW_b c1 ho] at h; cases h
  · obtain ⟨y, hy⟩ : ∃ y, x0 * iR % pP = y := ⟨_, rfl⟩
    by_cases c2 : tsV v y = u
    · cases ho : oddB (y % pP) with
      | true => rw [rootW_c hy c1 c2 ho] at h; cases h
      | false => rw [rootW_d hy c1 c2 ho] at h; cases h
    · exact rootW_e hy c1 c2
theorem rootW_found {u v x0 : Nat} (h : tsV v x0 = u ∨ tsV v (x0 * iR % pP) = u) : (rootW u v x0).2 = true := by
  cases hb : (rootW u v x0).2 with
  | true => rfl
  | false =>
    exfalso
    by_cases c1 : tsV v x0 = u
    · cases ho : oddB (x0 % pP) with
      | true => rw [rootW_a c1 ho] at hb; cases hb
      | false => rw [rootW_b c1 ho] at hb; cases hb
    · have c2 := h.resolve_left c1
      cases ho : oddB (x0 * iR % pP % pP) with
      | true => rw [rootW_c rfl c1 c2 ho] at hb; cases hb
      | false => rw [rootW_d rfl c1 c2 ho] at hb; cases hb
theorem rootV_ok {u v x : Nat} (h : rootV u v = (x, true)) : tsV v x = u % pP ∧ x < pP ∧ oddB (x % pP) = false := rootW_ok (near_lt _ _) h
theorem rootV_no {u v : Nat} (h : (rootV u v).2 = false) : rootV u v = (0, false) := rootW_no h
theorem rootV_found {u v z : Nat} (h : u % pP = v * (z * z) % pP) : (rootV u v).2 = true := rootW_found (near_found h)
end Go.Proofs.YtggalphgnloneaaGreat
/- An array of four words among a law's parameters. -/
namespace Go.Proofs.YtggalphgnloneaaGreat
open Go.RowKit Go.ChangeShapes Go.WideShapes Go.ChangeAt
section
variable {H : Type} {enc : TypeId × Value → H} {P : Program} {w : World} {base : Nat} {spare : Nat → Bool} {held : Bool}
end
end Go.Proofs.YtggalphgnloneaaGreat
/- A number by its bytes: what the layer field wants besides. -/
namespace Go.Proofs.YtggalphgnloneaaGreat
end Go.Proofs.YtggalphgnloneaaGreat
/- Make of the layer field. -/
namespace Go.Proofs.YtggalphgnloneaaGreat
open Go.RowKit
def makeV (s : ByteArray) : Nat × Bool := if s.size = 32 then (if bv (byteS s) 32 % pP = bv (byteS s) 32 then (bv (byteS s) 32, true) else (0, false)) else (0, false)
/-- Within Make: the result, and the number so far. -/
structure MkW (s : ByteArray) (k : Nat) (w wr : World) : Prop where
  r : Blk wr w.heap.size 40 (r64 4 zF)
  o : Blk wr (w.heap.size + 1) 40 (r64 4 (F4 (bv (byteS s) k)))
  l : Below w.heap.size w wr
theorem MkW.drew {s : ByteArray} {k : Nat} {w wr : World} (h : MkW s k w wr) : MkW s k w wr.drew := ⟨h.r, h.o, h.l.drew⟩
theorem MkW.below {s : ByteArray} {k : Nat} {w wr w' : World} (h : MkW s k w wr) (hb : Below wr.heap.size wr w') : MkW s k w w' := ⟨h.r.below hb h.r.lt, h.o.below hb h.o.lt, h.l.trans (hb.mono h.l.size)⟩
theorem MkW.put {s : ByteArray} {k q r : Nat} {w wr : World} (h : MkW s k w wr) (hk : k = 8 * q + r) (hr : r < 8) (hq : q < 4) : MkW s (k + 1) w (wr.setCell ⟨w.heap.size + 1, q, none⟩ (.int .u64 (iw (orw (F4 (bv (byteS s) k) q) (shlw (nw (byteS s k)) (8 * r)))))) :=
  ⟨h.r.far (by simp) _, (h.o.put hq _).cast_ (row_ext fun i hi => by
    subst hk
    by_cases h1 : i = q
    · subst h1; rw [if_pos rfl, bv_word _ (byteS_lt s) _ _ hr]
    · rw [if_neg h1, bv_other _ (byteS_lt s) q r i hr h1]), h.l.setCell (by simp) _⟩
theorem bv_zero (f : Nat → Nat) : r64 4 zF = r64 4 (F4 (bv f 0)) := row_ext fun i _ => by
  show _ = Value.int .u64 (iw (F4 0 i)); rw [F4_zero]; rfl
theorem bv_ltM (s : ByteArray) : bv (byteS s) 32 < M256 := bv_lt _ (byteS_lt s) 32
set_option maxRecDepth 100000 in
set_option maxHeartbeats 2000000 in
theorem fmake_short (s : ByteArray) (w : World) (h : ¬ s.size = 32) :
    Calls Tryz.prog 50 #[.string s] w fun e w' => e = .returned (.tuple #[.agg (r64 4 (F4 0)), .bool false]) ∧ Below w.heap.size w w' := by
  have HS := Lib.hid fe_size
  have hc : ((s.size : Int) != 32) = true := by rw [bne_iff_ne]; omega
  have hb := builtE
  have Z0 : Blk (w.alloc (.cells #[.int .u64 0, .int .u64 0, .int .u64 0, .int .u64 0] 40)) w.heap.size 40 (r64 4 zF) := (Blk.new w _ _).cast_ zero4'
  go_enter Tryz.func50, Tryz.ntmps50
  go_wp2_with (refine wpList_store_row rfl 40 _ _ rfl w.heap.size (r64 4 (F4 0)) rfl (congrArg Value.agg zero4F) 40 _ Z0 (HS.out _) (by simp only [row_size]) (row_one fun _ => rfl) ?_)
  exact bodyPost_ret (results_cell_row_slot rfl _ _ w.heap.size 40 (r64 4 (F4 0)) (0, 0) _ _ rfl (Z0.row_ _) Tryz.underlying40 rfl (HS.out _) rfl) rfl ⟨rfl, below_setRow' ((Below.refl _ _).alloc (Nat.le_refl _) _) (by omega) _⟩
set_option maxRecDepth 100000 in
set_option maxHeartbeats 4000000 in
theorem fmake_long (s : ByteArray) (w : World) (h : s.size = 32) :
    Calls Tryz.prog 50 #[.string s] w fun e w' => e = .returned (.tuple #[.agg (r64 4 (F4 (makeV s).1)), .bool (makeV s).2]) ∧ Below w.heap.size w w' := by
  have HS := Lib.hid fe_size
  have hc : ((s.size : Int) != 32) = false := by rw [h]; rfl
  have hb := builtE
  have H := Lib.hid h
  have hal : Tryz.prog.arrayLen 40 = 4 := by kernel_rfl
  clear h
  go_enter Tryz.func50, Tryz.ntmps50
  go_wp2_with fail
  clear hc
  go_loopw [10] (fun i wr => ∃ k : Nat, k ≤ 32 ∧ i = .int .i64 (k : Int) ∧ MkW s k w wr) (fun i _ => 32 - (intOf i).toNat)
  case atStart => exact ⟨0, by omega, rfl, ⟨((Blk.new w _ _).alloc _).cast_ zero4', (Blk.new _ _ _).cast' ⟨by simp, zero4'.trans (bv_zero _)⟩, ((Below.refl _ _).alloc (Nat.le_refl _) _).alloc (by simp) _⟩⟩
  case round =>
    obtain ⟨k, hk, rfl, hr⟩ := hrel
    by_cases hlt : k < 32
    · obtain ⟨q, hqd⟩ : ∃ q, q = k / 8 := ⟨_, rfl⟩
      obtain ⟨r, hrd⟩ : ∃ r, r = k % 8 := ⟨_, rfl⟩
      have hq4 : q < 4 := by omega
      have hr8' : r < 8 := by omega
      have hq : (k : Int).tdiv 8 = (q : Int) := by rw [Int.tdiv_eq_ediv_of_nonneg (by omega)]; omega
      have hr8 : (k : Int).tmod 8 = (r : Int) := by rw [Int.tmod_eq_emod_of_nonneg (by omega)]; omega
      have hks : k < s.size := by rw [H.out]; exact hlt
      have HB := Lib.hid (byteS_at s k hks)
      have hb256 := byteS_lt s k
      have hkq : k = 8 * q + r := by omega
      have HPUT : Hid (∀ wx, MkW s k w wx → MkW s (k + 1) w (wx.setCell ⟨w.heap.size + 1, q, none⟩ (.int .u64 (iw (orw (F4 (bv (byteS s) k) q) (shlw (nw (byteS s k)) (8 * r))))))) := Lib.hid (fun wx hx => hx.put hkq hr8' hq4)
      have hl0 : (q : Int) < 4 := by omega
      have hl1 : (0 : Int) ≤ q := by omega
      clear hqd hrd hkq
      go_wp2_with fail
      refine wp_region_anyL (Two 14 1000 fun f1 _ wx => MkW s (if f1 then k + 1 else k) w wx) (by kernel_rfl) hr.drew ?_
      refine anyL_take (i := 0) (v := ?_) rfl (by kernel_rfl) (by kernel_rfl) (by kernel_rfl) (yl_other (by decide) (by decide) rfl (fun f1 f2 wx hT => ?_)) ?_; rotate_left
      · refine lands_value (w := wx) ?_ hT; go_simp <;> rfl
      simp only [pu]
      refine anyL_take (i := 1) (v := .int .i64 (q : Int)) rfl (by kernel_rfl) (by kernel_rfl) (by kernel_rfl) (yl_other (by decide) (by decide) rfl (fun f1 f2 wx hT => ?_)) ?_
      · refine lands_value (w := wx) ?_ hT; go_simp; exact IntWalk.i64_in _ (by omega)
      simp only [pu]
      refine anyL_take (i := 2) (v := ?_) rfl (by kernel_rfl) (by kernel_rfl) (by kernel_rfl) (yl_other (by decide) (by decide) rfl (fun f1 f2 wx hT => ?_)) ?_; rotate_left
      · refine lands_value (w := wx) ?_ hT; go_simp <;> rfl
      simp only [pu]
      refine anyL_take (i := 3) (v := .int .u64 (iw (F4 (bv (byteS s) k) q))) rfl (by kernel_rfl) (by kernel_rfl) (by kernel_rfl) (yl_ahead (n := 9) (by decide) (by decide) (by kernel_rfl) rfl (fun f2 wx hT => ?_)) ?_
      · have c0 := hT.o.at_ hq4; refine lands_value (w := wx) ?_ hT; go_simp; skip
      simp only [pu]
      refine anyL_take (i := 4) (v := ?_) rfl (by kernel_rfl) (by kernel_rfl) (by kernel_rfl) (yl_other (by decide) (by decide) rfl (fun f1 f2 wx hT => ?_)) ?_; rotate_left
      · refine lands_value (w := wx) ?_ hT; go_simp <;> rfl
      simp only [pu]
      refine anyL_take (i := 5) (v := ?_) rfl (by kernel_rfl) (by kernel_rfl) (by kernel_rfl) (yl_other (by decide) (by decide) rfl (fun f1 f2 wx hT => ?_)) ?_; rotate_left
      · refine lands_value (w := wx) ?_ hT; go_simp <;> rfl
      simp only [pu]
      refine anyL_take (i := 6) (v := .int .u8 (byteS s k : Int)) rfl (by kernel_rfl) (by kernel_rfl) (by kernel_rfl) (yl_other (by decide) (by decide) rfl (fun f1 f2 wx hT => ?_)) ?_
      · refine lands_value (w := wx) ?_ hT; go_simp; rw [HB.out]
      simp only [pu]
      refine anyL_take (i := 7) (v := .int .u64 (iw (nw (byteS s k)))) rfl (by kernel_rfl) (by kernel_rfl) (by kernel_rfl) (yl_other (by decide) (by decide) rfl (fun f1 f2 wx hT => ?_)) ?_
      · refine lands_value (w := wx) ?_ hT; go_simp; unfold iw; rw [nw_nat _ (by unfold W64; omega), IntKind.wrap_u64]; omega
      simp only [pu]
      refine anyL_take (i := 8) (v := ?_) rfl (by kernel_rfl) (by kernel_rfl) (by kernel_rfl) (yl_other (by decide) (by decide) rfl (fun f1 f2 wx hT => ?_)) ?_; rotate_left
      · refine lands_value (w := wx) ?_ hT; go_simp <;> rfl
      simp only [pu]
      refine anyL_take (i := 9) (v := .int .i64 (r : Int)) rfl (by kernel_rfl) (by kernel_rfl) (by kernel_rfl) (yl_other (by decide) (by decide) rfl (fun f1 f2 wx hT => ?_)) ?_
      · refine lands_value (w := wx) ?_ hT; go_simp; skip
      simp only [pu]
      refine anyL_take (i := 10) (v := .int .i64 ((8 * r : Nat) : Int)) rfl (by kernel_rfl) (by kernel_rfl) (by kernel_rfl) (yl_other (by decide) (by decide) rfl (fun f1 f2 wx hT => ?_)) ?_
      · refine lands_value (w := wx) ?_ hT; go_simp; rw [IntWalk.i64_in _ (by omega)]; omega
      simp only [pu]
      refine anyL_take (i := 11) (v := .int .u64 (iw (shlw (nw (byteS s k)) (8 * r)))) rfl (by kernel_rfl) (by kernel_rfl) (by kernel_rfl) (yl_other (by decide) (by decide) rfl (fun f1 f2 wx hT => ?_)) ?_
      · refine lands_value (w := wx) ?_ hT; go_simp; rw [show (8 * (r : Int)).toNat = 8 * r by omega]
      simp only [pu]
      refine anyL_take (i := 12) (v := .int .u64 (iw (orw (F4 (bv (byteS s) k) q) (shlw (nw (byteS s k)) (8 * r))))) rfl (by kernel_rfl) (by kernel_rfl) (by kernel_rfl) (yl_other (by decide) (by decide) rfl (fun f1 f2 wx hT => ?_)) ?_
      · refine lands_value (w := wx) ?_ hT; go_simp; skip
      simp only [pu]
      refine anyL_take (i := 13) (v := ?_) rfl (by kernel_rfl) (by kernel_rfl) (by kernel_rfl) (yl_other (by decide) (by decide) rfl (fun f1 f2 wx hT => ?_)) ?_; rotate_left
      · refine lands_value (w := wx) ?_ hT; go_simp <;> rfl
      simp only [pu]
      refine anyL_take (i := 14) (v := undef) rfl (by kernel_rfl) (by kernel_rfl) (by kernel_rfl) (yl_first (by decide) rfl (fun f2 wx hT => ?_)) ?_
      · have co := hT.o.at_ hq4; have fo := hT.o.frozen q; have K := HPUT.out _ hT; go_simp; exact ⟨rfl, K⟩
      simp only [Act.put]
      refine anyL_done (by kernel_rfl) (fun w3 (K : MkW s (k + 1) w w3) => ?_) _
      clear hr HPUT hq hr8
      go_wp2_with fail
      go_roundw
      case rel => exact ⟨k + 1, by omega, by go_num, K⟩
      case measure => simp [intOf]; omega
    · obtain rfl : k = 32 := by omega
      have hl := bv_ltM s
      have ho := hr.o
      have hz := hr.r
      have hL := hr.l
      clear hr
      by_cases c : bv (byteS s) 32 % pP = bv (byteS s) 32
      · have HV : Hid (makeV s = (bv (byteS s) 32, true)) := Lib.hid (by unfold makeV; rw [if_pos H.out, if_pos c])
        have CR := Lib.hid (fun w => fright_true (bv (byteS s) 32) w hl c)
        clear c hlt hk
        generalize bv (byteS s) 32 = n at HV CR ho hl
        go_wp2_with (refine wpList_load_row rfl 40 _ rfl (w.heap.size + 1) rfl 40 _ (0, 0) _ ho Tryz.underlying40 rfl (HS.out _) ?_)
        refine (CR.out _).mono ?_
        rintro e w3 ⟨rfl, hq⟩
        have ho3 := ho.below hq ho.lt
        have hz3 := hz.below hq hz.lt
        have hL3 := hL.trans (hq.mono hL.size)
        clear ho hz hL hq CR
        go_wp2_with (first
          | (refine wpList_load_row rfl 40 _ rfl (w.heap.size + 1) rfl 40 _ (0, 0) _ ho3 Tryz.underlying40 rfl (HS.out _) ?_)
          | (refine wpList_store_row rfl 40 _ _ rfl w.heap.size (r64 4 (F4 n)) rfl rfl 40 _ hz3 (HS.out _) (by simp only [row_size]) (row_one fun _ => rfl) ?_))
        exact bodyPost_ret (results_cell_row_slot rfl _ _ w.heap.size 40 (r64 4 (F4 n)) (0, 0) _ _ rfl (hz3.row_ _) Tryz.underlying40 rfl (HS.out _) rfl) rfl ⟨by rw [HV.out]; rfl, below_setRow' hL3 (by omega) _⟩
      · have HV : Hid (makeV s = (0, false)) := Lib.hid (by unfold makeV; rw [if_pos H.out, if_neg c])
        have CR := Lib.hid (fun w => fright_false (bv (byteS s) 32) w hl c)
        clear c hlt hk
        generalize bv (byteS s) 32 = n at HV CR ho hl
        go_wp2_with (refine wpList_load_row rfl 40 _ rfl (w.heap.size + 1) rfl 40 _ (0, 0) _ ho Tryz.underlying40 rfl (HS.out _) ?_)
        refine (CR.out _).mono ?_
        rintro e w3 ⟨rfl, hq⟩
        have hz3 := hz.below hq hz.lt
        have hL3 := hL.trans (hq.mono hL.size)
        clear ho hz hL hq CR
        go_wp2_with (refine wpList_store_row rfl 40 _ _ rfl w.heap.size (r64 4 (F4 0)) rfl (congrArg Value.agg zero4F) 40 _ hz3 (HS.out _) (by simp only [row_size]) (row_one fun _ => rfl) ?_)
        exact bodyPost_ret (results_cell_row_slot rfl _ _ w.heap.size 40 (r64 4 (F4 0)) (0, 0) _ _ rfl (hz3.row_ _) Tryz.underlying40 rfl (HS.out _) rfl) rfl ⟨by rw [HV.out]; rfl, below_setRow' hL3 (by omega) _⟩
theorem fmake_any (s : ByteArray) (w : World) :
    Calls Tryz.prog 50 #[.string s] w fun e w' => e = .returned (.tuple #[.agg (r64 4 (F4 (makeV s).1)), .bool (makeV s).2]) ∧ Below w.heap.size w w' := by
  by_cases h : s.size = 32
  · exact fmake_long s w h
  · have hV : makeV s = (0, false) := by unfold makeV; rw [if_neg h]
    rw [hV]; exact fmake_short s w h
end Go.Proofs.YtggalphgnloneaaGreat
/- Bytes of the layer field. -/
namespace Go.Proofs.YtggalphgnloneaaGreat
open Go.RowKit
/-- Within Bytes: the number, the bytes so far. -/
structure ByW (n k g : Nat) (w wr : World) : Prop where
  d : Blk wr w.heap.size 40 (r64 4 (F4 n))
  o : Blk wr g 95 (r8 32 (bF n k))
  l : Below w.heap.size w wr
  lt : w.heap.size < g
theorem ByW.put {n k g : Nat} {w wr : World} (h : ByW n k g w wr) (hk : k < 32) : ByW n (k + 1) g w (wr.setCell ⟨g, k, none⟩ (.int .u8 (iw (BitVec.ofNat 8 (byteK n k))))) :=
  ⟨h.d.far (by have := h.lt; simp; omega) _, (h.o.put hk _).cast_ (row_ext fun i _ => by
    unfold bF
    by_cases h1 : i = k
    · subst h1; rw [if_pos rfl, if_pos (by omega)]
    · rw [if_neg h1]
      by_cases h2 : i < k
      · rw [if_pos h2, if_pos (by omega)]
      · rw [if_neg h2, if_neg (by omega)]), h.l.setCell (by have := h.lt; simp; omega) _, h.lt⟩
theorem bF_zero (n : Nat) : (Array.replicate 32 (Value.int .u8 0)) = r8 32 (bF n 0) := by
  have : r8 32 (bF n 0) = r8 32 (fun _ => litw 8 0) := row_ext fun i _ => by unfold bF; rw [if_neg (by omega)]
  rw [this]; simp only [r8, iw_zero]; rfl
theorem bF_end (n : Nat) : (asBytes ((List.range 32).map (bF n 32))) = asBytes ((List.range 32).map fun i => BitVec.ofNat 8 (byteK n i)) := by
  have : (List.range 32).map (bF n 32) = (List.range 32).map fun i => BitVec.ofNat 8 (byteK n i) := List.map_congr_left fun i hi => by
    unfold bF; rw [if_pos (List.mem_range.1 hi)]
  rw [this]
theorem byte_word' (n q r : Nat) (hr : r < 8) : castw 8 (shrw (F4 n q) (r * 8)) = BitVec.ofNat 8 (byteK n (8 * q + r)) := by
  rw [Nat.mul_comm]; exact byte_word n q r hr
set_option maxRecDepth 100000 in
set_option maxHeartbeats 2000000 in
theorem fbytes_any (a : Nat) (w : World) (ha : a < M256) :
    Calls Tryz.prog 55 #[.agg (r64 4 (F4 a))] w fun e w' => e = .returned (.string (bytesV (a % pP))) ∧ Below w.heap.size w w' := by
  have HS := Lib.hid fe_size
  have hal : Tryz.prog.arrayLen 40 = 4 := by kernel_rfl
  have hal2 : Tryz.prog.arrayLen 95 = 32 := by kernel_rfl
  have L0 := KF.mk1 w (F4 a)
  go_enter Tryz.func55, Tryz.ntmps55
  go_wp2_with (refine wpList_load_row rfl 40 _ rfl w.heap.size rfl 40 _ (0, 0) _ (L0.blk _ m0) Tryz.underlying40 rfl (HS.out _) ?_)
  refine (reduced_any a _ ha).mono ?_
  rintro e w1 ⟨rfl, hq⟩
  have h1 := L0.below hq
  clear L0 hq
  generalize hN : a % pP = n
  have HN := Lib.hid hN
  clear hN
  go_wp2_with (refine wpList_store_row rfl 40 _ _ rfl w.heap.size (r64 4 (F4 n)) rfl rfl 40 _ (h1.blk _ m0) (HS.out _) (by simp only [row_size]) (row_one fun _ => rfl) ?_; refine wpList_gen (KF w.heap.size w [(w.heap.size, F4 n)]) (h1.put0 (by omega) (fun x hx => by cases hx) _) (fun w2 h2 => ?_))
  clear h1
  go_loopw [7] (fun i wr => ∃ k : Nat, k ≤ 32 ∧ i = .int .i64 (k : Int) ∧ ByW n k w2.heap.size w wr) (fun i _ => 32 - (intOf i).toNat)
  case atStart => exact ⟨0, by omega, rfl, ⟨(h2.blk _ m0).alloc _, (Blk.new w2 _ _).cast_ (bF_zero n), h2.b.alloc h2.lo _, h2.lt _ m0⟩⟩
  case round =>
    obtain ⟨k, hk, rfl, hr⟩ := hrel
    clear h2
    by_cases hlt : k < 32
    · obtain ⟨q, hqd⟩ : ∃ q, q = k / 8 := ⟨_, rfl⟩
      obtain ⟨r, hrd⟩ : ∃ r, r = k % 8 := ⟨_, rfl⟩
      have hq4 : q < 4 := by omega
      have hr8' : r < 8 := by omega
      have hq : (k : Int).tdiv 8 = (q : Int) := by rw [Int.tdiv_eq_ediv_of_nonneg (by omega)]; omega
      have hr8 : (k : Int).tmod 8 = (r : Int) := by rw [Int.tmod_eq_emod_of_nonneg (by omega)]; omega
      have hl0 : (q : Int) < 4 := by omega
      have hl1 : (0 : Int) ≤ q := by omega
      have c0 := hr.d.at_ hq4
      have co := hr.o.at_ hlt
      have fo := hr.o.frozen k
      have HK := Lib.hid (hr.put hlt)
      have HW := Lib.hid (show castw 8 (shrw (F4 n q) (r * 8)) = BitVec.ofNat 8 (byteK n k) by rw [byte_word' n q r hr8', show 8 * q + r = k by omega])
      clear hqd hrd hr
      go_wp2_with fail
      rw [HW.out]
      go_roundw
      case rel => exact ⟨k + 1, by omega, by go_num, HK.out⟩
      case measure => simp [intOf]; omega
    · obtain rfl : k = 32 := by omega
      have hst := run_string_of_blk (P := Tryz.prog) wr 29 9 5 Tryz.underlying29 Tryz.underlying5 Tryz.underlying9 w2.heap.size 32 32 _ _ hr.o
      rw [bF_end] at hst
      have hst2 : (convert 29 9 (.slice (some ⟨w2.heap.size, 0, none⟩) 32 32)).run Tryz.prog wr = .ok (.string (bytesV n)) wr := hst
      have hl := hr.l
      clear hr hst
      go_wp2_with fail
      go_ret
      exact ⟨by rw [HN.out]; rfl, hl⟩
end Go.Proofs.YtggalphgnloneaaGreat
/- Bytes and back. -/
namespace Go.Proofs.YtggalphgnloneaaGreat
open Go.RowKit
theorem asBytes_length (l : List (BitVec 8)) : (asBytes l).length = l.length := by simp [asBytes]
theorem bytesV_size (n : Nat) : (bytesV n).size = 32 := by
  show (bytesV n).data.size = 32
  simp [bytesV, asBytes]
theorem byteS_bytesV (n j : Nat) (hj : j < 32) : byteS (bytesV n) j = byteK n j := by
  unfold byteS
  rw [dif_pos (by rw [bytesV_size]; exact hj)]
  show ((bytesV n).data[j]'_).toNat = _
  simp only [bytesV, asBytes, List.getElem_toArray, List.getElem_map, List.getElem_range]
  show (BitVec.ofNat 8 (byteK n j)).toNat = _
  rw [BitVec.toNat_ofNat]
  exact Nat.mod_eq_of_lt (Nat.mod_lt _ (by decide))
theorem bytes_bv_S (s : ByteArray) (h : s.size = 32) : bytesV (bv (byteS s) 32) = s := by
  have hd : (bytesV (bv (byteS s) 32)).data = s.data := by
    apply Array.ext
    · show (bytesV _).size = s.size; rw [bytesV_size, h]
    · intro i h1 h2
      have hi : i < 32 := by rw [← h]; exact h2
      simp only [bytesV, asBytes, List.getElem_toArray, List.getElem_map, List.getElem_range]
      rw [bv_byte _ (byteS_lt s) i 32 hi]
      unfold byteS
      rw [dif_pos (show i < s.size from h2)]
      apply UInt8.toNat_inj.1
      show (BitVec.ofNat 8 ((s[i]'h2).toNat)).toNat = _
      rw [BitVec.toNat_ofNat]
      exact Nat.mod_eq_of_lt (UInt8.toNat_lt _)
  cases s; cases hb : bytesV _; simp_all
theorem fmake_is (s : ByteArray) (y : Nat) (b : Bool) (w : World) (h : makeV s = (y, b)) :
    Calls Tryz.prog 50 #[.string s] w fun e w' => e = .returned (.tuple #[.agg (r64 4 (F4 y)), .bool b]) ∧ Below w.heap.size w w' := by
  have := fmake_any s w
  rw [h] at this; exact this
theorem fbytes_is (a : Nat) (s : ByteArray) (w : World) (ha : a < M256) (h : bytesV (a % pP) = s) :
    Calls Tryz.prog 55 #[.agg (r64 4 (F4 a))] w fun e w' => e = .returned (.string s) ∧ Below w.heap.size w w' := by
  have := fbytes_any a w ha
  rw [h] at this; exact this
end Go.Proofs.YtggalphgnloneaaGreat
