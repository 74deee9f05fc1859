/- Sub, Mul, timesSquare of the layer field. -/
import Derived.Test.YtjggclhhimccoaaGf
namespace Go.Proofs.Ytjggclhhimccoaa
open Go.RowKit
theorem lands_fe {R : World → Prop} {o : Oper} {a : Act} {w : World} (x : Operand) (ho : o.op = .load 24 x) (g : Nat) (hx : a.eval x = .pointer (some ⟨g, 0, none⟩)) (f : Nat → BitVec 64) (hg : Blk w g 24 (r64 4 f)) (hR : R w) :
    Lands Try.prog R (.agg (r64 4 f)) ((execOp a.eval o).run Try.prog w) := lands_load 24 x ho g hx _ _ _ hg Try.underlying24 rfl (fe_size f) hR
theorem stores_fe {R : World → Prop} {o : Oper} {a : Act} {w : World} (x y : Operand) (ho : o.op = .store 24 x y) (g : Nat) (f f0 : Nat → BitVec 64) (hx : a.eval x = .pointer (some ⟨g, 0, none⟩)) (hy : a.eval y = .agg (r64 4 f)) (hg : Blk w g 24 (r64 4 f0)) (hR : R (w.setRow g (r64 4 f))) :
    Lands Try.prog R undef ((execOp a.eval o).run Try.prog w) := lands_store 24 x y ho g _ hx hy _ _ hg (fe_size f) (by simp only [row_size]) (row_one fun _ => rfl) hR
/-- Three blocks of a call, the third one with f. -/
structure L3r (a b : Nat) (f : Nat → BitVec 64) (w wr : World) : Prop where
  da : Blk wr w.heap.size 24 (r64 4 (F4 a))
  db : Blk wr (w.heap.size + 1) 24 (r64 4 (F4 b))
  r : Blk wr (w.heap.size + 2) 24 (r64 4 f)
  l : Below w.heap.size w wr
theorem L3r.below {a b : Nat} {f : Nat → BitVec 64} {w wr w' : World} (h : L3r a b f w wr) (hb : Below wr.heap.size wr w') : L3r a b f w w' := ⟨h.da.below hb h.da.lt, h.db.below hb h.db.lt, h.r.below hb h.r.lt, h.l.trans (hb.mono h.l.size)⟩
theorem L3r.put {a b : Nat} {f : Nat → BitVec 64} {w wr : World} (h : L3r a b f w wr) (f' : Nat → BitVec 64) : L3r a b f' w (wr.setRow (w.heap.size + 2) (r64 4 f')) :=
  ⟨h.da.row_far (by omega) _, h.db.row_far (by omega) _, h.r.row_ _, below_setRow' h.l (by omega) _⟩
/-- The result's words, when it is stored or not. -/
def onceF (b : Bool) (n : Nat) : Nat → BitVec 64 := if b then F4 n else fun _ => litw 64 0
set_option maxRecDepth 100000 in
set_option maxHeartbeats 1000000 in
theorem fsub_any (a b : Nat) (w : World) (ha : a < M256) (hb : b < M256) :
    Calls Try.prog 14 #[.agg (r64 4 (F4 a)), .agg (r64 4 (F4 b))] w fun e w' => e = .returned (.agg (r64 4 (F4 ((a + (pP - b % pP)) % pP)))) ∧ Below w.heap.size w w' := by
  have hn : pP - b % pP < M256 := by have := Nat.sub_le pP (b % pP); unfold pP M256 at *; omega
  have L0 := L3.start a b w
  have HS := Lib.hid fe_size
  go_enter Try.func14, Try.ntmps14
  go_wp2_with fail
  refine wp_gen (L3 a b w) L0 (fun w1 h1 => ?_)
  clear L0
  refine wp_region_anyL (Two 4 1000 fun f1 _ wx => L3r a b (onceF f1 ((a + (pP - b % pP)) % pP)) w wx) (by kernel_rfl) ⟨h1.da, h1.db, h1.r, h1.l.drew⟩ ?_
  refine anyL_take (i := 0) (v := .agg (r64 4 (F4 a))) rfl (by kernel_rfl) (by kernel_rfl) (by kernel_rfl) (yl_other (by decide) (by decide) rfl (fun f1 f2 wx hT => ?_)) ?_
  · exact lands_fe _ rfl _ rfl _ hT.da hT
  simp only [Act.put, List.setIfInBounds_toArray, List.set_cons_zero, List.set_cons_succ]
  refine anyL_take (i := 1) (v := .agg (r64 4 (F4 b))) rfl (by kernel_rfl) (by kernel_rfl) (by kernel_rfl) (yl_other (by decide) (by decide) rfl (fun f1 f2 wx hT => ?_)) ?_
  · exact lands_fe _ rfl _ rfl _ hT.db hT
  simp only [Act.put, List.setIfInBounds_toArray, List.set_cons_zero, List.set_cons_succ]
  refine anyL_take (i := 2) (v := .agg (r64 4 (F4 (pP - b % pP)))) rfl (by kernel_rfl) (by kernel_rfl) (by kernel_rfl) (yl_other (by decide) (by decide) rfl (fun f1 f2 wx hT => ?_)) ?_
  · exact lands_calls (w := wx) ((opposite_any b wx hb).mono fun _ _ ⟨he, hb⟩ => ⟨he, hT.below hb⟩) (by go_simp)
  simp only [Act.put, List.setIfInBounds_toArray, List.set_cons_zero, List.set_cons_succ]
  refine anyL_take (i := 3) (v := .agg (r64 4 (F4 ((a + (pP - b % pP)) % pP)))) rfl (by kernel_rfl) (by kernel_rfl) (by kernel_rfl) (yl_other (by decide) (by decide) rfl (fun f1 f2 wx hT => ?_)) ?_
  · exact lands_calls (w := wx) ((fadd_any a (pP - b % pP) wx ha hn).mono fun _ _ ⟨he, hb⟩ => ⟨he, hT.below hb⟩) (by go_simp)
  simp only [Act.put, List.setIfInBounds_toArray, List.set_cons_zero, List.set_cons_succ]
  refine anyL_take (i := 4) (v := undef) rfl (by kernel_rfl) (by kernel_rfl) (by kernel_rfl) (yl_first (by decide) rfl (fun f2 wx hT => ?_)) ?_
  · exact stores_fe _ _ rfl (w.heap.size + 2) _ _ rfl rfl hT.r (hT.put _)
  simp only [Act.put]
  refine anyL_done (by kernel_rfl) (fun w3 (K : L3r a b (onceF true ((a + (pP - b % pP)) % pP)) w w3) => ?_) _
  go_wp2_with fail
  exact bodyPost_ret (results_cell_row rfl _ _ (w.heap.size + 2) 24 (r64 4 (F4 ((a + (pP - b % pP)) % pP))) (0, 0) _ rfl K.r Try.underlying24 rfl (HS.out _)) rfl ⟨rfl, K.l⟩
end Go.Proofs.Ytjggclhhimccoaa
