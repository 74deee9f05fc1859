/- What the laws' walks need: a region met at its beginning, in the text's order too; calls' boxes. -/
import Derived.Test.YtjggclhhimccoaaGo
namespace Go.Proofs.Ytjggclhhimccoaa
open Go.RowKit
/-- The walk stops here. -/
def Stopped (p : Prop) : Prop := p
theorem stopAt {P : Program} {id : Nat} {ops : Array Oper} {b : Bool} {Q : Exit → Act → World → Prop} {a : Act} {w : World} (h : Stopped ((Code.region id ops b).wp P Q a w)) : (Code.region id ops b).wp P Q a w := h
theorem stopSeq {P : Program} {id : Nat} {ops : Array Oper} {b : Bool} {c : Code} {Q : Exit → Act → World → Prop} {a : Act} {w : World} (h : Stopped (((Code.region id ops b).seq c).wp P Q a w)) : ((Code.region id ops b).seq c).wp P Q a w := h
theorem goOn {p : Prop} (h : p) : Stopped p := h
section
variable {P : Program} {ops : Array Oper} {Q : Exit → Act → World → Prop}
/-- A region in the text's order is one of the orders. -/
theorem wp_region_anyT {id : Nat} {a : Act} {w : World} (S : Array Bool → World → Prop) (hl : Region.linearise.go .any ops ops.size 0 (Array.replicate ops.size false) [] = List.range ops.size) (hS : S (Array.replicate ops.size false) w)
    (h : anyL P .any ops Q S ops.size (Array.replicate ops.size false) a) : (Code.region id ops false).wp P Q a w := by
  have h1 := wpAny_sound ops.size 0 _ a w (anyL_sound _ _ _ (by simp) Closed.start h _ hS)
  rw [hl] at h1
  exact wp_region h1
theorem wp_region_anyAT {id : Nat} {a : Act} {w : World} (S : Array Bool → Value → World → Prop) (al : Nat) (hl : Region.linearise.go .any ops ops.size 0 (Array.replicate ops.size false) [] = List.range ops.size) (hS : S (Array.replicate ops.size false) undef w)
    (h : anyA P .any ops Q S al ops.size (Array.replicate ops.size false) (fun _ => a)) : (Code.region id ops false).wp P Q a w := by
  have h1 := wpAny_sound ops.size 0 _ a w (anyA_sound (a := fun _ => a) _ _ (by simp) Closed.start (fun _ _ _ => rfl) h undef _ hS)
  rw [hl] at h1
  exact wp_region h1
theorem wpList_val {R : World → Prop} {o : Oper} {rest : List Oper} {a : Act} {w : World} (v : Value) (hg : o.guard = none) (h : Lands P R v ((execOp a.eval o).run P w)) (k : ∀ w', R w' → wpList P ops Q rest (a.put o.dst v) w') : wpList P ops Q (o :: rest) a w :=
  wpList_plain hg fun _ hK => h.upon fun w' hR => hK _ _ (k w' hR)
theorem wpList_valG {R : World → Prop} {o : Oper} {rest : List Oper} {a : Act} {w : World} (v : Value) (hw : Region.wanted o (yielded ops a.tmps) = true) (h : Lands P R v ((execOp a.eval o).run P w)) (k : ∀ w', R w' → wpList P ops Q rest (a.put o.dst v) w') : wpList P ops Q (o :: rest) a w :=
  wpList_step fun _ hK => by rw [if_pos hw]; exact h.upon fun w' hR => hK _ _ (k w' hR)
end
theorem KF.start1 (a : Nat) (w : World) : KF w.heap.size w [(w.heap.size, F4 a)] (w.alloc (.cells (r64 4 (F4 a)) 24)) := KF.mk1 w (F4 a)
theorem KF.start2 (a b : Nat) (w : World) : KF w.heap.size w [(w.heap.size, F4 a), (w.heap.size + 1, F4 b)] ((w.alloc (.cells (r64 4 (F4 a)) 24)).alloc (.cells (r64 4 (F4 b)) 24)) := by
  refine ⟨((Below.refl _ _).alloc (Nat.le_refl _) _).alloc (by simp) _, by simp; omega, fun x hx => ?_⟩
  simp only [List.mem_cons, List.not_mem_nil, or_false] at hx
  rcases hx with rfl | rfl
  · exact (Blk.new w _ _).alloc _
  · exact (Blk.new (w.alloc _) _ _).cast' ⟨by simp, rfl⟩
theorem KF.start3 (a b c : Nat) (w : World) : KF w.heap.size w [(w.heap.size, F4 a), (w.heap.size + 1, F4 b), (w.heap.size + 2, F4 c)] (((w.alloc (.cells (r64 4 (F4 a)) 24)).alloc (.cells (r64 4 (F4 b)) 24)).alloc (.cells (r64 4 (F4 c)) 24)) := by
  refine ⟨(((Below.refl _ _).alloc (Nat.le_refl _) _).alloc (by simp) _).alloc (by simp; omega) _, by simp; omega, fun x hx => ?_⟩
  simp only [List.mem_cons, List.not_mem_nil, or_false] at hx
  rcases hx with rfl | rfl | rfl
  · exact ((Blk.new w _ _).alloc _).alloc _
  · exact ((Blk.new (w.alloc _) _ _).cast' ⟨by simp, rfl⟩).alloc _
  · exact (Blk.new _ _ _).cast' ⟨by simp, rfl⟩
end Go.Proofs.Ytjggclhhimccoaa
