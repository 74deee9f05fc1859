/- A range over a function that hands on more than one value: rounds that never leave (as Rg, of one value). -/
import Derived.Test.YtmmkmbinmmfblaaRi
import Derived.RangeFuncKeeps
namespace Go.Proofs.Ytmmkmbinmmfblaa
open Go.RowKit
/-- What lay from B on lies as it lay. -/
structure Upward (B : Nat) (w w' : World) : Prop where
  size : w.heap.size ≤ w'.heap.size
  block : ∀ k, B ≤ k → k < w.heap.size → w'.heap[k]? = w.heap[k]?
theorem Upward.refl (B : Nat) (w : World) : Upward B w w := ⟨Nat.le_refl _, fun _ _ _ => rfl⟩
theorem Upward.trans {B : Nat} {a b c : World} (h : Upward B a b) (k : Upward B b c) : Upward B a c :=
  ⟨Nat.le_trans h.size k.size, fun i hi hl => (k.block i hi (by have := h.size; omega)).trans (h.block i hi hl)⟩
theorem Upward.mono {B C : Nat} {a b : World} (h : Upward B a b) (hBC : B ≤ C) : Upward C a b := ⟨h.size, fun k hk hl => h.block k (by omega) hl⟩
theorem Upward.obj {B k : Nat} {a b : World} {o : Obj} (h : Upward B a b) (hk : B ≤ k) (ho : a.heap[k]? = some o) : b.heap[k]? = some o := (h.block k hk (Array.getElem?_eq_some_iff.1 ho).1).trans ho
theorem Upward.alloc (B : Nat) (w : World) (o : Obj) : Upward B w (w.alloc o) := ⟨by simp, fun k _ hk => Below.heap_alloc w o k hk⟩
theorem Upward.drew (B : Nat) (w : World) : Upward B w w.drew := ⟨Nat.le_refl _, fun _ _ _ => rfl⟩
theorem Upward.setCell {B : Nat} (w : World) (p : Addr) (v : Value) (h : p.block < B) : Upward B w (w.setCell p v) :=
  ⟨(KeepsWalks.setCell w p v).size, fun k hk _ => Below.heap_setCell w p v k (by omega)⟩
theorem Upward.putObj {B : Nat} (w : World) (l : Nat) (o : Obj) (h : l < B) : Upward B w (w.putObj l o) :=
  ⟨by simp, fun k hk _ => World.putObj_heap_other (by omega)⟩
theorem Upward.grown {B : Nat} {w w' : World} {row : Option Nat} (hg : w.grownBy w' row) (h : ∀ r, row = some r → r < B) : Upward B w w' :=
  ⟨hg.size, fun k hk hl => hg.block k hl fun e => by have := h k e.symm; omega⟩
theorem below_putObj {B : Nat} {W : World} {l : Nat} {o : Obj} (o' : Obj) (h : W.heap[l]? = some o) (hB : B ≤ l) : Below B W (W.putObj l o') :=
  (Below.refl B W).grown (grownBy_putObj' W l o') (by have := (Array.getElem?_eq_some_iff.1 h).1; omega) (fun k e => by cases e; exact hB)
theorem below_objK {B k : Nat} {a b : World} {o : Obj} (h : Below B a b) (hk : k < B) (ho : a.heap[k]? = some o) : b.heap[k]? = some o := (h.block k hk).trans ho
/-- The contract of an iterator's value: enc 0, enc 1 .. come, N of them. Cap: what it has captured lies as it lay. -/
def Gives2 (P : Program) (g : Nat) (lb : Array Value) (Cap : World → Prop) (N : Nat) (enc : Nat → Array Value) : Prop :=
  ∀ (l : Nat) (J : Nat → World → Prop) (W : World), Cap W →
    (∀ i A C, J i A → W.heap.size ≤ A.heap.size → Below W.heap.size A C → J i C) →
    (∀ i W1, i < N → J i W1 → Cap W1 → W.heap.size ≤ W1.heap.size → YieldAt Fence.wide 0 P l (enc i) W1 fun e W' => e = .returned (.bool true) ∧ J (i + 1) W' ∧ Cap W' ∧ Upward W.heap.size W1 W') →
    J 0 W → CallsIn Fence.wide 0 P g (#[.func (.yield l) #[] #[]] ++ lb) W fun e W' => (∃ v, e = .returned v) ∧ J N W' ∧ Cap W' ∧ W.heap.size ≤ W'.heap.size
/-- How a round ends: it goes on. -/
def endR (I : Nat → World → Prop) (Cap : World → Prop) (B i : Nat) (W : World) : Exit → Act → World → Prop
  | .normal, _, W' => I (i + 1) W' ∧ Cap W' ∧ Upward B W W'
  | _, _, _ => False
theorem wpIn_range2 {P : Program} {g : Operand} {ps : Array Tmp} {assign body : Code} {Q : Exit → Act → World → Prop} {a : Act} {w : World}
    {gf : Nat} {lb : Array Value} (hg : a.eval g = .func (.func gf) #[] lb) (eg : ∀ args w, (callFunc gf args).run P w = .ok (.enter gf args) w)
    {Cap : World → Prop} {N : Nat} {enc : Nat → Array Value} (hseq : Gives2 P gf lb Cap N enc) (hps : ∀ i, (enc i).size = ps.size)
    (I : Nat → World → Prop) (hI : ∀ i A C, I i A → w.heap.size ≤ A.heap.size → Below w.heap.size A C → I i C)
    (hcap : Cap w) (hCst : ∀ A C, Cap A → Below w.heap.size A C → Cap C) (h0 : I 0 w) (a₁ : Nat → Act)
    (hassign : ∀ (l i : Nat) (W : World) (K : Act → World → Prop), K (a₁ i) W →
      assign.wpIn (Fence.wide.inRound l) 0 P (Exit.then K (fun _ _ _ => False)) { tmps := (ps.zip (enc i)).foldl (fun t (p, v) => t.setIfInBounds p v) a.tmps, defers := [] } W)
    (hbody : ∀ (l i : Nat) (W : World), i < N → I i W → Cap W → w.heap.size ≤ W.heap.size → body.wpIn (Fence.wide.inRound l) 0 P (endR I Cap w.heap.size i W) (a₁ i) W)
    (hdone : ∀ (D : Nat) (W : World), w.heap.size ≤ D → I N W → Cap W → W.heap[D]? = some (.deferred (some [])) → Q .normal { a with defers := { target := .collected D, args := #[] } :: a.defers } W) :
    (Code.rangeFunc g ps assign body).wpIn Fence.wide 0 P Q a w := by
  refine wpIn_rangeFunc ?_
  intro fn hfn
  obtain ⟨rec, hrec⟩ : ∃ rec : LoopState → Option Code → Loop, rec = fun st pe => { state := st, pending := pe, fn, tmps := a.tmps, params := ps, assign, body, defers := w.heap.size } := ⟨_, rfl⟩
  obtain ⟨W1, hW1⟩ : ∃ W1, (w.alloc (.deferred (some []))).alloc (.loop (rec .ready none)) = W1 := ⟨_, rfl⟩
  have hz1 : W1.heap.size = w.heap.size + 2 := by rw [← hW1]; simp
  have hL1 : W1.heap[w.heap.size + 1]? = some (.loop (rec .ready none)) := by
    rw [← hW1]; have := World.alloc_heap_new (w.alloc (.deferred (some []))) (.loop (rec .ready none)); rwa [World.size_alloc] at this
  have hK1 : W1.heap[w.heap.size]? = some (.deferred (some [])) := by
    rw [← hW1]; exact (Below.heap_alloc _ _ _ (by simp)).trans (World.alloc_heap_new w _)
  have hb1 : Below w.heap.size w W1 := by
    rw [← hW1]; exact ((Below.refl _ w).alloc (Nat.le_refl _) _).alloc (by simp) _
  refine ⟨w.heap.size + 1, [{ target := .collected w.heap.size, args := #[] }], W1, { target := .fn (.func gf) lb, args := #[.func (.yield (w.heap.size + 1)) #[] #[]] }, W1, gf,
    #[.func (.yield (w.heap.size + 1)) #[] #[]] ++ lb, W1, ?_, ?_, fun _ _ => trivial, ?_, (fun h => by cases h), ?_⟩
  · rw [← hW1, hrec]; exact run_enterLoop_outer _ _ _ _ _
  · simp only [resolve, hg]
    simp [go_sem]
  · simp [invoke, go_sem, eg]
  · refine (hseq (w.heap.size + 1) (fun i W => I i W ∧ W.heap[w.heap.size + 1]? = some (.loop (rec .ready none)) ∧ W.heap[w.heap.size]? = some (.deferred (some []))) W1 (hCst _ _ hcap hb1) ?_ ?_
      ⟨hI _ _ _ h0 (Nat.le_refl _) hb1, hL1, hK1⟩).mono ?_
    · rintro i A C ⟨h1, h2, h3⟩ hle hb
      exact ⟨hI _ _ _ h1 (by omega) (hb.mono (by omega)), below_objK hb (by omega) h2, below_objK hb (by omega) h3⟩
    · rintro i W hi ⟨h1, h2, h3⟩ hc hle
      have hlt : w.heap.size + 1 < W.heap.size := (Array.getElem?_eq_some_iff.1 h2).1
      have hy := run_yield (P := P) (args := (enc i)) h2 (by rw [hrec]; exact (hps i))
      rw [hrec] at hy
      refine ⟨fn, _, assign, body, hy, roundIn_of_wpIn (F := Fence.wide) trivial (hassign _ i W _ ⟨_, run_beginRound h2 (by rw [hrec]), ?_⟩)⟩
      have b2 : Below w.heap.size W (W.putObj (w.heap.size + 1) (.loop { rec .ready none with state := .busy })) := below_putObj _ h2 (by omega)
      have hl2 : (W.putObj (w.heap.size + 1) (.loop { rec .ready none with state := .busy })).heap[w.heap.size + 1]? = some (.loop { rec .ready none with state := .busy }) := World.putObj_heap_same hlt
      have hk2 : (W.putObj (w.heap.size + 1) (.loop { rec .ready none with state := .busy })).heap[w.heap.size]? = some (.deferred (some [])) := (World.putObj_heap_other (by omega)).trans h3
      have u2 : Upward W1.heap.size W (W.putObj (w.heap.size + 1) (.loop { rec .ready none with state := .busy })) := Upward.putObj _ _ _ (by omega)
      refine wpIn_mono (hbody _ i _ hi (hI _ _ _ h1 (by omega) b2) (hCst _ _ hc b2) (by simp; omega)) ?_
      rintro e a3 W3 hp
      cases e with
      | normal =>
        obtain ⟨hi3, hc3, hu3⟩ := hp
        have hl3 := hu3.obj (by omega) hl2
        have hk3 := hu3.obj (by omega) hk2
        have hlt3 := (Array.getElem?_eq_some_iff.1 hl3).1
        have hr := run_endRound (P := P) none hl3
        have b4 : Below w.heap.size W3 (W3.putObj (w.heap.size + 1) (.loop (rec .ready none))) := below_putObj _ hl3 (by omega)
        refine ⟨.bool true, W3.putObj (w.heap.size + 1) (.loop (rec .ready none)), ?_, rfl, ⟨hI _ _ _ hi3 (by omega) b4, World.putObj_heap_same hlt3, (World.putObj_heap_other (by omega)).trans hk3⟩, hCst _ _ hc3 b4, (u2.trans (hu3.mono (by omega))).trans (Upward.putObj _ _ _ (by omega))⟩
        rw [hrec] at hr ⊢
        exact hr
      | _ => exact hp.elim
    · rintro e W2 ⟨⟨v, rfl⟩, ⟨h1, h2, h3⟩, hc, hle⟩
      have b5 : Below w.heap.size W2 (W2.putObj (w.heap.size + 1) (.loop { rec .ready none with state := .exhausted })) := below_putObj _ h2 (by omega)
      refine ⟨none, _, ?_, hdone w.heap.size _ (Nat.le_refl _) (hI _ _ _ h1 (by omega) b5) (hCst _ _ hc b5) ((World.putObj_heap_other (by omega)).trans h3)⟩
      have := run_endLoop (P := P) h2 (by rw [hrec]; simp)
      rw [hrec] at this ⊢
      exact this
end Go.Proofs.Ytmmkmbinmmfblaa
