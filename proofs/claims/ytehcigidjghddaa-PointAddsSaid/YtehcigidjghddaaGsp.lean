/- A point (a struct of two numbers of four words), and a bool, among a law's parameters. -/
import Derived.Test.YtehcigidjghddaaNm
import Derived.ProofKit
import Derived.OpenShut
import Derived.ChangeSame
import Derived.Lib.SmallJoins
namespace Go.Proofs.Ytehcigidjghddaa
open Go.RowKit Go.ChangeShapes Go.WideShapes Go.ChangeAt
def ptD {H : Type} (x y : Nat) : DataW H := .agg [feD x, feD y]
section
variable {H : Type} {enc : TypeId × Value → H} {P : Program} {w : World} {base : Nat} {spare : Nat → Bool} {held : Bool}
theorem words_of {t e : TypeId} {fuel : Nat} {cs : List Value} {x : DataW H × List MemPlace} (ht : P.underlying t = some (.array 4 e)) (he : P.underlying e = some (.int .u64)) (hc : P.cellsOf t = 4) (hce : P.cellsOf e = 1)
    (hd : DataW.trod enc P w base spare held fuel t cs = some x) : ∃ a, a < M256 ∧ cs = (r64 4 (F4 a)).toList ∧ x = (feD a, []) := by
  obtain ⟨xs, m, rfl, hx, hl, hlen, hi⟩ := DataW.trod_array ht hd
  have hone : ∀ (c : Value) (y : DataW H × List MemPlace), DataW.trod enc P w base spare held m e [c] = some y → ∃ x : BitVec 64, c = .int .u64 (iw x) ∧ y = (.lit (.int .u64 (iw x)), []) := fun c y h => by
    obtain ⟨n, hc, hy, hw⟩ := DataW.trod_int he h
    obtain ⟨x, rfl⟩ := of_wf64 hw
    exact ⟨x, by simpa using hc, hy⟩
  rw [hc] at hl
  match xs, cs, hlen, hl with
  | [y0, y1, y2, y3], [c0, c1, c2, c3], _, _ =>
    have h0 := hi 0 (by omega)
    have h1 := hi 1 (by omega)
    have h2 := hi 2 (by omega)
    have h3 := hi 3 (by omega)
    simp [hce] at h0 h1 h2 h3
    obtain ⟨x0, rfl, rfl⟩ := hone _ _ h0
    obtain ⟨x1, rfl, rfl⟩ := hone _ _ h1
    obtain ⟨x2, rfl, rfl⟩ := hone _ _ h2
    obtain ⟨x3, rfl, rfl⟩ := hone _ _ h3
    obtain ⟨a, ha, rfl, rfl, rfl, rfl⟩ := of_words x0 x1 x2 x3
    exact ⟨a, ha, rfl, by rw [hx]; simp [feD]⟩
theorem words_mk {t e : TypeId} (a : Nat) (ht : P.underlying t = some (.array 4 e)) (he : P.underlying e = some (.int .u64)) (hc : P.cellsOf t = 4) (hce : P.cellsOf e = 1) : DataW.trod enc P w base spare held 2 t (r64 4 (F4 a)).toList = some (feD a, []) := by
  have hw := fun i => wf_u64 (F4 a i)
  have : (r64 4 (F4 a)).toList = [.int .u64 (iw (F4 a 0)), .int .u64 (iw (F4 a 1)), .int .u64 (iw (F4 a 2)), .int .u64 (iw (F4 a 3))] := rfl
  rw [this]
  simp [DataW.trod, ht, he, hc, hce, List.range_succ, hw, feD]
theorem nums_two (x y : Nat) : (nums 2 (two x y)).toList = (r64 4 (F4 x)).toList ++ (r64 4 (F4 y)).toList := rfl
theorem open_point {r : Reach} {b0 : Nat} {t e u : TypeId} {f0 f1 : Field} {v : Value} {d : DataW H} {ps : List MemPlace} (ht : P.underlying t = some (.struct #[f0, f1])) (h0 : f0.type = e ∧ f0.offset = 0) (h1 : f1.type = e ∧ f1.offset = 4)
    (he : P.underlying e = some (.array 4 u)) (hu : P.underlying u = some (.int .u64)) (hct : P.cellsOf t = 8) (hc : P.cellsOf e = 4) (hcu : P.cellsOf u = 1)
    (hval : Value.okWide P w r b0 t v) (hd : DataW.Trod enc P w base spare held t v d ps) : ∃ x y, x < M256 ∧ y < M256 ∧ v = .agg (nums 2 (two x y)) ∧ d = ptD x y ∧ ps = [] := by
  unfold Value.okWide at hval
  rw [ht] at hval
  obtain ⟨cs, rfl, hsz, _⟩ := hval
  obtain ⟨fuel, hf⟩ := hd
  obtain ⟨y0, y1, n, hx, hl, hy0, hy1⟩ := trod_struct2 ht hf
  rw [h0.1, h0.2, hc, List.drop_zero] at hy0
  rw [h1.1, h1.2, hc] at hy1
  obtain ⟨x, hxM, e0, rfl⟩ := words_of he hu hc hcu hy0
  obtain ⟨y, hyM, e1, rfl⟩ := words_of he hu hc hcu hy1
  have hlen : (Value.agg cs).cells.toList.length = 8 := hl.trans hct
  have hcs : cs.toList = (r64 4 (F4 x)).toList ++ (r64 4 (F4 y)).toList := by
    rw [← e0, ← e1]
    show cs.toList = cs.toList.take 4 ++ (cs.toList.drop 4).take 4
    have hlen' : cs.toList.length = 8 := hlen
    rw [List.take_of_length_le (l := cs.toList.drop 4) (by rw [List.length_drop]; omega), List.take_append_drop]
  simp only [Prod.mk.injEq] at hx
  refine ⟨x, y, hxM, hyM, ?_, hx.1, by simpa using hx.2⟩
  congr 1
  apply Array.ext'
  rw [hcs, nums_two]
theorem shut_point {t e u : TypeId} {f0 f1 : Field} (x y : Nat) (ht : P.underlying t = some (.struct #[f0, f1])) (h0 : f0.type = e ∧ f0.offset = 0) (h1 : f1.type = e ∧ f1.offset = 4)
    (he : P.underlying e = some (.array 4 u)) (hu : P.underlying u = some (.int .u64)) (hct : P.cellsOf t = 8) (hc : P.cellsOf e = 4) (hcu : P.cellsOf u = 1) : DataW.Trod enc P w base spare held t (.agg (nums 2 (two x y))) (ptD x y) [] := by
  refine ⟨3, ?_⟩
  have hcs : (Value.agg (nums 2 (two x y))).cells.toList = (r64 4 (F4 x)).toList ++ (r64 4 (F4 y)).toList := nums_two x y
  rw [hcs]
  have l4 : ∀ a, (r64 4 (F4 a)).toList.length = 4 := fun _ => rfl
  have := trod_struct2_mk (enc := enc) (w := w) (base := base) (spare := spare) (held := held) (n := 2) (cs := (r64 4 (F4 x)).toList ++ (r64 4 (F4 y)).toList) (y0 := (feD x, [])) (y1 := (feD y, [])) ht (by rw [hct, List.length_append, l4, l4])
    (by rw [h0.1, h0.2, hc, List.drop_zero, List.take_left' (l4 x)]; exact words_mk x he hu hc hcu)
    (by rw [h1.1, h1.2, hc, List.drop_left' (l4 x), List.take_of_length_le (by rw [l4]; omega)]; exact words_mk y he hu hc hcu)
  simpa [ptD] using this
theorem open_bool {r : Reach} {b0 : Nat} {t : TypeId} {v : Value} {d : DataW H} {ps : List MemPlace} (ht : P.underlying t = some .bool) (hval : Value.okWide P w r b0 t v) (hd : DataW.Trod enc P w base spare held t v d ps) :
    ∃ b, v = .bool b ∧ d = .lit (.bool b) ∧ ps = [] := by
  have h1 : ∃ b, v = .bool b := by
    have h2 : Cell.okWide P w r b0 t v := by
      unfold Value.okWide at hval
      rw [ht] at hval
      exact hval
    cases v <;> first | exact ⟨_, rfl⟩ | (exfalso; simp [Cell.okWide, Cell.ok, ht] at h2)
  obtain ⟨b, rfl⟩ := h1
  obtain ⟨fuel, hf⟩ := hd
  cases fuel with
  | zero => simp [DataW.trod] at hf
  | succ m =>
    simp [DataW.trod, ht, Value.cells] at hf
    exact ⟨b, rfl, hf.1.symm, hf.2⟩
end
end Go.Proofs.Ytehcigidjghddaa
