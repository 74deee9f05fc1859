/- An array of four words among a law's parameters. -/
import Derived.Test.YtjggclhhimccoaaGj
import Derived.ProofKit
import Derived.OpenShut
import Derived.Lib.SmallJoins
namespace Go.Proofs.Ytjggclhhimccoaa
open Go.RowKit Go.ChangeShapes Go.WideShapes Go.ChangeAt
def feD {H : Type} (a : Nat) : DataW H := .agg [.lit (.int .u64 (iw (F4 a 0))), .lit (.int .u64 (iw (F4 a 1))), .lit (.int .u64 (iw (F4 a 2))), .lit (.int .u64 (iw (F4 a 3)))]
theorem wf_u64 (x : BitVec 64) : (Lit.int .u64 (iw x)).wf = true := by
  have h := x.isLt
  have : iw x = (x.toNat : Int) := by unfold iw; rfl
  rw [this]
  simp [Lit.wf, IntKind.min, IntKind.max, IntKind.bits, IntKind.signed]; omega
theorem of_wf64 {n : Int} (h : (Lit.int .u64 n).wf = true) : ∃ x : BitVec 64, n = iw x := by
  simp [Lit.wf, IntKind.min, IntKind.max, IntKind.bits, IntKind.signed] at h
  refine ⟨BitVec.ofNat 64 n.toNat, ?_⟩
  have : iw (BitVec.ofNat 64 n.toNat) = ((BitVec.ofNat 64 n.toNat).toNat : Int) := by unfold iw; rfl
  rw [this, BitVec.toNat_ofNat]; omega
theorem of_words (x0 x1 x2 x3 : BitVec 64) : ∃ a, a < M256 ∧ x0 = F4 a 0 ∧ x1 = F4 a 1 ∧ x2 = F4 a 2 ∧ x3 = F4 a 3 := by
  have h0 := x0.isLt
  have h1 := x1.isLt
  have h2 := x2.isLt
  have h3 := x3.isLt
  refine ⟨x0.toNat + 18446744073709551616 * (x1.toNat + 18446744073709551616 * (x2.toNat + 18446744073709551616 * x3.toNat)), by unfold M256; omega, ?_, ?_, ?_, ?_⟩ <;>
    (apply BitVec.eq_of_toNat_eq; rw [F4_nat]; simp only [Nat.reduceMul, Nat.reducePow]; omega)
section
variable {H : Type} {enc : TypeId × Value → H} {P : Program} {w : World} {base : Nat} {spare : Nat → Bool} {held : Bool}
theorem open_words {r : Reach} {b0 : Nat} {t e : TypeId} {v : Value} {d : DataW H} {ps : List MemPlace} (ht : P.underlying t = some (.array 4 e)) (he : P.underlying e = some (.int .u64)) (hc : P.cellsOf t = 4) (hce : P.cellsOf e = 1)
    (hval : Value.okWide P w r b0 t v) (hd : DataW.Trod enc P w base spare held t v d ps) : ∃ a, a < M256 ∧ v = .agg (r64 4 (F4 a)) ∧ d = feD a ∧ ps = [] := by
  unfold Value.okWide at hval
  rw [ht] at hval
  obtain ⟨cs, rfl, hsz, _⟩ := hval
  obtain ⟨c0, c1, c2, c3, rfl⟩ := Joins.array4 (hsz.trans hc)
  obtain ⟨fuel, hf⟩ := hd
  obtain ⟨xs, m, rfl, hx, hl, hlen, hi⟩ := DataW.trod_array ht hf
  have hone : ∀ (c : Value) (y : DataW H × List MemPlace), DataW.trod enc P w base spare held m e [c] = some y → ∃ x : BitVec 64, c = .int .u64 (iw x) ∧ y = (.lit (.int .u64 (iw x)), []) := fun c y h => by
    obtain ⟨n, hc, hy, hw⟩ := DataW.trod_int he h
    obtain ⟨x, rfl⟩ := of_wf64 hw
    exact ⟨x, by simpa using hc, hy⟩
  match xs, hlen with
  | [y0, y1, y2, y3], _ =>
    have h0 := hi 0 (by omega)
    have h1 := hi 1 (by omega)
    have h2 := hi 2 (by omega)
    have h3 := hi 3 (by omega)
    simp [Value.cells, hce] at h0 h1 h2 h3
    obtain ⟨x0, rfl, rfl⟩ := hone _ _ h0
    obtain ⟨x1, rfl, rfl⟩ := hone _ _ h1
    obtain ⟨x2, rfl, rfl⟩ := hone _ _ h2
    obtain ⟨x3, rfl, rfl⟩ := hone _ _ h3
    obtain ⟨a, ha, rfl, rfl, rfl, rfl⟩ := of_words x0 x1 x2 x3
    simp only [Prod.mk.injEq] at hx
    exact ⟨a, ha, rfl, hx.1, by simpa using hx.2⟩
theorem shut_words {t e : TypeId} (a : Nat) (ht : P.underlying t = some (.array 4 e)) (he : P.underlying e = some (.int .u64)) (hc : P.cellsOf t = 4) (hce : P.cellsOf e = 1) : DataW.Trod enc P w base spare held t (.agg (r64 4 (F4 a))) (feD a) [] := by
  have hw := fun i => wf_u64 (F4 a i)
  refine ⟨2, ?_⟩
  have : (Value.agg (r64 4 (F4 a))).cells.toList = [.int .u64 (iw (F4 a 0)), .int .u64 (iw (F4 a 1)), .int .u64 (iw (F4 a 2)), .int .u64 (iw (F4 a 3))] := rfl
  rw [this]
  simp [DataW.trod, ht, he, hc, hce, List.range_succ, hw, feD]
end
end Go.Proofs.Ytjggclhhimccoaa
