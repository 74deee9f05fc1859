/- slices.Backward of chapter 9: indices and integers, the last one first. -/
import Derived.Test.YtmmkmbinmmfblaaRk
import Derived.Test.YtmmkmbinmmfblaaMC
namespace Go.Proofs.Ytmmkmbinmmfblaa
open Go.RowKit
/-- What the iterator has captured. -/
def capB (b : Nat) (p : Option Addr) (n cap : Nat) (f : Nat → Int) (w : World) : Prop := Blk w b 22 #[.slice p n cap] ∧ IS p n cap f w
theorem capB.below {b : Nat} {p : Option Addr} {n cap : Nat} {f : Nat → Int} {w w' : World} (h : capB b p n cap f w) (hb : Below w.heap.size w w') : capB b p n cap f w' := ⟨h.1.below hb h.1.lt, h.2.below hb⟩
theorem backward_any (p : Option Addr) (n cap : Nat) (w : World) :
    Calls Try.prog 35 #[.slice p n cap] w fun e w' => e = .returned (.func (.func 45) #[] #[.pointer (some ⟨w.heap.size, 0, none⟩)]) ∧ w' = w.alloc (.cells #[.slice p n cap] 22) := by
  go_enter Try.func35, Try.ntmps35
  go_wp2_with fail
  go_ret
  exact ⟨rfl, rfl⟩
set_option maxRecDepth 100000 in
set_option maxHeartbeats 2000000 in
theorem backward_gives (p : Option Addr) (n cap : Nat) (f : Nat → Int) (hn : n ≤ 100000) (b : Nat) :
    Gives2 Try.prog 45 #[.pointer (some ⟨b, 0, none⟩)] (capB b p n cap f) n (fun i => #[.int .i64 ((n - 1 - i : Nat) : Int), .int .i64 (f (n - 1 - i))]) := by
  intro l J W hcap hJ hY h0
  refine callsIn_of_wp Try.func45 rfl trivial ?_
  simp only [Try.ntmps45, List.size_toArray, List.length_cons, List.length_nil, Nat.reduceAdd, Nat.reduceSub, Array.replicate_succ, Array.replicate_zero, List.push_toArray, List.append_toArray, List.nil_append, List.cons_append]
  have hc0 : W.cell? ⟨b, 0, none⟩ = some (.slice p n cap) := hcap.1.cell 0
  have hz1 : IntKind.i64.wrap ((n : Int) - 1) = (n : Int) - 1 := IntWalk.i64_in _ (by omega)
  gi_wp2_with fail
  clear hc0
  gi_loopw [3] (fun v wr => ∃ i : Nat, v = .int .i64 ((n : Int) - 1 - i) ∧ i ≤ n ∧ J i wr ∧ capB b p n cap f wr ∧ W.heap.size ≤ wr.heap.size) (fun v _ => (intOf v + 1).toNat)
  case atStart => exact ⟨0, by simp, by omega, h0, hcap, Nat.le_refl _⟩
  case round =>
    obtain ⟨i, rfl, hi, hj, hc, hz⟩ := hrel
    clear h0 hcap
    have hc1 : wr.cell? ⟨b, 0, none⟩ = some (.slice p n cap) := hc.1.cell 0
    by_cases hlt : i < n
    · obtain ⟨fn, tm, ag, bd, hy, hR⟩ := hY i wr hlt hj hc hz
      obtain ⟨k, hk⟩ : ∃ k, k = n - 1 - i := ⟨_, rfl⟩
      have hkn : k < n := by omega
      cases p with
      | none => have := (hc.2.nil_ rfl).1; omega
      | some a =>
      have hcell := hc.2.cell a rfl k hkn
      rw [show (n : Int) - 1 - (i : Int) = (k : Int) by omega]
      rw [← hk] at hy
      have hki : (k : Int) < (n : Int) := by omega
      have hw : IntKind.i64.wrap ((k : Int) - 1) = (k : Int) - 1 := IntWalk.i64_in _ (by omega)
      have HK := Lib.hid hk
      have HN := Lib.hid hlt
      clear hk hlt hz1
      gi_wp2_with fail
      refine ⟨rfl, hR.mono ?_⟩
      rintro e w2 ⟨rfl, hj2, hc2, hu⟩
      gi_wp2_with fail
      go_roundw
      case rel => exact ⟨i + 1, by have := HK.out; have := HN.out; simp only [Value.int.injEq, true_and]; omega, by have := HN.out; omega, hj2, hc2, Nat.le_trans hz hu.size⟩
      case measure => simp [intOf]
    · obtain rfl : i = n := by omega
      have hneg : ¬ (i : Int) - 1 - (i : Int) ≥ 0 := by omega
      gi_wp2_with fail
      go_end0
      exact ⟨⟨_, rfl⟩, hj, hc, hz⟩
end Go.Proofs.Ytmmkmbinmmfblaa
