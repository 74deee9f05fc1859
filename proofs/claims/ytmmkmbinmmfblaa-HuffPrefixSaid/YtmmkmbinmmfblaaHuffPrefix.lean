/- HuffPrefix: the walk. -/
import Derived.Test.YtmmkmbinmmfblaaVl9
import Derived.Test.YtmmkmbinmmfblaaVc9
import Derived.BigQuiet
namespace Go.Proofs.Ytmmkmbinmmfblaa
open Go.RowKit
set_option maxRecDepth 100000 in
set_option maxHeartbeats 4000000 in
theorem huffPrefix_any (p : Option Addr) (n cap : Nat) (f : Nat → Nat) (w : World) (h : US p n cap f w) (hn : n ≤ 70368744177664) :
    Calls Try.prog 8 #[.slice p n cap] w fun e w' => e = .returned (.bool true) ∧ Below w.heap.size w w' := by
  have C1 := Lib.hid (fun w h => counted9_is p n cap f w h hn)
  obtain ⟨m, hm⟩ : ∃ m, m = min n 40 := ⟨_, rfl⟩
  rw [← hm] at C1
  have hm40 : m ≤ 40 := by omega
  obtain ⟨l, hl, _, hB, hE, _⟩ := lens_counted f m hm40 15 (by decide)
  have h15 := Lib.hid (okB_true.1 hB)
  have C2 := Lib.hid (fun p c w h => lengths_huff p m c _ 15 w h (by omega) l hl)
  have C3 := Lib.hid (fun p c w h => codes_huff p m c (fun i => (l i : Int)) w h (by omega))
  rw [show codesM (fun i => (l i : Int)) m = m by unfold codesM; rw [if_pos hE], hE, show toL (fun i => (l i : Int)) = l from funext fun i => Int.toNat_natCast _] at C3
  have CP := Lib.hid (fun i k hi h0 hl hk hc => code_prefix l m i k hi h0 hl hk hc)
  clear hm hn hl hB hE
  go_enter Try.func8, Try.ntmps8
  go_wp2_with fail
  refine (examples9_any _).mono ?_
  rintro e w1 ⟨rfl, b1⟩
  have I1 := Lib.hid (h.below b1)
  go_wp2_with fail
  refine (C1.out _ I1.out).mono ?_
  rintro e w2 ⟨p2, c2, rfl, i2, b2⟩
  have d2 := b1.trans (b2.mono b1.size)
  clear I1 b1 b2
  go_wp2_with fail
  refine (C2.out _ _ _ i2).mono ?_
  rintro e w3 ⟨p3, c3, rfl, i3, b3⟩
  have d3 := d2.trans (b3.mono d2.size)
  have I3 := Lib.hid i3
  clear d2 i2 b3 i3
  go_wp2_with fail
  refine (C3.out _ _ _ I3.out).mono ?_
  rintro e w4 ⟨p4, c4, rfl, i4, b4⟩
  have d4 := d3.trans (b4.mono d3.size)
  have I4 := Lib.hid (I3.out.below b4)
  have J4 := Lib.hid i4
  clear d3 i4 b4 I3
  go_wp2_with fail
  go_loopw [8, 9] (fun i _ wr => ∃ k : Nat, k ≤ m ∧ i = .int .i64 (k : Int) ∧ Below w4.heap.size w4 wr) (fun i _ _ => m - (intOf i).toNat)
  case atStart => exact ⟨0, by omega, rfl, Below.refl _ _⟩
  case round =>
    obtain ⟨i, hi, rfl, hr⟩ := hrel
    by_cases hlt : i < m
    · go_wp2_with fail
      go_loopw [9] (fun k wr => ∃ j : Nat, j ≤ m ∧ k = .int .i64 (j : Int) ∧ Below w4.heap.size w4 wr) (fun k _ => m - (intOf k).toNat)
      case atStart => exact ⟨0, by omega, rfl, hr⟩
      case round =>
        obtain ⟨j, hj, rfl, hr2⟩ := hrel
        by_cases hlt2 : j < m
        · cases p3 with
          | none => have := (I4.out.nil_ rfl).1; omega
          | some a3 =>
            cases p4 with
            | none => have := (J4.out.nil_ rfl).1; omega
            | some a4 =>
              have ci := (I4.out.below hr2).cell a3 rfl i hlt
              have cj := (I4.out.below hr2).cell a3 rfl j hlt2
              have xi := (J4.out.below hr2).cell a4 rfl i hlt
              have xj := (J4.out.below hr2).cell a4 rfl j hlt2
              by_cases hij : i = j
              · subst hij
                go_wp2_with fail
                go_quiet (fail)
                have h2 := below_draws hr2 nq
                go_wp2_with fail
                go_roundw
                case rel => exact ⟨i + 1, by omega, rfl, h2⟩
                case measure => simp only [intOf]; omega
              · have hne : ((i : Int) != (j : Int)) = true := bne_iff_ne.2 (by omega)
                have CPI := Lib.hid (fun h0 hl hk hc => hij (CP.out i j hlt h0 hl hk hc))
                have B1 := h15.out i hlt
                have B2 := h15.out j hlt2
                try dsimp only at ci cj xi xj B1 B2
                generalize l i = A at *
                generalize l j = B at *
                generalize codeN l m i = X at *
                generalize codeN l m j = Y at *
                by_cases hA : 0 < A
                · have hA1 : (0 : Int) < (A : Int) := by omega
                  by_cases hAB : A ≤ B
                  · have hAB1 : (A : Int) ≤ (B : Int) := by omega
                    have hs : IntKind.i64.wrap ((B : Int) - (A : Int)) = ((B - A : Nat) : Int) := by
                      rw [IntWalk.i64_in _ (by omega)]; omega
                    have hq : ((Y : Int) / 2 ^ (B - A) == (X : Int)) = false := beq_eq_false_iff_ne.2 fun e => CPI.out (by omega) hAB (by omega) (by exact_mod_cast e)
                    go_wp2_with fail
                    go_quiet (fail)
                    have h2 := below_draws hr2 nq
                    go_wp2_with fail
                    go_roundw
                    case rel => exact ⟨j + 1, by omega, rfl, h2⟩
                    case measure => simp only [intOf]; omega
                  · have hAB1 : ¬ (A : Int) ≤ (B : Int) := by omega
                    have hAB2 : decide ((A : Int) ≤ (B : Int)) = false := decide_eq_false hAB1
                    go_wp2_with fail
                    go_quiet (fail)
                    have h2 := below_draws hr2 nq
                    go_wp2_with fail
                    go_roundw
                    case rel => exact ⟨j + 1, by omega, rfl, h2⟩
                    case measure => simp only [intOf]; omega
                · obtain rfl : A = 0 := by omega
                  go_wp2_with fail
                  go_quiet (fail)
                  have h2 := below_draws hr2 nq
                  go_wp2_with fail
                  go_roundw
                  case rel => exact ⟨j + 1, by omega, rfl, h2⟩
                  case measure => simp only [intOf]; omega
        · obtain rfl : j = m := by omega
          go_wp2_with fail
          go_roundw
          case rel => exact ⟨i + 1, by omega, rfl, hr2⟩
          case measure => simp only [intOf]; omega
    · obtain rfl : i = m := by omega
      go_wp2_with fail
      go_ret
      exact ⟨rfl, d4.trans (hr.mono d4.size)⟩
end Go.Proofs.Ytmmkmbinmmfblaa
