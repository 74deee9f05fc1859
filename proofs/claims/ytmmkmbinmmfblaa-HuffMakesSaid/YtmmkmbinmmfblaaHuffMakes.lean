/- HuffMakes: the walk. -/
import Derived.Test.YtmmkmbinmmfblaaVl9
import Derived.Test.YtmmkmbinmmfblaaVc9
import Derived.BigQuiet
namespace Go.Proofs.Ytmmkmbinmmfblaa
open Go.RowKit
/-- Of at most ten that have a count: what is more often has no longer one. -/
theorem lens_few (f : Nat → Nat) (n : Nat) (most : Int) (hM : 9 ≤ most ∧ most ≤ 15) (l : Nat → Nat) (hl : lensV (fun i => ((f i % 1001 : Nat) : Int)) n most = some l) (hf : (nds (fun i => f i % 1001) n).length ≤ 10) :
    ∀ i k, i < n → k < n → f k % 1001 < f i % 1001 → 0 < f k % 1001 → l i ≤ l k := by
  intro i k hi hk h1 h2
  have hT : toL (fun i => ((f i % 1001 : Nat) : Int)) = fun i => f i % 1001 := funext fun i => Int.toNat_natCast _
  unfold lensV at hl
  by_cases hc : okC (fun i => ((f i % 1001 : Nat) : Int)) n = true ∧ n ≤ 300 ∧ ((9 ≤ most ∧ most ≤ 15) ∨ (most = 7 ∧ n ≤ 19))
  · rw [if_pos hc, hT] at hl
    unfold lenV at hl
    have hd := depM_few (fun i => f i % 1001) n 9 hf
    rw [if_pos (by omega)] at hl
    cases hl
    exact lenO_order hi hk h2 h1
  · rw [if_neg hc] at hl; cases hl
theorem nds_len_succ (c : Nat → Nat) (k : Nat) : (nds c (k + 1)).length = (nds c k).length + if 0 < c k then 1 else 0 := by
  show (nds c k ++ _).length = _
  rw [List.length_append]; split <;> rfl
set_option maxRecDepth 100000 in
set_option maxHeartbeats 8000000 in
theorem huffMakes_any (p : Option Addr) (n cap : Nat) (f : Nat → Nat) (x : Nat) (hx : x < 256) (w : World) (h : US p n cap f w) (hn : n ≤ 70368744177664) :
    Calls Try.prog 6 #[.slice p n cap, .int .u8 (x : Int)] w fun e w' => e = .returned (.bool true) ∧ Below w.heap.size w w' := by
  have C1 := fun w h => counted9_is p n cap f w h hn
  obtain ⟨m, hm⟩ : ∃ m, m = min n 40 := ⟨_, rfl⟩
  rw [← hm] at C1
  have hm40 : m ≤ 40 := by omega
  obtain ⟨M, hM⟩ : ∃ M, M = 9 + x % 7 := ⟨_, rfl⟩
  obtain ⟨l, hl, ⟨e, he1, he2, he3⟩, hB, _, hN⟩ := lens_counted f m hm40 (M : Int) (by omega)
  have HF := lens_few f m (M : Int) (by omega) l hl
  have HP : ∀ i, i < m → (0 < l i ↔ 0 < f i % 1001) := fun i hi => by rw [he1]; exact (lenO_pos hi he2).trans (he3 i)
  have HL : Hid (∀ i, i < m → l i ≤ M) := Lib.hid (fun i hi => by rw [he1]; exact lenO_le hi (by omega) (by omega))
  have C2 := fun p c w h => lengths_huff p m c _ (M : Int) w h (by omega) l hl
  have C3 := Lib.hid (fun p c w h => new_huff p m c (fun i => (l i : Int)) w h (by omega) hN)
  obtain ⟨c, hc⟩ : ∃ c : Nat → Nat, c = fun i => f i % 1001 := ⟨_, rfl⟩
  have hc1 : (fun i => ((f i % 1001 : Nat) : Int)) = fun i => (c i : Int) := by rw [hc]
  have hci : ∀ i, f i % 1001 = c i := fun i => by rw [hc]
  rw [hc1] at C1 C2
  rw [← hc] at HF
  simp only [hci] at HF HP
  have C1 := Lib.hid C1
  have C2 := Lib.hid C2
  have HF := Lib.hid HF
  have HP := Lib.hid HP
  have hMx : IntKind.i64.wrap (9 + (x : Int) % 7) = (M : Int) := by rw [IntWalk.i64_in _ (by omega)]; omega
  have hM15 : M ≤ 15 := by omega
  have hc1000 : Hid (∀ i, c i ≤ 1000) := Lib.hid (fun i => by rw [← hci]; omega)
  have hl15 : Hid (∀ i, i < m → l i ≤ 15) := Lib.hid (fun i hi => by have := HL.out i hi; omega)
  clear hm hn hl hB hN he1 he2 he3 hM hc hc1 hci
  go_enter Try.func6, Try.ntmps6
  go_wp2_with fail
  refine (examples9_any _).mono ?_
  rintro e w1 ⟨rfl, b1⟩
  have I1 := Lib.hid (h.below b1)
  go_wp2_with fail
  refine (C1.out _ I1.out).mono ?_
  rintro e w2 ⟨p2, c2, rfl, i2, b2⟩
  have d2 := b1.trans (b2.mono b1.size)
  have I2 := Lib.hid i2
  clear I1 b1 b2 i2
  go_wp2_with fail
  refine (C2.out _ _ _ I2.out).mono ?_
  rintro e w3 ⟨p3, c3, rfl, i3, b3⟩
  have d3 := d2.trans (b3.mono d2.size)
  have I3 := Lib.hid (I2.out.below b3)
  have J3 := Lib.hid i3
  clear d2 I2 b3 i3 hMx
  go_wp2_with fail
  go_loopw [10, 11] (fun y i wr => ∃ k : Nat, k ≤ m ∧ i = .int .i64 (k : Int) ∧ y = .int .i64 (((nds c k).length : Nat) : Int) ∧ Below w3.heap.size w3 wr) (fun _ i _ => m - (intOf i).toNat)
  case atStart => exact ⟨0, by omega, rfl, rfl, Below.refl _ _⟩
  case round =>
    obtain ⟨k, hk, rfl, rfl, hr⟩ := hrel
    have hk4 := Nat.le_trans (nds_len c k) hk
    by_cases hlt : k < m
    · cases p2 with
      | none => have := (I3.out.nil_ rfl).1; omega
      | some a2 =>
        have ck := (I3.out.below hr).cell a2 rfl k hlt
        have HN := Lib.hid (nds_len_succ c k)
        generalize (nds c k).length = N at *
        generalize c k = A at *
        by_cases hA : 0 < A
        · have hA1 : (0 : Int) < (A : Int) := by omega
          go_wp2_with fail
          go_roundw
          case rel => exact ⟨k + 1, by omega, rfl, by rw [HN.out, if_pos hA]; rfl, hr⟩
          case measure => simp only [intOf]; omega
        · obtain rfl : A = 0 := by omega
          go_wp2_with fail
          go_roundw
          case rel => exact ⟨k + 1, by omega, rfl, by rw [HN.out, if_neg hA]; rfl, hr⟩
          case measure => simp only [intOf]; omega
    · obtain rfl : k = m := by omega
      generalize (nds c k).length = N at *
      go_wp2_with fail
      go_loopw [12, 13] (fun i _ wr => ∃ j : Nat, j ≤ k ∧ i = .int .i64 (j : Int) ∧ Below w3.heap.size w3 wr) (fun i _ _ => k - (intOf i).toNat)
      case atStart => exact ⟨0, by omega, rfl, hr⟩
      case round =>
        obtain ⟨i, hi, rfl, hr2⟩ := hrel
        by_cases hlt2 : i < k
        · cases p2 with
          | none => have := (I3.out.nil_ rfl).1; omega
          | some a2 =>
            cases p3 with
            | none => have := (J3.out.nil_ rfl).1; omega
            | some a3 =>
              have ci := (I3.out.below hr2).cell a2 rfl i hlt2
              have li := (J3.out.below hr2).cell a3 rfl i hlt2
              have HPi := HP.out i hlt2
              have HLi := HL.out i hlt2
              by_cases hA : 0 < c i
              · have hA1 : (0 : Int) < (c i : Int) := by omega
                have hB1 : (0 : Int) < (l i : Int) := by omega
                have hM1 : ¬ (M : Int) < (l i : Int) := by omega
                have hM3 : decide (M < l i) = false := decide_eq_false (by omega)
                have hM2 : decide ((M : Int) < (l i : Int)) = false := decide_eq_false hM1
                go_wp2_with fail
                go_quiet (fail)
                go_wp2_with fail
                go_loopw [13] (fun j wr => ∃ q : Nat, q ≤ k ∧ j = .int .i64 (q : Int) ∧ Below w3.heap.size w3 wr) (fun j _ => k - (intOf j).toNat)
                case atStart => exact ⟨0, by omega, rfl, below_draws hr2 nq⟩
                case round =>
                  obtain ⟨q, hq, rfl, hr3⟩ := hrel
                  by_cases hlt3 : q < k
                  · have ci := (I3.out.below hr3).cell a2 rfl i hlt2
                    have li := (J3.out.below hr3).cell a3 rfl i hlt2
                    have cq := (I3.out.below hr3).cell a2 rfl q hlt3
                    have lq := (J3.out.below hr3).cell a3 rfl q hlt3
                    have HFI := fun hN => HF.out hN i q hlt2 hlt3
                    try dsimp only at ci li cq lq
                    by_cases hN : N ≤ 10
                    · have hN1 : (N : Int) ≤ 10 := by omega
                      have HFI := HFI hN
                      generalize c i = A at *
                      generalize l i = B at *
                      generalize c q = X at *
                      generalize l q = Y at *
                      by_cases hX : X < A
                      · have hX1 : (X : Int) < (A : Int) := by omega
                        by_cases h0 : 0 < X
                        · have h01 : (0 : Int) < (X : Int) := by omega
                          have hBY := HFI hX h0
                          have hBY1 : ¬ (Y : Int) < (B : Int) := by omega
                          have hBY2 : decide ((Y : Int) < (B : Int)) = false := decide_eq_false hBY1
                          go_wp2_with fail
                          go_quiet (fail)
                          have h2 := below_draws hr3 nq
                          go_wp2_with fail
                          go_roundw
                          case rel => exact ⟨q + 1, by omega, rfl, h2⟩
                          case measure => simp only [intOf]; omega
                        · obtain rfl : X = 0 := by omega
                          go_wp2_with fail
                          go_quiet (fail)
                          have h2 := below_draws hr3 nq
                          go_wp2_with fail
                          go_roundw
                          case rel => exact ⟨q + 1, by omega, rfl, h2⟩
                          case measure => simp only [intOf]; omega
                      · have hX1 : ¬ (X : Int) < (A : Int) := by omega
                        have hX2 : decide ((X : Int) < (A : Int)) = false := decide_eq_false hX1
                        go_wp2_with fail
                        go_quiet (fail)
                        have h2 := below_draws hr3 nq
                        go_wp2_with fail
                        go_roundw
                        case rel => exact ⟨q + 1, by omega, rfl, h2⟩
                        case measure => simp only [intOf]; omega
                    · have hN1 : ¬ (N : Int) ≤ 10 := by omega
                      have hN2 : decide ((N : Int) ≤ 10) = false := decide_eq_false hN1
                      go_wp2_with fail
                      go_quiet (fail)
                      have h2 := below_draws hr3 nq
                      go_wp2_with fail
                      go_roundw
                      case rel => exact ⟨q + 1, by omega, rfl, h2⟩
                      case measure => simp only [intOf]; omega
                  · obtain rfl : q = k := by omega
                    go_wp2_with fail
                    go_roundw
                    case rel => exact ⟨i + 1, by omega, rfl, hr3⟩
                    case measure => simp only [intOf]; omega
              · have hA0 : c i = 0 := by omega
                have hB0 : l i = 0 := by omega
                rw [hA0] at ci
                rw [hB0] at li
                have hM1 : ¬ (M : Int) < ((0 : Nat) : Int) := by omega
                have hM2 : decide ((M : Int) < ((0 : Nat) : Int)) = false := decide_eq_false hM1
                go_wp2_with fail
                go_quiet (fail)
                go_wp2_with fail
                go_loopw [13] (fun j wr => ∃ q : Nat, q ≤ k ∧ j = .int .i64 (q : Int) ∧ Below w3.heap.size w3 wr) (fun j _ => k - (intOf j).toNat)
                case atStart => exact ⟨0, by omega, rfl, below_draws hr2 nq⟩
                case round =>
                  obtain ⟨q, hq, rfl, hr3⟩ := hrel
                  by_cases hlt3 : q < k
                  · have ci := (I3.out.below hr3).cell a2 rfl i hlt2
                    have li := (J3.out.below hr3).cell a3 rfl i hlt2
                    have cq := (I3.out.below hr3).cell a2 rfl q hlt3
                    have lq := (J3.out.below hr3).cell a3 rfl q hlt3
                    try dsimp only at ci li cq lq
                    by_cases hN : N ≤ 10
                    · have hN1 : (N : Int) ≤ 10 := by omega
                      clear li
                      rw [hA0] at ci
                      generalize c q = X at *
                      have hX1 : ¬ (X : Int) < 0 := by omega
                      have hX2 : decide ((X : Int) < 0) = false := decide_eq_false hX1
                      replace ci : _ = some (Value.int .i64 0) := ci
                      go_wp2_with fail
                      go_quiet (fail)
                      have h2 := below_draws hr3 nq
                      go_wp2_with fail
                      go_roundw
                      case rel => exact ⟨q + 1, by omega, rfl, h2⟩
                      case measure => simp only [intOf]; omega
                    · have hN1 : ¬ (N : Int) ≤ 10 := by omega
                      have hN2 : decide ((N : Int) ≤ 10) = false := decide_eq_false hN1
                      go_wp2_with fail
                      go_quiet (fail)
                      have h2 := below_draws hr3 nq
                      go_wp2_with fail
                      go_roundw
                      case rel => exact ⟨q + 1, by omega, rfl, h2⟩
                      case measure => simp only [intOf]; omega
                  · obtain rfl : q = k := by omega
                    go_wp2_with fail
                    go_roundw
                    case rel => exact ⟨i + 1, by omega, rfl, hr3⟩
                    case measure => simp only [intOf]; omega
        · obtain rfl : i = k := by omega
          go_wp2_with fail
          refine (C3.out _ _ _ (J3.out.below hr2)).mono ?_
          rintro e w5 ⟨v, rfl, k5, b5⟩
          obtain ⟨av, rfl⟩ := k5.some
          have d5 := d3.trans ((hr2.trans (b5.mono hr2.size)).mono d3.size)
          clear d3 hr2 b5 k5
          go_wp2_with fail
          go_ret
          exact ⟨rfl, d5⟩
theorem huffMakes_int (p : Option Addr) (n cap : Nat) (f : Nat → Nat) (x : Int) (h0 : 0 ≤ x) (h1 : x < 256) (w : World) (h : US p n cap f w) (hn : n ≤ 70368744177664) :
    Calls Try.prog 6 #[.slice p n cap, .int .u8 x] w fun e w' => e = .returned (.bool true) ∧ Below w.heap.size w w' := by
  obtain ⟨y, rfl⟩ : ∃ y : Nat, x = (y : Int) := ⟨x.toNat, by omega⟩
  exact huffMakes_any p n cap f y (by omega) w h hn
end Go.Proofs.Ytmmkmbinmmfblaa
