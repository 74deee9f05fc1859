/- HuffEven: the walk. -/
import Derived.Test.YtmmkmbinmmfblaaVl9
import Derived.Test.YtmmkmbinmmfblaaVc9
import Derived.Test.YtmmkmbinmmfblaaHv
import Derived.BigQuiet
namespace Go.Proofs.Ytmmkmbinmmfblaa
open Go.RowKit
set_option maxRecDepth 100000 in
set_option maxHeartbeats 4000000 in
theorem huffEven_any (x y : Nat) (hx : x < 256) (hy : y < 65536) (w : World) :
    Calls Try.prog 9 #[.int .u8 (x : Int), .int .u16 (y : Int)] w fun e w' => e = .returned (.bool true) ∧ Below w.heap.size w w' := by
  obtain ⟨M, hM⟩ : ∃ M, M = 2 + x % 255 := ⟨_, rfl⟩
  obtain ⟨C, hC⟩ : ∃ C, C = 1 + y % 1000 := ⟨_, rfl⟩
  obtain ⟨f, hf⟩ : ∃ f : Nat → Int, f = fun _ => (C : Int) := ⟨_, rfl⟩
  have hok : okC f M = true := okC_nat fun i hi => by rw [hf]; show (0 : Int) ≤ (C : Int) ∧ (C : Int) ≤ 1000; omega
  obtain ⟨l, hl⟩ := lens_some (most := 15) hok (by omega) (.inl (by decide))
  have hV : lensV f M 15 = some l := by
    unfold lensV
    rw [if_pos ⟨hok, by omega, .inl (by decide)⟩, hl]
  obtain ⟨K, hK⟩ : ∃ K, K = Nat.log2 M := ⟨_, rfl⟩
  have hK1 : 2 ^ K ≤ M := by rw [hK]; exact (Nat.le_log2 (by omega)).1 (Nat.le_refl _)
  have hK2 : M < 2 ^ (K + 1) := by rw [hK]; exact (Nat.log2_lt (by omega)).1 (Nat.lt_succ_self _)
  have hK8 : K ≤ 8 := by
    have := (Nat.log2_lt (n := M) (by omega) (k := 9)).2 (by omega)
    omega
  have HL0 := lens_even hl (fun i j _ _ => by unfold toL; rw [hf]) (fun i _ => by unfold toL; rw [hf]; show 0 < (C : Int).toNat; omega) (by omega) hK1 hK2
  have h150 := lenV_15 hV
  have C2 := Lib.hid (fun p c w h => lengths_huff p M c f 15 w h (by omega) l hV)
  have hMx : IntKind.i64.wrap (2 + (x : Int) % 255) = (M : Int) := by rw [IntWalk.i64_in _ (by omega)]; omega
  have hCx : IntKind.i64.wrap (1 + (y : Int) % 1000) = (C : Int) := by rw [IntWalk.i64_in _ (by omega)]; omega
  have hM256 : M ≤ 256 := by omega
  have HL := Lib.hid HL0
  have h15 := Lib.hid h150
  have HF := Lib.hid hf
  have hC1000 : C ≤ 1000 := by omega
  clear hM hC hK hok hl hV hf HL0 h150
  go_enter Try.func9, Try.ntmps9
  go_wp2_with fail
  refine (examples9_any _).mono ?_
  rintro e w1 ⟨rfl, b1⟩
  go_wp2_with fail
  go_loopw [7, 8] (fun v i wr => ∃ k : Nat, k ≤ M ∧ i = .int .i64 (k : Int) ∧ LI w1.heap.size w1 (firstI f k) v wr) (fun _ i _ => M - (intOf i).toNat)
  case atStart => exact ⟨0, by omega, rfl, LI.nil (Below.refl _ _) (Nat.le_refl _)⟩
  case round =>
    obtain ⟨k, hk, rfl, hl⟩ := hrel
    by_cases hlt : k < M
    · have hlti : (k : Int) < (M : Int) := by omega
      go_wp2_with (refine wpList_oneI rfl (.tmp 25) (.tmp 30) rfl rfl hl (C : Int) rfl (by rw [firstI_len]; omega) ?_; intro v2 w2 hL)
      exact ⟨⟨k + 1, by omega, rfl, by rw [firstI_succ, HF.out]; rw [HF.out] at hL; exact hL⟩, by simp only [intOf]; omega⟩
    · obtain rfl : M = k := by omega
      obtain ⟨p2, c2, rfl, i2, _⟩ := hl.is (fun i hi => by rw [HF.out]; show _ ≤ (C : Int); omega) (fun i hi => by rw [HF.out]; show (C : Int) < _; omega)
      have d2 := b1.trans (hl.b.mono b1.size)
      clear hl
      go_wp2_with fail
      refine (C2.out _ _ _ i2).mono ?_
      rintro e w3 ⟨p3, c3, rfl, i3, b3⟩
      have d3 := d2.trans (b3.mono d2.size)
      have I3 := Lib.hid i3
      clear d2 i2 b3 i3
      go_wp2_with fail
      have HK1 := Lib.hid hK1
      have HK2 := Lib.hid hK2
      clear hK1 hK2
      go_loopw [11] (fun i wr => ∃ j : Nat, j ≤ K ∧ i = .int .i64 (j : Int) ∧ w3 = wr) (fun i _ => K - (intOf i).toNat)
      case atStart => exact ⟨0, by omega, rfl, rfl⟩
      case round =>
        obtain ⟨j, hj, rfl, rfl⟩ := hrel
        obtain ⟨P, hP⟩ : ∃ P : Nat, P = 2 ^ (j + 1) := ⟨_, rfl⟩
        have hP1 : P ≤ 512 := by rw [hP]; exact Nat.pow_le_pow_right (n := 2) (by decide) (show j + 1 ≤ 9 by omega)
        have hw : wrap64 (2 ^ (j + 1)) = (P : Int) := by
          rw [show ((2 : Int) ^ (j + 1)) = (P : Int) by rw [hP]; push_cast; rfl]
          unfold wrap64; omega
        by_cases hlt : j < K
        · have hc : (P : Int) ≤ (M : Int) := by
            have : P ≤ M := by rw [hP]; exact Nat.le_trans (Nat.pow_le_pow_right (by decide) (by omega)) HK1.out
            omega
          clear hP hP1
          go_wp2_with fail
          go_roundw
          case rel => exact ⟨j + 1, by omega, rfl, by trivial⟩
          case measure => simp only [intOf]; omega
        · obtain rfl : K = j := by omega
          have hc : ¬ (P : Int) ≤ (M : Int) := by
            have := HK2.out
            rw [← hP] at this
            omega
          clear hP hP1
          go_wp2_with fail
          clear hw hc
          go_loopw [12] (fun i wr => ∃ j : Nat, j ≤ M ∧ i = .int .i64 (j : Int) ∧ Below w3.heap.size w3 wr) (fun i _ => M - (intOf i).toNat)
          case atStart => exact ⟨0, by omega, rfl, Below.refl _ _⟩
          case round =>
            obtain ⟨i, hi, rfl, hr⟩ := hrel
            by_cases hli : i < M
            · have hlii : (i : Int) < (M : Int) := by omega
              cases p3 with
              | none => have := (I3.out.nil_ rfl).1; omega
              | some a3 =>
                have ci := (I3.out.below hr).cell a3 rfl i hli
                try dsimp only at ci
                have hL := HL.out i hli
                rcases hL with hL | ⟨hL, hne⟩
                · rw [hL] at ci
                  go_wp2_with fail
                  exact ⟨⟨i + 1, by omega, rfl, hr⟩, by simp only [intOf]; omega⟩
                · rw [hL] at ci
                  obtain ⟨Q, hQ⟩ : ∃ Q : Nat, Q = 2 ^ K := ⟨_, rfl⟩
                  have hne2 : ((Q : Int) == (M : Int)) = false := beq_eq_false_iff_ne.2 fun e => hne (hQ.symm.trans (Int.ofNat_inj.1 e))
                  have hQ1 : Q ≤ 256 := by rw [hQ]; exact Nat.pow_le_pow_right (n := 2) (by decide) hK8
                  have hw : wrap64 (2 ^ K) = (Q : Int) := by
                    rw [show ((2 : Int) ^ K) = (Q : Int) by rw [hQ]; push_cast; rfl]
                    unfold wrap64; omega
                  clear hQ hQ1
                  go_wp2_with fail
                  exact ⟨⟨i + 1, by omega, rfl, hr⟩, by simp only [intOf]; omega⟩
            · obtain rfl : M = i := by omega
              go_wp2_with fail
              go_ret
              exact ⟨rfl, d3.trans (hr.mono d3.size)⟩
theorem huffEven_int (x y : Int) (h0 : 0 ≤ x) (h1 : x < 256) (h2 : 0 ≤ y) (h3 : y < 65536) (w : World) :
    Calls Try.prog 9 #[.int .u8 x, .int .u16 y] w fun e w' => e = .returned (.bool true) ∧ Below w.heap.size w w' := by
  obtain ⟨a, rfl⟩ : ∃ a : Nat, x = (a : Int) := ⟨x.toNat, by omega⟩
  obtain ⟨b, rfl⟩ : ∃ b : Nat, y = (b : Int) := ⟨y.toNat, by omega⟩
  exact huffEven_any a b (by omega) (by omega) w
end Go.Proofs.Ytmmkmbinmmfblaa
