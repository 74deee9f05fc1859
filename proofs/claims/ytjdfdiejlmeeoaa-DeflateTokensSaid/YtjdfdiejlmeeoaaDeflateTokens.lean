/- DeflateTokens: any stretch of any text has the tokens that the chapter says, or none. -/
import Derived.Test.YtjdfdiejlmeeoaaNO
import Derived.Test.YtjdfdiejlmeeoaaNL
import Derived.BigQuiet
namespace Go.Proofs.Ytjdfdiejlmeeoaa
open Go.RowKit
/-- What both sides answer, whatever the places are. -/
theorem tokens_both (s : ByteArray) (from_ to : Int) (hs : s.size ≤ 600) : ∃ L : List (Nat × Nat), L.length ≤ 600 ∧
    Hid (∀ wx, Calls Try.prog 9 #[.string s, .int .i64 from_, .int .i64 to] wx fun e w' => ∃ v, e = .returned v ∧ LS 28 2 wx.heap.size wx (L.map encT) v w') ∧
    Hid (∀ wx, Calls Try.prog 10 #[.string s, .int .i64 from_, .int .i64 to] wx fun e w' => ∃ v, e = .returned v ∧ LS 29 2 wx.heap.size wx (L.map encT) v w') := by
  by_cases h : from_ < 0 ∨ to < from_ ∨ to > (s.size : Int)
  · refine ⟨[], by decide, Lib.hid fun wx => (dTokens_not s from_ to wx h).mono ?_, Lib.hid fun wx => (rTokens_not s from_ to wx h).mono ?_⟩
    · rintro e w' ⟨rfl, rfl⟩; exact ⟨_, rfl, LS.nil (Below.refl _ _) (Nat.le_refl _)⟩
    · rintro e w' ⟨rfl, rfl⟩; exact ⟨_, rfl, LS.nil (Below.refl _ _) (Nat.le_refl _)⟩
  · obtain ⟨x, rfl⟩ : ∃ x : Nat, from_ = (x : Int) := ⟨from_.toNat, by omega⟩
    obtain ⟨y, rfl⟩ : ∃ y : Nat, to = (y : Int) := ⟨to.toNat, by omega⟩
    refine ⟨toksV (byteS (s.extract 0 y)) x y, ?_, Lib.hid fun wx => dTokens_any s x y wx (by omega) (by omega) (by omega) (by omega), Lib.hid fun wx => rTokens_any s x y wx (by omega) (by omega) (by omega) (by omega)⟩
    have := toksG_len (byteS (s.extract 0 y)) (x - 32768) y (y - x) x
    unfold toksV
    omega
set_option maxRecDepth 100000 in
set_option maxHeartbeats 8000000 in
theorem deflateTokens_any (s : ByteArray) (from_ to : Int) (hs : s.size ≤ 140737488351232) (w : World) :
    Calls Try.prog 3 #[.string s, .int .i64 from_, .int .i64 to] w fun e w' => e = .returned (.bool true) ∧ Below w.heap.size w w' := by
  obtain ⟨M, hM⟩ : ∃ M, M = min s.size 600 := ⟨_, rfl⟩
  obtain ⟨T, hT⟩ : ∃ T, T = s.extract 0 M := ⟨_, rfl⟩
  have hTz : T.size ≤ 600 := by rw [hT, ByteArray.size_extract]; omega
  obtain ⟨L, hL, HD, HR⟩ := tokens_both T from_ to hTz
  obtain ⟨N, hN⟩ : ∃ N, N = L.length := ⟨_, rfl⟩
  have HM := Lib.hid hM
  have HT := Lib.hid hT
  have hM1 : (M : Int) ≤ (s.size : Int) := by omega
  have hM2 : (0 : Int) ≤ (M : Int) := by omega
  have hM3 : M ≤ s.size := by omega
  clear hM hT hTz
  go_enter Try.func3, Try.ntmps3
  go_wp2_with fail
  refine (examples11_any w).mono ?_
  rintro e w1 ⟨rfl, b1⟩
  have HB1 := Lib.hid b1
  clear b1
  go_wp2_with (refine wpList_valK (.int .i64 ((min s.size 600 : Nat) : Int)) rfl (lands_min (.tmp 16) s.size 600 rfl rfl rfl) ?_; intro w8 h8; obtain rfl : w1 = w8 := h8.symm; rw [← HM.out])
  rw [← HT.out]
  refine (HD.out w1).mono ?_
  rintro e w2 ⟨v1, rfl, h1⟩
  obtain ⟨p1, c1, rfl, r1, -⟩ := h1.rs
  rw [List.length_map, ← hN] at r1 ⊢
  have HB2 := Lib.hid (HB1.out.trans (h1.b.mono HB1.out.size))
  have HR2 := Lib.hid r1
  clear h1 r1
  go_wp2_with fail
  refine (HR.out w2).mono ?_
  rintro e w3 ⟨v2, rfl, h2⟩
  obtain ⟨p2, c2, rfl, r2, -⟩ := h2.rs
  rw [List.length_map, ← hN] at r2 ⊢
  have HB3 := Lib.hid (HB2.out.trans (h2.b.mono HB2.out.size))
  have HR3 := Lib.hid (⟨HR2.out.below h2.b, r2⟩ : RS 2 p1 _ c1 (L.map encT) w3 ∧ RS 2 p2 _ c2 (L.map encT) w3)
  have HNL := Lib.hid hN
  have hN6 : N ≤ 600 := by omega
  clear h2 r2 HR2 hN hL hM1 hM2 hM3
  go_wp2_with fail
  go_loopw [10] (fun u wr => ∃ i nq : Nat, u = .int .i64 (i : Int) ∧ i ≤ N ∧ wr = w3.drewN nq) (fun u _ => N - (intOf u).toNat)
  case atStart => exact ⟨0, 0, rfl, Nat.zero_le _, rfl⟩
  case round =>
    obtain ⟨i, nq, rfl, hi, rfl⟩ := hrel
    by_cases hlt : i < N
    · have hlti : (i : Int) < (N : Int) := by omega
      have hw : IntKind.i64.wrap ((i : Int) + 1) = ((i + 1 : Nat) : Int) := by rw [IntWalk.i64_in _ (by omega)]; rfl
      obtain ⟨a1, rfl⟩ := HR3.out.1.some_ (by omega)
      obtain ⟨a2, rfl⟩ := HR3.out.2.some_ (by omega)
      have hiL : i < L.length := by have := HNL.out; omega
      have hg : (L.map encT)[i]? = some (encT (L[i]'hiL)) := by rw [List.getElem?_map, List.getElem?_eq_getElem hiL]; rfl
      generalize L[i]'hiL = x at hg
      clear hiL
      obtain ⟨x, y⟩ := x
      obtain ⟨d0, d1⟩ := HR3.out.1.at2 hg
      obtain ⟨d2, d3⟩ := HR3.out.2.at2 hg
      have HLT := Lib.hid hlt
      clear hg hlt
      go_wp2_with fail
      go_quiet (fail)
      go_wp2_with fail
      exact ⟨⟨i + 1, _, by go_num, by have := HLT.out; omega, rfl⟩, by simp only [intOf]; have := HLT.out; omega⟩
    · obtain rfl : i = N := by omega
      have hlti : ¬ (i : Int) < (i : Int) := by omega
      go_wp2_with fail
      go_ret
      exact ⟨rfl, belowN HB3.out _⟩
end Go.Proofs.Ytjdfdiejlmeeoaa
