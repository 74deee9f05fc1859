/- DeflateTold: tokens, gone through, are the text. -/
import Derived.Test.YtjdfdiejlmeeoaaEn
import Derived.Test.YtjdfdiejlmeeoaaNL
import Derived.BigQuiet
namespace Go.Proofs.Ytjdfdiejlmeeoaa
open Go.RowKit
theorem toksG_nil {b : Nat → Nat} {lo to a : Nat} (h : toksG b lo to (to - a) a = []) (ha : a ≤ to) : a = to := by
  by_cases h2 : a < to
  · rw [show to - a = to - a - 1 + 1 by omega, toksG_one h2] at h; cases h
  · omega
theorem drop_next {α : Type} {L : List α} {i : Nat} {x : α} {r : List α} (h : L.drop i = x :: r) : L[i]? = some x ∧ L.drop (i + 1) = r := by
  constructor
  · have := congrArg List.head? h
    rw [List.head?_drop] at this; exact this
  · have := congrArg List.tail h
    rw [List.tail_drop] at this; exact this
set_option maxRecDepth 100000 in
set_option maxHeartbeats 16000000 in
theorem deflateTold_any (s : ByteArray) (from_ : Int) (hs : s.size ≤ 140737488351232) (hw : -9223372036854775808 ≤ from_ ∧ from_ < 9223372036854775808) (w : World) :
    Calls Try.prog 5 #[.string s, .int .i64 from_] w fun e w' => e = .returned (.bool true) ∧ Below w.heap.size w w' := by
  obtain ⟨M, hM⟩ : ∃ M, M = min s.size 600 := ⟨_, rfl⟩
  obtain ⟨T, hT⟩ : ∃ T, T = s.extract 0 M := ⟨_, rfl⟩
  have hTz : T.size = M := by rw [hT, ByteArray.size_extract]; omega
  have hM6 : M ≤ 600 := by omega
  have HM := Lib.hid hM
  have HT := Lib.hid hT
  have hM1 : (M : Int) ≤ (s.size : Int) := by omega
  have hM2 : (0 : Int) ≤ (M : Int) := by omega
  have hM3 : M ≤ s.size := by omega
  have hwM : IntKind.i64.wrap ((M : Int) + 1) = (M : Int) + 1 := IntWalk.i64_in _ (by omega)
  have hM0 : ¬ ((M : Int) + 1) = 0 := by omega
  have HTZ := Lib.hid hTz
  obtain ⟨g, hg⟩ : ∃ g : Nat, (g : Int) = if from_ < 0 then -(from_ + 1) else from_ := ⟨(if from_ < 0 then -(from_ + 1) else from_).toNat, by split <;> omega⟩
  obtain ⟨x, hx⟩ : ∃ x, x = g % (M + 1) := ⟨_, rfl⟩
  obtain ⟨M1, hM1e⟩ : ∃ M1, M1 = M + 1 := ⟨_, rfl⟩
  rw [← hM1e] at hx
  have hrem : (g : Int).tmod ((M : Int) + 1) = (x : Int) := by rw [show (M : Int) + 1 = (M1 : Int) by omega, Int.tmod_eq_emod_of_nonneg (by omega), hx]; omega
  have hxM : x ≤ M := by have := Nat.mod_lt g (show 0 < M1 by omega); omega
  have hwx : IntKind.i64.wrap (x : Int) = (x : Int) := IntWalk.i64_in _ (by omega)
  obtain ⟨lo, hlo⟩ : ∃ lo, lo = x - 32768 := ⟨_, rfl⟩
  obtain ⟨b, hb⟩ : ∃ b, b = byteS (T.extract 0 M) := ⟨_, rfl⟩
  have HBY : Hid (∀ (j : Nat) (hj : j < T.size), (T[j]'hj).toNat = b j) := Lib.hid fun j hj => by rw [byteS_at, hb, byteS_ext T 0 M j (by omega) (by omega), Nat.zero_add]
  have HLT : Hid (∀ j, b j < 256) := Lib.hid (by rw [hb]; exact byteS_lt _)
  obtain ⟨L, hL⟩ : ∃ L, L = toksV b x M := ⟨_, rfl⟩
  have HL0 : Hid (L.drop 0 = toksG b lo M (M - x) x) := Lib.hid (by rw [hL, hlo]; rfl)
  obtain ⟨N, hN⟩ : ∃ N, N = L.length := ⟨_, rfl⟩
  have hN6 : N ≤ 600 := by have := toksG_len b (x - 32768) M (M - x) x; rw [hN, hL]; unfold toksV; omega
  have HN := Lib.hid hN
  have HD : Hid (∀ wx, Calls Try.prog 9 #[.string T, .int .i64 (x : Int), .int .i64 (M : Int)] wx fun e w' => ∃ v, e = .returned v ∧ LS 28 2 wx.heap.size wx (L.map encT) v w') := Lib.hid fun wx => by
    rw [hL, hb]
    exact dTokens_any T x M wx hxM (by omega) (by omega) (by omega)
  clear hM hT hx hL hN hb hlo hM1e
  go_enter Try.func5, Try.ntmps5
  go_wp2_with fail
  refine (examples11_any w).mono ?_
  rintro e w1 ⟨rfl, b1⟩
  have HB1 := Lib.hid b1
  clear b1
  by_cases hneg : from_ < 0
  · have hg1 : IntKind.i64.wrap (from_ + 1) = from_ + 1 := IntWalk.i64_in _ (by omega)
    have hg2 : IntKind.i64.wrap (-(from_ + 1)) = (g : Int) := by rw [hg, if_pos hneg]; exact IntWalk.i64_in _ (by omega)
    clear hg
    go_wp2_with (refine wpList_valK (.int .i64 ((min s.size 600 : Nat) : Int)) rfl (lands_min (.tmp 16) s.size 600 rfl rfl rfl) ?_; intro w8 h8; obtain rfl : w1 = w8 := h8.symm; rw [← HM.out])
    rw [← HT.out]
    refine (HD.out w1).mono ?_
    rintro e w2 ⟨v1, rfl, h1⟩
    obtain ⟨p1, c1, rfl, r1, -⟩ := h1.rs
    rw [List.length_map, ← HN.out] at r1 ⊢
    have HB2 := Lib.hid (HB1.out.trans (h1.b.mono HB1.out.size))
    have HR2 := Lib.hid r1
    clear h1 r1 HD hM1 hM2 hM3 hwM hM0 hrem hwx hneg hg1 hg2
    go_wp2_with fail
    go_loopw [7, 8] (fun u7 u8 wr => ∃ i at_ : Nat, u7 = .int .i64 (at_ : Int) ∧ u8 = .int .i64 (i : Int) ∧ i ≤ N ∧ at_ ≤ M ∧ Hid (L.drop i = toksG b lo M (M - at_) at_) ∧ Hid (Below w2.heap.size w2 wr)) (fun _ u _ => N - (intOf u).toNat)
    case atStart => exact ⟨0, x, rfl, rfl, Nat.zero_le _, hxM, HL0, Lib.hid (Below.refl _ _)⟩
    case round =>
      obtain ⟨i, at_, rfl, rfl, hi, hat, HDR, HBW⟩ := hrel
      clear HL0
      by_cases hlt : i < N
      · have hlti : (i : Int) < (N : Int) := by omega
        have hwi : IntKind.i64.wrap ((i : Int) + 1) = ((i + 1 : Nat) : Int) := by rw [IntWalk.i64_in _ (by omega)]; rfl
        obtain ⟨a1, rfl⟩ := HR2.out.some_ (by omega)
        have hlat : at_ < M := by
          rcases Nat.lt_or_ge at_ M with h | h
          · exact h
          · have h0 := HDR.out
            rw [toksG_end (show ¬ at_ < M by omega)] at h0
            have := congrArg List.length h0
            rw [List.length_drop, ← HN.out] at this
            simp at this; omega
        have hd0 := HDR.out
        rw [show M - at_ = M - at_ - 1 + 1 by omega, toksG_one hlat] at hd0
        have hok := bestS_ok HLT.out lo (to := M) hlat
        rw [toksG_more HLT.out lo M (M - at_ - 1) (M - (at_ + (bestS b lo M at_).1)) _ (by have := hok.1; omega) (by omega)] at hd0
        generalize bestS b lo M at_ = bt at hd0 hok
        obtain ⟨X, Y⟩ := bt
        dsimp only at hd0
        obtain ⟨hget, hdn⟩ := drop_next hd0
        have HDN := Lib.hid hdn
        have hg2 : (L.map encT)[i]? = some (encT (X, Y)) := by rw [List.getElem?_map, hget]; rfl
        obtain ⟨d0, d1⟩ := (HR2.out.below HBW.out).at2 hg2
        obtain ⟨hx1, hx2, hx3, hcase⟩ := hok
        dsimp only at hx1 hx2 hx3 hcase
        have hwat : IntKind.i64.wrap ((at_ : Int) + (X : Int)) = ((at_ + X : Nat) : Int) := by rw [IntWalk.i64_in _ (by omega)]; rfl
        have hle1 : ¬ ((at_ + X : Nat) : Int) > (M : Int) := by omega
        have hle2 : ¬ ((at_ + X : Nat) : Int) > (T.size : Int) := by have := HTZ.out; omega
        clear hd0 hdn hget hg2
        rcases hcase with ⟨rfl, rfl⟩ | ⟨h3, hy1, hy2, hy3, hsame⟩
        · have HX := Lib.hid (⟨hlt, hx2⟩ : i < N ∧ at_ + 1 ≤ M)
          clear hlt hx1 hx2 hx3 hlat
          have HZ := Lib.hid (Blk.new wr 28 #[.int .i64 0, .int .i64 0])
          have HZ2 := Lib.hid (HZ.out.row_ #[.int .i64 1, .int .i64 0])
          have HB3 := Lib.hid (below_setRow' ((Below.refl _ wr).alloc (Nat.le_refl _) (.cells #[.int .i64 0, .int .i64 0] 28)) (Nat.le_refl _) #[.int .i64 1, .int .i64 0])
          obtain ⟨W2, hW2⟩ : ∃ W2, W2 = (wr.alloc (.cells #[.int .i64 0, .int .i64 0] 28)).setRow wr.heap.size #[.int .i64 1, .int .i64 0] := ⟨_, rfl⟩
          rw [← hW2] at HZ2 HB3
          have HWE := Lib.hid hW2
          have HSZ := Lib.hid token_size
          obtain ⟨q, hq⟩ : ∃ q, q = wr.heap.size := ⟨_, rfl⟩
          rw [← hq] at HZ2
          have HQE := Lib.hid hq
          have HB4 : Hid (Below w2.heap.size w2 W2) := Lib.hid (HBW.out.trans (HB3.out.mono HBW.out.size))
          have e0 : W2.cell? ⟨q, 0, none⟩ = some (.int .i64 1) := HZ2.out.cell 0
          have e1 : W2.cell? ⟨q, 1, none⟩ = some (.int .i64 0) := HZ2.out.cell 1
          clear hW2 hq HB3 HBW
          go_wp2_with (refine wpList_store_row rfl 28 _ _ rfl wr.heap.size #[.int .i64 1, .int .i64 0] rfl rfl 28 _ HZ.out HSZ.out rfl (two_one2 _ _) ?_; rw [← HWE.out, ← HQE.out])
          clear HZ HWE HQE
          go_loopw [10] (fun u10 wk => ∃ nq : Nat, u10 = .int .i64 0 ∧ wk = W2.drewN nq) (fun _ _ => 0)
          case atStart => exact ⟨0, rfl, rfl⟩
          case round =>
            obtain ⟨nq, rfl, rfl⟩ := hrel
            go_wp2_with fail
            exact ⟨⟨i + 1, at_ + 1, by go_num, by go_num, by have := HX.out; omega, by have := HX.out; omega, HDN, Lib.hid (belowN HB4.out _)⟩, by simp only [intOf]; have := HX.out; omega⟩
        · have HX := Lib.hid (⟨hlt, hx2, hx3, hy2, hat, hM6⟩ : i < N ∧ at_ + X ≤ M ∧ X ≤ 258 ∧ Y ≤ at_ ∧ at_ ≤ M ∧ M ≤ 600)
          have HSAME := Lib.hid hsame
          have t1 : ¬ (X : Int) < 1 := by omega
          have t2 : ¬ (X : Int) > 258 := by omega
          have t3 : ¬ (Y : Int) < 0 := by omega
          have t4 : ¬ (Y : Int) > (at_ : Int) := by omega
          have t5 : ((Y : Int) == 0) = false := beq_eq_false_iff_ne.2 (by omega)
          have t6 : ((X : Int) == 1) = false := beq_eq_false_iff_ne.2 (by omega)
          have t7 : (Y : Int) > 0 := by omega
          have t8 : ¬ (X : Int) < 3 := by omega
          clear hlt hx1 hx2 hx3 hlat h3 hy1 hy2 hy3 hsame
          have HZ := Lib.hid (Blk.new wr 28 #[.int .i64 0, .int .i64 0])
          have HZ2 := Lib.hid (HZ.out.row_ #[.int .i64 (X : Int), .int .i64 (Y : Int)])
          have HB3 := Lib.hid (below_setRow' ((Below.refl _ wr).alloc (Nat.le_refl _) (.cells #[.int .i64 0, .int .i64 0] 28)) (Nat.le_refl _) #[.int .i64 (X : Int), .int .i64 (Y : Int)])
          obtain ⟨W2, hW2⟩ : ∃ W2, W2 = (wr.alloc (.cells #[.int .i64 0, .int .i64 0] 28)).setRow wr.heap.size #[.int .i64 (X : Int), .int .i64 (Y : Int)] := ⟨_, rfl⟩
          rw [← hW2] at HZ2 HB3
          have HWE := Lib.hid hW2
          have HSZ := Lib.hid token_size
          obtain ⟨q, hq⟩ : ∃ q, q = wr.heap.size := ⟨_, rfl⟩
          rw [← hq] at HZ2
          have HQE := Lib.hid hq
          have HB4 : Hid (Below w2.heap.size w2 W2) := Lib.hid (HBW.out.trans (HB3.out.mono HBW.out.size))
          have e0 : W2.cell? ⟨q, 0, none⟩ = some (.int .i64 (X : Int)) := HZ2.out.cell 0
          have e1 : W2.cell? ⟨q, 1, none⟩ = some (.int .i64 (Y : Int)) := HZ2.out.cell 1
          clear hW2 hq HB3 HBW
          go_wp2_with (refine wpList_store_row rfl 28 _ _ rfl wr.heap.size #[.int .i64 (X : Int), .int .i64 (Y : Int)] rfl rfl 28 _ HZ.out HSZ.out rfl (two_one2 _ _) ?_; rw [← HWE.out, ← HQE.out])
          clear HZ HWE HQE
          go_loopw [10] (fun u10 wk => ∃ k nq : Nat, u10 = .int .i64 (k : Int) ∧ k ≤ X ∧ wk = W2.drewN nq) (fun u _ => X - (intOf u).toNat)
          case atStart => exact ⟨0, 0, rfl, Nat.zero_le _, rfl⟩
          case round =>
            obtain ⟨k, nq, rfl, hk, rfl⟩ := hrel
            by_cases hlk : k < X
            · have hlki : (k : Int) < (X : Int) := by omega
              have hhx := HX.out
              obtain ⟨i1, hi1⟩ : ∃ j, j = at_ + k := ⟨_, rfl⟩
              obtain ⟨i2, hi2⟩ : ∃ j, j = at_ + k - Y := ⟨_, rfl⟩
              have hw1 : IntKind.i64.wrap ((at_ : Int) + (k : Int)) = (i1 : Int) := by rw [IntWalk.i64_in _ (by omega)]; omega
              have hw2 : IntKind.i64.wrap ((i1 : Int) - (Y : Int)) = (i2 : Int) := by rw [IntWalk.i64_in _ (by omega)]; omega
              have hwk : IntKind.i64.wrap ((k : Int) + 1) = ((k + 1 : Nat) : Int) := by rw [IntWalk.i64_in _ (by omega)]; rfl
              have hb1 : i1 < T.size := by have := HTZ.out; omega
              have hb2 : i2 < T.size := by have := HTZ.out; omega
              have hb3 : (i1 : Int) < (T.size : Int) := by omega
              have hb4 : (i2 : Int) < (T.size : Int) := by omega
              obtain ⟨z, hz⟩ : ∃ z, z = b i1 := ⟨_, rfl⟩
              have hc1 : (T[i1]'hb1).toNat = z := by rw [hz]; exact HBY.out i1 hb1
              have hc2 : (T[i2]'hb2).toNat = z := by rw [hz, hi1, HSAME.out k hlk, ← hi2]; exact HBY.out i2 hb2
              have HLK := Lib.hid hlk
              clear hz hi1 hi2 hhx hlk
              go_wp2_with fail
              go_quiet (fail)
              go_wp2_with fail
              exact ⟨⟨k + 1, _, by go_num, by have := HLK.out; omega, rfl⟩, by simp only [intOf]; have := HLK.out; omega⟩
            · obtain rfl : X = k := by omega
              have hlki : ¬ (X : Int) < (X : Int) := by omega
              go_wp2_with fail
              exact ⟨⟨i + 1, at_ + X, by go_num, by go_num, by have := HX.out; omega, by have := HX.out; omega, HDN, Lib.hid (belowN HB4.out _)⟩, by simp only [intOf]; have := HX.out; omega⟩
      · obtain rfl : i = N := by omega
        have hlti : ¬ (i : Int) < (i : Int) := by omega
        obtain rfl : at_ = M := toksG_nil (by rw [← HDR.out, List.drop_eq_nil_of_le (by rw [← HN.out]; exact Nat.le_refl _)]) hat
        go_wp2_with fail
        go_ret
        exact ⟨rfl, HB2.out.trans (HBW.out.mono HB2.out.size)⟩
  · obtain rfl : from_ = (g : Int) := by rw [hg, if_neg hneg]
    clear hg
    go_wp2_with (refine wpList_valK (.int .i64 ((min s.size 600 : Nat) : Int)) rfl (lands_min (.tmp 16) s.size 600 rfl rfl rfl) ?_; intro w8 h8; obtain rfl : w1 = w8 := h8.symm; rw [← HM.out])
    rw [← HT.out]
    refine (HD.out w1).mono ?_
    rintro e w2 ⟨v1, rfl, h1⟩
    obtain ⟨p1, c1, rfl, r1, -⟩ := h1.rs
    rw [List.length_map, ← HN.out] at r1 ⊢
    have HB2 := Lib.hid (HB1.out.trans (h1.b.mono HB1.out.size))
    have HR2 := Lib.hid r1
    clear h1 r1 HD hM1 hM2 hM3 hwM hM0 hrem hwx hneg 
    go_wp2_with fail
    go_loopw [7, 8] (fun u7 u8 wr => ∃ i at_ : Nat, u7 = .int .i64 (at_ : Int) ∧ u8 = .int .i64 (i : Int) ∧ i ≤ N ∧ at_ ≤ M ∧ Hid (L.drop i = toksG b lo M (M - at_) at_) ∧ Hid (Below w2.heap.size w2 wr)) (fun _ u _ => N - (intOf u).toNat)
    case atStart => exact ⟨0, x, rfl, rfl, Nat.zero_le _, hxM, HL0, Lib.hid (Below.refl _ _)⟩
    case round =>
      obtain ⟨i, at_, rfl, rfl, hi, hat, HDR, HBW⟩ := hrel
      clear HL0
      by_cases hlt : i < N
      · have hlti : (i : Int) < (N : Int) := by omega
        have hwi : IntKind.i64.wrap ((i : Int) + 1) = ((i + 1 : Nat) : Int) := by rw [IntWalk.i64_in _ (by omega)]; rfl
        obtain ⟨a1, rfl⟩ := HR2.out.some_ (by omega)
        have hlat : at_ < M := by
          rcases Nat.lt_or_ge at_ M with h | h
          · exact h
          · have h0 := HDR.out
            rw [toksG_end (show ¬ at_ < M by omega)] at h0
            have := congrArg List.length h0
            rw [List.length_drop, ← HN.out] at this
            simp at this; omega
        have hd0 := HDR.out
        rw [show M - at_ = M - at_ - 1 + 1 by omega, toksG_one hlat] at hd0
        have hok := bestS_ok HLT.out lo (to := M) hlat
        rw [toksG_more HLT.out lo M (M - at_ - 1) (M - (at_ + (bestS b lo M at_).1)) _ (by have := hok.1; omega) (by omega)] at hd0
        generalize bestS b lo M at_ = bt at hd0 hok
        obtain ⟨X, Y⟩ := bt
        dsimp only at hd0
        obtain ⟨hget, hdn⟩ := drop_next hd0
        have HDN := Lib.hid hdn
        have hg2 : (L.map encT)[i]? = some (encT (X, Y)) := by rw [List.getElem?_map, hget]; rfl
        obtain ⟨d0, d1⟩ := (HR2.out.below HBW.out).at2 hg2
        obtain ⟨hx1, hx2, hx3, hcase⟩ := hok
        dsimp only at hx1 hx2 hx3 hcase
        have hwat : IntKind.i64.wrap ((at_ : Int) + (X : Int)) = ((at_ + X : Nat) : Int) := by rw [IntWalk.i64_in _ (by omega)]; rfl
        have hle1 : ¬ ((at_ + X : Nat) : Int) > (M : Int) := by omega
        have hle2 : ¬ ((at_ + X : Nat) : Int) > (T.size : Int) := by have := HTZ.out; omega
        clear hd0 hdn hget hg2
        rcases hcase with ⟨rfl, rfl⟩ | ⟨h3, hy1, hy2, hy3, hsame⟩
        · have HX := Lib.hid (⟨hlt, hx2⟩ : i < N ∧ at_ + 1 ≤ M)
          clear hlt hx1 hx2 hx3 hlat
          have HZ := Lib.hid (Blk.new wr 28 #[.int .i64 0, .int .i64 0])
          have HZ2 := Lib.hid (HZ.out.row_ #[.int .i64 1, .int .i64 0])
          have HB3 := Lib.hid (below_setRow' ((Below.refl _ wr).alloc (Nat.le_refl _) (.cells #[.int .i64 0, .int .i64 0] 28)) (Nat.le_refl _) #[.int .i64 1, .int .i64 0])
          obtain ⟨W2, hW2⟩ : ∃ W2, W2 = (wr.alloc (.cells #[.int .i64 0, .int .i64 0] 28)).setRow wr.heap.size #[.int .i64 1, .int .i64 0] := ⟨_, rfl⟩
          rw [← hW2] at HZ2 HB3
          have HWE := Lib.hid hW2
          have HSZ := Lib.hid token_size
          obtain ⟨q, hq⟩ : ∃ q, q = wr.heap.size := ⟨_, rfl⟩
          rw [← hq] at HZ2
          have HQE := Lib.hid hq
          have HB4 : Hid (Below w2.heap.size w2 W2) := Lib.hid (HBW.out.trans (HB3.out.mono HBW.out.size))
          have e0 : W2.cell? ⟨q, 0, none⟩ = some (.int .i64 1) := HZ2.out.cell 0
          have e1 : W2.cell? ⟨q, 1, none⟩ = some (.int .i64 0) := HZ2.out.cell 1
          clear hW2 hq HB3 HBW
          go_wp2_with (refine wpList_store_row rfl 28 _ _ rfl wr.heap.size #[.int .i64 1, .int .i64 0] rfl rfl 28 _ HZ.out HSZ.out rfl (two_one2 _ _) ?_; rw [← HWE.out, ← HQE.out])
          clear HZ HWE HQE
          go_loopw [10] (fun u10 wk => ∃ nq : Nat, u10 = .int .i64 0 ∧ wk = W2.drewN nq) (fun _ _ => 0)
          case atStart => exact ⟨0, rfl, rfl⟩
          case round =>
            obtain ⟨nq, rfl, rfl⟩ := hrel
            go_wp2_with fail
            exact ⟨⟨i + 1, at_ + 1, by go_num, by go_num, by have := HX.out; omega, by have := HX.out; omega, HDN, Lib.hid (belowN HB4.out _)⟩, by simp only [intOf]; have := HX.out; omega⟩
        · have HX := Lib.hid (⟨hlt, hx2, hx3, hy2, hat, hM6⟩ : i < N ∧ at_ + X ≤ M ∧ X ≤ 258 ∧ Y ≤ at_ ∧ at_ ≤ M ∧ M ≤ 600)
          have HSAME := Lib.hid hsame
          have t1 : ¬ (X : Int) < 1 := by omega
          have t2 : ¬ (X : Int) > 258 := by omega
          have t3 : ¬ (Y : Int) < 0 := by omega
          have t4 : ¬ (Y : Int) > (at_ : Int) := by omega
          have t5 : ((Y : Int) == 0) = false := beq_eq_false_iff_ne.2 (by omega)
          have t6 : ((X : Int) == 1) = false := beq_eq_false_iff_ne.2 (by omega)
          have t7 : (Y : Int) > 0 := by omega
          have t8 : ¬ (X : Int) < 3 := by omega
          clear hlt hx1 hx2 hx3 hlat h3 hy1 hy2 hy3 hsame
          have HZ := Lib.hid (Blk.new wr 28 #[.int .i64 0, .int .i64 0])
          have HZ2 := Lib.hid (HZ.out.row_ #[.int .i64 (X : Int), .int .i64 (Y : Int)])
          have HB3 := Lib.hid (below_setRow' ((Below.refl _ wr).alloc (Nat.le_refl _) (.cells #[.int .i64 0, .int .i64 0] 28)) (Nat.le_refl _) #[.int .i64 (X : Int), .int .i64 (Y : Int)])
          obtain ⟨W2, hW2⟩ : ∃ W2, W2 = (wr.alloc (.cells #[.int .i64 0, .int .i64 0] 28)).setRow wr.heap.size #[.int .i64 (X : Int), .int .i64 (Y : Int)] := ⟨_, rfl⟩
          rw [← hW2] at HZ2 HB3
          have HWE := Lib.hid hW2
          have HSZ := Lib.hid token_size
          obtain ⟨q, hq⟩ : ∃ q, q = wr.heap.size := ⟨_, rfl⟩
          rw [← hq] at HZ2
          have HQE := Lib.hid hq
          have HB4 : Hid (Below w2.heap.size w2 W2) := Lib.hid (HBW.out.trans (HB3.out.mono HBW.out.size))
          have e0 : W2.cell? ⟨q, 0, none⟩ = some (.int .i64 (X : Int)) := HZ2.out.cell 0
          have e1 : W2.cell? ⟨q, 1, none⟩ = some (.int .i64 (Y : Int)) := HZ2.out.cell 1
          clear hW2 hq HB3 HBW
          go_wp2_with (refine wpList_store_row rfl 28 _ _ rfl wr.heap.size #[.int .i64 (X : Int), .int .i64 (Y : Int)] rfl rfl 28 _ HZ.out HSZ.out rfl (two_one2 _ _) ?_; rw [← HWE.out, ← HQE.out])
          clear HZ HWE HQE
          go_loopw [10] (fun u10 wk => ∃ k nq : Nat, u10 = .int .i64 (k : Int) ∧ k ≤ X ∧ wk = W2.drewN nq) (fun u _ => X - (intOf u).toNat)
          case atStart => exact ⟨0, 0, rfl, Nat.zero_le _, rfl⟩
          case round =>
            obtain ⟨k, nq, rfl, hk, rfl⟩ := hrel
            by_cases hlk : k < X
            · have hlki : (k : Int) < (X : Int) := by omega
              have hhx := HX.out
              obtain ⟨i1, hi1⟩ : ∃ j, j = at_ + k := ⟨_, rfl⟩
              obtain ⟨i2, hi2⟩ : ∃ j, j = at_ + k - Y := ⟨_, rfl⟩
              have hw1 : IntKind.i64.wrap ((at_ : Int) + (k : Int)) = (i1 : Int) := by rw [IntWalk.i64_in _ (by omega)]; omega
              have hw2 : IntKind.i64.wrap ((i1 : Int) - (Y : Int)) = (i2 : Int) := by rw [IntWalk.i64_in _ (by omega)]; omega
              have hwk : IntKind.i64.wrap ((k : Int) + 1) = ((k + 1 : Nat) : Int) := by rw [IntWalk.i64_in _ (by omega)]; rfl
              have hb1 : i1 < T.size := by have := HTZ.out; omega
              have hb2 : i2 < T.size := by have := HTZ.out; omega
              have hb3 : (i1 : Int) < (T.size : Int) := by omega
              have hb4 : (i2 : Int) < (T.size : Int) := by omega
              obtain ⟨z, hz⟩ : ∃ z, z = b i1 := ⟨_, rfl⟩
              have hc1 : (T[i1]'hb1).toNat = z := by rw [hz]; exact HBY.out i1 hb1
              have hc2 : (T[i2]'hb2).toNat = z := by rw [hz, hi1, HSAME.out k hlk, ← hi2]; exact HBY.out i2 hb2
              have HLK := Lib.hid hlk
              clear hz hi1 hi2 hhx hlk
              go_wp2_with fail
              go_quiet (fail)
              go_wp2_with fail
              exact ⟨⟨k + 1, _, by go_num, by have := HLK.out; omega, rfl⟩, by simp only [intOf]; have := HLK.out; omega⟩
            · obtain rfl : X = k := by omega
              have hlki : ¬ (X : Int) < (X : Int) := by omega
              go_wp2_with fail
              exact ⟨⟨i + 1, at_ + X, by go_num, by go_num, by have := HX.out; omega, by have := HX.out; omega, HDN, Lib.hid (belowN HB4.out _)⟩, by simp only [intOf]; have := HX.out; omega⟩
      · obtain rfl : i = N := by omega
        have hlti : ¬ (i : Int) < (i : Int) := by omega
        obtain rfl : at_ = M := toksG_nil (by rw [← HDR.out, List.drop_eq_nil_of_le (by rw [← HN.out]; exact Nat.le_refl _)]) hat
        go_wp2_with fail
        go_ret
        exact ⟨rfl, HB2.out.trans (HBW.out.mono HB2.out.size)⟩
end Go.Proofs.Ytjdfdiejlmeeoaa
