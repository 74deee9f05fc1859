/- The law DerLengths of chapter 14 (over the developers' contracts). -/
import Derived.Test.YtkbjgaobhbiieaaMC
namespace Go.Proofs.Ytkbjgaobhbiieaa
open Go.RowKit
theorem cellsI_isM (o : Option It) : ∃ (T : Int) (X Y : ByteArray), cellsI o = #[.int .i64 T, .string X, .string Y] := by
  rcases o with _ | ⟨t, x, y⟩
  · exact ⟨0, _, _, rfl⟩
  · exact ⟨_, _, _, rfl⟩
set_option maxRecDepth 100000 in
set_option maxHeartbeats 16000000 in
theorem derLengths_any (hN : NextC) (hW : WrapC) (hS : StripX) (n c : Nat) (hn : n < 4294967296) (hc : c < 256) (w : World) :
    Calls Try.prog 6 #[.int .u32 (n : Int), .int .u8 (c : Int)] w fun e w' => e = .returned (.bool true) ∧ Below w.heap.size w w' := by
  have CX := examples14_any hN hW hS
  obtain ⟨x, hx⟩ : ∃ x, x = n % 70001 := ⟨_, rfl⟩
  have hx7 : x ≤ 70000 := by omega
  have hxi : (n : Int) % 70001 = (x : Int) := by omega
  have hxi2 : (n : Int).tmod 70001 = (x : Int) := by rw [Int.tmod_eq_emod_of_nonneg (by omega)]; omega
  have hxw : IntKind.i64.wrap (x : Int) = (x : Int) := IntWalk.i64_in _ (by omega)
  have hxu : IntKind.u32.wrap (x : Int) = (x : Int) := by rw [IntKind.wrap_u32']; omega
  have hmk : ∀ w, (Instr.makeSlice 43 (.int .i64 (x : Int)) (.int .i64 (x : Int))).run Try.prog w = .ok (.slice (some ⟨w.heap.size, 0, none⟩) x x) (w.alloc (.cells (r8 x fun _ => 0#8) 5)) := run_zerosS x (by omega)
  obtain ⟨F, hF⟩ : ∃ F : Nat → Nat → Nat, ∀ i j, F i j = if j < i then c else 0 := ⟨_, fun _ _ => rfl⟩
  have HF := Lib.hid hF
  obtain ⟨R, hR⟩ : ∃ R, R = textN x (F x) := ⟨_, rfl⟩
  have hRs : R.size = x := by rw [hR, textN_size]
  have U1 := fun wx => hW 4 R wx (by omega)
  have hw1 : wrapS 4 R = (wrapT 4 R, 0) := by unfold wrapS; rw [if_neg (by decide), if_neg (by omega)]; rfl
  rw [hw1] at U1
  have hwl := wrap_len 4 R
  have hwn := next_wrap 4 R ⟨#[]⟩ (by decide) (by decide) (by omega)
  rw [app_noneD] at hwn
  have N1 := fun wx => hN (wrapT 4 R) wx (by rw [hwl, hRs]; unfold cntK; split <;> split <;> split <;> omega)
  rw [hwn] at N1
  have hlz : (longT R).size = 5 + x := by rw [long_is R (by omega), size_app, tL_size, hRs]; rfl
  have N2 := fun wx => hN (longT R) wx (by omega)
  have hli := long_next R (by omega)
  obtain ⟨T2, X2, Y2, hc2⟩ := cellsI_isM (nextD (longT R))
  rw [hc2] at N2
  obtain ⟨er, her⟩ : ∃ er, er = errI (nextD (longT R)) := ⟨_, rfl⟩
  rw [← her] at N2
  have HER : Hid (er = if 65535 < x then 0 else 2) := Lib.hid (by rw [her]; unfold errI; rw [hli, hRs]; by_cases h : 65535 < x <;> simp [h])
  have HLT : Hid (longT R = (⟨#[4, 131]⟩ : ByteArray) ++ tL [x / 65536, x / 256 % 256, x % 256] ++ R) := Lib.hid (by unfold longT; rw [hRs])
  have HWL : Hid ((wrapT 4 R).size = x + (2 + cntK x 3)) := Lib.hid (by rw [hwl, hRs])
  generalize wrapT 4 R = WT at U1 N1 HWL
  generalize longT R = LT at N2 HLT
  have HX := Lib.hid (⟨hc, hx7⟩ : c < 256 ∧ x ≤ 70000)
  have HT := Lib.hid hR
  have HRS := Lib.hid hRs
  clear hx hF hR hRs hc hn hN hW hS hw1 hwl hwn hlz hli hc2 her
  go_enter Try.func6, Try.ntmps6
  go_wp2_with fail
  refine (CX w).mono ?_
  rintro e w1 ⟨rfl, b1⟩
  obtain ⟨W1, hW1⟩ : ∃ W1, W1 = w1.alloc (.cells (r8 x fun _ => 0#8) 5) := ⟨_, rfl⟩
  obtain ⟨q, hq⟩ : ∃ q, q = w1.heap.size := ⟨_, rfl⟩
  have hz := cly_zeros x w1
  have ha := b1.alloc b1.size (.cells (r8 x fun _ => 0#8) 5)
  have hmk1 := hmk w1
  rw [← hW1] at hz ha hmk1
  rw [← hq] at hz hmk1
  have HL0 : Hid (ClY x (F 0) q W1 ∧ Below w.heap.size w W1) := Lib.hid ⟨hz.cast (funext fun j => by rw [HF.out]; simp), ha⟩
  have HQ : Hid (w.heap.size ≤ q) := Lib.hid (by rw [hq]; exact b1.size)
  clear hz ha hmk hW1 b1 hq CX
  go_wp2_with fail
  go_loopw [8] (fun u wr => ∃ i : Nat, u = .int .i64 (i : Int) ∧ i ≤ x ∧ Hid (ClY x (F i) q wr ∧ Below w.heap.size w wr)) (fun u _ => x - (intOf u).toNat)
  case atStart => exact ⟨0, rfl, Nat.zero_le _, HL0⟩
  case round =>
    obtain ⟨i, rfl, hi, HL⟩ := hrel
    clear HL0 hmk1
    by_cases hlt : i < x
    · have hlti : (i : Int) < (x : Int) := by omega
      have hw : IntKind.i64.wrap ((i : Int) + 1) = ((i + 1 : Nat) : Int) := by rw [IntWalk.i64_in _ (by omega)]; rfl
      have c0 := HL.out.1.c i hlt
      have f0 := HL.out.1.fz i hlt
      have HN : Hid (ClY x (F (i + 1)) q (wr.setCell ⟨q, i, none⟩ (.int .u8 (c : Int))) ∧ Below w.heap.size w (wr.setCell ⟨q, i, none⟩ (.int .u8 (c : Int)))) := Lib.hid ⟨(HL.out.1.put i c).cast (funext fun j => by
        rw [HF.out, HF.out]
        by_cases h1 : j = i
        · subst h1; rw [if_pos rfl, if_pos (by omega)]
        · rw [if_neg h1]
          by_cases h2 : j < i
          · rw [if_pos h2, if_pos (by omega)]
          · rw [if_neg h2, if_neg (by omega)]), HL.out.2.setCell (p := ⟨q, i, none⟩) HQ.out _⟩
      have HLT2 := Lib.hid hlt
      clear hlt HL
      go_wp2_with fail
      exact ⟨⟨i + 1, by go_num, by have := HLT2.out; omega, HN⟩, by simp only [intOf]; have := HLT2.out; omega⟩
    · obtain rfl : x = i := by omega
      have hlti : ¬ (x : Int) < (x : Int) := by omega
      have hcv := bytesN_end HL.out.1 (fun j => by rw [HF.out]; have := HX.out; split <;> omega) x
      rw [← HT.out] at hcv
      clear hlt hi
      go_wp2_with fail
      refine (U1 wr).mono ?_
      rintro e w2 ⟨rfl, b2⟩
      have HC2 := Lib.hid (HL.out.1.below b2)
      have HB2 := Lib.hid (HL.out.2.trans (b2.mono HL.out.2.size))
      obtain ⟨qt, hqt⟩ : ∃ qt, qt = w2.heap.size := ⟨_, rfl⟩
      obtain ⟨W3, hW3⟩ : ∃ W3, W3 = w2.alloc (.cells #[.int .i64 127, .int .i64 255, .int .i64 65535] 3) := ⟨_, rfl⟩
      have hbt : Blk W3 qt 3 #[.int .i64 127, .int .i64 255, .int .i64 65535] := by rw [hqt, hW3]; exact Blk.new _ _ _
      have hb3 : Below w2.heap.size w2 W3 := by rw [hW3]; exact (Below.refl _ _).alloc (Nat.le_refl _) _
      have HC3 := Lib.hid (HC2.out.below hb3)
      have HB3 := Lib.hid (HB2.out.trans (hb3.mono HB2.out.size))
      have HBT := Lib.hid hbt
      clear hcv b2 U1 hbt hb3 HC2 HB2 HL
      go_wp2_with fail
      rw [← hqt, ← hW3]
      clear hqt hW3
      go_loopw [11, 13] (fun y u wr => ∃ j : Nat, y = .int .i64 ((2 + cntK x j : Nat) : Int) ∧ u = .int .i64 (j : Int) ∧ j ≤ 3 ∧ wr = W3) (fun _ u _ => 3 - (intOf u).toNat)
      case atStart => exact ⟨0, rfl, rfl, by decide, rfl⟩
      case round =>
        obtain ⟨j, rfl, rfl, hj, rfl⟩ := hrel
        have hk3 : j = 0 ∨ j = 1 ∨ j = 2 ∨ j = 3 := by omega
        rcases hk3 with rfl | rfl | rfl | rfl
        · have t0 : wr.cell? ⟨qt, 0, none⟩ = some (.int .i64 127) := HBT.out.cell 0
          by_cases ht : 127 < x
          · have hti : (x : Int) > 127 := by omega
            have HCN : Hid (cntK x 1 = cntK x 0 + 1) := Lib.hid (by unfold cntK; simp; omega)
            have hc3 : cntK x 0 ≤ 3 := by unfold cntK; split <;> split <;> split <;> omega
            generalize cntK x 0 = g1 at *
            have hadd : IntKind.i64.wrap (2 + (g1 : Int) + 1) = 2 + (g1 : Int) + 1 := IntWalk.i64_in _ (by omega)
            clear hc3
            go_wp2_with fail
            exact ⟨⟨1, by rw [HCN.out]; go_num, rfl, by decide, trivial⟩, by simp [intOf]⟩
          · have hti : ¬ (x : Int) > 127 := by omega
            have HCN : Hid (cntK x 1 = cntK x 0) := Lib.hid (by unfold cntK; simp; omega)
            go_wp2_with fail
            exact ⟨⟨1, by rw [HCN.out], rfl, by decide, trivial⟩, by simp [intOf]⟩
        · have t0 : wr.cell? ⟨qt, 1, none⟩ = some (.int .i64 255) := HBT.out.cell 1
          by_cases ht : 255 < x
          · have hti : (x : Int) > 255 := by omega
            have HCN : Hid (cntK x 2 = cntK x 1 + 1) := Lib.hid (by unfold cntK; simp; omega)
            have hc3 : cntK x 1 ≤ 3 := by unfold cntK; split <;> split <;> split <;> omega
            generalize cntK x 1 = g1 at *
            have hadd : IntKind.i64.wrap (2 + (g1 : Int) + 1) = 2 + (g1 : Int) + 1 := IntWalk.i64_in _ (by omega)
            clear hc3
            go_wp2_with fail
            exact ⟨⟨2, by rw [HCN.out]; go_num, rfl, by decide, trivial⟩, by simp [intOf]⟩
          · have hti : ¬ (x : Int) > 255 := by omega
            have HCN : Hid (cntK x 2 = cntK x 1) := Lib.hid (by unfold cntK; simp; omega)
            go_wp2_with fail
            exact ⟨⟨2, by rw [HCN.out], rfl, by decide, trivial⟩, by simp [intOf]⟩
        · have t0 : wr.cell? ⟨qt, 2, none⟩ = some (.int .i64 65535) := HBT.out.cell 2
          by_cases ht : 65535 < x
          · have hti : (x : Int) > 65535 := by omega
            have HCN : Hid (cntK x 3 = cntK x 2 + 1) := Lib.hid (by unfold cntK; simp; omega)
            have hc3 : cntK x 2 ≤ 3 := by unfold cntK; split <;> split <;> split <;> omega
            generalize cntK x 2 = g1 at *
            have hadd : IntKind.i64.wrap (2 + (g1 : Int) + 1) = 2 + (g1 : Int) + 1 := IntWalk.i64_in _ (by omega)
            clear hc3
            go_wp2_with fail
            exact ⟨⟨3, by rw [HCN.out]; go_num, rfl, by decide, trivial⟩, by simp [intOf]⟩
          · have hti : ¬ (x : Int) > 65535 := by omega
            have HCN : Hid (cntK x 3 = cntK x 2) := Lib.hid (by unfold cntK; simp; omega)
            go_wp2_with fail
            exact ⟨⟨3, by rw [HCN.out], rfl, by decide, trivial⟩, by simp [intOf]⟩
        · clear hj
          go_wp2_with fail
          refine (N1 wr).mono ?_
          rintro e w4 ⟨rfl, b4⟩
          have HC4 := Lib.hid (HC3.out.below b4)
          have B4 := HB3.out.trans (b4.mono HB3.out.size)
          have HZ1 := Lib.hid (Blk.new w4 24 #[.int .i64 0, .string ⟨#[]⟩, .string ⟨#[]⟩])
          have hb1 := below_setRow' ((Below.refl w4.heap.size w4).alloc (Nat.le_refl _) (.cells #[.int .i64 0, .string ⟨#[]⟩, .string ⟨#[]⟩] 24)) (Nat.le_refl _) #[.int .i64 4, .string R, .string ⟨#[]⟩]
          have hz1 := HZ1.out.row_ #[.int .i64 4, .string R, .string ⟨#[]⟩]
          obtain ⟨q1, hq1⟩ : ∃ q, q = w4.heap.size := ⟨_, rfl⟩
          obtain ⟨W1, hW1⟩ : ∃ W, W = (w4.alloc (.cells #[.int .i64 0, .string ⟨#[]⟩, .string ⟨#[]⟩] 24)).setRow w4.heap.size #[.int .i64 4, .string R, .string ⟨#[]⟩] := ⟨_, rfl⟩
          rw [← hW1] at hb1 hz1
          rw [← hq1] at hz1
          have HW1 := Lib.hid hW1
          have HQ1 := Lib.hid hq1
          clear hW1 hq1
          have HC5 := Lib.hid (HC4.out.below hb1)
          have B5 := B4.trans (hb1.mono B4.size)
          obtain ⟨p2, hp2⟩ : ∃ p2, p2 = x / 65536 := ⟨_, rfl⟩
          obtain ⟨p1, hp1⟩ : ∃ p1, p1 = x / 256 % 256 := ⟨_, rfl⟩
          obtain ⟨p0, hp0⟩ : ∃ p0, p0 = x % 256 := ⟨_, rfl⟩
          have hx7 := HX.out.2
          have k2 : IntKind.u8.wrap ((x : Int) / 65536) = (p2 : Int) := by rw [IntKind.wrap_u8']; omega
          have k1 : IntKind.u8.wrap ((x : Int) / 256) = (p1 : Int) := by rw [IntKind.wrap_u8']; omega
          have k0 : IntKind.u8.wrap (x : Int) = (p0 : Int) := by rw [IntKind.wrap_u8']; omega
          have hlt := HLT.out
          rw [← hp2, ← hp1, ← hp0] at hlt
          have HLT9 := Lib.hid hlt
          have hl8 : ∀ y ∈ [p2, p1, p0], y < 256 := fun y hy => by simp only [List.mem_cons, List.not_mem_nil, or_false] at hy; omega
          have hal := (Below.refl _ W1).alloc (Nat.le_refl _) (.cells #[.int .u8 (p2 : Int), .int .u8 (p1 : Int), .int .u8 (p0 : Int)] 5)
          have hcv3 := conv_blk (W1.alloc (.cells #[.int .u8 (p2 : Int), .int .u8 (p1 : Int), .int .u8 (p0 : Int)] 5)) W1.heap.size _ (Blk.new _ _ _) [p2, p1, p0] hl8 rfl 3 3 rfl
          obtain ⟨W2, hW2⟩ : ∃ W2, W2 = W1.alloc (.cells #[.int .u8 (p2 : Int), .int .u8 (p1 : Int), .int .u8 (p0 : Int)] 5) := ⟨_, rfl⟩
          rw [← hW2] at hal
          replace hcv3 := hcv3.trans (show _ = Result.ok _ W2 by rw [hW2])
          have HC6 := Lib.hid (HC5.out.below hal)
          have B6 := B5.trans (hal.mono B5.size)
          have hz6 := hz1.below hal hz1.lt
          have hcb := bytesN_end HC6.out (fun j => by rw [HF.out]; have := HX.out; split <;> omega) x
          rw [← HT.out] at hcb
          have HW2 := Lib.hid hW2
          have HZ6 := Lib.hid hz6
          have HB6 := Lib.hid B6
          clear hal hlt hW2 hz6 B4 B5 B6 HC4 HC5 hl8 hp2 hp1 hp0 b4 hb1 hz1
          have hs3 : (tL [p2, p1, p0]).size = 3 := by rw [tL_size]; rfl
          generalize tL [p2, p1, p0] = X3 at hcv3 HLT9 hs3
          have hzA : ¬ (((⟨#[4, 131]⟩ : ByteArray).size + X3.size : Nat) : Int) > 9223372036854775807 := by rw [hs3]; decide
          have hzB : ¬ ((((⟨#[4, 131]⟩ : ByteArray) ++ X3).size + R.size : Nat) : Int) > 9223372036854775807 := by rw [HRS.out, size_app, hs3, show (⟨#[4, 131]⟩ : ByteArray).size = 2 from rfl]; omega
          have HS3 := Lib.hid hs3
          clear hs3
          go_wp2_with (refine wpList_store_row rfl 24 _ _ rfl w4.heap.size #[.int .i64 4, .string R, .string ⟨#[]⟩] rfl rfl 24 _ HZ1.out itemD_size rfl (cells3_one _ _ _) ?_; rw [← HW1.out, ← HQ1.out])
          rw [← HLT9.out]
          refine (N2 W2).mono ?_
          rintro e w5 ⟨rfl, b5⟩
          have B7 := HB6.out.trans (b5.mono HB6.out.size)
          have HC7 := Lib.hid (HC6.out.below b5)
          have hz7 := HZ6.out.below b5 HZ6.out.lt
          have HZ2 := Lib.hid (Blk.new w5 24 #[.int .i64 0, .string ⟨#[]⟩, .string ⟨#[]⟩])
          have hb2 := below_setRow' ((Below.refl w5.heap.size w5).alloc (Nat.le_refl _) (.cells #[.int .i64 0, .string ⟨#[]⟩, .string ⟨#[]⟩] 24)) (Nat.le_refl _) #[.int .i64 T2, .string X2, .string Y2]
          have hz2 := HZ2.out.row_ #[.int .i64 T2, .string X2, .string Y2]
          obtain ⟨q2, hq2⟩ : ∃ q, q = w5.heap.size := ⟨_, rfl⟩
          obtain ⟨W2, hW2⟩ : ∃ W, W = (w5.alloc (.cells #[.int .i64 0, .string ⟨#[]⟩, .string ⟨#[]⟩] 24)).setRow w5.heap.size #[.int .i64 T2, .string X2, .string Y2] := ⟨_, rfl⟩
          rw [← hW2] at hb2 hz2
          rw [← hq2] at hz2
          have HW2 := Lib.hid hW2
          have HQ2 := Lib.hid hq2
          clear hW2 hq2
          have B8 := B7.trans (hb2.mono B7.size)
          have HC8 := Lib.hid (HC7.out.below hb2)
          have hz8 := hz7.below hb2 hz7.lt
          have hcc := bytesN_end HC8.out (fun j => by rw [HF.out]; have := HX.out; split <;> omega) x
          rw [← HT.out] at hcc
          have hu0 := hz8.cell 0
          have hu1 := hz8.cell 1
          clear HC6 HC7 hz7 b5 hb2 B7 hcb hcv3
          have HB8 := Lib.hid B8
          have hk3 : cntK x 3 ≤ 3 := by unfold cntK; split <;> split <;> split <;> omega
          have hsw : (WT.size : Int) = (x : Int) + (2 + (cntK x 3 : Int)) := by rw [HWL.out]; go_num
          have hwp : IntKind.i64.wrap ((x : Int) + (2 + (cntK x 3 : Int))) = (x : Int) + (2 + (cntK x 3 : Int)) := IntWalk.i64_in _ (by have := HX.out.2; omega)
          have hei : (errI (some (4, R, ⟨#[]⟩)) : Int) = 0 := rfl
          have her := HER.out
          clear B8 hk3 hz2 hz8 hx7
          by_cases hg : 65535 < x
          · rw [if_pos hg] at her
            subst her
            have hgi : (x : Int) > 65535 := by omega
            clear hg
            go_wp2_with (refine wpList_store_row rfl 24 _ _ rfl w5.heap.size #[.int .i64 T2, .string X2, .string Y2] rfl rfl 24 _ HZ2.out itemD_size rfl (cells3_one _ _ _) ?_; rw [← HW2.out, ← HQ2.out])
            go_ret
            exact ⟨rfl, HB8.out⟩
          · rw [if_neg hg] at her
            subst her
            have hgi : ¬ (x : Int) > 65535 := by omega
            have HGD := Lib.hid (show ¬ (65535 : Int) < (x : Int) by omega)
            clear hg
            go_wp2_with (refine wpList_store_row rfl 24 _ _ rfl w5.heap.size #[.int .i64 T2, .string X2, .string Y2] rfl rfl 24 _ HZ2.out itemD_size rfl (cells3_one _ _ _) ?_; rw [← HW2.out, ← HQ2.out])
            go_ret
            exact ⟨by show Ending.returned (Value.bool (!decide ((65535 : Int) < (x : Int)))) = _; rw [decide_eq_false (show ¬ (65535 : Int) < (x : Int) by have := HGD.out; omega)]; rfl, HB8.out⟩
end Go.Proofs.Ytkbjgaobhbiieaa
