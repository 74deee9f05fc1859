/- The law DerBack of chapter 14 (over the developers' contracts). -/
import Derived.Test.YtkbjgaobhbiieaaMC
import Derived.Test.YtkbjgaobhbiieaaDerTwice
namespace Go.Proofs.Ytkbjgaobhbiieaa
open Go.RowKit
set_option maxRecDepth 100000 in
set_option maxHeartbeats 16000000 in
theorem derBack_any (hN : NextC) (hW : WrapC) (hP : PartsC) (hS : StripC) (l : List ByteArray) (p : Option Addr) (n cap : Nat) (tags : List Nat) (pt : Option Addr) (nt ct : Nat) (more : ByteArray) (w : World)
    (h : JA p n cap l pt nt ct tags w) (h8 : ∀ g ∈ tags, g < 256) (hmore : more.size ≤ 140737488351232) :
    Calls Try.prog 4 #[.slice p n cap, .slice pt nt ct, .string more] w fun e w' => e = .returned (.bool true) ∧ Below w.heap.size w w' := by
  have CX := examples14_any hN hW (stripX_of hS)
  have HC := Lib.hid (⟨hN, hW, hP⟩ : NextC ∧ WrapC ∧ PartsC)
  have HJ0 := Lib.hid h
  have HL : Hid (l.length = n ∧ n ≤ cap ∧ cap ≤ 9223372036854775807) := Lib.hid ⟨by have := h.1.len; rwa [List.length_map] at this, h.1.le, h.1.mx⟩
  have HT : Hid (tags.length = nt ∧ nt ≤ ct ∧ ct ≤ 9223372036854775807) := Lib.hid ⟨by have := h.2.len; rwa [List.length_map] at this, h.2.le, h.2.mx⟩
  have H8 := Lib.hid h8
  have HMO := Lib.hid hmore
  have hnn : (n : Int) ≤ 9223372036854775807 := by have := HL.out; omega
  have hnt : (nt : Int) ≤ 9223372036854775807 := by have := HT.out; omega
  clear h h8 hmore hN hW hP hS
  go_enter Try.func4, Try.ntmps4
  go_wp2_with fail
  refine (CX _).mono ?_
  rintro e w1 ⟨rfl, b1⟩
  have HJ1 := Lib.hid (HJ0.out.below b1)
  have HB1 := Lib.hid b1
  have HI : Hid (LS 3 1 w1.heap.size w1 (wantV tags 0) (.slice none 0 0) w1) := Lib.hid (LS.nil (Below.refl _ _) (Nat.le_refl _))
  clear b1 CX HJ0
  go_wp2_with fail
  go_loopw [8, 9, 10] (fun y v u wr => ∃ i : Nat, y = .string (catT (backL l tags i)) ∧ u = .int .i64 (i : Int) ∧ i ≤ n ∧ i ≤ 10 ∧ Hid (LS 3 1 w1.heap.size w1 (wantV tags i) v wr)) (fun _ _ u _ => 10 - (intOf u).toNat)
  case atStart => exact ⟨0, rfl, rfl, Nat.zero_le _, by decide, HI⟩
  case round =>
    obtain ⟨i, rfl, rfl, hin, hi10, HV⟩ := hrel
    clear HI
    by_cases hlt : i < n
    · have hlti : (i : Int) < (n : Int) := by omega
      by_cases hl5 : i < 10
      · have hl5i : (i : Int) < 10 := by omega
        have HJ := Lib.hid (HJ1.out.below HV.out.b)
        obtain ⟨a, rfl⟩ := HJ.out.1.some_ (by omega)
        obtain ⟨x, hx⟩ : ∃ x, x = l.getD i ⟨#[]⟩ := ⟨_, rfl⟩
        have hil : i < l.length := by have := HL.out.1; omega
        have HJX : Hid (∀ wx, JA (some a) n cap l pt nt ct tags wx → wx.cell? (a.add i) = some (.string x)) := Lib.hid fun wx h => by
          have := h.1.cell a rfl i (by rw [List.length_map]; exact hil) 0 (.string x) (by rw [List.getElem_map, hx, List.getD_eq_getElem?_getD, List.getElem?_eq_getElem hil]; rfl)
          rwa [Nat.mul_one, Nat.add_zero] at this
        obtain ⟨G, hG⟩ : ∃ G, G = tagT tags i := ⟨_, rfl⟩
        obtain ⟨Y, hY⟩ : ∃ Y, Y = txtT l i := ⟨_, rfl⟩
        obtain ⟨m, hm⟩ : ∃ m, m = min x.size 300 := ⟨_, rfl⟩
        have HY : Hid (x.extract 0 m = Y) := Lib.hid (by rw [hY, hm, hx]; rfl)
        have HMN : Hid ((if (300 : Int) < (x.size : Int) then (300 : Int) else (x.size : Int)) = (m : Int)) := Lib.hid (by rw [hm]; split <;> omega)
        have HML := Lib.hid (show ¬ x.size < m by omega)
        have HG := Lib.hid hG
        clear hG
        have HYE := Lib.hid hY
        have HKK := Lib.hid (⟨hlt, hl5, hil⟩ : i < n ∧ i < 10 ∧ i < l.length)
        have hYs : Y.size ≤ 300 := by rw [← HY.out, ByteArray.size_extract]; omega
        obtain ⟨X, hX⟩ : ∃ X, X = (wrapS (G : Int) Y).1 := ⟨_, rfl⟩
        obtain ⟨E, hE⟩ : ∃ E, E = (wrapS (G : Int) Y).2 := ⟨_, rfl⟩
        have KW := fun wx => HC.out.2.1 (G : Int) Y wx (by omega)
        rw [← hX, ← hE] at KW
        have HKW := Lib.hid KW
        clear KW
        have HXE := Lib.hid (⟨hX, hE, hYs⟩ : X = (wrapS (G : Int) Y).1 ∧ E = (wrapS (G : Int) Y).2 ∧ Y.size ≤ 300)
        clear hx hY hm hil hlt hl5 hin hi10 hX hE hYs
        by_cases htl : i < nt
        · have htli : (i : Int) < (nt : Int) := by omega
          obtain ⟨b, rfl⟩ := HJ.out.2.some_ (by omega)
          have hit : i < tags.length := by have := HT.out.1; omega
          have hGe : G = tags.getD i 0 := by rw [HG.out]; unfold tagT; rw [if_pos hit]
          have hct : wr.cell? (b.add i) = some (.int .u8 (G : Int)) := by
            have := HJ.out.2.cell b rfl i (by rw [List.length_map]; exact hit) 0 (.int .u8 (G : Int)) (by rw [List.getElem_map, hGe, List.getD_eq_getElem?_getD, List.getElem?_eq_getElem hit]; rfl)
            rwa [Nat.mul_one, Nat.add_zero] at this
          have hg : G < 256 := by rw [hGe, List.getD_eq_getElem?_getD, List.getElem?_eq_getElem hit]; exact H8.out _ (List.getElem_mem hit)
          have hgw : IntKind.i64.wrap (G : Int) = (G : Int) := IntWalk.i64_in _ (by omega)
          clear htl hit hGe
          go_wp2_with fail
          clear hct hgw
          have HJ1 := Lib.hid (HJ.out.below (Below.refl _ _).drew)
          have HV1 := Lib.hid HV.out.drew
          refine heldJ_start (JA (some a) n cap l (some b) nt ct tags) (by kernel_rfl) ?_
          change wpAnyH _ _ _ _ _ _ _ _ wr.drew
          generalize wr.drew = wd at HJ1 HV1 ⊢
          refine heldJ_take (i := 0) (v := .int .i64 (G : Int)) rfl (by kernel_rfl) (by kernel_rfl) (by kernel_rfl) (fun _ _ _ h => h) rfl (fun wx hJ => ?_) HJ1.out ?_
          · go_simp; skip
          simp only [pu]
          refine heldJ_take (i := 1) (v := .slice (some a) n cap) rfl (by kernel_rfl) (by kernel_rfl) (by kernel_rfl) (fun _ _ _ h => h) rfl (fun wx hJ => ?_) HJ1.out ?_
          · go_simp; skip
          simp only [pu]
          refine heldJ_take (i := 2) (v := .int .i64 (i : Int)) rfl (by kernel_rfl) (by kernel_rfl) (by kernel_rfl) (fun _ _ _ h => h) rfl (fun wx hJ => ?_) HJ1.out ?_
          · go_simp; skip
          simp only [pu]
          refine heldJ_take (i := 3) (v := .pointer (some (a.add i))) rfl (by kernel_rfl) (by kernel_rfl) (by kernel_rfl) (fun _ _ _ h => h) rfl (fun wx hJ => ?_) HJ1.out ?_
          · go_simp; skip
          simp only [pu]
          refine heldJ_take (i := 4) (v := .string x) rfl (by kernel_rfl) (by kernel_rfl) (by kernel_rfl) (fun _ _ _ h => h) rfl (fun wx hJ => ?_) HJ1.out ?_
          · have cc := HJX.out wx hJ; go_simp; skip
          simp only [pu]
          refine heldJ_take (i := 5) (v := .slice (some a) n cap) rfl (by kernel_rfl) (by kernel_rfl) (by kernel_rfl) (fun _ _ _ h => h) rfl (fun wx hJ => ?_) HJ1.out ?_
          · go_simp; skip
          simp only [pu]
          refine heldJ_take (i := 6) (v := .int .i64 (i : Int)) rfl (by kernel_rfl) (by kernel_rfl) (by kernel_rfl) (fun _ _ _ h => h) rfl (fun wx hJ => ?_) HJ1.out ?_
          · go_simp; skip
          simp only [pu]
          refine heldJ_take (i := 7) (v := .pointer (some (a.add i))) rfl (by kernel_rfl) (by kernel_rfl) (by kernel_rfl) (fun _ _ _ h => h) rfl (fun wx hJ => ?_) HJ1.out ?_
          · go_simp; skip
          simp only [pu]
          refine heldJ_take (i := 8) (v := .string x) rfl (by kernel_rfl) (by kernel_rfl) (by kernel_rfl) (fun _ _ _ h => h) rfl (fun wx hJ => ?_) HJ1.out ?_
          · have cc := HJX.out wx hJ; go_simp; skip
          simp only [pu]
          refine heldJ_take (i := 9) (v := .int .i64 (x.size : Int)) rfl (by kernel_rfl) (by kernel_rfl) (by kernel_rfl) (fun _ _ _ h => h) rfl (fun wx hJ => ?_) HJ1.out ?_
          · go_simp; skip
          simp only [pu]
          refine heldJ_take (i := 10) (v := .int .i64 (m : Int)) rfl (by kernel_rfl) (by kernel_rfl) (by kernel_rfl) (fun _ _ _ h => h) rfl (fun wx hJ => ?_) HJ1.out ?_
          · have cc := HMN.out; go_simp; skip
          simp only [pu]
          refine heldJ_take (i := 11) (v := .string Y) rfl (by kernel_rfl) (by kernel_rfl) (by kernel_rfl) (fun _ _ _ h => h) rfl (fun wx hJ => ?_) HJ1.out ?_
          · have cc := HY.out; have cm := HML.out; go_simp; skip
          simp only [pu]
          refine heldJ_call (i := 12) (f := 10) (by kernel_rfl) rfl rfl (by go_simp; skip) ((HKW.out _).mono ?_)
          rintro e w2 ⟨rfl, b2⟩
          have HJ2 := Lib.hid (HJ1.out.below b2)
          have HV2 := Lib.hid (HV1.out.below b2)
          clear b2
          refine ⟨_, rfl, HJ2.out, ?_⟩
          simp only [pu]
          refine heldJ_take (i := 13) (v := .tuple #[.string X, .int .i64 (E : Int)]) rfl (by kernel_rfl) (by kernel_rfl) (by kernel_rfl) (fun _ _ _ h => h) rfl (fun wx hJ => ?_) HJ2.out ?_
          · go_simp; skip
          simp only [pu]
          refine heldJ_take (i := 14) (v := .string X) rfl (by kernel_rfl) (by kernel_rfl) (by kernel_rfl) (fun _ _ _ h => h) rfl (fun wx hJ => ?_) HJ2.out ?_
          · go_simp; skip
          simp only [pu]
          refine heldJ_take (i := 15) (v := .int .i64 (E : Int)) rfl (by kernel_rfl) (by kernel_rfl) (by kernel_rfl) (fun _ _ _ h => h) rfl (fun wx hJ => ?_) HJ2.out ?_
          · go_simp; skip
          simp only [pu]
          refine heldJ_take (i := 16) (v := .string X) rfl (by kernel_rfl) (by kernel_rfl) (by kernel_rfl) (fun _ _ _ h => h) rfl (fun wx hJ => ?_) HJ2.out ?_
          · go_simp; skip
          simp only [pu]
          refine heldJ_take (i := 17) (v := .int .i64 (E : Int)) rfl (by kernel_rfl) (by kernel_rfl) (by kernel_rfl) (fun _ _ _ h => h) rfl (fun wx hJ => ?_) HJ2.out ?_
          · go_simp; skip
          simp only [pu]
          refine wpAnyH_done (by kernel_rfl) ?_ _
          have hmod : (G : Int).tmod 32 = ((G % 32 : Nat) : Int) := by rw [Int.tmod_eq_emod_of_nonneg (by omega)]; omega
          have hiw : IntKind.i64.wrap ((i : Int) + 1) = ((i + 1 : Nat) : Int) := by rw [IntWalk.i64_in _ (by have := HKK.out; omega)]; rfl
          by_cases h31 : G % 32 = 31
          · have e1 : E = 1 := by rw [HXE.out.2.1]; unfold wrapS; rw [if_pos (by omega)]
            rw [h31] at hmod
            have HN1 : Hid (backL l tags (i + 1) = backL l tags i ∧ wantV tags (i + 1) = wantV tags i) := Lib.hid (by
              have hw : wantL (tagT tags) (i + 1) = wantL (tagT tags) i := by
                show (if _ then _ else _) = _
                rw [if_neg (by rw [← HG.out]; omega)]
              unfold backL wantV
              rw [hw]
              exact ⟨rfl, rfl⟩)
            clear h31
            subst e1
            go_wp2_with fail
            exact ⟨⟨i + 1, by rw [HN1.out.1], by go_num, by have := HKK.out; omega, by have := HKK.out; omega, Lib.hid (by rw [HN1.out.2]; exact HV2.out)⟩, by simp only [intOf]; have := HKK.out; omega⟩
          · have e1 : E = 0 ∧ X = wrapT G Y := by rw [HXE.out.1, HXE.out.2.1]; unfold wrapS; rw [if_neg (by omega), if_neg (by have := HXE.out.2.2; omega)]; exact ⟨rfl, rfl⟩
            have hm2 : (((G % 32 : Nat) : Int) != 31) = true := by rw [bne_iff_ne]; omega
            obtain ⟨g32, hg32⟩ : ∃ g, g = G % 32 := ⟨_, rfl⟩
            rw [← hg32] at hmod hm2
            obtain ⟨rfl, hXW⟩ := e1
            have HXW := Lib.hid hXW
            have HGG := Lib.hid (⟨hg, h31⟩ : G < 256 ∧ ¬ G % 32 = 31)
            have hzz : ¬ ((X.size + more.size : Nat) : Int) > 9223372036854775807 := by have := wrapT_size G Y; have := HXE.out.2.2; have := HMO.out; rw [hXW]; omega
            have NC : ∀ wx : World, Calls Try.prog 8 #[.string (X ++ more)] wx fun e w' => e = .returned (.tuple #[.agg (cellsI (some (G, Y, more))), .int .i64 0]) ∧ Below wx.heap.size wx w' := fun wx => by
              have h1 := HC.out.1 (X ++ more) wx (by rw [size_app]; have := wrapT_size G Y; have := HXE.out.2.2; have := HMO.out; rw [hXW]; omega)
              rw [hXW, next_wrap G Y more hg h31 (by have := HXE.out.2.2; omega), ← hXW] at h1
              exact h1
            clear hXW hg h31 hg32
            go_wp2_with fail
            refine (NC _).mono ?_
            rintro e w3 ⟨rfl, b3⟩
            have HJ3 := Lib.hid (HJ2.out.below b3)
            have HV3 := Lib.hid (HV2.out.below b3)
            clear b3 NC
            have HZ1 := Lib.hid (Blk.new w3 24 #[.int .i64 0, .string ⟨#[]⟩, .string ⟨#[]⟩])
            have hb1 := below_setRow' ((Below.refl w3.heap.size w3).alloc (Nat.le_refl _) (.cells #[.int .i64 0, .string ⟨#[]⟩, .string ⟨#[]⟩] 24)) (Nat.le_refl _) #[.int .i64 (G : Int), .string Y, .string more]
            have hz1 := HZ1.out.row_ #[.int .i64 (G : Int), .string Y, .string more]
            obtain ⟨q1, hq1⟩ : ∃ q, q = w3.heap.size := ⟨_, rfl⟩
            obtain ⟨W1, hW1⟩ : ∃ W, W = (w3.alloc (.cells #[.int .i64 0, .string ⟨#[]⟩, .string ⟨#[]⟩] 24)).setRow w3.heap.size #[.int .i64 (G : Int), .string Y, .string more] := ⟨_, rfl⟩
            rw [← hW1] at hb1 hz1
            rw [← hq1] at hz1
            have HW1 := Lib.hid hW1
            have HQ1 := Lib.hid hq1
            clear hW1 hq1
            have HJ4 := Lib.hid (HJ3.out.below hb1)
            have HV4 := Lib.hid (HV3.out.below hb1)
            have HJ5 := Lib.hid (HJ4.out.below (Below.refl _ _).drew)
            have HV5 := Lib.hid HV4.out.drew
            have hz2 := hz1.drew
            have HW1D := Lib.hid (rfl : W1.drew = W1.drew)
            clear hb1 hz1
            go_wp2_with (refine wpList_store_row rfl 24 _ _ rfl w3.heap.size #[.int .i64 (G : Int), .string Y, .string more] rfl rfl 24 _ HZ1.out itemD_size rfl (cells3_one _ _ _) ?_; rw [← HW1.out, ← HQ1.out])
            refine heldJ_start (fun wx => wx = W1.drew) (by kernel_rfl) ?_
            change wpAnyH _ _ _ _ _ _ _ _ W1.drew
            clear HW1D
            generalize W1.drew = wd2 at HJ5 HV5 hz2 ⊢
            have u0 : wd2.cell? ⟨q1, 0, none⟩ = some (.int .i64 (G : Int)) := hz2.cell 0
            have u1 : wd2.cell? ⟨q1, 1, none⟩ = some (.string Y) := hz2.cell 1
            have u2 : wd2.cell? ⟨q1, 2, none⟩ = some (.string more) := hz2.cell 2
            have u3 : wd2.cell? (a.add i) = some (.string x) := HJX.out _ HJ5.out
            have HJr : ∀ wx : World, wx = wd2 → wx = wd2 := fun _ h => h
            clear HJr
            refine heldJ_take (i := 0) (v := .pointer (some ⟨q1, 0, none⟩)) rfl (by kernel_rfl) (by kernel_rfl) (by kernel_rfl) (fun _ _ _ h => h) rfl (fun wx hJ => ?_) rfl ?_
            · obtain rfl := hJ; go_simp; skip
            simp only [pu]
            refine heldJ_take (i := 1) (v := .int .i64 (G : Int)) rfl (by kernel_rfl) (by kernel_rfl) (by kernel_rfl) (fun _ _ _ h => h) rfl (fun wx hJ => ?_) rfl ?_
            · obtain rfl := hJ; go_simp; skip
            simp only [pu]
            refine heldJ_take (i := 2) (v := .int .i64 (G : Int)) rfl (by kernel_rfl) (by kernel_rfl) (by kernel_rfl) (fun _ _ _ h => h) rfl (fun wx hJ => ?_) rfl ?_
            · obtain rfl := hJ; go_simp; skip
            simp only [pu]
            refine heldJ_take (i := 3) (v := .bool false) rfl (by kernel_rfl) (by kernel_rfl) (by kernel_rfl) (fun _ _ _ h => h) rfl (fun wx hJ => ?_) rfl ?_
            · obtain rfl := hJ; go_simp; skip
            simp only [pu]
            refine heldJ_take (i := 4) (v := .bool false) rfl (by kernel_rfl) (by kernel_rfl) (by kernel_rfl) (fun _ _ _ h => h) rfl (fun wx hJ => ?_) rfl ?_
            · obtain rfl := hJ; go_simp; skip
            simp only [pu]
            refine heldJ_take (i := 5) (v := .pointer (some ⟨q1, 1, none⟩)) rfl (by kernel_rfl) (by kernel_rfl) (by kernel_rfl) (fun _ _ _ h => h) rfl (fun wx hJ => ?_) rfl ?_
            · obtain rfl := hJ; go_simp; skip
            simp only [pu]
            refine heldJ_take (i := 6) (v := .string Y) rfl (by kernel_rfl) (by kernel_rfl) (by kernel_rfl) (fun _ _ _ h => h) rfl (fun wx hJ => ?_) rfl ?_
            · obtain rfl := hJ; go_simp; skip
            simp only [pu]
            refine heldJ_take (i := 7) (v := .slice (some a) n cap) rfl (by kernel_rfl) (by kernel_rfl) (by kernel_rfl) (fun _ _ _ h => h) rfl (fun wx hJ => ?_) rfl ?_
            · obtain rfl := hJ; go_simp; skip
            simp only [pu]
            refine heldJ_take (i := 8) (v := .int .i64 (i : Int)) rfl (by kernel_rfl) (by kernel_rfl) (by kernel_rfl) (fun _ _ _ h => h) rfl (fun wx hJ => ?_) rfl ?_
            · obtain rfl := hJ; go_simp; skip
            simp only [pu]
            refine heldJ_take (i := 9) (v := .pointer (some (a.add i))) rfl (by kernel_rfl) (by kernel_rfl) (by kernel_rfl) (fun _ _ _ h => h) rfl (fun wx hJ => ?_) rfl ?_
            · obtain rfl := hJ; go_simp; skip
            simp only [pu]
            refine heldJ_take (i := 10) (v := .string x) rfl (by kernel_rfl) (by kernel_rfl) (by kernel_rfl) (fun _ _ _ h => h) rfl (fun wx hJ => ?_) rfl ?_
            · obtain rfl := hJ; go_simp; skip
            simp only [pu]
            refine heldJ_take (i := 11) (v := .slice (some a) n cap) rfl (by kernel_rfl) (by kernel_rfl) (by kernel_rfl) (fun _ _ _ h => h) rfl (fun wx hJ => ?_) rfl ?_
            · obtain rfl := hJ; go_simp; skip
            simp only [pu]
            refine heldJ_take (i := 12) (v := .int .i64 (i : Int)) rfl (by kernel_rfl) (by kernel_rfl) (by kernel_rfl) (fun _ _ _ h => h) rfl (fun wx hJ => ?_) rfl ?_
            · obtain rfl := hJ; go_simp; skip
            simp only [pu]
            refine heldJ_take (i := 13) (v := .pointer (some (a.add i))) rfl (by kernel_rfl) (by kernel_rfl) (by kernel_rfl) (fun _ _ _ h => h) rfl (fun wx hJ => ?_) rfl ?_
            · obtain rfl := hJ; go_simp; skip
            simp only [pu]
            refine heldJ_take (i := 14) (v := .string x) rfl (by kernel_rfl) (by kernel_rfl) (by kernel_rfl) (fun _ _ _ h => h) rfl (fun wx hJ => ?_) rfl ?_
            · obtain rfl := hJ; go_simp; skip
            simp only [pu]
            refine heldJ_take (i := 15) (v := .int .i64 (x.size : Int)) rfl (by kernel_rfl) (by kernel_rfl) (by kernel_rfl) (fun _ _ _ h => h) rfl (fun wx hJ => ?_) rfl ?_
            · obtain rfl := hJ; go_simp; skip
            simp only [pu]
            refine heldJ_take (i := 16) (v := .int .i64 (m : Int)) rfl (by kernel_rfl) (by kernel_rfl) (by kernel_rfl) (fun _ _ _ h => h) rfl (fun wx hJ => ?_) rfl ?_
            · obtain rfl := hJ; have cc := HMN.out; go_simp; skip
            simp only [pu]
            refine heldJ_take (i := 17) (v := .string Y) rfl (by kernel_rfl) (by kernel_rfl) (by kernel_rfl) (fun _ _ _ h => h) rfl (fun wx hJ => ?_) rfl ?_
            · obtain rfl := hJ; have cc := HY.out; have cm := HML.out; go_simp; skip
            simp only [pu]
            refine heldJ_take (i := 18) (v := .bool false) rfl (by kernel_rfl) (by kernel_rfl) (by kernel_rfl) (fun _ _ _ h => h) rfl (fun wx hJ => ?_) rfl ?_
            · obtain rfl := hJ; go_simp; skip
            simp only [pu]
            refine heldJ_take (i := 19) (v := .bool false) rfl (by kernel_rfl) (by kernel_rfl) (by kernel_rfl) (fun _ _ _ h => h) rfl (fun wx hJ => ?_) rfl ?_
            · obtain rfl := hJ; go_simp; skip
            simp only [pu]
            refine heldJ_take (i := 20) (v := .bool false) rfl (by kernel_rfl) (by kernel_rfl) (by kernel_rfl) (fun _ _ _ h => h) rfl (fun wx hJ => ?_) rfl ?_
            · obtain rfl := hJ; go_simp; skip
            simp only [pu]
            refine heldJ_take (i := 21) (v := .pointer (some ⟨q1, 2, none⟩)) rfl (by kernel_rfl) (by kernel_rfl) (by kernel_rfl) (fun _ _ _ h => h) rfl (fun wx hJ => ?_) rfl ?_
            · obtain rfl := hJ; go_simp; skip
            simp only [pu]
            refine heldJ_take (i := 22) (v := .string more) rfl (by kernel_rfl) (by kernel_rfl) (by kernel_rfl) (fun _ _ _ h => h) rfl (fun wx hJ => ?_) rfl ?_
            · obtain rfl := hJ; go_simp; skip
            simp only [pu]
            refine heldJ_take (i := 23) (v := .string more) rfl (by kernel_rfl) (by kernel_rfl) (by kernel_rfl) (fun _ _ _ h => h) rfl (fun wx hJ => ?_) rfl ?_
            · obtain rfl := hJ; go_simp; skip
            simp only [pu]
            refine heldJ_take (i := 24) (v := .bool false) rfl (by kernel_rfl) (by kernel_rfl) (by kernel_rfl) (fun _ _ _ h => h) rfl (fun wx hJ => ?_) rfl ?_
            · obtain rfl := hJ; go_simp; skip
            simp only [pu]
            refine heldJ_take (i := 25) (v := .bool false) rfl (by kernel_rfl) (by kernel_rfl) (by kernel_rfl) (fun _ _ _ h => h) rfl (fun wx hJ => ?_) rfl ?_
            · obtain rfl := hJ; go_simp; skip
            simp only [pu]
            refine heldJ_take (i := 26) (v := .bool false) rfl (by kernel_rfl) (by kernel_rfl) (by kernel_rfl) (fun _ _ _ h => h) rfl (fun wx hJ => ?_) rfl ?_
            · obtain rfl := hJ; go_simp; skip
            simp only [pu]
            refine heldJ_take (i := 27) (v := .int .i64 0) rfl (by kernel_rfl) (by kernel_rfl) (by kernel_rfl) (fun _ _ _ h => h) rfl (fun wx hJ => ?_) rfl ?_
            · obtain rfl := hJ; go_simp; skip
            simp only [pu]
            refine heldJ_take (i := 28) (v := .bool false) rfl (by kernel_rfl) (by kernel_rfl) (by kernel_rfl) (fun _ _ _ h => h) rfl (fun wx hJ => ?_) rfl ?_
            · obtain rfl := hJ; go_simp; skip
            simp only [pu]
            refine heldJ_take (i := 29) (v := .bool false) rfl (by kernel_rfl) (by kernel_rfl) (by kernel_rfl) (fun _ _ _ h => h) rfl (fun wx hJ => ?_) rfl ?_
            · obtain rfl := hJ; go_simp; skip
            simp only [pu]
            refine wpAnyH_done (by kernel_rfl) ?_ _
            have HN2 : Hid (catT (backL l tags (i + 1)) = catT (backL l tags i) ++ X ∧ wantV tags (i + 1) = wantV tags i ++ [encW (i : Int)]) := Lib.hid (by
              have hw : wantL (tagT tags) (i + 1) = wantL (tagT tags) i ++ [i] := by
                show (if _ then _ else _) = _
                rw [if_pos (by rw [← HG.out]; exact HGG.out.2)]
              have hb : backL l tags (i + 1) = backL l tags i ++ [(G, Y)] := by
                unfold backL
                rw [hw, List.map_append, HYE.out]
                show _ ++ [(tagT tags i, _)] = _
                rw [← HG.out]
              refine ⟨by rw [hb, catT_snoc, HXW.out], ?_⟩
              unfold wantV
              rw [hw, List.map_append]
              rfl)
            have hcs : ¬ (((catT (backL l tags i)).size + X.size : Nat) : Int) > 9223372036854775807 := by
              have h1 := catT_size (backL l tags i) 300 fun y hy => by
                unfold backL at hy
                obtain ⟨k, _, rfl⟩ := List.mem_map.1 hy
                show (txtT l k).size ≤ 300
                unfold txtT
                rw [ByteArray.size_extract]
                omega
              have h2 : (backL l tags i).length ≤ i := by unfold backL; rw [List.length_map]; exact wantL_len _ _
              have h3 := wrapT_size G Y
              have h4 := HXE.out.2.2
              have h5 := HKK.out
              have h6 : (backL l tags i).length * (300 + 5) ≤ 10 * 305 := Nat.mul_le_mul (by omega) (Nat.le_refl _)
              rw [HXW.out]
              omega
            have HLN : Hid ((wantV tags i).length ≤ 999999999999) := Lib.hid (by unfold wantV; rw [List.length_map]; have := wantL_len (tagT tags) i; have := HKK.out; omega)
            clear hz2 u0 u1 u2 u3 hzz hm2 hmod
            obtain ⟨CB, hCB⟩ : ∃ CB, CB = catT (backL l tags i) := ⟨_, rfl⟩
            rw [← hCB] at hcs HN2 ⊢
            clear hCB
            go_wp2_with (at_builtin; refine wpList_oneW rfl (.tmp 110) (.tmp 112) 44 rfl rfl rfl HV5.out (i : Int) rfl HLN.out ?_; intro v5 w5 h5 g5; have H5 := Lib.hid h5; clear h5 g5)
            exact ⟨⟨i + 1, by rw [HN2.out.1], by go_num, by have := HKK.out; omega, by have := HKK.out; omega, Lib.hid (by rw [HN2.out.2]; exact H5.out)⟩, by simp only [intOf]; have := HKK.out; omega⟩
        · have htli : ¬ (i : Int) < (nt : Int) := by omega
          obtain rfl : i = G := by rw [HG.out]; unfold tagT; rw [if_neg (by rw [HT.out.1]; exact htl)]
          have hg : i < 256 := by have := HKK.out; omega
          clear htl
          go_wp2_with fail
          have HJ1 := Lib.hid (HJ.out.below (Below.refl _ _).drew)
          have HV1 := Lib.hid HV.out.drew
          refine heldJ_start (JA (some a) n cap l pt nt ct tags) (by kernel_rfl) ?_
          change wpAnyH _ _ _ _ _ _ _ _ wr.drew
          generalize wr.drew = wd at HJ1 HV1 ⊢
          refine heldJ_take (i := 0) (v := .int .i64 (i : Int)) rfl (by kernel_rfl) (by kernel_rfl) (by kernel_rfl) (fun _ _ _ h => h) rfl (fun wx hJ => ?_) HJ1.out ?_
          · go_simp; skip
          simp only [pu]
          refine heldJ_take (i := 1) (v := .slice (some a) n cap) rfl (by kernel_rfl) (by kernel_rfl) (by kernel_rfl) (fun _ _ _ h => h) rfl (fun wx hJ => ?_) HJ1.out ?_
          · go_simp; skip
          simp only [pu]
          refine heldJ_take (i := 2) (v := .int .i64 (i : Int)) rfl (by kernel_rfl) (by kernel_rfl) (by kernel_rfl) (fun _ _ _ h => h) rfl (fun wx hJ => ?_) HJ1.out ?_
          · go_simp; skip
          simp only [pu]
          refine heldJ_take (i := 3) (v := .pointer (some (a.add i))) rfl (by kernel_rfl) (by kernel_rfl) (by kernel_rfl) (fun _ _ _ h => h) rfl (fun wx hJ => ?_) HJ1.out ?_
          · go_simp; skip
          simp only [pu]
          refine heldJ_take (i := 4) (v := .string x) rfl (by kernel_rfl) (by kernel_rfl) (by kernel_rfl) (fun _ _ _ h => h) rfl (fun wx hJ => ?_) HJ1.out ?_
          · have cc := HJX.out wx hJ; go_simp; skip
          simp only [pu]
          refine heldJ_take (i := 5) (v := .slice (some a) n cap) rfl (by kernel_rfl) (by kernel_rfl) (by kernel_rfl) (fun _ _ _ h => h) rfl (fun wx hJ => ?_) HJ1.out ?_
          · go_simp; skip
          simp only [pu]
          refine heldJ_take (i := 6) (v := .int .i64 (i : Int)) rfl (by kernel_rfl) (by kernel_rfl) (by kernel_rfl) (fun _ _ _ h => h) rfl (fun wx hJ => ?_) HJ1.out ?_
          · go_simp; skip
          simp only [pu]
          refine heldJ_take (i := 7) (v := .pointer (some (a.add i))) rfl (by kernel_rfl) (by kernel_rfl) (by kernel_rfl) (fun _ _ _ h => h) rfl (fun wx hJ => ?_) HJ1.out ?_
          · go_simp; skip
          simp only [pu]
          refine heldJ_take (i := 8) (v := .string x) rfl (by kernel_rfl) (by kernel_rfl) (by kernel_rfl) (fun _ _ _ h => h) rfl (fun wx hJ => ?_) HJ1.out ?_
          · have cc := HJX.out wx hJ; go_simp; skip
          simp only [pu]
          refine heldJ_take (i := 9) (v := .int .i64 (x.size : Int)) rfl (by kernel_rfl) (by kernel_rfl) (by kernel_rfl) (fun _ _ _ h => h) rfl (fun wx hJ => ?_) HJ1.out ?_
          · go_simp; skip
          simp only [pu]
          refine heldJ_take (i := 10) (v := .int .i64 (m : Int)) rfl (by kernel_rfl) (by kernel_rfl) (by kernel_rfl) (fun _ _ _ h => h) rfl (fun wx hJ => ?_) HJ1.out ?_
          · have cc := HMN.out; go_simp; skip
          simp only [pu]
          refine heldJ_take (i := 11) (v := .string Y) rfl (by kernel_rfl) (by kernel_rfl) (by kernel_rfl) (fun _ _ _ h => h) rfl (fun wx hJ => ?_) HJ1.out ?_
          · have cc := HY.out; have cm := HML.out; go_simp; skip
          simp only [pu]
          refine heldJ_call (i := 12) (f := 10) (by kernel_rfl) rfl rfl (by go_simp; skip) ((HKW.out _).mono ?_)
          rintro e w2 ⟨rfl, b2⟩
          have HJ2 := Lib.hid (HJ1.out.below b2)
          have HV2 := Lib.hid (HV1.out.below b2)
          clear b2
          refine ⟨_, rfl, HJ2.out, ?_⟩
          simp only [pu]
          refine heldJ_take (i := 13) (v := .tuple #[.string X, .int .i64 (E : Int)]) rfl (by kernel_rfl) (by kernel_rfl) (by kernel_rfl) (fun _ _ _ h => h) rfl (fun wx hJ => ?_) HJ2.out ?_
          · go_simp; skip
          simp only [pu]
          refine heldJ_take (i := 14) (v := .string X) rfl (by kernel_rfl) (by kernel_rfl) (by kernel_rfl) (fun _ _ _ h => h) rfl (fun wx hJ => ?_) HJ2.out ?_
          · go_simp; skip
          simp only [pu]
          refine heldJ_take (i := 15) (v := .int .i64 (E : Int)) rfl (by kernel_rfl) (by kernel_rfl) (by kernel_rfl) (fun _ _ _ h => h) rfl (fun wx hJ => ?_) HJ2.out ?_
          · go_simp; skip
          simp only [pu]
          refine heldJ_take (i := 16) (v := .string X) rfl (by kernel_rfl) (by kernel_rfl) (by kernel_rfl) (fun _ _ _ h => h) rfl (fun wx hJ => ?_) HJ2.out ?_
          · go_simp; skip
          simp only [pu]
          refine heldJ_take (i := 17) (v := .int .i64 (E : Int)) rfl (by kernel_rfl) (by kernel_rfl) (by kernel_rfl) (fun _ _ _ h => h) rfl (fun wx hJ => ?_) HJ2.out ?_
          · go_simp; skip
          simp only [pu]
          refine wpAnyH_done (by kernel_rfl) ?_ _
          have hmod : (i : Int).tmod 32 = ((i % 32 : Nat) : Int) := by rw [Int.tmod_eq_emod_of_nonneg (by omega)]; omega
          have hiw : IntKind.i64.wrap ((i : Int) + 1) = ((i + 1 : Nat) : Int) := by rw [IntWalk.i64_in _ (by have := HKK.out; omega)]; rfl
          by_cases h31 : i % 32 = 31
          · have e1 : E = 1 := by rw [HXE.out.2.1]; unfold wrapS; rw [if_pos (by omega)]
            rw [h31] at hmod
            have HN1 : Hid (backL l tags (i + 1) = backL l tags i ∧ wantV tags (i + 1) = wantV tags i) := Lib.hid (by
              have hw : wantL (tagT tags) (i + 1) = wantL (tagT tags) i := by
                show (if _ then _ else _) = _
                rw [if_neg (by rw [← HG.out]; omega)]
              unfold backL wantV
              rw [hw]
              exact ⟨rfl, rfl⟩)
            clear h31
            subst e1
            go_wp2_with fail
            exact ⟨⟨i + 1, by rw [HN1.out.1], by go_num, by have := HKK.out; omega, by have := HKK.out; omega, Lib.hid (by rw [HN1.out.2]; exact HV2.out)⟩, by simp only [intOf]; have := HKK.out; omega⟩
          · have e1 : E = 0 ∧ X = wrapT i Y := by rw [HXE.out.1, HXE.out.2.1]; unfold wrapS; rw [if_neg (by omega), if_neg (by have := HXE.out.2.2; omega)]; exact ⟨rfl, rfl⟩
            have hm2 : (((i % 32 : Nat) : Int) != 31) = true := by rw [bne_iff_ne]; omega
            obtain ⟨g32, hg32⟩ : ∃ g, g = i % 32 := ⟨_, rfl⟩
            rw [← hg32] at hmod hm2
            obtain ⟨rfl, hXW⟩ := e1
            have HXW := Lib.hid hXW
            have HGG := Lib.hid (⟨hg, h31⟩ : i < 256 ∧ ¬ i % 32 = 31)
            have hzz : ¬ ((X.size + more.size : Nat) : Int) > 9223372036854775807 := by have := wrapT_size i Y; have := HXE.out.2.2; have := HMO.out; rw [hXW]; omega
            have NC : ∀ wx : World, Calls Try.prog 8 #[.string (X ++ more)] wx fun e w' => e = .returned (.tuple #[.agg (cellsI (some (i, Y, more))), .int .i64 0]) ∧ Below wx.heap.size wx w' := fun wx => by
              have h1 := HC.out.1 (X ++ more) wx (by rw [size_app]; have := wrapT_size i Y; have := HXE.out.2.2; have := HMO.out; rw [hXW]; omega)
              rw [hXW, next_wrap i Y more hg h31 (by have := HXE.out.2.2; omega), ← hXW] at h1
              exact h1
            clear hXW hg h31 hg32
            go_wp2_with fail
            refine (NC _).mono ?_
            rintro e w3 ⟨rfl, b3⟩
            have HJ3 := Lib.hid (HJ2.out.below b3)
            have HV3 := Lib.hid (HV2.out.below b3)
            clear b3 NC
            have HZ1 := Lib.hid (Blk.new w3 24 #[.int .i64 0, .string ⟨#[]⟩, .string ⟨#[]⟩])
            have hb1 := below_setRow' ((Below.refl w3.heap.size w3).alloc (Nat.le_refl _) (.cells #[.int .i64 0, .string ⟨#[]⟩, .string ⟨#[]⟩] 24)) (Nat.le_refl _) #[.int .i64 (i : Int), .string Y, .string more]
            have hz1 := HZ1.out.row_ #[.int .i64 (i : Int), .string Y, .string more]
            obtain ⟨q1, hq1⟩ : ∃ q, q = w3.heap.size := ⟨_, rfl⟩
            obtain ⟨W1, hW1⟩ : ∃ W, W = (w3.alloc (.cells #[.int .i64 0, .string ⟨#[]⟩, .string ⟨#[]⟩] 24)).setRow w3.heap.size #[.int .i64 (i : Int), .string Y, .string more] := ⟨_, rfl⟩
            rw [← hW1] at hb1 hz1
            rw [← hq1] at hz1
            have HW1 := Lib.hid hW1
            have HQ1 := Lib.hid hq1
            clear hW1 hq1
            have HJ4 := Lib.hid (HJ3.out.below hb1)
            have HV4 := Lib.hid (HV3.out.below hb1)
            have HJ5 := Lib.hid (HJ4.out.below (Below.refl _ _).drew)
            have HV5 := Lib.hid HV4.out.drew
            have hz2 := hz1.drew
            have HW1D := Lib.hid (rfl : W1.drew = W1.drew)
            clear hb1 hz1
            go_wp2_with (refine wpList_store_row rfl 24 _ _ rfl w3.heap.size #[.int .i64 (i : Int), .string Y, .string more] rfl rfl 24 _ HZ1.out itemD_size rfl (cells3_one _ _ _) ?_; rw [← HW1.out, ← HQ1.out])
            refine heldJ_start (fun wx => wx = W1.drew) (by kernel_rfl) ?_
            change wpAnyH _ _ _ _ _ _ _ _ W1.drew
            clear HW1D
            generalize W1.drew = wd2 at HJ5 HV5 hz2 ⊢
            have u0 : wd2.cell? ⟨q1, 0, none⟩ = some (.int .i64 (i : Int)) := hz2.cell 0
            have u1 : wd2.cell? ⟨q1, 1, none⟩ = some (.string Y) := hz2.cell 1
            have u2 : wd2.cell? ⟨q1, 2, none⟩ = some (.string more) := hz2.cell 2
            have u3 : wd2.cell? (a.add i) = some (.string x) := HJX.out _ HJ5.out
            have HJr : ∀ wx : World, wx = wd2 → wx = wd2 := fun _ h => h
            clear HJr
            refine heldJ_take (i := 0) (v := .pointer (some ⟨q1, 0, none⟩)) rfl (by kernel_rfl) (by kernel_rfl) (by kernel_rfl) (fun _ _ _ h => h) rfl (fun wx hJ => ?_) rfl ?_
            · obtain rfl := hJ; go_simp; skip
            simp only [pu]
            refine heldJ_take (i := 1) (v := .int .i64 (i : Int)) rfl (by kernel_rfl) (by kernel_rfl) (by kernel_rfl) (fun _ _ _ h => h) rfl (fun wx hJ => ?_) rfl ?_
            · obtain rfl := hJ; go_simp; skip
            simp only [pu]
            refine heldJ_take (i := 2) (v := .int .i64 (i : Int)) rfl (by kernel_rfl) (by kernel_rfl) (by kernel_rfl) (fun _ _ _ h => h) rfl (fun wx hJ => ?_) rfl ?_
            · obtain rfl := hJ; go_simp; skip
            simp only [pu]
            refine heldJ_take (i := 3) (v := .bool false) rfl (by kernel_rfl) (by kernel_rfl) (by kernel_rfl) (fun _ _ _ h => h) rfl (fun wx hJ => ?_) rfl ?_
            · obtain rfl := hJ; go_simp; skip
            simp only [pu]
            refine heldJ_take (i := 4) (v := .bool false) rfl (by kernel_rfl) (by kernel_rfl) (by kernel_rfl) (fun _ _ _ h => h) rfl (fun wx hJ => ?_) rfl ?_
            · obtain rfl := hJ; go_simp; skip
            simp only [pu]
            refine heldJ_take (i := 5) (v := .pointer (some ⟨q1, 1, none⟩)) rfl (by kernel_rfl) (by kernel_rfl) (by kernel_rfl) (fun _ _ _ h => h) rfl (fun wx hJ => ?_) rfl ?_
            · obtain rfl := hJ; go_simp; skip
            simp only [pu]
            refine heldJ_take (i := 6) (v := .string Y) rfl (by kernel_rfl) (by kernel_rfl) (by kernel_rfl) (fun _ _ _ h => h) rfl (fun wx hJ => ?_) rfl ?_
            · obtain rfl := hJ; go_simp; skip
            simp only [pu]
            refine heldJ_take (i := 7) (v := .slice (some a) n cap) rfl (by kernel_rfl) (by kernel_rfl) (by kernel_rfl) (fun _ _ _ h => h) rfl (fun wx hJ => ?_) rfl ?_
            · obtain rfl := hJ; go_simp; skip
            simp only [pu]
            refine heldJ_take (i := 8) (v := .int .i64 (i : Int)) rfl (by kernel_rfl) (by kernel_rfl) (by kernel_rfl) (fun _ _ _ h => h) rfl (fun wx hJ => ?_) rfl ?_
            · obtain rfl := hJ; go_simp; skip
            simp only [pu]
            refine heldJ_take (i := 9) (v := .pointer (some (a.add i))) rfl (by kernel_rfl) (by kernel_rfl) (by kernel_rfl) (fun _ _ _ h => h) rfl (fun wx hJ => ?_) rfl ?_
            · obtain rfl := hJ; go_simp; skip
            simp only [pu]
            refine heldJ_take (i := 10) (v := .string x) rfl (by kernel_rfl) (by kernel_rfl) (by kernel_rfl) (fun _ _ _ h => h) rfl (fun wx hJ => ?_) rfl ?_
            · obtain rfl := hJ; go_simp; skip
            simp only [pu]
            refine heldJ_take (i := 11) (v := .slice (some a) n cap) rfl (by kernel_rfl) (by kernel_rfl) (by kernel_rfl) (fun _ _ _ h => h) rfl (fun wx hJ => ?_) rfl ?_
            · obtain rfl := hJ; go_simp; skip
            simp only [pu]
            refine heldJ_take (i := 12) (v := .int .i64 (i : Int)) rfl (by kernel_rfl) (by kernel_rfl) (by kernel_rfl) (fun _ _ _ h => h) rfl (fun wx hJ => ?_) rfl ?_
            · obtain rfl := hJ; go_simp; skip
            simp only [pu]
            refine heldJ_take (i := 13) (v := .pointer (some (a.add i))) rfl (by kernel_rfl) (by kernel_rfl) (by kernel_rfl) (fun _ _ _ h => h) rfl (fun wx hJ => ?_) rfl ?_
            · obtain rfl := hJ; go_simp; skip
            simp only [pu]
            refine heldJ_take (i := 14) (v := .string x) rfl (by kernel_rfl) (by kernel_rfl) (by kernel_rfl) (fun _ _ _ h => h) rfl (fun wx hJ => ?_) rfl ?_
            · obtain rfl := hJ; go_simp; skip
            simp only [pu]
            refine heldJ_take (i := 15) (v := .int .i64 (x.size : Int)) rfl (by kernel_rfl) (by kernel_rfl) (by kernel_rfl) (fun _ _ _ h => h) rfl (fun wx hJ => ?_) rfl ?_
            · obtain rfl := hJ; go_simp; skip
            simp only [pu]
            refine heldJ_take (i := 16) (v := .int .i64 (m : Int)) rfl (by kernel_rfl) (by kernel_rfl) (by kernel_rfl) (fun _ _ _ h => h) rfl (fun wx hJ => ?_) rfl ?_
            · obtain rfl := hJ; have cc := HMN.out; go_simp; skip
            simp only [pu]
            refine heldJ_take (i := 17) (v := .string Y) rfl (by kernel_rfl) (by kernel_rfl) (by kernel_rfl) (fun _ _ _ h => h) rfl (fun wx hJ => ?_) rfl ?_
            · obtain rfl := hJ; have cc := HY.out; have cm := HML.out; go_simp; skip
            simp only [pu]
            refine heldJ_take (i := 18) (v := .bool false) rfl (by kernel_rfl) (by kernel_rfl) (by kernel_rfl) (fun _ _ _ h => h) rfl (fun wx hJ => ?_) rfl ?_
            · obtain rfl := hJ; go_simp; skip
            simp only [pu]
            refine heldJ_take (i := 19) (v := .bool false) rfl (by kernel_rfl) (by kernel_rfl) (by kernel_rfl) (fun _ _ _ h => h) rfl (fun wx hJ => ?_) rfl ?_
            · obtain rfl := hJ; go_simp; skip
            simp only [pu]
            refine heldJ_take (i := 20) (v := .bool false) rfl (by kernel_rfl) (by kernel_rfl) (by kernel_rfl) (fun _ _ _ h => h) rfl (fun wx hJ => ?_) rfl ?_
            · obtain rfl := hJ; go_simp; skip
            simp only [pu]
            refine heldJ_take (i := 21) (v := .pointer (some ⟨q1, 2, none⟩)) rfl (by kernel_rfl) (by kernel_rfl) (by kernel_rfl) (fun _ _ _ h => h) rfl (fun wx hJ => ?_) rfl ?_
            · obtain rfl := hJ; go_simp; skip
            simp only [pu]
            refine heldJ_take (i := 22) (v := .string more) rfl (by kernel_rfl) (by kernel_rfl) (by kernel_rfl) (fun _ _ _ h => h) rfl (fun wx hJ => ?_) rfl ?_
            · obtain rfl := hJ; go_simp; skip
            simp only [pu]
            refine heldJ_take (i := 23) (v := .string more) rfl (by kernel_rfl) (by kernel_rfl) (by kernel_rfl) (fun _ _ _ h => h) rfl (fun wx hJ => ?_) rfl ?_
            · obtain rfl := hJ; go_simp; skip
            simp only [pu]
            refine heldJ_take (i := 24) (v := .bool false) rfl (by kernel_rfl) (by kernel_rfl) (by kernel_rfl) (fun _ _ _ h => h) rfl (fun wx hJ => ?_) rfl ?_
            · obtain rfl := hJ; go_simp; skip
            simp only [pu]
            refine heldJ_take (i := 25) (v := .bool false) rfl (by kernel_rfl) (by kernel_rfl) (by kernel_rfl) (fun _ _ _ h => h) rfl (fun wx hJ => ?_) rfl ?_
            · obtain rfl := hJ; go_simp; skip
            simp only [pu]
            refine heldJ_take (i := 26) (v := .bool false) rfl (by kernel_rfl) (by kernel_rfl) (by kernel_rfl) (fun _ _ _ h => h) rfl (fun wx hJ => ?_) rfl ?_
            · obtain rfl := hJ; go_simp; skip
            simp only [pu]
            refine heldJ_take (i := 27) (v := .int .i64 0) rfl (by kernel_rfl) (by kernel_rfl) (by kernel_rfl) (fun _ _ _ h => h) rfl (fun wx hJ => ?_) rfl ?_
            · obtain rfl := hJ; go_simp; skip
            simp only [pu]
            refine heldJ_take (i := 28) (v := .bool false) rfl (by kernel_rfl) (by kernel_rfl) (by kernel_rfl) (fun _ _ _ h => h) rfl (fun wx hJ => ?_) rfl ?_
            · obtain rfl := hJ; go_simp; skip
            simp only [pu]
            refine heldJ_take (i := 29) (v := .bool false) rfl (by kernel_rfl) (by kernel_rfl) (by kernel_rfl) (fun _ _ _ h => h) rfl (fun wx hJ => ?_) rfl ?_
            · obtain rfl := hJ; go_simp; skip
            simp only [pu]
            refine wpAnyH_done (by kernel_rfl) ?_ _
            have HN2 : Hid (catT (backL l tags (i + 1)) = catT (backL l tags i) ++ X ∧ wantV tags (i + 1) = wantV tags i ++ [encW (i : Int)]) := Lib.hid (by
              have hw : wantL (tagT tags) (i + 1) = wantL (tagT tags) i ++ [i] := by
                show (if _ then _ else _) = _
                rw [if_pos (by rw [← HG.out]; exact HGG.out.2)]
              have hb : backL l tags (i + 1) = backL l tags i ++ [(i, Y)] := by
                unfold backL
                rw [hw, List.map_append, HYE.out]
                show _ ++ [(tagT tags i, _)] = _
                rw [← HG.out]
              refine ⟨by rw [hb, catT_snoc, HXW.out], ?_⟩
              unfold wantV
              rw [hw, List.map_append]
              rfl)
            have hcs : ¬ (((catT (backL l tags i)).size + X.size : Nat) : Int) > 9223372036854775807 := by
              have h1 := catT_size (backL l tags i) 300 fun y hy => by
                unfold backL at hy
                obtain ⟨k, _, rfl⟩ := List.mem_map.1 hy
                show (txtT l k).size ≤ 300
                unfold txtT
                rw [ByteArray.size_extract]
                omega
              have h2 : (backL l tags i).length ≤ i := by unfold backL; rw [List.length_map]; exact wantL_len _ _
              have h3 := wrapT_size i Y
              have h4 := HXE.out.2.2
              have h5 := HKK.out
              have h6 : (backL l tags i).length * (300 + 5) ≤ 10 * 305 := Nat.mul_le_mul (by omega) (Nat.le_refl _)
              rw [HXW.out]
              omega
            have HLN : Hid ((wantV tags i).length ≤ 999999999999) := Lib.hid (by unfold wantV; rw [List.length_map]; have := wantL_len (tagT tags) i; have := HKK.out; omega)
            clear hz2 u0 u1 u2 u3 hzz hm2 hmod
            obtain ⟨CB, hCB⟩ : ∃ CB, CB = catT (backL l tags i) := ⟨_, rfl⟩
            rw [← hCB] at hcs HN2 ⊢
            clear hCB
            go_wp2_with (at_builtin; refine wpList_oneW rfl (.tmp 110) (.tmp 112) 44 rfl rfl rfl HV5.out (i : Int) rfl HLN.out ?_; intro v5 w5 h5 g5; have H5 := Lib.hid h5; clear h5 g5)
            exact ⟨⟨i + 1, by rw [HN2.out.1], by go_num, by have := HKK.out; omega, by have := HKK.out; omega, Lib.hid (by rw [HN2.out.2]; exact H5.out)⟩, by simp only [intOf]; have := HKK.out; omega⟩
      · have hl5i : ¬ (i : Int) < 10 := by omega
        have HP2 := Lib.hid (show ∀ wx : World, Calls Try.prog 12 #[.string (catT (backL l tags i))] wx fun e w' => ∃ v, e = .returned (.tuple #[v, .int .i64 0]) ∧ LS 24 3 wx.heap.size wx ((itemsT (backL l tags i)).map encIt) v w' from fun wx => by
          have h1 := HC.out.2.2 (catT (backL l tags i)) wx (by have := backL_size l tags i hi10; omega)
          rw [back_parts l tags H8.out i hi10] at h1
          exact h1)
        have HI10 := Lib.hid hi10
        have HIN := Lib.hid hin
        clear hlt hin hi10
        go_wp2_with fail
        refine (HP2.out wr).mono ?_
        rintro e w2 ⟨v2, rfl, h2⟩
        have HV2 := Lib.hid (HV.out.below h2.b)
        obtain ⟨p2, c2, rfl, hr2, _⟩ := h2.rs
        have HR2 := Lib.hid hr2
        obtain ⟨p3, c3, rfl, hr3, _⟩ := HV2.out.rs
        obtain ⟨K, hK⟩ : ∃ K, K = (backL l tags i).length := ⟨_, rfl⟩
        have hl1 : ((itemsT (backL l tags i)).map encIt).length = K := by rw [List.length_map, itemsT_len, hK]
        have hl2 : (wantV tags i).length = K := by rw [wantV_len l tags i, hK]
        rw [hl1] at hr2 ⊢
        rw [hl2] at hr3 ⊢
        have HR2 := Lib.hid hr2
        have HR3 := Lib.hid hr3
        have HK := Lib.hid (⟨hK, (by have := backL_len l tags i; have := HI10.out; omega)⟩ : K = (backL l tags i).length ∧ K ≤ 10)
        have HIW : Hid (Below w2.heap.size w2 w2) := Lib.hid (Below.refl _ _)
        clear hr2 hr3 hl1 hl2 hK h2
        go_wp2_with fail
        go_loopw [18] (fun u wy => ∃ j : Nat, u = .int .i64 (j : Int) ∧ j ≤ K ∧ Hid (Below w2.heap.size w2 wy)) (fun u _ => K - (intOf u).toNat)
        case atStart => exact ⟨0, rfl, Nat.zero_le _, HIW⟩
        case round =>
          obtain ⟨j, rfl, hj, HW⟩ := hrel
          by_cases hjk : j < K
          · have hjki : (j : Int) < (K : Int) := by omega
            obtain ⟨b2, rfl⟩ := HR2.out.some_ (by omega)
            obtain ⟨b3, rfl⟩ := HR3.out.some_ (by omega)
            have hjw : j < (wantL (tagT tags) i).length := by have := HK.out.1; unfold backL at this; rw [List.length_map] at this; omega
            obtain ⟨k, hk⟩ : ∃ k, k = (wantL (tagT tags) i)[j]'hjw := ⟨_, rfl⟩
            have hkg : (wantL (tagT tags) i)[j]? = some k := by rw [List.getElem?_eq_getElem hjw, hk]
            have hkn : k < n := by have h1 := (wantL_lt _ _ k (by rw [hk]; exact List.getElem_mem hjw)).1; have h2 := HIN.out; omega
            obtain ⟨x, hx⟩ : ∃ x, x = l.getD k ⟨#[]⟩ := ⟨_, rfl⟩
            obtain ⟨Y, hY⟩ : ∃ Y, Y = txtT l k := ⟨_, rfl⟩
            obtain ⟨m, hm⟩ : ∃ m, m = min x.size 300 := ⟨_, rfl⟩
            have HY : Hid (x.extract 0 m = Y) := Lib.hid (by rw [hY, hm, hx]; rfl)
            have HMN : Hid ((if (300 : Int) < (x.size : Int) then (300 : Int) else (x.size : Int)) = (m : Int)) := Lib.hid (by rw [hm]; split <;> omega)
            have HML := Lib.hid (show ¬ x.size < m by omega)
            have hbt := back_text l tags i j k hkg
            rw [← hY] at hbt
            obtain ⟨z, hz, hzt⟩ := Option.map_eq_some_iff.1 hbt
            have hget : ((itemsT (backL l tags i)).map encIt)[j]? = some [.int .i64 (z.1 : Int), .string z.2.1, .string z.2.2] := by rw [List.getElem?_map, hz]; rfl
            obtain ⟨_, g1, _⟩ := (HR2.out.below HW.out).at3 hget
            rw [hzt] at g1
            have hw1 : wr.cell? (b3.add j) = some (.int .i64 (k : Int)) := by
              have := (HR3.out.below HW.out).cell b3 rfl j (by unfold wantV; rw [List.length_map]; exact hjw) 0 (.int .i64 (k : Int)) (by unfold wantV; rw [List.getElem_map, ← hk]; rfl)
              rwa [Nat.mul_one, Nat.add_zero] at this
            have HJy := Lib.hid ((HJ1.out.below HV2.out.b).below HW.out)
            obtain ⟨a, rfl⟩ := HJy.out.1.some_ (by omega)
            have hil : k < l.length := by have := HL.out.1; omega
            have hxc : wr.cell? (a.add k) = some (.string x) := by
              have := HJy.out.1.cell a rfl k (by rw [List.length_map]; exact hil) 0 (.string x) (by rw [List.getElem_map, hx, List.getD_eq_getElem?_getD, List.getElem?_eq_getElem hil]; rfl)
              rwa [Nat.mul_one, Nat.add_zero] at this
            have hkni : (k : Int) < (n : Int) := by omega
            have HJK := Lib.hid hjk
            have hjw2 : IntKind.i64.wrap ((j : Int) + 1) = ((j + 1 : Nat) : Int) := by rw [IntWalk.i64_in _ (by have := HK.out.2; omega)]; rfl
            clear hjw hk hkg hkn hx hY hm hbt hz hzt hget hil hj hjk HIW
            go_wp2_with fail
            refine heldJ_start (fun wx => wx = wr.drew) (by kernel_rfl) ?_
            change wpAnyH _ _ _ _ _ _ _ _ wr.drew
            have HWd := Lib.hid HW.out.drew
            have e1 : wr.drew.cell? ⟨(b2.add (j * 3)).block, (b2.add (j * 3)).off + 1, none⟩ = some (.string Y) := g1
            have e2 : wr.drew.cell? (b3.add j) = some (.int .i64 (k : Int)) := hw1
            have e3 : wr.drew.cell? (a.add k) = some (.string x) := hxc
            clear g1 hw1 hxc HJy HW
            generalize wr.drew = wd at HWd e1 e2 e3 ⊢
            refine heldJ_take (i := 0) (v := .slice (some b2) K c2) rfl (by kernel_rfl) (by kernel_rfl) (by kernel_rfl) (fun _ _ _ h => h) rfl (fun wx hJ => ?_) rfl ?_
            · obtain rfl := hJ; go_simp; skip
            simp only [pu]
            refine heldJ_take (i := 1) (v := .int .i64 (j : Int)) rfl (by kernel_rfl) (by kernel_rfl) (by kernel_rfl) (fun _ _ _ h => h) rfl (fun wx hJ => ?_) rfl ?_
            · obtain rfl := hJ; go_simp; skip
            simp only [pu]
            refine heldJ_take (i := 2) (v := .pointer (some (b2.add (j * 3)))) rfl (by kernel_rfl) (by kernel_rfl) (by kernel_rfl) (fun _ _ _ h => h) rfl (fun wx hJ => ?_) rfl ?_
            · obtain rfl := hJ; go_simp; skip
            simp only [pu]
            refine heldJ_take (i := 3) (v := .pointer (some ⟨(b2.add (j * 3)).block, (b2.add (j * 3)).off + 1, none⟩)) rfl (by kernel_rfl) (by kernel_rfl) (by kernel_rfl) (fun _ _ _ h => h) rfl (fun wx hJ => ?_) rfl ?_
            · obtain rfl := hJ; go_simp; skip
            simp only [pu]
            refine heldJ_take (i := 4) (v := .string Y) rfl (by kernel_rfl) (by kernel_rfl) (by kernel_rfl) (fun _ _ _ h => h) rfl (fun wx hJ => ?_) rfl ?_
            · obtain rfl := hJ; go_simp; skip
            simp only [pu]
            refine heldJ_take (i := 5) (v := .slice (some a) n cap) rfl (by kernel_rfl) (by kernel_rfl) (by kernel_rfl) (fun _ _ _ h => h) rfl (fun wx hJ => ?_) rfl ?_
            · obtain rfl := hJ; go_simp; skip
            simp only [pu]
            refine heldJ_take (i := 6) (v := .slice (some b3) K c3) rfl (by kernel_rfl) (by kernel_rfl) (by kernel_rfl) (fun _ _ _ h => h) rfl (fun wx hJ => ?_) rfl ?_
            · obtain rfl := hJ; go_simp; skip
            simp only [pu]
            refine heldJ_take (i := 7) (v := .int .i64 (j : Int)) rfl (by kernel_rfl) (by kernel_rfl) (by kernel_rfl) (fun _ _ _ h => h) rfl (fun wx hJ => ?_) rfl ?_
            · obtain rfl := hJ; go_simp; skip
            simp only [pu]
            refine heldJ_take (i := 8) (v := .pointer (some (b3.add j))) rfl (by kernel_rfl) (by kernel_rfl) (by kernel_rfl) (fun _ _ _ h => h) rfl (fun wx hJ => ?_) rfl ?_
            · obtain rfl := hJ; go_simp; skip
            simp only [pu]
            refine heldJ_take (i := 9) (v := .int .i64 (k : Int)) rfl (by kernel_rfl) (by kernel_rfl) (by kernel_rfl) (fun _ _ _ h => h) rfl (fun wx hJ => ?_) rfl ?_
            · obtain rfl := hJ; go_simp; skip
            simp only [pu]
            refine heldJ_take (i := 10) (v := .pointer (some (a.add k))) rfl (by kernel_rfl) (by kernel_rfl) (by kernel_rfl) (fun _ _ _ h => h) rfl (fun wx hJ => ?_) rfl ?_
            · obtain rfl := hJ; go_simp; skip
            simp only [pu]
            refine heldJ_take (i := 11) (v := .string x) rfl (by kernel_rfl) (by kernel_rfl) (by kernel_rfl) (fun _ _ _ h => h) rfl (fun wx hJ => ?_) rfl ?_
            · obtain rfl := hJ; go_simp; skip
            simp only [pu]
            refine heldJ_take (i := 12) (v := .slice (some a) n cap) rfl (by kernel_rfl) (by kernel_rfl) (by kernel_rfl) (fun _ _ _ h => h) rfl (fun wx hJ => ?_) rfl ?_
            · obtain rfl := hJ; go_simp; skip
            simp only [pu]
            refine heldJ_take (i := 13) (v := .slice (some b3) K c3) rfl (by kernel_rfl) (by kernel_rfl) (by kernel_rfl) (fun _ _ _ h => h) rfl (fun wx hJ => ?_) rfl ?_
            · obtain rfl := hJ; go_simp; skip
            simp only [pu]
            refine heldJ_take (i := 14) (v := .int .i64 (j : Int)) rfl (by kernel_rfl) (by kernel_rfl) (by kernel_rfl) (fun _ _ _ h => h) rfl (fun wx hJ => ?_) rfl ?_
            · obtain rfl := hJ; go_simp; skip
            simp only [pu]
            refine heldJ_take (i := 15) (v := .pointer (some (b3.add j))) rfl (by kernel_rfl) (by kernel_rfl) (by kernel_rfl) (fun _ _ _ h => h) rfl (fun wx hJ => ?_) rfl ?_
            · obtain rfl := hJ; go_simp; skip
            simp only [pu]
            refine heldJ_take (i := 16) (v := .int .i64 (k : Int)) rfl (by kernel_rfl) (by kernel_rfl) (by kernel_rfl) (fun _ _ _ h => h) rfl (fun wx hJ => ?_) rfl ?_
            · obtain rfl := hJ; go_simp; skip
            simp only [pu]
            refine heldJ_take (i := 17) (v := .pointer (some (a.add k))) rfl (by kernel_rfl) (by kernel_rfl) (by kernel_rfl) (fun _ _ _ h => h) rfl (fun wx hJ => ?_) rfl ?_
            · obtain rfl := hJ; go_simp; skip
            simp only [pu]
            refine heldJ_take (i := 18) (v := .string x) rfl (by kernel_rfl) (by kernel_rfl) (by kernel_rfl) (fun _ _ _ h => h) rfl (fun wx hJ => ?_) rfl ?_
            · obtain rfl := hJ; go_simp; skip
            simp only [pu]
            refine heldJ_take (i := 19) (v := .int .i64 (x.size : Int)) rfl (by kernel_rfl) (by kernel_rfl) (by kernel_rfl) (fun _ _ _ h => h) rfl (fun wx hJ => ?_) rfl ?_
            · obtain rfl := hJ; go_simp; skip
            simp only [pu]
            refine heldJ_take (i := 20) (v := .int .i64 (m : Int)) rfl (by kernel_rfl) (by kernel_rfl) (by kernel_rfl) (fun _ _ _ h => h) rfl (fun wx hJ => ?_) rfl ?_
            · obtain rfl := hJ; have cc := HMN.out; go_simp; skip
            simp only [pu]
            refine heldJ_take (i := 21) (v := .string Y) rfl (by kernel_rfl) (by kernel_rfl) (by kernel_rfl) (fun _ _ _ h => h) rfl (fun wx hJ => ?_) rfl ?_
            · obtain rfl := hJ; have cc := HY.out; have cm := HML.out; go_simp; skip
            simp only [pu]
            refine heldJ_take (i := 22) (v := .bool false) rfl (by kernel_rfl) (by kernel_rfl) (by kernel_rfl) (fun _ _ _ h => h) rfl (fun wx hJ => ?_) rfl ?_
            · obtain rfl := hJ; go_simp; skip
            simp only [pu]
            refine wpAnyH_done (by kernel_rfl) ?_ _
            go_wp2_with fail
            exact ⟨⟨j + 1, by go_num, by have := HJK.out; omega, HWd⟩, by simp only [intOf]; have := HJK.out; omega⟩
          · obtain rfl : j = K := by omega
            have hjki : ¬ (j : Int) < (j : Int) := by omega
            clear hjk hj HIW
            obtain ⟨o, ho⟩ : ∃ o, o = nextD more := ⟨_, rfl⟩
            have NC := HC.out.1 more wr (by have := HMO.out; omega)
            rw [← ho] at NC
            have HBW := Lib.hid (HB1.out.trans ((HV2.out.b.trans (HW.out.mono HV2.out.lo)).mono HB1.out.size))
            have HO := Lib.hid ho
            clear ho
            go_wp2_with fail
            refine NC.mono ?_
            rintro e w3 ⟨rfl, b3⟩
            have HB3 := Lib.hid (HBW.out.trans (b3.mono HBW.out.size))
            clear NC b3
            rcases o with _ | ⟨T, X, R⟩
            · have WC := fun wx => HC.out.2.1 0 ⟨#[]⟩ wx (by decide)
              rw [show wrapS 0 ⟨#[]⟩ = (⟨#[0, 0]⟩, 0) by decide +kernel] at WC
              have hei : (errI none : Int) = 2 := rfl
              have HZ2 := Lib.hid (Blk.new w3 24 #[.int .i64 0, .string ⟨#[]⟩, .string ⟨#[]⟩])
              have hb2 := below_setRow' ((Below.refl w3.heap.size w3).alloc (Nat.le_refl _) (.cells #[.int .i64 0, .string ⟨#[]⟩, .string ⟨#[]⟩] 24)) (Nat.le_refl _) #[.int .i64 0, .string ⟨#[]⟩, .string ⟨#[]⟩]
              have hz2 := HZ2.out.row_ #[.int .i64 0, .string ⟨#[]⟩, .string ⟨#[]⟩]
              obtain ⟨q2, hq2⟩ : ∃ q, q = w3.heap.size := ⟨_, rfl⟩
              obtain ⟨W2, hW2⟩ : ∃ W, W = (w3.alloc (.cells #[.int .i64 0, .string ⟨#[]⟩, .string ⟨#[]⟩] 24)).setRow w3.heap.size #[.int .i64 0, .string ⟨#[]⟩, .string ⟨#[]⟩] := ⟨_, rfl⟩
              rw [← hW2] at hb2 hz2
              rw [← hq2] at hz2
              have HW2 := Lib.hid hW2
              have HQ2 := Lib.hid hq2
              clear hW2 hq2
              have HB4 := Lib.hid (HB3.out.trans (hb2.mono HB3.out.size))
              have u0 : W2.cell? ⟨q2, 0, none⟩ = some (.int .i64 0) := hz2.cell 0
              have u1 : W2.cell? ⟨q2, 1, none⟩ = some (.string ⟨#[]⟩) := hz2.cell 1
              clear hb2 hz2
              go_wp2_with (refine wpList_store_row rfl 24 _ _ rfl w3.heap.size #[.int .i64 0, .string ⟨#[]⟩, .string ⟨#[]⟩] rfl rfl 24 _ HZ2.out itemD_size rfl (cells3_one _ _ _) ?_; rw [← HW2.out, ← HQ2.out])
              refine (WC _).mono ?_
              rintro e w4 ⟨rfl, b4⟩
              have HB5 := Lib.hid (HB4.out.trans (b4.mono HB4.out.size))
              clear u0 u1 b4 WC
              go_wp2_with fail
              go_ret
              exact ⟨rfl, HB5.out⟩
            · obtain ⟨t1, t2, t3, t4⟩ := wrap_next HO.out.symm
              have WC := fun wx => HC.out.2.1 (T : Int) X wx (by omega)
              rw [show wrapS (T : Int) X = (wrapT T X, 0) by unfold wrapS; rw [if_neg (by omega), if_neg (by omega)]; rfl] at WC
              have hzs : (wrapT T X).size + R.size = more.size := by rw [← size_app, t4]
              have hei : (errI (some (T, X, R)) : Int) = 0 := rfl
              have hzz : ¬ (((wrapT T X).size + R.size : Nat) : Int) > 9223372036854775807 := by have := HMO.out; omega
              have HE := Lib.hid t4
              clear t1 t2 t3 t4 hzs
              generalize wrapT T X = WT at WC hzz HE
              have HZ2 := Lib.hid (Blk.new w3 24 #[.int .i64 0, .string ⟨#[]⟩, .string ⟨#[]⟩])
              have hb2 := below_setRow' ((Below.refl w3.heap.size w3).alloc (Nat.le_refl _) (.cells #[.int .i64 0, .string ⟨#[]⟩, .string ⟨#[]⟩] 24)) (Nat.le_refl _) #[.int .i64 (T : Int), .string X, .string R]
              have hz2 := HZ2.out.row_ #[.int .i64 (T : Int), .string X, .string R]
              obtain ⟨q2, hq2⟩ : ∃ q, q = w3.heap.size := ⟨_, rfl⟩
              obtain ⟨W2, hW2⟩ : ∃ W, W = (w3.alloc (.cells #[.int .i64 0, .string ⟨#[]⟩, .string ⟨#[]⟩] 24)).setRow w3.heap.size #[.int .i64 (T : Int), .string X, .string R] := ⟨_, rfl⟩
              rw [← hW2] at hb2 hz2
              rw [← hq2] at hz2
              have HW2 := Lib.hid hW2
              have HQ2 := Lib.hid hq2
              clear hW2 hq2
              have HB4 := Lib.hid (HB3.out.trans (hb2.mono HB3.out.size))
              have HZ9 := Lib.hid hz2
              have u0 : W2.cell? ⟨q2, 0, none⟩ = some (.int .i64 (T : Int)) := hz2.cell 0
              have u1 : W2.cell? ⟨q2, 1, none⟩ = some (.string X) := hz2.cell 1
              clear hb2 hz2
              go_wp2_with (refine wpList_store_row rfl 24 _ _ rfl w3.heap.size #[.int .i64 (T : Int), .string X, .string R] rfl rfl 24 _ HZ2.out itemD_size rfl (cells3_one _ _ _) ?_; rw [← HW2.out, ← HQ2.out])
              refine (WC _).mono ?_
              rintro e w4 ⟨rfl, b4⟩
              have HB5 := Lib.hid (HB4.out.trans (b4.mono HB4.out.size))
              have u2 : w4.cell? ⟨q2, 2, none⟩ = some (.string R) := (HZ9.out.below b4 HZ9.out.lt).cell 2
              clear u0 u1 b4 WC
              go_wp2_with fail
              go_ret
              refine ⟨?_, HB5.out⟩
              rw [HE.out]
              simp
    · have hlti : ¬ (i : Int) < (n : Int) := by omega
      have HP2 := Lib.hid (show ∀ wx : World, Calls Try.prog 12 #[.string (catT (backL l tags i))] wx fun e w' => ∃ v, e = .returned (.tuple #[v, .int .i64 0]) ∧ LS 24 3 wx.heap.size wx ((itemsT (backL l tags i)).map encIt) v w' from fun wx => by
        have h1 := HC.out.2.2 (catT (backL l tags i)) wx (by have := backL_size l tags i hi10; omega)
        rw [back_parts l tags H8.out i hi10] at h1
        exact h1)
      have HI10 := Lib.hid hi10
      have HIN := Lib.hid hin
      clear hlt hin hi10
      go_wp2_with fail
      refine (HP2.out wr).mono ?_
      rintro e w2 ⟨v2, rfl, h2⟩
      have HV2 := Lib.hid (HV.out.below h2.b)
      obtain ⟨p2, c2, rfl, hr2, _⟩ := h2.rs
      have HR2 := Lib.hid hr2
      obtain ⟨p3, c3, rfl, hr3, _⟩ := HV2.out.rs
      obtain ⟨K, hK⟩ : ∃ K, K = (backL l tags i).length := ⟨_, rfl⟩
      have hl1 : ((itemsT (backL l tags i)).map encIt).length = K := by rw [List.length_map, itemsT_len, hK]
      have hl2 : (wantV tags i).length = K := by rw [wantV_len l tags i, hK]
      rw [hl1] at hr2 ⊢
      rw [hl2] at hr3 ⊢
      have HR2 := Lib.hid hr2
      have HR3 := Lib.hid hr3
      have HK := Lib.hid (⟨hK, (by have := backL_len l tags i; have := HI10.out; omega)⟩ : K = (backL l tags i).length ∧ K ≤ 10)
      have HIW : Hid (Below w2.heap.size w2 w2) := Lib.hid (Below.refl _ _)
      clear hr2 hr3 hl1 hl2 hK h2
      go_wp2_with fail
      go_loopw [18] (fun u wy => ∃ j : Nat, u = .int .i64 (j : Int) ∧ j ≤ K ∧ Hid (Below w2.heap.size w2 wy)) (fun u _ => K - (intOf u).toNat)
      case atStart => exact ⟨0, rfl, Nat.zero_le _, HIW⟩
      case round =>
        obtain ⟨j, rfl, hj, HW⟩ := hrel
        by_cases hjk : j < K
        · have hjki : (j : Int) < (K : Int) := by omega
          obtain ⟨b2, rfl⟩ := HR2.out.some_ (by omega)
          obtain ⟨b3, rfl⟩ := HR3.out.some_ (by omega)
          have hjw : j < (wantL (tagT tags) i).length := by have := HK.out.1; unfold backL at this; rw [List.length_map] at this; omega
          obtain ⟨k, hk⟩ : ∃ k, k = (wantL (tagT tags) i)[j]'hjw := ⟨_, rfl⟩
          have hkg : (wantL (tagT tags) i)[j]? = some k := by rw [List.getElem?_eq_getElem hjw, hk]
          have hkn : k < n := by have h1 := (wantL_lt _ _ k (by rw [hk]; exact List.getElem_mem hjw)).1; have h2 := HIN.out; omega
          obtain ⟨x, hx⟩ : ∃ x, x = l.getD k ⟨#[]⟩ := ⟨_, rfl⟩
          obtain ⟨Y, hY⟩ : ∃ Y, Y = txtT l k := ⟨_, rfl⟩
          obtain ⟨m, hm⟩ : ∃ m, m = min x.size 300 := ⟨_, rfl⟩
          have HY : Hid (x.extract 0 m = Y) := Lib.hid (by rw [hY, hm, hx]; rfl)
          have HMN : Hid ((if (300 : Int) < (x.size : Int) then (300 : Int) else (x.size : Int)) = (m : Int)) := Lib.hid (by rw [hm]; split <;> omega)
          have HML := Lib.hid (show ¬ x.size < m by omega)
          have hbt := back_text l tags i j k hkg
          rw [← hY] at hbt
          obtain ⟨z, hz, hzt⟩ := Option.map_eq_some_iff.1 hbt
          have hget : ((itemsT (backL l tags i)).map encIt)[j]? = some [.int .i64 (z.1 : Int), .string z.2.1, .string z.2.2] := by rw [List.getElem?_map, hz]; rfl
          obtain ⟨_, g1, _⟩ := (HR2.out.below HW.out).at3 hget
          rw [hzt] at g1
          have hw1 : wr.cell? (b3.add j) = some (.int .i64 (k : Int)) := by
            have := (HR3.out.below HW.out).cell b3 rfl j (by unfold wantV; rw [List.length_map]; exact hjw) 0 (.int .i64 (k : Int)) (by unfold wantV; rw [List.getElem_map, ← hk]; rfl)
            rwa [Nat.mul_one, Nat.add_zero] at this
          have HJy := Lib.hid ((HJ1.out.below HV2.out.b).below HW.out)
          obtain ⟨a, rfl⟩ := HJy.out.1.some_ (by omega)
          have hil : k < l.length := by have := HL.out.1; omega
          have hxc : wr.cell? (a.add k) = some (.string x) := by
            have := HJy.out.1.cell a rfl k (by rw [List.length_map]; exact hil) 0 (.string x) (by rw [List.getElem_map, hx, List.getD_eq_getElem?_getD, List.getElem?_eq_getElem hil]; rfl)
            rwa [Nat.mul_one, Nat.add_zero] at this
          have hkni : (k : Int) < (n : Int) := by omega
          have HJK := Lib.hid hjk
          have hjw2 : IntKind.i64.wrap ((j : Int) + 1) = ((j + 1 : Nat) : Int) := by rw [IntWalk.i64_in _ (by have := HK.out.2; omega)]; rfl
          clear hjw hk hkg hkn hx hY hm hbt hz hzt hget hil hj hjk HIW
          go_wp2_with fail
          refine heldJ_start (fun wx => wx = wr.drew) (by kernel_rfl) ?_
          change wpAnyH _ _ _ _ _ _ _ _ wr.drew
          have HWd := Lib.hid HW.out.drew
          have e1 : wr.drew.cell? ⟨(b2.add (j * 3)).block, (b2.add (j * 3)).off + 1, none⟩ = some (.string Y) := g1
          have e2 : wr.drew.cell? (b3.add j) = some (.int .i64 (k : Int)) := hw1
          have e3 : wr.drew.cell? (a.add k) = some (.string x) := hxc
          clear g1 hw1 hxc HJy HW
          generalize wr.drew = wd at HWd e1 e2 e3 ⊢
          refine heldJ_take (i := 0) (v := .slice (some b2) K c2) rfl (by kernel_rfl) (by kernel_rfl) (by kernel_rfl) (fun _ _ _ h => h) rfl (fun wx hJ => ?_) rfl ?_
          · obtain rfl := hJ; go_simp; skip
          simp only [pu]
          refine heldJ_take (i := 1) (v := .int .i64 (j : Int)) rfl (by kernel_rfl) (by kernel_rfl) (by kernel_rfl) (fun _ _ _ h => h) rfl (fun wx hJ => ?_) rfl ?_
          · obtain rfl := hJ; go_simp; skip
          simp only [pu]
          refine heldJ_take (i := 2) (v := .pointer (some (b2.add (j * 3)))) rfl (by kernel_rfl) (by kernel_rfl) (by kernel_rfl) (fun _ _ _ h => h) rfl (fun wx hJ => ?_) rfl ?_
          · obtain rfl := hJ; go_simp; skip
          simp only [pu]
          refine heldJ_take (i := 3) (v := .pointer (some ⟨(b2.add (j * 3)).block, (b2.add (j * 3)).off + 1, none⟩)) rfl (by kernel_rfl) (by kernel_rfl) (by kernel_rfl) (fun _ _ _ h => h) rfl (fun wx hJ => ?_) rfl ?_
          · obtain rfl := hJ; go_simp; skip
          simp only [pu]
          refine heldJ_take (i := 4) (v := .string Y) rfl (by kernel_rfl) (by kernel_rfl) (by kernel_rfl) (fun _ _ _ h => h) rfl (fun wx hJ => ?_) rfl ?_
          · obtain rfl := hJ; go_simp; skip
          simp only [pu]
          refine heldJ_take (i := 5) (v := .slice (some a) n cap) rfl (by kernel_rfl) (by kernel_rfl) (by kernel_rfl) (fun _ _ _ h => h) rfl (fun wx hJ => ?_) rfl ?_
          · obtain rfl := hJ; go_simp; skip
          simp only [pu]
          refine heldJ_take (i := 6) (v := .slice (some b3) K c3) rfl (by kernel_rfl) (by kernel_rfl) (by kernel_rfl) (fun _ _ _ h => h) rfl (fun wx hJ => ?_) rfl ?_
          · obtain rfl := hJ; go_simp; skip
          simp only [pu]
          refine heldJ_take (i := 7) (v := .int .i64 (j : Int)) rfl (by kernel_rfl) (by kernel_rfl) (by kernel_rfl) (fun _ _ _ h => h) rfl (fun wx hJ => ?_) rfl ?_
          · obtain rfl := hJ; go_simp; skip
          simp only [pu]
          refine heldJ_take (i := 8) (v := .pointer (some (b3.add j))) rfl (by kernel_rfl) (by kernel_rfl) (by kernel_rfl) (fun _ _ _ h => h) rfl (fun wx hJ => ?_) rfl ?_
          · obtain rfl := hJ; go_simp; skip
          simp only [pu]
          refine heldJ_take (i := 9) (v := .int .i64 (k : Int)) rfl (by kernel_rfl) (by kernel_rfl) (by kernel_rfl) (fun _ _ _ h => h) rfl (fun wx hJ => ?_) rfl ?_
          · obtain rfl := hJ; go_simp; skip
          simp only [pu]
          refine heldJ_take (i := 10) (v := .pointer (some (a.add k))) rfl (by kernel_rfl) (by kernel_rfl) (by kernel_rfl) (fun _ _ _ h => h) rfl (fun wx hJ => ?_) rfl ?_
          · obtain rfl := hJ; go_simp; skip
          simp only [pu]
          refine heldJ_take (i := 11) (v := .string x) rfl (by kernel_rfl) (by kernel_rfl) (by kernel_rfl) (fun _ _ _ h => h) rfl (fun wx hJ => ?_) rfl ?_
          · obtain rfl := hJ; go_simp; skip
          simp only [pu]
          refine heldJ_take (i := 12) (v := .slice (some a) n cap) rfl (by kernel_rfl) (by kernel_rfl) (by kernel_rfl) (fun _ _ _ h => h) rfl (fun wx hJ => ?_) rfl ?_
          · obtain rfl := hJ; go_simp; skip
          simp only [pu]
          refine heldJ_take (i := 13) (v := .slice (some b3) K c3) rfl (by kernel_rfl) (by kernel_rfl) (by kernel_rfl) (fun _ _ _ h => h) rfl (fun wx hJ => ?_) rfl ?_
          · obtain rfl := hJ; go_simp; skip
          simp only [pu]
          refine heldJ_take (i := 14) (v := .int .i64 (j : Int)) rfl (by kernel_rfl) (by kernel_rfl) (by kernel_rfl) (fun _ _ _ h => h) rfl (fun wx hJ => ?_) rfl ?_
          · obtain rfl := hJ; go_simp; skip
          simp only [pu]
          refine heldJ_take (i := 15) (v := .pointer (some (b3.add j))) rfl (by kernel_rfl) (by kernel_rfl) (by kernel_rfl) (fun _ _ _ h => h) rfl (fun wx hJ => ?_) rfl ?_
          · obtain rfl := hJ; go_simp; skip
          simp only [pu]
          refine heldJ_take (i := 16) (v := .int .i64 (k : Int)) rfl (by kernel_rfl) (by kernel_rfl) (by kernel_rfl) (fun _ _ _ h => h) rfl (fun wx hJ => ?_) rfl ?_
          · obtain rfl := hJ; go_simp; skip
          simp only [pu]
          refine heldJ_take (i := 17) (v := .pointer (some (a.add k))) rfl (by kernel_rfl) (by kernel_rfl) (by kernel_rfl) (fun _ _ _ h => h) rfl (fun wx hJ => ?_) rfl ?_
          · obtain rfl := hJ; go_simp; skip
          simp only [pu]
          refine heldJ_take (i := 18) (v := .string x) rfl (by kernel_rfl) (by kernel_rfl) (by kernel_rfl) (fun _ _ _ h => h) rfl (fun wx hJ => ?_) rfl ?_
          · obtain rfl := hJ; go_simp; skip
          simp only [pu]
          refine heldJ_take (i := 19) (v := .int .i64 (x.size : Int)) rfl (by kernel_rfl) (by kernel_rfl) (by kernel_rfl) (fun _ _ _ h => h) rfl (fun wx hJ => ?_) rfl ?_
          · obtain rfl := hJ; go_simp; skip
          simp only [pu]
          refine heldJ_take (i := 20) (v := .int .i64 (m : Int)) rfl (by kernel_rfl) (by kernel_rfl) (by kernel_rfl) (fun _ _ _ h => h) rfl (fun wx hJ => ?_) rfl ?_
          · obtain rfl := hJ; have cc := HMN.out; go_simp; skip
          simp only [pu]
          refine heldJ_take (i := 21) (v := .string Y) rfl (by kernel_rfl) (by kernel_rfl) (by kernel_rfl) (fun _ _ _ h => h) rfl (fun wx hJ => ?_) rfl ?_
          · obtain rfl := hJ; have cc := HY.out; have cm := HML.out; go_simp; skip
          simp only [pu]
          refine heldJ_take (i := 22) (v := .bool false) rfl (by kernel_rfl) (by kernel_rfl) (by kernel_rfl) (fun _ _ _ h => h) rfl (fun wx hJ => ?_) rfl ?_
          · obtain rfl := hJ; go_simp; skip
          simp only [pu]
          refine wpAnyH_done (by kernel_rfl) ?_ _
          go_wp2_with fail
          exact ⟨⟨j + 1, by go_num, by have := HJK.out; omega, HWd⟩, by simp only [intOf]; have := HJK.out; omega⟩
        · obtain rfl : j = K := by omega
          have hjki : ¬ (j : Int) < (j : Int) := by omega
          clear hjk hj HIW
          obtain ⟨o, ho⟩ : ∃ o, o = nextD more := ⟨_, rfl⟩
          have NC := HC.out.1 more wr (by have := HMO.out; omega)
          rw [← ho] at NC
          have HBW := Lib.hid (HB1.out.trans ((HV2.out.b.trans (HW.out.mono HV2.out.lo)).mono HB1.out.size))
          have HO := Lib.hid ho
          clear ho
          go_wp2_with fail
          refine NC.mono ?_
          rintro e w3 ⟨rfl, b3⟩
          have HB3 := Lib.hid (HBW.out.trans (b3.mono HBW.out.size))
          clear NC b3
          rcases o with _ | ⟨T, X, R⟩
          · have WC := fun wx => HC.out.2.1 0 ⟨#[]⟩ wx (by decide)
            rw [show wrapS 0 ⟨#[]⟩ = (⟨#[0, 0]⟩, 0) by decide +kernel] at WC
            have hei : (errI none : Int) = 2 := rfl
            have HZ2 := Lib.hid (Blk.new w3 24 #[.int .i64 0, .string ⟨#[]⟩, .string ⟨#[]⟩])
            have hb2 := below_setRow' ((Below.refl w3.heap.size w3).alloc (Nat.le_refl _) (.cells #[.int .i64 0, .string ⟨#[]⟩, .string ⟨#[]⟩] 24)) (Nat.le_refl _) #[.int .i64 0, .string ⟨#[]⟩, .string ⟨#[]⟩]
            have hz2 := HZ2.out.row_ #[.int .i64 0, .string ⟨#[]⟩, .string ⟨#[]⟩]
            obtain ⟨q2, hq2⟩ : ∃ q, q = w3.heap.size := ⟨_, rfl⟩
            obtain ⟨W2, hW2⟩ : ∃ W, W = (w3.alloc (.cells #[.int .i64 0, .string ⟨#[]⟩, .string ⟨#[]⟩] 24)).setRow w3.heap.size #[.int .i64 0, .string ⟨#[]⟩, .string ⟨#[]⟩] := ⟨_, rfl⟩
            rw [← hW2] at hb2 hz2
            rw [← hq2] at hz2
            have HW2 := Lib.hid hW2
            have HQ2 := Lib.hid hq2
            clear hW2 hq2
            have HB4 := Lib.hid (HB3.out.trans (hb2.mono HB3.out.size))
            have u0 : W2.cell? ⟨q2, 0, none⟩ = some (.int .i64 0) := hz2.cell 0
            have u1 : W2.cell? ⟨q2, 1, none⟩ = some (.string ⟨#[]⟩) := hz2.cell 1
            clear hb2 hz2
            go_wp2_with (refine wpList_store_row rfl 24 _ _ rfl w3.heap.size #[.int .i64 0, .string ⟨#[]⟩, .string ⟨#[]⟩] rfl rfl 24 _ HZ2.out itemD_size rfl (cells3_one _ _ _) ?_; rw [← HW2.out, ← HQ2.out])
            refine (WC _).mono ?_
            rintro e w4 ⟨rfl, b4⟩
            have HB5 := Lib.hid (HB4.out.trans (b4.mono HB4.out.size))
            clear u0 u1 b4 WC
            go_wp2_with fail
            go_ret
            exact ⟨rfl, HB5.out⟩
          · obtain ⟨t1, t2, t3, t4⟩ := wrap_next HO.out.symm
            have WC := fun wx => HC.out.2.1 (T : Int) X wx (by omega)
            rw [show wrapS (T : Int) X = (wrapT T X, 0) by unfold wrapS; rw [if_neg (by omega), if_neg (by omega)]; rfl] at WC
            have hzs : (wrapT T X).size + R.size = more.size := by rw [← size_app, t4]
            have hei : (errI (some (T, X, R)) : Int) = 0 := rfl
            have hzz : ¬ (((wrapT T X).size + R.size : Nat) : Int) > 9223372036854775807 := by have := HMO.out; omega
            have HE := Lib.hid t4
            clear t1 t2 t3 t4 hzs
            generalize wrapT T X = WT at WC hzz HE
            have HZ2 := Lib.hid (Blk.new w3 24 #[.int .i64 0, .string ⟨#[]⟩, .string ⟨#[]⟩])
            have hb2 := below_setRow' ((Below.refl w3.heap.size w3).alloc (Nat.le_refl _) (.cells #[.int .i64 0, .string ⟨#[]⟩, .string ⟨#[]⟩] 24)) (Nat.le_refl _) #[.int .i64 (T : Int), .string X, .string R]
            have hz2 := HZ2.out.row_ #[.int .i64 (T : Int), .string X, .string R]
            obtain ⟨q2, hq2⟩ : ∃ q, q = w3.heap.size := ⟨_, rfl⟩
            obtain ⟨W2, hW2⟩ : ∃ W, W = (w3.alloc (.cells #[.int .i64 0, .string ⟨#[]⟩, .string ⟨#[]⟩] 24)).setRow w3.heap.size #[.int .i64 (T : Int), .string X, .string R] := ⟨_, rfl⟩
            rw [← hW2] at hb2 hz2
            rw [← hq2] at hz2
            have HW2 := Lib.hid hW2
            have HQ2 := Lib.hid hq2
            clear hW2 hq2
            have HB4 := Lib.hid (HB3.out.trans (hb2.mono HB3.out.size))
            have HZ9 := Lib.hid hz2
            have u0 : W2.cell? ⟨q2, 0, none⟩ = some (.int .i64 (T : Int)) := hz2.cell 0
            have u1 : W2.cell? ⟨q2, 1, none⟩ = some (.string X) := hz2.cell 1
            clear hb2 hz2
            go_wp2_with (refine wpList_store_row rfl 24 _ _ rfl w3.heap.size #[.int .i64 (T : Int), .string X, .string R] rfl rfl 24 _ HZ2.out itemD_size rfl (cells3_one _ _ _) ?_; rw [← HW2.out, ← HQ2.out])
            refine (WC _).mono ?_
            rintro e w4 ⟨rfl, b4⟩
            have HB5 := Lib.hid (HB4.out.trans (b4.mono HB4.out.size))
            have u2 : w4.cell? ⟨q2, 2, none⟩ = some (.string R) := (HZ9.out.below b4 HZ9.out.lt).cell 2
            clear u0 u1 b4 WC
            go_wp2_with fail
            go_ret
            refine ⟨?_, HB5.out⟩
            rw [HE.out]
            simp
end Go.Proofs.Ytkbjgaobhbiieaa
