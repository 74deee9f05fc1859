/- The law DerTwice of chapter 14 (over the developers' contracts). -/
import Derived.Test.YtkbjgaobhbiieaaMC
import Derived.Test.YtkbjgaobhbiieaaDerItems
namespace Go.Proofs.Ytkbjgaobhbiieaa
open Go.RowKit
def StripC : Prop := ∀ (s : ByteArray) (w : World), s.size ≤ 281474976710656 → Calls Try.prog 17 #[.string s] w fun e w' => e = .returned (.tuple #[.string (stripD s).1, .bool (stripD s).2.1, .int .i64 ((stripD s).2.2 : Int)]) ∧ Below w.heap.size w w'
theorem stripX_of (h : StripC) : StripX := fun w => by
  have e : (stripD (certT false ⟨#[120]⟩ ⟨#[]⟩ [] 0)).2 = (true, 0) := by decide +kernel
  have := h (certT false ⟨#[120]⟩ ⟨#[]⟩ [] 0) w (Nat.le_trans (certT_size _ _ _ _ _) (by decide))
  refine this.mono ?_
  rintro x w' ⟨rfl, b⟩
  exact ⟨_, by rw [e]; rfl, b⟩
def LastT (more : ByteArray) (e3 : Int) : Prop := more.size = 0 ∨ e3 = 2
set_option maxRecDepth 100000 in
set_option maxHeartbeats 16000000 in
theorem derTwice_num (hN : NextC) (hW : WrapC) (hS : StripC) (v : Bool) (name key : ByteArray) (po : Int) (p : Option Addr) (n cap : Nat) (l : List ByteArray) (A : Nat) (a1 a2 : Int) (more : ByteArray) (w : World)
    (h : RS 1 p n cap (l.map fun s => [Value.string s]) w) (hmore : more.size ≤ 9223372036854775807) (hA : A ≤ 9223372036854775807)
    (ha : (a1 = (A : Int) ∨ (a1 < 0 ∧ IntKind.i64.wrap (a1 + 1) = a2 ∧ IntKind.i64.wrap (-a2) = (A : Int)))) :
    Calls Try.prog 5 #[.agg #[.string name, .string key, .bool v, .slice p n cap, .int .i64 po], .int .i64 a1, .string more] w fun e w' => e = .returned (.bool true) ∧ Below w.heap.size w w' := by
  have CX := examples14_any hN hW (stripX_of hS)
  have hal := (Below.refl _ w).alloc (Nat.le_refl _) (.cells #[.string name, .string key, .bool v, .slice p n cap, .int .i64 po] 47)
  obtain ⟨q, hq⟩ : ∃ q, q = w.heap.size := ⟨_, rfl⟩
  have HQ := Lib.hid hq
  have HJ0 : Hid (JC q #[.string name, .string key, .bool v, .slice p n cap, .int .i64 po] p n cap l (w.alloc (.cells #[.string name, .string key, .bool v, .slice p n cap, .int .i64 po] 47))) := Lib.hid (by rw [hq]; exact ⟨Blk.new _ _ _, h.below hal⟩)
  have HB0 := Lib.hid hal
  have HJF : Hid (∀ wx, JC q #[.string name, .string key, .bool v, .slice p n cap, .int .i64 po] p n cap l wx → wx.cell? ⟨q, 0, none⟩ = some (.string name) ∧ wx.cell? ⟨q, 1, none⟩ = some (.string key) ∧ wx.cell? ⟨q, 2, none⟩ = some (.bool v) ∧ wx.cell? ⟨q, 3, none⟩ = some (.slice p n cap) ∧ wx.cell? ⟨q, 4, none⟩ = some (.int .i64 po)) := Lib.hid fun wx h => ⟨h.1.cell 0, h.1.cell 1, h.1.cell 2, h.1.cell 3, h.1.cell 4⟩
  have HJB : Hid (∀ wa wb, JC q #[.string name, .string key, .bool v, .slice p n cap, .int .i64 po] p n cap l wa → Below wa.heap.size wa wb → JC q #[.string name, .string key, .bool v, .slice p n cap, .int .i64 po] p n cap l wb) := Lib.hid fun wa wb h hb => h.below hb
  have CB := fun wx hx => certBytes_any v name key po p n cap l wx hx
  have z2 := wrapT_size 6 (cutT name)
  have z3 := wrapT_size 48 (wrapT 6 (cutT name))
  have y1 := cutT_size name
  have yP := poisT_size
  have x1 : (wrapT 2 ⟨#[7]⟩).size ≤ 6 := wrapT_size 2 ⟨#[7]⟩
  have K1 := fun wx => item_any 2 ⟨#[7]⟩ wx (by decide) (by decide)
  have KP := poison_any
  have KC := cut_any name
  have K2 := fun wx => item_any 6 (cutT name) wx (by decide) (by omega)
  have K3 := fun wx => item_any 48 (wrapT 6 (cutT name)) wx (by decide) (by omega)
  have z4 := wrapT_size 48 (poisT ++ wrapT 48 (wrapT 6 (cutT name)) ++ poisT)
  have z5 := wrapT_size 163 (wrapT 48 (poisT ++ wrapT 48 (wrapT 6 (cutT name)) ++ poisT))
  have s2 : (poisT ++ wrapT 48 (wrapT 6 (cutT name)) ++ poisT).size ≤ 130 := by rw [size_app, size_app]; omega
  have K4 := fun wx => item_any 48 (poisT ++ wrapT 48 (wrapT 6 (cutT name)) ++ poisT) wx (by decide) (by omega)
  have K5 := fun wx => item_any 163 (wrapT 48 (poisT ++ wrapT 48 (wrapT 6 (cutT name)) ++ poisT)) wx (by decide) (by omega)
  obtain ⟨S3, hS3⟩ : ∃ S3, S3 = twiceB (cutT name) := ⟨_, rfl⟩
  have e3 : wrapT 2 ⟨#[7]⟩ ++ wrapT 163 (wrapT 48 (poisT ++ wrapT 48 (wrapT 6 (cutT name)) ++ poisT)) = S3 := by rw [hS3]; rfl
  have s3 : S3.size ≤ 146 := by rw [← e3, size_app]; omega
  have HS3 : Hid (wrapT 2 ⟨#[7]⟩ ++ wrapT 163 (wrapT 48 (poisT ++ wrapT 48 (wrapT 6 (cutT name)) ++ poisT)) = S3 ∧ (wrapT 2 ⟨#[7]⟩).size + (wrapT 163 (wrapT 48 (poisT ++ wrapT 48 (wrapT 6 (cutT name)) ++ poisT))).size ≤ 9223372036854775807) := Lib.hid ⟨e3, by omega⟩
  have z6 := wrapT_size 48 S3
  have z7 := wrapT_size 48 (wrapT 48 S3)
  have K6 := fun wx => item_any 48 S3 wx (by decide) (by omega)
  have K7 := fun wx => item_any 48 (wrapT 48 S3) wx (by decide) (by omega)
  have SC1 : ∀ wx : World, Calls Try.prog 17 #[.string (wrapT 48 (wrapT 48 S3))] wx fun e w' => e = .returned (.tuple #[.string ⟨#[]⟩, .bool false, .int .i64 2]) ∧ Below wx.heap.size wx w' := fun wx => by
    have := hS (wrapT 48 (wrapT 48 S3)) wx (by omega)
    rw [show stripD (wrapT 48 (wrapT 48 S3)) = (⟨#[]⟩, false, 2) by rw [hS3]; exact strip_twice _ y1] at this
    exact this
  obtain ⟨S, hSS⟩ : ∃ S, S = certT v name key l po := ⟨_, rfl⟩
  have hz : S.size ≤ 752 := by rw [hSS]; exact certT_size _ _ _ _ _
  obtain ⟨IN, hIN⟩ : ∃ IN, S = wrapT 48 IN ∧ IN.size ≤ 747 := ⟨_, by rw [hSS]; rfl, certIn_size v name key l po⟩
  have hz2 : 2 ≤ S.size := by rw [hIN.1, wrap_len]; omega
  obtain ⟨Z, hZ⟩ : ∃ Z, Z = S.size := ⟨_, rfl⟩
  obtain ⟨k, hk⟩ : ∃ k, k = A % Z := ⟨_, rfl⟩
  have hkZ : k < Z := by rw [hk]; exact Nat.mod_lt _ (by omega)
  obtain ⟨CU, hCU⟩ : ∃ C, C = S.extract 0 k := ⟨_, rfl⟩
  have SC2 : ∀ wx : World, Calls Try.prog 17 #[.string CU] wx fun e w' => e = .returned (.tuple #[.string ⟨#[]⟩, .bool false, .int .i64 2]) ∧ Below wx.heap.size wx w' := fun wx => by
    have hcs : CU.size ≤ 752 := by rw [hCU, ByteArray.size_extract]; omega
    have := hS CU wx (by omega)
    rw [show stripD CU = (⟨#[]⟩, false, 2) from strip_none CU (by omega) (by rw [hCU, hIN.1]; exact next_cut 48 IN (by decide) (by decide) (by omega) k (by rw [← hIN.1]; omega))] at this
    exact this
  obtain ⟨M, hM⟩ : ∃ M, M = more.extract 0 (min more.size 100) := ⟨_, rfl⟩
  have hMs : M.size ≤ 100 := by rw [hM, ByteArray.size_extract]; omega
  have HM : Hid (more.extract 0 (if (100 : Int) < (more.size : Int) then 100 else (more.size : Int)).toNat = M) := Lib.hid (by
    rw [hM]
    congr 1
    split <;> omega)
  have SC3 : ∀ wx : World, Calls Try.prog 17 #[.string (S ++ M)] wx fun e w' => ∃ t b e3, e = .returned (.tuple #[.string t, .bool b, .int .i64 e3]) ∧ LastT more e3 ∧ Below wx.heap.size wx w' := fun wx => by
    have := hS (S ++ M) wx (by rw [size_app]; omega)
    refine this.mono ?_
    rintro x w' ⟨rfl, b⟩
    refine ⟨_, _, _, rfl, ?_, b⟩
    by_cases hm : more.size = 0
    · exact Or.inl hm
    · refine Or.inr ?_
      have hn := next_wrap 48 IN M (by decide) (by decide) (by omega)
      rw [← hIN.1] at hn
      rw [strip_behind (S ++ M) (by rw [size_app]; omega) _ hn (by show M.size ≠ 0; rw [hM, ByteArray.size_extract]; omega)]
      rfl
  rw [← hSS] at CB
  have HCU := Lib.hid hCU
  have hzz : ¬ ((S.size + M.size : Nat) : Int) > 9223372036854775807 := by omega
  have hmod : (A : Int).tmod (Z : Int) = (k : Int) := by rw [Int.tmod_eq_emod_of_nonneg (by omega), hk]; omega
  have hsz : (S.size : Int) = (Z : Int) := by rw [hZ]
  have HZ := Lib.hid (⟨by omega, hkZ, hA⟩ : 2 ≤ Z ∧ k < Z ∧ A ≤ 9223372036854775807)
  have HSS := Lib.hid hSS
  generalize wrapT 48 (wrapT 48 S3) = B2 at K7 SC1
  generalize wrapT 48 S3 = B1 at K6 K7
  generalize wrapT 163 (wrapT 48 (poisT ++ wrapT 48 (wrapT 6 (cutT name)) ++ poisT)) = A4 at K5 HS3
  generalize wrapT 48 (poisT ++ wrapT 48 (wrapT 6 (cutT name)) ++ poisT) = A3 at K4 K5
  have HS1a : Hid (poisT.size + (wrapT 48 (wrapT 6 (cutT name))).size ≤ 9223372036854775807 ∧ (poisT ++ wrapT 48 (wrapT 6 (cutT name))).size + poisT.size ≤ 9223372036854775807) := Lib.hid ⟨by omega, by rw [size_app]; omega⟩
  clear z2 z3 z4 z5 z6 z7 s2 s3 e3 y1 yP x1 hS3 h hal hN hW hS hSS hIN hCU hM hMs hZ hk hkZ hz hz2 hmore hA
  generalize wrapT 48 (wrapT 6 (cutT name)) = A2 at K3 K4 HS1a
  generalize wrapT 6 (cutT name) = A1 at K2 K3
  generalize wrapT 2 ⟨#[7]⟩ = X1 at K1 HS3
  generalize poisT = PO at KP K4 HS1a
  generalize cutT name = NM at KC K2
  obtain ⟨S1, h1⟩ : ∃ S1, S1 = PO ++ A2 := ⟨_, rfl⟩
  have HS1 : Hid (PO ++ A2 = S1 ∧ PO.size + A2.size ≤ 9223372036854775807) := Lib.hid ⟨h1.symm, HS1a.out.1⟩
  rw [← h1] at K4 HS1a
  obtain ⟨S2, h2⟩ : ∃ S2, S2 = S1 ++ PO := ⟨_, rfl⟩
  have HS2 : Hid (S1 ++ PO = S2 ∧ S1.size + PO.size ≤ 9223372036854775807) := Lib.hid ⟨h2.symm, HS1a.out.2⟩
  rw [← h2] at K4
  clear h1 h2 HS1a hq
  have HHA := Lib.hid ha
  clear ha
  go_enter Try.func5, Try.ntmps5
  go_wp2_with fail
  refine (CX _).mono ?_
  rintro e w1 ⟨rfl, b1⟩
  have HJ1 := Lib.hid (HJB.out _ _ HJ0.out b1)
  have HB1 := Lib.hid (HB0.out.trans (b1.mono HB0.out.size))
  clear b1 CX HJ0 HB0
  go_wp2_with fail
  rw [← HQ.out]
  have HJ1 := Lib.hid (HJB.out _ _ HJ1.out ((Below.refl _ _).drew))
  have HB1 := Lib.hid HB1.out.drew
  refine heldJ_start (JC q #[.string name, .string key, .bool v, .slice p n cap, .int .i64 po] p n cap l) (by kernel_rfl) ?_
  change wpAnyH _ _ _ _ _ _ _ _ w1.drew
  generalize w1.drew = wd at HJ1 HB1 ⊢
  refine heldJ_take (i := 2) (v := .pointer (some ⟨q, 0, none⟩)) rfl (by kernel_rfl) (by kernel_rfl) (by kernel_rfl) (fun _ _ _ h => h) rfl (fun wx hJ => ?_) HJ1.out ?_
  · go_simp; skip
  simp only [pu]
  refine heldJ_take (i := 3) (v := .string name) rfl (by kernel_rfl) (by kernel_rfl) (by kernel_rfl) (fun _ _ _ h => h) rfl (fun wx hJ => ?_) HJ1.out ?_
  · have cc := (HJF.out wx hJ).1; go_simp; skip
  simp only [pu]
  refine heldJ_call (i := 0) (f := 14) (by kernel_rfl) rfl rfl (by go_simp; skip) ((K1 _).mono ?_)
  rintro e wq1 ⟨rfl, bq⟩
  have HJq1 := Lib.hid (HJB.out _ _ HJ1.out bq)
  have HBq1 := Lib.hid (HB1.out.trans (bq.mono HB1.out.size))
  clear bq
  refine ⟨_, rfl, HJq1.out, ?_⟩
  simp only [pu]
  refine heldJ_call (i := 1) (f := 15) (by kernel_rfl) rfl rfl (by go_simp; skip) ((KP _).mono ?_)
  rintro e wq2 ⟨rfl, bq⟩
  have HJq2 := Lib.hid (HJB.out _ _ HJq1.out bq)
  have HBq2 := Lib.hid (HBq1.out.trans (bq.mono HBq1.out.size))
  clear bq
  refine ⟨_, rfl, HJq2.out, ?_⟩
  simp only [pu]
  refine heldJ_call (i := 4) (f := 16) (by kernel_rfl) rfl rfl (by go_simp; skip) ((KC _).mono ?_)
  rintro e _ ⟨rfl, rfl⟩
  refine ⟨_, rfl, HJq2.out, ?_⟩
  simp only [pu]
  refine heldJ_call (i := 5) (f := 14) (by kernel_rfl) rfl rfl (by go_simp; skip) ((K2 _).mono ?_)
  rintro e wq4 ⟨rfl, bq⟩
  have HJq4 := Lib.hid (HJB.out _ _ HJq2.out bq)
  have HBq4 := Lib.hid (HBq2.out.trans (bq.mono HBq2.out.size))
  clear bq
  refine ⟨_, rfl, HJq4.out, ?_⟩
  simp only [pu]
  refine heldJ_call (i := 6) (f := 14) (by kernel_rfl) rfl rfl (by go_simp; skip) ((K3 _).mono ?_)
  rintro e wq5 ⟨rfl, bq⟩
  have HJq5 := Lib.hid (HJB.out _ _ HJq4.out bq)
  have HBq5 := Lib.hid (HBq4.out.trans (bq.mono HBq4.out.size))
  clear bq
  refine ⟨_, rfl, HJq5.out, ?_⟩
  simp only [pu]
  refine heldJ_take (i := 7) (v := .string S1) rfl (by kernel_rfl) (by kernel_rfl) (by kernel_rfl) (fun _ _ _ h => h) rfl (fun wx hJ => ?_) HJq5.out ?_
  · have cc := HS1.out.2; have c2 := HS1.out.1; go_simp; skip
  simp only [pu]
  refine heldJ_call (i := 8) (f := 15) (by kernel_rfl) rfl rfl (by go_simp; skip) ((KP _).mono ?_)
  rintro e wq6 ⟨rfl, bq⟩
  have HJq6 := Lib.hid (HJB.out _ _ HJq5.out bq)
  have HBq6 := Lib.hid (HBq5.out.trans (bq.mono HBq5.out.size))
  clear bq
  refine ⟨_, rfl, HJq6.out, ?_⟩
  simp only [pu]
  refine heldJ_take (i := 9) (v := .string S2) rfl (by kernel_rfl) (by kernel_rfl) (by kernel_rfl) (fun _ _ _ h => h) rfl (fun wx hJ => ?_) HJq6.out ?_
  · have cc := HS2.out.2; have c2 := HS2.out.1; go_simp; skip
  simp only [pu]
  refine heldJ_call (i := 10) (f := 14) (by kernel_rfl) rfl rfl (by go_simp; skip) ((K4 _).mono ?_)
  rintro e wq7 ⟨rfl, bq⟩
  have HJq7 := Lib.hid (HJB.out _ _ HJq6.out bq)
  have HBq7 := Lib.hid (HBq6.out.trans (bq.mono HBq6.out.size))
  clear bq
  refine ⟨_, rfl, HJq7.out, ?_⟩
  simp only [pu]
  refine heldJ_call (i := 11) (f := 14) (by kernel_rfl) rfl rfl (by go_simp; skip) ((K5 _).mono ?_)
  rintro e wq8 ⟨rfl, bq⟩
  have HJq8 := Lib.hid (HJB.out _ _ HJq7.out bq)
  have HBq8 := Lib.hid (HBq7.out.trans (bq.mono HBq7.out.size))
  clear bq
  refine ⟨_, rfl, HJq8.out, ?_⟩
  simp only [pu]
  refine heldJ_take (i := 12) (v := .string S3) rfl (by kernel_rfl) (by kernel_rfl) (by kernel_rfl) (fun _ _ _ h => h) rfl (fun wx hJ => ?_) HJq8.out ?_
  · have cc := HS3.out.2; have c2 := HS3.out.1; go_simp; skip
  simp only [pu]
  refine heldJ_take (i := 13) (v := .string S3) rfl (by kernel_rfl) (by kernel_rfl) (by kernel_rfl) (fun _ _ _ h => h) rfl (fun wx hJ => ?_) HJq8.out ?_
  · go_simp; skip
  simp only [pu]
  refine wpAnyH_done (by kernel_rfl) ?_ _
  have HJ2 := HJq8
  have HB2 := HBq8
  clear K1 KP KC K2 K3 K4 K5
  go_wp2_with fail
  refine (K6 _).mono ?_
  rintro e w2 ⟨rfl, b2⟩
  have HJ3 := Lib.hid (HJB.out _ _ HJ2.out b2)
  have HB3 := Lib.hid (HB2.out.trans (b2.mono HB2.out.size))
  clear b2 K6
  go_wp2_with fail
  refine (K7 _).mono ?_
  rintro e w3 ⟨rfl, b3⟩
  have HJ4 := Lib.hid (HJB.out _ _ HJ3.out b3)
  have HB4 := Lib.hid (HB3.out.trans (b3.mono HB3.out.size))
  clear b3 K7
  go_wp2_with fail
  refine (SC1 _).mono ?_
  rintro e w4 ⟨rfl, b4⟩
  have HJ5 := Lib.hid (HJB.out _ _ HJ4.out b4)
  have HB5 := Lib.hid (HB4.out.trans (b4.mono HB4.out.size))
  clear b4 SC1
  obtain ⟨d0, d1, d2, d3, d4⟩ := HJF.out _ HJ5.out
  have CB5 := CB w4 HJ5.out.2
  clear CB
  go_wp2_with fail
  refine CB5.mono ?_
  rintro e w5 ⟨rfl, b5⟩
  have HB6 := Lib.hid (HB5.out.trans (b5.mono HB5.out.size))
  clear b5 CB5 d0 d1 d2 d3 d4
  rcases HHA.out with ha | ⟨ha0, ha1, ha2⟩
  · subst ha
    have hA0 : ¬ (A : Int) < 0 := by omega
    have hZ0 : ¬ (Z : Int) = 0 := by have := HZ.out.1; omega
    have hk0 : (k : Int) ≤ (Z : Int) := by have := HZ.out.2.1; omega
    have hcut : S.extract 0 k = CU := HCU.out.symm
    go_wp2_with fail
    refine (SC2 _).mono ?_
    rintro e w6 ⟨rfl, b6⟩
    have HB7 := Lib.hid (HB6.out.trans (b6.mono HB6.out.size))
    have hmm := HM.out
    clear b6 SC2 hZ0 hk0 hcut hmod hsz
    go_wp2_with fail
    all_goals
      refine (SC3 _).mono ?_
      rintro e w7 ⟨t, b, e3, rfl, HE, b7⟩
      have HB := Lib.hid (HB7.out.trans (b7.mono HB7.out.size))
      clear b7 SC3 hmm hzz
      by_cases hm : more.size = 0
      · obtain rfl := text_none14 hm
        clear hm HE
        go_wp2_with fail
        go_ret
        exact ⟨rfl, HB.out⟩
      · have h3 : e3 = 2 := by rcases HE with h | h; exact absurd h hm; exact h
        subst h3
        have hne : (more.toList == []) = false := by
          rw [beq_eq_false_iff_ne]
          intro e
          rw [ByteArray.toList_eq] at e
          have := congrArg List.length e
          rw [Array.length_toList] at this
          exact hm this
        clear hm HE
        go_wp2_with fail
        go_ret
        exact ⟨rfl, HB.out⟩
  · have hZ0 : ¬ (Z : Int) = 0 := by have := HZ.out.1; omega
    have hk0 : (k : Int) ≤ (Z : Int) := by have := HZ.out.2.1; omega
    have hcut : S.extract 0 k = CU := HCU.out.symm
    go_wp2_with fail
    refine (SC2 _).mono ?_
    rintro e w6 ⟨rfl, b6⟩
    have HB7 := Lib.hid (HB6.out.trans (b6.mono HB6.out.size))
    have hmm := HM.out
    clear b6 SC2 hZ0 hk0 hcut hmod hsz
    go_wp2_with fail
    all_goals
      refine (SC3 _).mono ?_
      rintro e w7 ⟨t, b, e3, rfl, HE, b7⟩
      have HB := Lib.hid (HB7.out.trans (b7.mono HB7.out.size))
      clear b7 SC3 hmm hzz
      by_cases hm : more.size = 0
      · obtain rfl := text_none14 hm
        clear hm HE
        go_wp2_with fail
        go_ret
        exact ⟨rfl, HB.out⟩
      · have h3 : e3 = 2 := by rcases HE with h | h; exact absurd h hm; exact h
        subst h3
        have hne : (more.toList == []) = false := by
          rw [beq_eq_false_iff_ne]
          intro e
          rw [ByteArray.toList_eq] at e
          have := congrArg List.length e
          rw [Array.length_toList] at this
          exact hm this
        clear hm HE
        go_wp2_with fail
        go_ret
        exact ⟨rfl, HB.out⟩
end Go.Proofs.Ytkbjgaobhbiieaa
