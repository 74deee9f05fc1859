/- The walk of the law's certificate of chapter 14. -/
import Derived.Test.YtkbjgaobhbiieaaMB
import Derived.Laws.MakeOwn
namespace Go.Proofs.Ytkbjgaobhbiieaa
open Go.RowKit
/-- What a certificate's walk knows: the struct in block q, its extensions' texts. -/
def JC (q : Nat) (cs : Array Value) (p : Option Addr) (n cap : Nat) (l : List ByteArray) (wx : World) : Prop := Blk wx q 47 cs ∧ RS 1 p n cap (l.map fun s => [Value.string s]) wx
theorem JC.below {q : Nat} {cs : Array Value} {p : Option Addr} {n cap : Nat} {l : List ByteArray} {w w' : World} (h : JC q cs p n cap l w) (hb : Below w.heap.size w w') : JC q cs p n cap l w' := ⟨h.1.below hb h.1.lt, h.2.below hb⟩
theorem sum_ok (A B : ByteArray) (n m : Nat) (hA : A.size ≤ n) (hB : B.size ≤ m) (h : n + m ≤ 100000) : A ++ B = A ++ B ∧ A.size + B.size ≤ 9223372036854775807 := ⟨rfl, by omega⟩
set_option maxRecDepth 100000 in
set_option maxHeartbeats 16000000 in
theorem certBytes_any (v : Bool) (name key : ByteArray) (po : Int) (p : Option Addr) (n cap : Nat) (l : List ByteArray) (w : World) (h : RS 1 p n cap (l.map fun s => [Value.string s]) w) :
    Calls Try.prog 18 #[.agg #[.string name, .string key, .bool v, .slice p n cap, .int .i64 po]] w fun e w' => e = .returned (.string (certT v name key l po)) ∧ Below w.heap.size w w' := by
  have hal := (Below.refl _ w).alloc (Nat.le_refl _) (.cells #[.string name, .string key, .bool v, .slice p n cap, .int .i64 po] 47)
  obtain ⟨q, hq⟩ : ∃ q, q = w.heap.size := ⟨_, rfl⟩
  have HQ := Lib.hid hq
  have HJ0 : Hid (JC q #[.string name, .string key, .bool v, .slice p n cap, .int .i64 po] p n cap l (w.alloc (.cells #[.string name, .string key, .bool v, .slice p n cap, .int .i64 po] 47))) := Lib.hid (by rw [hq]; exact ⟨Blk.new _ _ _, h.below hal⟩)
  have HB0 := Lib.hid hal
  have hc2 : (w.alloc (.cells #[.string name, .string key, .bool v, .slice p n cap, .int .i64 po] 47)).cell? ⟨q, 2, none⟩ = some (.bool v) := HJ0.out.1.cell 2
  have HL : Hid (l.length = n ∧ n ≤ cap ∧ cap ≤ 9223372036854775807) := Lib.hid ⟨by have := h.len; rwa [List.length_map] at this, h.le, h.mx⟩
  have HH : Hid (headT v name key = verT v ++ wrapT 2 ⟨#[7]⟩ ++ wrapT 48 ⟨#[5, 0]⟩ ++ wrapT 48 ⟨#[]⟩ ++ wrapT 48 ⟨#[]⟩ ++ wrapT 48 (wrapT 4 (cutT name)) ++ wrapT 48 (wrapT 3 (cutT key))) := Lib.hid rfl
  have K0 := fun wx => item_any 160 ⟨#[2, 1, 2]⟩ wx (by decide) (by decide)
  have K1 := fun wx => item_any 2 ⟨#[7]⟩ wx (by decide) (by decide)
  have K2 := fun wx => item_any 48 ⟨#[5, 0]⟩ wx (by decide) (by decide)
  have K3 := fun wx => item_any 48 ⟨#[]⟩ wx (by decide) (by decide)
  have z4 := wrapT_size 4 (cutT name)
  have z5 := wrapT_size 48 (wrapT 4 (cutT name))
  have z6 := wrapT_size 3 (cutT key)
  have z7 := wrapT_size 48 (wrapT 3 (cutT key))
  have y1 := cutT_size name
  have y2 := cutT_size key
  have K4 := fun wx => item_any 4 (cutT name) wx (by decide) (by omega)
  have K5 := fun wx => item_any 48 (wrapT 4 (cutT name)) wx (by decide) (by omega)
  have K6 := fun wx => item_any 3 (cutT key) wx (by decide) (by omega)
  have K7 := fun wx => item_any 48 (wrapT 3 (cutT key)) wx (by decide) (by omega)
  have x1 : (wrapT 2 ⟨#[7]⟩).size ≤ 6 := wrapT_size 2 ⟨#[7]⟩
  have x2 : (wrapT 48 ⟨#[5, 0]⟩).size ≤ 7 := wrapT_size 48 ⟨#[5, 0]⟩
  have x3 : (wrapT 48 ⟨#[]⟩).size ≤ 5 := wrapT_size 48 ⟨#[]⟩
  have x5 : (wrapT 48 (wrapT 4 (cutT name))).size ≤ 70 := by omega
  have x7 : (wrapT 48 (wrapT 3 (cutT key))).size ≤ 70 := by omega
  have x0 : (verT v).size ≤ 8 := by
    unfold verT
    split
    · exact wrapT_size 160 ⟨#[2, 1, 2]⟩
    · exact Nat.zero_le _
  have HV : Hid (verT true = wrapT 160 ⟨#[2, 1, 2]⟩ ∧ verT false = ⟨#[]⟩) := Lib.hid ⟨rfl, rfl⟩
  clear z4 z5 z6 z7 y1 y2 h hal hq
  generalize wrapT 160 ⟨#[2, 1, 2]⟩ = X0 at K0 HV
  generalize wrapT 2 ⟨#[7]⟩ = X1 at K1 HH x1
  generalize hX2 : wrapT 48 ⟨#[5, 0]⟩ = X2 at K2 HH x2
  have HX2 : Hid (X2 = wrapT 48 ⟨#[5, 0]⟩) := Lib.hid hX2.symm
  clear hX2
  generalize wrapT 48 ⟨#[]⟩ = X3 at K3 HH x3
  generalize wrapT 48 (wrapT 4 (cutT name)) = X5 at K5 HH x5
  generalize wrapT 48 (wrapT 3 (cutT key)) = X7 at K7 HH x7
  generalize hX4 : wrapT 4 (cutT name) = X4 at K4 K5
  generalize hX6 : wrapT 3 (cutT key) = X6 at K6 K7
  clear hX4 hX6
  obtain ⟨B0, hB0⟩ : ∃ B0, B0 = verT v := ⟨_, rfl⟩
  have HB0E := Lib.hid hB0
  rw [← hB0] at HH x0
  obtain ⟨S1, e1⟩ : ∃ S, S = B0 ++ X1 := ⟨_, rfl⟩
  have s1 : S1.size ≤ 14 := by rw [e1, size_app]; omega
  have HS1 : Hid (B0 ++ X1 = S1 ∧ B0.size + X1.size ≤ 9223372036854775807) := Lib.hid ⟨e1.symm, by omega⟩
  obtain ⟨S2, e2⟩ : ∃ S, S = S1 ++ X2 := ⟨_, rfl⟩
  have s2 : S2.size ≤ 21 := by rw [e2, size_app]; omega
  have HS2 : Hid (S1 ++ X2 = S2 ∧ S1.size + X2.size ≤ 9223372036854775807) := Lib.hid ⟨e2.symm, by omega⟩
  obtain ⟨S3, e3⟩ : ∃ S, S = S2 ++ X3 := ⟨_, rfl⟩
  have s3 : S3.size ≤ 26 := by rw [e3, size_app]; omega
  have HS3 : Hid (S2 ++ X3 = S3 ∧ S2.size + X3.size ≤ 9223372036854775807) := Lib.hid ⟨e3.symm, by omega⟩
  obtain ⟨S4, e4⟩ : ∃ S, S = S3 ++ X3 := ⟨_, rfl⟩
  have s4 : S4.size ≤ 31 := by rw [e4, size_app]; omega
  have HS4 : Hid (S3 ++ X3 = S4 ∧ S3.size + X3.size ≤ 9223372036854775807) := Lib.hid ⟨e4.symm, by omega⟩
  obtain ⟨S5, e5⟩ : ∃ S, S = S4 ++ X5 := ⟨_, rfl⟩
  have s5 : S5.size ≤ 101 := by rw [e5, size_app]; omega
  have HS5 : Hid (S4 ++ X5 = S5 ∧ S4.size + X5.size ≤ 9223372036854775807) := Lib.hid ⟨e5.symm, by omega⟩
  obtain ⟨S6, e6⟩ : ∃ S, S = S5 ++ X7 := ⟨_, rfl⟩
  have HS6 : Hid (S5 ++ X7 = S6 ∧ S5.size + X7.size ≤ 9223372036854775807) := Lib.hid ⟨e6.symm, by omega⟩
  have HHE : Hid (headT v name key = S6) := Lib.hid (by rw [HH.out, e6, e5, e4, e3, e2, e1])
  have HS6Z : Hid (S6.size ≤ 200) := Lib.hid (by rw [← HHE.out]; exact headT_size _ _ _)
  clear HH e1 e2 e3 e4 e5 e6 s1 s2 s3 s4 s5 x0 x1 x2 x3 x5 x7 hB0
  have HJF : Hid (∀ wx, JC q #[.string name, .string key, .bool v, .slice p n cap, .int .i64 po] p n cap l wx → wx.cell? ⟨q, 0, none⟩ = some (.string name) ∧ wx.cell? ⟨q, 1, none⟩ = some (.string key) ∧ wx.cell? ⟨q, 2, none⟩ = some (.bool v) ∧ wx.cell? ⟨q, 3, none⟩ = some (.slice p n cap) ∧ wx.cell? ⟨q, 4, none⟩ = some (.int .i64 po)) := Lib.hid fun wx h => ⟨h.1.cell 0, h.1.cell 1, h.1.cell 2, h.1.cell 3, h.1.cell 4⟩
  have HJB : Hid (∀ wa wb, JC q #[.string name, .string key, .bool v, .slice p n cap, .int .i64 po] p n cap l wa → Below wa.heap.size wa wb → JC q #[.string name, .string key, .bool v, .slice p n cap, .int .i64 po] p n cap l wb) := Lib.hid fun wa wb h hb => h.below hb
  cases v with
  | false =>
    obtain rfl : B0 = ⟨#[]⟩ := HB0E.out.trans HV.out.2
    clear HB0E HV
    go_enter Try.func18, Try.ntmps18
    go_wp2_with fail
    rw [← HQ.out]
    have HJ0 := Lib.hid (HJB.out _ _ HJ0.out ((Below.refl _ _).drew))
    have HB0 := Lib.hid HB0.out.drew
    refine heldJ_start (JC q #[.string name, .string key, .bool false, .slice p n cap, .int .i64 po] p n cap l) (by kernel_rfl) ?_
    change wpAnyH _ _ _ _ _ _ _ _ (w.alloc (.cells #[.string name, .string key, .bool false, .slice p n cap, .int .i64 po] 47)).drew
    generalize (w.alloc (.cells #[.string name, .string key, .bool false, .slice p n cap, .int .i64 po] 47)).drew = wd at HJ0 HB0 ⊢
    refine heldJ_take (i := 0) (v := .string ⟨#[]⟩) rfl (by kernel_rfl) (by kernel_rfl) (by kernel_rfl) (fun _ _ _ h => h) rfl (fun wx hJ => ?_) HJ0.out ?_
    · go_simp; skip
    simp only [pu]
    refine heldJ_take (i := 9) (v := .pointer (some ⟨q, 0, none⟩)) rfl (by kernel_rfl) (by kernel_rfl) (by kernel_rfl) (fun _ _ _ h => h) rfl (fun wx hJ => ?_) HJ0.out ?_
    · go_simp; skip
    simp only [pu]
    refine heldJ_take (i := 10) (v := .string name) rfl (by kernel_rfl) (by kernel_rfl) (by kernel_rfl) (fun _ _ _ h => h) rfl (fun wx hJ => ?_) HJ0.out ?_
    · have cc := (HJF.out wx hJ).1; go_simp; skip
    simp only [pu]
    refine heldJ_take (i := 15) (v := .pointer (some ⟨q, 1, none⟩)) rfl (by kernel_rfl) (by kernel_rfl) (by kernel_rfl) (fun _ _ _ h => h) rfl (fun wx hJ => ?_) HJ0.out ?_
    · go_simp; skip
    simp only [pu]
    refine heldJ_take (i := 16) (v := .string key) rfl (by kernel_rfl) (by kernel_rfl) (by kernel_rfl) (fun _ _ _ h => h) rfl (fun wx hJ => ?_) HJ0.out ?_
    · have cc := (HJF.out wx hJ).2.1; go_simp; skip
    simp only [pu]
    refine heldJ_call (i := 1) (f := 14) (by kernel_rfl) rfl rfl (by go_simp; skip) ((K1 _).mono ?_)
    rintro e wq1 ⟨rfl, bq⟩
    have HJq1 := Lib.hid (HJB.out _ _ HJ0.out bq)
    have HBq1 := Lib.hid (HB0.out.trans (bq.mono HB0.out.size))
    clear bq
    refine ⟨_, rfl, HJq1.out, ?_⟩
    simp only [pu]
    refine heldJ_take (i := 2) (v := .string S1) rfl (by kernel_rfl) (by kernel_rfl) (by kernel_rfl) (fun _ _ _ h => h) rfl (fun wx hJ => ?_) HJq1.out ?_
    · have cc := HS1.out.2; have c2 := HS1.out.1; go_simp; exact Nat.le_trans (Nat.le_add_left _ _) cc
    simp only [pu]
    refine heldJ_call (i := 3) (f := 14) (by kernel_rfl) rfl rfl (by go_simp; skip) ((K2 _).mono ?_)
    rintro e wq2 ⟨rfl, bq⟩
    have HJq2 := Lib.hid (HJB.out _ _ HJq1.out bq)
    have HBq2 := Lib.hid (HBq1.out.trans (bq.mono HBq1.out.size))
    clear bq
    refine ⟨_, rfl, HJq2.out, ?_⟩
    simp only [pu]
    refine heldJ_take (i := 4) (v := .string S2) rfl (by kernel_rfl) (by kernel_rfl) (by kernel_rfl) (fun _ _ _ h => h) rfl (fun wx hJ => ?_) HJq2.out ?_
    · have cc := HS2.out.2; have c2 := HS2.out.1; go_simp; skip
    simp only [pu]
    refine heldJ_call (i := 5) (f := 14) (by kernel_rfl) rfl rfl (by go_simp; skip) ((K3 _).mono ?_)
    rintro e wq3 ⟨rfl, bq⟩
    have HJq3 := Lib.hid (HJB.out _ _ HJq2.out bq)
    have HBq3 := Lib.hid (HBq2.out.trans (bq.mono HBq2.out.size))
    clear bq
    refine ⟨_, rfl, HJq3.out, ?_⟩
    simp only [pu]
    refine heldJ_take (i := 6) (v := .string S3) rfl (by kernel_rfl) (by kernel_rfl) (by kernel_rfl) (fun _ _ _ h => h) rfl (fun wx hJ => ?_) HJq3.out ?_
    · have cc := HS3.out.2; have c2 := HS3.out.1; go_simp; skip
    simp only [pu]
    refine heldJ_call (i := 7) (f := 14) (by kernel_rfl) rfl rfl (by go_simp; skip) ((K3 _).mono ?_)
    rintro e wq4 ⟨rfl, bq⟩
    have HJq4 := Lib.hid (HJB.out _ _ HJq3.out bq)
    have HBq4 := Lib.hid (HBq3.out.trans (bq.mono HBq3.out.size))
    clear bq
    refine ⟨_, rfl, HJq4.out, ?_⟩
    simp only [pu]
    refine heldJ_take (i := 8) (v := .string S4) rfl (by kernel_rfl) (by kernel_rfl) (by kernel_rfl) (fun _ _ _ h => h) rfl (fun wx hJ => ?_) HJq4.out ?_
    · have cc := HS4.out.2; have c2 := HS4.out.1; go_simp; skip
    simp only [pu]
    refine heldJ_call (i := 11) (f := 16) (by kernel_rfl) rfl rfl (by go_simp; skip) ((cut_any name _).mono ?_)
    rintro e _ ⟨rfl, rfl⟩
    refine ⟨_, rfl, HJq4.out, ?_⟩
    simp only [pu]
    refine heldJ_call (i := 12) (f := 14) (by kernel_rfl) rfl rfl (by go_simp; skip) ((K4 _).mono ?_)
    rintro e wq6 ⟨rfl, bq⟩
    have HJq6 := Lib.hid (HJB.out _ _ HJq4.out bq)
    have HBq6 := Lib.hid (HBq4.out.trans (bq.mono HBq4.out.size))
    clear bq
    refine ⟨_, rfl, HJq6.out, ?_⟩
    simp only [pu]
    refine heldJ_call (i := 13) (f := 14) (by kernel_rfl) rfl rfl (by go_simp; skip) ((K5 _).mono ?_)
    rintro e wq7 ⟨rfl, bq⟩
    have HJq7 := Lib.hid (HJB.out _ _ HJq6.out bq)
    have HBq7 := Lib.hid (HBq6.out.trans (bq.mono HBq6.out.size))
    clear bq
    refine ⟨_, rfl, HJq7.out, ?_⟩
    simp only [pu]
    refine heldJ_take (i := 14) (v := .string S5) rfl (by kernel_rfl) (by kernel_rfl) (by kernel_rfl) (fun _ _ _ h => h) rfl (fun wx hJ => ?_) HJq7.out ?_
    · have cc := HS5.out.2; have c2 := HS5.out.1; go_simp; skip
    simp only [pu]
    refine heldJ_call (i := 17) (f := 16) (by kernel_rfl) rfl rfl (by go_simp; skip) ((cut_any key _).mono ?_)
    rintro e _ ⟨rfl, rfl⟩
    refine ⟨_, rfl, HJq7.out, ?_⟩
    simp only [pu]
    refine heldJ_call (i := 18) (f := 14) (by kernel_rfl) rfl rfl (by go_simp; skip) ((K6 _).mono ?_)
    rintro e wq9 ⟨rfl, bq⟩
    have HJq9 := Lib.hid (HJB.out _ _ HJq7.out bq)
    have HBq9 := Lib.hid (HBq7.out.trans (bq.mono HBq7.out.size))
    clear bq
    refine ⟨_, rfl, HJq9.out, ?_⟩
    simp only [pu]
    refine heldJ_call (i := 19) (f := 14) (by kernel_rfl) rfl rfl (by go_simp; skip) ((K7 _).mono ?_)
    rintro e wq10 ⟨rfl, bq⟩
    have HJq10 := Lib.hid (HJB.out _ _ HJq9.out bq)
    have HBq10 := Lib.hid (HBq9.out.trans (bq.mono HBq9.out.size))
    clear bq
    refine ⟨_, rfl, HJq10.out, ?_⟩
    simp only [pu]
    refine heldJ_take (i := 20) (v := .string S6) rfl (by kernel_rfl) (by kernel_rfl) (by kernel_rfl) (fun _ _ _ h => h) rfl (fun wx hJ => ?_) HJq10.out ?_
    · have cc := HS6.out.2; have c2 := HS6.out.1; go_simp; skip
    simp only [pu]
    refine heldJ_take (i := 21) (v := .string S6) rfl (by kernel_rfl) (by kernel_rfl) (by kernel_rfl) (fun _ _ _ h => h) rfl (fun wx hJ => ?_) HJq10.out ?_
    · go_simp; skip
    simp only [pu]
    refine wpAnyH_done (by kernel_rfl) ?_ _
    clear K1 K3 K4 K5 K6 K7
    have HI : Hid (JC q #[.string name, .string key, .bool false, .slice p n cap, .int .i64 po] p n cap l wq10 ∧ Below w.heap.size w wq10) := Lib.hid ⟨HJq10.out, HBq10.out⟩
    have hn := HL.out.2.2
    have hle := HL.out.2.1
    go_wp2_with fail
    go_loopw [4, 5] (fun x u wr => ∃ k : Nat, x = .string (extT l po k) ∧ u = .int .i64 (k : Int) ∧ k ≤ n ∧ k ≤ 5 ∧ Hid (JC q #[.string name, .string key, .bool false, .slice p n cap, .int .i64 po] p n cap l wr ∧ Below w.heap.size w wr)) (fun _ u _ => 5 - (intOf u).toNat)
    case atStart => exact ⟨0, rfl, rfl, Nat.zero_le _, by decide, HI⟩
    case round =>
      obtain ⟨k, rfl, rfl, hkn, hk5, HJ⟩ := hrel
      clear HI
      have c3 := (HJF.out _ HJ.out.1).2.2.2.1
      have c4 := (HJF.out _ HJ.out.1).2.2.2.2
      by_cases hlt : k < n
      · have hlti : (k : Int) < (n : Int) := by omega
        by_cases hl5 : k < 5
        · have hl5i : (k : Int) < 5 := by omega
          obtain ⟨a, rfl⟩ := HJ.out.1.2.some_ (by omega)
          obtain ⟨x, hx⟩ : ∃ x, x = l.getD k ⟨#[]⟩ := ⟨_, rfl⟩
          have hkl : k < l.length := by have := HL.out.1; omega
          have HJX : Hid (∀ wx, JC q #[.string name, .string key, .bool false, .slice (some a) n cap, .int .i64 po] (some a) n cap l wx → wx.cell? (a.add k) = some (.string x)) := Lib.hid fun wx h => by
            have := h.2.cell a rfl k (by rw [List.length_map]; exact hkl) 0 (.string x) (by rw [List.getElem_map, hx, List.getD_eq_getElem?_getD, List.getElem?_eq_getElem hkl]; rfl)
            rwa [Nat.mul_one, Nat.add_zero] at this
          have y9 := wrapT_size 4 (cutT x)
          have y8 : (wrapT 6 ⟨#[85, 29, 15]⟩).size ≤ 8 := wrapT_size 6 ⟨#[85, 29, 15]⟩
          have y0 := cutT_size x
          have yE := extT_size l po k
          have yP := poisT_size
          have y10 := wrapT_size 48 (wrapT 6 ⟨#[85, 29, 15]⟩ ++ wrapT 4 (cutT x))
          rw [size_app] at y10
          have K8 := fun wx => item_any 6 ⟨#[85, 29, 15]⟩ wx (by decide) (by decide)
          have K9 := fun wx => item_any 4 (cutT x) wx (by decide) (by omega)
          have K10 := fun wx => item_any 48 (wrapT 6 ⟨#[85, 29, 15]⟩ ++ wrapT 4 (cutT x)) wx (by decide) (by rw [size_app]; omega)
          have HNX : Hid (extT l po (k + 1) = (if (k : Int) = po then extT l po k ++ poisT else extT l po k) ++ wrapT 48 (wrapT 6 ⟨#[85, 29, 15]⟩ ++ wrapT 4 (cutT x))) := Lib.hid (by rw [hx]; rfl)
          have HS7a : Hid ((wrapT 6 ⟨#[85, 29, 15]⟩).size + (wrapT 4 (cutT x)).size ≤ 9223372036854775807) := Lib.hid (by omega)
          have HKK := Lib.hid (⟨hlt, hl5⟩ : k < n ∧ k < 5)
          have hkw : IntKind.i64.wrap ((k : Int) + 1) = ((k + 1 : Nat) : Int) := by rw [IntWalk.i64_in _ (by omega)]; rfl
          clear hx
          generalize wrapT 6 ⟨#[85, 29, 15]⟩ = Y8 at *
          generalize wrapT 4 (cutT x) = Y9 at *
          obtain ⟨Z1, hZ1⟩ : ∃ Z1, Z1 = Y8 ++ Y9 := ⟨_, rfl⟩
          rw [← hZ1] at K10 HNX
          have HS7 : Hid (Y8 ++ Y9 = Z1 ∧ Y8.size + Y9.size ≤ 9223372036854775807) := Lib.hid ⟨hZ1.symm, HS7a.out⟩
          rw [← hZ1] at y10
          clear hZ1
          generalize wrapT 48 Z1 = Y10 at *
          by_cases hp : (k : Int) = po
          · rw [if_pos hp] at HNX
            obtain ⟨E1, hE1⟩ : ∃ E1, E1 = extT l po k ++ poisT := ⟨_, rfl⟩
            rw [← hE1] at HNX
            have HS8 : Hid (E1 ++ Y10 = extT l po (k + 1) ∧ E1.size + Y10.size ≤ 9223372036854775807) := Lib.hid ⟨HNX.out.symm, by rw [hE1, size_app]; omega⟩
            have hzz : ¬ (((extT l po k).size + poisT.size : Nat) : Int) > 9223372036854775807 := by omega
            have HE1 := Lib.hid hE1
            obtain ⟨Z2, hZ2⟩ : ∃ Z2, Z2 = extT l po (k + 1) := ⟨_, rfl⟩
            rw [← hZ2] at HS8
            have HZ2 := Lib.hid hZ2
            generalize extT l po k = E0 at *
            have hpb : ((k : Int) == po) = true := by simpa using hp
            have PC := poison_any wr
            generalize poisT = PO at *
            clear HNX hE1 hZ2 hp y0 y8 y9 y10 yE yP hlt hl5 hkn hk5 hkl
            go_wp2_with fail
            refine PC.mono ?_
            rintro e w0 ⟨rfl, b0⟩
            have HJ0 := Lib.hid (HJB.out _ _ HJ.out.1 b0)
            have HB0 := Lib.hid (HJ.out.2.trans (b0.mono HJ.out.2.size))
            clear b0 PC
            go_wp2_with fail
            rw [← HE1.out]
            have HJ0 := Lib.hid (HJB.out _ _ HJ0.out ((Below.refl _ _).drew))
            have HB0 := Lib.hid HB0.out.drew
            refine heldJ_start (JC q #[.string name, .string key, .bool false, .slice (some a) n cap, .int .i64 po] (some a) n cap l) (by kernel_rfl) ?_
            change wpAnyH _ _ _ _ _ _ _ _ w0.drew
            generalize w0.drew = wd at HJ0 HB0 ⊢
            refine heldJ_take (i := 0) (v := .string E1) rfl (by kernel_rfl) (by kernel_rfl) (by kernel_rfl) (fun _ _ _ h => h) rfl (fun wx hJ => ?_) HJ0.out ?_
            · go_simp; skip
            simp only [pu]
            refine heldJ_take (i := 2) (v := .pointer (some ⟨q, 3, none⟩)) rfl (by kernel_rfl) (by kernel_rfl) (by kernel_rfl) (fun _ _ _ h => h) rfl (fun wx hJ => ?_) HJ0.out ?_
            · go_simp; skip
            simp only [pu]
            refine heldJ_take (i := 3) (v := .slice (some a) n cap) rfl (by kernel_rfl) (by kernel_rfl) (by kernel_rfl) (fun _ _ _ h => h) rfl (fun wx hJ => ?_) HJ0.out ?_
            · have cc := (HJF.out wx hJ).2.2.2.1; go_simp; skip
            simp only [pu]
            refine heldJ_take (i := 4) (v := .int .i64 (k : Int)) rfl (by kernel_rfl) (by kernel_rfl) (by kernel_rfl) (fun _ _ _ h => h) rfl (fun wx hJ => ?_) HJ0.out ?_
            · go_simp; skip
            simp only [pu]
            refine heldJ_take (i := 5) (v := .pointer (some (a.add k))) rfl (by kernel_rfl) (by kernel_rfl) (by kernel_rfl) (fun _ _ _ h => h) rfl (fun wx hJ => ?_) HJ0.out ?_
            · go_simp; skip
            simp only [pu]
            refine heldJ_take (i := 6) (v := .string x) rfl (by kernel_rfl) (by kernel_rfl) (by kernel_rfl) (fun _ _ _ h => h) rfl (fun wx hJ => ?_) HJ0.out ?_
            · have cc := HJX.out wx hJ; go_simp; skip
            simp only [pu]
            refine heldJ_call (i := 1) (f := 14) (by kernel_rfl) rfl rfl (by go_simp; skip) ((K8 _).mono ?_)
            rintro e wq1 ⟨rfl, bq⟩
            have HJq1 := Lib.hid (HJB.out _ _ HJ0.out bq)
            have HBq1 := Lib.hid (HB0.out.trans (bq.mono HB0.out.size))
            clear bq
            refine ⟨_, rfl, HJq1.out, ?_⟩
            simp only [pu]
            refine heldJ_call (i := 7) (f := 16) (by kernel_rfl) rfl rfl (by go_simp; skip) ((cut_any x _).mono ?_)
            rintro e _ ⟨rfl, rfl⟩
            refine ⟨_, rfl, HJq1.out, ?_⟩
            simp only [pu]
            refine heldJ_call (i := 8) (f := 14) (by kernel_rfl) rfl rfl (by go_simp; skip) ((K9 _).mono ?_)
            rintro e wq3 ⟨rfl, bq⟩
            have HJq3 := Lib.hid (HJB.out _ _ HJq1.out bq)
            have HBq3 := Lib.hid (HBq1.out.trans (bq.mono HBq1.out.size))
            clear bq
            refine ⟨_, rfl, HJq3.out, ?_⟩
            simp only [pu]
            refine heldJ_take (i := 9) (v := .string Z1) rfl (by kernel_rfl) (by kernel_rfl) (by kernel_rfl) (fun _ _ _ h => h) rfl (fun wx hJ => ?_) HJq3.out ?_
            · have cc := HS7.out.2; have c2 := HS7.out.1; go_simp; skip
            simp only [pu]
            refine heldJ_call (i := 10) (f := 14) (by kernel_rfl) rfl rfl (by go_simp; skip) ((K10 _).mono ?_)
            rintro e wq4 ⟨rfl, bq⟩
            have HJq4 := Lib.hid (HJB.out _ _ HJq3.out bq)
            have HBq4 := Lib.hid (HBq3.out.trans (bq.mono HBq3.out.size))
            clear bq
            refine ⟨_, rfl, HJq4.out, ?_⟩
            simp only [pu]
            refine heldJ_take (i := 11) (v := .string Z2) rfl (by kernel_rfl) (by kernel_rfl) (by kernel_rfl) (fun _ _ _ h => h) rfl (fun wx hJ => ?_) HJq4.out ?_
            · have cc := HS8.out.2; have c2 := HS8.out.1; go_simp; skip
            simp only [pu]
            refine heldJ_take (i := 12) (v := .string Z2) rfl (by kernel_rfl) (by kernel_rfl) (by kernel_rfl) (fun _ _ _ h => h) rfl (fun wx hJ => ?_) HJq4.out ?_
            · go_simp; skip
            simp only [pu]
            refine wpAnyH_done (by kernel_rfl) ?_ _
            go_wp2_with fail
            exact ⟨⟨k + 1, by rw [HZ2.out], by go_num, by have := HKK.out; omega, by have := HKK.out; omega, Lib.hid ⟨HJq4.out, HBq4.out⟩⟩, by simp only [intOf]; have := HKK.out; omega⟩
          · rw [if_neg hp] at HNX
            have hpb : ((k : Int) == po) = false := by simpa using hp
            have HS8 : Hid (extT l po k ++ Y10 = extT l po (k + 1) ∧ (extT l po k).size + Y10.size ≤ 9223372036854775807) := Lib.hid ⟨HNX.out.symm, by omega⟩
            obtain ⟨Z2, hZ2⟩ : ∃ Z2, Z2 = extT l po (k + 1) := ⟨_, rfl⟩
            rw [← hZ2] at HS8
            have HZ2 := Lib.hid hZ2
            generalize extT l po k = E1 at *
            have HJ0 := Lib.hid HJ.out.1
            have HB0 := Lib.hid HJ.out.2
            clear HNX hZ2 hp y0 y8 y9 y10 yE yP hlt hl5 hkn hk5 hkl
            go_wp2_with fail
            have HJ0 := Lib.hid (HJB.out _ _ HJ0.out ((Below.refl _ _).drew))
            have HB0 := Lib.hid HB0.out.drew
            refine heldJ_start (JC q #[.string name, .string key, .bool false, .slice (some a) n cap, .int .i64 po] (some a) n cap l) (by kernel_rfl) ?_
            change wpAnyH _ _ _ _ _ _ _ _ wr.drew
            generalize wr.drew = wd at HJ0 HB0 ⊢
            refine heldJ_take (i := 0) (v := .string E1) rfl (by kernel_rfl) (by kernel_rfl) (by kernel_rfl) (fun _ _ _ h => h) rfl (fun wx hJ => ?_) HJ0.out ?_
            · go_simp; skip
            simp only [pu]
            refine heldJ_take (i := 2) (v := .pointer (some ⟨q, 3, none⟩)) rfl (by kernel_rfl) (by kernel_rfl) (by kernel_rfl) (fun _ _ _ h => h) rfl (fun wx hJ => ?_) HJ0.out ?_
            · go_simp; skip
            simp only [pu]
            refine heldJ_take (i := 3) (v := .slice (some a) n cap) rfl (by kernel_rfl) (by kernel_rfl) (by kernel_rfl) (fun _ _ _ h => h) rfl (fun wx hJ => ?_) HJ0.out ?_
            · have cc := (HJF.out wx hJ).2.2.2.1; go_simp; skip
            simp only [pu]
            refine heldJ_take (i := 4) (v := .int .i64 (k : Int)) rfl (by kernel_rfl) (by kernel_rfl) (by kernel_rfl) (fun _ _ _ h => h) rfl (fun wx hJ => ?_) HJ0.out ?_
            · go_simp; skip
            simp only [pu]
            refine heldJ_take (i := 5) (v := .pointer (some (a.add k))) rfl (by kernel_rfl) (by kernel_rfl) (by kernel_rfl) (fun _ _ _ h => h) rfl (fun wx hJ => ?_) HJ0.out ?_
            · go_simp; skip
            simp only [pu]
            refine heldJ_take (i := 6) (v := .string x) rfl (by kernel_rfl) (by kernel_rfl) (by kernel_rfl) (fun _ _ _ h => h) rfl (fun wx hJ => ?_) HJ0.out ?_
            · have cc := HJX.out wx hJ; go_simp; skip
            simp only [pu]
            refine heldJ_call (i := 1) (f := 14) (by kernel_rfl) rfl rfl (by go_simp; skip) ((K8 _).mono ?_)
            rintro e wq1 ⟨rfl, bq⟩
            have HJq1 := Lib.hid (HJB.out _ _ HJ0.out bq)
            have HBq1 := Lib.hid (HB0.out.trans (bq.mono HB0.out.size))
            clear bq
            refine ⟨_, rfl, HJq1.out, ?_⟩
            simp only [pu]
            refine heldJ_call (i := 7) (f := 16) (by kernel_rfl) rfl rfl (by go_simp; skip) ((cut_any x _).mono ?_)
            rintro e _ ⟨rfl, rfl⟩
            refine ⟨_, rfl, HJq1.out, ?_⟩
            simp only [pu]
            refine heldJ_call (i := 8) (f := 14) (by kernel_rfl) rfl rfl (by go_simp; skip) ((K9 _).mono ?_)
            rintro e wq3 ⟨rfl, bq⟩
            have HJq3 := Lib.hid (HJB.out _ _ HJq1.out bq)
            have HBq3 := Lib.hid (HBq1.out.trans (bq.mono HBq1.out.size))
            clear bq
            refine ⟨_, rfl, HJq3.out, ?_⟩
            simp only [pu]
            refine heldJ_take (i := 9) (v := .string Z1) rfl (by kernel_rfl) (by kernel_rfl) (by kernel_rfl) (fun _ _ _ h => h) rfl (fun wx hJ => ?_) HJq3.out ?_
            · have cc := HS7.out.2; have c2 := HS7.out.1; go_simp; skip
            simp only [pu]
            refine heldJ_call (i := 10) (f := 14) (by kernel_rfl) rfl rfl (by go_simp; skip) ((K10 _).mono ?_)
            rintro e wq4 ⟨rfl, bq⟩
            have HJq4 := Lib.hid (HJB.out _ _ HJq3.out bq)
            have HBq4 := Lib.hid (HBq3.out.trans (bq.mono HBq3.out.size))
            clear bq
            refine ⟨_, rfl, HJq4.out, ?_⟩
            simp only [pu]
            refine heldJ_take (i := 11) (v := .string Z2) rfl (by kernel_rfl) (by kernel_rfl) (by kernel_rfl) (fun _ _ _ h => h) rfl (fun wx hJ => ?_) HJq4.out ?_
            · have cc := HS8.out.2; have c2 := HS8.out.1; go_simp; skip
            simp only [pu]
            refine heldJ_take (i := 12) (v := .string Z2) rfl (by kernel_rfl) (by kernel_rfl) (by kernel_rfl) (fun _ _ _ h => h) rfl (fun wx hJ => ?_) HJq4.out ?_
            · go_simp; skip
            simp only [pu]
            refine wpAnyH_done (by kernel_rfl) ?_ _
            go_wp2_with fail
            exact ⟨⟨k + 1, by rw [HZ2.out], by go_num, by have := HKK.out; omega, by have := HKK.out; omega, Lib.hid ⟨HJq4.out, HBq4.out⟩⟩, by simp only [intOf]; have := HKK.out; omega⟩
        · obtain rfl : k = 5 := by omega
          have hmk : min l.length 5 = 5 := by have := HL.out.1; omega
          have hminv : (if (5 : Int) < (n : Int) then 5 else (n : Int)) = (5 : Int) := by split <;> omega
          have HA0 : Hid (allE l po = if po = (5 : Int) then extT l po 5 ++ poisT else extT l po 5) := Lib.hid (by unfold allE; rw [hmk]; rfl)
          have yE := extT_size l po 5
          have yP := poisT_size
          by_cases hp : po = (5 : Int)
          · have hpb : (po == (5 : Int)) = true := by simpa using hp
            have HA1 : Hid (allE l po = extT l po 5 ++ poisT) := Lib.hid (by rw [HA0.out, if_pos hp])
            have PC := poison_any wr
            have hzz : ¬ (((extT l po 5).size + poisT.size : Nat) : Int) > 9223372036854775807 := by omega
            generalize extT l po 5 = E1 at *
            generalize poisT = PO at *
            have HA : Hid (allE l po = E1 ++ PO) := Lib.hid HA1.out
            have hz : ¬ (E1 ++ PO).size = 0 := by rw [size_app]; omega
            clear HA0 HA1 hp yE yP hmk hl5 hkn hk5
            go_wp2_with fail
            refine PC.mono ?_
            rintro e w4 ⟨rfl, b4⟩
            have HBK := Lib.hid (HJ.out.2.trans (b4.mono HJ.out.2.size))
            clear PC b4 c3 c4
            have hE2Z : (E1 ++ PO).size ≤ 516 := by have := allE_size l po; rw [HA.out] at this; exact this
            have hne : ((E1 ++ PO).toList == []) = false := by
              rw [beq_eq_false_iff_ne]
              intro e
              rw [ByteArray.toList_eq] at e
              have := congrArg List.length e
              rw [Array.length_toList] at this
              exact hz this
            have hw1 := wrapT_size 48 (E1 ++ PO)
            have hw2 := wrapT_size 163 (wrapT 48 (E1 ++ PO))
            have K11 := fun wx => item_any 48 (E1 ++ PO) wx (by decide) (by omega)
            have K12 := fun wx => item_any 163 (wrapT 48 (E1 ++ PO)) wx (by decide) (by omega)
            have HBD : Hid (bodyT false name key l po = S6 ++ wrapT 163 (wrapT 48 (E1 ++ PO))) := Lib.hid (by unfold bodyT; rw [HA.out, if_neg hz, HHE.out])
            have hS6 := HS6Z.out
            generalize hW1 : wrapT 48 (E1 ++ PO) = W1 at K11 K12 HBD hw1 hw2
            clear hW1
            generalize wrapT 163 W1 = W2 at K12 HBD hw2
            have z0 : ¬ ((S6.size + W2.size : Nat) : Int) > 9223372036854775807 := by omega
            clear hE2Z hw1 hw2 hS6 hz
            go_wp2_with fail
            refine (K11 _).mono ?_
            rintro e w5 ⟨rfl, b5⟩
            have HB5 := Lib.hid (HBK.out.trans (b5.mono HBK.out.size))
            clear b5 K11
            go_wp2_with fail
            refine (K12 _).mono ?_
            rintro e w6 ⟨rfl, b6⟩
            have HBL := Lib.hid (HB5.out.trans (b6.mono HB5.out.size))
            clear b6 K12
            have hBZ : (S6 ++ W2).size ≤ 726 := by have := bodyT_size false name key l po; rw [HBD.out] at this; exact this
            have hV1 := wrapT_size 48 (S6 ++ W2)
            have hX2 : X2.size ≤ 7 := by rw [HX2.out]; exact wrapT_size 48 ⟨#[5, 0]⟩
            have hV3 : (wrapT 3 ⟨#[0, 115, 105, 103]⟩).size ≤ 9 := wrapT_size 3 ⟨#[0, 115, 105, 103]⟩
            have K13 := fun wx => item_any 48 (S6 ++ W2) wx (by decide) (by omega)
            have K15 := fun wx => item_any 3 ⟨#[0, 115, 105, 103]⟩ wx (by decide) (by decide)
            have HCE : Hid (certT false name key l po = wrapT 48 (wrapT 48 (S6 ++ W2) ++ X2 ++ wrapT 3 ⟨#[0, 115, 105, 103]⟩)) := Lib.hid (by unfold certT; rw [HBD.out, ← HX2.out])
            generalize wrapT 48 (S6 ++ W2) = V1 at K13 HCE hV1
            generalize wrapT 3 ⟨#[0, 115, 105, 103]⟩ = V3 at K15 HCE hV3
            have z1 : ¬ ((V1.size + X2.size : Nat) : Int) > 9223372036854775807 := by omega
            have z2 : ¬ (((V1 ++ X2).size + V3.size : Nat) : Int) > 9223372036854775807 := by rw [size_app]; omega
            have z3 : ¬ ((V1.size + X2.size + V3.size : Nat) : Int) > 9223372036854775807 := by omega
            have K16 := fun wx => item_any 48 (V1 ++ X2 ++ V3) wx (by decide) (by rw [size_app, size_app]; omega)
            rw [← HCE.out] at K16
            clear hBZ hV1 hX2 hV3
            go_wp2_with fail
            refine (K13 _).mono ?_
            rintro e w7 ⟨rfl, b7⟩
            have HB7 := Lib.hid (HBL.out.trans (b7.mono HBL.out.size))
            clear b7 K13
            go_wp2_with fail
            refine (K2 _).mono ?_
            rintro e w8 ⟨rfl, b8⟩
            have HB8 := Lib.hid (HB7.out.trans (b8.mono HB7.out.size))
            clear b8 K2
            go_wp2_with fail
            refine (K15 _).mono ?_
            rintro e w9 ⟨rfl, b9⟩
            have HB9 := Lib.hid (HB8.out.trans (b9.mono HB8.out.size))
            clear b9 K15
            go_wp2_with fail
            refine (K16 _).mono ?_
            rintro e wz ⟨rfl, bz⟩
            have HBE := Lib.hid (HB9.out.trans (bz.mono HB9.out.size))
            clear bz K16
            go_wp2_with fail
            go_ret
            exact ⟨rfl, HBE.out⟩
          · have hpb : (po == (5 : Int)) = false := by simpa using hp
            have HA : Hid (allE l po = extT l po 5) := Lib.hid (by rw [HA0.out, if_neg hp])
            generalize extT l po 5 = E2 at *
            have HBK := Lib.hid HJ.out.2
            clear HA0 hp yE yP hmk hl5 hkn hk5
            by_cases hz : E2.size = 0
            · obtain rfl : E2 = ⟨#[]⟩ := text_none14 hz
              have HBL := HBK
              have HBD : Hid (bodyT false name key l po = S6) := Lib.hid (by unfold bodyT; rw [HA.out, if_pos hz, HHE.out])
              clear hz
              have hBZ : S6.size ≤ 726 := by have := bodyT_size false name key l po; rw [HBD.out] at this; exact this
              have hV1 := wrapT_size 48 S6
              have hX2 : X2.size ≤ 7 := by rw [HX2.out]; exact wrapT_size 48 ⟨#[5, 0]⟩
              have hV3 : (wrapT 3 ⟨#[0, 115, 105, 103]⟩).size ≤ 9 := wrapT_size 3 ⟨#[0, 115, 105, 103]⟩
              have K13 := fun wx => item_any 48 S6 wx (by decide) (by omega)
              have K15 := fun wx => item_any 3 ⟨#[0, 115, 105, 103]⟩ wx (by decide) (by decide)
              have HCE : Hid (certT false name key l po = wrapT 48 (wrapT 48 S6 ++ X2 ++ wrapT 3 ⟨#[0, 115, 105, 103]⟩)) := Lib.hid (by unfold certT; rw [HBD.out, ← HX2.out])
              generalize wrapT 48 S6 = V1 at K13 HCE hV1
              generalize wrapT 3 ⟨#[0, 115, 105, 103]⟩ = V3 at K15 HCE hV3
              have z1 : ¬ ((V1.size + X2.size : Nat) : Int) > 9223372036854775807 := by omega
              have z2 : ¬ (((V1 ++ X2).size + V3.size : Nat) : Int) > 9223372036854775807 := by rw [size_app]; omega
              have z3 : ¬ ((V1.size + X2.size + V3.size : Nat) : Int) > 9223372036854775807 := by omega
              have K16 := fun wx => item_any 48 (V1 ++ X2 ++ V3) wx (by decide) (by rw [size_app, size_app]; omega)
              rw [← HCE.out] at K16
              clear hBZ hV1 hX2 hV3
              go_wp2_with fail
              refine (K13 _).mono ?_
              rintro e w7 ⟨rfl, b7⟩
              have HB7 := Lib.hid (HBL.out.trans (b7.mono HBL.out.size))
              clear b7 K13
              go_wp2_with fail
              refine (K2 _).mono ?_
              rintro e w8 ⟨rfl, b8⟩
              have HB8 := Lib.hid (HB7.out.trans (b8.mono HB7.out.size))
              clear b8 K2
              go_wp2_with fail
              refine (K15 _).mono ?_
              rintro e w9 ⟨rfl, b9⟩
              have HB9 := Lib.hid (HB8.out.trans (b9.mono HB8.out.size))
              clear b9 K15
              go_wp2_with fail
              refine (K16 _).mono ?_
              rintro e wz ⟨rfl, bz⟩
              have HBE := Lib.hid (HB9.out.trans (bz.mono HB9.out.size))
              clear bz K16
              go_wp2_with fail
              go_ret
              exact ⟨rfl, HBE.out⟩
            · have hE2Z : E2.size ≤ 516 := by have := allE_size l po; rw [HA.out] at this; exact this
              have hne : (E2.toList == []) = false := by
                rw [beq_eq_false_iff_ne]
                intro e
                rw [ByteArray.toList_eq] at e
                have := congrArg List.length e
                rw [Array.length_toList] at this
                exact hz this
              have hw1 := wrapT_size 48 E2
              have hw2 := wrapT_size 163 (wrapT 48 E2)
              have K11 := fun wx => item_any 48 E2 wx (by decide) (by omega)
              have K12 := fun wx => item_any 163 (wrapT 48 E2) wx (by decide) (by omega)
              have HBD : Hid (bodyT false name key l po = S6 ++ wrapT 163 (wrapT 48 E2)) := Lib.hid (by unfold bodyT; rw [HA.out, if_neg hz, HHE.out])
              have hS6 := HS6Z.out
              generalize hW1 : wrapT 48 E2 = W1 at K11 K12 HBD hw1 hw2
              clear hW1
              generalize wrapT 163 W1 = W2 at K12 HBD hw2
              have z0 : ¬ ((S6.size + W2.size : Nat) : Int) > 9223372036854775807 := by omega
              clear hE2Z hw1 hw2 hS6 hz
              go_wp2_with fail
              refine (K11 _).mono ?_
              rintro e w5 ⟨rfl, b5⟩
              have HB5 := Lib.hid (HBK.out.trans (b5.mono HBK.out.size))
              clear b5 K11
              go_wp2_with fail
              refine (K12 _).mono ?_
              rintro e w6 ⟨rfl, b6⟩
              have HBL := Lib.hid (HB5.out.trans (b6.mono HB5.out.size))
              clear b6 K12
              have hBZ : (S6 ++ W2).size ≤ 726 := by have := bodyT_size false name key l po; rw [HBD.out] at this; exact this
              have hV1 := wrapT_size 48 (S6 ++ W2)
              have hX2 : X2.size ≤ 7 := by rw [HX2.out]; exact wrapT_size 48 ⟨#[5, 0]⟩
              have hV3 : (wrapT 3 ⟨#[0, 115, 105, 103]⟩).size ≤ 9 := wrapT_size 3 ⟨#[0, 115, 105, 103]⟩
              have K13 := fun wx => item_any 48 (S6 ++ W2) wx (by decide) (by omega)
              have K15 := fun wx => item_any 3 ⟨#[0, 115, 105, 103]⟩ wx (by decide) (by decide)
              have HCE : Hid (certT false name key l po = wrapT 48 (wrapT 48 (S6 ++ W2) ++ X2 ++ wrapT 3 ⟨#[0, 115, 105, 103]⟩)) := Lib.hid (by unfold certT; rw [HBD.out, ← HX2.out])
              generalize wrapT 48 (S6 ++ W2) = V1 at K13 HCE hV1
              generalize wrapT 3 ⟨#[0, 115, 105, 103]⟩ = V3 at K15 HCE hV3
              have z1 : ¬ ((V1.size + X2.size : Nat) : Int) > 9223372036854775807 := by omega
              have z2 : ¬ (((V1 ++ X2).size + V3.size : Nat) : Int) > 9223372036854775807 := by rw [size_app]; omega
              have z3 : ¬ ((V1.size + X2.size + V3.size : Nat) : Int) > 9223372036854775807 := by omega
              have K16 := fun wx => item_any 48 (V1 ++ X2 ++ V3) wx (by decide) (by rw [size_app, size_app]; omega)
              rw [← HCE.out] at K16
              clear hBZ hV1 hX2 hV3
              go_wp2_with fail
              refine (K13 _).mono ?_
              rintro e w7 ⟨rfl, b7⟩
              have HB7 := Lib.hid (HBL.out.trans (b7.mono HBL.out.size))
              clear b7 K13
              go_wp2_with fail
              refine (K2 _).mono ?_
              rintro e w8 ⟨rfl, b8⟩
              have HB8 := Lib.hid (HB7.out.trans (b8.mono HB7.out.size))
              clear b8 K2
              go_wp2_with fail
              refine (K15 _).mono ?_
              rintro e w9 ⟨rfl, b9⟩
              have HB9 := Lib.hid (HB8.out.trans (b9.mono HB8.out.size))
              clear b9 K15
              go_wp2_with fail
              refine (K16 _).mono ?_
              rintro e wz ⟨rfl, bz⟩
              have HBE := Lib.hid (HB9.out.trans (bz.mono HB9.out.size))
              clear bz K16
              go_wp2_with fail
              go_ret
              exact ⟨rfl, HBE.out⟩
      · obtain rfl : k = n := by omega
        have hlti : ¬ (k : Int) < (k : Int) := by omega
        have hmk : min l.length 5 = k := by have := HL.out.1; omega
        have hminv : (if (5 : Int) < (k : Int) then 5 else (k : Int)) = (k : Int) := by split <;> omega
        have HA0 : Hid (allE l po = if po = (k : Int) then extT l po k ++ poisT else extT l po k) := Lib.hid (by unfold allE; rw [hmk])
        have yE := extT_size l po k
        have yP := poisT_size
        by_cases hp : po = (k : Int)
        · have hpb : (po == (k : Int)) = true := by simpa using hp
          have HA1 : Hid (allE l po = extT l po k ++ poisT) := Lib.hid (by rw [HA0.out, if_pos hp])
          have PC := poison_any wr
          have hzz : ¬ (((extT l po k).size + poisT.size : Nat) : Int) > 9223372036854775807 := by omega
          generalize extT l po k = E1 at *
          generalize poisT = PO at *
          have HA : Hid (allE l po = E1 ++ PO) := Lib.hid HA1.out
          have hz : ¬ (E1 ++ PO).size = 0 := by rw [size_app]; omega
          clear HA0 HA1 hp yE yP hmk hlt hkn hk5
          go_wp2_with fail
          refine PC.mono ?_
          rintro e w4 ⟨rfl, b4⟩
          have HBK := Lib.hid (HJ.out.2.trans (b4.mono HJ.out.2.size))
          clear PC b4 c3 c4
          have hE2Z : (E1 ++ PO).size ≤ 516 := by have := allE_size l po; rw [HA.out] at this; exact this
          have hne : ((E1 ++ PO).toList == []) = false := by
            rw [beq_eq_false_iff_ne]
            intro e
            rw [ByteArray.toList_eq] at e
            have := congrArg List.length e
            rw [Array.length_toList] at this
            exact hz this
          have hw1 := wrapT_size 48 (E1 ++ PO)
          have hw2 := wrapT_size 163 (wrapT 48 (E1 ++ PO))
          have K11 := fun wx => item_any 48 (E1 ++ PO) wx (by decide) (by omega)
          have K12 := fun wx => item_any 163 (wrapT 48 (E1 ++ PO)) wx (by decide) (by omega)
          have HBD : Hid (bodyT false name key l po = S6 ++ wrapT 163 (wrapT 48 (E1 ++ PO))) := Lib.hid (by unfold bodyT; rw [HA.out, if_neg hz, HHE.out])
          have hS6 := HS6Z.out
          generalize hW1 : wrapT 48 (E1 ++ PO) = W1 at K11 K12 HBD hw1 hw2
          clear hW1
          generalize wrapT 163 W1 = W2 at K12 HBD hw2
          have z0 : ¬ ((S6.size + W2.size : Nat) : Int) > 9223372036854775807 := by omega
          clear hE2Z hw1 hw2 hS6 hz
          go_wp2_with fail
          refine (K11 _).mono ?_
          rintro e w5 ⟨rfl, b5⟩
          have HB5 := Lib.hid (HBK.out.trans (b5.mono HBK.out.size))
          clear b5 K11
          go_wp2_with fail
          refine (K12 _).mono ?_
          rintro e w6 ⟨rfl, b6⟩
          have HBL := Lib.hid (HB5.out.trans (b6.mono HB5.out.size))
          clear b6 K12
          have hBZ : (S6 ++ W2).size ≤ 726 := by have := bodyT_size false name key l po; rw [HBD.out] at this; exact this
          have hV1 := wrapT_size 48 (S6 ++ W2)
          have hX2 : X2.size ≤ 7 := by rw [HX2.out]; exact wrapT_size 48 ⟨#[5, 0]⟩
          have hV3 : (wrapT 3 ⟨#[0, 115, 105, 103]⟩).size ≤ 9 := wrapT_size 3 ⟨#[0, 115, 105, 103]⟩
          have K13 := fun wx => item_any 48 (S6 ++ W2) wx (by decide) (by omega)
          have K15 := fun wx => item_any 3 ⟨#[0, 115, 105, 103]⟩ wx (by decide) (by decide)
          have HCE : Hid (certT false name key l po = wrapT 48 (wrapT 48 (S6 ++ W2) ++ X2 ++ wrapT 3 ⟨#[0, 115, 105, 103]⟩)) := Lib.hid (by unfold certT; rw [HBD.out, ← HX2.out])
          generalize wrapT 48 (S6 ++ W2) = V1 at K13 HCE hV1
          generalize wrapT 3 ⟨#[0, 115, 105, 103]⟩ = V3 at K15 HCE hV3
          have z1 : ¬ ((V1.size + X2.size : Nat) : Int) > 9223372036854775807 := by omega
          have z2 : ¬ (((V1 ++ X2).size + V3.size : Nat) : Int) > 9223372036854775807 := by rw [size_app]; omega
          have z3 : ¬ ((V1.size + X2.size + V3.size : Nat) : Int) > 9223372036854775807 := by omega
          have K16 := fun wx => item_any 48 (V1 ++ X2 ++ V3) wx (by decide) (by rw [size_app, size_app]; omega)
          rw [← HCE.out] at K16
          clear hBZ hV1 hX2 hV3
          go_wp2_with fail
          refine (K13 _).mono ?_
          rintro e w7 ⟨rfl, b7⟩
          have HB7 := Lib.hid (HBL.out.trans (b7.mono HBL.out.size))
          clear b7 K13
          go_wp2_with fail
          refine (K2 _).mono ?_
          rintro e w8 ⟨rfl, b8⟩
          have HB8 := Lib.hid (HB7.out.trans (b8.mono HB7.out.size))
          clear b8 K2
          go_wp2_with fail
          refine (K15 _).mono ?_
          rintro e w9 ⟨rfl, b9⟩
          have HB9 := Lib.hid (HB8.out.trans (b9.mono HB8.out.size))
          clear b9 K15
          go_wp2_with fail
          refine (K16 _).mono ?_
          rintro e wz ⟨rfl, bz⟩
          have HBE := Lib.hid (HB9.out.trans (bz.mono HB9.out.size))
          clear bz K16
          go_wp2_with fail
          go_ret
          exact ⟨rfl, HBE.out⟩
        · have hpb : (po == (k : Int)) = false := by simpa using hp
          have HA : Hid (allE l po = extT l po k) := Lib.hid (by rw [HA0.out, if_neg hp])
          generalize extT l po k = E2 at *
          have HBK := Lib.hid HJ.out.2
          clear HA0 hp yE yP hmk hlt hkn hk5
          by_cases hz : E2.size = 0
          · obtain rfl : E2 = ⟨#[]⟩ := text_none14 hz
            have HBL := HBK
            have HBD : Hid (bodyT false name key l po = S6) := Lib.hid (by unfold bodyT; rw [HA.out, if_pos hz, HHE.out])
            clear hz
            have hBZ : S6.size ≤ 726 := by have := bodyT_size false name key l po; rw [HBD.out] at this; exact this
            have hV1 := wrapT_size 48 S6
            have hX2 : X2.size ≤ 7 := by rw [HX2.out]; exact wrapT_size 48 ⟨#[5, 0]⟩
            have hV3 : (wrapT 3 ⟨#[0, 115, 105, 103]⟩).size ≤ 9 := wrapT_size 3 ⟨#[0, 115, 105, 103]⟩
            have K13 := fun wx => item_any 48 S6 wx (by decide) (by omega)
            have K15 := fun wx => item_any 3 ⟨#[0, 115, 105, 103]⟩ wx (by decide) (by decide)
            have HCE : Hid (certT false name key l po = wrapT 48 (wrapT 48 S6 ++ X2 ++ wrapT 3 ⟨#[0, 115, 105, 103]⟩)) := Lib.hid (by unfold certT; rw [HBD.out, ← HX2.out])
            generalize wrapT 48 S6 = V1 at K13 HCE hV1
            generalize wrapT 3 ⟨#[0, 115, 105, 103]⟩ = V3 at K15 HCE hV3
            have z1 : ¬ ((V1.size + X2.size : Nat) : Int) > 9223372036854775807 := by omega
            have z2 : ¬ (((V1 ++ X2).size + V3.size : Nat) : Int) > 9223372036854775807 := by rw [size_app]; omega
            have z3 : ¬ ((V1.size + X2.size + V3.size : Nat) : Int) > 9223372036854775807 := by omega
            have K16 := fun wx => item_any 48 (V1 ++ X2 ++ V3) wx (by decide) (by rw [size_app, size_app]; omega)
            rw [← HCE.out] at K16
            clear hBZ hV1 hX2 hV3
            go_wp2_with fail
            refine (K13 _).mono ?_
            rintro e w7 ⟨rfl, b7⟩
            have HB7 := Lib.hid (HBL.out.trans (b7.mono HBL.out.size))
            clear b7 K13
            go_wp2_with fail
            refine (K2 _).mono ?_
            rintro e w8 ⟨rfl, b8⟩
            have HB8 := Lib.hid (HB7.out.trans (b8.mono HB7.out.size))
            clear b8 K2
            go_wp2_with fail
            refine (K15 _).mono ?_
            rintro e w9 ⟨rfl, b9⟩
            have HB9 := Lib.hid (HB8.out.trans (b9.mono HB8.out.size))
            clear b9 K15
            go_wp2_with fail
            refine (K16 _).mono ?_
            rintro e wz ⟨rfl, bz⟩
            have HBE := Lib.hid (HB9.out.trans (bz.mono HB9.out.size))
            clear bz K16
            go_wp2_with fail
            go_ret
            exact ⟨rfl, HBE.out⟩
          · have hE2Z : E2.size ≤ 516 := by have := allE_size l po; rw [HA.out] at this; exact this
            have hne : (E2.toList == []) = false := by
              rw [beq_eq_false_iff_ne]
              intro e
              rw [ByteArray.toList_eq] at e
              have := congrArg List.length e
              rw [Array.length_toList] at this
              exact hz this
            have hw1 := wrapT_size 48 E2
            have hw2 := wrapT_size 163 (wrapT 48 E2)
            have K11 := fun wx => item_any 48 E2 wx (by decide) (by omega)
            have K12 := fun wx => item_any 163 (wrapT 48 E2) wx (by decide) (by omega)
            have HBD : Hid (bodyT false name key l po = S6 ++ wrapT 163 (wrapT 48 E2)) := Lib.hid (by unfold bodyT; rw [HA.out, if_neg hz, HHE.out])
            have hS6 := HS6Z.out
            generalize hW1 : wrapT 48 E2 = W1 at K11 K12 HBD hw1 hw2
            clear hW1
            generalize wrapT 163 W1 = W2 at K12 HBD hw2
            have z0 : ¬ ((S6.size + W2.size : Nat) : Int) > 9223372036854775807 := by omega
            clear hE2Z hw1 hw2 hS6 hz
            go_wp2_with fail
            refine (K11 _).mono ?_
            rintro e w5 ⟨rfl, b5⟩
            have HB5 := Lib.hid (HBK.out.trans (b5.mono HBK.out.size))
            clear b5 K11
            go_wp2_with fail
            refine (K12 _).mono ?_
            rintro e w6 ⟨rfl, b6⟩
            have HBL := Lib.hid (HB5.out.trans (b6.mono HB5.out.size))
            clear b6 K12
            have hBZ : (S6 ++ W2).size ≤ 726 := by have := bodyT_size false name key l po; rw [HBD.out] at this; exact this
            have hV1 := wrapT_size 48 (S6 ++ W2)
            have hX2 : X2.size ≤ 7 := by rw [HX2.out]; exact wrapT_size 48 ⟨#[5, 0]⟩
            have hV3 : (wrapT 3 ⟨#[0, 115, 105, 103]⟩).size ≤ 9 := wrapT_size 3 ⟨#[0, 115, 105, 103]⟩
            have K13 := fun wx => item_any 48 (S6 ++ W2) wx (by decide) (by omega)
            have K15 := fun wx => item_any 3 ⟨#[0, 115, 105, 103]⟩ wx (by decide) (by decide)
            have HCE : Hid (certT false name key l po = wrapT 48 (wrapT 48 (S6 ++ W2) ++ X2 ++ wrapT 3 ⟨#[0, 115, 105, 103]⟩)) := Lib.hid (by unfold certT; rw [HBD.out, ← HX2.out])
            generalize wrapT 48 (S6 ++ W2) = V1 at K13 HCE hV1
            generalize wrapT 3 ⟨#[0, 115, 105, 103]⟩ = V3 at K15 HCE hV3
            have z1 : ¬ ((V1.size + X2.size : Nat) : Int) > 9223372036854775807 := by omega
            have z2 : ¬ (((V1 ++ X2).size + V3.size : Nat) : Int) > 9223372036854775807 := by rw [size_app]; omega
            have z3 : ¬ ((V1.size + X2.size + V3.size : Nat) : Int) > 9223372036854775807 := by omega
            have K16 := fun wx => item_any 48 (V1 ++ X2 ++ V3) wx (by decide) (by rw [size_app, size_app]; omega)
            rw [← HCE.out] at K16
            clear hBZ hV1 hX2 hV3
            go_wp2_with fail
            refine (K13 _).mono ?_
            rintro e w7 ⟨rfl, b7⟩
            have HB7 := Lib.hid (HBL.out.trans (b7.mono HBL.out.size))
            clear b7 K13
            go_wp2_with fail
            refine (K2 _).mono ?_
            rintro e w8 ⟨rfl, b8⟩
            have HB8 := Lib.hid (HB7.out.trans (b8.mono HB7.out.size))
            clear b8 K2
            go_wp2_with fail
            refine (K15 _).mono ?_
            rintro e w9 ⟨rfl, b9⟩
            have HB9 := Lib.hid (HB8.out.trans (b9.mono HB8.out.size))
            clear b9 K15
            go_wp2_with fail
            refine (K16 _).mono ?_
            rintro e wz ⟨rfl, bz⟩
            have HBE := Lib.hid (HB9.out.trans (bz.mono HB9.out.size))
            clear bz K16
            go_wp2_with fail
            go_ret
            exact ⟨rfl, HBE.out⟩
  | true =>
    obtain rfl : B0 = X0 := HB0E.out.trans HV.out.1
    clear HB0E HV
    go_enter Try.func18, Try.ntmps18
    go_wp2_with fail
    refine (K0 _).mono ?_
    rintro e w0 ⟨rfl, b0⟩
    have HJ0 := Lib.hid (HJB.out _ _ HJ0.out b0)
    have HB0 := Lib.hid (HB0.out.trans (b0.mono HB0.out.size))
    clear b0
    go_wp2_with fail
    rw [← HQ.out]
    have HJ0 := Lib.hid (HJB.out _ _ HJ0.out ((Below.refl _ _).drew))
    have HB0 := Lib.hid HB0.out.drew
    refine heldJ_start (JC q #[.string name, .string key, .bool true, .slice p n cap, .int .i64 po] p n cap l) (by kernel_rfl) ?_
    change wpAnyH _ _ _ _ _ _ _ _ w0.drew
    generalize w0.drew = wd at HJ0 HB0 ⊢
    refine heldJ_take (i := 0) (v := .string B0) rfl (by kernel_rfl) (by kernel_rfl) (by kernel_rfl) (fun _ _ _ h => h) rfl (fun wx hJ => ?_) HJ0.out ?_
    · go_simp; skip
    simp only [pu]
    refine heldJ_take (i := 9) (v := .pointer (some ⟨q, 0, none⟩)) rfl (by kernel_rfl) (by kernel_rfl) (by kernel_rfl) (fun _ _ _ h => h) rfl (fun wx hJ => ?_) HJ0.out ?_
    · go_simp; skip
    simp only [pu]
    refine heldJ_take (i := 10) (v := .string name) rfl (by kernel_rfl) (by kernel_rfl) (by kernel_rfl) (fun _ _ _ h => h) rfl (fun wx hJ => ?_) HJ0.out ?_
    · have cc := (HJF.out wx hJ).1; go_simp; skip
    simp only [pu]
    refine heldJ_take (i := 15) (v := .pointer (some ⟨q, 1, none⟩)) rfl (by kernel_rfl) (by kernel_rfl) (by kernel_rfl) (fun _ _ _ h => h) rfl (fun wx hJ => ?_) HJ0.out ?_
    · go_simp; skip
    simp only [pu]
    refine heldJ_take (i := 16) (v := .string key) rfl (by kernel_rfl) (by kernel_rfl) (by kernel_rfl) (fun _ _ _ h => h) rfl (fun wx hJ => ?_) HJ0.out ?_
    · have cc := (HJF.out wx hJ).2.1; go_simp; skip
    simp only [pu]
    refine heldJ_call (i := 1) (f := 14) (by kernel_rfl) rfl rfl (by go_simp; skip) ((K1 _).mono ?_)
    rintro e wq1 ⟨rfl, bq⟩
    have HJq1 := Lib.hid (HJB.out _ _ HJ0.out bq)
    have HBq1 := Lib.hid (HB0.out.trans (bq.mono HB0.out.size))
    clear bq
    refine ⟨_, rfl, HJq1.out, ?_⟩
    simp only [pu]
    refine heldJ_take (i := 2) (v := .string S1) rfl (by kernel_rfl) (by kernel_rfl) (by kernel_rfl) (fun _ _ _ h => h) rfl (fun wx hJ => ?_) HJq1.out ?_
    · have cc := HS1.out.2; have c2 := HS1.out.1; go_simp; skip
    simp only [pu]
    refine heldJ_call (i := 3) (f := 14) (by kernel_rfl) rfl rfl (by go_simp; skip) ((K2 _).mono ?_)
    rintro e wq2 ⟨rfl, bq⟩
    have HJq2 := Lib.hid (HJB.out _ _ HJq1.out bq)
    have HBq2 := Lib.hid (HBq1.out.trans (bq.mono HBq1.out.size))
    clear bq
    refine ⟨_, rfl, HJq2.out, ?_⟩
    simp only [pu]
    refine heldJ_take (i := 4) (v := .string S2) rfl (by kernel_rfl) (by kernel_rfl) (by kernel_rfl) (fun _ _ _ h => h) rfl (fun wx hJ => ?_) HJq2.out ?_
    · have cc := HS2.out.2; have c2 := HS2.out.1; go_simp; skip
    simp only [pu]
    refine heldJ_call (i := 5) (f := 14) (by kernel_rfl) rfl rfl (by go_simp; skip) ((K3 _).mono ?_)
    rintro e wq3 ⟨rfl, bq⟩
    have HJq3 := Lib.hid (HJB.out _ _ HJq2.out bq)
    have HBq3 := Lib.hid (HBq2.out.trans (bq.mono HBq2.out.size))
    clear bq
    refine ⟨_, rfl, HJq3.out, ?_⟩
    simp only [pu]
    refine heldJ_take (i := 6) (v := .string S3) rfl (by kernel_rfl) (by kernel_rfl) (by kernel_rfl) (fun _ _ _ h => h) rfl (fun wx hJ => ?_) HJq3.out ?_
    · have cc := HS3.out.2; have c2 := HS3.out.1; go_simp; skip
    simp only [pu]
    refine heldJ_call (i := 7) (f := 14) (by kernel_rfl) rfl rfl (by go_simp; skip) ((K3 _).mono ?_)
    rintro e wq4 ⟨rfl, bq⟩
    have HJq4 := Lib.hid (HJB.out _ _ HJq3.out bq)
    have HBq4 := Lib.hid (HBq3.out.trans (bq.mono HBq3.out.size))
    clear bq
    refine ⟨_, rfl, HJq4.out, ?_⟩
    simp only [pu]
    refine heldJ_take (i := 8) (v := .string S4) rfl (by kernel_rfl) (by kernel_rfl) (by kernel_rfl) (fun _ _ _ h => h) rfl (fun wx hJ => ?_) HJq4.out ?_
    · have cc := HS4.out.2; have c2 := HS4.out.1; go_simp; skip
    simp only [pu]
    refine heldJ_call (i := 11) (f := 16) (by kernel_rfl) rfl rfl (by go_simp; skip) ((cut_any name _).mono ?_)
    rintro e _ ⟨rfl, rfl⟩
    refine ⟨_, rfl, HJq4.out, ?_⟩
    simp only [pu]
    refine heldJ_call (i := 12) (f := 14) (by kernel_rfl) rfl rfl (by go_simp; skip) ((K4 _).mono ?_)
    rintro e wq6 ⟨rfl, bq⟩
    have HJq6 := Lib.hid (HJB.out _ _ HJq4.out bq)
    have HBq6 := Lib.hid (HBq4.out.trans (bq.mono HBq4.out.size))
    clear bq
    refine ⟨_, rfl, HJq6.out, ?_⟩
    simp only [pu]
    refine heldJ_call (i := 13) (f := 14) (by kernel_rfl) rfl rfl (by go_simp; skip) ((K5 _).mono ?_)
    rintro e wq7 ⟨rfl, bq⟩
    have HJq7 := Lib.hid (HJB.out _ _ HJq6.out bq)
    have HBq7 := Lib.hid (HBq6.out.trans (bq.mono HBq6.out.size))
    clear bq
    refine ⟨_, rfl, HJq7.out, ?_⟩
    simp only [pu]
    refine heldJ_take (i := 14) (v := .string S5) rfl (by kernel_rfl) (by kernel_rfl) (by kernel_rfl) (fun _ _ _ h => h) rfl (fun wx hJ => ?_) HJq7.out ?_
    · have cc := HS5.out.2; have c2 := HS5.out.1; go_simp; skip
    simp only [pu]
    refine heldJ_call (i := 17) (f := 16) (by kernel_rfl) rfl rfl (by go_simp; skip) ((cut_any key _).mono ?_)
    rintro e _ ⟨rfl, rfl⟩
    refine ⟨_, rfl, HJq7.out, ?_⟩
    simp only [pu]
    refine heldJ_call (i := 18) (f := 14) (by kernel_rfl) rfl rfl (by go_simp; skip) ((K6 _).mono ?_)
    rintro e wq9 ⟨rfl, bq⟩
    have HJq9 := Lib.hid (HJB.out _ _ HJq7.out bq)
    have HBq9 := Lib.hid (HBq7.out.trans (bq.mono HBq7.out.size))
    clear bq
    refine ⟨_, rfl, HJq9.out, ?_⟩
    simp only [pu]
    refine heldJ_call (i := 19) (f := 14) (by kernel_rfl) rfl rfl (by go_simp; skip) ((K7 _).mono ?_)
    rintro e wq10 ⟨rfl, bq⟩
    have HJq10 := Lib.hid (HJB.out _ _ HJq9.out bq)
    have HBq10 := Lib.hid (HBq9.out.trans (bq.mono HBq9.out.size))
    clear bq
    refine ⟨_, rfl, HJq10.out, ?_⟩
    simp only [pu]
    refine heldJ_take (i := 20) (v := .string S6) rfl (by kernel_rfl) (by kernel_rfl) (by kernel_rfl) (fun _ _ _ h => h) rfl (fun wx hJ => ?_) HJq10.out ?_
    · have cc := HS6.out.2; have c2 := HS6.out.1; go_simp; skip
    simp only [pu]
    refine heldJ_take (i := 21) (v := .string S6) rfl (by kernel_rfl) (by kernel_rfl) (by kernel_rfl) (fun _ _ _ h => h) rfl (fun wx hJ => ?_) HJq10.out ?_
    · go_simp; skip
    simp only [pu]
    refine wpAnyH_done (by kernel_rfl) ?_ _
    clear K1 K3 K4 K5 K6 K7
    have HI : Hid (JC q #[.string name, .string key, .bool true, .slice p n cap, .int .i64 po] p n cap l wq10 ∧ Below w.heap.size w wq10) := Lib.hid ⟨HJq10.out, HBq10.out⟩
    have hn := HL.out.2.2
    have hle := HL.out.2.1
    go_wp2_with fail
    go_loopw [4, 5] (fun x u wr => ∃ k : Nat, x = .string (extT l po k) ∧ u = .int .i64 (k : Int) ∧ k ≤ n ∧ k ≤ 5 ∧ Hid (JC q #[.string name, .string key, .bool true, .slice p n cap, .int .i64 po] p n cap l wr ∧ Below w.heap.size w wr)) (fun _ u _ => 5 - (intOf u).toNat)
    case atStart => exact ⟨0, rfl, rfl, Nat.zero_le _, by decide, HI⟩
    case round =>
      obtain ⟨k, rfl, rfl, hkn, hk5, HJ⟩ := hrel
      clear HI
      have c3 := (HJF.out _ HJ.out.1).2.2.2.1
      have c4 := (HJF.out _ HJ.out.1).2.2.2.2
      by_cases hlt : k < n
      · have hlti : (k : Int) < (n : Int) := by omega
        by_cases hl5 : k < 5
        · have hl5i : (k : Int) < 5 := by omega
          obtain ⟨a, rfl⟩ := HJ.out.1.2.some_ (by omega)
          obtain ⟨x, hx⟩ : ∃ x, x = l.getD k ⟨#[]⟩ := ⟨_, rfl⟩
          have hkl : k < l.length := by have := HL.out.1; omega
          have HJX : Hid (∀ wx, JC q #[.string name, .string key, .bool true, .slice (some a) n cap, .int .i64 po] (some a) n cap l wx → wx.cell? (a.add k) = some (.string x)) := Lib.hid fun wx h => by
            have := h.2.cell a rfl k (by rw [List.length_map]; exact hkl) 0 (.string x) (by rw [List.getElem_map, hx, List.getD_eq_getElem?_getD, List.getElem?_eq_getElem hkl]; rfl)
            rwa [Nat.mul_one, Nat.add_zero] at this
          have y9 := wrapT_size 4 (cutT x)
          have y8 : (wrapT 6 ⟨#[85, 29, 15]⟩).size ≤ 8 := wrapT_size 6 ⟨#[85, 29, 15]⟩
          have y0 := cutT_size x
          have yE := extT_size l po k
          have yP := poisT_size
          have y10 := wrapT_size 48 (wrapT 6 ⟨#[85, 29, 15]⟩ ++ wrapT 4 (cutT x))
          rw [size_app] at y10
          have K8 := fun wx => item_any 6 ⟨#[85, 29, 15]⟩ wx (by decide) (by decide)
          have K9 := fun wx => item_any 4 (cutT x) wx (by decide) (by omega)
          have K10 := fun wx => item_any 48 (wrapT 6 ⟨#[85, 29, 15]⟩ ++ wrapT 4 (cutT x)) wx (by decide) (by rw [size_app]; omega)
          have HNX : Hid (extT l po (k + 1) = (if (k : Int) = po then extT l po k ++ poisT else extT l po k) ++ wrapT 48 (wrapT 6 ⟨#[85, 29, 15]⟩ ++ wrapT 4 (cutT x))) := Lib.hid (by rw [hx]; rfl)
          have HS7a : Hid ((wrapT 6 ⟨#[85, 29, 15]⟩).size + (wrapT 4 (cutT x)).size ≤ 9223372036854775807) := Lib.hid (by omega)
          have HKK := Lib.hid (⟨hlt, hl5⟩ : k < n ∧ k < 5)
          have hkw : IntKind.i64.wrap ((k : Int) + 1) = ((k + 1 : Nat) : Int) := by rw [IntWalk.i64_in _ (by omega)]; rfl
          clear hx
          generalize wrapT 6 ⟨#[85, 29, 15]⟩ = Y8 at *
          generalize wrapT 4 (cutT x) = Y9 at *
          obtain ⟨Z1, hZ1⟩ : ∃ Z1, Z1 = Y8 ++ Y9 := ⟨_, rfl⟩
          rw [← hZ1] at K10 HNX
          have HS7 : Hid (Y8 ++ Y9 = Z1 ∧ Y8.size + Y9.size ≤ 9223372036854775807) := Lib.hid ⟨hZ1.symm, HS7a.out⟩
          rw [← hZ1] at y10
          clear hZ1
          generalize wrapT 48 Z1 = Y10 at *
          by_cases hp : (k : Int) = po
          · rw [if_pos hp] at HNX
            obtain ⟨E1, hE1⟩ : ∃ E1, E1 = extT l po k ++ poisT := ⟨_, rfl⟩
            rw [← hE1] at HNX
            have HS8 : Hid (E1 ++ Y10 = extT l po (k + 1) ∧ E1.size + Y10.size ≤ 9223372036854775807) := Lib.hid ⟨HNX.out.symm, by rw [hE1, size_app]; omega⟩
            have hzz : ¬ (((extT l po k).size + poisT.size : Nat) : Int) > 9223372036854775807 := by omega
            have HE1 := Lib.hid hE1
            obtain ⟨Z2, hZ2⟩ : ∃ Z2, Z2 = extT l po (k + 1) := ⟨_, rfl⟩
            rw [← hZ2] at HS8
            have HZ2 := Lib.hid hZ2
            generalize extT l po k = E0 at *
            have hpb : ((k : Int) == po) = true := by simpa using hp
            have PC := poison_any wr
            generalize poisT = PO at *
            clear HNX hE1 hZ2 hp y0 y8 y9 y10 yE yP hlt hl5 hkn hk5 hkl
            go_wp2_with fail
            refine PC.mono ?_
            rintro e w0 ⟨rfl, b0⟩
            have HJ0 := Lib.hid (HJB.out _ _ HJ.out.1 b0)
            have HB0 := Lib.hid (HJ.out.2.trans (b0.mono HJ.out.2.size))
            clear b0 PC
            go_wp2_with fail
            rw [← HE1.out]
            have HJ0 := Lib.hid (HJB.out _ _ HJ0.out ((Below.refl _ _).drew))
            have HB0 := Lib.hid HB0.out.drew
            refine heldJ_start (JC q #[.string name, .string key, .bool true, .slice (some a) n cap, .int .i64 po] (some a) n cap l) (by kernel_rfl) ?_
            change wpAnyH _ _ _ _ _ _ _ _ w0.drew
            generalize w0.drew = wd at HJ0 HB0 ⊢
            refine heldJ_take (i := 0) (v := .string E1) rfl (by kernel_rfl) (by kernel_rfl) (by kernel_rfl) (fun _ _ _ h => h) rfl (fun wx hJ => ?_) HJ0.out ?_
            · go_simp; skip
            simp only [pu]
            refine heldJ_take (i := 2) (v := .pointer (some ⟨q, 3, none⟩)) rfl (by kernel_rfl) (by kernel_rfl) (by kernel_rfl) (fun _ _ _ h => h) rfl (fun wx hJ => ?_) HJ0.out ?_
            · go_simp; skip
            simp only [pu]
            refine heldJ_take (i := 3) (v := .slice (some a) n cap) rfl (by kernel_rfl) (by kernel_rfl) (by kernel_rfl) (fun _ _ _ h => h) rfl (fun wx hJ => ?_) HJ0.out ?_
            · have cc := (HJF.out wx hJ).2.2.2.1; go_simp; skip
            simp only [pu]
            refine heldJ_take (i := 4) (v := .int .i64 (k : Int)) rfl (by kernel_rfl) (by kernel_rfl) (by kernel_rfl) (fun _ _ _ h => h) rfl (fun wx hJ => ?_) HJ0.out ?_
            · go_simp; skip
            simp only [pu]
            refine heldJ_take (i := 5) (v := .pointer (some (a.add k))) rfl (by kernel_rfl) (by kernel_rfl) (by kernel_rfl) (fun _ _ _ h => h) rfl (fun wx hJ => ?_) HJ0.out ?_
            · go_simp; skip
            simp only [pu]
            refine heldJ_take (i := 6) (v := .string x) rfl (by kernel_rfl) (by kernel_rfl) (by kernel_rfl) (fun _ _ _ h => h) rfl (fun wx hJ => ?_) HJ0.out ?_
            · have cc := HJX.out wx hJ; go_simp; skip
            simp only [pu]
            refine heldJ_call (i := 1) (f := 14) (by kernel_rfl) rfl rfl (by go_simp; skip) ((K8 _).mono ?_)
            rintro e wq1 ⟨rfl, bq⟩
            have HJq1 := Lib.hid (HJB.out _ _ HJ0.out bq)
            have HBq1 := Lib.hid (HB0.out.trans (bq.mono HB0.out.size))
            clear bq
            refine ⟨_, rfl, HJq1.out, ?_⟩
            simp only [pu]
            refine heldJ_call (i := 7) (f := 16) (by kernel_rfl) rfl rfl (by go_simp; skip) ((cut_any x _).mono ?_)
            rintro e _ ⟨rfl, rfl⟩
            refine ⟨_, rfl, HJq1.out, ?_⟩
            simp only [pu]
            refine heldJ_call (i := 8) (f := 14) (by kernel_rfl) rfl rfl (by go_simp; skip) ((K9 _).mono ?_)
            rintro e wq3 ⟨rfl, bq⟩
            have HJq3 := Lib.hid (HJB.out _ _ HJq1.out bq)
            have HBq3 := Lib.hid (HBq1.out.trans (bq.mono HBq1.out.size))
            clear bq
            refine ⟨_, rfl, HJq3.out, ?_⟩
            simp only [pu]
            refine heldJ_take (i := 9) (v := .string Z1) rfl (by kernel_rfl) (by kernel_rfl) (by kernel_rfl) (fun _ _ _ h => h) rfl (fun wx hJ => ?_) HJq3.out ?_
            · have cc := HS7.out.2; have c2 := HS7.out.1; go_simp; skip
            simp only [pu]
            refine heldJ_call (i := 10) (f := 14) (by kernel_rfl) rfl rfl (by go_simp; skip) ((K10 _).mono ?_)
            rintro e wq4 ⟨rfl, bq⟩
            have HJq4 := Lib.hid (HJB.out _ _ HJq3.out bq)
            have HBq4 := Lib.hid (HBq3.out.trans (bq.mono HBq3.out.size))
            clear bq
            refine ⟨_, rfl, HJq4.out, ?_⟩
            simp only [pu]
            refine heldJ_take (i := 11) (v := .string Z2) rfl (by kernel_rfl) (by kernel_rfl) (by kernel_rfl) (fun _ _ _ h => h) rfl (fun wx hJ => ?_) HJq4.out ?_
            · have cc := HS8.out.2; have c2 := HS8.out.1; go_simp; skip
            simp only [pu]
            refine heldJ_take (i := 12) (v := .string Z2) rfl (by kernel_rfl) (by kernel_rfl) (by kernel_rfl) (fun _ _ _ h => h) rfl (fun wx hJ => ?_) HJq4.out ?_
            · go_simp; skip
            simp only [pu]
            refine wpAnyH_done (by kernel_rfl) ?_ _
            go_wp2_with fail
            exact ⟨⟨k + 1, by rw [HZ2.out], by go_num, by have := HKK.out; omega, by have := HKK.out; omega, Lib.hid ⟨HJq4.out, HBq4.out⟩⟩, by simp only [intOf]; have := HKK.out; omega⟩
          · rw [if_neg hp] at HNX
            have hpb : ((k : Int) == po) = false := by simpa using hp
            have HS8 : Hid (extT l po k ++ Y10 = extT l po (k + 1) ∧ (extT l po k).size + Y10.size ≤ 9223372036854775807) := Lib.hid ⟨HNX.out.symm, by omega⟩
            obtain ⟨Z2, hZ2⟩ : ∃ Z2, Z2 = extT l po (k + 1) := ⟨_, rfl⟩
            rw [← hZ2] at HS8
            have HZ2 := Lib.hid hZ2
            generalize extT l po k = E1 at *
            have HJ0 := Lib.hid HJ.out.1
            have HB0 := Lib.hid HJ.out.2
            clear HNX hZ2 hp y0 y8 y9 y10 yE yP hlt hl5 hkn hk5 hkl
            go_wp2_with fail
            have HJ0 := Lib.hid (HJB.out _ _ HJ0.out ((Below.refl _ _).drew))
            have HB0 := Lib.hid HB0.out.drew
            refine heldJ_start (JC q #[.string name, .string key, .bool true, .slice (some a) n cap, .int .i64 po] (some a) n cap l) (by kernel_rfl) ?_
            change wpAnyH _ _ _ _ _ _ _ _ wr.drew
            generalize wr.drew = wd at HJ0 HB0 ⊢
            refine heldJ_take (i := 0) (v := .string E1) rfl (by kernel_rfl) (by kernel_rfl) (by kernel_rfl) (fun _ _ _ h => h) rfl (fun wx hJ => ?_) HJ0.out ?_
            · go_simp; skip
            simp only [pu]
            refine heldJ_take (i := 2) (v := .pointer (some ⟨q, 3, none⟩)) rfl (by kernel_rfl) (by kernel_rfl) (by kernel_rfl) (fun _ _ _ h => h) rfl (fun wx hJ => ?_) HJ0.out ?_
            · go_simp; skip
            simp only [pu]
            refine heldJ_take (i := 3) (v := .slice (some a) n cap) rfl (by kernel_rfl) (by kernel_rfl) (by kernel_rfl) (fun _ _ _ h => h) rfl (fun wx hJ => ?_) HJ0.out ?_
            · have cc := (HJF.out wx hJ).2.2.2.1; go_simp; skip
            simp only [pu]
            refine heldJ_take (i := 4) (v := .int .i64 (k : Int)) rfl (by kernel_rfl) (by kernel_rfl) (by kernel_rfl) (fun _ _ _ h => h) rfl (fun wx hJ => ?_) HJ0.out ?_
            · go_simp; skip
            simp only [pu]
            refine heldJ_take (i := 5) (v := .pointer (some (a.add k))) rfl (by kernel_rfl) (by kernel_rfl) (by kernel_rfl) (fun _ _ _ h => h) rfl (fun wx hJ => ?_) HJ0.out ?_
            · go_simp; skip
            simp only [pu]
            refine heldJ_take (i := 6) (v := .string x) rfl (by kernel_rfl) (by kernel_rfl) (by kernel_rfl) (fun _ _ _ h => h) rfl (fun wx hJ => ?_) HJ0.out ?_
            · have cc := HJX.out wx hJ; go_simp; skip
            simp only [pu]
            refine heldJ_call (i := 1) (f := 14) (by kernel_rfl) rfl rfl (by go_simp; skip) ((K8 _).mono ?_)
            rintro e wq1 ⟨rfl, bq⟩
            have HJq1 := Lib.hid (HJB.out _ _ HJ0.out bq)
            have HBq1 := Lib.hid (HB0.out.trans (bq.mono HB0.out.size))
            clear bq
            refine ⟨_, rfl, HJq1.out, ?_⟩
            simp only [pu]
            refine heldJ_call (i := 7) (f := 16) (by kernel_rfl) rfl rfl (by go_simp; skip) ((cut_any x _).mono ?_)
            rintro e _ ⟨rfl, rfl⟩
            refine ⟨_, rfl, HJq1.out, ?_⟩
            simp only [pu]
            refine heldJ_call (i := 8) (f := 14) (by kernel_rfl) rfl rfl (by go_simp; skip) ((K9 _).mono ?_)
            rintro e wq3 ⟨rfl, bq⟩
            have HJq3 := Lib.hid (HJB.out _ _ HJq1.out bq)
            have HBq3 := Lib.hid (HBq1.out.trans (bq.mono HBq1.out.size))
            clear bq
            refine ⟨_, rfl, HJq3.out, ?_⟩
            simp only [pu]
            refine heldJ_take (i := 9) (v := .string Z1) rfl (by kernel_rfl) (by kernel_rfl) (by kernel_rfl) (fun _ _ _ h => h) rfl (fun wx hJ => ?_) HJq3.out ?_
            · have cc := HS7.out.2; have c2 := HS7.out.1; go_simp; skip
            simp only [pu]
            refine heldJ_call (i := 10) (f := 14) (by kernel_rfl) rfl rfl (by go_simp; skip) ((K10 _).mono ?_)
            rintro e wq4 ⟨rfl, bq⟩
            have HJq4 := Lib.hid (HJB.out _ _ HJq3.out bq)
            have HBq4 := Lib.hid (HBq3.out.trans (bq.mono HBq3.out.size))
            clear bq
            refine ⟨_, rfl, HJq4.out, ?_⟩
            simp only [pu]
            refine heldJ_take (i := 11) (v := .string Z2) rfl (by kernel_rfl) (by kernel_rfl) (by kernel_rfl) (fun _ _ _ h => h) rfl (fun wx hJ => ?_) HJq4.out ?_
            · have cc := HS8.out.2; have c2 := HS8.out.1; go_simp; skip
            simp only [pu]
            refine heldJ_take (i := 12) (v := .string Z2) rfl (by kernel_rfl) (by kernel_rfl) (by kernel_rfl) (fun _ _ _ h => h) rfl (fun wx hJ => ?_) HJq4.out ?_
            · go_simp; skip
            simp only [pu]
            refine wpAnyH_done (by kernel_rfl) ?_ _
            go_wp2_with fail
            exact ⟨⟨k + 1, by rw [HZ2.out], by go_num, by have := HKK.out; omega, by have := HKK.out; omega, Lib.hid ⟨HJq4.out, HBq4.out⟩⟩, by simp only [intOf]; have := HKK.out; omega⟩
        · obtain rfl : k = 5 := by omega
          have hmk : min l.length 5 = 5 := by have := HL.out.1; omega
          have hminv : (if (5 : Int) < (n : Int) then 5 else (n : Int)) = (5 : Int) := by split <;> omega
          have HA0 : Hid (allE l po = if po = (5 : Int) then extT l po 5 ++ poisT else extT l po 5) := Lib.hid (by unfold allE; rw [hmk]; rfl)
          have yE := extT_size l po 5
          have yP := poisT_size
          by_cases hp : po = (5 : Int)
          · have hpb : (po == (5 : Int)) = true := by simpa using hp
            have HA1 : Hid (allE l po = extT l po 5 ++ poisT) := Lib.hid (by rw [HA0.out, if_pos hp])
            have PC := poison_any wr
            have hzz : ¬ (((extT l po 5).size + poisT.size : Nat) : Int) > 9223372036854775807 := by omega
            generalize extT l po 5 = E1 at *
            generalize poisT = PO at *
            have HA : Hid (allE l po = E1 ++ PO) := Lib.hid HA1.out
            have hz : ¬ (E1 ++ PO).size = 0 := by rw [size_app]; omega
            clear HA0 HA1 hp yE yP hmk hl5 hkn hk5
            go_wp2_with fail
            refine PC.mono ?_
            rintro e w4 ⟨rfl, b4⟩
            have HBK := Lib.hid (HJ.out.2.trans (b4.mono HJ.out.2.size))
            clear PC b4 c3 c4
            have hE2Z : (E1 ++ PO).size ≤ 516 := by have := allE_size l po; rw [HA.out] at this; exact this
            have hne : ((E1 ++ PO).toList == []) = false := by
              rw [beq_eq_false_iff_ne]
              intro e
              rw [ByteArray.toList_eq] at e
              have := congrArg List.length e
              rw [Array.length_toList] at this
              exact hz this
            have hw1 := wrapT_size 48 (E1 ++ PO)
            have hw2 := wrapT_size 163 (wrapT 48 (E1 ++ PO))
            have K11 := fun wx => item_any 48 (E1 ++ PO) wx (by decide) (by omega)
            have K12 := fun wx => item_any 163 (wrapT 48 (E1 ++ PO)) wx (by decide) (by omega)
            have HBD : Hid (bodyT true name key l po = S6 ++ wrapT 163 (wrapT 48 (E1 ++ PO))) := Lib.hid (by unfold bodyT; rw [HA.out, if_neg hz, HHE.out])
            have hS6 := HS6Z.out
            generalize hW1 : wrapT 48 (E1 ++ PO) = W1 at K11 K12 HBD hw1 hw2
            clear hW1
            generalize wrapT 163 W1 = W2 at K12 HBD hw2
            have z0 : ¬ ((S6.size + W2.size : Nat) : Int) > 9223372036854775807 := by omega
            clear hE2Z hw1 hw2 hS6 hz
            go_wp2_with fail
            refine (K11 _).mono ?_
            rintro e w5 ⟨rfl, b5⟩
            have HB5 := Lib.hid (HBK.out.trans (b5.mono HBK.out.size))
            clear b5 K11
            go_wp2_with fail
            refine (K12 _).mono ?_
            rintro e w6 ⟨rfl, b6⟩
            have HBL := Lib.hid (HB5.out.trans (b6.mono HB5.out.size))
            clear b6 K12
            have hBZ : (S6 ++ W2).size ≤ 726 := by have := bodyT_size true name key l po; rw [HBD.out] at this; exact this
            have hV1 := wrapT_size 48 (S6 ++ W2)
            have hX2 : X2.size ≤ 7 := by rw [HX2.out]; exact wrapT_size 48 ⟨#[5, 0]⟩
            have hV3 : (wrapT 3 ⟨#[0, 115, 105, 103]⟩).size ≤ 9 := wrapT_size 3 ⟨#[0, 115, 105, 103]⟩
            have K13 := fun wx => item_any 48 (S6 ++ W2) wx (by decide) (by omega)
            have K15 := fun wx => item_any 3 ⟨#[0, 115, 105, 103]⟩ wx (by decide) (by decide)
            have HCE : Hid (certT true name key l po = wrapT 48 (wrapT 48 (S6 ++ W2) ++ X2 ++ wrapT 3 ⟨#[0, 115, 105, 103]⟩)) := Lib.hid (by unfold certT; rw [HBD.out, ← HX2.out])
            generalize wrapT 48 (S6 ++ W2) = V1 at K13 HCE hV1
            generalize wrapT 3 ⟨#[0, 115, 105, 103]⟩ = V3 at K15 HCE hV3
            have z1 : ¬ ((V1.size + X2.size : Nat) : Int) > 9223372036854775807 := by omega
            have z2 : ¬ (((V1 ++ X2).size + V3.size : Nat) : Int) > 9223372036854775807 := by rw [size_app]; omega
            have z3 : ¬ ((V1.size + X2.size + V3.size : Nat) : Int) > 9223372036854775807 := by omega
            have K16 := fun wx => item_any 48 (V1 ++ X2 ++ V3) wx (by decide) (by rw [size_app, size_app]; omega)
            rw [← HCE.out] at K16
            clear hBZ hV1 hX2 hV3
            go_wp2_with fail
            refine (K13 _).mono ?_
            rintro e w7 ⟨rfl, b7⟩
            have HB7 := Lib.hid (HBL.out.trans (b7.mono HBL.out.size))
            clear b7 K13
            go_wp2_with fail
            refine (K2 _).mono ?_
            rintro e w8 ⟨rfl, b8⟩
            have HB8 := Lib.hid (HB7.out.trans (b8.mono HB7.out.size))
            clear b8 K2
            go_wp2_with fail
            refine (K15 _).mono ?_
            rintro e w9 ⟨rfl, b9⟩
            have HB9 := Lib.hid (HB8.out.trans (b9.mono HB8.out.size))
            clear b9 K15
            go_wp2_with fail
            refine (K16 _).mono ?_
            rintro e wz ⟨rfl, bz⟩
            have HBE := Lib.hid (HB9.out.trans (bz.mono HB9.out.size))
            clear bz K16
            go_wp2_with fail
            go_ret
            exact ⟨rfl, HBE.out⟩
          · have hpb : (po == (5 : Int)) = false := by simpa using hp
            have HA : Hid (allE l po = extT l po 5) := Lib.hid (by rw [HA0.out, if_neg hp])
            generalize extT l po 5 = E2 at *
            have HBK := Lib.hid HJ.out.2
            clear HA0 hp yE yP hmk hl5 hkn hk5
            by_cases hz : E2.size = 0
            · obtain rfl : E2 = ⟨#[]⟩ := text_none14 hz
              have HBL := HBK
              have HBD : Hid (bodyT true name key l po = S6) := Lib.hid (by unfold bodyT; rw [HA.out, if_pos hz, HHE.out])
              clear hz
              have hBZ : S6.size ≤ 726 := by have := bodyT_size true name key l po; rw [HBD.out] at this; exact this
              have hV1 := wrapT_size 48 S6
              have hX2 : X2.size ≤ 7 := by rw [HX2.out]; exact wrapT_size 48 ⟨#[5, 0]⟩
              have hV3 : (wrapT 3 ⟨#[0, 115, 105, 103]⟩).size ≤ 9 := wrapT_size 3 ⟨#[0, 115, 105, 103]⟩
              have K13 := fun wx => item_any 48 S6 wx (by decide) (by omega)
              have K15 := fun wx => item_any 3 ⟨#[0, 115, 105, 103]⟩ wx (by decide) (by decide)
              have HCE : Hid (certT true name key l po = wrapT 48 (wrapT 48 S6 ++ X2 ++ wrapT 3 ⟨#[0, 115, 105, 103]⟩)) := Lib.hid (by unfold certT; rw [HBD.out, ← HX2.out])
              generalize wrapT 48 S6 = V1 at K13 HCE hV1
              generalize wrapT 3 ⟨#[0, 115, 105, 103]⟩ = V3 at K15 HCE hV3
              have z1 : ¬ ((V1.size + X2.size : Nat) : Int) > 9223372036854775807 := by omega
              have z2 : ¬ (((V1 ++ X2).size + V3.size : Nat) : Int) > 9223372036854775807 := by rw [size_app]; omega
              have z3 : ¬ ((V1.size + X2.size + V3.size : Nat) : Int) > 9223372036854775807 := by omega
              have K16 := fun wx => item_any 48 (V1 ++ X2 ++ V3) wx (by decide) (by rw [size_app, size_app]; omega)
              rw [← HCE.out] at K16
              clear hBZ hV1 hX2 hV3
              go_wp2_with fail
              refine (K13 _).mono ?_
              rintro e w7 ⟨rfl, b7⟩
              have HB7 := Lib.hid (HBL.out.trans (b7.mono HBL.out.size))
              clear b7 K13
              go_wp2_with fail
              refine (K2 _).mono ?_
              rintro e w8 ⟨rfl, b8⟩
              have HB8 := Lib.hid (HB7.out.trans (b8.mono HB7.out.size))
              clear b8 K2
              go_wp2_with fail
              refine (K15 _).mono ?_
              rintro e w9 ⟨rfl, b9⟩
              have HB9 := Lib.hid (HB8.out.trans (b9.mono HB8.out.size))
              clear b9 K15
              go_wp2_with fail
              refine (K16 _).mono ?_
              rintro e wz ⟨rfl, bz⟩
              have HBE := Lib.hid (HB9.out.trans (bz.mono HB9.out.size))
              clear bz K16
              go_wp2_with fail
              go_ret
              exact ⟨rfl, HBE.out⟩
            · have hE2Z : E2.size ≤ 516 := by have := allE_size l po; rw [HA.out] at this; exact this
              have hne : (E2.toList == []) = false := by
                rw [beq_eq_false_iff_ne]
                intro e
                rw [ByteArray.toList_eq] at e
                have := congrArg List.length e
                rw [Array.length_toList] at this
                exact hz this
              have hw1 := wrapT_size 48 E2
              have hw2 := wrapT_size 163 (wrapT 48 E2)
              have K11 := fun wx => item_any 48 E2 wx (by decide) (by omega)
              have K12 := fun wx => item_any 163 (wrapT 48 E2) wx (by decide) (by omega)
              have HBD : Hid (bodyT true name key l po = S6 ++ wrapT 163 (wrapT 48 E2)) := Lib.hid (by unfold bodyT; rw [HA.out, if_neg hz, HHE.out])
              have hS6 := HS6Z.out
              generalize hW1 : wrapT 48 E2 = W1 at K11 K12 HBD hw1 hw2
              clear hW1
              generalize wrapT 163 W1 = W2 at K12 HBD hw2
              have z0 : ¬ ((S6.size + W2.size : Nat) : Int) > 9223372036854775807 := by omega
              clear hE2Z hw1 hw2 hS6 hz
              go_wp2_with fail
              refine (K11 _).mono ?_
              rintro e w5 ⟨rfl, b5⟩
              have HB5 := Lib.hid (HBK.out.trans (b5.mono HBK.out.size))
              clear b5 K11
              go_wp2_with fail
              refine (K12 _).mono ?_
              rintro e w6 ⟨rfl, b6⟩
              have HBL := Lib.hid (HB5.out.trans (b6.mono HB5.out.size))
              clear b6 K12
              have hBZ : (S6 ++ W2).size ≤ 726 := by have := bodyT_size true name key l po; rw [HBD.out] at this; exact this
              have hV1 := wrapT_size 48 (S6 ++ W2)
              have hX2 : X2.size ≤ 7 := by rw [HX2.out]; exact wrapT_size 48 ⟨#[5, 0]⟩
              have hV3 : (wrapT 3 ⟨#[0, 115, 105, 103]⟩).size ≤ 9 := wrapT_size 3 ⟨#[0, 115, 105, 103]⟩
              have K13 := fun wx => item_any 48 (S6 ++ W2) wx (by decide) (by omega)
              have K15 := fun wx => item_any 3 ⟨#[0, 115, 105, 103]⟩ wx (by decide) (by decide)
              have HCE : Hid (certT true name key l po = wrapT 48 (wrapT 48 (S6 ++ W2) ++ X2 ++ wrapT 3 ⟨#[0, 115, 105, 103]⟩)) := Lib.hid (by unfold certT; rw [HBD.out, ← HX2.out])
              generalize wrapT 48 (S6 ++ W2) = V1 at K13 HCE hV1
              generalize wrapT 3 ⟨#[0, 115, 105, 103]⟩ = V3 at K15 HCE hV3
              have z1 : ¬ ((V1.size + X2.size : Nat) : Int) > 9223372036854775807 := by omega
              have z2 : ¬ (((V1 ++ X2).size + V3.size : Nat) : Int) > 9223372036854775807 := by rw [size_app]; omega
              have z3 : ¬ ((V1.size + X2.size + V3.size : Nat) : Int) > 9223372036854775807 := by omega
              have K16 := fun wx => item_any 48 (V1 ++ X2 ++ V3) wx (by decide) (by rw [size_app, size_app]; omega)
              rw [← HCE.out] at K16
              clear hBZ hV1 hX2 hV3
              go_wp2_with fail
              refine (K13 _).mono ?_
              rintro e w7 ⟨rfl, b7⟩
              have HB7 := Lib.hid (HBL.out.trans (b7.mono HBL.out.size))
              clear b7 K13
              go_wp2_with fail
              refine (K2 _).mono ?_
              rintro e w8 ⟨rfl, b8⟩
              have HB8 := Lib.hid (HB7.out.trans (b8.mono HB7.out.size))
              clear b8 K2
              go_wp2_with fail
              refine (K15 _).mono ?_
              rintro e w9 ⟨rfl, b9⟩
              have HB9 := Lib.hid (HB8.out.trans (b9.mono HB8.out.size))
              clear b9 K15
              go_wp2_with fail
              refine (K16 _).mono ?_
              rintro e wz ⟨rfl, bz⟩
              have HBE := Lib.hid (HB9.out.trans (bz.mono HB9.out.size))
              clear bz K16
              go_wp2_with fail
              go_ret
              exact ⟨rfl, HBE.out⟩
      · obtain rfl : k = n := by omega
        have hlti : ¬ (k : Int) < (k : Int) := by omega
        have hmk : min l.length 5 = k := by have := HL.out.1; omega
        have hminv : (if (5 : Int) < (k : Int) then 5 else (k : Int)) = (k : Int) := by split <;> omega
        have HA0 : Hid (allE l po = if po = (k : Int) then extT l po k ++ poisT else extT l po k) := Lib.hid (by unfold allE; rw [hmk])
        have yE := extT_size l po k
        have yP := poisT_size
        by_cases hp : po = (k : Int)
        · have hpb : (po == (k : Int)) = true := by simpa using hp
          have HA1 : Hid (allE l po = extT l po k ++ poisT) := Lib.hid (by rw [HA0.out, if_pos hp])
          have PC := poison_any wr
          have hzz : ¬ (((extT l po k).size + poisT.size : Nat) : Int) > 9223372036854775807 := by omega
          generalize extT l po k = E1 at *
          generalize poisT = PO at *
          have HA : Hid (allE l po = E1 ++ PO) := Lib.hid HA1.out
          have hz : ¬ (E1 ++ PO).size = 0 := by rw [size_app]; omega
          clear HA0 HA1 hp yE yP hmk hlt hkn hk5
          go_wp2_with fail
          refine PC.mono ?_
          rintro e w4 ⟨rfl, b4⟩
          have HBK := Lib.hid (HJ.out.2.trans (b4.mono HJ.out.2.size))
          clear PC b4 c3 c4
          have hE2Z : (E1 ++ PO).size ≤ 516 := by have := allE_size l po; rw [HA.out] at this; exact this
          have hne : ((E1 ++ PO).toList == []) = false := by
            rw [beq_eq_false_iff_ne]
            intro e
            rw [ByteArray.toList_eq] at e
            have := congrArg List.length e
            rw [Array.length_toList] at this
            exact hz this
          have hw1 := wrapT_size 48 (E1 ++ PO)
          have hw2 := wrapT_size 163 (wrapT 48 (E1 ++ PO))
          have K11 := fun wx => item_any 48 (E1 ++ PO) wx (by decide) (by omega)
          have K12 := fun wx => item_any 163 (wrapT 48 (E1 ++ PO)) wx (by decide) (by omega)
          have HBD : Hid (bodyT true name key l po = S6 ++ wrapT 163 (wrapT 48 (E1 ++ PO))) := Lib.hid (by unfold bodyT; rw [HA.out, if_neg hz, HHE.out])
          have hS6 := HS6Z.out
          generalize hW1 : wrapT 48 (E1 ++ PO) = W1 at K11 K12 HBD hw1 hw2
          clear hW1
          generalize wrapT 163 W1 = W2 at K12 HBD hw2
          have z0 : ¬ ((S6.size + W2.size : Nat) : Int) > 9223372036854775807 := by omega
          clear hE2Z hw1 hw2 hS6 hz
          go_wp2_with fail
          refine (K11 _).mono ?_
          rintro e w5 ⟨rfl, b5⟩
          have HB5 := Lib.hid (HBK.out.trans (b5.mono HBK.out.size))
          clear b5 K11
          go_wp2_with fail
          refine (K12 _).mono ?_
          rintro e w6 ⟨rfl, b6⟩
          have HBL := Lib.hid (HB5.out.trans (b6.mono HB5.out.size))
          clear b6 K12
          have hBZ : (S6 ++ W2).size ≤ 726 := by have := bodyT_size true name key l po; rw [HBD.out] at this; exact this
          have hV1 := wrapT_size 48 (S6 ++ W2)
          have hX2 : X2.size ≤ 7 := by rw [HX2.out]; exact wrapT_size 48 ⟨#[5, 0]⟩
          have hV3 : (wrapT 3 ⟨#[0, 115, 105, 103]⟩).size ≤ 9 := wrapT_size 3 ⟨#[0, 115, 105, 103]⟩
          have K13 := fun wx => item_any 48 (S6 ++ W2) wx (by decide) (by omega)
          have K15 := fun wx => item_any 3 ⟨#[0, 115, 105, 103]⟩ wx (by decide) (by decide)
          have HCE : Hid (certT true name key l po = wrapT 48 (wrapT 48 (S6 ++ W2) ++ X2 ++ wrapT 3 ⟨#[0, 115, 105, 103]⟩)) := Lib.hid (by unfold certT; rw [HBD.out, ← HX2.out])
          generalize wrapT 48 (S6 ++ W2) = V1 at K13 HCE hV1
          generalize wrapT 3 ⟨#[0, 115, 105, 103]⟩ = V3 at K15 HCE hV3
          have z1 : ¬ ((V1.size + X2.size : Nat) : Int) > 9223372036854775807 := by omega
          have z2 : ¬ (((V1 ++ X2).size + V3.size : Nat) : Int) > 9223372036854775807 := by rw [size_app]; omega
          have z3 : ¬ ((V1.size + X2.size + V3.size : Nat) : Int) > 9223372036854775807 := by omega
          have K16 := fun wx => item_any 48 (V1 ++ X2 ++ V3) wx (by decide) (by rw [size_app, size_app]; omega)
          rw [← HCE.out] at K16
          clear hBZ hV1 hX2 hV3
          go_wp2_with fail
          refine (K13 _).mono ?_
          rintro e w7 ⟨rfl, b7⟩
          have HB7 := Lib.hid (HBL.out.trans (b7.mono HBL.out.size))
          clear b7 K13
          go_wp2_with fail
          refine (K2 _).mono ?_
          rintro e w8 ⟨rfl, b8⟩
          have HB8 := Lib.hid (HB7.out.trans (b8.mono HB7.out.size))
          clear b8 K2
          go_wp2_with fail
          refine (K15 _).mono ?_
          rintro e w9 ⟨rfl, b9⟩
          have HB9 := Lib.hid (HB8.out.trans (b9.mono HB8.out.size))
          clear b9 K15
          go_wp2_with fail
          refine (K16 _).mono ?_
          rintro e wz ⟨rfl, bz⟩
          have HBE := Lib.hid (HB9.out.trans (bz.mono HB9.out.size))
          clear bz K16
          go_wp2_with fail
          go_ret
          exact ⟨rfl, HBE.out⟩
        · have hpb : (po == (k : Int)) = false := by simpa using hp
          have HA : Hid (allE l po = extT l po k) := Lib.hid (by rw [HA0.out, if_neg hp])
          generalize extT l po k = E2 at *
          have HBK := Lib.hid HJ.out.2
          clear HA0 hp yE yP hmk hlt hkn hk5
          by_cases hz : E2.size = 0
          · obtain rfl : E2 = ⟨#[]⟩ := text_none14 hz
            have HBL := HBK
            have HBD : Hid (bodyT true name key l po = S6) := Lib.hid (by unfold bodyT; rw [HA.out, if_pos hz, HHE.out])
            clear hz
            have hBZ : S6.size ≤ 726 := by have := bodyT_size true name key l po; rw [HBD.out] at this; exact this
            have hV1 := wrapT_size 48 S6
            have hX2 : X2.size ≤ 7 := by rw [HX2.out]; exact wrapT_size 48 ⟨#[5, 0]⟩
            have hV3 : (wrapT 3 ⟨#[0, 115, 105, 103]⟩).size ≤ 9 := wrapT_size 3 ⟨#[0, 115, 105, 103]⟩
            have K13 := fun wx => item_any 48 S6 wx (by decide) (by omega)
            have K15 := fun wx => item_any 3 ⟨#[0, 115, 105, 103]⟩ wx (by decide) (by decide)
            have HCE : Hid (certT true name key l po = wrapT 48 (wrapT 48 S6 ++ X2 ++ wrapT 3 ⟨#[0, 115, 105, 103]⟩)) := Lib.hid (by unfold certT; rw [HBD.out, ← HX2.out])
            generalize wrapT 48 S6 = V1 at K13 HCE hV1
            generalize wrapT 3 ⟨#[0, 115, 105, 103]⟩ = V3 at K15 HCE hV3
            have z1 : ¬ ((V1.size + X2.size : Nat) : Int) > 9223372036854775807 := by omega
            have z2 : ¬ (((V1 ++ X2).size + V3.size : Nat) : Int) > 9223372036854775807 := by rw [size_app]; omega
            have z3 : ¬ ((V1.size + X2.size + V3.size : Nat) : Int) > 9223372036854775807 := by omega
            have K16 := fun wx => item_any 48 (V1 ++ X2 ++ V3) wx (by decide) (by rw [size_app, size_app]; omega)
            rw [← HCE.out] at K16
            clear hBZ hV1 hX2 hV3
            go_wp2_with fail
            refine (K13 _).mono ?_
            rintro e w7 ⟨rfl, b7⟩
            have HB7 := Lib.hid (HBL.out.trans (b7.mono HBL.out.size))
            clear b7 K13
            go_wp2_with fail
            refine (K2 _).mono ?_
            rintro e w8 ⟨rfl, b8⟩
            have HB8 := Lib.hid (HB7.out.trans (b8.mono HB7.out.size))
            clear b8 K2
            go_wp2_with fail
            refine (K15 _).mono ?_
            rintro e w9 ⟨rfl, b9⟩
            have HB9 := Lib.hid (HB8.out.trans (b9.mono HB8.out.size))
            clear b9 K15
            go_wp2_with fail
            refine (K16 _).mono ?_
            rintro e wz ⟨rfl, bz⟩
            have HBE := Lib.hid (HB9.out.trans (bz.mono HB9.out.size))
            clear bz K16
            go_wp2_with fail
            go_ret
            exact ⟨rfl, HBE.out⟩
          · have hE2Z : E2.size ≤ 516 := by have := allE_size l po; rw [HA.out] at this; exact this
            have hne : (E2.toList == []) = false := by
              rw [beq_eq_false_iff_ne]
              intro e
              rw [ByteArray.toList_eq] at e
              have := congrArg List.length e
              rw [Array.length_toList] at this
              exact hz this
            have hw1 := wrapT_size 48 E2
            have hw2 := wrapT_size 163 (wrapT 48 E2)
            have K11 := fun wx => item_any 48 E2 wx (by decide) (by omega)
            have K12 := fun wx => item_any 163 (wrapT 48 E2) wx (by decide) (by omega)
            have HBD : Hid (bodyT true name key l po = S6 ++ wrapT 163 (wrapT 48 E2)) := Lib.hid (by unfold bodyT; rw [HA.out, if_neg hz, HHE.out])
            have hS6 := HS6Z.out
            generalize hW1 : wrapT 48 E2 = W1 at K11 K12 HBD hw1 hw2
            clear hW1
            generalize wrapT 163 W1 = W2 at K12 HBD hw2
            have z0 : ¬ ((S6.size + W2.size : Nat) : Int) > 9223372036854775807 := by omega
            clear hE2Z hw1 hw2 hS6 hz
            go_wp2_with fail
            refine (K11 _).mono ?_
            rintro e w5 ⟨rfl, b5⟩
            have HB5 := Lib.hid (HBK.out.trans (b5.mono HBK.out.size))
            clear b5 K11
            go_wp2_with fail
            refine (K12 _).mono ?_
            rintro e w6 ⟨rfl, b6⟩
            have HBL := Lib.hid (HB5.out.trans (b6.mono HB5.out.size))
            clear b6 K12
            have hBZ : (S6 ++ W2).size ≤ 726 := by have := bodyT_size true name key l po; rw [HBD.out] at this; exact this
            have hV1 := wrapT_size 48 (S6 ++ W2)
            have hX2 : X2.size ≤ 7 := by rw [HX2.out]; exact wrapT_size 48 ⟨#[5, 0]⟩
            have hV3 : (wrapT 3 ⟨#[0, 115, 105, 103]⟩).size ≤ 9 := wrapT_size 3 ⟨#[0, 115, 105, 103]⟩
            have K13 := fun wx => item_any 48 (S6 ++ W2) wx (by decide) (by omega)
            have K15 := fun wx => item_any 3 ⟨#[0, 115, 105, 103]⟩ wx (by decide) (by decide)
            have HCE : Hid (certT true name key l po = wrapT 48 (wrapT 48 (S6 ++ W2) ++ X2 ++ wrapT 3 ⟨#[0, 115, 105, 103]⟩)) := Lib.hid (by unfold certT; rw [HBD.out, ← HX2.out])
            generalize wrapT 48 (S6 ++ W2) = V1 at K13 HCE hV1
            generalize wrapT 3 ⟨#[0, 115, 105, 103]⟩ = V3 at K15 HCE hV3
            have z1 : ¬ ((V1.size + X2.size : Nat) : Int) > 9223372036854775807 := by omega
            have z2 : ¬ (((V1 ++ X2).size + V3.size : Nat) : Int) > 9223372036854775807 := by rw [size_app]; omega
            have z3 : ¬ ((V1.size + X2.size + V3.size : Nat) : Int) > 9223372036854775807 := by omega
            have K16 := fun wx => item_any 48 (V1 ++ X2 ++ V3) wx (by decide) (by rw [size_app, size_app]; omega)
            rw [← HCE.out] at K16
            clear hBZ hV1 hX2 hV3
            go_wp2_with fail
            refine (K13 _).mono ?_
            rintro e w7 ⟨rfl, b7⟩
            have HB7 := Lib.hid (HBL.out.trans (b7.mono HBL.out.size))
            clear b7 K13
            go_wp2_with fail
            refine (K2 _).mono ?_
            rintro e w8 ⟨rfl, b8⟩
            have HB8 := Lib.hid (HB7.out.trans (b8.mono HB7.out.size))
            clear b8 K2
            go_wp2_with fail
            refine (K15 _).mono ?_
            rintro e w9 ⟨rfl, b9⟩
            have HB9 := Lib.hid (HB8.out.trans (b9.mono HB8.out.size))
            clear b9 K15
            go_wp2_with fail
            refine (K16 _).mono ?_
            rintro e wz ⟨rfl, bz⟩
            have HBE := Lib.hid (HB9.out.trans (bz.mono HB9.out.size))
            clear bz K16
            go_wp2_with fail
            go_ret
            exact ⟨rfl, HBE.out⟩
end Go.Proofs.Ytkbjgaobhbiieaa
/- What the developers' functions of chapter 14 answer (contracts: shown where their code is there); the law's examples. -/
namespace Go.Proofs.Ytkbjgaobhbiieaa
open Go.RowKit
/-- An error where there is no item. -/
def errI (o : Option It) : Nat := if o.isSome then 0 else 2
def NextC : Prop := ∀ (s : ByteArray) (w : World), s.size ≤ 281474976710656 → Calls Try.prog 8 #[.string s] w fun e w' => e = .returned (.tuple #[.agg (cellsI (nextD s)), .int .i64 (errI (nextD s) : Int)]) ∧ Below w.heap.size w w'
def WrapC : Prop := ∀ (tag : Int) (x : ByteArray) (w : World), x.size ≤ 281474976710656 → Calls Try.prog 10 #[.int .i64 tag, .string x] w fun e w' => e = .returned (.tuple #[.string (wrapS tag x).1, .int .i64 ((wrapS tag x).2 : Int)]) ∧ Below w.heap.size w w'
def PartsC : Prop := ∀ (s : ByteArray) (w : World), s.size ≤ 281474976710656 → Calls Try.prog 12 #[.string s] w fun e w' => ∃ v, e = .returned (.tuple #[v, .int .i64 ((partsF 100 s).2 : Int)]) ∧ LS 24 3 w.heap.size w ((partsF 100 s).1.map encIt) v w'
def StripX : Prop := ∀ (w : World), Calls Try.prog 17 #[.string (certT false ⟨#[120]⟩ ⟨#[]⟩ [] 0)] w fun e w' => ∃ t, e = .returned (.tuple #[.string t, .bool true, .int .i64 0]) ∧ Below w.heap.size w w'
theorem itemD_size : (Try.prog.info? 24).map (·.size) = some 3 := by kernel_rfl
theorem certD_size : (Try.prog.info? 47).map (·.size) = some 5 := by kernel_rfl
theorem cells3_one (a : Int) (b c : ByteArray) : (#[Value.int .i64 a, .string b, .string c] : Array Value).all (·.oneCell') = true := by simp [Value.oneCell']
theorem cells5_one (a b : ByteArray) (v : Bool) (p : Option Addr) (n c : Nat) (k : Int) : (#[Value.string a, .string b, .bool v, .slice p n c, .int .i64 k] : Array Value).all (·.oneCell') = true := by simp [Value.oneCell']
set_option maxRecDepth 100000 in
set_option maxHeartbeats 4000000 in
theorem examples14_any (hN : NextC) (hW : WrapC) (hS : StripX) (w : World) :
    Calls Try.prog 7 #[] w fun e w' => e = .returned (.bool true) ∧ Below w.heap.size w w' := by
  have N1 := fun wx => hN ⟨#[48, 2, 97, 98, 99]⟩ wx (by decide)
  have N2 := fun wx => hN ⟨#[48, 129, 2, 97, 98]⟩ wx (by decide)
  have U1 := fun wx => hW 48 ⟨#[97, 98]⟩ wx (by decide)
  rw [show nextD ⟨#[48, 2, 97, 98, 99]⟩ = some (48, ⟨#[97, 98]⟩, ⟨#[99]⟩) by decide +kernel] at N1
  rw [show nextD ⟨#[48, 129, 2, 97, 98]⟩ = none by decide +kernel] at N2
  rw [show wrapS 48 ⟨#[97, 98]⟩ = (⟨#[48, 2, 97, 98]⟩, 0) by decide +kernel] at U1
  have SX := hS
  unfold StripX at SX
  have CB := fun wx h => certBytes_any false ⟨#[120]⟩ ⟨#[]⟩ 0 none 0 0 [] wx h
  generalize certT false ⟨#[120]⟩ ⟨#[]⟩ [] 0 = XC at SX CB
  clear hN hW hS
  go_enter Try.func7, Try.ntmps7
  go_wp2_with fail
  refine (N1 w).mono ?_
  rintro e w1 ⟨rfl, b1⟩
  have HZ1 := Lib.hid (Blk.new w1 24 #[.int .i64 0, .string ⟨#[]⟩, .string ⟨#[]⟩])
  have hb1 := below_setRow' ((Below.refl w1.heap.size w1).alloc (Nat.le_refl _) (.cells #[.int .i64 0, .string ⟨#[]⟩, .string ⟨#[]⟩] 24)) (Nat.le_refl _) #[.int .i64 48, .string ⟨#[97, 98]⟩, .string ⟨#[99]⟩]
  have hz1 := HZ1.out.row_ #[.int .i64 48, .string ⟨#[97, 98]⟩, .string ⟨#[99]⟩]
  obtain ⟨q1, hq1⟩ : ∃ q, q = w1.heap.size := ⟨_, rfl⟩
  obtain ⟨W1, hW1⟩ : ∃ W, W = (w1.alloc (.cells #[.int .i64 0, .string ⟨#[]⟩, .string ⟨#[]⟩] 24)).setRow w1.heap.size #[.int .i64 48, .string ⟨#[97, 98]⟩, .string ⟨#[99]⟩] := ⟨_, rfl⟩
  rw [← hW1] at hb1 hz1
  rw [← hq1] at hz1
  have HW1 := Lib.hid hW1
  have HQ1 := Lib.hid hq1
  clear hW1 hq1
  clear N1
  go_wp2_with (refine wpList_store_row rfl 24 _ _ rfl w1.heap.size #[.int .i64 48, .string ⟨#[97, 98]⟩, .string ⟨#[99]⟩] rfl rfl 24 _ HZ1.out itemD_size rfl (cells3_one _ _ _) ?_; rw [← HW1.out, ← HQ1.out])
  refine (U1 W1).mono ?_
  rintro e w2 ⟨rfl, b2⟩
  have hz2 := hz1.below b2 hz1.lt
  have B2 := (b1.trans (hb1.mono b1.size)).trans (b2.mono (b1.trans (hb1.mono b1.size)).size)
  clear U1 b1 hb1 hz1 b2
  go_wp2_with fail
  refine (N2 w2).mono ?_
  rintro e w3 ⟨rfl, b3⟩
  have hz3 := hz2.below b3 hz2.lt
  have B3 := B2.trans (b3.mono B2.size)
  clear N2 hz2 B2 b3
  have HZ4 := Lib.hid (Blk.new w3 24 #[.int .i64 0, .string ⟨#[]⟩, .string ⟨#[]⟩])
  have hb4 := below_setRow' ((Below.refl w3.heap.size w3).alloc (Nat.le_refl _) (.cells #[.int .i64 0, .string ⟨#[]⟩, .string ⟨#[]⟩] 24)) (Nat.le_refl _) #[.int .i64 0, .string ⟨#[]⟩, .string ⟨#[]⟩]
  have hz4 := HZ4.out.row_ #[.int .i64 0, .string ⟨#[]⟩, .string ⟨#[]⟩]
  obtain ⟨q4, hq4⟩ : ∃ q, q = w3.heap.size := ⟨_, rfl⟩
  obtain ⟨W4, hW4⟩ : ∃ W, W = (w3.alloc (.cells #[.int .i64 0, .string ⟨#[]⟩, .string ⟨#[]⟩] 24)).setRow w3.heap.size #[.int .i64 0, .string ⟨#[]⟩, .string ⟨#[]⟩] := ⟨_, rfl⟩
  rw [← hW4] at hb4 hz4
  rw [← hq4] at hz4
  have HW4 := Lib.hid hW4
  have HQ4 := Lib.hid hq4
  clear hW4 hq4
  have hx4 := hz3.below hb4 hz3.lt
  have B4 := B3.trans (hb4.mono B3.size)
  clear hz3 hb4 B3 hz4
  have HZ5 := Lib.hid (Blk.new W4 47 #[.string ⟨#[]⟩, .string ⟨#[]⟩, .bool false, .slice none 0 0, .int .i64 0])
  have hb5 := below_setRow' ((Below.refl W4.heap.size W4).alloc (Nat.le_refl _) (.cells #[.string ⟨#[]⟩, .string ⟨#[]⟩, .bool false, .slice none 0 0, .int .i64 0] 47)) (Nat.le_refl _) #[.string ⟨#[120]⟩, .string ⟨#[]⟩, .bool false, .slice none 0 0, .int .i64 0]
  have hz5 := HZ5.out.row_ #[.string ⟨#[120]⟩, .string ⟨#[]⟩, .bool false, .slice none 0 0, .int .i64 0]
  obtain ⟨q5, hq5⟩ : ∃ q, q = W4.heap.size := ⟨_, rfl⟩
  obtain ⟨W5, hW5⟩ : ∃ W, W = (W4.alloc (.cells #[.string ⟨#[]⟩, .string ⟨#[]⟩, .bool false, .slice none 0 0, .int .i64 0] 47)).setRow W4.heap.size #[.string ⟨#[120]⟩, .string ⟨#[]⟩, .bool false, .slice none 0 0, .int .i64 0] := ⟨_, rfl⟩
  rw [← hW5] at hb5 hz5
  rw [← hq5] at hz5
  have HW5 := Lib.hid hW5
  have HQ5 := Lib.hid hq5
  clear hW5 hq5
  have hx5 := hx4.below hb5 hx4.lt
  have B5 := B4.trans (hb5.mono B4.size)
  have d0 : W5.cell? ⟨q5, 0, none⟩ = some (.string ⟨#[120]⟩) := hz5.cell 0
  have d1 : W5.cell? ⟨q5, 1, none⟩ = some (.string ⟨#[]⟩) := hz5.cell 1
  have d2 : W5.cell? ⟨q5, 2, none⟩ = some (.bool false) := hz5.cell 2
  have d3 : W5.cell? ⟨q5, 3, none⟩ = some (.slice none 0 0) := hz5.cell 3
  have d4 : W5.cell? ⟨q5, 4, none⟩ = some (.int .i64 0) := hz5.cell 4
  have CB5 := CB W5 ⟨rfl, (fun x hx => by cases hx), fun _ => ⟨rfl, rfl⟩, Nat.le_refl _, by decide, (fun a e => by cases e), (fun a e => by cases e)⟩
  clear hx4 hb5 B4 hz5 CB
  go_wp2_with (first | (refine wpList_store_row rfl 24 _ _ rfl w3.heap.size #[.int .i64 0, .string ⟨#[]⟩, .string ⟨#[]⟩] rfl rfl 24 _ HZ4.out itemD_size rfl (cells3_one _ _ _) ?_; rw [← HW4.out, ← HQ4.out]) | (refine wpList_store_row rfl 47 _ _ rfl W4.heap.size #[.string ⟨#[120]⟩, .string ⟨#[]⟩, .bool false, .slice none 0 0, .int .i64 0] rfl rfl 47 _ HZ5.out certD_size rfl (cells5_one _ _ _ _ _ _ _) ?_; rw [← HW5.out, ← HQ5.out]))
  refine CB5.mono ?_
  rintro e w6 ⟨rfl, b6⟩
  have hx6 := hx5.below b6 hx5.lt
  have B6 := B5.trans (b6.mono B5.size)
  clear CB5 hx5 B5 b6 d0 d1 d2 d3 d4
  go_wp2_with fail
  refine (SX w6).mono ?_
  rintro e w7 ⟨t, rfl, b7⟩
  have hx7 := hx6.below b7 hx6.lt
  have HB := Lib.hid (B6.trans (b7.mono B6.size))
  have a0 : w7.cell? ⟨q1, 0, none⟩ = some (.int .i64 48) := hx7.cell 0
  have a1 : w7.cell? ⟨q1, 1, none⟩ = some (.string ⟨#[97, 98]⟩) := hx7.cell 1
  have a2 : w7.cell? ⟨q1, 2, none⟩ = some (.string ⟨#[99]⟩) := hx7.cell 2
  clear SX hx6 B6 b7 hx7
  go_wp2_with fail
  go_ret
  exact ⟨rfl, HB.out⟩
end Go.Proofs.Ytkbjgaobhbiieaa
/- DerLengths of chapter 14, in numbers; a slice of zeros; bytes of a block as a text. -/
namespace Go.Proofs.Ytkbjgaobhbiieaa
open Go.RowKit
theorem u8_infoS : (Try.prog.info? 5).map (fun i => (i.zero, i.size, i.bytes)) = some (some (.int .u8 0), 1, 1) := by kernel_rfl
theorem made_zerosS (n : Nat) : madeCells #[Value.int .u8 0] n = r8 n fun _ => 0#8 := by
  apply Array.ext
  · rw [size_madeCells, row_size]
  · intro i h1 h2
    have h : i < n := by rw [size_madeCells] at h1; exact h1
    have e := row_get (fun i => Value.int .u8 (iw ((fun _ => 0#8) i : BitVec 8))) h
    rw [Array.getElem?_eq_getElem h2] at e
    rw [Option.some.inj e]
    simp only [madeCells, Array.getElem_map, Array.getElem_range]
    show _ = Value.int .u8 (iw (0#8))
    rw [show iw (0#8) = 0 by unfold iw; rfl]
    simp [Nat.mod_one]
theorem run_zerosS (n : Nat) (hn : n ≤ 281474976710656) (w : World) :
    (Instr.makeSlice 43 (.int .i64 (n : Int)) (.int .i64 (n : Int))).run Try.prog w = .ok (.slice (some ⟨w.heap.size, 0, none⟩) n n) (w.alloc (.cells (r8 n fun _ => 0#8) 5)) := by
  obtain ⟨i0, hi, hz0, hz1, hz2⟩ := info_parts u8_infoS
  have h := run_make (P := Try.prog) w 43 5 i0 (.int .u8 0) Try.underlying43 hi hz0 .i64 .i64 n n (by omega) (Int.le_refl _) (by rw [hz2]; omega) (by omega)
  rw [hz1, Int.toNat_natCast, Nat.mul_one, show Value.cells (.int .u8 0) = #[Value.int .u8 0] from rfl, made_zerosS] at h
  exact h
theorem cly_zeros (n : Nat) (w : World) : ClY n (fun _ => 0) w.heap.size (w.alloc (.cells (r8 n fun _ => 0#8) 5)) := by
  have h := Blk.new w 5 (r8 n fun _ => 0#8)
  refine ⟨fun j hj => ?_, fun j hj => ?_, h.lt⟩
  · have := h.cell j
    rw [this, row_get (fun i => Value.int .u8 (iw ((fun _ => 0#8) i : BitVec 8))) hj]
    rw [show iw (0#8) = 0 by unfold iw; rfl]
    rfl
  · exact h.frozen j
theorem conv_blk (wr : World) (g : Nat) (cs : Array Value) (hb : Blk wr g 5 cs) (l : List Nat) (hl : ∀ x ∈ l, x < 256) (hcs : cs.toList = l.map fun (n : Nat) => Value.int .u8 (n : Int)) (k c : Nat) (hk : l.length = k) :
    (convert 43 9 (.slice (some ⟨g, 0, none⟩) k c)).run Try.prog wr = .ok (.string (tL l)) wr := by
  have hl2 : (asBytes (l.map fun n => BitVec.ofNat 8 n)).length = k := by rw [asBytes_len, List.length_map, hk]
  have := run_convert_bytes_back (P := Try.prog) wr 43 9 5 ⟨g, 0, none⟩ c (asBytes (l.map fun n => BitVec.ofNat 8 n)) Try.underlying43 Try.underlying5 Try.underlying9 (fun j hj => by
    rw [hl2] at hj
    have hj2 : j < l.length := by omega
    rw [addr_add, Nat.zero_add, hb.cell j, ← Array.getElem?_toList, hcs, List.getElem?_map, List.getElem?_eq_getElem hj2]
    have h8 := hl _ (List.getElem_mem hj2)
    simp only [asBytes, List.getElem_map]
    show some (Value.int .u8 (l[j] : Int)) = some (Value.int .u8 ((BitVec.ofNat 8 l[j]).toNat : Int))
    rw [BitVec.toNat_ofNat, Nat.mod_eq_of_lt h8])
  rw [hl2] at this
  rw [this, tL_list]
theorem tL_app (a b : List Nat) (ha : ∀ x ∈ a, x < 256) (hb : ∀ x ∈ b, x < 256) : tL a ++ tL b = tL (a ++ b) := by
  have hab : ∀ x ∈ a ++ b, x < 256 := fun x hx => (List.mem_append.1 hx).elim (ha x) (hb x)
  have one : ∀ (l : List Nat) (i : Nat), i < l.length → (∀ x ∈ l, x < 256) → byteS (tL l) i = l.getD i 0 := fun l i hi hl => by
    have := byteS_tL l ⟨#[]⟩ i hi hl
    rwa [app_noneD] at this
  refine text_same (by rw [size_app, tL_size, tL_size, tL_size, List.length_append]) fun j hj => ?_
  rw [size_app, tL_size, tL_size] at hj
  rw [one (a ++ b) j (by rw [List.length_append]; exact hj) hab]
  by_cases h : j < a.length
  · rw [byteS_tL a _ j h ha, List.getD_eq_getElem?_getD, List.getD_eq_getElem?_getD, List.getElem?_append_left h]
  · rw [byteS_app, tL_size, if_neg h, one b _ (by omega) hb, List.getD_eq_getElem?_getD, List.getD_eq_getElem?_getD, List.getElem?_append_right (by omega)]
/-- How many bytes the head has. -/
def cntK (k i : Nat) : Nat := (if 0 < i ∧ 127 < k then 1 else 0) + (if 1 < i ∧ 255 < k then 1 else 0) + (if 2 < i ∧ 65535 < k then 1 else 0)
theorem wrap_len (T : Nat) (x : ByteArray) : (wrapT T x).size = x.size + (2 + cntK x.size 3) := by
  unfold wrapT cntK
  rw [size_app, tL_size]
  unfold lenL
  generalize x.size = n
  by_cases h1 : n < 128
  · rw [if_pos h1, if_neg (by omega), if_neg (by omega), if_neg (by omega)]; show 2 + n = _; omega
  · rw [if_neg h1]
    by_cases h2 : n < 256
    · rw [if_pos h2, if_pos (by omega), if_neg (by omega), if_neg (by omega)]; show 3 + n = _; omega
    · rw [if_neg h2]
      by_cases h3 : n < 65536
      · rw [if_pos h3, if_pos (by omega), if_pos (by omega), if_neg (by omega)]; show 4 + n = _; omega
      · rw [if_neg h3, if_pos (by omega), if_pos (by omega), if_pos (by omega)]; show 5 + n = _; omega
/-- A length in three bytes. -/
def longT (x : ByteArray) : ByteArray := (⟨#[4, 131]⟩ : ByteArray) ++ tL [x.size / 65536, x.size / 256 % 256, x.size % 256] ++ x
theorem long_is (x : ByteArray) (hx : x.size < 16777216) : longT x = tL [4, 131, x.size / 65536, x.size / 256 % 256, x.size % 256] ++ x := by
  have e : (⟨#[4, 131]⟩ : ByteArray) = tL [4, 131] := by decide +kernel
  unfold longT
  rw [e, tL_app [4, 131] _ (by decide) (fun y hy => by simp only [List.mem_cons, List.not_mem_nil, or_false] at hy; omega)]
  rfl
theorem long_next (x : ByteArray) (hx : x.size < 16777216) : (nextD (longT x)).isSome = decide (65535 < x.size) := by
  rw [long_is x hx]
  by_cases h : 65535 < x.size
  · have e : tL [4, 131, x.size / 65536, x.size / 256 % 256, x.size % 256] ++ x = wrapT 4 x ++ ⟨#[]⟩ := by
      rw [app_noneD]
      unfold wrapT lenL
      rw [if_neg (by omega), if_neg (by omega), if_neg (by omega)]
    rw [e, next_wrap 4 x _ (by decide) (by decide) hx, decide_eq_true h]
    rfl
  · rw [decide_eq_false h]
    have hl : ∀ y ∈ [4, 131, x.size / 65536, x.size / 256 % 256, x.size % 256], y < 256 := fun y hy => by simp only [List.mem_cons, List.not_mem_nil, or_false] at hy; omega
    have hb := fun i hi => byteS_tL [4, 131, x.size / 65536, x.size / 256 % 256, x.size % 256] x i hi hl
    have hz : (tL [4, 131, x.size / 65536, x.size / 256 % 256, x.size % 256] ++ x).size = 5 + x.size := by rw [size_app, tL_size]; rfl
    generalize tL [4, 131, x.size / 65536, x.size / 256 % 256, x.size % 256] ++ x = s at hb hz
    have e0 : byteS s 0 = 4 := hb 0 (by simp)
    have e1 : byteS s 1 = 131 := hb 1 (by simp)
    have e2 : byteS s 2 = x.size / 65536 := hb 2 (by simp)
    have e3 : byteS s 3 = x.size / 256 % 256 := hb 3 (by simp)
    have e4 : byteS s 4 = x.size % 256 := hb 4 (by simp)
    have eb : beA s 2 3 = x.size := by show ((0 * 256 + byteS s 2) * 256 + byteS s 3) * 256 + byteS s 4 = _; rw [e2, e3, e4]; omega
    have hL : lenD s = none := by
      unfold lenD
      rw [e1, if_neg (by decide), if_neg (by omega), show 131 - 128 = 3 from rfl, eb, show 131 - 129 = 2 from rfl, show 256 ^ 2 = 65536 from rfl, if_pos (by omega)]
    unfold nextD
    rw [if_neg (by rw [e0]; omega), hL]
    rfl
end Go.Proofs.Ytkbjgaobhbiieaa
/- Items one behind the other, in numbers. -/
namespace Go.Proofs.Ytkbjgaobhbiieaa
open Go.RowKit
/-- Items one behind the other. -/
def catT : List (Nat × ByteArray) → ByteArray
  | [] => ⟨#[]⟩
  | y :: l => wrapT y.1 y.2 ++ catT l
/-- As they are read: with what stands behind each. -/
def itemsT : List (Nat × ByteArray) → List It
  | [] => []
  | y :: l => (y.1, y.2, catT l) :: itemsT l
def OkT (y : Nat × ByteArray) : Prop := y.1 < 256 ∧ y.1 % 32 ≠ 31 ∧ y.2.size < 16777216
theorem noneD_app (B : ByteArray) : (⟨#[]⟩ : ByteArray) ++ B = B := by apply ByteArray.ext; simp
theorem catT_snoc : ∀ (l : List (Nat × ByteArray)) (y : Nat × ByteArray), catT (l ++ [y]) = catT l ++ wrapT y.1 y.2
  | [], y => by
    show wrapT y.1 y.2 ++ (⟨#[]⟩ : ByteArray) = (⟨#[]⟩ : ByteArray) ++ wrapT y.1 y.2
    rw [app_noneD, noneD_app]
  | z :: l, y => by
    show wrapT z.1 z.2 ++ catT (l ++ [y]) = wrapT z.1 z.2 ++ catT l ++ wrapT y.1 y.2
    rw [catT_snoc l y, app_assocD]
theorem parts_cat : ∀ (l : List (Nat × ByteArray)) (f : Nat), l.length ≤ f → (∀ y ∈ l, OkT y) → partsF f (catT l) = (itemsT l, 0)
  | [], f, _, _ => by cases f <;> (unfold partsF; exact if_pos rfl)
  | y :: l, 0, h, _ => absurd h (by simp)
  | y :: l, f + 1, h, hl => by
    obtain ⟨h1, h2, h3⟩ := hl y (List.mem_cons_self ..)
    have hz : (catT (y :: l)).size ≠ 0 := by
      show (wrapT y.1 y.2 ++ catT l).size ≠ 0
      rw [size_app, wrap_len y.1 y.2]
      omega
    have hn : nextD (catT (y :: l)) = some (y.1, y.2, catT l) := next_wrap y.1 y.2 (catT l) h1 h2 h3
    have ih := parts_cat l f (by simpa using h) fun z hz => hl z (List.mem_cons_of_mem _ hz)
    show (if (catT (y :: l)).size = 0 then ([], 0) else _) = _
    rw [if_neg hz, hn]
    show (if (partsF f (catT l)).2 = 0 then _ else _) = _
    rw [ih]
    rfl
theorem itemsT_len : ∀ l : List (Nat × ByteArray), (itemsT l).length = l.length
  | [] => rfl
  | _ :: l => congrArg (· + 1) (itemsT_len l)
theorem itemsT_text : ∀ (l : List (Nat × ByteArray)) (i : Nat), (itemsT l)[i]?.map (fun y => y.2.1) = l[i]?.map (·.2)
  | [], i => by simp [itemsT]
  | y :: l, 0 => rfl
  | y :: l, i + 1 => by
    show ((y.1, y.2, catT l) :: itemsT l)[i + 1]?.map _ = _
    rw [List.getElem?_cons_succ, List.getElem?_cons_succ]
    exact itemsT_text l i
theorem catT_size : ∀ (l : List (Nat × ByteArray)) (B : Nat), (∀ y ∈ l, y.2.size ≤ B) → (catT l).size ≤ l.length * (B + 5)
  | [], _, _ => Nat.zero_le _
  | y :: l, B, h => by
    have ih := catT_size l B fun z hz => h z (List.mem_cons_of_mem _ hz)
    have h1 := h y (List.mem_cons_self ..)
    show (wrapT y.1 y.2 ++ catT l).size ≤ (l.length + 1) * (B + 5)
    have hk : cntK y.2.size 3 ≤ 3 := by unfold cntK; split <;> split <;> split <;> omega
    rw [size_app, wrap_len y.1 y.2, Nat.add_mul, Nat.one_mul]
    omega
/-- The places (below n) whose tags are tags of one byte. -/
def wantL (g : Nat → Nat) : Nat → List Nat
  | 0 => []
  | i + 1 => if g i % 32 ≠ 31 then wantL g i ++ [i] else wantL g i
theorem wantL_lt (g : Nat → Nat) : ∀ n i, i ∈ wantL g n → i < n ∧ g i % 32 ≠ 31
  | 0, i, h => absurd h (by simp [wantL])
  | n + 1, i, h => by
    unfold wantL at h
    by_cases k : g n % 32 ≠ 31
    · rw [if_pos k, List.mem_append, List.mem_singleton] at h
      rcases h with h | rfl
      · have := wantL_lt g n i h; exact ⟨by omega, this.2⟩
      · exact ⟨Nat.lt_succ_self _, k⟩
    · rw [if_neg k] at h
      have := wantL_lt g n i h
      exact ⟨by omega, this.2⟩
theorem wantL_len (g : Nat → Nat) : ∀ n, (wantL g n).length ≤ n
  | 0 => Nat.le_refl _
  | n + 1 => by
    unfold wantL
    have := wantL_len g n
    split
    · rw [List.length_append, List.length_singleton]; omega
    · omega
end Go.Proofs.Ytkbjgaobhbiieaa
/- Strip in numbers, as the document says it; what is cut, or has something behind, or has the poison twice. -/
namespace Go.Proofs.Ytkbjgaobhbiieaa
open Go.RowKit
/-- The parts of a certificate's body; the error. -/
def bodyD (s : ByteArray) : List It × Nat :=
  if 2000 < s.size then ([], 9) else (nextD s).elim ([], 2) fun y =>
    if y.1 ≠ 48 ∨ y.2.2.size ≠ 0 then ([], 2) else
      if (partsF 100 y.2.1).2 ≠ 0 then ([], 2) else (partsF 100 y.2.1).1.head?.elim ([], 2) fun z =>
        if z.1 ≠ 48 then ([], 2) else if (partsF 100 z.2.1).2 ≠ 0 then ([], 2) else ((partsF 100 z.2.1).1, 0)
/-- Is an extension one? -/
def extOk (y : It) : Bool := decide (y.1 = 48) && decide ((partsF 100 y.2.1).2 = 0) && !(partsF 100 y.2.1).1.isEmpty
/-- The extensions of a part. -/
def extsD (x : ByteArray) : Option (List It) := (nextD x).elim none fun y =>
  if y.1 ≠ 48 ∨ y.2.2.size ≠ 0 then none else if (partsF 100 y.2.1).2 ≠ 0 then none else
    if (partsF 100 y.2.1).1.all extOk then some (partsF 100 y.2.1).1 else none
/-- An item's first part, as an item. -/
def firstD (y : It) : ByteArray := (nextD y.2.1).elim ⟨#[]⟩ fun z => wrapT z.1 z.2.1
def isPo (y : It) : Bool := decide (firstD y = oidT)
def innerD (l : List It) : ByteArray := catT ((l.filter fun y => !isPo y).map fun y => (48, y.2.1))
def manyD (l : List It) : Nat := (l.filter isPo).length
/-- The body's parts one behind the other, ahead of the part of the extensions and behind it. -/
def stepsD : List It → ByteArray → Bool → Nat → Option (ByteArray × Nat)
  | [], out, _, many => some (out, many)
  | y :: p, out, met, many =>
    if y.1 ≠ 163 ∨ met = true then stepsD p (out ++ wrapT y.1 y.2.1) met many
    else (extsD y.2.1).elim none fun l => stepsD p (if (innerD l).size = 0 then out else out ++ wrapT 163 (wrapT 48 (innerD l))) true (many + manyD l)
def stripD (s : ByteArray) : ByteArray × Bool × Nat :=
  if (bodyD s).2 ≠ 0 then (⟨#[]⟩, false, (bodyD s).2) else
    (stepsD (bodyD s).1 ⟨#[]⟩ false 0).elim (⟨#[]⟩, false, 2) fun r =>
      if 1 < r.2 then (⟨#[]⟩, false, 2) else if r.2 = 0 then (⟨#[]⟩, false, 0) else (wrapT 48 r.1, true, 0)
theorem strip_none (s : ByteArray) (hs : s.size ≤ 2000) (h : nextD s = none) : stripD s = (⟨#[]⟩, false, 2) := by
  have e : bodyD s = ([], 2) := by unfold bodyD; rw [if_neg (by omega), h]; rfl
  unfold stripD
  rw [e]
  exact if_pos (by decide)
theorem strip_behind (s : ByteArray) (hs : s.size ≤ 2000) (y : It) (h : nextD s = some y) (hr : y.2.2.size ≠ 0) : stripD s = (⟨#[]⟩, false, 2) := by
  have e : bodyD s = ([], 2) := by
    unfold bodyD
    rw [if_neg (by omega), h]
    exact if_pos (Or.inr hr)
  unfold stripD
  rw [e]
  exact if_pos (by decide)
/-- No item begins another: an item that is cut is none. -/
theorem next_cut (T : Nat) (x : ByteArray) (hT : T < 256) (h31 : T % 32 ≠ 31) (hx : x.size < 16777216) (k : Nat) (hk : k < (wrapT T x).size) : nextD ((wrapT T x).extract 0 k) = none := by
  have n1 := next_wrap T x ⟨#[]⟩ hT h31 hx
  rw [app_noneD] at n1
  have e := cut_D (wrapT T x) k (wrapT T x).size (by omega) (Nat.le_refl _)
  obtain ⟨rest, hrest⟩ : ∃ rest, rest = (wrapT T x).extract k (wrapT T x).size ++ (wrapT T x).extract (wrapT T x).size (wrapT T x).size := ⟨_, rfl⟩
  have hrs : 0 < rest.size := by rw [hrest, size_app, ByteArray.size_extract, ByteArray.size_extract]; omega
  rw [← hrest] at e
  clear hrest
  generalize (wrapT T x).extract 0 k = M at e ⊢
  rcases h : nextD M with _ | ⟨T', x', r'⟩
  · rfl
  · exfalso
    obtain ⟨a, b, c, d⟩ := wrap_next h
    have n2 := next_wrap T' x' (r' ++ rest) a b c
    rw [← app_assocD, d, ← e, n1] at n2
    injection n2 with n2
    injection n2 with _ n2
    injection n2 with _ n2
    have := congrArg ByteArray.size n2
    rw [size_app] at this
    have h0 : (⟨#[]⟩ : ByteArray).size = 0 := rfl
    omega
end Go.Proofs.Ytkbjgaobhbiieaa
/- A certificate with the poison twice is refused, in numbers. -/
namespace Go.Proofs.Ytkbjgaobhbiieaa
open Go.RowKit
/-- The poison's text. -/
def poisP : ByteArray := oidT ++ wrapT 1 ⟨#[255]⟩ ++ wrapT 4 ⟨#[5, 0]⟩
def twiceE (nm : ByteArray) : ByteArray := catT [(48, poisP), (48, wrapT 6 nm), (48, poisP)]
def twiceB (nm : ByteArray) : ByteArray := wrapT 2 ⟨#[7]⟩ ++ wrapT 163 (wrapT 48 (poisT ++ wrapT 48 (wrapT 6 nm) ++ poisT))
theorem twiceE_is (nm : ByteArray) : poisT ++ wrapT 48 (wrapT 6 nm) ++ poisT = twiceE nm := by
  show wrapT 48 poisP ++ wrapT 48 (wrapT 6 nm) ++ wrapT 48 poisP = wrapT 48 poisP ++ (wrapT 48 (wrapT 6 nm) ++ (wrapT 48 poisP ++ (⟨#[]⟩ : ByteArray)))
  rw [app_noneD, app_assocD]
theorem poisP_parts : (partsF 100 poisP).2 = 0 ∧ (partsF 100 poisP).1.isEmpty = false := by decide +kernel
theorem poisP_first : (nextD poisP).elim (⟨#[]⟩ : ByteArray) (fun z => wrapT z.1 z.2.1) = oidT := by decide +kernel
theorem poisP_size : poisP.size = 19 := by decide +kernel
theorem okT {T : Nat} {x : ByteArray} (hT : T < 256) (h31 : T % 32 ≠ 31) (hx : x.size < 16777216) : OkT (T, x) := ⟨hT, h31, hx⟩
attribute [local irreducible] partsF wrapT nextD
theorem extOk_po (r : ByteArray) : extOk (48, poisP, r) = true := by
  unfold extOk
  rw [decide_eq_true poisP_parts.1, poisP_parts.2]
  rfl
theorem isPo_po (r : ByteArray) : isPo (48, poisP, r) = true := decide_eq_true poisP_first
theorem parts_one (T : Nat) (x : ByteArray) (h : OkT (T, x)) : partsF 100 (wrapT T x) = ([(T, x, ⟨#[]⟩)], 0) := by
  have := parts_cat [(T, x)] 100 (show 1 ≤ 100 by decide) (fun y hy => by rw [List.mem_singleton.1 hy]; exact h)
  rw [show catT [(T, x)] = wrapT T x from app_noneD _] at this
  exact this
theorem next_one (T : Nat) (x : ByteArray) (h : OkT (T, x)) : nextD (wrapT T x) = some (T, x, ⟨#[]⟩) := by
  have := next_wrap T x ⟨#[]⟩ h.1 h.2.1 h.2.2
  rw [app_noneD] at this
  exact this
theorem twice_exts (nm : ByteArray) (hn : nm.size ≤ 60) : ∃ l, extsD (wrapT 48 (twiceE nm)) = some l ∧ 2 ≤ manyD l := by
  have w6 := wrapT_size 6 nm
  have pp := poisP_size
  have hin : ∀ y ∈ [((48 : Nat), poisP), (48, wrapT 6 nm), (48, poisP)], OkT y := fun y hy => by
    simp only [List.mem_cons, List.not_mem_nil, or_false] at hy
    rcases hy with rfl | rfl | rfl
    · exact okT (by decide) (by decide) (by rw [pp]; decide)
    · exact okT (by decide) (by decide) (Nat.lt_of_le_of_lt w6 (by omega))
    · exact okT (by decide) (by decide) (by rw [pp]; decide)
  have hsz : (twiceE nm).size < 16777216 := by
    have := catT_size [((48 : Nat), poisP), (48, wrapT 6 nm), (48, poisP)] 65 fun y hy => by
      simp only [List.mem_cons, List.not_mem_nil, or_false] at hy
      rcases hy with rfl | rfl | rfl
      · exact Nat.le_trans (Nat.le_of_eq pp) (by decide)
      · exact Nat.le_trans w6 (by omega)
      · exact Nat.le_trans (Nat.le_of_eq pp) (by decide)
    exact Nat.lt_of_le_of_lt this (show 3 * (65 + 5) < 16777216 by decide)
  have h1 := next_one 48 (twiceE nm) (okT (by decide) (by decide) (hsz))
  have h2 := parts_cat [((48 : Nat), poisP), (48, wrapT 6 nm), (48, poisP)] 100 (show 3 ≤ 100 by decide) hin
  obtain ⟨L, hL⟩ : ∃ L, L = itemsT [((48 : Nat), poisP), (48, wrapT 6 nm), (48, poisP)] := ⟨_, rfl⟩
  have h3 : partsF 100 (twiceE nm) = (L, 0) := by rw [hL]; exact h2
  have h4 : extOk (48, wrapT 6 nm, catT [((48 : Nat), poisP)]) = true := by
    have p6 := parts_one 6 nm (okT (by decide) (by decide) (Nat.lt_of_le_of_lt hn (by decide)))
    unfold extOk
    show (decide ((48 : Nat) = 48) && decide ((partsF 100 (wrapT 6 nm)).2 = 0) && !(partsF 100 (wrapT 6 nm)).1.isEmpty) = true
    rw [p6]
    rfl
  have h5 : L.all extOk = true := by
    rw [hL]
    show (extOk (48, poisP, _) && (extOk (48, wrapT 6 nm, catT [(48, poisP)]) && (extOk (48, poisP, _) && true))) = true
    rw [extOk_po, extOk_po, h4]
    rfl
  refine ⟨L, ?_, ?_⟩
  · unfold extsD
    rw [h1]
    show (if (48 : Nat) ≠ 48 ∨ (⟨#[]⟩ : ByteArray).size ≠ 0 then none else if (partsF 100 (twiceE nm)).2 ≠ 0 then none else if (partsF 100 (twiceE nm)).1.all extOk then some (partsF 100 (twiceE nm)).1 else none) = _
    rw [if_neg (by decide), h3]
    show (if (0 : Nat) ≠ 0 then none else if L.all extOk then some L else none) = _
    rw [if_neg (by decide), if_pos h5]
  · unfold manyD
    rw [hL]
    show 2 ≤ (List.filter isPo [((48 : Nat), poisP, _), (48, wrapT 6 nm, _), (48, poisP, _)]).length
    rw [List.filter_cons_of_pos (isPo_po _)]
    by_cases k : isPo ((48 : Nat), wrapT 6 nm, catT [((48 : Nat), poisP)]) = true
    · rw [List.filter_cons_of_pos k, List.filter_cons_of_pos (isPo_po _)]
      simp
    · rw [List.filter_cons_of_neg k, List.filter_cons_of_pos (isPo_po _)]
      simp
theorem strip_twice (nm : ByteArray) (hn : nm.size ≤ 60) : stripD (wrapT 48 (wrapT 48 (twiceB nm))) = (⟨#[]⟩, false, 2) := by
  obtain ⟨l, hl, hm⟩ := twice_exts nm hn
  have w6 := wrapT_size 6 nm
  have pp := poisP_size
  have hte : (twiceE nm).size ≤ 210 := by
    have := catT_size [((48 : Nat), poisP), (48, wrapT 6 nm), (48, poisP)] 65 fun y hy => by
      simp only [List.mem_cons, List.not_mem_nil, or_false] at hy
      rcases hy with rfl | rfl | rfl
      · exact Nat.le_trans (Nat.le_of_eq pp) (by decide)
      · exact Nat.le_trans w6 (by omega)
      · exact Nat.le_trans (Nat.le_of_eq pp) (by decide)
    exact this
  have e1 := wrapT_size 48 (twiceE nm)
  have e2 := wrapT_size 163 (wrapT 48 (twiceE nm))
  have hB : twiceB nm = catT [((2 : Nat), (⟨#[7]⟩ : ByteArray)), (163, wrapT 48 (twiceE nm))] := by
    unfold twiceB
    rw [twiceE_is]
    show _ = wrapT 2 ⟨#[7]⟩ ++ (wrapT 163 (wrapT 48 (twiceE nm)) ++ (⟨#[]⟩ : ByteArray))
    rw [app_noneD]
  have hBs : (twiceB nm).size ≤ 300 := by
    have w2 := wrapT_size 2 ⟨#[7]⟩
    have o1 : (⟨#[7]⟩ : ByteArray).size = 1 := rfl
    unfold twiceB
    rw [twiceE_is, size_app]
    omega
  have e3 := wrapT_size 48 (twiceB nm)
  have e4 := wrapT_size 48 (wrapT 48 (twiceB nm))
  have n1 := next_one 48 (wrapT 48 (twiceB nm)) (okT (by decide) (by decide) (by show (wrapT 48 (twiceB nm)).size < _; omega))
  have q1 := parts_one 48 (twiceB nm) (okT (by decide) (by decide) (by show (twiceB nm).size < _; omega))
  have q2 := parts_cat [((2 : Nat), (⟨#[7]⟩ : ByteArray)), (163, wrapT 48 (twiceE nm))] 100 (show 2 ≤ 100 by decide) fun y hy => by
    simp only [List.mem_cons, List.not_mem_nil, or_false] at hy
    rcases hy with rfl | rfl
    · exact okT (by decide) (by decide) (by decide)
    · exact okT (by decide) (by decide) (by show (wrapT 48 (twiceE nm)).size < _; omega)
  rw [← hB] at q2
  obtain ⟨P2, hP2⟩ : ∃ P2, P2 = itemsT [((2 : Nat), (⟨#[7]⟩ : ByteArray)), (163, wrapT 48 (twiceE nm))] := ⟨_, rfl⟩
  rw [← hP2] at q2
  have hb : bodyD (wrapT 48 (wrapT 48 (twiceB nm))) = (P2, 0) := by
    unfold bodyD
    rw [if_neg (by omega), n1]
    show (if (48 : Nat) ≠ 48 ∨ (⟨#[]⟩ : ByteArray).size ≠ 0 then ([], 2) else if (partsF 100 (wrapT 48 (twiceB nm))).2 ≠ 0 then ([], 2) else (partsF 100 (wrapT 48 (twiceB nm))).1.head?.elim ([], 2) fun z => if z.1 ≠ 48 then ([], 2) else if (partsF 100 z.2.1).2 ≠ 0 then ([], 2) else ((partsF 100 z.2.1).1, 0)) = (P2, 0)
    rw [if_neg (by decide), q1]
    show (if (0 : Nat) ≠ 0 then ([], 2) else if (48 : Nat) ≠ 48 then ([], 2) else if (partsF 100 (twiceB nm)).2 ≠ 0 then ([], 2) else ((partsF 100 (twiceB nm)).1, 0)) = (P2, 0)
    rw [if_neg (by decide), if_neg (by decide), q2]
    rfl
  obtain ⟨out, hs⟩ : ∃ out, stepsD P2 ⟨#[]⟩ false 0 = some (out, manyD l) := by
    rw [hP2]
    refine ⟨if (innerD l).size = 0 then (⟨#[]⟩ : ByteArray) ++ wrapT 2 ⟨#[7]⟩ else (⟨#[]⟩ : ByteArray) ++ wrapT 2 ⟨#[7]⟩ ++ wrapT 163 (wrapT 48 (innerD l)), ?_⟩
    show (if (2 : Nat) ≠ 163 ∨ false = true then stepsD [(163, wrapT 48 (twiceE nm), _)] ((⟨#[]⟩ : ByteArray) ++ wrapT 2 ⟨#[7]⟩) false 0 else _) = _
    rw [if_pos (by decide)]
    show (if (163 : Nat) ≠ 163 ∨ false = true then _ else (extsD (wrapT 48 (twiceE nm))).elim none fun l => stepsD [] _ true (0 + manyD l)) = _
    rw [if_neg (by decide), hl]
    show some (_, 0 + manyD l) = _
    rw [Nat.zero_add]
  unfold stripD
  rw [hb]
  show (if (0 : Nat) ≠ 0 then _ else (stepsD P2 ⟨#[]⟩ false 0).elim (⟨#[]⟩, false, 2) fun r => if 1 < r.2 then (⟨#[]⟩, false, 2) else if r.2 = 0 then (⟨#[]⟩, false, 0) else (wrapT 48 r.1, true, 0)) = _
  rw [if_neg (by decide), hs]
  exact if_pos (show 1 < manyD l by omega)
end Go.Proofs.Ytkbjgaobhbiieaa
/- Integers put one behind the other. -/
namespace Go.Proofs.Ytkbjgaobhbiieaa
open Go.RowKit
/-- int: in the table of types. -/
theorem infoW : (Try.prog.info? 3).map (fun i => (i.zero, i.size, i.bytes)) = some (some (.int .i64 0), 1, 8) := by kernel_rfl
def encW (c0 : Int) : List Value := [.int .i64 c0]
theorem eachW (c0 : Int) : Each 1 [encW c0] := fun x hx => by
  rw [List.mem_singleton.1 hx]
  refine ⟨rfl, fun u hu => ?_⟩
  unfold encW at hu
  simp only [List.mem_cons, List.not_mem_nil, or_false] at hu
  rcases hu with rfl <;> rfl
/-- append(s, x..): more of them. -/
theorem wpList_moreW {ops : Array Oper} {rest : List Oper} {o : Oper} {a : Act} {Q : Exit → Act → World → Prop} {B : Nat} {w0 w : World} {l : List (List Value)} {v : Value} (hgd : o.guard = none) (s x : Operand) (T : TypeId) (hT : Try.prog.underlying T = Try.prog.underlying 44)
    (ho : o.op = .call { callee := .builtin .append, args := #[s, x], argTypes := #[T, T] }) (hs : a.eval s = v) (h : LS 3 1 B w0 l v w) (ad : Addr) (m c : Nat) (xs : List (List Value))
    (hx : a.eval x = .slice (some ad) m c) (hm : xs.length = m) (hz : Each 1 xs) (hc : ∀ j u, xs.flatten[j]? = some u → w.cell? (ad.add j) = some u) (hm0 : 0 < m) (hn : l.length + m ≤ 1000000000000)
    (k : ∀ v' w', LS 3 1 B w0 (l ++ xs) v' w' → Gr v w v' w' → wpList Try.prog ops Q rest (a.put o.dst v') w') :
    wpList Try.prog ops Q (o :: rest) a w := by
  obtain ⟨i0, hi, hz0, hz1, hz2⟩ := info_parts infoW
  refine wpList_append_lies _ hgd s x T ho B 3 i0 (.int .i64 0) 1 8 (hT.trans Try.underlying44) hi hz0 hz1 hz2 rfl (by decide) v l.length _ hs h.own ad m c xs.flatten hx (by rw [hz.len, hm]) hc hz.one hm0 (by unfold maxLen; omega) (by omega) h.lo _ rfl ?_
  intro q cap w2 hown hg hat hlt
  have hG : Gr v w (.slice (some ⟨q, 0, none⟩) (l.length + m) cap) w2 := ⟨hg.os, hg.tape, hg.output, hg.size, fun i hi hv => hg.block i hi (fun e => hv e.symm), fun i e => by
    have e : q = i := by injection e
    rcases hat with h1 | h1
    · exact .inl (by rw [h1, e])
    · right; omega⟩
  refine k _ w2 ⟨?_, h.each.app hz, below_gr h.b hG (fun i e => (h.ownB i e).1) h.lo, Nat.le_trans h.lo hg.size⟩ hG
  rw [List.length_append, List.flatten_append, hm]; exact hown
/-- append(s, x): one more, that was laid just now. -/
theorem wpList_oneW {ops : Array Oper} {rest : List Oper} {o : Oper} {a : Act} {Q : Exit → Act → World → Prop} {B : Nat} {w0 w : World} {l : List (List Value)} {v : Value} (hgd : o.guard = none) (s x : Operand) (T : TypeId) (hT : Try.prog.underlying T = Try.prog.underlying 44)
    (ho : o.op = .call { callee := .builtin .append, args := #[s, x], argTypes := #[T, T] }) (hs : a.eval s = v) (h : LS 3 1 B w0 l v w) (c0 : Int)
    (hx : a.eval x = .slice (some ⟨w.heap.size, 0, none⟩) 1 1) (hn : l.length ≤ 999999999999)
    (k : ∀ v' w', LS 3 1 B w0 (l ++ [encW c0]) v' w' → Gr v w v' w' → wpList Try.prog ops Q rest (a.put o.dst v') w') :
    wpList Try.prog ops Q (o :: rest) a (w.alloc (.cells #[.int .i64 c0] 3)) :=
  wpList_moreW hgd s x T hT ho hs (h.below ((Below.refl _ _).alloc (Nat.le_refl _) _)) ⟨w.heap.size, 0, none⟩ 1 1 [encW c0] hx rfl (eachW c0) (fun j u hu => new_cells w #[.int .i64 c0] 3 j u (by simpa [encW] using hu)) (by decide) (by omega) fun v' w' h2 h3 => k v' w' h2 ((Gr.of ((Below.refl _ _).alloc (Nat.le_refl _) _)).trans h3)
end Go.Proofs.Ytkbjgaobhbiieaa
/- DerBack: its arguments as they lie, its items in numbers. -/
namespace Go.Proofs.Ytkbjgaobhbiieaa
open Go.RowKit
def encS (s : ByteArray) : List Value := [.string s]
def encU (g : Nat) : List Value := [.int .u8 (g : Int)]
/-- The arguments as they lie. -/
def JA (p : Option Addr) (n cap : Nat) (l : List ByteArray) (pt : Option Addr) (nt ct : Nat) (tags : List Nat) (wx : World) : Prop := RS 1 p n cap (l.map encS) wx ∧ RS 1 pt nt ct (tags.map encU) wx
theorem JA.below {p : Option Addr} {n cap : Nat} {l : List ByteArray} {pt : Option Addr} {nt ct : Nat} {tags : List Nat} {w w' : World} (h : JA p n cap l pt nt ct tags w) (hb : Below w.heap.size w w') : JA p n cap l pt nt ct tags w' := ⟨h.1.below hb, h.2.below hb⟩
def tagT (tags : List Nat) (i : Nat) : Nat := if i < tags.length then tags.getD i 0 else i
def txtT (l : List ByteArray) (i : Nat) : ByteArray := (l.getD i ⟨#[]⟩).extract 0 (min (l.getD i ⟨#[]⟩).size 300)
def backL (l : List ByteArray) (tags : List Nat) (i : Nat) : List (Nat × ByteArray) := (wantL (tagT tags) i).map fun k => (tagT tags k, txtT l k)
def wantV (tags : List Nat) (i : Nat) : List (List Value) := (wantL (tagT tags) i).map fun (k : Nat) => encW (k : Int)
theorem tagT_lt (tags : List Nat) (h8 : ∀ g ∈ tags, g < 256) (k : Nat) (hk : k < 10) : tagT tags k < 256 := by
  unfold tagT
  by_cases h : k < tags.length
  · rw [if_pos h, List.getD_eq_getElem?_getD, List.getElem?_eq_getElem h]
    exact h8 _ (List.getElem_mem h)
  · rw [if_neg h]; omega
theorem txtT_size (l : List ByteArray) (k : Nat) : (txtT l k).size ≤ 300 := by
  unfold txtT
  rw [ByteArray.size_extract]
  omega
theorem backL_ok (l : List ByteArray) (tags : List Nat) (h8 : ∀ g ∈ tags, g < 256) (i : Nat) (hi : i ≤ 10) : ∀ y ∈ backL l tags i, OkT y := fun y hy => by
  unfold backL at hy
  obtain ⟨k, hk, rfl⟩ := List.mem_map.1 hy
  have h1 := wantL_lt (tagT tags) i k hk
  have h2 := txtT_size l k
  exact ⟨tagT_lt tags h8 k (by omega), h1.2, by show (txtT l k).size < _; omega⟩
theorem backL_len (l : List ByteArray) (tags : List Nat) (i : Nat) : (backL l tags i).length ≤ i := by
  unfold backL
  rw [List.length_map]
  exact wantL_len _ _
theorem wantV_len (l : List ByteArray) (tags : List Nat) (i : Nat) : (wantV tags i).length = (backL l tags i).length := by
  unfold wantV backL
  rw [List.length_map, List.length_map]
theorem backL_size (l : List ByteArray) (tags : List Nat) (i : Nat) (hi : i ≤ 10) : (catT (backL l tags i)).size ≤ 3050 := by
  have h1 := catT_size (backL l tags i) 300 fun y hy => by
    unfold backL at hy
    obtain ⟨k, _, rfl⟩ := List.mem_map.1 hy
    exact txtT_size l k
  have h2 := backL_len l tags i
  have h6 : (backL l tags i).length * (300 + 5) ≤ 10 * 305 := Nat.mul_le_mul (by omega) (Nat.le_refl _)
  omega
theorem back_parts (l : List ByteArray) (tags : List Nat) (h8 : ∀ g ∈ tags, g < 256) (i : Nat) (hi : i ≤ 10) : partsF 100 (catT (backL l tags i)) = (itemsT (backL l tags i), 0) :=
  parts_cat _ 100 (by have := backL_len l tags i; omega) (backL_ok l tags h8 i hi)
/-- A part's text is the text at the place that was kept. -/
theorem back_text (l : List ByteArray) (tags : List Nat) (i j k : Nat) (hk : (wantL (tagT tags) i)[j]? = some k) : (itemsT (backL l tags i))[j]?.map (fun y => y.2.1) = some (txtT l k) := by
  rw [itemsT_text]
  unfold backL
  rw [List.getElem?_map, hk]
  rfl
end Go.Proofs.Ytkbjgaobhbiieaa
