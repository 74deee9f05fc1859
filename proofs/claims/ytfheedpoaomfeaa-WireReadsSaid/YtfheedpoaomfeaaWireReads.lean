/- The law WireReads of chapter 13. -/
import Derived.Test.YtfheedpoaomfeaaIj
namespace Go.Proofs.Ytfheedpoaomfeaa
open Go.RowKit
/-- A reader of the developers', one of the document's, side by side. -/
structure SR (gr gx N : Nat) (A : ByteArray) (F : Nat) (B : ByteArray) (E : Nat) (w0 w : World) : Prop where
  a : RW gr A F w
  b : XW gx B E w
  c : Below N w0 w
  d : N + 1 ≤ gr ∧ gr < gx ∧ gx < w.heap.size ∧ N ≤ w.heap.size
section
variable {gr gx N F E F' E' : Nat} {A B A' B' : ByteArray} {w0 w w' : World}
theorem SR.below (h : SR gr gx N A F B E w0 w) (hb : Below w.heap.size w w') : SR gr gx N A F B E w0 w' :=
  ⟨h.a.below hb, Blk.below h.b hb h.d.2.2.1, h.c.trans (hb.mono h.d.2.2.2), by have := h.d; have := hb.size; omega⟩
theorem SR.take (h : SR gr gx N A F B E w0 w) (h1 : RW gr A' F' w') (h2 : Ho gr w w') : SR gr gx N A' F' B E w0 w' := by
  have hd := h.d
  exact ⟨h1, h2.blk h.b (by omega), h.c.trans ⟨h2.os, h2.tape, h2.output, h2.size, fun i hi => h2.block i (by omega) (by omega)⟩, by have := h2.size; omega⟩
theorem SR.ref (h : SR gr gx N A F B E w0 w) (h1 : XW gx B' E' w') (h2 : Ho gx w w') : SR gr gx N A F B' E' w0 w' := by
  have hd := h.d
  exact ⟨h.a.ho h2 (by omega) (by omega), h1, h.c.trans ⟨h2.os, h2.tape, h2.output, h2.size, fun i hi => h2.block i (by omega) (by omega)⟩, by have := h2.size; omega⟩
end
set_option maxRecDepth 100000 in
set_option maxHeartbeats 16000000 in
theorem wireReads_any (s : ByteArray) (p : Option Addr) (n cap : Nat) (l : List Pt) (w : World) (h : RS 4 p n cap (l.map encPt) w) (hok : ∀ x ∈ l, x.ok) (hs : s.size ≤ 9223372036854775807) :
    Calls Try.prog 4 #[.string s, .slice p n cap] w fun e w' => e = .returned (.bool true) ∧ Below w.heap.size w w' := by
  have HR := Lib.hid h
  have HOK := Lib.hid hok
  have HS := Lib.hid hs
  clear h hok hs
  go_enter Try.func4, Try.ntmps4
  go_wp2_with fail
  refine (examples13_any w).mono ?_
  rintro e w0 ⟨rfl, b0⟩
  have C := newReader_any s w0 HS.out
  go_wp2_with fail
  refine C.mono ?_
  rintro e w1 ⟨gr, rfl, hgr, hw, b1⟩
  have b01 := b0.trans (b1.mono b0.size)
  have hal := (Below.refl _ w1).alloc (Nat.le_refl _) (.cells #[.string s, .int .i64 0] 42)
  have HI : Hid (SR gr w1.heap.size w.heap.size s 0 s 0 w (w1.alloc (.cells #[.string s, .int .i64 0] 42))) := Lib.hid
    ⟨hw.below hal, Blk.new _ _ _, b01.trans (hal.mono b01.size), by have := b0.size; have := b01.size; have := hw.lt; simp; omega⟩
  obtain ⟨gx, hgx⟩ : ∃ gx, gx = w1.heap.size := ⟨_, rfl⟩
  have hn := HR.out.mx
  have hle := HR.out.le
  clear C hw b0 b1 b01 hal hgr
  go_wp2_with fail
  rw [← hgx] at HI ⊢
  clear hgx
  go_loopw [8] (fun u wr => ∃ (k : Nat) (B : ByteArray) (E : Nat), u = .int .i64 (k : Int) ∧ k ≤ n ∧ k ≤ 20 ∧ Hid (SR gr gx w.heap.size B E B E w wr)) (fun u _ => 20 - (intOf u).toNat)
  case atStart => exact ⟨0, _, _, rfl, Nat.zero_le _, by decide, HI⟩
  case round =>
    obtain ⟨k, B, E, rfl, hkn, hk20, HJ⟩ := hrel
    clear HI
    by_cases hlt : k < n
    · have hlti : (k : Int) < (n : Int) := by omega
      by_cases hl20 : k < 20
      · have hl20i : (k : Int) < 20 := by omega
        obtain ⟨a, rfl⟩ := HR.out.some_ (by omega)
        have hkl : k < l.length := by have := HR.out.len; rw [List.length_map] at this; omega
        obtain ⟨x, hx⟩ : ∃ x, x = l[k]'hkl := ⟨_, rfl⟩
        have hget : (l.map encPt)[k]? = some [.int .i64 x.k, .int .i64 x.n, .int .i64 x.z, .string x.s] := by
          rw [List.getElem?_map, List.getElem?_eq_getElem hkl, ← hx]; rfl
        obtain ⟨c0, c1, c2, c3⟩ := (HR.out.below HJ.out.c).at4 hget
        have HX : Hid x.ok := Lib.hid (by rw [hx]; exact HOK.out _ (List.getElem_mem hkl))
        have HK := Lib.hid (⟨hlt, hl20⟩ : k < n ∧ k < 20)
        have hkw : IntKind.i64.wrap ((k : Int) + 1) = ((k + 1 : Nat) : Int) := by rw [IntWalk.i64_in _ (by omega)]; rfl
        obtain ⟨q, hq⟩ : ∃ q, q = wr.heap.size := ⟨_, rfl⟩
        have HZ := Lib.hid (Blk.new wr 30 #[.int .i64 0, .int .i64 0, .int .i64 0, .string ⟨#[]⟩])
        have hb2 := below_setRow' ((Below.refl _ wr).alloc (Nat.le_refl _) (.cells #[.int .i64 0, .int .i64 0, .int .i64 0, .string ⟨#[]⟩] 30)) (Nat.le_refl _) #[.int .i64 x.k, .int .i64 x.n, .int .i64 x.z, .string x.s]
        have hz2 := HZ.out.row_ #[.int .i64 x.k, .int .i64 x.n, .int .i64 x.z, .string x.s]
        obtain ⟨W2, hW2⟩ : ∃ W2, W2 = (wr.alloc (.cells #[.int .i64 0, .int .i64 0, .int .i64 0, .string ⟨#[]⟩] 30)).setRow wr.heap.size #[.int .i64 x.k, .int .i64 x.n, .int .i64 x.z, .string x.s] := ⟨_, rfl⟩
        rw [← hW2] at hb2 hz2
        rw [← hq] at hz2
        have HW2 := Lib.hid hW2
        have HQE := Lib.hid hq
        have j2 := HJ.out.below hb2
        have HQN : Hid (q ≠ gr ∧ q ≠ gx) := Lib.hid (by have := HJ.out.d; omega)
        have C0 := kind_any x.k x.n x.z x.s W2 HX.out.k.1
        have d0 : W2.cell? ⟨q, 0, none⟩ = some (.int .i64 x.k) := hz2.cell 0
        have d1 : W2.cell? ⟨q, 1, none⟩ = some (.int .i64 x.n) := hz2.cell 1
        have d2 : W2.cell? ⟨q, 2, none⟩ = some (.int .i64 x.z) := hz2.cell 2
        have d3 : W2.cell? ⟨q, 3, none⟩ = some (.string x.s) := hz2.cell 3
        clear hx hget hkl hlt hl20 hkn hk20 HJ hb2 hW2 hq
        go_wp2_with (refine wpList_store_row rfl 30 _ _ rfl wr.heap.size #[.int .i64 x.k, .int .i64 x.n, .int .i64 x.z, .string x.s] rfl rfl 30 _ HZ.out part_size rfl (part_one _ _ _ _) ?_; rw [← HW2.out, ← HQE.out])
        refine C0.mono ?_
        rintro e w3 ⟨rfl, b3⟩
        have j3 := j2.below b3
        have hz3 := hz2.below b3 hz2.lt
        have hkN := kindN_lt x.k
        generalize kindN x.k = m at hkN
        clear C0 c0 c1 c2 c3 d0 d1 d2 d3 j2 hz2 b3
        have j4 := j3.below ((Below.refl _ _).drew)
        have hz4 := hz3.drew
        clear j3 hz3
        have hm3 : m = 0 ∨ m = 1 ∨ m = 2 := by omega
        clear hkN
        rcases hm3 with rfl | rfl | rfl
        · go_wp2_with fail
          obtain ⟨J, hJd⟩ : ∃ J : World → Prop, J = fun wx => wx.cell? ⟨q, 2, none⟩ = some (.int .i64 x.z) := ⟨_, rfl⟩
          have HJF : Hid (∀ wx, J wx → wx.cell? ⟨q, 2, none⟩ = some (.int .i64 x.z)) := Lib.hid fun wx h => by rw [hJd] at h; exact h
          have HJB : Hid (∀ wx, Blk wx q 30 #[.int .i64 x.k, .int .i64 x.n, .int .i64 x.z, .string x.s] → J wx) := Lib.hid fun wx h => by rw [hJd]; exact h.cell 2
          refine heldJ_start J (by kernel_rfl) ?_
          change wpAnyH _ _ _ _ _ _ _ _ w3.drew
          generalize w3.drew = w4 at j4 hz4 ⊢
          have HJ0 := Lib.hid (HJB.out w4 hz4)
          have C1 := number_any gr B E x.z w4 j4.a
          obtain ⟨V', A', E', hr⟩ : ∃ V' A' E', numW B E x.z = (V', A', E') := ⟨_, _, _, rfl⟩
          rw [hr] at C1
          clear hJd
          refine heldJ_take (i := 0) (v := .pointer (some ⟨gr, 0, none⟩)) rfl (by kernel_rfl) (by kernel_rfl) (by kernel_rfl) (fun _ _ _ h => h) rfl (fun wx hJ => ?_) HJ0.out ?_
          · go_simp; skip
          simp only [pu]
          refine heldJ_take (i := 1) (v := .pointer (some ⟨q, 2, none⟩)) rfl (by kernel_rfl) (by kernel_rfl) (by kernel_rfl) (fun _ _ _ h => h) rfl (fun wx hJ => ?_) HJ0.out ?_
          · go_simp; skip
          simp only [pu]
          refine heldJ_take (i := 4) (v := .pointer (some ⟨gx, 0, none⟩)) rfl (by kernel_rfl) (by kernel_rfl) (by kernel_rfl) (fun _ _ _ h => h) rfl (fun wx hJ => ?_) HJ0.out ?_
          · go_simp; skip
          simp only [pu]
          refine heldJ_take (i := 5) (v := .pointer (some ⟨q, 2, none⟩)) rfl (by kernel_rfl) (by kernel_rfl) (by kernel_rfl) (fun _ _ _ h => h) rfl (fun wx hJ => ?_) HJ0.out ?_
          · go_simp; skip
          simp only [pu]
          refine heldJ_take (i := 2) (v := .int .i64 x.z) rfl (by kernel_rfl) (by kernel_rfl) (by kernel_rfl) (fun _ _ _ h => h) rfl (fun wx hJ => ?_) HJ0.out ?_
          · have cc := HJF.out wx hJ; go_simp; skip
          simp only [pu]
          refine heldJ_take (i := 6) (v := .int .i64 x.z) rfl (by kernel_rfl) (by kernel_rfl) (by kernel_rfl) (fun _ _ _ h => h) rfl (fun wx hJ => ?_) HJ0.out ?_
          · have cc := HJF.out wx hJ; go_simp; skip
          simp only [pu]
          refine heldJ_call (i := 3) (f := 19) (by kernel_rfl) rfl rfl (by go_simp; skip) ((C1).mono ?_)
          rintro e w5 ⟨rfl, h5, g5⟩
          have j5 := j4.take g5 h5
          have hz5 := h5.blk hz4 HQN.out.1
          have HJ1 := Lib.hid (HJB.out w5 hz5)
          have C2 := rnumber_any gx B E x.z w5 j5.b
          rw [hr] at C2
          clear C1 h5 g5 j4 hz4
          refine ⟨_, rfl, HJ1.out, ?_⟩
          simp only [pu]
          refine heldJ_call (i := 7) (f := 20) (by kernel_rfl) rfl rfl (by go_simp; skip) ((C2).mono ?_)
          rintro e w6 ⟨rfl, h6, g6⟩
          have j6 := j5.ref g6 h6
          have HJ2 := Lib.hid (HJB.out w6 (h6.blk hz5 HQN.out.2))
          clear C2 h6 g6 j5 hz5
          refine ⟨_, rfl, HJ2.out, ?_⟩
          simp only [pu]
          refine heldJ_take (i := 8) (v := .bool true) rfl (by kernel_rfl) (by kernel_rfl) (by kernel_rfl) (fun _ _ _ h => h) rfl (fun wx hJ => ?_) HJ2.out ?_
          · go_simp; skip
          simp only [pu]
          refine heldJ_take (i := 9) (v := .bool true) rfl (by kernel_rfl) (by kernel_rfl) (by kernel_rfl) (fun _ _ _ h => h) rfl (fun wx hJ => ?_) HJ2.out ?_
          · go_simp; skip
          simp only [pu]
          refine wpAnyH_done (by kernel_rfl) ?_ _
          have C3 := rest_any gr A' E' w6 j6.a
          have C4 := rrest_any gx A' E' w6 j6.b
          generalize restW A' E' = rr at C3 C4
          have HJ6 := Lib.hid j6
          clear j6 hr
          go_wp2_with fail
          refine C3.mono ?_
          rintro e w7 ⟨rfl, rfl⟩
          go_wp2_with fail
          refine C4.mono ?_
          rintro e w8 ⟨rfl, rfl⟩
          clear C3 C4
          go_wp2_with fail
          exact ⟨⟨k + 1, _, _, by go_num, by have := HK.out; omega, by have := HK.out; omega, HJ6⟩, by simp only [intOf]; have := HK.out; omega⟩
        · go_wp2_with fail
          obtain ⟨J, hJd⟩ : ∃ J : World → Prop, J = fun wx => wx.cell? ⟨q, 1, none⟩ = some (.int .i64 x.n) := ⟨_, rfl⟩
          have HJF : Hid (∀ wx, J wx → wx.cell? ⟨q, 1, none⟩ = some (.int .i64 x.n)) := Lib.hid fun wx h => by rw [hJd] at h; exact h
          have HJB : Hid (∀ wx, Blk wx q 30 #[.int .i64 x.k, .int .i64 x.n, .int .i64 x.z, .string x.s] → J wx) := Lib.hid fun wx h => by rw [hJd]; exact h.cell 1
          refine heldJ_start J (by kernel_rfl) ?_
          change wpAnyH _ _ _ _ _ _ _ _ w3.drew
          generalize w3.drew = w4 at j4 hz4 ⊢
          have HJ0 := Lib.hid (HJB.out w4 hz4)
          have C1 := raw_any gr B E x.n w4 j4.a
          obtain ⟨V', A', E', hr⟩ : ∃ V' A' E', rawW B E x.n = (V', A', E') := ⟨_, _, _, rfl⟩
          rw [hr] at C1
          clear hJd
          refine heldJ_take (i := 0) (v := .pointer (some ⟨gr, 0, none⟩)) rfl (by kernel_rfl) (by kernel_rfl) (by kernel_rfl) (fun _ _ _ h => h) rfl (fun wx hJ => ?_) HJ0.out ?_
          · go_simp; skip
          simp only [pu]
          refine heldJ_take (i := 1) (v := .pointer (some ⟨q, 1, none⟩)) rfl (by kernel_rfl) (by kernel_rfl) (by kernel_rfl) (fun _ _ _ h => h) rfl (fun wx hJ => ?_) HJ0.out ?_
          · go_simp; skip
          simp only [pu]
          refine heldJ_take (i := 4) (v := .pointer (some ⟨gx, 0, none⟩)) rfl (by kernel_rfl) (by kernel_rfl) (by kernel_rfl) (fun _ _ _ h => h) rfl (fun wx hJ => ?_) HJ0.out ?_
          · go_simp; skip
          simp only [pu]
          refine heldJ_take (i := 5) (v := .pointer (some ⟨q, 1, none⟩)) rfl (by kernel_rfl) (by kernel_rfl) (by kernel_rfl) (fun _ _ _ h => h) rfl (fun wx hJ => ?_) HJ0.out ?_
          · go_simp; skip
          simp only [pu]
          refine heldJ_take (i := 2) (v := .int .i64 x.n) rfl (by kernel_rfl) (by kernel_rfl) (by kernel_rfl) (fun _ _ _ h => h) rfl (fun wx hJ => ?_) HJ0.out ?_
          · have cc := HJF.out wx hJ; go_simp; skip
          simp only [pu]
          refine heldJ_take (i := 6) (v := .int .i64 x.n) rfl (by kernel_rfl) (by kernel_rfl) (by kernel_rfl) (fun _ _ _ h => h) rfl (fun wx hJ => ?_) HJ0.out ?_
          · have cc := HJF.out wx hJ; go_simp; skip
          simp only [pu]
          refine heldJ_call (i := 3) (f := 21) (by kernel_rfl) rfl rfl (by go_simp; skip) ((C1).mono ?_)
          rintro e w5 ⟨rfl, h5, g5⟩
          have j5 := j4.take g5 h5
          have hz5 := h5.blk hz4 HQN.out.1
          have HJ1 := Lib.hid (HJB.out w5 hz5)
          have C2 := rraw_any gx B E x.n w5 j5.b
          rw [hr] at C2
          clear C1 h5 g5 j4 hz4
          refine ⟨_, rfl, HJ1.out, ?_⟩
          simp only [pu]
          refine heldJ_call (i := 7) (f := 22) (by kernel_rfl) rfl rfl (by go_simp; skip) ((C2).mono ?_)
          rintro e w6 ⟨rfl, h6, g6⟩
          have j6 := j5.ref g6 h6
          have HJ2 := Lib.hid (HJB.out w6 (h6.blk hz5 HQN.out.2))
          clear C2 h6 g6 j5 hz5
          refine ⟨_, rfl, HJ2.out, ?_⟩
          simp only [pu]
          refine heldJ_take (i := 8) (v := .bool true) rfl (by kernel_rfl) (by kernel_rfl) (by kernel_rfl) (fun _ _ _ h => h) rfl (fun wx hJ => ?_) HJ2.out ?_
          · go_simp; skip
          simp only [pu]
          refine heldJ_take (i := 9) (v := .bool true) rfl (by kernel_rfl) (by kernel_rfl) (by kernel_rfl) (fun _ _ _ h => h) rfl (fun wx hJ => ?_) HJ2.out ?_
          · go_simp; skip
          simp only [pu]
          refine wpAnyH_done (by kernel_rfl) ?_ _
          have C3 := rest_any gr A' E' w6 j6.a
          have C4 := rrest_any gx A' E' w6 j6.b
          generalize restW A' E' = rr at C3 C4
          have HJ6 := Lib.hid j6
          clear j6 hr
          go_wp2_with fail
          refine C3.mono ?_
          rintro e w7 ⟨rfl, rfl⟩
          go_wp2_with fail
          refine C4.mono ?_
          rintro e w8 ⟨rfl, rfl⟩
          clear C3 C4
          go_wp2_with fail
          exact ⟨⟨k + 1, _, _, by go_num, by have := HK.out; omega, by have := HK.out; omega, HJ6⟩, by simp only [intOf]; have := HK.out; omega⟩
        · go_wp2_with fail
          obtain ⟨J, hJd⟩ : ∃ J : World → Prop, J = fun wx => wx.cell? ⟨q, 2, none⟩ = some (.int .i64 x.z) := ⟨_, rfl⟩
          have HJF : Hid (∀ wx, J wx → wx.cell? ⟨q, 2, none⟩ = some (.int .i64 x.z)) := Lib.hid fun wx h => by rw [hJd] at h; exact h
          have HJB : Hid (∀ wx, Blk wx q 30 #[.int .i64 x.k, .int .i64 x.n, .int .i64 x.z, .string x.s] → J wx) := Lib.hid fun wx h => by rw [hJd]; exact h.cell 2
          refine heldJ_start J (by kernel_rfl) ?_
          change wpAnyH _ _ _ _ _ _ _ _ w3.drew
          generalize w3.drew = w4 at j4 hz4 ⊢
          have HJ0 := Lib.hid (HJB.out w4 hz4)
          have C1 := opaque_any gr B E x.z w4 j4.a
          obtain ⟨V', A', E', hr⟩ : ∃ V' A' E', opqW B E x.z = (V', A', E') := ⟨_, _, _, rfl⟩
          rw [hr] at C1
          clear hJd
          refine heldJ_take (i := 0) (v := .pointer (some ⟨gr, 0, none⟩)) rfl (by kernel_rfl) (by kernel_rfl) (by kernel_rfl) (fun _ _ _ h => h) rfl (fun wx hJ => ?_) HJ0.out ?_
          · go_simp; skip
          simp only [pu]
          refine heldJ_take (i := 1) (v := .pointer (some ⟨q, 2, none⟩)) rfl (by kernel_rfl) (by kernel_rfl) (by kernel_rfl) (fun _ _ _ h => h) rfl (fun wx hJ => ?_) HJ0.out ?_
          · go_simp; skip
          simp only [pu]
          refine heldJ_take (i := 4) (v := .pointer (some ⟨gx, 0, none⟩)) rfl (by kernel_rfl) (by kernel_rfl) (by kernel_rfl) (fun _ _ _ h => h) rfl (fun wx hJ => ?_) HJ0.out ?_
          · go_simp; skip
          simp only [pu]
          refine heldJ_take (i := 5) (v := .pointer (some ⟨q, 2, none⟩)) rfl (by kernel_rfl) (by kernel_rfl) (by kernel_rfl) (fun _ _ _ h => h) rfl (fun wx hJ => ?_) HJ0.out ?_
          · go_simp; skip
          simp only [pu]
          refine heldJ_take (i := 2) (v := .int .i64 x.z) rfl (by kernel_rfl) (by kernel_rfl) (by kernel_rfl) (fun _ _ _ h => h) rfl (fun wx hJ => ?_) HJ0.out ?_
          · have cc := HJF.out wx hJ; go_simp; skip
          simp only [pu]
          refine heldJ_take (i := 6) (v := .int .i64 x.z) rfl (by kernel_rfl) (by kernel_rfl) (by kernel_rfl) (fun _ _ _ h => h) rfl (fun wx hJ => ?_) HJ0.out ?_
          · have cc := HJF.out wx hJ; go_simp; skip
          simp only [pu]
          refine heldJ_call (i := 3) (f := 23) (by kernel_rfl) rfl rfl (by go_simp; skip) ((C1).mono ?_)
          rintro e w5 ⟨rfl, h5, g5⟩
          have j5 := j4.take g5 h5
          have hz5 := h5.blk hz4 HQN.out.1
          have HJ1 := Lib.hid (HJB.out w5 hz5)
          have C2 := ropaque_any gx B E x.z w5 j5.b
          rw [hr] at C2
          clear C1 h5 g5 j4 hz4
          refine ⟨_, rfl, HJ1.out, ?_⟩
          simp only [pu]
          refine heldJ_call (i := 7) (f := 24) (by kernel_rfl) rfl rfl (by go_simp; skip) ((C2).mono ?_)
          rintro e w6 ⟨rfl, h6, g6⟩
          have j6 := j5.ref g6 h6
          have HJ2 := Lib.hid (HJB.out w6 (h6.blk hz5 HQN.out.2))
          clear C2 h6 g6 j5 hz5
          refine ⟨_, rfl, HJ2.out, ?_⟩
          simp only [pu]
          refine heldJ_take (i := 8) (v := .bool true) rfl (by kernel_rfl) (by kernel_rfl) (by kernel_rfl) (fun _ _ _ h => h) rfl (fun wx hJ => ?_) HJ2.out ?_
          · go_simp; skip
          simp only [pu]
          refine heldJ_take (i := 9) (v := .bool true) rfl (by kernel_rfl) (by kernel_rfl) (by kernel_rfl) (fun _ _ _ h => h) rfl (fun wx hJ => ?_) HJ2.out ?_
          · go_simp; skip
          simp only [pu]
          refine wpAnyH_done (by kernel_rfl) ?_ _
          have C3 := rest_any gr A' E' w6 j6.a
          have C4 := rrest_any gx A' E' w6 j6.b
          generalize restW A' E' = rr at C3 C4
          have HJ6 := Lib.hid j6
          clear j6 hr
          go_wp2_with fail
          refine C3.mono ?_
          rintro e w7 ⟨rfl, rfl⟩
          go_wp2_with fail
          refine C4.mono ?_
          rintro e w8 ⟨rfl, rfl⟩
          clear C3 C4
          go_wp2_with fail
          exact ⟨⟨k + 1, _, _, by go_num, by have := HK.out; omega, by have := HK.out; omega, HJ6⟩, by simp only [intOf]; have := HK.out; omega⟩
      · obtain rfl : k = 20 := by omega
        clear hk20 hkn hl20
        have j9 := HJ.out
        have C1 := end_any gr B E wr j9.a
        have C2 := rend_any gx B E wr j9.b
        generalize endW B E = ee at C1 C2
        have b9 := j9.c
        clear j9 HJ
        go_wp2_with fail
        refine C1.mono ?_
        rintro e w5 ⟨rfl, rfl⟩
        go_wp2_with fail
        refine C2.mono ?_
        rintro e w6 ⟨rfl, rfl⟩
        go_wp2_with fail
        go_ret
        exact ⟨rfl, b9⟩
    · obtain rfl : k = n := by omega
      have hlti : ¬ (k : Int) < (k : Int) := by omega
      clear hk20 hkn hlt
      have j9 := HJ.out
      have C1 := end_any gr B E wr j9.a
      have C2 := rend_any gx B E wr j9.b
      generalize endW B E = ee at C1 C2
      have b9 := j9.c
      clear j9 HJ
      go_wp2_with fail
      refine C1.mono ?_
      rintro e w5 ⟨rfl, rfl⟩
      go_wp2_with fail
      refine C2.mono ?_
      rintro e w6 ⟨rfl, rfl⟩
      go_wp2_with fail
      go_ret
      exact ⟨rfl, b9⟩
end Go.Proofs.Ytfheedpoaomfeaa
