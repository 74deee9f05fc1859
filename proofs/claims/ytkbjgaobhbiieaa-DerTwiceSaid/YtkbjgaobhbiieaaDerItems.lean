/- The law DerItems of chapter 14 (over the developers' contracts). -/
import Derived.Test.YtkbjgaobhbiieaaMC
namespace Go.Proofs.Ytkbjgaobhbiieaa
open Go.RowKit
theorem RS.at3 {a : Addr} {n cap : Nat} {l : List (List Value)} {w : World} (h : RS 3 (some a) n cap l w) {i : Nat} {x y z : Value} (hi : l[i]? = some [x, y, z]) :
    w.cell? (a.add (i * 3)) = some x ∧ w.cell? ⟨(a.add (i * 3)).block, (a.add (i * 3)).off + 1, none⟩ = some y ∧ w.cell? ⟨(a.add (i * 3)).block, (a.add (i * 3)).off + 2, none⟩ = some z := by
  obtain ⟨hl, e⟩ := List.getElem?_eq_some_iff.1 hi
  have k := h.cell a rfl i hl
  rw [e] at k
  have k1 := k 1 y rfl
  have k2 := k 2 z rfl
  rw [← addr_add2, addr_next _ _ (by decide)] at k1 k2
  exact ⟨k 0 x rfl, k1, k2⟩
theorem cellsI_is (o : Option It) : ∃ (T : Int) (X Y : ByteArray), cellsI o = #[.int .i64 T, .string X, .string Y] := by
  rcases o with _ | ⟨t, x, y⟩
  · exact ⟨0, _, _, rfl⟩
  · exact ⟨_, _, _, rfl⟩
set_option maxRecDepth 100000 in
set_option maxHeartbeats 8000000 in
theorem derItems_any (hN : NextC) (hW : WrapC) (hP : PartsC) (hS : StripX) (s : ByteArray) (tag : Int) (x : ByteArray) (w : World) (hs : s.size ≤ 281474976710656) (hx : x.size ≤ 281474976710656) :
    Calls Try.prog 3 #[.string s, .int .i64 tag, .string x] w fun e w' => e = .returned (.bool true) ∧ Below w.heap.size w w' := by
  have CX := examples14_any hN hW hS
  have N1 := fun wx => hN s wx hs
  have N2 := fun wx => rNext_any s wx (by omega)
  have U1 := fun wx => hW tag x wx hx
  have U2 := fun wx => rWrap_any tag x wx (by omega)
  have P1 := fun wx => hP s wx hs
  have P2 := fun wx => rParts_any s wx (by omega)
  obtain ⟨T, X, Y, hc⟩ := cellsI_is (nextD s)
  rw [hc] at N1 N2
  obtain ⟨er, her⟩ : ∃ er, er = errI (nextD s) := ⟨_, rfl⟩
  rw [← her] at N1
  have HER : Hid (er = if (nextD s).isSome then 0 else 2) := Lib.hid her
  generalize (nextD s).isSome = ok at N2 HER
  generalize wrapS tag x = A at U1 U2
  obtain ⟨A, E⟩ := A
  generalize partsF 100 s = L at P1 P2
  obtain ⟨L, F⟩ := L
  clear hc her hN hW hP hS hs hx
  go_enter Try.func3, Try.ntmps3
  go_wp2_with fail
  refine (CX w).mono ?_
  rintro e w0 ⟨rfl, b0⟩
  clear CX
  go_wp2_with fail
  refine (N1 w0).mono ?_
  rintro e w1 ⟨rfl, b1⟩
  have HZ1 := Lib.hid (Blk.new w1 24 #[.int .i64 0, .string ⟨#[]⟩, .string ⟨#[]⟩])
  have hb1 := below_setRow' ((Below.refl w1.heap.size w1).alloc (Nat.le_refl _) (.cells #[.int .i64 0, .string ⟨#[]⟩, .string ⟨#[]⟩] 24)) (Nat.le_refl _) #[.int .i64 T, .string X, .string Y]
  have hz1 := HZ1.out.row_ #[.int .i64 T, .string X, .string Y]
  obtain ⟨q1, hq1⟩ : ∃ q, q = w1.heap.size := ⟨_, rfl⟩
  obtain ⟨W1, hW1⟩ : ∃ W, W = (w1.alloc (.cells #[.int .i64 0, .string ⟨#[]⟩, .string ⟨#[]⟩] 24)).setRow w1.heap.size #[.int .i64 T, .string X, .string Y] := ⟨_, rfl⟩
  rw [← hW1] at hb1 hz1
  rw [← hq1] at hz1
  have HW1 := Lib.hid hW1
  have HQ1 := Lib.hid hq1
  clear hW1 hq1
  have B1 := (b0.trans (b1.mono b0.size)).trans (hb1.mono (b0.trans (b1.mono b0.size)).size)
  clear N1 b0 b1 hb1
  go_wp2_with (refine wpList_store_row rfl 24 _ _ rfl w1.heap.size #[.int .i64 T, .string X, .string Y] rfl rfl 24 _ HZ1.out itemD_size rfl (cells3_one _ _ _) ?_; rw [← HW1.out, ← HQ1.out])
  refine (N2 W1).mono ?_
  rintro e w2 ⟨rfl, b2⟩
  have hx2 := hz1.below b2 hz1.lt
  have HZ2 := Lib.hid (Blk.new w2 28 #[.int .i64 0, .string ⟨#[]⟩, .string ⟨#[]⟩])
  have hb2 := below_setRow' ((Below.refl w2.heap.size w2).alloc (Nat.le_refl _) (.cells #[.int .i64 0, .string ⟨#[]⟩, .string ⟨#[]⟩] 28)) (Nat.le_refl _) #[.int .i64 T, .string X, .string Y]
  have hz2 := HZ2.out.row_ #[.int .i64 T, .string X, .string Y]
  obtain ⟨q2, hq2⟩ : ∃ q, q = w2.heap.size := ⟨_, rfl⟩
  obtain ⟨W2, hW2⟩ : ∃ W, W = (w2.alloc (.cells #[.int .i64 0, .string ⟨#[]⟩, .string ⟨#[]⟩] 28)).setRow w2.heap.size #[.int .i64 T, .string X, .string Y] := ⟨_, rfl⟩
  rw [← hW2] at hb2 hz2
  rw [← hq2] at hz2
  have HW2 := Lib.hid hW2
  have HQ2 := Lib.hid hq2
  clear hW2 hq2
  have B2 := (B1.trans (b2.mono B1.size)).trans (hb2.mono (B1.trans (b2.mono B1.size)).size)
  have hx3 := hx2.below hb2 hx2.lt
  clear N2 B1 b2 hb2 hx2 hz1
  go_wp2_with (refine wpList_store_row rfl 28 _ _ rfl w2.heap.size #[.int .i64 T, .string X, .string Y] rfl rfl 28 _ HZ2.out itemR_size rfl (cells3_one _ _ _) ?_; rw [← HW2.out, ← HQ2.out])
  refine (U1 W2).mono ?_
  rintro e w3 ⟨rfl, b3⟩
  have hx4 := hx3.below b3 hx3.lt
  have hy4 := hz2.below b3 hz2.lt
  have B3 := B2.trans (b3.mono B2.size)
  clear U1 B2 b3 hx3 hz2
  go_wp2_with fail
  refine (U2 w3).mono ?_
  rintro e w4 ⟨rfl, b4⟩
  have hx5 := hx4.below b4 hx4.lt
  have hy5 := hy4.below b4 hy4.lt
  have B4 := B3.trans (b4.mono B3.size)
  clear U2 B3 b4 hx4 hy4
  go_wp2_with fail
  refine (P1 w4).mono ?_
  rintro e w5 ⟨v5, rfl, l5⟩
  have hx6 := hx5.below l5.b hx5.lt
  have hy6 := hy5.below l5.b hy5.lt
  have B5 := B4.trans (l5.b.mono B4.size)
  clear P1 B4 hx5 hy5
  go_wp2_with fail
  refine (P2 w5).mono ?_
  rintro e w6 ⟨v6, rfl, l6⟩
  have HX := Lib.hid (hx6.below l6.b hx6.lt)
  have HY := Lib.hid (hy6.below l6.b hy6.lt)
  have HB := Lib.hid (B5.trans (l6.b.mono B5.size))
  have l5 := l5.below l6.b
  clear P2 B5 hx6 hy6
  obtain ⟨pa, ca, hva, ra, _⟩ := l5.rs
  obtain ⟨pb, cb, hvb, rb, _⟩ := l6.rs
  rw [List.length_map] at hva hvb ra rb
  subst hva hvb
  have HA := Lib.hid ra
  have HBB := Lib.hid rb
  have hmx := ra.mx
  have hle := ra.le
  have hmy := rb.mx
  have hley := rb.le
  clear l5 l6 ra rb
  go_wp2_with fail
  go_loopw [20] (fun u wr => ∃ j : Nat, u = .int .i64 (j : Int) ∧ j ≤ L.length ∧ Hid (Below w6.heap.size w6 wr)) (fun u _ => L.length - (intOf u).toNat)
  case atStart => exact ⟨0, rfl, Nat.zero_le _, Lib.hid (Below.refl _ _)⟩
  case round =>
    obtain ⟨j, rfl, hj, HW⟩ := hrel
    by_cases hlt : j < L.length
    · have hlti : (j : Int) < (L.length : Int) := by omega
      obtain ⟨a, rfl⟩ := HA.out.some_ (by omega)
      obtain ⟨b, rfl⟩ := HBB.out.some_ (by omega)
      obtain ⟨y, hy⟩ : ∃ y, y = L[j]'hlt := ⟨_, rfl⟩
      have hget : (L.map encIt)[j]? = some [.int .i64 (y.1 : Int), .string y.2.1, .string y.2.2] := by
        rw [List.getElem?_map, List.getElem?_eq_getElem hlt, ← hy]; rfl
      obtain ⟨c0, c1, c2⟩ := (HA.out.below HW.out).at3 hget
      obtain ⟨d0, d1, d2⟩ := (HBB.out.below HW.out).at3 hget
      have hkw : IntKind.i64.wrap ((j : Int) + 1) = ((j + 1 : Nat) : Int) := by rw [IntWalk.i64_in _ (by omega)]; rfl
      have HJ := Lib.hid hlt
      clear hy hget hlt hj
      go_wp2_with fail
      go_quiet (fail)
      have HW2 : Hid (Below w6.heap.size w6 (wr.drewN nq)) := Lib.hid (by have h := HW.out; exact ⟨h.os, h.tape, h.output, h.size, h.block⟩)
      clear c0 c1 c2 d0 d1 d2
      generalize wr.drewN nq = wn at HW2 ⊢
      go_wp2_with fail
      exact ⟨⟨j + 1, by go_num, by have := HJ.out; omega, HW2⟩, by simp only [intOf]; have := HJ.out; omega⟩
    · obtain rfl : j = L.length := by omega
      have hlti : ¬ (L.length : Int) < (L.length : Int) := by omega
      have hx7 := HX.out.below HW.out HX.out.lt
      have hy7 := HY.out.below HW.out HY.out.lt
      have HF := Lib.hid (HB.out.trans (HW.out.mono HB.out.size))
      have c0 : wr.cell? ⟨q1, 0, none⟩ = some (.int .i64 T) := hx7.cell 0
      have c1 : wr.cell? ⟨q1, 1, none⟩ = some (.string X) := hx7.cell 1
      have c2 : wr.cell? ⟨q1, 2, none⟩ = some (.string Y) := hx7.cell 2
      have d0 : wr.cell? ⟨q2, 0, none⟩ = some (.int .i64 T) := hy7.cell 0
      have d1 : wr.cell? ⟨q2, 1, none⟩ = some (.string X) := hy7.cell 1
      have d2 : wr.cell? ⟨q2, 2, none⟩ = some (.string Y) := hy7.cell 2
      clear hx7 hy7 hj hlt
      cases ok with
      | true =>
        obtain rfl : er = 0 := HER.out
        go_wp2_with fail
        go_ret
        exact ⟨rfl, HF.out⟩
      | false =>
        obtain rfl : er = 2 := HER.out
        go_wp2_with fail
        go_ret
        exact ⟨rfl, HF.out⟩
end Go.Proofs.Ytkbjgaobhbiieaa
