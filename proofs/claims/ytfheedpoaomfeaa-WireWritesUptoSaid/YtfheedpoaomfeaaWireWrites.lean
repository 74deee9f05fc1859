/- The law WireWrites of chapter 13. -/
import Derived.Test.YtfheedpoaomfeaaIj
namespace Go.Proofs.Ytfheedpoaomfeaa
open Go.RowKit
/-- A writer of the developers', one of the document's, side by side. -/
structure SW (gw gx N : Nat) (v : Value) (A : ByteArray) (F : Nat) (B : ByteArray) (E : Nat) (w0 w : World) : Prop where
  a : WW gw v A F w
  b : YW gx B E w
  c : Below N w0 w
  d : N ≤ gw ∧ N ≤ gx ∧ gw ≠ gx ∧ gx < w.heap.size ∧ N ≤ w.heap.size
  e : ∀ i, v.ownBlock = some i → i ≠ gx ∧ N ≤ i
section
variable {gw gx N F E F' E' : Nat} {v v' : Value} {A B A' B' : ByteArray} {w0 w w' : World}
theorem SW.below (h : SW gw gx N v A F B E w0 w) (hb : Below w.heap.size w w') : SW gw gx N v A F B E w0 w' :=
  ⟨h.a.below hb, h.b.below hb, h.c.trans (hb.mono h.d.2.2.2.2), by have := h.d; have := hb.size; omega, h.e⟩
theorem SW.put (h : SW gw gx N v A F B E w0 w) (h1 : WW gw v' A' F' w') (h2 : Gg gw v w v' w') : SW gw gx N v' A' F' B E w0 w' := by
  have hd := h.d
  refine ⟨h1, h.b.gg h2 (by omega) (fun e => (h.e gx e).1 rfl), h.c.trans ⟨h2.os, h2.tape, h2.output, h2.size, fun i hi => h2.block i (by omega) (by omega) (fun e => by have := (h.e i e).2; omega)⟩, by have := h2.size; omega, fun i e => ?_⟩
  rcases h2.own i e with k | k
  · exact h.e i k
  · omega
theorem SW.ref (h : SW gw gx N v A F B E w0 w) (h1 : YW gx B' E' w') (h2 : Ho gx w w') : SW gw gx N v A F B' E' w0 w' := by
  have hd := h.d
  exact ⟨h.a.ho h2 (by omega) (fun e => (h.e gx e).1 rfl), h1, h.c.trans ⟨h2.os, h2.tape, h2.output, h2.size, fun i hi => h2.block i (by omega) (by omega)⟩, by have := h2.size; omega, h.e⟩
end
theorem Gg.blk {g q : Nat} {v v' : Value} {w w' : World} {t : TypeId} {cs : Array Value} (h : Blk w q t cs) (hg : Gg g v w v' w') (h1 : q ≠ g) (h2 : v.ownBlock ≠ some q) : Blk w' q t cs := (hg.block q h.lt h1 h2).trans h
theorem rawP_size (B : ByteArray) (E : Nat) (s : ByteArray) : (rawP B E s).1.size ≤ B.size + s.size := by
  unfold rawP
  by_cases hE : E = 0
  · rw [if_neg (by omega)]; show (B ++ s).size ≤ _; rw [size_app]; omega
  · rw [if_pos hE]; show B.size ≤ _; omega
theorem opqP_size (B : ByteArray) (E : Nat) (t : ByteArray) (s : Int) : (opqP B E t s).1.size ≤ B.size + 7 + t.size := by
  unfold opqP
  have h1 := numP_size B E (t.size : Int) s
  have h2 := rawP_size (numP B E (t.size : Int) s).1 (numP B E (t.size : Int) s).2 t
  omega
set_option maxRecDepth 100000 in
set_option maxHeartbeats 16000000 in
theorem wireWrites_any (p : Option Addr) (n cap : Nat) (l : List Pt) (w : World) (h : RS 4 p n cap (l.map encPt) w) (hok : ∀ x ∈ l, x.ok) (hz : ∀ x ∈ l, x.s.size ≤ 1048576) :
    Calls Try.prog 3 #[.slice p n cap] w fun e w' => e = .returned (.bool true) ∧ Below w.heap.size w w' := by
  have HR := Lib.hid h
  have HOK := Lib.hid hok
  have HZS := Lib.hid hz
  clear h hok hz
  go_enter Try.func3, Try.ntmps3
  go_wp2_with fail
  refine (examples13_any w).mono ?_
  rintro e w0 ⟨rfl, b0⟩
  go_wp2_with fail
  refine (newWriter_any w0).mono ?_
  rintro e w1 ⟨gw, rfl, hgw, hw, b1⟩
  have b01 := b0.trans (b1.mono b0.size)
  have hal := (Below.refl _ w1).alloc (Nat.le_refl _) (.cells #[.string ⟨#[]⟩, .int .i64 0] 28)
  have HI : Hid (SW gw w1.heap.size w.heap.size (.slice none 0 0) ⟨#[]⟩ 0 ⟨#[]⟩ 0 w (w1.alloc (.cells #[.string ⟨#[]⟩, .int .i64 0] 28)) ∧ (⟨#[]⟩ : ByteArray).size ≤ 0 * 1048600) := Lib.hid
    ⟨⟨hw.below hal, ⟨_, Blk.new _ _ _, fun _ => rfl⟩, b01.trans (hal.mono b01.size), by have := b0.size; have := b01.size; have := hal.size; have := hw.blk.lt; simp; omega, fun i e => by cases e⟩, by decide⟩
  obtain ⟨gx, hgx⟩ : ∃ gx, gx = w1.heap.size := ⟨_, rfl⟩
  have hn := HR.out.mx
  have hle := HR.out.le
  clear hw b0 b1 b01 hal hgw
  go_wp2_with fail
  rw [← hgx] at HI ⊢
  clear hgx
  go_loopw [6] (fun u wr => ∃ (k : Nat) (v : Value) (B : ByteArray) (E : Nat), u = .int .i64 (k : Int) ∧ k ≤ n ∧ k ≤ 20 ∧ Hid (SW gw gx w.heap.size v B E B E w wr ∧ B.size ≤ k * 1048600)) (fun u _ => 20 - (intOf u).toNat)
  case atStart => exact ⟨0, _, _, _, rfl, Nat.zero_le _, by decide, HI⟩
  case round =>
    obtain ⟨k, v, B, E, rfl, hkn, hk20, HJ⟩ := hrel
    clear HI
    by_cases hlt : k < n
    · have hlti : (k : Int) < (n : Int) := by omega
      by_cases hl20 : k < 20
      · have hl20i : (k : Int) < 20 := by omega
        obtain ⟨a, rfl⟩ := HR.out.some_ (by omega)
        have hkl : k < l.length := by have := HR.out.len; rw [List.length_map] at this; omega
        obtain ⟨x, hx⟩ : ∃ x, x = l[k]'hkl := ⟨_, rfl⟩
        have hget : (l.map encPt)[k]? = some [.int .i64 x.k, .int .i64 x.n, .int .i64 x.z, .string x.s] := by
          rw [List.getElem?_map, List.getElem?_eq_getElem hkl, ← hx]; rfl
        obtain ⟨c0, c1, c2, c3⟩ := (HR.out.below HJ.out.1.c).at4 hget
        have HX : Hid (x.ok ∧ x.s.size ≤ 1048576) := Lib.hid (by rw [hx]; exact ⟨HOK.out _ (List.getElem_mem hkl), HZS.out _ (List.getElem_mem hkl)⟩)
        have HK := Lib.hid (⟨hlt, hl20⟩ : k < n ∧ k < 20)
        have hkw : IntKind.i64.wrap ((k : Int) + 1) = ((k + 1 : Nat) : Int) := by rw [IntWalk.i64_in _ (by omega)]; rfl
        obtain ⟨q, hq⟩ : ∃ q, q = wr.heap.size := ⟨_, rfl⟩
        have HZ := Lib.hid (Blk.new wr 30 #[.int .i64 0, .int .i64 0, .int .i64 0, .string ⟨#[]⟩])
        have hb2 := below_setRow' ((Below.refl _ wr).alloc (Nat.le_refl _) (.cells #[.int .i64 0, .int .i64 0, .int .i64 0, .string ⟨#[]⟩] 30)) (Nat.le_refl _) #[.int .i64 x.k, .int .i64 x.n, .int .i64 x.z, .string x.s]
        have hz2 := HZ.out.row_ #[.int .i64 x.k, .int .i64 x.n, .int .i64 x.z, .string x.s]
        obtain ⟨W2, hW2⟩ : ∃ W2, W2 = (wr.alloc (.cells #[.int .i64 0, .int .i64 0, .int .i64 0, .string ⟨#[]⟩] 30)).setRow wr.heap.size #[.int .i64 x.k, .int .i64 x.n, .int .i64 x.z, .string x.s] := ⟨_, rfl⟩
        rw [← hW2] at hb2 hz2
        rw [← hq] at hz2
        have HW2 := Lib.hid hW2
        have HQE := Lib.hid hq
        have j2 := HJ.out.1.below hb2
        have HQN : Hid (q ≠ gw ∧ q ≠ gx ∧ ∀ i, v.ownBlock = some i → i ≠ q) := Lib.hid ⟨by have := HJ.out.1.a.blk.lt; omega, by have := HJ.out.1.d; omega, fun i e => by have := (HJ.out.1.a.ownB i e).2; omega⟩
        have HBS := Lib.hid HJ.out.2
        have C0 := kind_any x.k x.n x.z x.s W2 HX.out.1.k.1
        have d0 : W2.cell? ⟨q, 0, none⟩ = some (.int .i64 x.k) := hz2.cell 0
        have d1 : W2.cell? ⟨q, 1, none⟩ = some (.int .i64 x.n) := hz2.cell 1
        have d2 : W2.cell? ⟨q, 2, none⟩ = some (.int .i64 x.z) := hz2.cell 2
        have d3 : W2.cell? ⟨q, 3, none⟩ = some (.string x.s) := hz2.cell 3
        clear hx hget hkl hlt hl20 hkn hk20 HJ hb2 hW2 hq
        go_wp2_with (refine wpList_store_row rfl 30 _ _ rfl wr.heap.size #[.int .i64 x.k, .int .i64 x.n, .int .i64 x.z, .string x.s] rfl rfl 30 _ HZ.out part_size rfl (part_one _ _ _ _) ?_; rw [← HW2.out, ← HQE.out])
        refine C0.mono ?_
        rintro e w3 ⟨rfl, b3⟩
        have j3 := j2.below b3
        have hz3 := hz2.below b3 hz2.lt
        have hkN := kindN_lt x.k
        generalize kindN x.k = m at hkN
        clear C0 c0 c1 c2 c3 d0 d1 d2 d3 j2 hz2 b3
        have c0 : w3.cell? ⟨q, 0, none⟩ = some (.int .i64 x.k) := hz3.cell 0
        have c1 : w3.cell? ⟨q, 1, none⟩ = some (.int .i64 x.n) := hz3.cell 1
        have c2 : w3.cell? ⟨q, 2, none⟩ = some (.int .i64 x.z) := hz3.cell 2
        have c3 : w3.cell? ⟨q, 3, none⟩ = some (.string x.s) := hz3.cell 3
        have hm3 : m = 0 ∨ m = 1 ∨ m = 2 := by omega
        clear hkN
        rcases hm3 with rfl | rfl | rfl
        · have C1 := numP_any gw v B E x.n x.z w3 j3.a (fun _ => by have := HBS.out; have := HX.out.2; have := HK.out; omega) (fun _ => HX.out.1.n.2)
          obtain ⟨A', E', hr⟩ : ∃ A' E', numP B E x.n x.z = (A', E') := ⟨_, _, rfl⟩
          rw [hr] at C1
          have HB2 : Hid (A'.size ≤ (k + 1) * 1048600) := Lib.hid (by
            have h1 := numP_size B E x.n x.z
            rw [hr] at h1
            have h1 : A'.size ≤ _ := h1
            have := HBS.out
            have := HX.out.2
            omega)
          go_wp2_with fail
          refine C1.mono ?_
          rintro e w4 ⟨rfl, v4, h4, g4⟩
          have j4 := j3.put h4 g4
          have hz4 := Gg.blk hz3 g4 HQN.out.1 (fun e => HQN.out.2.2 _ e rfl)
          have C2 := rnumP_any gx B E x.n x.z w4 j4.b (by have := HBS.out; have := HX.out.2; have := HK.out; omega)
          rw [hr] at C2
          have d0 : w4.cell? ⟨q, 0, none⟩ = some (.int .i64 x.k) := hz4.cell 0
          have d1 : w4.cell? ⟨q, 1, none⟩ = some (.int .i64 x.n) := hz4.cell 1
          have d2 : w4.cell? ⟨q, 2, none⟩ = some (.int .i64 x.z) := hz4.cell 2
          have d3 : w4.cell? ⟨q, 3, none⟩ = some (.string x.s) := hz4.cell 3
          clear C1 c0 c1 c2 c3 j3 hz3 h4 g4 hr
          go_wp2_with fail
          refine C2.mono ?_
          rintro e w5 ⟨rfl, h5, g5⟩
          have j5 := j4.ref h5 g5
          have C3 := bytesW_any gw v4 A' E' w5 j5.a
          have j6 := j5.below ((Below.refl _ _).drew)
          clear C2 d0 d1 d2 d3 j4 hz4 h5 g5 j5
          go_wp2_with fail
          refine C3.mono ?_
          rintro e w6 ⟨rfl, rfl⟩
          obtain ⟨D, hD, hDE⟩ := j6.b
          have HJ6 : Hid (SW gw gx w.heap.size v4 A' E' A' E' w w5.drew ∧ A'.size ≤ (k + 1) * 1048600) := Lib.hid ⟨j6, HB2.out⟩
          have e1 : w5.drew.cell? ⟨gx, 1, none⟩ = some (.int .i64 (E' : Int)) := hD.cell 1
          have e0 : w5.drew.cell? ⟨gx, 0, none⟩ = some (.string D) := hD.cell 0
          by_cases hE : E' = 0
          · subst hE
            obtain rfl := hDE rfl
            clear C3 j6 hD hDE
            go_wp2_with fail
            exact ⟨⟨k + 1, v4, _, _, by go_num, by have := HK.out; omega, by have := HK.out; omega, HJ6⟩, by simp only [intOf]; have := HK.out; omega⟩
          · obtain ⟨_, rfl⟩ := j6.a.err hE
            have hE1 : ¬ (E' : Int) = 0 := by omega
            have hE2 : ((E' : Int) == 0) = false := by simp [hE]
            clear C3 j6 hD hDE hE
            go_wp2_with fail
            exact ⟨⟨k + 1, v4, _, _, by go_num, by have := HK.out; omega, by have := HK.out; omega, HJ6⟩, by simp only [intOf]; have := HK.out; omega⟩
        · have C1 := rawP_any gw v B E x.s w3 j3.a (fun _ => by have := HBS.out; have := HX.out.2; have := HK.out; omega)
          obtain ⟨A', E', hr⟩ : ∃ A' E', rawP B E x.s = (A', E') := ⟨_, _, rfl⟩
          rw [hr] at C1
          have HB2 : Hid (A'.size ≤ (k + 1) * 1048600) := Lib.hid (by
            have h1 := rawP_size B E x.s
            rw [hr] at h1
            have h1 : A'.size ≤ _ := h1
            have := HBS.out
            have := HX.out.2
            omega)
          go_wp2_with fail
          refine C1.mono ?_
          rintro e w4 ⟨rfl, v4, h4, g4⟩
          have j4 := j3.put h4 g4
          have hz4 := Gg.blk hz3 g4 HQN.out.1 (fun e => HQN.out.2.2 _ e rfl)
          have C2 := rrawP_any gx B E x.s w4 j4.b (by have := HBS.out; have := HX.out.2; have := HK.out; omega)
          rw [hr] at C2
          have d0 : w4.cell? ⟨q, 0, none⟩ = some (.int .i64 x.k) := hz4.cell 0
          have d1 : w4.cell? ⟨q, 1, none⟩ = some (.int .i64 x.n) := hz4.cell 1
          have d2 : w4.cell? ⟨q, 2, none⟩ = some (.int .i64 x.z) := hz4.cell 2
          have d3 : w4.cell? ⟨q, 3, none⟩ = some (.string x.s) := hz4.cell 3
          clear C1 c0 c1 c2 c3 j3 hz3 h4 g4 hr
          go_wp2_with fail
          refine C2.mono ?_
          rintro e w5 ⟨rfl, h5, g5⟩
          have j5 := j4.ref h5 g5
          have C3 := bytesW_any gw v4 A' E' w5 j5.a
          have j6 := j5.below ((Below.refl _ _).drew)
          clear C2 d0 d1 d2 d3 j4 hz4 h5 g5 j5
          go_wp2_with fail
          refine C3.mono ?_
          rintro e w6 ⟨rfl, rfl⟩
          obtain ⟨D, hD, hDE⟩ := j6.b
          have HJ6 : Hid (SW gw gx w.heap.size v4 A' E' A' E' w w5.drew ∧ A'.size ≤ (k + 1) * 1048600) := Lib.hid ⟨j6, HB2.out⟩
          have e1 : w5.drew.cell? ⟨gx, 1, none⟩ = some (.int .i64 (E' : Int)) := hD.cell 1
          have e0 : w5.drew.cell? ⟨gx, 0, none⟩ = some (.string D) := hD.cell 0
          by_cases hE : E' = 0
          · subst hE
            obtain rfl := hDE rfl
            clear C3 j6 hD hDE
            go_wp2_with fail
            exact ⟨⟨k + 1, v4, _, _, by go_num, by have := HK.out; omega, by have := HK.out; omega, HJ6⟩, by simp only [intOf]; have := HK.out; omega⟩
          · obtain ⟨_, rfl⟩ := j6.a.err hE
            have hE1 : ¬ (E' : Int) = 0 := by omega
            have hE2 : ((E' : Int) == 0) = false := by simp [hE]
            clear C3 j6 hD hDE hE
            go_wp2_with fail
            exact ⟨⟨k + 1, v4, _, _, by go_num, by have := HK.out; omega, by have := HK.out; omega, HJ6⟩, by simp only [intOf]; have := HK.out; omega⟩
        · have C1 := opqP_any gw v B E x.s x.z w3 j3.a (fun _ => by have := HBS.out; have := HX.out.2; have := HK.out; omega)
          obtain ⟨A', E', hr⟩ : ∃ A' E', opqP B E x.s x.z = (A', E') := ⟨_, _, rfl⟩
          rw [hr] at C1
          have HB2 : Hid (A'.size ≤ (k + 1) * 1048600) := Lib.hid (by
            have h1 := opqP_size B E x.s x.z
            rw [hr] at h1
            have h1 : A'.size ≤ _ := h1
            have := HBS.out
            have := HX.out.2
            omega)
          go_wp2_with fail
          refine C1.mono ?_
          rintro e w4 ⟨rfl, v4, h4, g4⟩
          have j4 := j3.put h4 g4
          have hz4 := Gg.blk hz3 g4 HQN.out.1 (fun e => HQN.out.2.2 _ e rfl)
          have C2 := ropqP_any gx B E x.s x.z w4 j4.b (by have := HBS.out; have := HX.out.2; have := HK.out; omega)
          rw [hr] at C2
          have d0 : w4.cell? ⟨q, 0, none⟩ = some (.int .i64 x.k) := hz4.cell 0
          have d1 : w4.cell? ⟨q, 1, none⟩ = some (.int .i64 x.n) := hz4.cell 1
          have d2 : w4.cell? ⟨q, 2, none⟩ = some (.int .i64 x.z) := hz4.cell 2
          have d3 : w4.cell? ⟨q, 3, none⟩ = some (.string x.s) := hz4.cell 3
          clear C1 c0 c1 c2 c3 j3 hz3 h4 g4 hr
          go_wp2_with fail
          refine C2.mono ?_
          rintro e w5 ⟨rfl, h5, g5⟩
          have j5 := j4.ref h5 g5
          have C3 := bytesW_any gw v4 A' E' w5 j5.a
          have j6 := j5.below ((Below.refl _ _).drew)
          clear C2 d0 d1 d2 d3 j4 hz4 h5 g5 j5
          go_wp2_with fail
          refine C3.mono ?_
          rintro e w6 ⟨rfl, rfl⟩
          obtain ⟨D, hD, hDE⟩ := j6.b
          have HJ6 : Hid (SW gw gx w.heap.size v4 A' E' A' E' w w5.drew ∧ A'.size ≤ (k + 1) * 1048600) := Lib.hid ⟨j6, HB2.out⟩
          have e1 : w5.drew.cell? ⟨gx, 1, none⟩ = some (.int .i64 (E' : Int)) := hD.cell 1
          have e0 : w5.drew.cell? ⟨gx, 0, none⟩ = some (.string D) := hD.cell 0
          by_cases hE : E' = 0
          · subst hE
            obtain rfl := hDE rfl
            clear C3 j6 hD hDE
            go_wp2_with fail
            exact ⟨⟨k + 1, v4, _, _, by go_num, by have := HK.out; omega, by have := HK.out; omega, HJ6⟩, by simp only [intOf]; have := HK.out; omega⟩
          · obtain ⟨_, rfl⟩ := j6.a.err hE
            have hE1 : ¬ (E' : Int) = 0 := by omega
            have hE2 : ((E' : Int) == 0) = false := by simp [hE]
            clear C3 j6 hD hDE hE
            go_wp2_with fail
            exact ⟨⟨k + 1, v4, _, _, by go_num, by have := HK.out; omega, by have := HK.out; omega, HJ6⟩, by simp only [intOf]; have := HK.out; omega⟩
      · obtain rfl : k = 20 := by omega
        have b9 := HJ.out.1.c
        clear hk20 hkn hl20 HJ
        go_wp2_with fail
        go_ret
        exact ⟨rfl, b9⟩
    · obtain rfl : k = n := by omega
      have hlti : ¬ (k : Int) < (k : Int) := by omega
      have b9 := HJ.out.1.c
      clear hk20 hkn hlt HJ
      go_wp2_with fail
      go_ret
      exact ⟨rfl, b9⟩
end Go.Proofs.Ytfheedpoaomfeaa
