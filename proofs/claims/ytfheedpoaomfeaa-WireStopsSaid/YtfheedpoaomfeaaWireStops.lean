/- The law WireStops of chapter 13. -/
import Derived.Test.YtfheedpoaomfeaaIj
namespace Go.Proofs.Ytfheedpoaomfeaa
open Go.RowKit
theorem numW_err (B : ByteArray) (E : Nat) (n : Int) (h : E ≠ 0) : numW B E n = (0, B, E) := by unfold numW; rw [if_pos h]
theorem rawW_err (B : ByteArray) (E : Nat) (n : Int) (h : E ≠ 0) : rawW B E n = (⟨#[]⟩, B, E) := by unfold rawW; rw [if_pos h]
theorem opqW_err (B : ByteArray) (E : Nat) (n : Int) (h : E ≠ 0) : opqW B E n = (⟨#[]⟩, B, E) := by
  unfold opqW
  rw [numW_err B E n h]
  exact rawW_err B E _ h
theorem rawP_err (B : ByteArray) (E : Nat) (s : ByteArray) (h : E ≠ 0) : rawP B E s = (B, E) := by unfold rawP; rw [if_pos h]
theorem opqP_err (B : ByteArray) (E : Nat) (t : ByteArray) (s : Int) (h : E ≠ 0) : opqP B E t s = (B, E) := by
  unfold opqP
  have e : numP B E (t.size : Int) s = (B, E) := by unfold numP; rw [if_pos h]
  rw [e]
  exact rawP_err B E t h
theorem Gg.none_ {g : Nat} {v' : Value} {w w' : World} {B : Nat} (h : Gg g (.slice none 0 0) w v' w') (hB : B ≤ g) (hz : B ≤ w.heap.size) : Below B w w' :=
  ⟨h.os, h.tape, h.output, h.size, fun i hi => h.block i (by omega) (by omega) (fun e => by cases e)⟩
/-- A writer and a reader that are stopped. -/
structure ST (gw gr N : Nat) (R : ByteArray) (w0 w : World) : Prop where
  a : WW gw (.slice none 0 0) ⟨#[]⟩ 1 w
  b : RW gr R 2 w
  c : Below N w0 w
  d : N ≤ gw ∧ N ≤ gr ∧ gw + 1 < gr
theorem ST.drew {gw gr N : Nat} {R : ByteArray} {w0 w : World} (h : ST gw gr N R w0 w) : ST gw gr N R w0 w.drew := ⟨h.a.drew, h.b.below ((Below.refl _ _).drew), h.c.drew, h.d⟩
theorem ST.put {gw gr N : Nat} {R : ByteArray} {v' : Value} {w0 w w' : World} (h : ST gw gr N R w0 w) (h1 : WW gw v' ⟨#[]⟩ 1 w') (hv : v' = .slice none 0 0) (h2 : Gg gw (.slice none 0 0) w v' w') : ST gw gr N R w0 w' := by
  subst hv
  have := h.d
  have hl := h.a.blk.lt
  have hz := h.c.size
  exact ⟨h1, h.b.gg h2 (by omega) (by omega) (fun i e => by cases e), h.c.trans ⟨h2.os, h2.tape, h2.output, h2.size, fun i hi => h2.block i (by have := h.b.lt; omega) (by omega) (fun e => by cases e)⟩, h.d⟩
theorem ST.take {gw gr N : Nat} {R : ByteArray} {w0 w w' : World} (h : ST gw gr N R w0 w) (h1 : Ho gr w w') (h2 : RW gr R 2 w') : ST gw gr N R w0 w' := by
  have := h.d
  exact ⟨h.a.ho h1 (by omega) (fun e => by cases e), h2, h.c.trans ⟨h1.os, h1.tape, h1.output, h1.size, fun i hi => h1.block i (by have := h.b.lt; omega) (by omega)⟩, h.d⟩
set_option maxRecDepth 100000 in
set_option maxHeartbeats 4000000 in
theorem wireStops_any (p : Option Addr) (n cap : Nat) (l : List Pt) (s : ByteArray) (z : Int) (w : World) (h : RS 4 p n cap (l.map encPt) w) (hs : s.size ≤ 140737488351232) :
    Calls Try.prog 6 #[.slice p n cap, .string s, .int .i64 z] w fun e w' => e = .returned (.bool true) ∧ Below w.heap.size w w' := by
  have HR := Lib.hid h
  have HS := Lib.hid hs
  have hs1 : IntKind.i64.wrap ((s.size : Int) + 1) = (s.size : Int) + 1 := IntWalk.i64_in _ (by omega)
  clear h hs
  go_enter Try.func6, Try.ntmps6
  go_wp2_with fail
  refine (examples13_any w).mono ?_
  rintro e w0 ⟨rfl, b0⟩
  go_wp2_with fail
  refine (newWriter_any w0).mono ?_
  rintro e w1 ⟨gw, rfl, hgw, hw, b1⟩
  have b01 := b0.trans (b1.mono b0.size)
  have C1 := newReader_any s w1 (by have := HS.out; omega)
  have hgB : w.heap.size ≤ gw := Nat.le_trans b0.size hgw
  have hgl := hw.blk.lt
  clear b0 b1
  go_wp2_with fail
  refine C1.mono ?_
  rintro e w2 ⟨gr, rfl, hgr, hr, b2⟩
  have hw2 := hw.below b2
  have b02 := b01.trans (b2.mono b01.size)
  have hgg : gw + 1 < gr := by omega
  have C2 := numP_any gw _ ⟨#[]⟩ 0 (-1) 2 w2 hw2 (fun _ => by decide) (fun _ => by decide)
  have e1 : numP ⟨#[]⟩ 0 (-1) 2 = (⟨#[]⟩, 1) := by decide +kernel
  rw [e1] at C2
  clear C1 hw b2 b01
  go_wp2_with fail
  refine C2.mono ?_
  rintro e w3 ⟨rfl, v3, hw3, g3⟩
  have hr3 := hr.gg g3 (by omega) (by omega) (fun i e => by cases e)
  have b03 : Below w.heap.size w w3 := b02.trans (g3.none_ (by omega) b02.size)
  obtain ⟨rfl, _⟩ := hw3.err (by decide)
  have e2 : rawW s 0 ((s.size : Int) + 1) = (⟨#[]⟩, s, 2) := by unfold rawW; rw [if_neg (by decide), if_neg (by omega), if_pos (by omega)]
  have C3 := raw_any gr s 0 ((s.size : Int) + 1) w3 hr3
  rw [e2] at C3
  have hrl := hr3.lt
  clear C2 hw2 hr b02 g3 e1 e2
  go_wp2_with fail
  refine C3.mono ?_
  rintro e w4 ⟨rfl, h4, hr4⟩
  have HI : Hid (ST gw gr w.heap.size s w w4) := Lib.hid ⟨hw3.ho h4 (by omega) (fun e => by cases e), hr4, b03.trans (h4.below (by omega) b03.size), by omega⟩
  clear C3 hw3 hr3 b03 h4 hr4 hrl hgB hgl hgr hgg hgw
  have hn := HR.out.mx
  have hle := HR.out.le
  go_wp2_with fail
  go_loopw [10] (fun u wr => ∃ k : Nat, u = .int .i64 (k : Int) ∧ k ≤ n ∧ k ≤ 10 ∧ Hid (ST gw gr w.heap.size s w wr)) (fun u _ => 10 - (intOf u).toNat)
  case atStart => exact ⟨0, rfl, Nat.zero_le _, by decide, HI⟩
  case round =>
    obtain ⟨k, rfl, hkn, hk10, HJ⟩ := hrel
    clear HI
    by_cases hlt : k < n
    · have hlti : (k : Int) < (n : Int) := by omega
      by_cases hl10 : k < 10
      · have hl10i : (k : Int) < 10 := by omega
        obtain ⟨a, rfl⟩ := HR.out.some_ (by omega)
        have hkl : k < l.length := by have := HR.out.len; rw [List.length_map] at this; omega
        obtain ⟨x, hx⟩ : ∃ x, x = l[k]'hkl := ⟨_, rfl⟩
        have hget : (l.map encPt)[k]? = some [.int .i64 x.k, .int .i64 x.n, .int .i64 x.z, .string x.s] := by
          rw [List.getElem?_map, List.getElem?_eq_getElem hkl, ← hx]; rfl
        have HC : Hid (∀ wx, ST gw gr w.heap.size s w wx → wx.cell? ⟨(a.add (k * 4)).block, (a.add (k * 4)).off + 1, none⟩ = some (.int .i64 x.n) ∧ wx.cell? ⟨(a.add (k * 4)).block, (a.add (k * 4)).off + 2, none⟩ = some (.int .i64 x.z) ∧ wx.cell? ⟨(a.add (k * 4)).block, (a.add (k * 4)).off + 3, none⟩ = some (.string x.s)) := Lib.hid fun wx hwx => ((HR.out.below hwx.c).at4 hget).2
        have HK := Lib.hid (⟨hlt, hl10⟩ : k < n ∧ k < 10)
        have hkw : IntKind.i64.wrap ((k : Int) + 1) = ((k + 1 : Nat) : Int) := by rw [IntWalk.i64_in _ (by omega)]; rfl
        have W1 := fun wx (hwx : ST gw gr w.heap.size s w wx) => rawP_any gw _ ⟨#[]⟩ 1 x.s wx hwx.a (fun e => by cases e)
        have W2 := fun wx (hwx : ST gw gr w.heap.size s w wx) => opqP_any gw _ ⟨#[]⟩ 1 x.s z wx hwx.a (fun e => by cases e)
        have R1 := fun wx (hwx : ST gw gr w.heap.size s w wx) => number_any gr s 2 x.z wx hwx.b
        have R2 := fun wx (hwx : ST gw gr w.heap.size s w wx) => raw_any gr s 2 x.n wx hwx.b
        have R3 := fun wx (hwx : ST gw gr w.heap.size s w wx) => opaque_any gr s 2 z wx hwx.b
        have R4 := fun wx (hwx : ST gw gr w.heap.size s w wx) => rest_any gr s 2 wx hwx.b
        rw [rawP_err _ 1 _ (by decide)] at W1
        rw [opqP_err _ 1 _ _ (by decide)] at W2
        rw [numW_err _ 2 _ (by decide)] at R1
        rw [rawW_err _ 2 _ (by decide)] at R2
        rw [opqW_err _ 2 _ (by decide)] at R3
        rw [show restW s 2 = 0 from rfl] at R4
        have j0 := HJ.out
        obtain ⟨c1, c2, c3⟩ := HC.out wr j0
        clear hx hget hkl hlt hl10 hkn hk10 HJ
        go_wp2_with fail
        refine (W1 wr j0).mono ?_
        rintro e w5 ⟨rfl, v5, h5, g5⟩
        have j1 := j0.put h5 (h5.err (by decide)).1 g5
        obtain ⟨d1, d2, d3⟩ := HC.out w5 j1
        clear c1 c2 c3 j0 h5 g5
        go_wp2_with fail
        refine (W2 w5 j1).mono ?_
        rintro e w6 ⟨rfl, v6, h6, g6⟩
        have j2 := j1.put h6 (h6.err (by decide)).1 g6
        obtain ⟨c1, c2, c3⟩ := HC.out w6 j2
        clear d1 d2 d3 j1 h6 g6
        go_wp2_with fail
        refine (R1 w6 j2).mono ?_
        rintro e w7 ⟨rfl, h7, r7⟩
        have j3 := j2.take h7 r7
        obtain ⟨d1, d2, d3⟩ := HC.out w7 j3
        clear c1 c2 c3 j2 h7 r7
        go_wp2_with fail
        refine (R2 w7 j3).mono ?_
        rintro e w8 ⟨rfl, h8, r8⟩
        have j4 := j3.take h8 r8
        clear d1 d2 d3 j3 h8 r8
        go_wp2_with fail
        refine (R3 w8 j4).mono ?_
        rintro e w9 ⟨rfl, h9, r9⟩
        have j5 := j4.take h9 r9
        clear j4 h9 r9
        go_wp2_with fail
        refine (R4 w9 j5).mono ?_
        rintro e wa ⟨rfl, rfl⟩
        have HJ5 := Lib.hid j5
        clear j5 W1 W2 R1 R2 R3 R4
        go_wp2_with fail
        exact ⟨⟨k + 1, by go_num, by have := HK.out; omega, by have := HK.out; omega, HJ5⟩, by simp only [intOf]; have := HK.out; omega⟩
      · obtain rfl : k = 10 := by omega
        clear hk10 hkn hl10
        have j0 := HJ.out
        have C1 := bytesW_any gw _ ⟨#[]⟩ 1 wr j0.a
        have C2 := end_any gr s 2 wr.drew j0.drew.b
        rw [show endW s 2 = 2 from rfl] at C2
        have b9 := j0.drew.c
        clear j0 HJ
        go_wp2_with fail
        refine C1.mono ?_
        rintro e w5 ⟨rfl, rfl⟩
        go_wp2_with fail
        refine C2.mono ?_
        rintro e w6 ⟨rfl, rfl⟩
        go_wp2_with fail
        go_ret
        exact ⟨rfl, b9⟩
    · obtain rfl : k = n := by omega
      have hlti : ¬ (k : Int) < (k : Int) := by omega
      clear hk10 hkn hlt
      have j0 := HJ.out
      have C1 := bytesW_any gw _ ⟨#[]⟩ 1 wr j0.a
      have C2 := end_any gr s 2 wr.drew j0.drew.b
      rw [show endW s 2 = 2 from rfl] at C2
      have b9 := j0.drew.c
      clear j0 HJ
      go_wp2_with fail
      refine C1.mono ?_
      rintro e w5 ⟨rfl, rfl⟩
      go_wp2_with fail
      refine C2.mono ?_
      rintro e w6 ⟨rfl, rfl⟩
      go_wp2_with fail
      go_ret
      exact ⟨rfl, b9⟩
end Go.Proofs.Ytfheedpoaomfeaa
