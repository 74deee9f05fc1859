/- The law WireBack of chapter 13. -/
import Derived.Test.YtfheedpoaomfeaaIn
namespace Go.Proofs.Ytfheedpoaomfeaa
open Go.RowKit
theorem allT_size (D : List Pt) (h : ∀ y ∈ D, ∃ k n z, y.fit k n z) : (allT D).size ≤ 307 * D.length := by
  induction D with
  | nil => exact Nat.le_refl _
  | cons y D ih =>
    have h1 := ih fun x hx => h x (.tail _ hx)
    obtain ⟨k, n, z, hf⟩ := h y (.head _)
    have h2 := parT_size y.k.toNat y.n.toNat y.z.toNat y.s
    have e : y.z.toNat = z := by rw [hf.ez]; rfl
    have := hf.z
    have := hf.s
    show (parT _ _ _ _ ++ allT D).size ≤ 307 * (D.length + 1)
    rw [size_app]
    omega
set_option maxRecDepth 100000 in
set_option maxHeartbeats 16000000 in
theorem wireBack_any (p : Option Addr) (n cap : Nat) (l : List Pt) (more : ByteArray) (w : World) (h : RS 4 p n cap (l.map encPt) w) (hok : ∀ x ∈ l, x.ok) (hmz : more.size ≤ 140737488351232) :
    Calls Try.prog 5 #[.slice p n cap, .string more] w fun e w' => e = .returned (.bool true) ∧ Below w.heap.size w w' := by
  have HR := Lib.hid h
  have HOK := Lib.hid hok
  have HMZ := Lib.hid hmz
  clear h hok hmz
  go_enter Try.func5, Try.ntmps5
  go_wp2_with fail
  refine (examples13_any w).mono ?_
  rintro e w0 ⟨rfl, b0⟩
  go_wp2_with fail
  refine (newWriter_any w0).mono ?_
  rintro e w1 ⟨gw, rfl, hgw, hw, b1⟩
  have b01 := b0.trans (b1.mono b0.size)
  have HI : Hid (SB gw w.heap.size (.slice none 0 0) ⟨#[]⟩ [] (.slice none 0 0) w w1 ∧ (⟨#[]⟩ : ByteArray) = allT [] ∧ (∀ y ∈ ([] : List Pt), ∃ k n z, y.fit k n z) ∧ ([] : List Pt).length = 0) := Lib.hid
    ⟨⟨hw, LS.nil b01 b01.size, Nat.le_trans b0.size hgw, (fun i e => by cases e), (fun i e => by cases e)⟩, rfl, (fun y hy => by cases hy), rfl⟩
  have hn := HR.out.mx
  have hle := HR.out.le
  clear hw b0 b1 b01 hgw
  go_wp2_with fail
  go_loopw [7, 8] (fun x u wr => ∃ (k : Nat) (v : Value) (B : ByteArray) (D : List Pt), u = .int .i64 (k : Int) ∧ k ≤ n ∧ k ≤ 20 ∧ Hid (SB gw w.heap.size v B D x w wr ∧ B = allT D ∧ (∀ y ∈ D, ∃ k n z, y.fit k n z) ∧ D.length = k)) (fun _ u _ => 20 - (intOf u).toNat)
  case atStart => exact ⟨0, _, _, _, rfl, Nat.zero_le _, by decide, HI⟩
  case round =>
    obtain ⟨k, v, B, D, rfl, hkn, hk20, HJ⟩ := hrel
    clear HI
    by_cases hlt : k < n
    · have hlti : (k : Int) < (n : Int) := by omega
      by_cases hl20 : k < 20
      · have hl20i : (k : Int) < 20 := by omega
        obtain ⟨a, rfl⟩ := HR.out.some_ (by omega)
        have hkl : k < l.length := by have := HR.out.len; rw [List.length_map] at this; omega
        obtain ⟨x, hx⟩ : ∃ x, x = l[k]'hkl := ⟨_, rfl⟩
        have hget : (l.map encPt)[k]? = some [.int .i64 x.k, .int .i64 x.n, .int .i64 x.z, .string x.s] := by
          rw [List.getElem?_map, List.getElem?_eq_getElem hkl, ← hx]; rfl
        obtain ⟨c0, c1, c2, c3⟩ := (HR.out.below HJ.out.1.b.b).at4 hget
        have HX : Hid x.ok := Lib.hid (by rw [hx]; exact HOK.out _ (List.getElem_mem hkl))
        have HK := Lib.hid (⟨hlt, hl20⟩ : k < n ∧ k < 20)
        have hkw : IntKind.i64.wrap ((k : Int) + 1) = ((k + 1 : Nat) : Int) := by rw [IntWalk.i64_in _ (by omega)]; rfl
        obtain ⟨q, hq⟩ : ∃ q, q = wr.heap.size := ⟨_, rfl⟩
        have HZ := Lib.hid (Blk.new wr 30 #[.int .i64 0, .int .i64 0, .int .i64 0, .string ⟨#[]⟩])
        have hb2 := below_setRow' ((Below.refl _ wr).alloc (Nat.le_refl _) (.cells #[.int .i64 0, .int .i64 0, .int .i64 0, .string ⟨#[]⟩] 30)) (Nat.le_refl _) #[.int .i64 x.k, .int .i64 x.n, .int .i64 x.z, .string x.s]
        have hz2 := HZ.out.row_ #[.int .i64 x.k, .int .i64 x.n, .int .i64 x.z, .string x.s]
        obtain ⟨W2, hW2⟩ : ∃ W2, W2 = (wr.alloc (.cells #[.int .i64 0, .int .i64 0, .int .i64 0, .string ⟨#[]⟩] 30)).setRow wr.heap.size #[.int .i64 x.k, .int .i64 x.n, .int .i64 x.z, .string x.s] := ⟨_, rfl⟩
        rw [← hW2] at hb2 hz2
        rw [← hq] at hz2
        have HW2 := Lib.hid hW2
        have HQE := Lib.hid hq
        have HB0 := Lib.hid hb2
        have C0 := kind_any x.k x.n x.z x.s W2 HX.out.k.1
        have d0 : W2.cell? ⟨q, 0, none⟩ = some (.int .i64 x.k) := hz2.cell 0
        have d1 : W2.cell? ⟨q, 1, none⟩ = some (.int .i64 x.n) := hz2.cell 1
        have d2 : W2.cell? ⟨q, 2, none⟩ = some (.int .i64 x.z) := hz2.cell 2
        have d3 : W2.cell? ⟨q, 3, none⟩ = some (.string x.s) := hz2.cell 3
        clear hx hget hkl hlt hl20 hkn hk20 hb2 hW2 hq
        go_wp2_with (refine wpList_store_row rfl 30 _ _ rfl wr.heap.size #[.int .i64 x.k, .int .i64 x.n, .int .i64 x.z, .string x.s] rfl rfl 30 _ HZ.out part_size rfl (part_one _ _ _ _) ?_; rw [← HW2.out, ← HQE.out])
        refine C0.mono ?_
        rintro e w3 ⟨rfl, b3⟩
        have hz3 := hz2.below b3 hz2.lt
        have hB3 : Below wr.heap.size wr w3 := HB0.out.trans (b3.mono HB0.out.size)
        have hm3 := kindN_lt x.k
        obtain ⟨n1, hn1⟩ : ∃ n1, n1 = (x.n % 16777216).toNat := ⟨_, rfl⟩
        obtain ⟨z, hz⟩ : ∃ z, z = 3 + k % 5 := ⟨_, rfl⟩
        obtain ⟨S, hS⟩ : ∃ S, S = x.s.extract 0 (if (300 : Int) < (x.s.size : Int) then 300 else (x.s.size : Int)).toNat := ⟨_, rfl⟩
        have HS3 : Hid (S.size ≤ 300) := Lib.hid (by rw [hS, ByteArray.size_extract]; split <;> omega)
        have hn24 : n1 < 16777216 := by omega
        have hz37 : 3 ≤ z ∧ z ≤ 7 := by omega
        have hand : bits .and .i64 x.n 16777215 = (n1 : Int) := by rw [i64_and24]; omega
        have hz5 : IntKind.i64.wrap (3 + (k : Int) % 5) = (z : Int) := by rw [IntWalk.i64_in _ (by omega)]; omega
        generalize kindN x.k = m at hm3
        have HY : Hid (∃ k n z', (⟨(m : Int), (n1 : Int), (z : Int), S⟩ : Pt).fit k n z') := Lib.hid ⟨m, n1, z, rfl, rfl, rfl, hm3, hn24, hz37, HS3.out⟩
        have HNZ := Lib.hid (⟨hn24, hz37⟩ : n1 < 16777216 ∧ 3 ≤ z ∧ z ≤ 7)
        have HBZ : Hid (B.size ≤ 307 * k) := Lib.hid (by have := allT_size D HJ.out.2.2.1; rw [← HJ.out.2.1, HJ.out.2.2.2] at this; exact this)
        have HPW := Lib.hid (fit_pow hz37)
        clear hn24 hz37 hn1 hz
        have hm3 : m = 0 ∨ m = 1 ∨ m = 2 := by omega
        rcases hm3 with rfl | rfl | rfl
        · have hz3a := hz3.set_ 0 (.int .i64 (0 : Int))
          have hz3b := hz3a.set_ 2 (.int .i64 (z : Int))
          have hz3c := hz3b.set_ 1 (.int .i64 (n1 : Int))
          have hz3d := hz3c.set_ 3 (.string S)
          have hB4 : Below wr.heap.size wr ((((w3.setCell ⟨q, 0, none⟩ (.int .i64 (0 : Int))).setCell ⟨q, 2, none⟩ (.int .i64 (z : Int))).setCell ⟨q, 1, none⟩ (.int .i64 (n1 : Int))).setCell ⟨q, 3, none⟩ (.string S)) := below_set (below_set (below_set (below_set hB3 q 0 _ (by have := HQE.out; omega)) q 2 _ (by have := HQE.out; omega)) q 1 _ (by have := HQE.out; omega)) q 3 _ (by have := HQE.out; omega)
          have j4 := HJ.out.1.below hB4
          have HQU : Hid (u7.ownBlock ≠ some q ∧ v.ownBlock ≠ some q ∧ q ≠ gw) := Lib.hid ⟨fun e => by have := (HJ.out.1.b.ownB q e).2; have := HQE.out; omega, fun e => by have := (HJ.out.1.a.ownB q e).2; have := HQE.out; omega, by have := HJ.out.1.a.blk.lt; have := HQE.out; omega⟩
          have HL := Lib.hid j4.b
          have HJ4 := Lib.hid j4
          have HZ4 := Lib.hid hz3d
          have HWZ : Hid (w3.heap.size = ((((w3.setCell ⟨q, 0, none⟩ (.int .i64 (0 : Int))).setCell ⟨q, 2, none⟩ (.int .i64 (z : Int))).setCell ⟨q, 1, none⟩ (.int .i64 (n1 : Int))).setCell ⟨q, 3, none⟩ (.string S)).heap.size) := Lib.hid (by simp [World.setCell])
          have HLN : Hid ((D.map encPt).length ≤ 999999) := Lib.hid (by rw [List.length_map, HJ.out.2.2.2]; have := HK.out; omega)
          have f0 := hz3.frozen 0
          have f2 := hz3a.frozen 2
          have f1 := hz3b.frozen 1
          have f3 := hz3c.frozen 3
          have a0 : w3.cell? ⟨q, 0, none⟩ = some (.int .i64 x.k) := hz3.cell 0
          have a2 : (w3.setCell ⟨q, 0, none⟩ (.int .i64 (0 : Int))).cell? ⟨q, 2, none⟩ = some (.int .i64 x.z) := hz3a.cell 2
          have a1 : ((w3.setCell ⟨q, 0, none⟩ (.int .i64 (0 : Int))).setCell ⟨q, 2, none⟩ (.int .i64 (z : Int))).cell? ⟨q, 1, none⟩ = some (.int .i64 x.n) := hz3b.cell 1
          have a3 : (((w3.setCell ⟨q, 0, none⟩ (.int .i64 (0 : Int))).setCell ⟨q, 2, none⟩ (.int .i64 (z : Int))).setCell ⟨q, 1, none⟩ (.int .i64 (n1 : Int))).cell? ⟨q, 3, none⟩ = some (.string x.s) := hz3c.cell 3
          have e0 : ((((w3.setCell ⟨q, 0, none⟩ (.int .i64 (0 : Int))).setCell ⟨q, 2, none⟩ (.int .i64 (z : Int))).setCell ⟨q, 1, none⟩ (.int .i64 (n1 : Int))).setCell ⟨q, 3, none⟩ (.string S)).cell? ⟨q, 0, none⟩ = some (.int .i64 (0 : Int)) := hz3d.cell 0
          have e1 : ((((w3.setCell ⟨q, 0, none⟩ (.int .i64 (0 : Int))).setCell ⟨q, 2, none⟩ (.int .i64 (z : Int))).setCell ⟨q, 1, none⟩ (.int .i64 (n1 : Int))).setCell ⟨q, 3, none⟩ (.string S)).cell? ⟨q, 1, none⟩ = some (.int .i64 (n1 : Int)) := hz3d.cell 1
          have e2 : ((((w3.setCell ⟨q, 0, none⟩ (.int .i64 (0 : Int))).setCell ⟨q, 2, none⟩ (.int .i64 (z : Int))).setCell ⟨q, 1, none⟩ (.int .i64 (n1 : Int))).setCell ⟨q, 3, none⟩ (.string S)).cell? ⟨q, 2, none⟩ = some (.int .i64 (z : Int)) := hz3d.cell 2
          have e3 : ((((w3.setCell ⟨q, 0, none⟩ (.int .i64 (0 : Int))).setCell ⟨q, 2, none⟩ (.int .i64 (z : Int))).setCell ⟨q, 1, none⟩ (.int .i64 (n1 : Int))).setCell ⟨q, 3, none⟩ (.string S)).cell? ⟨q, 3, none⟩ = some (.string S) := hz3d.cell 3
          have hSx := hS.symm
          have C1 := fun wx (hwx : WW gw v B 0 wx) => numP_any gw v B 0 (n1 : Int) (z : Int) wx hwx (fun _ => by have := HBZ.out; have := HK.out; omega) (fun _ => by have := HNZ.out; omega)
          rw [numP_fits B n1 z (by have := HNZ.out; omega) (by have := HNZ.out; have := HPW.out; omega)] at C1
          have HNB : Hid (∀ B2, B2 = B ++ parT 0 n1 z S → B2 = allT (D ++ [⟨(0 : Int), (n1 : Int), (z : Int), S⟩])) := Lib.hid fun B2 h => by rw [h, allT_more, ← HJ.out.2.1]; rfl
          have HDD : Hid ((∀ y ∈ D ++ [⟨(0 : Int), (n1 : Int), (z : Int), S⟩], ∃ k n z, y.fit k n z) ∧ (D ++ [(⟨(0 : Int), (n1 : Int), (z : Int), S⟩ : Pt)]).length = k + 1) := Lib.hid ⟨fun y hy => by
            rcases List.mem_append.1 hy with h | h
            · exact HJ.out.2.2.1 y h
            · rw [List.mem_singleton.1 h]; exact HY.out, by rw [List.length_append, HJ.out.2.2.2]; rfl⟩
          clear C0 c0 c1 c2 c3 d0 d1 d2 d3 hz2 b3 hz3 hz3a hz3b hz3c hz3d hB3 hB4 j4 hS HJ
          go_wp2_with (at_builtin; refine wpList_onePt rfl (.tmp 54) (.tmp 56) rfl rfl HL.out ⟨(0 : Int), (n1 : Int), (z : Int), S⟩ w3.heap.size HWZ.out rfl HLN.out ?_; intro v5 w5 h5 g5; have j5 := HJ4.out.app (D' := D ++ [⟨(0 : Int), (n1 : Int), (z : Int), S⟩]) (by rw [List.map_append]; exact h5) g5; have hz5' := blk_gr HZ4.out g5 HQU.out.1; have s0 : w5.cell? ⟨q, 0, none⟩ = some (.int .i64 (0 : Int)) := hz5'.cell 0; have s1 : w5.cell? ⟨q, 1, none⟩ = some (.int .i64 (n1 : Int)) := hz5'.cell 1; have s2 : w5.cell? ⟨q, 2, none⟩ = some (.int .i64 (z : Int)) := hz5'.cell 2; have s3 : w5.cell? ⟨q, 3, none⟩ = some (.string S) := hz5'.cell 3; have HJ5 := Lib.hid j5; clear h5 g5 hz5' j5 a0 a1 a2 a3 e0 e1 e2 e3 f0 f1 f2 f3)
          all_goals
            refine (C1 _ HJ5.out.a).mono ?_
            rintro e w6 ⟨rfl, v6, h6, g6⟩
            have HJ6 := Lib.hid (HJ5.out.put h6 g6)
            clear C1 h6 g6 s0 s1 s2 s3
            go_wp2_with fail
            exact ⟨⟨k + 1, v6, _, _, by go_num, by have := HK.out; omega, by have := HK.out; omega, Lib.hid ⟨HJ6.out, HNB.out _ rfl, HDD.out⟩⟩, by simp only [intOf]; have := HK.out; omega⟩
        · have hz3a := hz3.set_ 0 (.int .i64 (1 : Int))
          have hz3b := hz3a.set_ 2 (.int .i64 (z : Int))
          have hz3c := hz3b.set_ 1 (.int .i64 (n1 : Int))
          have hz3d := hz3c.set_ 3 (.string S)
          have hB4 : Below wr.heap.size wr ((((w3.setCell ⟨q, 0, none⟩ (.int .i64 (1 : Int))).setCell ⟨q, 2, none⟩ (.int .i64 (z : Int))).setCell ⟨q, 1, none⟩ (.int .i64 (n1 : Int))).setCell ⟨q, 3, none⟩ (.string S)) := below_set (below_set (below_set (below_set hB3 q 0 _ (by have := HQE.out; omega)) q 2 _ (by have := HQE.out; omega)) q 1 _ (by have := HQE.out; omega)) q 3 _ (by have := HQE.out; omega)
          have j4 := HJ.out.1.below hB4
          have HQU : Hid (u7.ownBlock ≠ some q ∧ v.ownBlock ≠ some q ∧ q ≠ gw) := Lib.hid ⟨fun e => by have := (HJ.out.1.b.ownB q e).2; have := HQE.out; omega, fun e => by have := (HJ.out.1.a.ownB q e).2; have := HQE.out; omega, by have := HJ.out.1.a.blk.lt; have := HQE.out; omega⟩
          have HL := Lib.hid j4.b
          have HJ4 := Lib.hid j4
          have HZ4 := Lib.hid hz3d
          have HWZ : Hid (w3.heap.size = ((((w3.setCell ⟨q, 0, none⟩ (.int .i64 (1 : Int))).setCell ⟨q, 2, none⟩ (.int .i64 (z : Int))).setCell ⟨q, 1, none⟩ (.int .i64 (n1 : Int))).setCell ⟨q, 3, none⟩ (.string S)).heap.size) := Lib.hid (by simp [World.setCell])
          have HLN : Hid ((D.map encPt).length ≤ 999999) := Lib.hid (by rw [List.length_map, HJ.out.2.2.2]; have := HK.out; omega)
          have f0 := hz3.frozen 0
          have f2 := hz3a.frozen 2
          have f1 := hz3b.frozen 1
          have f3 := hz3c.frozen 3
          have a0 : w3.cell? ⟨q, 0, none⟩ = some (.int .i64 x.k) := hz3.cell 0
          have a2 : (w3.setCell ⟨q, 0, none⟩ (.int .i64 (1 : Int))).cell? ⟨q, 2, none⟩ = some (.int .i64 x.z) := hz3a.cell 2
          have a1 : ((w3.setCell ⟨q, 0, none⟩ (.int .i64 (1 : Int))).setCell ⟨q, 2, none⟩ (.int .i64 (z : Int))).cell? ⟨q, 1, none⟩ = some (.int .i64 x.n) := hz3b.cell 1
          have a3 : (((w3.setCell ⟨q, 0, none⟩ (.int .i64 (1 : Int))).setCell ⟨q, 2, none⟩ (.int .i64 (z : Int))).setCell ⟨q, 1, none⟩ (.int .i64 (n1 : Int))).cell? ⟨q, 3, none⟩ = some (.string x.s) := hz3c.cell 3
          have e0 : ((((w3.setCell ⟨q, 0, none⟩ (.int .i64 (1 : Int))).setCell ⟨q, 2, none⟩ (.int .i64 (z : Int))).setCell ⟨q, 1, none⟩ (.int .i64 (n1 : Int))).setCell ⟨q, 3, none⟩ (.string S)).cell? ⟨q, 0, none⟩ = some (.int .i64 (1 : Int)) := hz3d.cell 0
          have e1 : ((((w3.setCell ⟨q, 0, none⟩ (.int .i64 (1 : Int))).setCell ⟨q, 2, none⟩ (.int .i64 (z : Int))).setCell ⟨q, 1, none⟩ (.int .i64 (n1 : Int))).setCell ⟨q, 3, none⟩ (.string S)).cell? ⟨q, 1, none⟩ = some (.int .i64 (n1 : Int)) := hz3d.cell 1
          have e2 : ((((w3.setCell ⟨q, 0, none⟩ (.int .i64 (1 : Int))).setCell ⟨q, 2, none⟩ (.int .i64 (z : Int))).setCell ⟨q, 1, none⟩ (.int .i64 (n1 : Int))).setCell ⟨q, 3, none⟩ (.string S)).cell? ⟨q, 2, none⟩ = some (.int .i64 (z : Int)) := hz3d.cell 2
          have e3 : ((((w3.setCell ⟨q, 0, none⟩ (.int .i64 (1 : Int))).setCell ⟨q, 2, none⟩ (.int .i64 (z : Int))).setCell ⟨q, 1, none⟩ (.int .i64 (n1 : Int))).setCell ⟨q, 3, none⟩ (.string S)).cell? ⟨q, 3, none⟩ = some (.string S) := hz3d.cell 3
          have hSx := hS.symm
          have C1 := fun wx (hwx : WW gw v B 0 wx) => rawP_any gw v B 0 S wx hwx (fun _ => by have := HBZ.out; have := HK.out; have := HS3.out; omega)
          rw [rawP_fits B S] at C1
          have HNB : Hid (∀ B2, B2 = B ++ parT 1 n1 z S → B2 = allT (D ++ [⟨(1 : Int), (n1 : Int), (z : Int), S⟩])) := Lib.hid fun B2 h => by rw [h, allT_more, ← HJ.out.2.1]; rfl
          have HDD : Hid ((∀ y ∈ D ++ [⟨(1 : Int), (n1 : Int), (z : Int), S⟩], ∃ k n z, y.fit k n z) ∧ (D ++ [(⟨(1 : Int), (n1 : Int), (z : Int), S⟩ : Pt)]).length = k + 1) := Lib.hid ⟨fun y hy => by
            rcases List.mem_append.1 hy with h | h
            · exact HJ.out.2.2.1 y h
            · rw [List.mem_singleton.1 h]; exact HY.out, by rw [List.length_append, HJ.out.2.2.2]; rfl⟩
          clear C0 c0 c1 c2 c3 d0 d1 d2 d3 hz2 b3 hz3 hz3a hz3b hz3c hz3d hB3 hB4 j4 hS HJ
          go_wp2_with (at_builtin; refine wpList_onePt rfl (.tmp 54) (.tmp 56) rfl rfl HL.out ⟨(1 : Int), (n1 : Int), (z : Int), S⟩ w3.heap.size HWZ.out rfl HLN.out ?_; intro v5 w5 h5 g5; have j5 := HJ4.out.app (D' := D ++ [⟨(1 : Int), (n1 : Int), (z : Int), S⟩]) (by rw [List.map_append]; exact h5) g5; have hz5' := blk_gr HZ4.out g5 HQU.out.1; have s0 : w5.cell? ⟨q, 0, none⟩ = some (.int .i64 (1 : Int)) := hz5'.cell 0; have s1 : w5.cell? ⟨q, 1, none⟩ = some (.int .i64 (n1 : Int)) := hz5'.cell 1; have s2 : w5.cell? ⟨q, 2, none⟩ = some (.int .i64 (z : Int)) := hz5'.cell 2; have s3 : w5.cell? ⟨q, 3, none⟩ = some (.string S) := hz5'.cell 3; have HJ5 := Lib.hid j5; clear h5 g5 hz5' j5 a0 a1 a2 a3 e0 e1 e2 e3 f0 f1 f2 f3)
          all_goals
            refine (C1 _ HJ5.out.a).mono ?_
            rintro e w6 ⟨rfl, v6, h6, g6⟩
            have HJ6 := Lib.hid (HJ5.out.put h6 g6)
            clear C1 h6 g6 s0 s1 s2 s3
            go_wp2_with fail
            exact ⟨⟨k + 1, v6, _, _, by go_num, by have := HK.out; omega, by have := HK.out; omega, Lib.hid ⟨HJ6.out, HNB.out _ rfl, HDD.out⟩⟩, by simp only [intOf]; have := HK.out; omega⟩
        · have hz3a := hz3.set_ 0 (.int .i64 (2 : Int))
          have hz3b := hz3a.set_ 2 (.int .i64 (z : Int))
          have hz3c := hz3b.set_ 1 (.int .i64 (n1 : Int))
          have hz3d := hz3c.set_ 3 (.string S)
          have hB4 : Below wr.heap.size wr ((((w3.setCell ⟨q, 0, none⟩ (.int .i64 (2 : Int))).setCell ⟨q, 2, none⟩ (.int .i64 (z : Int))).setCell ⟨q, 1, none⟩ (.int .i64 (n1 : Int))).setCell ⟨q, 3, none⟩ (.string S)) := below_set (below_set (below_set (below_set hB3 q 0 _ (by have := HQE.out; omega)) q 2 _ (by have := HQE.out; omega)) q 1 _ (by have := HQE.out; omega)) q 3 _ (by have := HQE.out; omega)
          have j4 := HJ.out.1.below hB4
          have HQU : Hid (u7.ownBlock ≠ some q ∧ v.ownBlock ≠ some q ∧ q ≠ gw) := Lib.hid ⟨fun e => by have := (HJ.out.1.b.ownB q e).2; have := HQE.out; omega, fun e => by have := (HJ.out.1.a.ownB q e).2; have := HQE.out; omega, by have := HJ.out.1.a.blk.lt; have := HQE.out; omega⟩
          have HL := Lib.hid j4.b
          have HJ4 := Lib.hid j4
          have HZ4 := Lib.hid hz3d
          have HWZ : Hid (w3.heap.size = ((((w3.setCell ⟨q, 0, none⟩ (.int .i64 (2 : Int))).setCell ⟨q, 2, none⟩ (.int .i64 (z : Int))).setCell ⟨q, 1, none⟩ (.int .i64 (n1 : Int))).setCell ⟨q, 3, none⟩ (.string S)).heap.size) := Lib.hid (by simp [World.setCell])
          have HLN : Hid ((D.map encPt).length ≤ 999999) := Lib.hid (by rw [List.length_map, HJ.out.2.2.2]; have := HK.out; omega)
          have f0 := hz3.frozen 0
          have f2 := hz3a.frozen 2
          have f1 := hz3b.frozen 1
          have f3 := hz3c.frozen 3
          have a0 : w3.cell? ⟨q, 0, none⟩ = some (.int .i64 x.k) := hz3.cell 0
          have a2 : (w3.setCell ⟨q, 0, none⟩ (.int .i64 (2 : Int))).cell? ⟨q, 2, none⟩ = some (.int .i64 x.z) := hz3a.cell 2
          have a1 : ((w3.setCell ⟨q, 0, none⟩ (.int .i64 (2 : Int))).setCell ⟨q, 2, none⟩ (.int .i64 (z : Int))).cell? ⟨q, 1, none⟩ = some (.int .i64 x.n) := hz3b.cell 1
          have a3 : (((w3.setCell ⟨q, 0, none⟩ (.int .i64 (2 : Int))).setCell ⟨q, 2, none⟩ (.int .i64 (z : Int))).setCell ⟨q, 1, none⟩ (.int .i64 (n1 : Int))).cell? ⟨q, 3, none⟩ = some (.string x.s) := hz3c.cell 3
          have e0 : ((((w3.setCell ⟨q, 0, none⟩ (.int .i64 (2 : Int))).setCell ⟨q, 2, none⟩ (.int .i64 (z : Int))).setCell ⟨q, 1, none⟩ (.int .i64 (n1 : Int))).setCell ⟨q, 3, none⟩ (.string S)).cell? ⟨q, 0, none⟩ = some (.int .i64 (2 : Int)) := hz3d.cell 0
          have e1 : ((((w3.setCell ⟨q, 0, none⟩ (.int .i64 (2 : Int))).setCell ⟨q, 2, none⟩ (.int .i64 (z : Int))).setCell ⟨q, 1, none⟩ (.int .i64 (n1 : Int))).setCell ⟨q, 3, none⟩ (.string S)).cell? ⟨q, 1, none⟩ = some (.int .i64 (n1 : Int)) := hz3d.cell 1
          have e2 : ((((w3.setCell ⟨q, 0, none⟩ (.int .i64 (2 : Int))).setCell ⟨q, 2, none⟩ (.int .i64 (z : Int))).setCell ⟨q, 1, none⟩ (.int .i64 (n1 : Int))).setCell ⟨q, 3, none⟩ (.string S)).cell? ⟨q, 2, none⟩ = some (.int .i64 (z : Int)) := hz3d.cell 2
          have e3 : ((((w3.setCell ⟨q, 0, none⟩ (.int .i64 (2 : Int))).setCell ⟨q, 2, none⟩ (.int .i64 (z : Int))).setCell ⟨q, 1, none⟩ (.int .i64 (n1 : Int))).setCell ⟨q, 3, none⟩ (.string S)).cell? ⟨q, 3, none⟩ = some (.string S) := hz3d.cell 3
          have hSx := hS.symm
          have C1 := fun wx (hwx : WW gw v B 0 wx) => opqP_any gw v B 0 S (z : Int) wx hwx (fun _ => by have := HBZ.out; have := HK.out; have := HS3.out; omega)
          rw [opqP_fits B S z HNZ.out.2 HS3.out] at C1
          have HNB : Hid (∀ B2, B2 = B ++ parT 2 n1 z S → B2 = allT (D ++ [⟨(2 : Int), (n1 : Int), (z : Int), S⟩])) := Lib.hid fun B2 h => by rw [h, allT_more, ← HJ.out.2.1]; rfl
          have HDD : Hid ((∀ y ∈ D ++ [⟨(2 : Int), (n1 : Int), (z : Int), S⟩], ∃ k n z, y.fit k n z) ∧ (D ++ [(⟨(2 : Int), (n1 : Int), (z : Int), S⟩ : Pt)]).length = k + 1) := Lib.hid ⟨fun y hy => by
            rcases List.mem_append.1 hy with h | h
            · exact HJ.out.2.2.1 y h
            · rw [List.mem_singleton.1 h]; exact HY.out, by rw [List.length_append, HJ.out.2.2.2]; rfl⟩
          clear C0 c0 c1 c2 c3 d0 d1 d2 d3 hz2 b3 hz3 hz3a hz3b hz3c hz3d hB3 hB4 j4 hS HJ
          go_wp2_with (at_builtin; refine wpList_onePt rfl (.tmp 54) (.tmp 56) rfl rfl HL.out ⟨(2 : Int), (n1 : Int), (z : Int), S⟩ w3.heap.size HWZ.out rfl HLN.out ?_; intro v5 w5 h5 g5; have j5 := HJ4.out.app (D' := D ++ [⟨(2 : Int), (n1 : Int), (z : Int), S⟩]) (by rw [List.map_append]; exact h5) g5; have hz5' := blk_gr HZ4.out g5 HQU.out.1; have s0 : w5.cell? ⟨q, 0, none⟩ = some (.int .i64 (2 : Int)) := hz5'.cell 0; have s1 : w5.cell? ⟨q, 1, none⟩ = some (.int .i64 (n1 : Int)) := hz5'.cell 1; have s2 : w5.cell? ⟨q, 2, none⟩ = some (.int .i64 (z : Int)) := hz5'.cell 2; have s3 : w5.cell? ⟨q, 3, none⟩ = some (.string S) := hz5'.cell 3; have HJ5 := Lib.hid j5; clear h5 g5 hz5' j5 a0 a1 a2 a3 e0 e1 e2 e3 f0 f1 f2 f3)
          all_goals
            refine (C1 _ HJ5.out.a).mono ?_
            rintro e w6 ⟨rfl, v6, h6, g6⟩
            have HJ6 := Lib.hid (HJ5.out.put h6 g6)
            clear C1 h6 g6 s0 s1 s2 s3
            go_wp2_with fail
            exact ⟨⟨k + 1, v6, _, _, by go_num, by have := HK.out; omega, by have := HK.out; omega, Lib.hid ⟨HJ6.out, HNB.out _ rfl, HDD.out⟩⟩, by simp only [intOf]; have := HK.out; omega⟩
      · obtain rfl : k = 20 := by omega
        clear hkn hl20
        rename World => wE
        have HD := Lib.hid HJ.out.2.2.1
        have HBA := Lib.hid HJ.out.2.1
        have HLEN : Hid (D.length ≤ 20) := Lib.hid (by have := HJ.out.2.2.2; omega)
        have hbz : B.size ≤ 6140 := by have := allT_size D HJ.out.2.2.1; have := HLEN.out; rw [HJ.out.2.1]; omega
        obtain ⟨ap, cpD, hu7, hrs, _⟩ := HJ.out.1.b.rs
        rw [List.length_map] at hu7 hrs
        have C1 := bytesW_any gw v B 0 wE HJ.out.1.a
        have C2 := newReader_any (B ++ more) wE.drew (by rw [size_app]; have := HMZ.out; omega)
        have HB9 := Lib.hid HJ.out.1.b.b
        have HRS := Lib.hid hrs
        have hz : ¬ ((B.size + more.size : Nat) : Int) > 9223372036854775807 := by have := HMZ.out; omega
        clear HJ hrs hbz hk20
        subst hu7
        go_wp2_with fail
        refine C1.mono ?_
        rintro e w5 ⟨rfl, rfl⟩
        go_wp2_with fail
        refine C2.mono ?_
        rintro e w6 ⟨gr, rfl, hgr, hr, b6⟩
        have HI2 : Hid (RW gr (allT (D.drop 0) ++ more) 0 w6 ∧ Below wE.heap.size wE w6 ∧ wE.heap.size + 1 ≤ gr) := Lib.hid ⟨by rw [List.drop_zero, ← HBA.out]; exact hr, (Below.refl _ wE).drew.trans b6, hgr⟩
        clear C1 C2 hr b6 hgr hz
        go_wp2_with fail
        go_loopw [13] (fun u wx => ∃ j : Nat, u = .int .i64 (j : Int) ∧ j ≤ D.length ∧ Hid (RW gr (allT (D.drop j) ++ more) 0 wx ∧ Below wE.heap.size wE wx ∧ wE.heap.size + 1 ≤ gr)) (fun u _ => D.length - (intOf u).toNat)
        case atStart => exact ⟨0, rfl, Nat.zero_le _, HI2⟩
        case round =>
          obtain ⟨j, rfl, hj, HK2⟩ := hrel
          clear HI2
          by_cases hjl : j < D.length
          · have hjli : (j : Int) < (D.length : Int) := by omega
            obtain ⟨aq, rfl⟩ := HRS.out.some_ (by omega)
            obtain ⟨y, hy⟩ : ∃ y, y = D[j]'hjl := ⟨_, rfl⟩
            obtain ⟨m, n1, z, hf⟩ := HD.out y (by rw [hy]; exact List.getElem_mem hjl)
            obtain ⟨yk, yn, yz, S⟩ := y
            obtain ⟨ek, en, ez, hm3, hn24, hz37, hS⟩ := hf
            have ek : yk = (m : Int) := ek
            have en : yn = (n1 : Int) := en
            have ez : yz = (z : Int) := ez
            have hS : S.size ≤ 300 := hS
            subst ek en ez
            have HDR : allT (D.drop j) ++ more = parT m n1 z S ++ (allT (D.drop (j + 1)) ++ more) := by rw [List.drop_eq_getElem_cons hjl, ← hy]; exact app_assoc _ _ _
            have hm3 : m = 0 ∨ m = 1 ∨ m = 2 := by omega
            rcases hm3 with rfl | rfl | rfl
            · have hget : (D.map encPt)[j]? = some [.int .i64 0, .int .i64 (n1 : Int), .int .i64 (z : Int), .string S] := by
                rw [List.getElem?_map, List.getElem?_eq_getElem hjl, ← hy]; rfl
              obtain ⟨c0, c1, c2, c3⟩ := (HRS.out.below HK2.out.2.1).at4 hget
              obtain ⟨q, hq⟩ : ∃ q, q = wr.heap.size := ⟨_, rfl⟩
              have HZ := Lib.hid (Blk.new wr 30 #[.int .i64 0, .int .i64 0, .int .i64 0, .string ⟨#[]⟩])
              have hb2 := below_setRow' ((Below.refl _ wr).alloc (Nat.le_refl _) (.cells #[.int .i64 0, .int .i64 0, .int .i64 0, .string ⟨#[]⟩] 30)) (Nat.le_refl _) #[.int .i64 0, .int .i64 (n1 : Int), .int .i64 (z : Int), .string S]
              have hz2 := HZ.out.row_ #[.int .i64 0, .int .i64 (n1 : Int), .int .i64 (z : Int), .string S]
              obtain ⟨W2, hW2⟩ : ∃ W2, W2 = (wr.alloc (.cells #[.int .i64 0, .int .i64 0, .int .i64 0, .string ⟨#[]⟩] 30)).setRow wr.heap.size #[.int .i64 0, .int .i64 (n1 : Int), .int .i64 (z : Int), .string S] := ⟨_, rfl⟩
              rw [← hW2] at hb2 hz2
              rw [← hq] at hz2
              have HW2 := Lib.hid hW2
              have HQE := Lib.hid hq
              have hqr : q ≠ gr := by have := HK2.out.1.lt; omega
              have hgr := HK2.out.2.2
              have hr4 : RW gr (beT n1 z z ++ (allT (D.drop (j + 1)) ++ more)) 0 W2.drew := by
                have e : beT n1 z z ++ (allT (D.drop (j + 1)) ++ more) = allT (D.drop j) ++ more := by rw [HDR]; rfl
                rw [e]; exact (HK2.out.1.below hb2).below ((Below.refl _ _).drew)
              have hb4 : Below wE.heap.size wE W2.drew := (HK2.out.2.1.trans (hb2.mono HK2.out.2.1.size)).drew
              have hz4 := hz2.drew
              have hkw2 : IntKind.i64.wrap ((j : Int) + 1) = ((j + 1 : Nat) : Int) := by rw [IntWalk.i64_in _ (by have := HLEN.out; omega)]; rfl
              have HJL := Lib.hid hjl
              have HNZ := Lib.hid (⟨hn24, hz37, hS⟩ : n1 < 16777216 ∧ (3 ≤ z ∧ z ≤ 7) ∧ S.size ≤ 300)
              obtain ⟨w4, hw4⟩ : ∃ w4, w4 = W2.drew := ⟨_, rfl⟩
              have HW4 := Lib.hid hw4
              rw [← hw4] at hr4 hb4 hz4
              have C1 := number_any gr _ 0 (z : Int) w4 hr4
              rw [numW_front n1 z _ (by omega) (by have := fit_pow hz37; omega)] at C1
              have HGR := Lib.hid (⟨hgr, hqr⟩ : wE.heap.size + 1 ≤ gr ∧ q ≠ gr)
              clear hget hb2 hz2 hW2 hq hy HDR hjl hn24 hz37 hS HK2 hr4 hw4 hj
              go_wp2_with (refine wpList_store_row rfl 30 _ _ rfl wr.heap.size #[.int .i64 0, .int .i64 (n1 : Int), .int .i64 (z : Int), .string S] rfl rfl 30 _ HZ.out part_size rfl (part_one _ _ _ _) ?_; rw [← HW2.out, ← HQE.out])
              obtain ⟨J, hJd⟩ : ∃ J : World → Prop, J = fun wx => wx.cell? ⟨q, 0, none⟩ = some (.int .i64 0) ∧ wx.cell? ⟨q, 1, none⟩ = some (.int .i64 (n1 : Int)) ∧ wx.cell? ⟨q, 2, none⟩ = some (.int .i64 (z : Int)) ∧ wx.cell? ⟨q, 3, none⟩ = some (.string S) := ⟨_, rfl⟩
              have HJF : Hid (∀ wx, J wx → wx.cell? ⟨q, 0, none⟩ = some (.int .i64 0) ∧ wx.cell? ⟨q, 1, none⟩ = some (.int .i64 (n1 : Int)) ∧ wx.cell? ⟨q, 2, none⟩ = some (.int .i64 (z : Int)) ∧ wx.cell? ⟨q, 3, none⟩ = some (.string S)) := Lib.hid fun wx h => by rw [hJd] at h; exact h
              have HJB : Hid (∀ wx, Blk wx q 30 #[.int .i64 0, .int .i64 (n1 : Int), .int .i64 (z : Int), .string S] → J wx) := Lib.hid fun wx h => by rw [hJd]; exact ⟨h.cell 0, h.cell 1, h.cell 2, h.cell 3⟩
              have HJ0 := Lib.hid (HJB.out w4 hz4)
              clear hJd c0 c1 c2 c3
              refine heldJ_start J (by kernel_rfl) ?_
              change wpAnyH _ _ _ _ _ _ _ _ W2.drew
              rw [← HW4.out]
              refine heldJ_take (i := 0) (v := .pointer (some ⟨q, 0, none⟩)) rfl (by kernel_rfl) (by kernel_rfl) (by kernel_rfl) (fun _ _ _ h => h) rfl (fun wx hJ => ?_) HJ0.out ?_
              · go_simp; skip
              simp only [pu]
              refine heldJ_take (i := 1) (v := .int .i64 0) rfl (by kernel_rfl) (by kernel_rfl) (by kernel_rfl) (fun _ _ _ h => h) rfl (fun wx hJ => ?_) HJ0.out ?_
              · have cc := HJF.out wx hJ; go_simp; skip
              simp only [pu]
              refine heldJ_take (i := 2) (v := .bool true) rfl (by kernel_rfl) (by kernel_rfl) (by kernel_rfl) (fun _ _ _ h => h) rfl (fun wx hJ => ?_) HJ0.out ?_
              · go_simp; skip
              simp only [pu]
              refine heldJ_take (i := 3) (v := .bool true) rfl (by kernel_rfl) (by kernel_rfl) (by kernel_rfl) (fun _ _ _ h => h) rfl (fun wx hJ => ?_) HJ0.out ?_
              · go_simp; skip
              simp only [pu]
              refine heldJ_take (i := 4) (v := .pointer (some ⟨gr, 0, none⟩)) rfl (by kernel_rfl) (by kernel_rfl) (by kernel_rfl) (fun _ _ _ h => h) rfl (fun wx hJ => ?_) HJ0.out ?_
              · go_simp; skip
              simp only [pu]
              refine heldJ_take (i := 5) (v := .pointer (some ⟨q, 2, none⟩)) rfl (by kernel_rfl) (by kernel_rfl) (by kernel_rfl) (fun _ _ _ h => h) rfl (fun wx hJ => ?_) HJ0.out ?_
              · go_simp; skip
              simp only [pu]
              refine heldJ_take (i := 6) (v := .int .i64 (z : Int)) rfl (by kernel_rfl) (by kernel_rfl) (by kernel_rfl) (fun _ _ _ h => h) rfl (fun wx hJ => ?_) HJ0.out ?_
              · have cc := HJF.out wx hJ; go_simp; skip
              simp only [pu]
              refine heldJ_take (i := 8) (v := .pointer (some ⟨q, 1, none⟩)) rfl (by kernel_rfl) (by kernel_rfl) (by kernel_rfl) (fun _ _ _ h => h) rfl (fun wx hJ => ?_) HJ0.out ?_
              · go_simp; skip
              simp only [pu]
              refine heldJ_take (i := 9) (v := .int .i64 (n1 : Int)) rfl (by kernel_rfl) (by kernel_rfl) (by kernel_rfl) (fun _ _ _ h => h) rfl (fun wx hJ => ?_) HJ0.out ?_
              · have cc := HJF.out wx hJ; go_simp; skip
              simp only [pu]
              refine heldJ_call (i := 7) (f := 19) (by kernel_rfl) rfl rfl (by go_simp; skip) ((C1).mono ?_)
              rintro e w5 ⟨rfl, h5, r5⟩
              have HR5 := Lib.hid (⟨r5, hb4.trans (h5.below (by have := HGR.out; omega) hb4.size)⟩ : RW gr (allT (D.drop (j + 1)) ++ more) 0 w5 ∧ Below wE.heap.size wE w5)
              have HJ1 := Lib.hid (HJB.out w5 (h5.blk hz4 (by have := HGR.out; omega)))
              clear C1 h5 r5 hz4 hb4
              refine ⟨_, rfl, HJ1.out, ?_⟩
              simp only [pu]
              refine heldJ_take (i := 10) (v := .bool false) rfl (by kernel_rfl) (by kernel_rfl) (by kernel_rfl) (fun _ _ _ h => h) rfl (fun wx hJ => ?_) HJ1.out ?_
              · go_simp; skip
              simp only [pu]
              refine heldJ_take (i := 11) (v := .bool false) rfl (by kernel_rfl) (by kernel_rfl) (by kernel_rfl) (fun _ _ _ h => h) rfl (fun wx hJ => ?_) HJ1.out ?_
              · go_simp; skip
              simp only [pu]
              refine heldJ_take (i := 12) (v := .bool false) rfl (by kernel_rfl) (by kernel_rfl) (by kernel_rfl) (fun _ _ _ h => h) rfl (fun wx hJ => ?_) HJ1.out ?_
              · go_simp; skip
              simp only [pu]
              refine heldJ_take (i := 13) (v := .pointer (some ⟨q, 0, none⟩)) rfl (by kernel_rfl) (by kernel_rfl) (by kernel_rfl) (fun _ _ _ h => h) rfl (fun wx hJ => ?_) HJ1.out ?_
              · go_simp; skip
              simp only [pu]
              refine heldJ_take (i := 14) (v := .int .i64 0) rfl (by kernel_rfl) (by kernel_rfl) (by kernel_rfl) (fun _ _ _ h => h) rfl (fun wx hJ => ?_) HJ1.out ?_
              · have cc := HJF.out wx hJ; go_simp; skip
              simp only [pu]
              refine heldJ_take (i := 15) (v := .bool false) rfl (by kernel_rfl) (by kernel_rfl) (by kernel_rfl) (fun _ _ _ h => h) rfl (fun wx hJ => ?_) HJ1.out ?_
              · go_simp; skip
              simp only [pu]
              refine heldJ_take (i := 16) (v := .bool false) rfl (by kernel_rfl) (by kernel_rfl) (by kernel_rfl) (fun _ _ _ h => h) rfl (fun wx hJ => ?_) HJ1.out ?_
              · go_simp; skip
              simp only [pu]
              refine heldJ_skip (i := 17) rfl (by kernel_rfl) (by kernel_rfl) (by kernel_rfl) (fun _ _ _ h => h) rfl HJ1.out ?_
              simp only [pu]
              refine heldJ_skip (i := 18) rfl (by kernel_rfl) (by kernel_rfl) (by kernel_rfl) (fun _ _ _ h => h) rfl HJ1.out ?_
              simp only [pu]
              refine heldJ_skip (i := 19) rfl (by kernel_rfl) (by kernel_rfl) (by kernel_rfl) (fun _ _ _ h => h) rfl HJ1.out ?_
              simp only [pu]
              refine heldJ_skip (i := 20) rfl (by kernel_rfl) (by kernel_rfl) (by kernel_rfl) (fun _ _ _ h => h) rfl HJ1.out ?_
              simp only [pu]
              refine heldJ_skip (i := 21) rfl (by kernel_rfl) (by kernel_rfl) (by kernel_rfl) (fun _ _ _ h => h) rfl HJ1.out ?_
              simp only [pu]
              refine heldJ_skip (i := 22) rfl (by kernel_rfl) (by kernel_rfl) (by kernel_rfl) (fun _ _ _ h => h) rfl HJ1.out ?_
              simp only [pu]
              refine heldJ_skip (i := 23) rfl (by kernel_rfl) (by kernel_rfl) (by kernel_rfl) (fun _ _ _ h => h) rfl HJ1.out ?_
              simp only [pu]
              refine heldJ_skip (i := 24) rfl (by kernel_rfl) (by kernel_rfl) (by kernel_rfl) (fun _ _ _ h => h) rfl HJ1.out ?_
              simp only [pu]
              refine heldJ_take (i := 25) (v := .bool false) rfl (by kernel_rfl) (by kernel_rfl) (by kernel_rfl) (fun _ _ _ h => h) rfl (fun wx hJ => ?_) HJ1.out ?_
              · go_simp; skip
              simp only [pu]
              refine heldJ_take (i := 26) (v := .bool false) rfl (by kernel_rfl) (by kernel_rfl) (by kernel_rfl) (fun _ _ _ h => h) rfl (fun wx hJ => ?_) HJ1.out ?_
              · go_simp; skip
              simp only [pu]
              refine heldJ_take (i := 27) (v := .bool false) rfl (by kernel_rfl) (by kernel_rfl) (by kernel_rfl) (fun _ _ _ h => h) rfl (fun wx hJ => ?_) HJ1.out ?_
              · go_simp; skip
              simp only [pu]
              refine heldJ_take (i := 28) (v := .pointer (some ⟨q, 0, none⟩)) rfl (by kernel_rfl) (by kernel_rfl) (by kernel_rfl) (fun _ _ _ h => h) rfl (fun wx hJ => ?_) HJ1.out ?_
              · go_simp; skip
              simp only [pu]
              refine heldJ_take (i := 29) (v := .int .i64 0) rfl (by kernel_rfl) (by kernel_rfl) (by kernel_rfl) (fun _ _ _ h => h) rfl (fun wx hJ => ?_) HJ1.out ?_
              · have cc := HJF.out wx hJ; go_simp; skip
              simp only [pu]
              refine heldJ_take (i := 30) (v := .bool false) rfl (by kernel_rfl) (by kernel_rfl) (by kernel_rfl) (fun _ _ _ h => h) rfl (fun wx hJ => ?_) HJ1.out ?_
              · go_simp; skip
              simp only [pu]
              refine heldJ_take (i := 31) (v := .bool false) rfl (by kernel_rfl) (by kernel_rfl) (by kernel_rfl) (fun _ _ _ h => h) rfl (fun wx hJ => ?_) HJ1.out ?_
              · go_simp; skip
              simp only [pu]
              refine heldJ_skip (i := 32) rfl (by kernel_rfl) (by kernel_rfl) (by kernel_rfl) (fun _ _ _ h => h) rfl HJ1.out ?_
              simp only [pu]
              refine heldJ_skip (i := 33) rfl (by kernel_rfl) (by kernel_rfl) (by kernel_rfl) (fun _ _ _ h => h) rfl HJ1.out ?_
              simp only [pu]
              refine heldJ_skip (i := 34) rfl (by kernel_rfl) (by kernel_rfl) (by kernel_rfl) (fun _ _ _ h => h) rfl HJ1.out ?_
              simp only [pu]
              refine heldJ_skip (i := 35) rfl (by kernel_rfl) (by kernel_rfl) (by kernel_rfl) (fun _ _ _ h => h) rfl HJ1.out ?_
              simp only [pu]
              refine heldJ_skip (i := 36) rfl (by kernel_rfl) (by kernel_rfl) (by kernel_rfl) (fun _ _ _ h => h) rfl HJ1.out ?_
              simp only [pu]
              refine heldJ_skip (i := 37) rfl (by kernel_rfl) (by kernel_rfl) (by kernel_rfl) (fun _ _ _ h => h) rfl HJ1.out ?_
              simp only [pu]
              refine heldJ_skip (i := 38) rfl (by kernel_rfl) (by kernel_rfl) (by kernel_rfl) (fun _ _ _ h => h) rfl HJ1.out ?_
              simp only [pu]
              refine heldJ_take (i := 39) (v := .bool false) rfl (by kernel_rfl) (by kernel_rfl) (by kernel_rfl) (fun _ _ _ h => h) rfl (fun wx hJ => ?_) HJ1.out ?_
              · go_simp; skip
              simp only [pu]
              refine heldJ_take (i := 40) (v := .bool false) rfl (by kernel_rfl) (by kernel_rfl) (by kernel_rfl) (fun _ _ _ h => h) rfl (fun wx hJ => ?_) HJ1.out ?_
              · go_simp; skip
              simp only [pu]
              refine wpAnyH_done (by kernel_rfl) ?_ _
              go_wp2_with fail
              exact ⟨⟨j + 1, by go_num, by have := HJL.out; omega, Lib.hid ⟨HR5.out.1, HR5.out.2, HGR.out.1⟩⟩, by simp only [intOf]; have := HJL.out; omega⟩
            · have hget : (D.map encPt)[j]? = some [.int .i64 1, .int .i64 (n1 : Int), .int .i64 (z : Int), .string S] := by
                rw [List.getElem?_map, List.getElem?_eq_getElem hjl, ← hy]; rfl
              obtain ⟨c0, c1, c2, c3⟩ := (HRS.out.below HK2.out.2.1).at4 hget
              obtain ⟨q, hq⟩ : ∃ q, q = wr.heap.size := ⟨_, rfl⟩
              have HZ := Lib.hid (Blk.new wr 30 #[.int .i64 0, .int .i64 0, .int .i64 0, .string ⟨#[]⟩])
              have hb2 := below_setRow' ((Below.refl _ wr).alloc (Nat.le_refl _) (.cells #[.int .i64 0, .int .i64 0, .int .i64 0, .string ⟨#[]⟩] 30)) (Nat.le_refl _) #[.int .i64 1, .int .i64 (n1 : Int), .int .i64 (z : Int), .string S]
              have hz2 := HZ.out.row_ #[.int .i64 1, .int .i64 (n1 : Int), .int .i64 (z : Int), .string S]
              obtain ⟨W2, hW2⟩ : ∃ W2, W2 = (wr.alloc (.cells #[.int .i64 0, .int .i64 0, .int .i64 0, .string ⟨#[]⟩] 30)).setRow wr.heap.size #[.int .i64 1, .int .i64 (n1 : Int), .int .i64 (z : Int), .string S] := ⟨_, rfl⟩
              rw [← hW2] at hb2 hz2
              rw [← hq] at hz2
              have HW2 := Lib.hid hW2
              have HQE := Lib.hid hq
              have hqr : q ≠ gr := by have := HK2.out.1.lt; omega
              have hgr := HK2.out.2.2
              have hr4 : RW gr (S ++ (allT (D.drop (j + 1)) ++ more)) 0 W2.drew := by
                have e : S ++ (allT (D.drop (j + 1)) ++ more) = allT (D.drop j) ++ more := by rw [HDR]; rfl
                rw [e]; exact (HK2.out.1.below hb2).below ((Below.refl _ _).drew)
              have hb4 : Below wE.heap.size wE W2.drew := (HK2.out.2.1.trans (hb2.mono HK2.out.2.1.size)).drew
              have hz4 := hz2.drew
              have hkw2 : IntKind.i64.wrap ((j : Int) + 1) = ((j + 1 : Nat) : Int) := by rw [IntWalk.i64_in _ (by have := HLEN.out; omega)]; rfl
              have HJL := Lib.hid hjl
              have HNZ := Lib.hid (⟨hn24, hz37, hS⟩ : n1 < 16777216 ∧ (3 ≤ z ∧ z ≤ 7) ∧ S.size ≤ 300)
              obtain ⟨w4, hw4⟩ : ∃ w4, w4 = W2.drew := ⟨_, rfl⟩
              have HW4 := Lib.hid hw4
              rw [← hw4] at hr4 hb4 hz4
              have C1 := raw_any gr _ 0 (S.size : Int) w4 hr4
              rw [rawW_front S _] at C1
              have HGR := Lib.hid (⟨hgr, hqr⟩ : wE.heap.size + 1 ≤ gr ∧ q ≠ gr)
              clear hget hb2 hz2 hW2 hq hy HDR hjl hn24 hz37 hS HK2 hr4 hw4 hj
              go_wp2_with (refine wpList_store_row rfl 30 _ _ rfl wr.heap.size #[.int .i64 1, .int .i64 (n1 : Int), .int .i64 (z : Int), .string S] rfl rfl 30 _ HZ.out part_size rfl (part_one _ _ _ _) ?_; rw [← HW2.out, ← HQE.out])
              obtain ⟨J, hJd⟩ : ∃ J : World → Prop, J = fun wx => wx.cell? ⟨q, 0, none⟩ = some (.int .i64 1) ∧ wx.cell? ⟨q, 1, none⟩ = some (.int .i64 (n1 : Int)) ∧ wx.cell? ⟨q, 2, none⟩ = some (.int .i64 (z : Int)) ∧ wx.cell? ⟨q, 3, none⟩ = some (.string S) := ⟨_, rfl⟩
              have HJF : Hid (∀ wx, J wx → wx.cell? ⟨q, 0, none⟩ = some (.int .i64 1) ∧ wx.cell? ⟨q, 1, none⟩ = some (.int .i64 (n1 : Int)) ∧ wx.cell? ⟨q, 2, none⟩ = some (.int .i64 (z : Int)) ∧ wx.cell? ⟨q, 3, none⟩ = some (.string S)) := Lib.hid fun wx h => by rw [hJd] at h; exact h
              have HJB : Hid (∀ wx, Blk wx q 30 #[.int .i64 1, .int .i64 (n1 : Int), .int .i64 (z : Int), .string S] → J wx) := Lib.hid fun wx h => by rw [hJd]; exact ⟨h.cell 0, h.cell 1, h.cell 2, h.cell 3⟩
              have HJ0 := Lib.hid (HJB.out w4 hz4)
              clear hJd c0 c1 c2 c3
              refine heldJ_start J (by kernel_rfl) ?_
              change wpAnyH _ _ _ _ _ _ _ _ W2.drew
              rw [← HW4.out]
              refine heldJ_take (i := 0) (v := .pointer (some ⟨q, 0, none⟩)) rfl (by kernel_rfl) (by kernel_rfl) (by kernel_rfl) (fun _ _ _ h => h) rfl (fun wx hJ => ?_) HJ0.out ?_
              · go_simp; skip
              simp only [pu]
              refine heldJ_take (i := 1) (v := .int .i64 1) rfl (by kernel_rfl) (by kernel_rfl) (by kernel_rfl) (fun _ _ _ h => h) rfl (fun wx hJ => ?_) HJ0.out ?_
              · have cc := HJF.out wx hJ; go_simp; skip
              simp only [pu]
              refine heldJ_take (i := 2) (v := .bool false) rfl (by kernel_rfl) (by kernel_rfl) (by kernel_rfl) (fun _ _ _ h => h) rfl (fun wx hJ => ?_) HJ0.out ?_
              · go_simp; skip
              simp only [pu]
              refine heldJ_take (i := 3) (v := .bool false) rfl (by kernel_rfl) (by kernel_rfl) (by kernel_rfl) (fun _ _ _ h => h) rfl (fun wx hJ => ?_) HJ0.out ?_
              · go_simp; skip
              simp only [pu]
              refine heldJ_skip (i := 4) rfl (by kernel_rfl) (by kernel_rfl) (by kernel_rfl) (fun _ _ _ h => h) rfl HJ0.out ?_
              simp only [pu]
              refine heldJ_skip (i := 5) rfl (by kernel_rfl) (by kernel_rfl) (by kernel_rfl) (fun _ _ _ h => h) rfl HJ0.out ?_
              simp only [pu]
              refine heldJ_skip (i := 6) rfl (by kernel_rfl) (by kernel_rfl) (by kernel_rfl) (fun _ _ _ h => h) rfl HJ0.out ?_
              simp only [pu]
              refine heldJ_skip (i := 7) rfl (by kernel_rfl) (by kernel_rfl) (by kernel_rfl) (fun _ _ _ h => h) rfl HJ0.out ?_
              simp only [pu]
              refine heldJ_skip (i := 8) rfl (by kernel_rfl) (by kernel_rfl) (by kernel_rfl) (fun _ _ _ h => h) rfl HJ0.out ?_
              simp only [pu]
              refine heldJ_skip (i := 9) rfl (by kernel_rfl) (by kernel_rfl) (by kernel_rfl) (fun _ _ _ h => h) rfl HJ0.out ?_
              simp only [pu]
              refine heldJ_skip (i := 10) rfl (by kernel_rfl) (by kernel_rfl) (by kernel_rfl) (fun _ _ _ h => h) rfl HJ0.out ?_
              simp only [pu]
              refine heldJ_take (i := 11) (v := .bool false) rfl (by kernel_rfl) (by kernel_rfl) (by kernel_rfl) (fun _ _ _ h => h) rfl (fun wx hJ => ?_) HJ0.out ?_
              · go_simp; skip
              simp only [pu]
              refine heldJ_take (i := 12) (v := .bool false) rfl (by kernel_rfl) (by kernel_rfl) (by kernel_rfl) (fun _ _ _ h => h) rfl (fun wx hJ => ?_) HJ0.out ?_
              · go_simp; skip
              simp only [pu]
              refine heldJ_take (i := 13) (v := .pointer (some ⟨q, 0, none⟩)) rfl (by kernel_rfl) (by kernel_rfl) (by kernel_rfl) (fun _ _ _ h => h) rfl (fun wx hJ => ?_) HJ0.out ?_
              · go_simp; skip
              simp only [pu]
              refine heldJ_take (i := 14) (v := .int .i64 1) rfl (by kernel_rfl) (by kernel_rfl) (by kernel_rfl) (fun _ _ _ h => h) rfl (fun wx hJ => ?_) HJ0.out ?_
              · have cc := HJF.out wx hJ; go_simp; skip
              simp only [pu]
              refine heldJ_take (i := 15) (v := .bool true) rfl (by kernel_rfl) (by kernel_rfl) (by kernel_rfl) (fun _ _ _ h => h) rfl (fun wx hJ => ?_) HJ0.out ?_
              · go_simp; skip
              simp only [pu]
              refine heldJ_take (i := 16) (v := .bool true) rfl (by kernel_rfl) (by kernel_rfl) (by kernel_rfl) (fun _ _ _ h => h) rfl (fun wx hJ => ?_) HJ0.out ?_
              · go_simp; skip
              simp only [pu]
              refine heldJ_take (i := 17) (v := .pointer (some ⟨gr, 0, none⟩)) rfl (by kernel_rfl) (by kernel_rfl) (by kernel_rfl) (fun _ _ _ h => h) rfl (fun wx hJ => ?_) HJ0.out ?_
              · go_simp; skip
              simp only [pu]
              refine heldJ_take (i := 18) (v := .pointer (some ⟨q, 3, none⟩)) rfl (by kernel_rfl) (by kernel_rfl) (by kernel_rfl) (fun _ _ _ h => h) rfl (fun wx hJ => ?_) HJ0.out ?_
              · go_simp; skip
              simp only [pu]
              refine heldJ_take (i := 19) (v := .string S) rfl (by kernel_rfl) (by kernel_rfl) (by kernel_rfl) (fun _ _ _ h => h) rfl (fun wx hJ => ?_) HJ0.out ?_
              · have cc := HJF.out wx hJ; go_simp; skip
              simp only [pu]
              refine heldJ_take (i := 20) (v := .int .i64 (S.size : Int)) rfl (by kernel_rfl) (by kernel_rfl) (by kernel_rfl) (fun _ _ _ h => h) rfl (fun wx hJ => ?_) HJ0.out ?_
              · go_simp; skip
              simp only [pu]
              refine heldJ_take (i := 22) (v := .pointer (some ⟨q, 3, none⟩)) rfl (by kernel_rfl) (by kernel_rfl) (by kernel_rfl) (fun _ _ _ h => h) rfl (fun wx hJ => ?_) HJ0.out ?_
              · go_simp; skip
              simp only [pu]
              refine heldJ_take (i := 23) (v := .string S) rfl (by kernel_rfl) (by kernel_rfl) (by kernel_rfl) (fun _ _ _ h => h) rfl (fun wx hJ => ?_) HJ0.out ?_
              · have cc := HJF.out wx hJ; go_simp; skip
              simp only [pu]
              refine heldJ_call (i := 21) (f := 21) (by kernel_rfl) rfl rfl (by go_simp; skip) ((C1).mono ?_)
              rintro e w5 ⟨rfl, h5, r5⟩
              have HR5 := Lib.hid (⟨r5, hb4.trans (h5.below (by have := HGR.out; omega) hb4.size)⟩ : RW gr (allT (D.drop (j + 1)) ++ more) 0 w5 ∧ Below wE.heap.size wE w5)
              have HJ1 := Lib.hid (HJB.out w5 (h5.blk hz4 (by have := HGR.out; omega)))
              clear C1 h5 r5 hz4 hb4
              refine ⟨_, rfl, HJ1.out, ?_⟩
              simp only [pu]
              refine heldJ_take (i := 24) (v := .bool false) rfl (by kernel_rfl) (by kernel_rfl) (by kernel_rfl) (fun _ _ _ h => h) rfl (fun wx hJ => ?_) HJ1.out ?_
              · go_simp; skip
              simp only [pu]
              refine heldJ_take (i := 25) (v := .bool false) rfl (by kernel_rfl) (by kernel_rfl) (by kernel_rfl) (fun _ _ _ h => h) rfl (fun wx hJ => ?_) HJ1.out ?_
              · go_simp; skip
              simp only [pu]
              refine heldJ_take (i := 26) (v := .bool false) rfl (by kernel_rfl) (by kernel_rfl) (by kernel_rfl) (fun _ _ _ h => h) rfl (fun wx hJ => ?_) HJ1.out ?_
              · go_simp; skip
              simp only [pu]
              refine heldJ_take (i := 27) (v := .bool false) rfl (by kernel_rfl) (by kernel_rfl) (by kernel_rfl) (fun _ _ _ h => h) rfl (fun wx hJ => ?_) HJ1.out ?_
              · go_simp; skip
              simp only [pu]
              refine heldJ_take (i := 28) (v := .pointer (some ⟨q, 0, none⟩)) rfl (by kernel_rfl) (by kernel_rfl) (by kernel_rfl) (fun _ _ _ h => h) rfl (fun wx hJ => ?_) HJ1.out ?_
              · go_simp; skip
              simp only [pu]
              refine heldJ_take (i := 29) (v := .int .i64 1) rfl (by kernel_rfl) (by kernel_rfl) (by kernel_rfl) (fun _ _ _ h => h) rfl (fun wx hJ => ?_) HJ1.out ?_
              · have cc := HJF.out wx hJ; go_simp; skip
              simp only [pu]
              refine heldJ_take (i := 30) (v := .bool false) rfl (by kernel_rfl) (by kernel_rfl) (by kernel_rfl) (fun _ _ _ h => h) rfl (fun wx hJ => ?_) HJ1.out ?_
              · go_simp; skip
              simp only [pu]
              refine heldJ_take (i := 31) (v := .bool false) rfl (by kernel_rfl) (by kernel_rfl) (by kernel_rfl) (fun _ _ _ h => h) rfl (fun wx hJ => ?_) HJ1.out ?_
              · go_simp; skip
              simp only [pu]
              refine heldJ_skip (i := 32) rfl (by kernel_rfl) (by kernel_rfl) (by kernel_rfl) (fun _ _ _ h => h) rfl HJ1.out ?_
              simp only [pu]
              refine heldJ_skip (i := 33) rfl (by kernel_rfl) (by kernel_rfl) (by kernel_rfl) (fun _ _ _ h => h) rfl HJ1.out ?_
              simp only [pu]
              refine heldJ_skip (i := 34) rfl (by kernel_rfl) (by kernel_rfl) (by kernel_rfl) (fun _ _ _ h => h) rfl HJ1.out ?_
              simp only [pu]
              refine heldJ_skip (i := 35) rfl (by kernel_rfl) (by kernel_rfl) (by kernel_rfl) (fun _ _ _ h => h) rfl HJ1.out ?_
              simp only [pu]
              refine heldJ_skip (i := 36) rfl (by kernel_rfl) (by kernel_rfl) (by kernel_rfl) (fun _ _ _ h => h) rfl HJ1.out ?_
              simp only [pu]
              refine heldJ_skip (i := 37) rfl (by kernel_rfl) (by kernel_rfl) (by kernel_rfl) (fun _ _ _ h => h) rfl HJ1.out ?_
              simp only [pu]
              refine heldJ_skip (i := 38) rfl (by kernel_rfl) (by kernel_rfl) (by kernel_rfl) (fun _ _ _ h => h) rfl HJ1.out ?_
              simp only [pu]
              refine heldJ_take (i := 39) (v := .bool false) rfl (by kernel_rfl) (by kernel_rfl) (by kernel_rfl) (fun _ _ _ h => h) rfl (fun wx hJ => ?_) HJ1.out ?_
              · go_simp; skip
              simp only [pu]
              refine heldJ_take (i := 40) (v := .bool false) rfl (by kernel_rfl) (by kernel_rfl) (by kernel_rfl) (fun _ _ _ h => h) rfl (fun wx hJ => ?_) HJ1.out ?_
              · go_simp; skip
              simp only [pu]
              refine wpAnyH_done (by kernel_rfl) ?_ _
              go_wp2_with fail
              exact ⟨⟨j + 1, by go_num, by have := HJL.out; omega, Lib.hid ⟨HR5.out.1, HR5.out.2, HGR.out.1⟩⟩, by simp only [intOf]; have := HJL.out; omega⟩
            · have hget : (D.map encPt)[j]? = some [.int .i64 2, .int .i64 (n1 : Int), .int .i64 (z : Int), .string S] := by
                rw [List.getElem?_map, List.getElem?_eq_getElem hjl, ← hy]; rfl
              obtain ⟨c0, c1, c2, c3⟩ := (HRS.out.below HK2.out.2.1).at4 hget
              obtain ⟨q, hq⟩ : ∃ q, q = wr.heap.size := ⟨_, rfl⟩
              have HZ := Lib.hid (Blk.new wr 30 #[.int .i64 0, .int .i64 0, .int .i64 0, .string ⟨#[]⟩])
              have hb2 := below_setRow' ((Below.refl _ wr).alloc (Nat.le_refl _) (.cells #[.int .i64 0, .int .i64 0, .int .i64 0, .string ⟨#[]⟩] 30)) (Nat.le_refl _) #[.int .i64 2, .int .i64 (n1 : Int), .int .i64 (z : Int), .string S]
              have hz2 := HZ.out.row_ #[.int .i64 2, .int .i64 (n1 : Int), .int .i64 (z : Int), .string S]
              obtain ⟨W2, hW2⟩ : ∃ W2, W2 = (wr.alloc (.cells #[.int .i64 0, .int .i64 0, .int .i64 0, .string ⟨#[]⟩] 30)).setRow wr.heap.size #[.int .i64 2, .int .i64 (n1 : Int), .int .i64 (z : Int), .string S] := ⟨_, rfl⟩
              rw [← hW2] at hb2 hz2
              rw [← hq] at hz2
              have HW2 := Lib.hid hW2
              have HQE := Lib.hid hq
              have hqr : q ≠ gr := by have := HK2.out.1.lt; omega
              have hgr := HK2.out.2.2
              have hr4 : RW gr (beT S.size z z ++ (S ++ (allT (D.drop (j + 1)) ++ more))) 0 W2.drew := by
                have e : beT S.size z z ++ (S ++ (allT (D.drop (j + 1)) ++ more)) = allT (D.drop j) ++ more := by rw [HDR]; exact (app_assoc _ _ _).symm
                rw [e]; exact (HK2.out.1.below hb2).below ((Below.refl _ _).drew)
              have hb4 : Below wE.heap.size wE W2.drew := (HK2.out.2.1.trans (hb2.mono HK2.out.2.1.size)).drew
              have hz4 := hz2.drew
              have hkw2 : IntKind.i64.wrap ((j : Int) + 1) = ((j + 1 : Nat) : Int) := by rw [IntWalk.i64_in _ (by have := HLEN.out; omega)]; rfl
              have HJL := Lib.hid hjl
              have HNZ := Lib.hid (⟨hn24, hz37, hS⟩ : n1 < 16777216 ∧ (3 ≤ z ∧ z ≤ 7) ∧ S.size ≤ 300)
              obtain ⟨w4, hw4⟩ : ∃ w4, w4 = W2.drew := ⟨_, rfl⟩
              have HW4 := Lib.hid hw4
              rw [← hw4] at hr4 hb4 hz4
              have C1 := opaque_any gr _ 0 (z : Int) w4 hr4
              rw [opqW_front S _ z (by omega) (by have := fit_pow hz37; omega)] at C1
              have HGR := Lib.hid (⟨hgr, hqr⟩ : wE.heap.size + 1 ≤ gr ∧ q ≠ gr)
              clear hget hb2 hz2 hW2 hq hy HDR hjl hn24 hz37 hS HK2 hr4 hw4 hj
              go_wp2_with (refine wpList_store_row rfl 30 _ _ rfl wr.heap.size #[.int .i64 2, .int .i64 (n1 : Int), .int .i64 (z : Int), .string S] rfl rfl 30 _ HZ.out part_size rfl (part_one _ _ _ _) ?_; rw [← HW2.out, ← HQE.out])
              obtain ⟨J, hJd⟩ : ∃ J : World → Prop, J = fun wx => wx.cell? ⟨q, 0, none⟩ = some (.int .i64 2) ∧ wx.cell? ⟨q, 1, none⟩ = some (.int .i64 (n1 : Int)) ∧ wx.cell? ⟨q, 2, none⟩ = some (.int .i64 (z : Int)) ∧ wx.cell? ⟨q, 3, none⟩ = some (.string S) := ⟨_, rfl⟩
              have HJF : Hid (∀ wx, J wx → wx.cell? ⟨q, 0, none⟩ = some (.int .i64 2) ∧ wx.cell? ⟨q, 1, none⟩ = some (.int .i64 (n1 : Int)) ∧ wx.cell? ⟨q, 2, none⟩ = some (.int .i64 (z : Int)) ∧ wx.cell? ⟨q, 3, none⟩ = some (.string S)) := Lib.hid fun wx h => by rw [hJd] at h; exact h
              have HJB : Hid (∀ wx, Blk wx q 30 #[.int .i64 2, .int .i64 (n1 : Int), .int .i64 (z : Int), .string S] → J wx) := Lib.hid fun wx h => by rw [hJd]; exact ⟨h.cell 0, h.cell 1, h.cell 2, h.cell 3⟩
              have HJ0 := Lib.hid (HJB.out w4 hz4)
              clear hJd c0 c1 c2 c3
              refine heldJ_start J (by kernel_rfl) ?_
              change wpAnyH _ _ _ _ _ _ _ _ W2.drew
              rw [← HW4.out]
              refine heldJ_take (i := 0) (v := .pointer (some ⟨q, 0, none⟩)) rfl (by kernel_rfl) (by kernel_rfl) (by kernel_rfl) (fun _ _ _ h => h) rfl (fun wx hJ => ?_) HJ0.out ?_
              · go_simp; skip
              simp only [pu]
              refine heldJ_take (i := 1) (v := .int .i64 2) rfl (by kernel_rfl) (by kernel_rfl) (by kernel_rfl) (fun _ _ _ h => h) rfl (fun wx hJ => ?_) HJ0.out ?_
              · have cc := HJF.out wx hJ; go_simp; skip
              simp only [pu]
              refine heldJ_take (i := 2) (v := .bool false) rfl (by kernel_rfl) (by kernel_rfl) (by kernel_rfl) (fun _ _ _ h => h) rfl (fun wx hJ => ?_) HJ0.out ?_
              · go_simp; skip
              simp only [pu]
              refine heldJ_take (i := 3) (v := .bool false) rfl (by kernel_rfl) (by kernel_rfl) (by kernel_rfl) (fun _ _ _ h => h) rfl (fun wx hJ => ?_) HJ0.out ?_
              · go_simp; skip
              simp only [pu]
              refine heldJ_skip (i := 4) rfl (by kernel_rfl) (by kernel_rfl) (by kernel_rfl) (fun _ _ _ h => h) rfl HJ0.out ?_
              simp only [pu]
              refine heldJ_skip (i := 5) rfl (by kernel_rfl) (by kernel_rfl) (by kernel_rfl) (fun _ _ _ h => h) rfl HJ0.out ?_
              simp only [pu]
              refine heldJ_skip (i := 6) rfl (by kernel_rfl) (by kernel_rfl) (by kernel_rfl) (fun _ _ _ h => h) rfl HJ0.out ?_
              simp only [pu]
              refine heldJ_skip (i := 7) rfl (by kernel_rfl) (by kernel_rfl) (by kernel_rfl) (fun _ _ _ h => h) rfl HJ0.out ?_
              simp only [pu]
              refine heldJ_skip (i := 8) rfl (by kernel_rfl) (by kernel_rfl) (by kernel_rfl) (fun _ _ _ h => h) rfl HJ0.out ?_
              simp only [pu]
              refine heldJ_skip (i := 9) rfl (by kernel_rfl) (by kernel_rfl) (by kernel_rfl) (fun _ _ _ h => h) rfl HJ0.out ?_
              simp only [pu]
              refine heldJ_skip (i := 10) rfl (by kernel_rfl) (by kernel_rfl) (by kernel_rfl) (fun _ _ _ h => h) rfl HJ0.out ?_
              simp only [pu]
              refine heldJ_take (i := 11) (v := .bool false) rfl (by kernel_rfl) (by kernel_rfl) (by kernel_rfl) (fun _ _ _ h => h) rfl (fun wx hJ => ?_) HJ0.out ?_
              · go_simp; skip
              simp only [pu]
              refine heldJ_take (i := 12) (v := .bool false) rfl (by kernel_rfl) (by kernel_rfl) (by kernel_rfl) (fun _ _ _ h => h) rfl (fun wx hJ => ?_) HJ0.out ?_
              · go_simp; skip
              simp only [pu]
              refine heldJ_take (i := 13) (v := .pointer (some ⟨q, 0, none⟩)) rfl (by kernel_rfl) (by kernel_rfl) (by kernel_rfl) (fun _ _ _ h => h) rfl (fun wx hJ => ?_) HJ0.out ?_
              · go_simp; skip
              simp only [pu]
              refine heldJ_take (i := 14) (v := .int .i64 2) rfl (by kernel_rfl) (by kernel_rfl) (by kernel_rfl) (fun _ _ _ h => h) rfl (fun wx hJ => ?_) HJ0.out ?_
              · have cc := HJF.out wx hJ; go_simp; skip
              simp only [pu]
              refine heldJ_take (i := 15) (v := .bool false) rfl (by kernel_rfl) (by kernel_rfl) (by kernel_rfl) (fun _ _ _ h => h) rfl (fun wx hJ => ?_) HJ0.out ?_
              · go_simp; skip
              simp only [pu]
              refine heldJ_take (i := 16) (v := .bool false) rfl (by kernel_rfl) (by kernel_rfl) (by kernel_rfl) (fun _ _ _ h => h) rfl (fun wx hJ => ?_) HJ0.out ?_
              · go_simp; skip
              simp only [pu]
              refine heldJ_skip (i := 17) rfl (by kernel_rfl) (by kernel_rfl) (by kernel_rfl) (fun _ _ _ h => h) rfl HJ0.out ?_
              simp only [pu]
              refine heldJ_skip (i := 18) rfl (by kernel_rfl) (by kernel_rfl) (by kernel_rfl) (fun _ _ _ h => h) rfl HJ0.out ?_
              simp only [pu]
              refine heldJ_skip (i := 19) rfl (by kernel_rfl) (by kernel_rfl) (by kernel_rfl) (fun _ _ _ h => h) rfl HJ0.out ?_
              simp only [pu]
              refine heldJ_skip (i := 20) rfl (by kernel_rfl) (by kernel_rfl) (by kernel_rfl) (fun _ _ _ h => h) rfl HJ0.out ?_
              simp only [pu]
              refine heldJ_skip (i := 21) rfl (by kernel_rfl) (by kernel_rfl) (by kernel_rfl) (fun _ _ _ h => h) rfl HJ0.out ?_
              simp only [pu]
              refine heldJ_skip (i := 22) rfl (by kernel_rfl) (by kernel_rfl) (by kernel_rfl) (fun _ _ _ h => h) rfl HJ0.out ?_
              simp only [pu]
              refine heldJ_skip (i := 23) rfl (by kernel_rfl) (by kernel_rfl) (by kernel_rfl) (fun _ _ _ h => h) rfl HJ0.out ?_
              simp only [pu]
              refine heldJ_skip (i := 24) rfl (by kernel_rfl) (by kernel_rfl) (by kernel_rfl) (fun _ _ _ h => h) rfl HJ0.out ?_
              simp only [pu]
              refine heldJ_take (i := 25) (v := .bool false) rfl (by kernel_rfl) (by kernel_rfl) (by kernel_rfl) (fun _ _ _ h => h) rfl (fun wx hJ => ?_) HJ0.out ?_
              · go_simp; skip
              simp only [pu]
              refine heldJ_take (i := 26) (v := .bool false) rfl (by kernel_rfl) (by kernel_rfl) (by kernel_rfl) (fun _ _ _ h => h) rfl (fun wx hJ => ?_) HJ0.out ?_
              · go_simp; skip
              simp only [pu]
              refine heldJ_take (i := 27) (v := .bool false) rfl (by kernel_rfl) (by kernel_rfl) (by kernel_rfl) (fun _ _ _ h => h) rfl (fun wx hJ => ?_) HJ0.out ?_
              · go_simp; skip
              simp only [pu]
              refine heldJ_take (i := 28) (v := .pointer (some ⟨q, 0, none⟩)) rfl (by kernel_rfl) (by kernel_rfl) (by kernel_rfl) (fun _ _ _ h => h) rfl (fun wx hJ => ?_) HJ0.out ?_
              · go_simp; skip
              simp only [pu]
              refine heldJ_take (i := 29) (v := .int .i64 2) rfl (by kernel_rfl) (by kernel_rfl) (by kernel_rfl) (fun _ _ _ h => h) rfl (fun wx hJ => ?_) HJ0.out ?_
              · have cc := HJF.out wx hJ; go_simp; skip
              simp only [pu]
              refine heldJ_take (i := 30) (v := .bool true) rfl (by kernel_rfl) (by kernel_rfl) (by kernel_rfl) (fun _ _ _ h => h) rfl (fun wx hJ => ?_) HJ0.out ?_
              · go_simp; skip
              simp only [pu]
              refine heldJ_take (i := 31) (v := .bool true) rfl (by kernel_rfl) (by kernel_rfl) (by kernel_rfl) (fun _ _ _ h => h) rfl (fun wx hJ => ?_) HJ0.out ?_
              · go_simp; skip
              simp only [pu]
              refine heldJ_take (i := 32) (v := .pointer (some ⟨gr, 0, none⟩)) rfl (by kernel_rfl) (by kernel_rfl) (by kernel_rfl) (fun _ _ _ h => h) rfl (fun wx hJ => ?_) HJ0.out ?_
              · go_simp; skip
              simp only [pu]
              refine heldJ_take (i := 33) (v := .pointer (some ⟨q, 2, none⟩)) rfl (by kernel_rfl) (by kernel_rfl) (by kernel_rfl) (fun _ _ _ h => h) rfl (fun wx hJ => ?_) HJ0.out ?_
              · go_simp; skip
              simp only [pu]
              refine heldJ_take (i := 34) (v := .int .i64 (z : Int)) rfl (by kernel_rfl) (by kernel_rfl) (by kernel_rfl) (fun _ _ _ h => h) rfl (fun wx hJ => ?_) HJ0.out ?_
              · have cc := HJF.out wx hJ; go_simp; skip
              simp only [pu]
              refine heldJ_take (i := 36) (v := .pointer (some ⟨q, 3, none⟩)) rfl (by kernel_rfl) (by kernel_rfl) (by kernel_rfl) (fun _ _ _ h => h) rfl (fun wx hJ => ?_) HJ0.out ?_
              · go_simp; skip
              simp only [pu]
              refine heldJ_take (i := 37) (v := .string S) rfl (by kernel_rfl) (by kernel_rfl) (by kernel_rfl) (fun _ _ _ h => h) rfl (fun wx hJ => ?_) HJ0.out ?_
              · have cc := HJF.out wx hJ; go_simp; skip
              simp only [pu]
              refine heldJ_call (i := 35) (f := 23) (by kernel_rfl) rfl rfl (by go_simp; skip) ((C1).mono ?_)
              rintro e w5 ⟨rfl, h5, r5⟩
              have HR5 := Lib.hid (⟨r5, hb4.trans (h5.below (by have := HGR.out; omega) hb4.size)⟩ : RW gr (allT (D.drop (j + 1)) ++ more) 0 w5 ∧ Below wE.heap.size wE w5)
              have HJ1 := Lib.hid (HJB.out w5 (h5.blk hz4 (by have := HGR.out; omega)))
              clear C1 h5 r5 hz4 hb4
              refine ⟨_, rfl, HJ1.out, ?_⟩
              simp only [pu]
              refine heldJ_take (i := 38) (v := .bool false) rfl (by kernel_rfl) (by kernel_rfl) (by kernel_rfl) (fun _ _ _ h => h) rfl (fun wx hJ => ?_) HJ1.out ?_
              · go_simp; skip
              simp only [pu]
              refine heldJ_take (i := 39) (v := .bool false) rfl (by kernel_rfl) (by kernel_rfl) (by kernel_rfl) (fun _ _ _ h => h) rfl (fun wx hJ => ?_) HJ1.out ?_
              · go_simp; skip
              simp only [pu]
              refine heldJ_take (i := 40) (v := .bool false) rfl (by kernel_rfl) (by kernel_rfl) (by kernel_rfl) (fun _ _ _ h => h) rfl (fun wx hJ => ?_) HJ1.out ?_
              · go_simp; skip
              simp only [pu]
              refine wpAnyH_done (by kernel_rfl) ?_ _
              go_wp2_with fail
              exact ⟨⟨j + 1, by go_num, by have := HJL.out; omega, Lib.hid ⟨HR5.out.1, HR5.out.2, HGR.out.1⟩⟩, by simp only [intOf]; have := HJL.out; omega⟩
          · obtain rfl : j = D.length := by omega
            have hjli : ¬ (D.length : Int) < (D.length : Int) := by omega
            have hr9 := HK2.out.1
            rw [List.drop_length, show allT [] = (⟨#[]⟩ : ByteArray) from rfl, none_appM] at hr9
            have C3 := rest_any gr more 0 wr hr9
            have C4 := end_any gr more 0 wr hr9
            have HB10 := Lib.hid (HB9.out.trans (HK2.out.2.1.mono HB9.out.size))
            rw [show restW more 0 = more.size from rfl] at C3
            by_cases hm0 : 0 < more.size
            · rw [show endW more 0 = 2 from by unfold endW; rw [if_pos ⟨rfl, hm0⟩]] at C4
              have hne : (more.toList == []) = false := by
                rw [beq_eq_false_iff_ne]
                intro e
                rw [ByteArray.toList_eq] at e
                have := congrArg List.length e
                rw [Array.length_toList] at this
                have : more.size = 0 := this
                omega
              clear hr9 HK2 hj hjl hm0
              go_wp2_with fail
              refine C3.mono ?_
              rintro e w5 ⟨rfl, rfl⟩
              go_wp2_with fail
              refine C4.mono ?_
              rintro e w6 ⟨rfl, rfl⟩
              go_wp2_with fail
              go_ret
              exact ⟨rfl, HB10.out⟩
            · rw [show endW more 0 = 0 from by unfold endW; rw [if_neg (fun h => hm0 h.2)]] at C4
              obtain rfl := text_none (show more.size = 0 by omega)
              clear hr9 HK2 hj hjl hm0
              go_wp2_with fail
              refine C3.mono ?_
              rintro e w5 ⟨rfl, rfl⟩
              go_wp2_with fail
              refine C4.mono ?_
              rintro e w6 ⟨rfl, rfl⟩
              go_wp2_with fail
              go_ret
              exact ⟨rfl, HB10.out⟩
    · obtain rfl : k = n := by omega
      have hlti : ¬ (k : Int) < (k : Int) := by omega
      clear hkn hlt
      rename World => wE
      have HD := Lib.hid HJ.out.2.2.1
      have HBA := Lib.hid HJ.out.2.1
      have HLEN : Hid (D.length ≤ 20) := Lib.hid (by have := HJ.out.2.2.2; omega)
      have hbz : B.size ≤ 6140 := by have := allT_size D HJ.out.2.2.1; have := HLEN.out; rw [HJ.out.2.1]; omega
      obtain ⟨ap, cpD, hu7, hrs, _⟩ := HJ.out.1.b.rs
      rw [List.length_map] at hu7 hrs
      have C1 := bytesW_any gw v B 0 wE HJ.out.1.a
      have C2 := newReader_any (B ++ more) wE.drew (by rw [size_app]; have := HMZ.out; omega)
      have HB9 := Lib.hid HJ.out.1.b.b
      have HRS := Lib.hid hrs
      have hz : ¬ ((B.size + more.size : Nat) : Int) > 9223372036854775807 := by have := HMZ.out; omega
      clear HJ hrs hbz hk20
      subst hu7
      go_wp2_with fail
      refine C1.mono ?_
      rintro e w5 ⟨rfl, rfl⟩
      go_wp2_with fail
      refine C2.mono ?_
      rintro e w6 ⟨gr, rfl, hgr, hr, b6⟩
      have HI2 : Hid (RW gr (allT (D.drop 0) ++ more) 0 w6 ∧ Below wE.heap.size wE w6 ∧ wE.heap.size + 1 ≤ gr) := Lib.hid ⟨by rw [List.drop_zero, ← HBA.out]; exact hr, (Below.refl _ wE).drew.trans b6, hgr⟩
      clear C1 C2 hr b6 hgr hz
      go_wp2_with fail
      go_loopw [13] (fun u wx => ∃ j : Nat, u = .int .i64 (j : Int) ∧ j ≤ D.length ∧ Hid (RW gr (allT (D.drop j) ++ more) 0 wx ∧ Below wE.heap.size wE wx ∧ wE.heap.size + 1 ≤ gr)) (fun u _ => D.length - (intOf u).toNat)
      case atStart => exact ⟨0, rfl, Nat.zero_le _, HI2⟩
      case round =>
        obtain ⟨j, rfl, hj, HK2⟩ := hrel
        clear HI2
        by_cases hjl : j < D.length
        · have hjli : (j : Int) < (D.length : Int) := by omega
          obtain ⟨aq, rfl⟩ := HRS.out.some_ (by omega)
          obtain ⟨y, hy⟩ : ∃ y, y = D[j]'hjl := ⟨_, rfl⟩
          obtain ⟨m, n1, z, hf⟩ := HD.out y (by rw [hy]; exact List.getElem_mem hjl)
          obtain ⟨yk, yn, yz, S⟩ := y
          obtain ⟨ek, en, ez, hm3, hn24, hz37, hS⟩ := hf
          have ek : yk = (m : Int) := ek
          have en : yn = (n1 : Int) := en
          have ez : yz = (z : Int) := ez
          have hS : S.size ≤ 300 := hS
          subst ek en ez
          have HDR : allT (D.drop j) ++ more = parT m n1 z S ++ (allT (D.drop (j + 1)) ++ more) := by rw [List.drop_eq_getElem_cons hjl, ← hy]; exact app_assoc _ _ _
          have hm3 : m = 0 ∨ m = 1 ∨ m = 2 := by omega
          rcases hm3 with rfl | rfl | rfl
          · have hget : (D.map encPt)[j]? = some [.int .i64 0, .int .i64 (n1 : Int), .int .i64 (z : Int), .string S] := by
              rw [List.getElem?_map, List.getElem?_eq_getElem hjl, ← hy]; rfl
            obtain ⟨c0, c1, c2, c3⟩ := (HRS.out.below HK2.out.2.1).at4 hget
            obtain ⟨q, hq⟩ : ∃ q, q = wr.heap.size := ⟨_, rfl⟩
            have HZ := Lib.hid (Blk.new wr 30 #[.int .i64 0, .int .i64 0, .int .i64 0, .string ⟨#[]⟩])
            have hb2 := below_setRow' ((Below.refl _ wr).alloc (Nat.le_refl _) (.cells #[.int .i64 0, .int .i64 0, .int .i64 0, .string ⟨#[]⟩] 30)) (Nat.le_refl _) #[.int .i64 0, .int .i64 (n1 : Int), .int .i64 (z : Int), .string S]
            have hz2 := HZ.out.row_ #[.int .i64 0, .int .i64 (n1 : Int), .int .i64 (z : Int), .string S]
            obtain ⟨W2, hW2⟩ : ∃ W2, W2 = (wr.alloc (.cells #[.int .i64 0, .int .i64 0, .int .i64 0, .string ⟨#[]⟩] 30)).setRow wr.heap.size #[.int .i64 0, .int .i64 (n1 : Int), .int .i64 (z : Int), .string S] := ⟨_, rfl⟩
            rw [← hW2] at hb2 hz2
            rw [← hq] at hz2
            have HW2 := Lib.hid hW2
            have HQE := Lib.hid hq
            have hqr : q ≠ gr := by have := HK2.out.1.lt; omega
            have hgr := HK2.out.2.2
            have hr4 : RW gr (beT n1 z z ++ (allT (D.drop (j + 1)) ++ more)) 0 W2.drew := by
              have e : beT n1 z z ++ (allT (D.drop (j + 1)) ++ more) = allT (D.drop j) ++ more := by rw [HDR]; rfl
              rw [e]; exact (HK2.out.1.below hb2).below ((Below.refl _ _).drew)
            have hb4 : Below wE.heap.size wE W2.drew := (HK2.out.2.1.trans (hb2.mono HK2.out.2.1.size)).drew
            have hz4 := hz2.drew
            have hkw2 : IntKind.i64.wrap ((j : Int) + 1) = ((j + 1 : Nat) : Int) := by rw [IntWalk.i64_in _ (by have := HLEN.out; omega)]; rfl
            have HJL := Lib.hid hjl
            have HNZ := Lib.hid (⟨hn24, hz37, hS⟩ : n1 < 16777216 ∧ (3 ≤ z ∧ z ≤ 7) ∧ S.size ≤ 300)
            obtain ⟨w4, hw4⟩ : ∃ w4, w4 = W2.drew := ⟨_, rfl⟩
            have HW4 := Lib.hid hw4
            rw [← hw4] at hr4 hb4 hz4
            have C1 := number_any gr _ 0 (z : Int) w4 hr4
            rw [numW_front n1 z _ (by omega) (by have := fit_pow hz37; omega)] at C1
            have HGR := Lib.hid (⟨hgr, hqr⟩ : wE.heap.size + 1 ≤ gr ∧ q ≠ gr)
            clear hget hb2 hz2 hW2 hq hy HDR hjl hn24 hz37 hS HK2 hr4 hw4 hj
            go_wp2_with (refine wpList_store_row rfl 30 _ _ rfl wr.heap.size #[.int .i64 0, .int .i64 (n1 : Int), .int .i64 (z : Int), .string S] rfl rfl 30 _ HZ.out part_size rfl (part_one _ _ _ _) ?_; rw [← HW2.out, ← HQE.out])
            obtain ⟨J, hJd⟩ : ∃ J : World → Prop, J = fun wx => wx.cell? ⟨q, 0, none⟩ = some (.int .i64 0) ∧ wx.cell? ⟨q, 1, none⟩ = some (.int .i64 (n1 : Int)) ∧ wx.cell? ⟨q, 2, none⟩ = some (.int .i64 (z : Int)) ∧ wx.cell? ⟨q, 3, none⟩ = some (.string S) := ⟨_, rfl⟩
            have HJF : Hid (∀ wx, J wx → wx.cell? ⟨q, 0, none⟩ = some (.int .i64 0) ∧ wx.cell? ⟨q, 1, none⟩ = some (.int .i64 (n1 : Int)) ∧ wx.cell? ⟨q, 2, none⟩ = some (.int .i64 (z : Int)) ∧ wx.cell? ⟨q, 3, none⟩ = some (.string S)) := Lib.hid fun wx h => by rw [hJd] at h; exact h
            have HJB : Hid (∀ wx, Blk wx q 30 #[.int .i64 0, .int .i64 (n1 : Int), .int .i64 (z : Int), .string S] → J wx) := Lib.hid fun wx h => by rw [hJd]; exact ⟨h.cell 0, h.cell 1, h.cell 2, h.cell 3⟩
            have HJ0 := Lib.hid (HJB.out w4 hz4)
            clear hJd c0 c1 c2 c3
            refine heldJ_start J (by kernel_rfl) ?_
            change wpAnyH _ _ _ _ _ _ _ _ W2.drew
            rw [← HW4.out]
            refine heldJ_take (i := 0) (v := .pointer (some ⟨q, 0, none⟩)) rfl (by kernel_rfl) (by kernel_rfl) (by kernel_rfl) (fun _ _ _ h => h) rfl (fun wx hJ => ?_) HJ0.out ?_
            · go_simp; skip
            simp only [pu]
            refine heldJ_take (i := 1) (v := .int .i64 0) rfl (by kernel_rfl) (by kernel_rfl) (by kernel_rfl) (fun _ _ _ h => h) rfl (fun wx hJ => ?_) HJ0.out ?_
            · have cc := HJF.out wx hJ; go_simp; skip
            simp only [pu]
            refine heldJ_take (i := 2) (v := .bool true) rfl (by kernel_rfl) (by kernel_rfl) (by kernel_rfl) (fun _ _ _ h => h) rfl (fun wx hJ => ?_) HJ0.out ?_
            · go_simp; skip
            simp only [pu]
            refine heldJ_take (i := 3) (v := .bool true) rfl (by kernel_rfl) (by kernel_rfl) (by kernel_rfl) (fun _ _ _ h => h) rfl (fun wx hJ => ?_) HJ0.out ?_
            · go_simp; skip
            simp only [pu]
            refine heldJ_take (i := 4) (v := .pointer (some ⟨gr, 0, none⟩)) rfl (by kernel_rfl) (by kernel_rfl) (by kernel_rfl) (fun _ _ _ h => h) rfl (fun wx hJ => ?_) HJ0.out ?_
            · go_simp; skip
            simp only [pu]
            refine heldJ_take (i := 5) (v := .pointer (some ⟨q, 2, none⟩)) rfl (by kernel_rfl) (by kernel_rfl) (by kernel_rfl) (fun _ _ _ h => h) rfl (fun wx hJ => ?_) HJ0.out ?_
            · go_simp; skip
            simp only [pu]
            refine heldJ_take (i := 6) (v := .int .i64 (z : Int)) rfl (by kernel_rfl) (by kernel_rfl) (by kernel_rfl) (fun _ _ _ h => h) rfl (fun wx hJ => ?_) HJ0.out ?_
            · have cc := HJF.out wx hJ; go_simp; skip
            simp only [pu]
            refine heldJ_take (i := 8) (v := .pointer (some ⟨q, 1, none⟩)) rfl (by kernel_rfl) (by kernel_rfl) (by kernel_rfl) (fun _ _ _ h => h) rfl (fun wx hJ => ?_) HJ0.out ?_
            · go_simp; skip
            simp only [pu]
            refine heldJ_take (i := 9) (v := .int .i64 (n1 : Int)) rfl (by kernel_rfl) (by kernel_rfl) (by kernel_rfl) (fun _ _ _ h => h) rfl (fun wx hJ => ?_) HJ0.out ?_
            · have cc := HJF.out wx hJ; go_simp; skip
            simp only [pu]
            refine heldJ_call (i := 7) (f := 19) (by kernel_rfl) rfl rfl (by go_simp; skip) ((C1).mono ?_)
            rintro e w5 ⟨rfl, h5, r5⟩
            have HR5 := Lib.hid (⟨r5, hb4.trans (h5.below (by have := HGR.out; omega) hb4.size)⟩ : RW gr (allT (D.drop (j + 1)) ++ more) 0 w5 ∧ Below wE.heap.size wE w5)
            have HJ1 := Lib.hid (HJB.out w5 (h5.blk hz4 (by have := HGR.out; omega)))
            clear C1 h5 r5 hz4 hb4
            refine ⟨_, rfl, HJ1.out, ?_⟩
            simp only [pu]
            refine heldJ_take (i := 10) (v := .bool false) rfl (by kernel_rfl) (by kernel_rfl) (by kernel_rfl) (fun _ _ _ h => h) rfl (fun wx hJ => ?_) HJ1.out ?_
            · go_simp; skip
            simp only [pu]
            refine heldJ_take (i := 11) (v := .bool false) rfl (by kernel_rfl) (by kernel_rfl) (by kernel_rfl) (fun _ _ _ h => h) rfl (fun wx hJ => ?_) HJ1.out ?_
            · go_simp; skip
            simp only [pu]
            refine heldJ_take (i := 12) (v := .bool false) rfl (by kernel_rfl) (by kernel_rfl) (by kernel_rfl) (fun _ _ _ h => h) rfl (fun wx hJ => ?_) HJ1.out ?_
            · go_simp; skip
            simp only [pu]
            refine heldJ_take (i := 13) (v := .pointer (some ⟨q, 0, none⟩)) rfl (by kernel_rfl) (by kernel_rfl) (by kernel_rfl) (fun _ _ _ h => h) rfl (fun wx hJ => ?_) HJ1.out ?_
            · go_simp; skip
            simp only [pu]
            refine heldJ_take (i := 14) (v := .int .i64 0) rfl (by kernel_rfl) (by kernel_rfl) (by kernel_rfl) (fun _ _ _ h => h) rfl (fun wx hJ => ?_) HJ1.out ?_
            · have cc := HJF.out wx hJ; go_simp; skip
            simp only [pu]
            refine heldJ_take (i := 15) (v := .bool false) rfl (by kernel_rfl) (by kernel_rfl) (by kernel_rfl) (fun _ _ _ h => h) rfl (fun wx hJ => ?_) HJ1.out ?_
            · go_simp; skip
            simp only [pu]
            refine heldJ_take (i := 16) (v := .bool false) rfl (by kernel_rfl) (by kernel_rfl) (by kernel_rfl) (fun _ _ _ h => h) rfl (fun wx hJ => ?_) HJ1.out ?_
            · go_simp; skip
            simp only [pu]
            refine heldJ_skip (i := 17) rfl (by kernel_rfl) (by kernel_rfl) (by kernel_rfl) (fun _ _ _ h => h) rfl HJ1.out ?_
            simp only [pu]
            refine heldJ_skip (i := 18) rfl (by kernel_rfl) (by kernel_rfl) (by kernel_rfl) (fun _ _ _ h => h) rfl HJ1.out ?_
            simp only [pu]
            refine heldJ_skip (i := 19) rfl (by kernel_rfl) (by kernel_rfl) (by kernel_rfl) (fun _ _ _ h => h) rfl HJ1.out ?_
            simp only [pu]
            refine heldJ_skip (i := 20) rfl (by kernel_rfl) (by kernel_rfl) (by kernel_rfl) (fun _ _ _ h => h) rfl HJ1.out ?_
            simp only [pu]
            refine heldJ_skip (i := 21) rfl (by kernel_rfl) (by kernel_rfl) (by kernel_rfl) (fun _ _ _ h => h) rfl HJ1.out ?_
            simp only [pu]
            refine heldJ_skip (i := 22) rfl (by kernel_rfl) (by kernel_rfl) (by kernel_rfl) (fun _ _ _ h => h) rfl HJ1.out ?_
            simp only [pu]
            refine heldJ_skip (i := 23) rfl (by kernel_rfl) (by kernel_rfl) (by kernel_rfl) (fun _ _ _ h => h) rfl HJ1.out ?_
            simp only [pu]
            refine heldJ_skip (i := 24) rfl (by kernel_rfl) (by kernel_rfl) (by kernel_rfl) (fun _ _ _ h => h) rfl HJ1.out ?_
            simp only [pu]
            refine heldJ_take (i := 25) (v := .bool false) rfl (by kernel_rfl) (by kernel_rfl) (by kernel_rfl) (fun _ _ _ h => h) rfl (fun wx hJ => ?_) HJ1.out ?_
            · go_simp; skip
            simp only [pu]
            refine heldJ_take (i := 26) (v := .bool false) rfl (by kernel_rfl) (by kernel_rfl) (by kernel_rfl) (fun _ _ _ h => h) rfl (fun wx hJ => ?_) HJ1.out ?_
            · go_simp; skip
            simp only [pu]
            refine heldJ_take (i := 27) (v := .bool false) rfl (by kernel_rfl) (by kernel_rfl) (by kernel_rfl) (fun _ _ _ h => h) rfl (fun wx hJ => ?_) HJ1.out ?_
            · go_simp; skip
            simp only [pu]
            refine heldJ_take (i := 28) (v := .pointer (some ⟨q, 0, none⟩)) rfl (by kernel_rfl) (by kernel_rfl) (by kernel_rfl) (fun _ _ _ h => h) rfl (fun wx hJ => ?_) HJ1.out ?_
            · go_simp; skip
            simp only [pu]
            refine heldJ_take (i := 29) (v := .int .i64 0) rfl (by kernel_rfl) (by kernel_rfl) (by kernel_rfl) (fun _ _ _ h => h) rfl (fun wx hJ => ?_) HJ1.out ?_
            · have cc := HJF.out wx hJ; go_simp; skip
            simp only [pu]
            refine heldJ_take (i := 30) (v := .bool false) rfl (by kernel_rfl) (by kernel_rfl) (by kernel_rfl) (fun _ _ _ h => h) rfl (fun wx hJ => ?_) HJ1.out ?_
            · go_simp; skip
            simp only [pu]
            refine heldJ_take (i := 31) (v := .bool false) rfl (by kernel_rfl) (by kernel_rfl) (by kernel_rfl) (fun _ _ _ h => h) rfl (fun wx hJ => ?_) HJ1.out ?_
            · go_simp; skip
            simp only [pu]
            refine heldJ_skip (i := 32) rfl (by kernel_rfl) (by kernel_rfl) (by kernel_rfl) (fun _ _ _ h => h) rfl HJ1.out ?_
            simp only [pu]
            refine heldJ_skip (i := 33) rfl (by kernel_rfl) (by kernel_rfl) (by kernel_rfl) (fun _ _ _ h => h) rfl HJ1.out ?_
            simp only [pu]
            refine heldJ_skip (i := 34) rfl (by kernel_rfl) (by kernel_rfl) (by kernel_rfl) (fun _ _ _ h => h) rfl HJ1.out ?_
            simp only [pu]
            refine heldJ_skip (i := 35) rfl (by kernel_rfl) (by kernel_rfl) (by kernel_rfl) (fun _ _ _ h => h) rfl HJ1.out ?_
            simp only [pu]
            refine heldJ_skip (i := 36) rfl (by kernel_rfl) (by kernel_rfl) (by kernel_rfl) (fun _ _ _ h => h) rfl HJ1.out ?_
            simp only [pu]
            refine heldJ_skip (i := 37) rfl (by kernel_rfl) (by kernel_rfl) (by kernel_rfl) (fun _ _ _ h => h) rfl HJ1.out ?_
            simp only [pu]
            refine heldJ_skip (i := 38) rfl (by kernel_rfl) (by kernel_rfl) (by kernel_rfl) (fun _ _ _ h => h) rfl HJ1.out ?_
            simp only [pu]
            refine heldJ_take (i := 39) (v := .bool false) rfl (by kernel_rfl) (by kernel_rfl) (by kernel_rfl) (fun _ _ _ h => h) rfl (fun wx hJ => ?_) HJ1.out ?_
            · go_simp; skip
            simp only [pu]
            refine heldJ_take (i := 40) (v := .bool false) rfl (by kernel_rfl) (by kernel_rfl) (by kernel_rfl) (fun _ _ _ h => h) rfl (fun wx hJ => ?_) HJ1.out ?_
            · go_simp; skip
            simp only [pu]
            refine wpAnyH_done (by kernel_rfl) ?_ _
            go_wp2_with fail
            exact ⟨⟨j + 1, by go_num, by have := HJL.out; omega, Lib.hid ⟨HR5.out.1, HR5.out.2, HGR.out.1⟩⟩, by simp only [intOf]; have := HJL.out; omega⟩
          · have hget : (D.map encPt)[j]? = some [.int .i64 1, .int .i64 (n1 : Int), .int .i64 (z : Int), .string S] := by
              rw [List.getElem?_map, List.getElem?_eq_getElem hjl, ← hy]; rfl
            obtain ⟨c0, c1, c2, c3⟩ := (HRS.out.below HK2.out.2.1).at4 hget
            obtain ⟨q, hq⟩ : ∃ q, q = wr.heap.size := ⟨_, rfl⟩
            have HZ := Lib.hid (Blk.new wr 30 #[.int .i64 0, .int .i64 0, .int .i64 0, .string ⟨#[]⟩])
            have hb2 := below_setRow' ((Below.refl _ wr).alloc (Nat.le_refl _) (.cells #[.int .i64 0, .int .i64 0, .int .i64 0, .string ⟨#[]⟩] 30)) (Nat.le_refl _) #[.int .i64 1, .int .i64 (n1 : Int), .int .i64 (z : Int), .string S]
            have hz2 := HZ.out.row_ #[.int .i64 1, .int .i64 (n1 : Int), .int .i64 (z : Int), .string S]
            obtain ⟨W2, hW2⟩ : ∃ W2, W2 = (wr.alloc (.cells #[.int .i64 0, .int .i64 0, .int .i64 0, .string ⟨#[]⟩] 30)).setRow wr.heap.size #[.int .i64 1, .int .i64 (n1 : Int), .int .i64 (z : Int), .string S] := ⟨_, rfl⟩
            rw [← hW2] at hb2 hz2
            rw [← hq] at hz2
            have HW2 := Lib.hid hW2
            have HQE := Lib.hid hq
            have hqr : q ≠ gr := by have := HK2.out.1.lt; omega
            have hgr := HK2.out.2.2
            have hr4 : RW gr (S ++ (allT (D.drop (j + 1)) ++ more)) 0 W2.drew := by
              have e : S ++ (allT (D.drop (j + 1)) ++ more) = allT (D.drop j) ++ more := by rw [HDR]; rfl
              rw [e]; exact (HK2.out.1.below hb2).below ((Below.refl _ _).drew)
            have hb4 : Below wE.heap.size wE W2.drew := (HK2.out.2.1.trans (hb2.mono HK2.out.2.1.size)).drew
            have hz4 := hz2.drew
            have hkw2 : IntKind.i64.wrap ((j : Int) + 1) = ((j + 1 : Nat) : Int) := by rw [IntWalk.i64_in _ (by have := HLEN.out; omega)]; rfl
            have HJL := Lib.hid hjl
            have HNZ := Lib.hid (⟨hn24, hz37, hS⟩ : n1 < 16777216 ∧ (3 ≤ z ∧ z ≤ 7) ∧ S.size ≤ 300)
            obtain ⟨w4, hw4⟩ : ∃ w4, w4 = W2.drew := ⟨_, rfl⟩
            have HW4 := Lib.hid hw4
            rw [← hw4] at hr4 hb4 hz4
            have C1 := raw_any gr _ 0 (S.size : Int) w4 hr4
            rw [rawW_front S _] at C1
            have HGR := Lib.hid (⟨hgr, hqr⟩ : wE.heap.size + 1 ≤ gr ∧ q ≠ gr)
            clear hget hb2 hz2 hW2 hq hy HDR hjl hn24 hz37 hS HK2 hr4 hw4 hj
            go_wp2_with (refine wpList_store_row rfl 30 _ _ rfl wr.heap.size #[.int .i64 1, .int .i64 (n1 : Int), .int .i64 (z : Int), .string S] rfl rfl 30 _ HZ.out part_size rfl (part_one _ _ _ _) ?_; rw [← HW2.out, ← HQE.out])
            obtain ⟨J, hJd⟩ : ∃ J : World → Prop, J = fun wx => wx.cell? ⟨q, 0, none⟩ = some (.int .i64 1) ∧ wx.cell? ⟨q, 1, none⟩ = some (.int .i64 (n1 : Int)) ∧ wx.cell? ⟨q, 2, none⟩ = some (.int .i64 (z : Int)) ∧ wx.cell? ⟨q, 3, none⟩ = some (.string S) := ⟨_, rfl⟩
            have HJF : Hid (∀ wx, J wx → wx.cell? ⟨q, 0, none⟩ = some (.int .i64 1) ∧ wx.cell? ⟨q, 1, none⟩ = some (.int .i64 (n1 : Int)) ∧ wx.cell? ⟨q, 2, none⟩ = some (.int .i64 (z : Int)) ∧ wx.cell? ⟨q, 3, none⟩ = some (.string S)) := Lib.hid fun wx h => by rw [hJd] at h; exact h
            have HJB : Hid (∀ wx, Blk wx q 30 #[.int .i64 1, .int .i64 (n1 : Int), .int .i64 (z : Int), .string S] → J wx) := Lib.hid fun wx h => by rw [hJd]; exact ⟨h.cell 0, h.cell 1, h.cell 2, h.cell 3⟩
            have HJ0 := Lib.hid (HJB.out w4 hz4)
            clear hJd c0 c1 c2 c3
            refine heldJ_start J (by kernel_rfl) ?_
            change wpAnyH _ _ _ _ _ _ _ _ W2.drew
            rw [← HW4.out]
            refine heldJ_take (i := 0) (v := .pointer (some ⟨q, 0, none⟩)) rfl (by kernel_rfl) (by kernel_rfl) (by kernel_rfl) (fun _ _ _ h => h) rfl (fun wx hJ => ?_) HJ0.out ?_
            · go_simp; skip
            simp only [pu]
            refine heldJ_take (i := 1) (v := .int .i64 1) rfl (by kernel_rfl) (by kernel_rfl) (by kernel_rfl) (fun _ _ _ h => h) rfl (fun wx hJ => ?_) HJ0.out ?_
            · have cc := HJF.out wx hJ; go_simp; skip
            simp only [pu]
            refine heldJ_take (i := 2) (v := .bool false) rfl (by kernel_rfl) (by kernel_rfl) (by kernel_rfl) (fun _ _ _ h => h) rfl (fun wx hJ => ?_) HJ0.out ?_
            · go_simp; skip
            simp only [pu]
            refine heldJ_take (i := 3) (v := .bool false) rfl (by kernel_rfl) (by kernel_rfl) (by kernel_rfl) (fun _ _ _ h => h) rfl (fun wx hJ => ?_) HJ0.out ?_
            · go_simp; skip
            simp only [pu]
            refine heldJ_skip (i := 4) rfl (by kernel_rfl) (by kernel_rfl) (by kernel_rfl) (fun _ _ _ h => h) rfl HJ0.out ?_
            simp only [pu]
            refine heldJ_skip (i := 5) rfl (by kernel_rfl) (by kernel_rfl) (by kernel_rfl) (fun _ _ _ h => h) rfl HJ0.out ?_
            simp only [pu]
            refine heldJ_skip (i := 6) rfl (by kernel_rfl) (by kernel_rfl) (by kernel_rfl) (fun _ _ _ h => h) rfl HJ0.out ?_
            simp only [pu]
            refine heldJ_skip (i := 7) rfl (by kernel_rfl) (by kernel_rfl) (by kernel_rfl) (fun _ _ _ h => h) rfl HJ0.out ?_
            simp only [pu]
            refine heldJ_skip (i := 8) rfl (by kernel_rfl) (by kernel_rfl) (by kernel_rfl) (fun _ _ _ h => h) rfl HJ0.out ?_
            simp only [pu]
            refine heldJ_skip (i := 9) rfl (by kernel_rfl) (by kernel_rfl) (by kernel_rfl) (fun _ _ _ h => h) rfl HJ0.out ?_
            simp only [pu]
            refine heldJ_skip (i := 10) rfl (by kernel_rfl) (by kernel_rfl) (by kernel_rfl) (fun _ _ _ h => h) rfl HJ0.out ?_
            simp only [pu]
            refine heldJ_take (i := 11) (v := .bool false) rfl (by kernel_rfl) (by kernel_rfl) (by kernel_rfl) (fun _ _ _ h => h) rfl (fun wx hJ => ?_) HJ0.out ?_
            · go_simp; skip
            simp only [pu]
            refine heldJ_take (i := 12) (v := .bool false) rfl (by kernel_rfl) (by kernel_rfl) (by kernel_rfl) (fun _ _ _ h => h) rfl (fun wx hJ => ?_) HJ0.out ?_
            · go_simp; skip
            simp only [pu]
            refine heldJ_take (i := 13) (v := .pointer (some ⟨q, 0, none⟩)) rfl (by kernel_rfl) (by kernel_rfl) (by kernel_rfl) (fun _ _ _ h => h) rfl (fun wx hJ => ?_) HJ0.out ?_
            · go_simp; skip
            simp only [pu]
            refine heldJ_take (i := 14) (v := .int .i64 1) rfl (by kernel_rfl) (by kernel_rfl) (by kernel_rfl) (fun _ _ _ h => h) rfl (fun wx hJ => ?_) HJ0.out ?_
            · have cc := HJF.out wx hJ; go_simp; skip
            simp only [pu]
            refine heldJ_take (i := 15) (v := .bool true) rfl (by kernel_rfl) (by kernel_rfl) (by kernel_rfl) (fun _ _ _ h => h) rfl (fun wx hJ => ?_) HJ0.out ?_
            · go_simp; skip
            simp only [pu]
            refine heldJ_take (i := 16) (v := .bool true) rfl (by kernel_rfl) (by kernel_rfl) (by kernel_rfl) (fun _ _ _ h => h) rfl (fun wx hJ => ?_) HJ0.out ?_
            · go_simp; skip
            simp only [pu]
            refine heldJ_take (i := 17) (v := .pointer (some ⟨gr, 0, none⟩)) rfl (by kernel_rfl) (by kernel_rfl) (by kernel_rfl) (fun _ _ _ h => h) rfl (fun wx hJ => ?_) HJ0.out ?_
            · go_simp; skip
            simp only [pu]
            refine heldJ_take (i := 18) (v := .pointer (some ⟨q, 3, none⟩)) rfl (by kernel_rfl) (by kernel_rfl) (by kernel_rfl) (fun _ _ _ h => h) rfl (fun wx hJ => ?_) HJ0.out ?_
            · go_simp; skip
            simp only [pu]
            refine heldJ_take (i := 19) (v := .string S) rfl (by kernel_rfl) (by kernel_rfl) (by kernel_rfl) (fun _ _ _ h => h) rfl (fun wx hJ => ?_) HJ0.out ?_
            · have cc := HJF.out wx hJ; go_simp; skip
            simp only [pu]
            refine heldJ_take (i := 20) (v := .int .i64 (S.size : Int)) rfl (by kernel_rfl) (by kernel_rfl) (by kernel_rfl) (fun _ _ _ h => h) rfl (fun wx hJ => ?_) HJ0.out ?_
            · go_simp; skip
            simp only [pu]
            refine heldJ_take (i := 22) (v := .pointer (some ⟨q, 3, none⟩)) rfl (by kernel_rfl) (by kernel_rfl) (by kernel_rfl) (fun _ _ _ h => h) rfl (fun wx hJ => ?_) HJ0.out ?_
            · go_simp; skip
            simp only [pu]
            refine heldJ_take (i := 23) (v := .string S) rfl (by kernel_rfl) (by kernel_rfl) (by kernel_rfl) (fun _ _ _ h => h) rfl (fun wx hJ => ?_) HJ0.out ?_
            · have cc := HJF.out wx hJ; go_simp; skip
            simp only [pu]
            refine heldJ_call (i := 21) (f := 21) (by kernel_rfl) rfl rfl (by go_simp; skip) ((C1).mono ?_)
            rintro e w5 ⟨rfl, h5, r5⟩
            have HR5 := Lib.hid (⟨r5, hb4.trans (h5.below (by have := HGR.out; omega) hb4.size)⟩ : RW gr (allT (D.drop (j + 1)) ++ more) 0 w5 ∧ Below wE.heap.size wE w5)
            have HJ1 := Lib.hid (HJB.out w5 (h5.blk hz4 (by have := HGR.out; omega)))
            clear C1 h5 r5 hz4 hb4
            refine ⟨_, rfl, HJ1.out, ?_⟩
            simp only [pu]
            refine heldJ_take (i := 24) (v := .bool false) rfl (by kernel_rfl) (by kernel_rfl) (by kernel_rfl) (fun _ _ _ h => h) rfl (fun wx hJ => ?_) HJ1.out ?_
            · go_simp; skip
            simp only [pu]
            refine heldJ_take (i := 25) (v := .bool false) rfl (by kernel_rfl) (by kernel_rfl) (by kernel_rfl) (fun _ _ _ h => h) rfl (fun wx hJ => ?_) HJ1.out ?_
            · go_simp; skip
            simp only [pu]
            refine heldJ_take (i := 26) (v := .bool false) rfl (by kernel_rfl) (by kernel_rfl) (by kernel_rfl) (fun _ _ _ h => h) rfl (fun wx hJ => ?_) HJ1.out ?_
            · go_simp; skip
            simp only [pu]
            refine heldJ_take (i := 27) (v := .bool false) rfl (by kernel_rfl) (by kernel_rfl) (by kernel_rfl) (fun _ _ _ h => h) rfl (fun wx hJ => ?_) HJ1.out ?_
            · go_simp; skip
            simp only [pu]
            refine heldJ_take (i := 28) (v := .pointer (some ⟨q, 0, none⟩)) rfl (by kernel_rfl) (by kernel_rfl) (by kernel_rfl) (fun _ _ _ h => h) rfl (fun wx hJ => ?_) HJ1.out ?_
            · go_simp; skip
            simp only [pu]
            refine heldJ_take (i := 29) (v := .int .i64 1) rfl (by kernel_rfl) (by kernel_rfl) (by kernel_rfl) (fun _ _ _ h => h) rfl (fun wx hJ => ?_) HJ1.out ?_
            · have cc := HJF.out wx hJ; go_simp; skip
            simp only [pu]
            refine heldJ_take (i := 30) (v := .bool false) rfl (by kernel_rfl) (by kernel_rfl) (by kernel_rfl) (fun _ _ _ h => h) rfl (fun wx hJ => ?_) HJ1.out ?_
            · go_simp; skip
            simp only [pu]
            refine heldJ_take (i := 31) (v := .bool false) rfl (by kernel_rfl) (by kernel_rfl) (by kernel_rfl) (fun _ _ _ h => h) rfl (fun wx hJ => ?_) HJ1.out ?_
            · go_simp; skip
            simp only [pu]
            refine heldJ_skip (i := 32) rfl (by kernel_rfl) (by kernel_rfl) (by kernel_rfl) (fun _ _ _ h => h) rfl HJ1.out ?_
            simp only [pu]
            refine heldJ_skip (i := 33) rfl (by kernel_rfl) (by kernel_rfl) (by kernel_rfl) (fun _ _ _ h => h) rfl HJ1.out ?_
            simp only [pu]
            refine heldJ_skip (i := 34) rfl (by kernel_rfl) (by kernel_rfl) (by kernel_rfl) (fun _ _ _ h => h) rfl HJ1.out ?_
            simp only [pu]
            refine heldJ_skip (i := 35) rfl (by kernel_rfl) (by kernel_rfl) (by kernel_rfl) (fun _ _ _ h => h) rfl HJ1.out ?_
            simp only [pu]
            refine heldJ_skip (i := 36) rfl (by kernel_rfl) (by kernel_rfl) (by kernel_rfl) (fun _ _ _ h => h) rfl HJ1.out ?_
            simp only [pu]
            refine heldJ_skip (i := 37) rfl (by kernel_rfl) (by kernel_rfl) (by kernel_rfl) (fun _ _ _ h => h) rfl HJ1.out ?_
            simp only [pu]
            refine heldJ_skip (i := 38) rfl (by kernel_rfl) (by kernel_rfl) (by kernel_rfl) (fun _ _ _ h => h) rfl HJ1.out ?_
            simp only [pu]
            refine heldJ_take (i := 39) (v := .bool false) rfl (by kernel_rfl) (by kernel_rfl) (by kernel_rfl) (fun _ _ _ h => h) rfl (fun wx hJ => ?_) HJ1.out ?_
            · go_simp; skip
            simp only [pu]
            refine heldJ_take (i := 40) (v := .bool false) rfl (by kernel_rfl) (by kernel_rfl) (by kernel_rfl) (fun _ _ _ h => h) rfl (fun wx hJ => ?_) HJ1.out ?_
            · go_simp; skip
            simp only [pu]
            refine wpAnyH_done (by kernel_rfl) ?_ _
            go_wp2_with fail
            exact ⟨⟨j + 1, by go_num, by have := HJL.out; omega, Lib.hid ⟨HR5.out.1, HR5.out.2, HGR.out.1⟩⟩, by simp only [intOf]; have := HJL.out; omega⟩
          · have hget : (D.map encPt)[j]? = some [.int .i64 2, .int .i64 (n1 : Int), .int .i64 (z : Int), .string S] := by
              rw [List.getElem?_map, List.getElem?_eq_getElem hjl, ← hy]; rfl
            obtain ⟨c0, c1, c2, c3⟩ := (HRS.out.below HK2.out.2.1).at4 hget
            obtain ⟨q, hq⟩ : ∃ q, q = wr.heap.size := ⟨_, rfl⟩
            have HZ := Lib.hid (Blk.new wr 30 #[.int .i64 0, .int .i64 0, .int .i64 0, .string ⟨#[]⟩])
            have hb2 := below_setRow' ((Below.refl _ wr).alloc (Nat.le_refl _) (.cells #[.int .i64 0, .int .i64 0, .int .i64 0, .string ⟨#[]⟩] 30)) (Nat.le_refl _) #[.int .i64 2, .int .i64 (n1 : Int), .int .i64 (z : Int), .string S]
            have hz2 := HZ.out.row_ #[.int .i64 2, .int .i64 (n1 : Int), .int .i64 (z : Int), .string S]
            obtain ⟨W2, hW2⟩ : ∃ W2, W2 = (wr.alloc (.cells #[.int .i64 0, .int .i64 0, .int .i64 0, .string ⟨#[]⟩] 30)).setRow wr.heap.size #[.int .i64 2, .int .i64 (n1 : Int), .int .i64 (z : Int), .string S] := ⟨_, rfl⟩
            rw [← hW2] at hb2 hz2
            rw [← hq] at hz2
            have HW2 := Lib.hid hW2
            have HQE := Lib.hid hq
            have hqr : q ≠ gr := by have := HK2.out.1.lt; omega
            have hgr := HK2.out.2.2
            have hr4 : RW gr (beT S.size z z ++ (S ++ (allT (D.drop (j + 1)) ++ more))) 0 W2.drew := by
              have e : beT S.size z z ++ (S ++ (allT (D.drop (j + 1)) ++ more)) = allT (D.drop j) ++ more := by rw [HDR]; exact (app_assoc _ _ _).symm
              rw [e]; exact (HK2.out.1.below hb2).below ((Below.refl _ _).drew)
            have hb4 : Below wE.heap.size wE W2.drew := (HK2.out.2.1.trans (hb2.mono HK2.out.2.1.size)).drew
            have hz4 := hz2.drew
            have hkw2 : IntKind.i64.wrap ((j : Int) + 1) = ((j + 1 : Nat) : Int) := by rw [IntWalk.i64_in _ (by have := HLEN.out; omega)]; rfl
            have HJL := Lib.hid hjl
            have HNZ := Lib.hid (⟨hn24, hz37, hS⟩ : n1 < 16777216 ∧ (3 ≤ z ∧ z ≤ 7) ∧ S.size ≤ 300)
            obtain ⟨w4, hw4⟩ : ∃ w4, w4 = W2.drew := ⟨_, rfl⟩
            have HW4 := Lib.hid hw4
            rw [← hw4] at hr4 hb4 hz4
            have C1 := opaque_any gr _ 0 (z : Int) w4 hr4
            rw [opqW_front S _ z (by omega) (by have := fit_pow hz37; omega)] at C1
            have HGR := Lib.hid (⟨hgr, hqr⟩ : wE.heap.size + 1 ≤ gr ∧ q ≠ gr)
            clear hget hb2 hz2 hW2 hq hy HDR hjl hn24 hz37 hS HK2 hr4 hw4 hj
            go_wp2_with (refine wpList_store_row rfl 30 _ _ rfl wr.heap.size #[.int .i64 2, .int .i64 (n1 : Int), .int .i64 (z : Int), .string S] rfl rfl 30 _ HZ.out part_size rfl (part_one _ _ _ _) ?_; rw [← HW2.out, ← HQE.out])
            obtain ⟨J, hJd⟩ : ∃ J : World → Prop, J = fun wx => wx.cell? ⟨q, 0, none⟩ = some (.int .i64 2) ∧ wx.cell? ⟨q, 1, none⟩ = some (.int .i64 (n1 : Int)) ∧ wx.cell? ⟨q, 2, none⟩ = some (.int .i64 (z : Int)) ∧ wx.cell? ⟨q, 3, none⟩ = some (.string S) := ⟨_, rfl⟩
            have HJF : Hid (∀ wx, J wx → wx.cell? ⟨q, 0, none⟩ = some (.int .i64 2) ∧ wx.cell? ⟨q, 1, none⟩ = some (.int .i64 (n1 : Int)) ∧ wx.cell? ⟨q, 2, none⟩ = some (.int .i64 (z : Int)) ∧ wx.cell? ⟨q, 3, none⟩ = some (.string S)) := Lib.hid fun wx h => by rw [hJd] at h; exact h
            have HJB : Hid (∀ wx, Blk wx q 30 #[.int .i64 2, .int .i64 (n1 : Int), .int .i64 (z : Int), .string S] → J wx) := Lib.hid fun wx h => by rw [hJd]; exact ⟨h.cell 0, h.cell 1, h.cell 2, h.cell 3⟩
            have HJ0 := Lib.hid (HJB.out w4 hz4)
            clear hJd c0 c1 c2 c3
            refine heldJ_start J (by kernel_rfl) ?_
            change wpAnyH _ _ _ _ _ _ _ _ W2.drew
            rw [← HW4.out]
            refine heldJ_take (i := 0) (v := .pointer (some ⟨q, 0, none⟩)) rfl (by kernel_rfl) (by kernel_rfl) (by kernel_rfl) (fun _ _ _ h => h) rfl (fun wx hJ => ?_) HJ0.out ?_
            · go_simp; skip
            simp only [pu]
            refine heldJ_take (i := 1) (v := .int .i64 2) rfl (by kernel_rfl) (by kernel_rfl) (by kernel_rfl) (fun _ _ _ h => h) rfl (fun wx hJ => ?_) HJ0.out ?_
            · have cc := HJF.out wx hJ; go_simp; skip
            simp only [pu]
            refine heldJ_take (i := 2) (v := .bool false) rfl (by kernel_rfl) (by kernel_rfl) (by kernel_rfl) (fun _ _ _ h => h) rfl (fun wx hJ => ?_) HJ0.out ?_
            · go_simp; skip
            simp only [pu]
            refine heldJ_take (i := 3) (v := .bool false) rfl (by kernel_rfl) (by kernel_rfl) (by kernel_rfl) (fun _ _ _ h => h) rfl (fun wx hJ => ?_) HJ0.out ?_
            · go_simp; skip
            simp only [pu]
            refine heldJ_skip (i := 4) rfl (by kernel_rfl) (by kernel_rfl) (by kernel_rfl) (fun _ _ _ h => h) rfl HJ0.out ?_
            simp only [pu]
            refine heldJ_skip (i := 5) rfl (by kernel_rfl) (by kernel_rfl) (by kernel_rfl) (fun _ _ _ h => h) rfl HJ0.out ?_
            simp only [pu]
            refine heldJ_skip (i := 6) rfl (by kernel_rfl) (by kernel_rfl) (by kernel_rfl) (fun _ _ _ h => h) rfl HJ0.out ?_
            simp only [pu]
            refine heldJ_skip (i := 7) rfl (by kernel_rfl) (by kernel_rfl) (by kernel_rfl) (fun _ _ _ h => h) rfl HJ0.out ?_
            simp only [pu]
            refine heldJ_skip (i := 8) rfl (by kernel_rfl) (by kernel_rfl) (by kernel_rfl) (fun _ _ _ h => h) rfl HJ0.out ?_
            simp only [pu]
            refine heldJ_skip (i := 9) rfl (by kernel_rfl) (by kernel_rfl) (by kernel_rfl) (fun _ _ _ h => h) rfl HJ0.out ?_
            simp only [pu]
            refine heldJ_skip (i := 10) rfl (by kernel_rfl) (by kernel_rfl) (by kernel_rfl) (fun _ _ _ h => h) rfl HJ0.out ?_
            simp only [pu]
            refine heldJ_take (i := 11) (v := .bool false) rfl (by kernel_rfl) (by kernel_rfl) (by kernel_rfl) (fun _ _ _ h => h) rfl (fun wx hJ => ?_) HJ0.out ?_
            · go_simp; skip
            simp only [pu]
            refine heldJ_take (i := 12) (v := .bool false) rfl (by kernel_rfl) (by kernel_rfl) (by kernel_rfl) (fun _ _ _ h => h) rfl (fun wx hJ => ?_) HJ0.out ?_
            · go_simp; skip
            simp only [pu]
            refine heldJ_take (i := 13) (v := .pointer (some ⟨q, 0, none⟩)) rfl (by kernel_rfl) (by kernel_rfl) (by kernel_rfl) (fun _ _ _ h => h) rfl (fun wx hJ => ?_) HJ0.out ?_
            · go_simp; skip
            simp only [pu]
            refine heldJ_take (i := 14) (v := .int .i64 2) rfl (by kernel_rfl) (by kernel_rfl) (by kernel_rfl) (fun _ _ _ h => h) rfl (fun wx hJ => ?_) HJ0.out ?_
            · have cc := HJF.out wx hJ; go_simp; skip
            simp only [pu]
            refine heldJ_take (i := 15) (v := .bool false) rfl (by kernel_rfl) (by kernel_rfl) (by kernel_rfl) (fun _ _ _ h => h) rfl (fun wx hJ => ?_) HJ0.out ?_
            · go_simp; skip
            simp only [pu]
            refine heldJ_take (i := 16) (v := .bool false) rfl (by kernel_rfl) (by kernel_rfl) (by kernel_rfl) (fun _ _ _ h => h) rfl (fun wx hJ => ?_) HJ0.out ?_
            · go_simp; skip
            simp only [pu]
            refine heldJ_skip (i := 17) rfl (by kernel_rfl) (by kernel_rfl) (by kernel_rfl) (fun _ _ _ h => h) rfl HJ0.out ?_
            simp only [pu]
            refine heldJ_skip (i := 18) rfl (by kernel_rfl) (by kernel_rfl) (by kernel_rfl) (fun _ _ _ h => h) rfl HJ0.out ?_
            simp only [pu]
            refine heldJ_skip (i := 19) rfl (by kernel_rfl) (by kernel_rfl) (by kernel_rfl) (fun _ _ _ h => h) rfl HJ0.out ?_
            simp only [pu]
            refine heldJ_skip (i := 20) rfl (by kernel_rfl) (by kernel_rfl) (by kernel_rfl) (fun _ _ _ h => h) rfl HJ0.out ?_
            simp only [pu]
            refine heldJ_skip (i := 21) rfl (by kernel_rfl) (by kernel_rfl) (by kernel_rfl) (fun _ _ _ h => h) rfl HJ0.out ?_
            simp only [pu]
            refine heldJ_skip (i := 22) rfl (by kernel_rfl) (by kernel_rfl) (by kernel_rfl) (fun _ _ _ h => h) rfl HJ0.out ?_
            simp only [pu]
            refine heldJ_skip (i := 23) rfl (by kernel_rfl) (by kernel_rfl) (by kernel_rfl) (fun _ _ _ h => h) rfl HJ0.out ?_
            simp only [pu]
            refine heldJ_skip (i := 24) rfl (by kernel_rfl) (by kernel_rfl) (by kernel_rfl) (fun _ _ _ h => h) rfl HJ0.out ?_
            simp only [pu]
            refine heldJ_take (i := 25) (v := .bool false) rfl (by kernel_rfl) (by kernel_rfl) (by kernel_rfl) (fun _ _ _ h => h) rfl (fun wx hJ => ?_) HJ0.out ?_
            · go_simp; skip
            simp only [pu]
            refine heldJ_take (i := 26) (v := .bool false) rfl (by kernel_rfl) (by kernel_rfl) (by kernel_rfl) (fun _ _ _ h => h) rfl (fun wx hJ => ?_) HJ0.out ?_
            · go_simp; skip
            simp only [pu]
            refine heldJ_take (i := 27) (v := .bool false) rfl (by kernel_rfl) (by kernel_rfl) (by kernel_rfl) (fun _ _ _ h => h) rfl (fun wx hJ => ?_) HJ0.out ?_
            · go_simp; skip
            simp only [pu]
            refine heldJ_take (i := 28) (v := .pointer (some ⟨q, 0, none⟩)) rfl (by kernel_rfl) (by kernel_rfl) (by kernel_rfl) (fun _ _ _ h => h) rfl (fun wx hJ => ?_) HJ0.out ?_
            · go_simp; skip
            simp only [pu]
            refine heldJ_take (i := 29) (v := .int .i64 2) rfl (by kernel_rfl) (by kernel_rfl) (by kernel_rfl) (fun _ _ _ h => h) rfl (fun wx hJ => ?_) HJ0.out ?_
            · have cc := HJF.out wx hJ; go_simp; skip
            simp only [pu]
            refine heldJ_take (i := 30) (v := .bool true) rfl (by kernel_rfl) (by kernel_rfl) (by kernel_rfl) (fun _ _ _ h => h) rfl (fun wx hJ => ?_) HJ0.out ?_
            · go_simp; skip
            simp only [pu]
            refine heldJ_take (i := 31) (v := .bool true) rfl (by kernel_rfl) (by kernel_rfl) (by kernel_rfl) (fun _ _ _ h => h) rfl (fun wx hJ => ?_) HJ0.out ?_
            · go_simp; skip
            simp only [pu]
            refine heldJ_take (i := 32) (v := .pointer (some ⟨gr, 0, none⟩)) rfl (by kernel_rfl) (by kernel_rfl) (by kernel_rfl) (fun _ _ _ h => h) rfl (fun wx hJ => ?_) HJ0.out ?_
            · go_simp; skip
            simp only [pu]
            refine heldJ_take (i := 33) (v := .pointer (some ⟨q, 2, none⟩)) rfl (by kernel_rfl) (by kernel_rfl) (by kernel_rfl) (fun _ _ _ h => h) rfl (fun wx hJ => ?_) HJ0.out ?_
            · go_simp; skip
            simp only [pu]
            refine heldJ_take (i := 34) (v := .int .i64 (z : Int)) rfl (by kernel_rfl) (by kernel_rfl) (by kernel_rfl) (fun _ _ _ h => h) rfl (fun wx hJ => ?_) HJ0.out ?_
            · have cc := HJF.out wx hJ; go_simp; skip
            simp only [pu]
            refine heldJ_take (i := 36) (v := .pointer (some ⟨q, 3, none⟩)) rfl (by kernel_rfl) (by kernel_rfl) (by kernel_rfl) (fun _ _ _ h => h) rfl (fun wx hJ => ?_) HJ0.out ?_
            · go_simp; skip
            simp only [pu]
            refine heldJ_take (i := 37) (v := .string S) rfl (by kernel_rfl) (by kernel_rfl) (by kernel_rfl) (fun _ _ _ h => h) rfl (fun wx hJ => ?_) HJ0.out ?_
            · have cc := HJF.out wx hJ; go_simp; skip
            simp only [pu]
            refine heldJ_call (i := 35) (f := 23) (by kernel_rfl) rfl rfl (by go_simp; skip) ((C1).mono ?_)
            rintro e w5 ⟨rfl, h5, r5⟩
            have HR5 := Lib.hid (⟨r5, hb4.trans (h5.below (by have := HGR.out; omega) hb4.size)⟩ : RW gr (allT (D.drop (j + 1)) ++ more) 0 w5 ∧ Below wE.heap.size wE w5)
            have HJ1 := Lib.hid (HJB.out w5 (h5.blk hz4 (by have := HGR.out; omega)))
            clear C1 h5 r5 hz4 hb4
            refine ⟨_, rfl, HJ1.out, ?_⟩
            simp only [pu]
            refine heldJ_take (i := 38) (v := .bool false) rfl (by kernel_rfl) (by kernel_rfl) (by kernel_rfl) (fun _ _ _ h => h) rfl (fun wx hJ => ?_) HJ1.out ?_
            · go_simp; skip
            simp only [pu]
            refine heldJ_take (i := 39) (v := .bool false) rfl (by kernel_rfl) (by kernel_rfl) (by kernel_rfl) (fun _ _ _ h => h) rfl (fun wx hJ => ?_) HJ1.out ?_
            · go_simp; skip
            simp only [pu]
            refine heldJ_take (i := 40) (v := .bool false) rfl (by kernel_rfl) (by kernel_rfl) (by kernel_rfl) (fun _ _ _ h => h) rfl (fun wx hJ => ?_) HJ1.out ?_
            · go_simp; skip
            simp only [pu]
            refine wpAnyH_done (by kernel_rfl) ?_ _
            go_wp2_with fail
            exact ⟨⟨j + 1, by go_num, by have := HJL.out; omega, Lib.hid ⟨HR5.out.1, HR5.out.2, HGR.out.1⟩⟩, by simp only [intOf]; have := HJL.out; omega⟩
        · obtain rfl : j = D.length := by omega
          have hjli : ¬ (D.length : Int) < (D.length : Int) := by omega
          have hr9 := HK2.out.1
          rw [List.drop_length, show allT [] = (⟨#[]⟩ : ByteArray) from rfl, none_appM] at hr9
          have C3 := rest_any gr more 0 wr hr9
          have C4 := end_any gr more 0 wr hr9
          have HB10 := Lib.hid (HB9.out.trans (HK2.out.2.1.mono HB9.out.size))
          rw [show restW more 0 = more.size from rfl] at C3
          by_cases hm0 : 0 < more.size
          · rw [show endW more 0 = 2 from by unfold endW; rw [if_pos ⟨rfl, hm0⟩]] at C4
            have hne : (more.toList == []) = false := by
              rw [beq_eq_false_iff_ne]
              intro e
              rw [ByteArray.toList_eq] at e
              have := congrArg List.length e
              rw [Array.length_toList] at this
              have : more.size = 0 := this
              omega
            clear hr9 HK2 hj hjl hm0
            go_wp2_with fail
            refine C3.mono ?_
            rintro e w5 ⟨rfl, rfl⟩
            go_wp2_with fail
            refine C4.mono ?_
            rintro e w6 ⟨rfl, rfl⟩
            go_wp2_with fail
            go_ret
            exact ⟨rfl, HB10.out⟩
          · rw [show endW more 0 = 0 from by unfold endW; rw [if_neg (fun h => hm0 h.2)]] at C4
            obtain rfl := text_none (show more.size = 0 by omega)
            clear hr9 HK2 hj hjl hm0
            go_wp2_with fail
            refine C3.mono ?_
            rintro e w5 ⟨rfl, rfl⟩
            go_wp2_with fail
            refine C4.mono ?_
            rintro e w6 ⟨rfl, rfl⟩
            go_wp2_with fail
            go_ret
            exact ⟨rfl, HB10.out⟩
end Go.Proofs.Ytfheedpoaomfeaa
