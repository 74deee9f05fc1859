/- DeflateRuns: any lengths are told in the symbols that the chapter says: the developers' list and the document's are the same. -/
import Derived.Test.YtjdfdiejlmeeoaaNM
import Derived.Test.YtjdfdiejlmeeoaaEk
import Derived.Test.YtjdfdiejlmeeoaaNL
import Derived.Test.YtjdfdiejlmeeoaaNJ
namespace Go.Proofs.Ytjdfdiejlmeeoaa
open Go.RowKit
theorem runsG_mem {f : Nat → Int} {n : Nat} {x : Int × Nat × Nat} : ∀ {k a : Nat}, x ∈ runsG f n k a → ∃ j, j < n ∧ x = (runV f n j).1
  | 0, _, h => by cases h
  | k + 1, a, h => by
    by_cases ha : a < n
    · rw [runsG_one ha] at h
      rcases List.mem_cons.1 h with h | h
      · exact ⟨a, ha, h⟩
      · exact runsG_mem h
    · rw [runsG_end ha] at h; cases h
theorem runV_is (f : Nat → Int) (n a : Nat) : ((runV f n a).1.1 = f a ∨ (runV f n a).1.1 = 16 ∨ (runV f n a).1.1 = 17 ∨ (runV f n a).1.1 = 18) ∧ (runV f n a).1.2.1 ≤ 138 := by
  have h1 := ali_le f n a 138
  have h2 := ali_le f n a 10
  have h3 := ali_le f n a 6
  unfold runV
  split
  · split
    · exact ⟨by simp, by show ali f n a 138 - 11 ≤ 138; omega⟩
    · split
      · exact ⟨by simp, by show ali f n a 10 - 3 ≤ 138; omega⟩
      · exact ⟨by simp, Nat.zero_le _⟩
  · split
    · exact ⟨by simp, by show ali f n a 6 - 3 ≤ 138; omega⟩
    · exact ⟨by simp, Nat.zero_le _⟩
theorem getD_map_ {α : Type} (g : α → Int) (l : List α) (i : Nat) (h : i < l.length) : (l.map g).getD i 0 = g l[i] := by
  rw [List.getD_eq_getElem?_getD, List.getElem?_map, List.getElem?_eq_getElem h]; rfl
/-- The symbols, read. -/
theorem runA_is {f : Nat → Int} {n m cap : Nat} {p q : Option Addr} {c : Nat} {w w0 : World} (h : IS q n c f w0) (hR : RS 1 p m cap (runA (runsV f n)) w) : IS p m cap (fun i => ((runsV f n).map fun x => x.1).getD i 0) w := by
  have hm : (runsV f n).length = m := by have := hR.len; unfold runA at this; rwa [List.length_map] at this
  have hb : ∀ i, i < m → -9223372036854775808 ≤ ((runsV f n).map fun x => x.1).getD i 0 ∧ ((runsV f n).map fun x => x.1).getD i 0 < 9223372036854775808 := fun i hi => by
    rw [getD_map_ _ _ i (by omega)]
    obtain ⟨j, hj, e⟩ := runsG_mem (List.getElem_mem (show i < (runsV f n).length by omega))
    rw [e]
    have := h.lo j hj; have := h.hi j hj
    have := (runV_is f n j).1
    omega
  refine RS.is1 ?_ (fun i hi => (hb i hi).1) (fun i hi => (hb i hi).2)
  have e : ((runsV f n).map fun x => x.1).map encI = runA (runsV f n) := by unfold runA; rw [List.map_map]; rfl
  rw [e]; exact hR
/-- The numbers behind them, read. -/
theorem runB_is {f : Nat → Int} {n m cap : Nat} {p : Option Addr} {w : World} (hR : RS 1 p m cap (runB (runsV f n)) w) : IS p m cap (fun i => ((runsV f n).map fun x => (x.2.1 : Int)).getD i 0) w := by
  have hm : (runsV f n).length = m := by have := hR.len; unfold runB at this; rwa [List.length_map] at this
  have hb : ∀ i, i < m → 0 ≤ ((runsV f n).map fun x => (x.2.1 : Int)).getD i 0 ∧ ((runsV f n).map fun x => (x.2.1 : Int)).getD i 0 ≤ 138 := fun i hi => by
    rw [getD_map_ _ _ i (by omega)]
    obtain ⟨j, hj, e⟩ := runsG_mem (List.getElem_mem (show i < (runsV f n).length by omega))
    rw [e]
    have := (runV_is f n j).2
    omega
  refine RS.is1 ?_ (fun i hi => by have := hb i hi; omega) (fun i hi => by have := hb i hi; omega)
  have e : ((runsV f n).map fun x => (x.2.1 : Int)).map encI = runB (runsV f n) := by unfold runB; rw [List.map_map]; rfl
  rw [e]; exact hR
set_option maxRecDepth 100000 in
set_option maxHeartbeats 8000000 in
theorem deflateRuns_any (p : Option Addr) (n cap : Nat) (f : Nat → Int) (w : World) (h : IS p n cap f w) (hc : n ≤ cap) (hn : n ≤ 1048576) (hcap : cap ≤ 9223372036854775807) :
    Calls Try.prog 4 #[.slice p n cap] w fun e w' => e = .returned (.bool true) ∧ Below w.heap.size w w' := by
  obtain ⟨LA, LB, gA, gB, M, hM, HA, HB, HD, HR⟩ : ∃ (LA LB : List (List Value)) (gA gB : Nat → Int) (M : Nat), M ≤ 1048576 ∧ Hid (LA.length = M ∧ ∀ p cap w, RS 1 p M cap LA w → IS p M cap gA w) ∧ Hid (LB.length = M ∧ ∀ p cap w, RS 1 p M cap LB w → IS p M cap gB w) ∧
      Hid (∀ wx, IS p n cap f wx → Calls Try.prog 11 #[.slice p n cap] wx fun e w' => ∃ v1 v2, e = .returned (.tuple #[v1, v2]) ∧ LS 3 1 wx.heap.size wx LA v1 w' ∧ LS 3 1 wx.heap.size wx LB v2 w') ∧
      Hid (∀ wx, IS p n cap f wx → Calls Try.prog 12 #[.slice p n cap] wx fun e w' => ∃ v1 v2, e = .returned (.tuple #[v1, v2]) ∧ LS 3 1 wx.heap.size wx LA v1 w' ∧ LS 3 1 wx.heap.size wx LB v2 w') := by
    refine ⟨runA (runsV f n), runB (runsV f n), _, _, (runsV f n).length, Nat.le_trans (runsG_len f n n 0) hn, Lib.hid ⟨?_, fun p cap w hR => runA_is h hR⟩, Lib.hid ⟨?_, fun p cap w hR => runB_is hR⟩, Lib.hid fun wx hx => dRuns_any p n cap f wx hx hc (by omega) hcap, Lib.hid fun wx hx => rRuns_any p n cap f wx hx (by omega)⟩
    · unfold runA; rw [List.length_map]
    · unfold runB; rw [List.length_map]
  have HI := Lib.hid h
  clear h
  go_enter Try.func4, Try.ntmps4
  go_wp2_with fail
  refine (examples11_any w).mono ?_
  rintro e w1 ⟨rfl, b1⟩
  have HB1 := Lib.hid b1
  clear b1
  go_wp2_with fail
  refine (HD.out w1 (HI.out.below HB1.out)).mono ?_
  rintro e w2 ⟨v1, v2, rfl, h1, h2⟩
  obtain ⟨p1, c1, rfl, r1, -⟩ := h1.rs
  obtain ⟨p2, c2, rfl, r2, -⟩ := h2.rs
  rw [HA.out.1] at r1
  rw [HB.out.1] at r2
  simp only [HA.out.1, HB.out.1]
  have HB2 := Lib.hid (HB1.out.trans (h1.b.mono HB1.out.size))
  have HR2 : Hid (RS 1 p1 M c1 LA w2 ∧ RS 1 p2 M c2 LB w2) := Lib.hid ⟨r1, r2⟩
  clear h1 h2 r1 r2 HD
  go_wp2_with fail
  refine (HR.out w2 (HI.out.below HB2.out)).mono ?_
  rintro e w3 ⟨v3, v4, rfl, h3, h4⟩
  obtain ⟨p3, c3, rfl, r3, -⟩ := h3.rs
  obtain ⟨p4, c4, rfl, r4, -⟩ := h4.rs
  rw [HA.out.1] at r3
  rw [HB.out.1] at r4
  simp only [HA.out.1, HB.out.1]
  have HB3 := Lib.hid (HB2.out.trans (h3.b.mono HB2.out.size))
  have C1 := numbers11_same p1 p3 M c1 c3 gA gA w3 (HA.out.2 _ _ _ (HR2.out.1.below h3.b)) (HA.out.2 _ _ _ r3) (fun _ _ => rfl) (by omega)
  have HR3 : Hid (IS p2 M c2 gB w3 ∧ IS p4 M c4 gB w3) := Lib.hid ⟨HB.out.2 _ _ _ (HR2.out.2.below h3.b), HB.out.2 _ _ _ r4⟩
  clear h3 h4 r3 r4 HR2 HR
  go_wp2_with fail
  refine C1.mono ?_
  rintro e w4 ⟨rfl, n4, rfl⟩
  have C2 := numbers11_same p2 p4 M c2 c4 gB gB (w3.drewN n4) (HR3.out.1.below (belowN (Below.refl _ _) _)) (HR3.out.2.below (belowN (Below.refl _ _) _)) (fun _ _ => rfl) (by omega)
  clear C1
  go_wp2_with fail
  refine C2.mono ?_
  rintro e w5 ⟨rfl, n5, rfl⟩
  go_wp2_with fail
  go_ret
  exact ⟨rfl, belowN HB3.out _⟩
end Go.Proofs.Ytjdfdiejlmeeoaa
