/- The document's writer of chapter 13. -/
import Derived.Test.YtfheedpoaomfeaaIh
namespace Go.Proofs.Ytfheedpoaomfeaa
open Go.RowKit
theorem div_be (n s : Nat) : (n : Int) / 2 ^ (8 * s) = ((n / 256 ^ s : Nat) : Int) := by
  rw [show (256 : Nat) ^ s = 2 ^ (8 * s) by rw [show (256 : Nat) = 2 ^ 8 from rfl, ← Nat.pow_mul]]
  simp
/-- The document's writer in block g (behind an error its text is any one). -/
def YW (g : Nat) (B : ByteArray) (E : Nat) (w : World) : Prop := ∃ C, Blk w g 28 #[.string C, .int .i64 (E : Int)] ∧ (E = 0 → C = B)
theorem YW.below {g : Nat} {B : ByteArray} {E : Nat} {w w1 : World} (h : YW g B E w) (hb : Below w.heap.size w w1) : YW g B E w1 := by
  obtain ⟨C, h1, h2⟩ := h
  exact ⟨C, h1.below hb h1.lt, h2⟩
theorem YW.gg {g k : Nat} {v v' : Value} {B : ByteArray} {E : Nat} {w w1 : World} (h : YW g B E w) (hg : Gg k v w v' w1) (h1 : g ≠ k) (h2 : v.ownBlock ≠ some g) : YW g B E w1 := by
  obtain ⟨C, h3, h4⟩ := h
  exact ⟨C, (hg.block g h3.lt h1 h2).trans h3, h4⟩
theorem WW.ho {g k : Nat} {v : Value} {B : ByteArray} {E : Nat} {w w1 : World} (h : WW g v B E w) (hg : Ho k w w1) (h1 : g ≠ k) (h2 : v.ownBlock ≠ some k) : WW g v B E w1 :=
  h.keep (hg.block g h.blk.lt h1) fun i e => hg.block i (h.ownB i e).2 fun ek => h2 (by rw [e, ek])
set_option maxRecDepth 100000 in
theorem rrawP_any (g : Nat) (B : ByteArray) (E : Nat) (s : ByteArray) (w : World) (h : YW g B E w) (hs : B.size + s.size ≤ 140737488355328) :
    Calls Try.prog 14 #[.pointer (some ⟨g, 0, none⟩), .string s] w fun e w' => e = .returned (.tuple #[]) ∧ YW g (rawP B E s).1 (rawP B E s).2 w' ∧ Ho g w w' := by
  obtain ⟨C, hb, hC⟩ := h
  have c0 : w.cell? ⟨g, 0, none⟩ = some (.string C) := hb.cell 0
  have c1 : w.cell? ⟨g, 1, none⟩ = some (.int .i64 (E : Int)) := hb.cell 1
  have f0 := hb.frozen 0
  unfold rawP
  by_cases hE : E = 0
  · subst hE
    obtain rfl := hC rfl
    rw [if_neg (by decide)]
    have HF : Hid (YW g (C ++ s) 0 (w.setCell ⟨g, 0, none⟩ (.string (C ++ s))) ∧ Ho g w (w.setCell ⟨g, 0, none⟩ (.string (C ++ s)))) := Lib.hid ⟨⟨_, hb.set_ 0 _, fun _ => rfl⟩, (Ho.refl g w).set 0 _⟩
    have hz : ¬ ((C.size + s.size : Nat) : Int) > 9223372036854775807 := by omega
    clear hb hC hs
    go_enter Try.func14, Try.ntmps14
    go_wp2_with fail
    go_end0
    exact ⟨rfl, HF.out⟩
  · rw [if_pos hE]
    have HF : Hid (YW g B E w ∧ Ho g w w) := Lib.hid ⟨⟨C, hb, hC⟩, Ho.refl g w⟩
    have hEi : ¬ (E : Int) = 0 := by omega
    have hE2 : ((E : Int) == 0) = false := by simp [hE]
    clear hb hC hE hs
    go_enter Try.func14, Try.ntmps14
    go_wp2_with fail
    go_end0
    exact ⟨rfl, HF.out⟩
set_option maxRecDepth 100000 in
theorem rnumP_no (g : Nat) (B : ByteArray) (E : Nat) (n s : Int) (w : World) (h : YW g B E w) (hn : E ≠ 0 ∨ ¬ (1 ≤ s ∧ s ≤ 7) ∨ n < 0 ∨ (256 ^ s.toNat : Int) ≤ n) :
    Calls Try.prog 12 #[.pointer (some ⟨g, 0, none⟩), .int .i64 n, .int .i64 s] w fun e w' => e = .returned (.tuple #[]) ∧ YW g (numP B E n s).1 (numP B E n s).2 w' ∧ Ho g w w' := by
  obtain ⟨C, hb, hC⟩ := h
  have c1 : w.cell? ⟨g, 1, none⟩ = some (.int .i64 (E : Int)) := hb.cell 1
  have f1 := hb.frozen 1
  by_cases hE : E = 0
  · subst hE
    have hn : ¬ (1 ≤ s ∧ s ≤ 7) ∨ n < 0 ∨ (256 ^ s.toNat : Int) ≤ n := hn.resolve_left (by decide)
    have hr : numP B 0 n s = (⟨#[]⟩, 1) := by unfold numP; rw [if_neg (by decide), if_pos hn]
    rw [hr]
    have HF : Hid (YW g ⟨#[]⟩ 1 (w.setCell ⟨g, 1, none⟩ (.int .i64 1)) ∧ Ho g w (w.setCell ⟨g, 1, none⟩ (.int .i64 1))) := Lib.hid ⟨⟨C, hb.set_ 1 _, (fun e => by cases e)⟩, (Ho.refl g w).set 1 _⟩
    clear hb hC hr
    by_cases h1 : s < 1
    · clear hn
      go_enter Try.func12, Try.ntmps12
      go_wp2_with fail
      (try simp only [Exit.inBlock, Exit.then]); refine bodyPost_ret (results_none rfl _ _ _) rfl ?_
      exact ⟨rfl, HF.out⟩
    · by_cases h7 : s > 7
      · clear hn
        go_enter Try.func12, Try.ntmps12
        go_wp2_with fail
        (try simp only [Exit.inBlock, Exit.then]); refine bodyPost_ret (results_none rfl _ _ _) rfl ?_
        exact ⟨rfl, HF.out⟩
      · by_cases h0 : n < 0
        · clear hn
          go_enter Try.func12, Try.ntmps12
          go_wp2_with fail
          (try simp only [Exit.inBlock, Exit.then]); refine bodyPost_ret (results_none rfl _ _ _) rfl ?_
          exact ⟨rfl, HF.out⟩
        · obtain ⟨a, rfl⟩ : ∃ a : Nat, n = (a : Int) := ⟨n.toNat, by omega⟩
          obtain ⟨b, rfl⟩ : ∃ b : Nat, s = (b : Int) := ⟨s.toNat, by omega⟩
          have hg : 256 ^ b ≤ a := by
            rcases hn with h | h | h
            · omega
            · omega
            · rw [Int.toNat_natCast] at h; exact_mod_cast h
          have hw8 : IntKind.i64.wrap (8 * (b : Int)) = ((8 * b : Nat) : Int) := by rw [IntWalk.i64_in _ (by omega)]; omega
          obtain ⟨q, hq⟩ : ∃ q, q = a / 256 ^ b := ⟨_, rfl⟩
          have hsh := shift_be a b (by omega)
          rw [← hq] at hsh
          have hq0 : (q : Int) > 0 := by
            have h1 : 0 < a / 256 ^ b := Nat.div_pos hg (Nat.pow_pos (by decide))
            omega
          have hqi : (a : Int) / 2 ^ (8 * b) > 0 := by rw [div_be, ← hq]; exact hq0
          clear hn hq hg
          go_enter Try.func12, Try.ntmps12
          go_wp2_with fail
          (try simp only [Exit.inBlock, Exit.then]); refine bodyPost_ret (results_none rfl _ _ _) rfl ?_
          exact ⟨rfl, HF.out⟩
  · have hr : numP B E n s = (B, E) := by unfold numP; rw [if_pos hE]
    rw [hr]
    have HF : Hid (YW g B E w ∧ Ho g w w) := Lib.hid ⟨⟨C, hb, hC⟩, Ho.refl g w⟩
    have hEi : ¬ (E : Int) = 0 := by omega
    have hE2 : ((E : Int) == 0) = false := by simp [hE]
    clear hb hC hr hE hn
    go_enter Try.func12, Try.ntmps12
    go_wp2_with fail
    (try simp only [Exit.inBlock, Exit.then]); refine bodyPost_ret (results_none rfl _ _ _) rfl ?_
    exact ⟨rfl, HF.out⟩
set_option maxRecDepth 100000 in
set_option maxHeartbeats 4000000 in
theorem rnumP_ok (g : Nat) (B : ByteArray) (n s : Nat) (w : World) (h : YW g B 0 w) (hs : 1 ≤ s ∧ s ≤ 7) (hn : n < 256 ^ s) (hB : B.size ≤ 140737488355000) :
    Calls Try.prog 12 #[.pointer (some ⟨g, 0, none⟩), .int .i64 (n : Int), .int .i64 (s : Int)] w fun e w' => e = .returned (.tuple #[]) ∧ YW g (numP B 0 (n : Int) (s : Int)).1 (numP B 0 (n : Int) (s : Int)).2 w' ∧ Ho g w w' := by
  have hr : numP B 0 (n : Int) (s : Int) = (B ++ beT n s s, 0) := by
    unfold numP
    rw [if_neg (by decide), if_neg (by
      rintro (h | h | h)
      · omega
      · omega
      · rw [Int.toNat_natCast] at h
        have h : 256 ^ s ≤ n := by exact_mod_cast h
        omega), Int.toNat_natCast, Int.toNat_natCast]
  rw [hr]
  obtain ⟨C, hb, hC⟩ := h
  obtain rfl := hC rfl
  have c1 : w.cell? ⟨g, 1, none⟩ = some (.int .i64 0) := hb.cell 1
  have HW0 : Hid (Blk w g 28 #[.string (C ++ beT n s 0), .int .i64 0] ∧ Ho g w w) := Lib.hid ⟨by rw [beT_none, app_none]; exact hb, Ho.refl g w⟩
  have HSS := Lib.hid hs
  have HBZ := Lib.hid hB
  have h1 : ¬ (s : Int) < 1 := by omega
  have h7 : ¬ (s : Int) > 7 := by omega
  have h0 : ¬ (n : Int) < 0 := by omega
  have hw8 : IntKind.i64.wrap (8 * (s : Int)) = ((8 * s : Nat) : Int) := by rw [IntWalk.i64_in _ (by omega)]; omega
  have hsh := shift_be n s hs.2
  rw [Nat.div_eq_of_lt hn] at hsh
  have hqi : ¬ (n : Int) / 2 ^ (8 * s) > 0 := by rw [div_be, Nat.div_eq_of_lt hn]; decide
  have hs1 : IntKind.i64.wrap ((s : Int) - 1) = (s : Int) - 1 := IntWalk.i64_in _ (by omega)
  clear hb hC hr hs hn hB
  go_enter Try.func12, Try.ntmps12
  go_wp2_with fail
  go_loopw [6] (fun u wr => ∃ (k : Nat) (x : Int), u = .int .i64 x ∧ x = (s : Int) - 1 - (k : Int) ∧ k ≤ s ∧ Hid (Blk wr g 28 #[.string (C ++ beT n s k), .int .i64 0] ∧ Ho g w wr)) (fun u _ => (intOf u + 1).toNat)
  case atStart => exact ⟨0, _, rfl, by omega, Nat.zero_le _, HW0⟩
  case round =>
    obtain ⟨k, x, rfl, hx, hk, HR⟩ := hrel
    clear HW0 hw8 hsh hqi c1
    by_cases hlt : k < s
    · obtain ⟨j, hj⟩ : ∃ j, j = s - 1 - k := ⟨_, rfl⟩
      obtain rfl : x = (j : Int) := by omega
      have hj7 : j ≤ 7 := by have := HSS.out; omega
      have hge : (j : Int) ≥ 0 := by omega
      have hw8 : IntKind.i64.wrap (8 * (j : Int)) = ((8 * j : Nat) : Int) := by rw [IntWalk.i64_in _ (by omega)]; omega
      have hj1 : IntKind.i64.wrap ((j : Int) - 1) = (j : Int) - 1 := IntWalk.i64_in _ (by omega)
      have hsh := shift_be n j hj7
      have HMO : Hid (beT n s (k + 1) = beT n s k ++ oneB (n / 256 ^ j % 256)) := Lib.hid (by rw [hj]; exact beT_more n s k)
      obtain ⟨q, hq⟩ : ∃ q, q = n / 256 ^ j := ⟨_, rfl⟩
      rw [← hq] at hsh HMO
      obtain ⟨y, hy⟩ : ∃ y, y = q % 256 := ⟨_, rfl⟩
      rw [← hy] at HMO
      have hy8 : y < 256 := by omega
      have HCV : Hid (IntKind.u8.wrap (q : Int) = (y : Int)) := Lib.hid (by rw [IntKind.wrap_u8']; omega)
      obtain ⟨wa, hwa⟩ : ∃ wa, wa = wr.drew := ⟨_, rfl⟩
      have ka : Blk wa g 28 #[.string (C ++ beT n s k), .int .i64 0] := by rw [hwa]; exact HR.out.1.drew
      have kg : Ho g w wa := by rw [hwa]; exact HR.out.2.drew
      obtain ⟨w1, hw1⟩ : ∃ w1, w1 = wa.alloc (.cells #[.int .u8 (y : Int)] 5) := ⟨_, rfl⟩
      have hb1 : Below wa.heap.size wa w1 := by rw [hw1]; exact (Below.refl _ _).alloc (Nat.le_refl _) _
      have k1 := ka.below hb1 ka.lt
      have hbn : Blk w1 wa.heap.size 5 #[.int .u8 (y : Int)] := by rw [hw1]; exact Blk.new wa 5 #[.int .u8 (y : Int)]
      have hts : TS (some ⟨wa.heap.size, 0, none⟩) 1 1 (oneB y) w1 := ⟨oneB_size y, (fun e => by cases e), fun a ha i hi => by
        cases ha
        obtain rfl : i = 0 := by omega
        rw [addr_add]
        have e : byteS (oneB y) 0 = y := byteS_textN 1 _ 0 (by decide) hy8
        rw [e]
        exact hbn.cell 0, Nat.le_refl _, by decide, fun a ha => by cases ha; exact hbn.lt⟩
      have HCS := Lib.hid hts.string
      have hbz : (C ++ beT n s k).size = C.size + k := by rw [size_app]; unfold beT; rw [textN_size]
      have HZZ : Hid ((C ++ beT n s k).size + (oneB y).size ≤ 9223372036854775807) := Lib.hid (by rw [hbz, oneB_size]; have := HBZ.out; have := HSS.out; omega)
      have HAS : Hid (C ++ beT n s k ++ oneB y = C ++ beT n s (k + 1)) := Lib.hid (by rw [HMO.out, app_assoc])
      obtain ⟨X, hX⟩ : ∃ X, X = C ++ beT n s k := ⟨_, rfl⟩
      obtain ⟨O, hO⟩ : ∃ O, O = oneB y := ⟨_, rfl⟩
      obtain ⟨Z, hZ⟩ : ∃ Z, Z = C ++ beT n s (k + 1) := ⟨_, rfl⟩
      have HZD := Lib.hid hZ
      rw [← hX, ← hO, ← hZ] at HAS
      rw [← hX, ← hO] at HZZ
      rw [← hX] at ka k1
      rw [← hO] at HCS
      obtain ⟨w3, hw3⟩ : ∃ w3, w3 = w1.setCell ⟨g, 0, none⟩ (.string Z) := ⟨_, rfl⟩
      have HN : Hid (Blk w3 g 28 #[.string (C ++ beT n s (k + 1)), .int .i64 0] ∧ Ho g w w3) := Lib.hid (by rw [hw3, ← hZ]; exact ⟨k1.set_ 0 _, (kg.trans (Ho.of hb1)).set 0 _⟩)
      have HC0 : Hid (wa.cell? ⟨g, 0, none⟩ = some (.string X)) := Lib.hid (ka.cell 0)
      have HC1 : Hid (w1.cell? ⟨g, 0, none⟩ = some (.string X) ∧ w1.frozen? ⟨g, 0, none⟩ = false) := Lib.hid ⟨k1.cell 0, k1.frozen 0⟩
      have HW1 := Lib.hid hw1
      have HW3 := Lib.hid hw3
      have HWA := Lib.hid hwa
      have HK := Lib.hid (⟨hlt, hj⟩ : k < s ∧ j = s - 1 - k)
      clear hx hj hq hy hy8 hwa ka kg hw1 hb1 k1 hbn hts hbz hX hO hZ hw3 hlt hk hj7 HR HMO
      go_wp2_with fail
      refine wp_region_anyL (Three 10 11 15 (Ste wa w1 w1 w3)) (by kernel_rfl) ?_ ?_
      · rw [← HWA.out]; exact Ste.start _ _ _ _
      refine anyL_take (i := 0) (v := .pointer (some ⟨g, 0, none⟩)) rfl (by kernel_rfl) (by kernel_rfl) (by kernel_rfl) (y3_other (by decide) (by decide) (by decide) rfl (fun f1 f2 f3 wx hT => ?_)) ?_
      · refine lands_value (w := wx) ?_ hT; go_simp; skip
      simp only [pu]
      refine anyL_take (i := 1) (v := .pointer (some ⟨g, 0, none⟩)) rfl (by kernel_rfl) (by kernel_rfl) (by kernel_rfl) (y3_other (by decide) (by decide) (by decide) rfl (fun f1 f2 f3 wx hT => ?_)) ?_
      · refine lands_value (w := wx) ?_ hT; go_simp; skip
      simp only [pu]
      refine anyL_take (i := 2) (v := .pointer (some ⟨g, 0, none⟩)) rfl (by kernel_rfl) (by kernel_rfl) (by kernel_rfl) (y3_other (by decide) (by decide) (by decide) rfl (fun f1 f2 f3 wx hT => ?_)) ?_
      · refine lands_value (w := wx) ?_ hT; go_simp; skip
      simp only [pu]
      refine anyL_take (i := 3) (v := .pointer (some ⟨g, 0, none⟩)) rfl (by kernel_rfl) (by kernel_rfl) (by kernel_rfl) (y3_other (by decide) (by decide) (by decide) rfl (fun f1 f2 f3 wx hT => ?_)) ?_
      · refine lands_value (w := wx) ?_ hT; go_simp; skip
      simp only [pu]
      refine anyL_take (i := 4) (v := .string X) rfl (by kernel_rfl) (by kernel_rfl) (by kernel_rfl) (y3_pre (n := 15) (by decide) (by decide) (by decide) (by kernel_rfl) rfl (fun f1 f2 wx hT => ?_)) ?_
      · refine lands_value (w := wx) ?_ hT; rcases hT.pre with rfl | rfl | rfl
        · have cc := HC0.out; go_simp; skip
        · have cc := HC1.out.1; go_simp; skip
        · have cc := HC1.out.1; go_simp; skip
      simp only [pu]
      refine anyL_take (i := 5) (v := .int .i64 (n : Int)) rfl (by kernel_rfl) (by kernel_rfl) (by kernel_rfl) (y3_other (by decide) (by decide) (by decide) rfl (fun f1 f2 f3 wx hT => ?_)) ?_
      · refine lands_value (w := wx) ?_ hT; go_simp; skip
      simp only [pu]
      refine anyL_take (i := 6) (v := .int .i64 (j : Int)) rfl (by kernel_rfl) (by kernel_rfl) (by kernel_rfl) (y3_other (by decide) (by decide) (by decide) rfl (fun f1 f2 f3 wx hT => ?_)) ?_
      · refine lands_value (w := wx) ?_ hT; go_simp; skip
      simp only [pu]
      refine anyL_take (i := 7) (v := .int .i64 ((8 * j : Nat) : Int)) rfl (by kernel_rfl) (by kernel_rfl) (by kernel_rfl) (y3_other (by decide) (by decide) (by decide) rfl (fun f1 f2 f3 wx hT => ?_)) ?_
      · refine lands_value (w := wx) ?_ hT; go_simp; skip
      simp only [pu]
      refine anyL_take (i := 8) (v := .int .i64 (q : Int)) rfl (by kernel_rfl) (by kernel_rfl) (by kernel_rfl) (y3_other (by decide) (by decide) (by decide) rfl (fun f1 f2 f3 wx hT => ?_)) ?_
      · refine lands_value (w := wx) ?_ hT; go_simp; skip
      simp only [pu]
      refine anyL_take (i := 9) (v := .int .u8 (y : Int)) rfl (by kernel_rfl) (by kernel_rfl) (by kernel_rfl) (y3_other (by decide) (by decide) (by decide) rfl (fun f1 f2 f3 wx hT => ?_)) ?_
      · refine lands_value (w := wx) ?_ hT; have cc := HCV.out; go_simp; skip
      simp only [pu]
      refine anyL_take (i := 10) (v := .slice (some ⟨wa.heap.size, 0, none⟩) 1 1) rfl (by kernel_rfl) (by kernel_rfl) (by kernel_rfl) (y3_first (n := 15) (by decide) (by decide) (by kernel_rfl) (by kernel_rfl) rfl (fun wx hT => ?_)) ?_
      · obtain ⟨e1, K⟩ := hT.first; subst e1; refine lands_value (w := wx.alloc (.cells #[.int .u8 (y : Int)] 5)) ?_ (by rw [← HW1.out]; exact K); go_simp; skip
      simp only [pu]
      refine anyL_take (i := 11) (v := .string O) rfl (by kernel_rfl) (by kernel_rfl) (by kernel_rfl) (y3_second (n := 15) (by decide) (by decide) rfl (by kernel_rfl) (by kernel_rfl) rfl (fun wx hT => ?_)) ?_
      · obtain ⟨e1, K⟩ := hT.second; subst e1; refine lands_value (w := wx) ?_ K; have cc := HCS.out; go_simp; skip
      simp only [pu]
      refine anyL_take (i := 12) (v := .string Z) rfl (by kernel_rfl) (by kernel_rfl) (by kernel_rfl) (y3_other (by decide) (by decide) (by decide) rfl (fun f1 f2 f3 wx hT => ?_)) ?_
      · refine lands_value (w := wx) ?_ hT; have cc := HZZ.out; have c2 := HAS.out; go_simp; skip
      simp only [pu]
      refine anyL_take (i := 13) (v := .pointer (some ⟨g, 0, none⟩)) rfl (by kernel_rfl) (by kernel_rfl) (by kernel_rfl) (y3_other (by decide) (by decide) (by decide) rfl (fun f1 f2 f3 wx hT => ?_)) ?_
      · refine lands_value (w := wx) ?_ hT; go_simp; skip
      simp only [pu]
      refine anyL_take (i := 14) (v := .pointer (some ⟨g, 0, none⟩)) rfl (by kernel_rfl) (by kernel_rfl) (by kernel_rfl) (y3_other (by decide) (by decide) (by decide) rfl (fun f1 f2 f3 wx hT => ?_)) ?_
      · refine lands_value (w := wx) ?_ hT; go_simp; skip
      simp only [pu]
      refine anyL_take (i := 15) (v := undef) rfl (by kernel_rfl) (by kernel_rfl) (by kernel_rfl) (y3_third (by decide) (by decide) rfl (by kernel_rfl) rfl (fun f1 wx hT => ?_)) ?_
      · obtain ⟨e1, K⟩ := hT.third; subst e1; obtain ⟨c0, f0⟩ := HC1.out; have e3 := HW3.out; go_simp; exact ⟨rfl, by rw [← e3]; exact K⟩
      simp only [pu]
      refine anyL_done rfl ?_ _
      intro wz hT8
      obtain rfl := hT8.last
      clear hT8
      go_wp2_with fail
      exact ⟨⟨k + 1, _, rfl, by have := HK.out; omega, by have := HK.out; omega, HN⟩, by simp only [intOf]; have := HK.out; omega⟩
    · obtain rfl : k = s := by omega
      obtain rfl : x = -1 := by omega
      go_wp2_with fail
      go_end0
      exact ⟨rfl, ⟨_, HR.out.1, fun _ => rfl⟩, HR.out.2⟩
theorem rnumP_any (g : Nat) (B : ByteArray) (E : Nat) (n s : Int) (w : World) (h : YW g B E w) (hB : B.size ≤ 140737488355000) :
    Calls Try.prog 12 #[.pointer (some ⟨g, 0, none⟩), .int .i64 n, .int .i64 s] w fun e w' => e = .returned (.tuple #[]) ∧ YW g (numP B E n s).1 (numP B E n s).2 w' ∧ Ho g w w' := by
  by_cases h0 : E ≠ 0 ∨ ¬ (1 ≤ s ∧ s ≤ 7) ∨ n < 0 ∨ (256 ^ s.toNat : Int) ≤ n
  · exact rnumP_no g B E n s w h h0
  · obtain rfl : E = 0 := Decidable.byContradiction fun k => h0 (.inl k)
    have h1 : 1 ≤ s ∧ s ≤ 7 := Decidable.byContradiction fun k => h0 (.inr (.inl k))
    have h2 : ¬ n < 0 := fun k => h0 (.inr (.inr (.inl k)))
    have h3 : ¬ (256 ^ s.toNat : Int) ≤ n := fun k => h0 (.inr (.inr (.inr k)))
    obtain ⟨a, rfl⟩ : ∃ a : Nat, n = (a : Int) := ⟨n.toNat, by omega⟩
    obtain ⟨b, rfl⟩ : ∃ b : Nat, s = (b : Int) := ⟨s.toNat, by omega⟩
    rw [Int.toNat_natCast] at h3
    have h4 : a < 256 ^ b := by
      rcases Nat.lt_or_ge a (256 ^ b) with k | k
      · exact k
      · exact absurd (by have e := Int.ofNat_le.2 k; rwa [Int.natCast_pow] at e) h3
    exact rnumP_ok g B a b w h (by omega) h4 hB
set_option maxRecDepth 100000 in
theorem ropqP_any (g : Nat) (B : ByteArray) (E : Nat) (t : ByteArray) (s : Int) (w : World) (h : YW g B E w) (hB : B.size + t.size ≤ 140737488355000) :
    Calls Try.prog 16 #[.pointer (some ⟨g, 0, none⟩), .string t, .int .i64 s] w fun e w' => e = .returned (.tuple #[]) ∧ YW g (opqP B E t s).1 (opqP B E t s).2 w' ∧ Ho g w w' := by
  have C := rnumP_any g B E (t.size : Int) s w h (by omega)
  have hz := numP_size B E (t.size : Int) s
  unfold opqP
  obtain ⟨R, F, hr⟩ : ∃ R F, numP B E (t.size : Int) s = (R, F) := ⟨_, _, rfl⟩
  rw [hr] at C hz ⊢
  have hz : R.size ≤ B.size + 7 := hz
  have HZ : Hid (R.size + t.size ≤ 140737488355328) := Lib.hid (by omega)
  clear h hr hz hB
  go_enter Try.func16, Try.ntmps16
  go_wp2_with fail
  refine C.mono ?_
  rintro e w1 ⟨rfl, h1, g1⟩
  have C2 := rrawP_any g R F t w1 h1 HZ.out
  have HG := Lib.hid g1
  clear C h1 g1
  go_wp2_with fail
  refine C2.mono ?_
  rintro e w2 ⟨rfl, h2, g2⟩
  have HF := Lib.hid (⟨h2, HG.out.trans g2⟩ : YW g (rawP R F t).1 (rawP R F t).2 w2 ∧ Ho g w w2)
  clear h2 g2 C2
  go_wp2_with fail
  go_end0
  exact ⟨rfl, HF.out⟩
end Go.Proofs.Ytfheedpoaomfeaa
