/- CrcBurst: the walk. -/
import Derived.Test.YtdekapkdgbmjbaaCrcAlike
import Derived.Test.YtdekapkdgbmjbaaCly
namespace Go.Proofs.Ytdekapkdgbmjbaa
open Go.RowKit
theorem iw_is {n : Nat} (x : BitVec n) : iw x = (x.toNat : Int) := by unfold iw; rfl
theorem wrap8_pow (s : Nat) : IntKind.u8.wrap (2 ^ s) = iw (shlw (litw 8 1) s) := by
  simp only [IntKind.wrap_u8', iw, shlw, BitVec.toNat_shiftLeft, Nat.shiftLeft_eq]
  rw [Int.natCast_emod, Int.natCast_mul, Int.natCast_pow, show (litw 8 1 : BitVec 8).toNat = 1 from rfl]
  simp
/-- The bytes as they are told. -/
def buF (u : ByteArray) (y f k j : Nat) : Nat := (bT (b8 u) y f k j).toNat
theorem buF_lt (u : ByteArray) (y f k j : Nat) : buF u y f k j < 256 := (bT (b8 u) y f k j).isLt
theorem buF_zero (u : ByteArray) (y f : Nat) : buF u y f 0 = byteS u := funext fun j => by
  show (b8 u j).toNat = _
  unfold b8
  have h8 : byteS u j < 2 ^ 8 := byteS_lt _ _
  rw [BitVec.toNat_ofNat, Nat.mod_eq_of_lt h8]
theorem buF_not (u : ByteArray) (y f k : Nat) (h : ¬ y / 2 ^ k % 2 = 1) : buF u y f k = buF u y f (k + 1) := funext fun j => by
  show (bT (b8 u) y f k j).toNat = ((if y / 2 ^ k % 2 = 1 then fun j => if j = (f + k) / 8 then xorw (bT (b8 u) y f k j) (shlw (litw 8 1) ((f + k) % 8)) else bT (b8 u) y f k j else bT (b8 u) y f k) j).toNat
  rw [if_neg h]
theorem buF_put (u : ByteArray) (y f k q r : Nat) (h : y / 2 ^ k % 2 = 1) (hq : (f + k) / 8 = q) (hr : (f + k) % 8 = r) :
    (fun j => if j = q then (xorw (bT (b8 u) y f k q) (shlw (litw 8 1) r)).toNat else buF u y f k j) = buF u y f (k + 1) := funext fun j => by
  subst hq hr
  show _ = ((if y / 2 ^ k % 2 = 1 then fun j => if j = (f + k) / 8 then xorw (bT (b8 u) y f k j) (shlw (litw 8 1) ((f + k) % 8)) else bT (b8 u) y f k j else bT (b8 u) y f k) j).toNat
  rw [if_pos h]
  by_cases hj : j = (f + k) / 8
  · subst hj; rw [if_pos rfl, if_pos rfl]
  · rw [if_neg hj, if_neg hj]; rfl
theorem bu_ne (u : ByteArray) (y f e : Nat) (he : e ≤ 32) (hn : f + e ≤ 8 * u.size) (h1 : 1 ≤ e) (hy : y % 2 = 1) : moreT 0#32 (textN u.size (buF u y f e)) ≠ moreT 0#32 u := by
  intro h
  unfold moreT at h
  have h2 := congrArg notw h
  rw [not_not, not_not, textN_size] at h2
  refine burst_ne (b8 u) y f u.size (notw 0#32) e he hn h1 hy ?_
  refine Eq.trans (cR_same (fun i hi => ?_) _) (h2.trans (cR_same (fun i hi => ?_) _))
  · unfold byteW
    rw [byteS_textN _ _ _ hi (buF_lt u y f e i)]; rfl
  · rw [b32_b8]; rfl
theorem text_some (s : ByteArray) (h : 0 < s.size) : s.toList.isEmpty = false := by
  rw [ByteArray.toList_eq]
  cases e : s.data.toList with
  | nil =>
    exfalso
    have h2 : s.data.toList.length = s.size := Array.length_toList
    rw [e] at h2
    simp at h2; omega
  | cons x l => rfl
theorem text_beq (s : ByteArray) (h : 0 < s.size) : (s.toList == []) = false := by
  have h2 := text_some s h
  cases e : s.toList with
  | nil => rw [e] at h2; cases h2
  | cons x l => rfl
structure BuW (N : Nat) (f : Nat → Nat) (g : Nat) (w wr : World) : Prop where
  c : ClY N f g wr
  l : Below w.heap.size w wr
theorem BuW.drew {N : Nat} {f : Nat → Nat} {g : Nat} {w wr : World} (h : BuW N f g w wr) : BuW N f g w wr.drew := ⟨h.c.drew, h.l.drew⟩
theorem BuW.below {N : Nat} {f : Nat → Nat} {g : Nat} {w wr w' : World} (h : BuW N f g w wr) (hb : Below wr.heap.size wr w') : BuW N f g w w' := ⟨h.c.below hb, h.l.trans (hb.mono h.l.size)⟩
theorem BuW.put {N : Nat} {f f' : Nat → Nat} {g : Nat} {w wr : World} (h : BuW N f g w wr) (hg : w.heap.size ≤ g) (k v : Nat) (e : (fun j => if j = k then v else f j) = f') : BuW N f' g w (wr.setCell ⟨g, k, none⟩ (.int .u8 (v : Int))) :=
  ⟨(h.c.put k v).cast e, h.l.setCell hg _⟩
theorem and1_32 (x : BitVec 32) : bits .and .u32 (iw x) 1 = ((x.toNat % 2 : Nat) : Int) := by
  rw [iw_is, show (1 : Int) = ((1 : Nat) : Int) from rfl, u32_and_nat _ _ x.isLt (by decide), Nat.and_one_is_mod]
theorem or1_odd (x : BitVec 32) : (orw x (litw 32 1)).toNat % 2 = 1 := by
  unfold orw litw
  rw [BitVec.toNat_or]
  show (x.toNat ||| 1) % 2 = 1
  rw [Nat.or_mod_two_eq_one]
  exact .inr rfl
set_option maxRecDepth 100000 in
set_option maxHeartbeats 4000000 in
theorem crcBurst_neg (s : ByteArray) (x : Int) (hx : x < 0) (m : Nat) (hm : -(x + 1) = (m : Int)) (hm9 : m < 9223372036854775808) (b : BitVec 32) (w : World) (he : s.extract 0 (min s.size 1000) ≠ ⟨#[]⟩) :
    Calls Try.prog 5 #[.string s, .int .i64 x, .int .u32 (iw b)] w fun e w' => e = .returned (.bool true) ∧ Below w.heap.size w w' := by
  obtain ⟨u, hu⟩ : ∃ u, s.extract 0 (min s.size 1000) = u := ⟨_, rfl⟩
  rw [hu] at he
  have HU := Lib.hid hu
  have hN1 : u.size ≤ 1000 := by rw [← hu, ByteArray.size_extract]; omega
  have hN0 : 1 ≤ u.size := by
    rcases Nat.eq_zero_or_pos u.size with h | h
    · exact absurd (text_same (b := ⟨#[]⟩) h (fun j hj => by omega)) he
    · exact h
  have hue : (u.toList == []) = false := text_beq u (by omega)
  obtain ⟨N, hN⟩ : ∃ N, N = u.size := ⟨_, rfl⟩
  obtain ⟨M, hM⟩ : ∃ M, M = 8 * N := ⟨_, rfl⟩
  obtain ⟨f, hf⟩ : ∃ f, f = m % M := ⟨_, rfl⟩
  have hfM : f < M := by rw [hf]; exact Nat.mod_lt _ (by omega)
  have hw8 : IntKind.i64.wrap (8 * (u.size : Int)) = (M : Int) := by rw [IntWalk.i64_in _ (by omega)]; omega
  have hrem : (m : Int).tmod (M : Int) = (f : Int) := by rw [Int.tmod_eq_emod_of_nonneg (by omega), hf]; omega
  have hM0 : ¬ (M : Int) = 0 := by omega
  have HM := Lib.hid hM
  have HN := Lib.hid hN
  have hw1 : IntKind.i64.wrap (x + 1) = x + 1 := IntWalk.i64_in _ (by omega)
  have hw2 : IntKind.i64.wrap (-(x + 1)) = (m : Int) := by rw [hm]; exact IntWalk.i64_in _ (by omega)
  clear hm
  have hor : bits .or .u32 (iw b) 1 = iw (orw b (litw 32 1)) := or32_lit _ _
  have hy := or1_odd b
  obtain ⟨Y, hY⟩ : ∃ Y, orw b (litw 32 1) = Y := ⟨_, rfl⟩
  rw [hY] at hor hy
  clear hu hf hM hN hm9 he hY
  go_enter Try.func5, Try.ntmps5
  go_wp2_with fail
  refine (examples8_any _).mono ?_
  rintro e w1 ⟨rfl, b1⟩
  go_wp2_with (first | (refine wpList_valK (.int .i64 ((min s.size 1000 : Nat) : Int)) rfl (lands_min (.tmp 15) s.size 1000 rfl rfl rfl) ?_; intro wq hq; subst hq) | rw [HU.out])
  obtain ⟨cap, W1, hcv, hcl, hbl⟩ := bytesN_start u wq HN.out.symm
  have L1 := Lib.hid b1.size
  have R0 := Lib.hid (⟨hcl, b1.trans (hbl.mono b1.size)⟩ : BuW N (byteS u) wq.heap.size w W1)
  obtain ⟨g, hg⟩ : ∃ g, g = wq.heap.size := ⟨_, rfl⟩
  have HG : Hid (w.heap.size ≤ g) := Lib.hid (by rw [hg]; exact L1.out)
  rw [← hg] at hcv R0
  clear hcl hbl b1 hg L1
  rw [hcv]
  clear hcv
  go_wp2_with fail
  obtain ⟨y, hyy⟩ : ∃ y, y = Y.toNat := ⟨_, rfl⟩
  rw [← hyy] at hy
  have HY := Lib.hid hyy
  obtain ⟨E, hE⟩ : ∃ E, E = min 32 (M - f) := ⟨_, rfl⟩
  have HE := Lib.hid hE
  have HYO := Lib.hid hy
  clear hyy hE hy
  go_loopw [9] (fun i wr => ∃ k : Nat, k ≤ E ∧ i = .int .i64 (k : Int) ∧ BuW N (buF u y f k) g w wr) (fun i _ => 32 - (intOf i).toNat)
  case atStart => exact ⟨0, by omega, rfl, by rw [buF_zero]; exact R0.out⟩
  case round =>
    obtain ⟨k, hk, rfl, hr⟩ := hrel
    have hE2 := HE.out
    by_cases hlt : k < E
    · obtain ⟨p, hp⟩ : ∃ p, p = f + k := ⟨_, rfl⟩
      have hpM : p < M := by omega
      have hM2 := HM.out
      have hN2 := HN.out
      have hk32 : (k : Int) < 32 := by omega
      have hpi : IntKind.i64.wrap ((f : Int) + (k : Int)) = (p : Int) := by rw [IntWalk.i64_in _ (by omega)]; omega
      have hpl : (p : Int) < (M : Int) := by omega
      have hk1 : IntKind.i64.wrap ((k : Int) + 1) = (k : Int) + 1 := IntWalk.i64_in _ (by omega)
      have hmin : min k 32 = k := by omega
      have hshr : iw Y / 2 ^ k = iw (shrw Y k) := iw_shr Y k
      have hand := and1_32 (shrw Y k)
      have hd : (shrw Y k).toNat % 2 = y / 2 ^ k % 2 := by
        rw [HY.out]; unfold shrw; rw [BitVec.toNat_ushiftRight, Nat.shiftRight_eq_div_pow]
      obtain ⟨d, hdd⟩ : ∃ d, d = y / 2 ^ k % 2 := ⟨_, rfl⟩
      rw [hd, ← hdd] at hand
      have hks : k + 1 ≤ E := by omega
      clear hE2 hM2 hN2 hd
      by_cases ho : d = 1
      · have HB : Hid (y / 2 ^ k % 2 = 1) := Lib.hid (by rw [← hdd]; exact ho)
        obtain ⟨q, hq⟩ : ∃ q, q = p / 8 := ⟨_, rfl⟩
        obtain ⟨r, hr8⟩ : ∃ r, r = p % 8 := ⟨_, rfl⟩
        have hqi : (p : Int).tdiv 8 = (q : Int) := by rw [Int.tdiv_eq_ediv_of_nonneg (by omega)]; omega
        have hri : (p : Int).tmod 8 = (r : Int) := by rw [Int.tmod_eq_emod_of_nonneg (by omega)]; omega
        have hqN : q < N := by have := HM.out; omega
        have hqw : IntKind.i64.wrap (q : Int) = (q : Int) := IntWalk.i64_in _ (by have := HN.out; omega)
        have hqNi : (q : Int) < (N : Int) := by omega
        have hr7 : r ≤ 8 := by omega
        have HP := Lib.hid (buF_put u y f k q r HB.out (by rw [← hp, hq]) (by rw [← hp, hr8]))
        have hx8 := xor8w (bT (b8 u) y f k q) (shlw (litw 8 1) r)
        have hA : ((buF u y f k q : Nat) : Int) = iw (bT (b8 u) y f k q) := by rw [iw_is]; rfl
        generalize hA0 : bT (b8 u) y f k q = A at *
        subst ho
        clear hdd hp hq hr8 hA0
        go_wp2_with fail
        refine wp_region_anyL (Two 19 1000 fun f1 _ wx => BuW N (buF u y f (if f1 then k + 1 else k)) g w wx) (by kernel_rfl) hr.drew ?_
        refine anyL_take (i := 0) (v := ?_) rfl (by kernel_rfl) (by kernel_rfl) (by kernel_rfl) (yl_other (by decide) (by decide) rfl (fun f1 f2 wx hT => ?_)) ?_; rotate_left
        · refine lands_value (w := wx) ?_ hT; go_simp <;> rfl
        simp only [pu]
        refine anyL_take (i := 1) (v := ?_) rfl (by kernel_rfl) (by kernel_rfl) (by kernel_rfl) (yl_other (by decide) (by decide) rfl (fun f1 f2 wx hT => ?_)) ?_; rotate_left
        · refine lands_value (w := wx) ?_ hT; go_simp <;> rfl
        simp only [pu]
        refine anyL_take (i := 2) (v := ?_) rfl (by kernel_rfl) (by kernel_rfl) (by kernel_rfl) (yl_other (by decide) (by decide) rfl (fun f1 f2 wx hT => ?_)) ?_; rotate_left
        · refine lands_value (w := wx) ?_ hT; go_simp <;> rfl
        simp only [pu]
        refine anyL_take (i := 3) (v := .int .i64 (p : Int)) rfl (by kernel_rfl) (by kernel_rfl) (by kernel_rfl) (yl_other (by decide) (by decide) rfl (fun f1 f2 wx hT => ?_)) ?_
        · refine lands_value (w := wx) ?_ hT; go_simp
        simp only [pu]
        refine anyL_take (i := 4) (v := .int .i64 (q : Int)) rfl (by kernel_rfl) (by kernel_rfl) (by kernel_rfl) (yl_other (by decide) (by decide) rfl (fun f1 f2 wx hT => ?_)) ?_
        · refine lands_value (w := wx) ?_ hT; go_simp
        simp only [pu]
        refine anyL_take (i := 5) (v := ?_) rfl (by kernel_rfl) (by kernel_rfl) (by kernel_rfl) (yl_other (by decide) (by decide) rfl (fun f1 f2 wx hT => ?_)) ?_; rotate_left
        · refine lands_value (w := wx) ?_ hT; go_simp <;> rfl
        simp only [pu]
        refine anyL_take (i := 6) (v := ?_) rfl (by kernel_rfl) (by kernel_rfl) (by kernel_rfl) (yl_other (by decide) (by decide) rfl (fun f1 f2 wx hT => ?_)) ?_; rotate_left
        · refine lands_value (w := wx) ?_ hT; go_simp <;> rfl
        simp only [pu]
        refine anyL_take (i := 7) (v := ?_) rfl (by kernel_rfl) (by kernel_rfl) (by kernel_rfl) (yl_other (by decide) (by decide) rfl (fun f1 f2 wx hT => ?_)) ?_; rotate_left
        · refine lands_value (w := wx) ?_ hT; go_simp <;> rfl
        simp only [pu]
        refine anyL_take (i := 8) (v := .int .i64 (p : Int)) rfl (by kernel_rfl) (by kernel_rfl) (by kernel_rfl) (yl_other (by decide) (by decide) rfl (fun f1 f2 wx hT => ?_)) ?_
        · refine lands_value (w := wx) ?_ hT; go_simp
        simp only [pu]
        refine anyL_take (i := 9) (v := .int .i64 (q : Int)) rfl (by kernel_rfl) (by kernel_rfl) (by kernel_rfl) (yl_other (by decide) (by decide) rfl (fun f1 f2 wx hT => ?_)) ?_
        · refine lands_value (w := wx) ?_ hT; go_simp
        simp only [pu]
        refine anyL_take (i := 10) (v := ?_) rfl (by kernel_rfl) (by kernel_rfl) (by kernel_rfl) (yl_other (by decide) (by decide) rfl (fun f1 f2 wx hT => ?_)) ?_; rotate_left
        · refine lands_value (w := wx) ?_ hT; go_simp <;> rfl
        simp only [pu]
        refine anyL_take (i := 11) (v := .int .u8 (iw A)) rfl (by kernel_rfl) (by kernel_rfl) (by kernel_rfl) (yl_ahead (n := 9) (by decide) (by decide) (by kernel_rfl) rfl (fun f2 wx hT => ?_)) ?_
        · have c0 : wx.cell? ⟨g, q, none⟩ = some (.int .u8 (buF u y f k q : Int)) := hT.c.c q hqN; rw [hA] at c0; refine lands_value (w := wx) ?_ hT; go_simp
        simp only [pu]
        refine anyL_take (i := 12) (v := ?_) rfl (by kernel_rfl) (by kernel_rfl) (by kernel_rfl) (yl_other (by decide) (by decide) rfl (fun f1 f2 wx hT => ?_)) ?_; rotate_left
        · refine lands_value (w := wx) ?_ hT; go_simp <;> rfl
        simp only [pu]
        refine anyL_take (i := 13) (v := ?_) rfl (by kernel_rfl) (by kernel_rfl) (by kernel_rfl) (yl_other (by decide) (by decide) rfl (fun f1 f2 wx hT => ?_)) ?_; rotate_left
        · refine lands_value (w := wx) ?_ hT; go_simp <;> rfl
        simp only [pu]
        refine anyL_take (i := 14) (v := .int .i64 (p : Int)) rfl (by kernel_rfl) (by kernel_rfl) (by kernel_rfl) (yl_other (by decide) (by decide) rfl (fun f1 f2 wx hT => ?_)) ?_
        · refine lands_value (w := wx) ?_ hT; go_simp
        simp only [pu]
        refine anyL_take (i := 15) (v := .int .i64 (r : Int)) rfl (by kernel_rfl) (by kernel_rfl) (by kernel_rfl) (yl_other (by decide) (by decide) rfl (fun f1 f2 wx hT => ?_)) ?_
        · refine lands_value (w := wx) ?_ hT; go_simp
        simp only [pu]
        refine anyL_take (i := 16) (v := .int .u8 (iw (shlw (litw 8 1) r))) rfl (by kernel_rfl) (by kernel_rfl) (by kernel_rfl) (yl_other (by decide) (by decide) rfl (fun f1 f2 wx hT => ?_)) ?_
        · refine lands_value (w := wx) ?_ hT; go_simp; exact wrap8_pow r
        simp only [pu]
        refine anyL_take (i := 17) (v := .int .u8 (iw (xorw A (shlw (litw 8 1) r)))) rfl (by kernel_rfl) (by kernel_rfl) (by kernel_rfl) (yl_other (by decide) (by decide) rfl (fun f1 f2 wx hT => ?_)) ?_
        · refine lands_value (w := wx) ?_ hT; go_simp
        simp only [pu]
        refine anyL_take (i := 18) (v := ?_) rfl (by kernel_rfl) (by kernel_rfl) (by kernel_rfl) (yl_other (by decide) (by decide) rfl (fun f1 f2 wx hT => ?_)) ?_; rotate_left
        · refine lands_value (w := wx) ?_ hT; go_simp <;> rfl
        simp only [pu]
        refine anyL_take (i := 19) (v := undef) rfl (by kernel_rfl) (by kernel_rfl) (by kernel_rfl) (yl_first (by decide) rfl (fun f2 wx hT => ?_)) ?_
        · have c0 : wx.cell? ⟨g, q, none⟩ = some (.int .u8 (buF u y f k q : Int)) := hT.c.c q hqN; have f0 := hT.c.fz q hqN; have K := BuW.put (f := buF u y f k) hT HG.out q _ HP.out; rw [← iw_is] at K; go_simp; exact ⟨rfl, K⟩
        simp only [Act.put]
        refine anyL_done (by kernel_rfl) (fun w3 (K : BuW N (buF u y f (k + 1)) g w w3) => ?_) _
        clear hr
        go_wp2_with fail
        go_roundw
        case rel => exact ⟨k + 1, hks, by go_num, K⟩
        case measure => simp [intOf]; omega
      · have HB : Hid (¬ y / 2 ^ k % 2 = 1) := Lib.hid (by rw [← hdd]; exact ho)
        obtain rfl : d = 0 := by omega
        have HP := Lib.hid (buF_not u y f k HB.out)
        clear hdd hp
        go_wp2_with fail
        go_roundw
        case rel => exact ⟨k + 1, hks, by go_num, by rw [← HP.out]; exact hr⟩
        case measure => simp [intOf]; omega
    · have hkE : k = E := by omega
      have hN2 := HN.out
      have hM2 := HM.out
      have hne := bu_ne u y f k (by omega) (by omega) (by omega) HYO.out
      rw [← HN.out] at hne
      obtain ⟨V, hV⟩ : ∃ V, textN N (buF u y f k) = V := ⟨_, rfl⟩
      have hVs : V.size = N := by rw [← hV, textN_size]
      have HV := Lib.hid hV
      rw [hV] at hne
      have CV := Lib.hid (sum_crc V (by omega) _ rfl)
      have CU := Lib.hid (sum_crc u (by omega) _ rfl)
      generalize moreT 0#32 V = xv at *
      generalize moreT 0#32 u = xu at *
      have hxx : ¬ iw xv = iw xu := fun h => hne (BitVec.eq_of_toNat_eq (by rw [iw_is, iw_is] at h; omega))
      have HX : Hid ((iw xv != iw xu) = true) := Lib.hid (bne_iff_ne.2 hxx)
      have hor2 : ¬ ((k : Int) < 32) ∨ ((k : Int) < 32 ∧ IntKind.i64.wrap ((f : Int) + (k : Int)) = (M : Int)) := by
        rcases Nat.lt_or_ge k 32 with h | h
        · exact .inr ⟨by omega, by rw [IntWalk.i64_in _ (by omega)]; omega⟩
        · exact .inl (by omega)
      clear hV hne hkE hE2 hk hlt hM2 hN2 hVs
      rcases hor2 with hq | ⟨hq1, hq2⟩
      all_goals
        have hcv := bytesN_end hr.c (buF_lt u y f k) cap
        rw [HV.out] at hcv
        have hl := hr.l
        clear hr
        go_wp2_with fail
        refine (CV.out _).mono ?_
        rintro e w2 ⟨rfl, b2⟩
        have c2 := hl.trans (b2.mono hl.size)
        clear hl b2 hcv
        go_wp2_with fail
        refine (CU.out _).mono ?_
        rintro e w3 ⟨rfl, b3⟩
        have hl := c2.trans (b3.mono c2.size)
        clear c2 b3
        go_wp2_with fail
        go_ret
        exact ⟨by show Ending.returned (.bool (iw xv != iw xu)) = _; rw [HX.out], hl⟩
set_option maxRecDepth 100000 in
set_option maxHeartbeats 4000000 in
theorem crcBurst_pos (s : ByteArray) (m : Nat) (hm9 : m < 9223372036854775808) (b : BitVec 32) (w : World) (he : s.extract 0 (min s.size 1000) ≠ ⟨#[]⟩) :
    Calls Try.prog 5 #[.string s, .int .i64 (m : Int), .int .u32 (iw b)] w fun e w' => e = .returned (.bool true) ∧ Below w.heap.size w w' := by
  obtain ⟨u, hu⟩ : ∃ u, s.extract 0 (min s.size 1000) = u := ⟨_, rfl⟩
  rw [hu] at he
  have HU := Lib.hid hu
  have hN1 : u.size ≤ 1000 := by rw [← hu, ByteArray.size_extract]; omega
  have hN0 : 1 ≤ u.size := by
    rcases Nat.eq_zero_or_pos u.size with h | h
    · exact absurd (text_same (b := ⟨#[]⟩) h (fun j hj => by omega)) he
    · exact h
  have hue : (u.toList == []) = false := text_beq u (by omega)
  obtain ⟨N, hN⟩ : ∃ N, N = u.size := ⟨_, rfl⟩
  obtain ⟨M, hM⟩ : ∃ M, M = 8 * N := ⟨_, rfl⟩
  obtain ⟨f, hf⟩ : ∃ f, f = m % M := ⟨_, rfl⟩
  have hfM : f < M := by rw [hf]; exact Nat.mod_lt _ (by omega)
  have hw8 : IntKind.i64.wrap (8 * (u.size : Int)) = (M : Int) := by rw [IntWalk.i64_in _ (by omega)]; omega
  have hrem : (m : Int).tmod (M : Int) = (f : Int) := by rw [Int.tmod_eq_emod_of_nonneg (by omega), hf]; omega
  have hM0 : ¬ (M : Int) = 0 := by omega
  have HM := Lib.hid hM
  have HN := Lib.hid hN
  have hx : ¬ (m : Int) < 0 := by omega
  have hor : bits .or .u32 (iw b) 1 = iw (orw b (litw 32 1)) := or32_lit _ _
  have hy := or1_odd b
  obtain ⟨Y, hY⟩ : ∃ Y, orw b (litw 32 1) = Y := ⟨_, rfl⟩
  rw [hY] at hor hy
  clear hu hf hM hN hm9 he hY
  go_enter Try.func5, Try.ntmps5
  go_wp2_with fail
  refine (examples8_any _).mono ?_
  rintro e w1 ⟨rfl, b1⟩
  go_wp2_with (first | (refine wpList_valK (.int .i64 ((min s.size 1000 : Nat) : Int)) rfl (lands_min (.tmp 15) s.size 1000 rfl rfl rfl) ?_; intro wq hq; subst hq) | rw [HU.out])
  obtain ⟨cap, W1, hcv, hcl, hbl⟩ := bytesN_start u wq HN.out.symm
  have L1 := Lib.hid b1.size
  have R0 := Lib.hid (⟨hcl, b1.trans (hbl.mono b1.size)⟩ : BuW N (byteS u) wq.heap.size w W1)
  obtain ⟨g, hg⟩ : ∃ g, g = wq.heap.size := ⟨_, rfl⟩
  have HG : Hid (w.heap.size ≤ g) := Lib.hid (by rw [hg]; exact L1.out)
  rw [← hg] at hcv R0
  clear hcl hbl b1 hg L1
  rw [hcv]
  clear hcv
  go_wp2_with fail
  obtain ⟨y, hyy⟩ : ∃ y, y = Y.toNat := ⟨_, rfl⟩
  rw [← hyy] at hy
  have HY := Lib.hid hyy
  obtain ⟨E, hE⟩ : ∃ E, E = min 32 (M - f) := ⟨_, rfl⟩
  have HE := Lib.hid hE
  have HYO := Lib.hid hy
  clear hyy hE hy
  go_loopw [9] (fun i wr => ∃ k : Nat, k ≤ E ∧ i = .int .i64 (k : Int) ∧ BuW N (buF u y f k) g w wr) (fun i _ => 32 - (intOf i).toNat)
  case atStart => exact ⟨0, by omega, rfl, by rw [buF_zero]; exact R0.out⟩
  case round =>
    obtain ⟨k, hk, rfl, hr⟩ := hrel
    have hE2 := HE.out
    by_cases hlt : k < E
    · obtain ⟨p, hp⟩ : ∃ p, p = f + k := ⟨_, rfl⟩
      have hpM : p < M := by omega
      have hM2 := HM.out
      have hN2 := HN.out
      have hk32 : (k : Int) < 32 := by omega
      have hpi : IntKind.i64.wrap ((f : Int) + (k : Int)) = (p : Int) := by rw [IntWalk.i64_in _ (by omega)]; omega
      have hpl : (p : Int) < (M : Int) := by omega
      have hk1 : IntKind.i64.wrap ((k : Int) + 1) = (k : Int) + 1 := IntWalk.i64_in _ (by omega)
      have hmin : min k 32 = k := by omega
      have hshr : iw Y / 2 ^ k = iw (shrw Y k) := iw_shr Y k
      have hand := and1_32 (shrw Y k)
      have hd : (shrw Y k).toNat % 2 = y / 2 ^ k % 2 := by
        rw [HY.out]; unfold shrw; rw [BitVec.toNat_ushiftRight, Nat.shiftRight_eq_div_pow]
      obtain ⟨d, hdd⟩ : ∃ d, d = y / 2 ^ k % 2 := ⟨_, rfl⟩
      rw [hd, ← hdd] at hand
      have hks : k + 1 ≤ E := by omega
      clear hE2 hM2 hN2 hd
      by_cases ho : d = 1
      · have HB : Hid (y / 2 ^ k % 2 = 1) := Lib.hid (by rw [← hdd]; exact ho)
        obtain ⟨q, hq⟩ : ∃ q, q = p / 8 := ⟨_, rfl⟩
        obtain ⟨r, hr8⟩ : ∃ r, r = p % 8 := ⟨_, rfl⟩
        have hqi : (p : Int).tdiv 8 = (q : Int) := by rw [Int.tdiv_eq_ediv_of_nonneg (by omega)]; omega
        have hri : (p : Int).tmod 8 = (r : Int) := by rw [Int.tmod_eq_emod_of_nonneg (by omega)]; omega
        have hqN : q < N := by have := HM.out; omega
        have hqw : IntKind.i64.wrap (q : Int) = (q : Int) := IntWalk.i64_in _ (by have := HN.out; omega)
        have hqNi : (q : Int) < (N : Int) := by omega
        have hr7 : r ≤ 8 := by omega
        have HP := Lib.hid (buF_put u y f k q r HB.out (by rw [← hp, hq]) (by rw [← hp, hr8]))
        have hx8 := xor8w (bT (b8 u) y f k q) (shlw (litw 8 1) r)
        have hA : ((buF u y f k q : Nat) : Int) = iw (bT (b8 u) y f k q) := by rw [iw_is]; rfl
        generalize hA0 : bT (b8 u) y f k q = A at *
        subst ho
        clear hdd hp hq hr8 hA0
        go_wp2_with fail
        refine wp_region_anyL (Two 19 1000 fun f1 _ wx => BuW N (buF u y f (if f1 then k + 1 else k)) g w wx) (by kernel_rfl) hr.drew ?_
        refine anyL_take (i := 0) (v := ?_) rfl (by kernel_rfl) (by kernel_rfl) (by kernel_rfl) (yl_other (by decide) (by decide) rfl (fun f1 f2 wx hT => ?_)) ?_; rotate_left
        · refine lands_value (w := wx) ?_ hT; go_simp <;> rfl
        simp only [pu]
        refine anyL_take (i := 1) (v := ?_) rfl (by kernel_rfl) (by kernel_rfl) (by kernel_rfl) (yl_other (by decide) (by decide) rfl (fun f1 f2 wx hT => ?_)) ?_; rotate_left
        · refine lands_value (w := wx) ?_ hT; go_simp <;> rfl
        simp only [pu]
        refine anyL_take (i := 2) (v := ?_) rfl (by kernel_rfl) (by kernel_rfl) (by kernel_rfl) (yl_other (by decide) (by decide) rfl (fun f1 f2 wx hT => ?_)) ?_; rotate_left
        · refine lands_value (w := wx) ?_ hT; go_simp <;> rfl
        simp only [pu]
        refine anyL_take (i := 3) (v := .int .i64 (p : Int)) rfl (by kernel_rfl) (by kernel_rfl) (by kernel_rfl) (yl_other (by decide) (by decide) rfl (fun f1 f2 wx hT => ?_)) ?_
        · refine lands_value (w := wx) ?_ hT; go_simp
        simp only [pu]
        refine anyL_take (i := 4) (v := .int .i64 (q : Int)) rfl (by kernel_rfl) (by kernel_rfl) (by kernel_rfl) (yl_other (by decide) (by decide) rfl (fun f1 f2 wx hT => ?_)) ?_
        · refine lands_value (w := wx) ?_ hT; go_simp
        simp only [pu]
        refine anyL_take (i := 5) (v := ?_) rfl (by kernel_rfl) (by kernel_rfl) (by kernel_rfl) (yl_other (by decide) (by decide) rfl (fun f1 f2 wx hT => ?_)) ?_; rotate_left
        · refine lands_value (w := wx) ?_ hT; go_simp <;> rfl
        simp only [pu]
        refine anyL_take (i := 6) (v := ?_) rfl (by kernel_rfl) (by kernel_rfl) (by kernel_rfl) (yl_other (by decide) (by decide) rfl (fun f1 f2 wx hT => ?_)) ?_; rotate_left
        · refine lands_value (w := wx) ?_ hT; go_simp <;> rfl
        simp only [pu]
        refine anyL_take (i := 7) (v := ?_) rfl (by kernel_rfl) (by kernel_rfl) (by kernel_rfl) (yl_other (by decide) (by decide) rfl (fun f1 f2 wx hT => ?_)) ?_; rotate_left
        · refine lands_value (w := wx) ?_ hT; go_simp <;> rfl
        simp only [pu]
        refine anyL_take (i := 8) (v := .int .i64 (p : Int)) rfl (by kernel_rfl) (by kernel_rfl) (by kernel_rfl) (yl_other (by decide) (by decide) rfl (fun f1 f2 wx hT => ?_)) ?_
        · refine lands_value (w := wx) ?_ hT; go_simp
        simp only [pu]
        refine anyL_take (i := 9) (v := .int .i64 (q : Int)) rfl (by kernel_rfl) (by kernel_rfl) (by kernel_rfl) (yl_other (by decide) (by decide) rfl (fun f1 f2 wx hT => ?_)) ?_
        · refine lands_value (w := wx) ?_ hT; go_simp
        simp only [pu]
        refine anyL_take (i := 10) (v := ?_) rfl (by kernel_rfl) (by kernel_rfl) (by kernel_rfl) (yl_other (by decide) (by decide) rfl (fun f1 f2 wx hT => ?_)) ?_; rotate_left
        · refine lands_value (w := wx) ?_ hT; go_simp <;> rfl
        simp only [pu]
        refine anyL_take (i := 11) (v := .int .u8 (iw A)) rfl (by kernel_rfl) (by kernel_rfl) (by kernel_rfl) (yl_ahead (n := 9) (by decide) (by decide) (by kernel_rfl) rfl (fun f2 wx hT => ?_)) ?_
        · have c0 : wx.cell? ⟨g, q, none⟩ = some (.int .u8 (buF u y f k q : Int)) := hT.c.c q hqN; rw [hA] at c0; refine lands_value (w := wx) ?_ hT; go_simp
        simp only [pu]
        refine anyL_take (i := 12) (v := ?_) rfl (by kernel_rfl) (by kernel_rfl) (by kernel_rfl) (yl_other (by decide) (by decide) rfl (fun f1 f2 wx hT => ?_)) ?_; rotate_left
        · refine lands_value (w := wx) ?_ hT; go_simp <;> rfl
        simp only [pu]
        refine anyL_take (i := 13) (v := ?_) rfl (by kernel_rfl) (by kernel_rfl) (by kernel_rfl) (yl_other (by decide) (by decide) rfl (fun f1 f2 wx hT => ?_)) ?_; rotate_left
        · refine lands_value (w := wx) ?_ hT; go_simp <;> rfl
        simp only [pu]
        refine anyL_take (i := 14) (v := .int .i64 (p : Int)) rfl (by kernel_rfl) (by kernel_rfl) (by kernel_rfl) (yl_other (by decide) (by decide) rfl (fun f1 f2 wx hT => ?_)) ?_
        · refine lands_value (w := wx) ?_ hT; go_simp
        simp only [pu]
        refine anyL_take (i := 15) (v := .int .i64 (r : Int)) rfl (by kernel_rfl) (by kernel_rfl) (by kernel_rfl) (yl_other (by decide) (by decide) rfl (fun f1 f2 wx hT => ?_)) ?_
        · refine lands_value (w := wx) ?_ hT; go_simp
        simp only [pu]
        refine anyL_take (i := 16) (v := .int .u8 (iw (shlw (litw 8 1) r))) rfl (by kernel_rfl) (by kernel_rfl) (by kernel_rfl) (yl_other (by decide) (by decide) rfl (fun f1 f2 wx hT => ?_)) ?_
        · refine lands_value (w := wx) ?_ hT; go_simp; exact wrap8_pow r
        simp only [pu]
        refine anyL_take (i := 17) (v := .int .u8 (iw (xorw A (shlw (litw 8 1) r)))) rfl (by kernel_rfl) (by kernel_rfl) (by kernel_rfl) (yl_other (by decide) (by decide) rfl (fun f1 f2 wx hT => ?_)) ?_
        · refine lands_value (w := wx) ?_ hT; go_simp
        simp only [pu]
        refine anyL_take (i := 18) (v := ?_) rfl (by kernel_rfl) (by kernel_rfl) (by kernel_rfl) (yl_other (by decide) (by decide) rfl (fun f1 f2 wx hT => ?_)) ?_; rotate_left
        · refine lands_value (w := wx) ?_ hT; go_simp <;> rfl
        simp only [pu]
        refine anyL_take (i := 19) (v := undef) rfl (by kernel_rfl) (by kernel_rfl) (by kernel_rfl) (yl_first (by decide) rfl (fun f2 wx hT => ?_)) ?_
        · have c0 : wx.cell? ⟨g, q, none⟩ = some (.int .u8 (buF u y f k q : Int)) := hT.c.c q hqN; have f0 := hT.c.fz q hqN; have K := BuW.put (f := buF u y f k) hT HG.out q _ HP.out; rw [← iw_is] at K; go_simp; exact ⟨rfl, K⟩
        simp only [Act.put]
        refine anyL_done (by kernel_rfl) (fun w3 (K : BuW N (buF u y f (k + 1)) g w w3) => ?_) _
        clear hr
        go_wp2_with fail
        go_roundw
        case rel => exact ⟨k + 1, hks, by go_num, K⟩
        case measure => simp [intOf]; omega
      · have HB : Hid (¬ y / 2 ^ k % 2 = 1) := Lib.hid (by rw [← hdd]; exact ho)
        obtain rfl : d = 0 := by omega
        have HP := Lib.hid (buF_not u y f k HB.out)
        clear hdd hp
        go_wp2_with fail
        go_roundw
        case rel => exact ⟨k + 1, hks, by go_num, by rw [← HP.out]; exact hr⟩
        case measure => simp [intOf]; omega
    · have hkE : k = E := by omega
      have hN2 := HN.out
      have hM2 := HM.out
      have hne := bu_ne u y f k (by omega) (by omega) (by omega) HYO.out
      rw [← HN.out] at hne
      obtain ⟨V, hV⟩ : ∃ V, textN N (buF u y f k) = V := ⟨_, rfl⟩
      have hVs : V.size = N := by rw [← hV, textN_size]
      have HV := Lib.hid hV
      rw [hV] at hne
      have CV := Lib.hid (sum_crc V (by omega) _ rfl)
      have CU := Lib.hid (sum_crc u (by omega) _ rfl)
      generalize moreT 0#32 V = xv at *
      generalize moreT 0#32 u = xu at *
      have hxx : ¬ iw xv = iw xu := fun h => hne (BitVec.eq_of_toNat_eq (by rw [iw_is, iw_is] at h; omega))
      have HX : Hid ((iw xv != iw xu) = true) := Lib.hid (bne_iff_ne.2 hxx)
      have hor2 : ¬ ((k : Int) < 32) ∨ ((k : Int) < 32 ∧ IntKind.i64.wrap ((f : Int) + (k : Int)) = (M : Int)) := by
        rcases Nat.lt_or_ge k 32 with h | h
        · exact .inr ⟨by omega, by rw [IntWalk.i64_in _ (by omega)]; omega⟩
        · exact .inl (by omega)
      clear hV hne hkE hE2 hk hlt hM2 hN2 hVs
      rcases hor2 with hq | ⟨hq1, hq2⟩
      all_goals
        have hcv := bytesN_end hr.c (buF_lt u y f k) cap
        rw [HV.out] at hcv
        have hl := hr.l
        clear hr
        go_wp2_with fail
        refine (CV.out _).mono ?_
        rintro e w2 ⟨rfl, b2⟩
        have c2 := hl.trans (b2.mono hl.size)
        clear hl b2 hcv
        go_wp2_with fail
        refine (CU.out _).mono ?_
        rintro e w3 ⟨rfl, b3⟩
        have hl := c2.trans (b3.mono c2.size)
        clear c2 b3
        go_wp2_with fail
        go_ret
        exact ⟨by show Ending.returned (.bool (iw xv != iw xu)) = _; rw [HX.out], hl⟩
set_option maxRecDepth 100000 in
set_option maxHeartbeats 1000000 in
theorem crcBurst_none (s : ByteArray) (x : Int) (b : BitVec 32) (w : World) (he : s.extract 0 (min s.size 1000) = ⟨#[]⟩) :
    Calls Try.prog 5 #[.string s, .int .i64 x, .int .u32 (iw b)] w fun e w' => e = .returned (.bool true) ∧ Below w.heap.size w w' := by
  have HU := Lib.hid he
  clear he
  go_enter Try.func5, Try.ntmps5
  go_wp2_with fail
  refine (examples8_any _).mono ?_
  rintro e w1 ⟨rfl, b1⟩
  go_wp2_with (first | (refine wpList_valK (.int .i64 ((min s.size 1000 : Nat) : Int)) rfl (lands_min (.tmp 15) s.size 1000 rfl rfl rfl) ?_; intro wq hq; subst hq) | rw [HU.out])
  go_ret
  exact ⟨rfl, b1⟩
theorem crcBurst_any (s : ByteArray) (x : Int) (b : BitVec 32) (w : World) (h0 : -9223372036854775808 ≤ x) (h1 : x < 9223372036854775808) :
    Calls Try.prog 5 #[.string s, .int .i64 x, .int .u32 (iw b)] w fun e w' => e = .returned (.bool true) ∧ Below w.heap.size w w' := by
  by_cases he : s.extract 0 (min s.size 1000) = ⟨#[]⟩
  · exact crcBurst_none s x b w he
  · by_cases hx : x < 0
    · obtain ⟨m, hm⟩ := Int.eq_ofNat_of_zero_le (show 0 ≤ -(x + 1) by omega)
      exact crcBurst_neg s x hx m hm (by omega) b w he
    · obtain ⟨m, rfl⟩ := Int.eq_ofNat_of_zero_le (show 0 ≤ x by omega)
      exact crcBurst_pos s m (by omega) b w he
theorem crcBurst_int (s : ByteArray) (x y : Int) (w : World) (x0 : -9223372036854775808 ≤ x) (x1 : x < 9223372036854775808) (y0 : 0 ≤ y) (y1 : y < 4294967296) :
    Calls Try.prog 5 #[.string s, .int .i64 x, .int .u32 y] w fun e w' => e = .returned (.bool true) ∧ Below w.heap.size w w' := by
  obtain ⟨b, rfl⟩ := iw_of32 y0 y1
  exact crcBurst_any s x b w x0 x1
end Go.Proofs.Ytdekapkdgbmjbaa
