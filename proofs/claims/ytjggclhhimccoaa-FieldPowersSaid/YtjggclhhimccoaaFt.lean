/- The document's answer to chapter 3: Root. -/
import Derived.Test.YtjggclhhimccoaaFu
import Derived.Test.YtjggclhhimccoaaFs
namespace Go.Proofs.Ytjggclhhimccoaa
open Go.RowKit
def E4 : Nat := 14474011154664524427946373126085988481658748083205070504932198000989141204987
theorem e3_row : #[Value.int .u64 18446744073709551614, .int .u64 18446744073709551615, .int .u64 18446744073709551615, .int .u64 1152921504606846975] = r64 4 (F4 E3) := by kernel_rfl
theorem e3_built : Try.prog.built 23 [(0, .int .u64 18446744073709551614), (1, .int .u64 18446744073709551615), (2, .int .u64 18446744073709551615), (3, .int .u64 1152921504606846975)] = some #[.int .u64 18446744073709551614, .int .u64 18446744073709551615, .int .u64 18446744073709551615, .int .u64 1152921504606846975] := by kernel_rfl
theorem e4_row : #[Value.int .u64 18446744073709551611, .int .u64 18446744073709551615, .int .u64 18446744073709551615, .int .u64 2305843009213693951] = r64 4 (F4 E4) := by kernel_rfl
theorem e4_built : Try.prog.built 23 [(0, .int .u64 18446744073709551611), (1, .int .u64 18446744073709551615), (2, .int .u64 18446744073709551615), (3, .int .u64 2305843009213693951)] = some #[.int .u64 18446744073709551611, .int .u64 18446744073709551615, .int .u64 18446744073709551615, .int .u64 2305843009213693951] := by kernel_rfl
theorem pow_E4 (a : Nat) : powP a E4 = pmod pP a 254 E4 := (pmod_eq pP a 254 E4 (by decide)).symm
theorem iR_pow : powP 2 E4 = iR := by
  rw [pow_E4]
  decide +kernel
theorem rinvI (a : Nat) (w : World) (ha : a < M256) :
    Calls Try.prog 35 #[.agg (r64 4 (F4 a))] w fun e w' => e = .returned (.agg (r64 4 (F4 (invP a)))) ∧ Below w.heap.size w w' := rinvP a w ha
/-- The tries of the document's Root. -/
def xsV (x : Nat) : Nat → Nat
  | 0 => x
  | k + 1 => mulP (xsV x k) iR
theorem xsV_lt {x : Nat} (hx : x < M256) : ∀ k, xsV x k < M256
  | 0 => hx
  | _ + 1 => mulP_lt _ _
theorem xs_odd {u v x k : Nat} (hk : k < 2) (hn : ∀ j, j < k → ¬ tsV v (xsV x j) = u) (c : tsV v (xsV x k) = u) (ho : oddP (xsV x k) = true) : rootW u v x = (negP (xsV x k), true) := by
  match k, hk with
  | 0, _ => exact rootW_a c ho
  | 1, _ => exact rootW_c (y := xsV x 1) rfl (hn 0 (by omega)) c ho
theorem xs_even {u v x k : Nat} (hk : k < 2) (hn : ∀ j, j < k → ¬ tsV v (xsV x j) = u) (c : tsV v (xsV x k) = u) (ho : oddP (xsV x k) = false) : rootW u v x = (xsV x k, true) := by
  match k, hk with
  | 0, _ => exact rootW_b c ho
  | 1, _ => exact rootW_d (y := xsV x 1) rfl (hn 0 (by omega)) c ho
theorem xs_none {u v x : Nat} (hn : ∀ j, j < 2 → ¬ tsV v (xsV x j) = u) : rootW u v x = (0, false) :=
  rootW_e (y := xsV x 1) rfl (hn 0 (by omega)) (hn 1 (by omega))
set_option maxRecDepth 100000 in
set_option maxHeartbeats 8000000 in
theorem rroot_any (u v : Nat) (w : World) (hu : u < M256) (hv : v < M256) :
    Calls Try.prog 31 #[.agg (r64 4 (F4 u)), .agg (r64 4 (F4 v))] w fun e w' => e = .returned (.tuple #[.agg (r64 4 (F4 (rootW (u % pP) v (powP (mulP u (invP v)) E3)).1)), .bool (rootW (u % pP) v (powP (mulP u (invP v)) E3)).2]) ∧ Below w.heap.size w w' := by
  have HS := Lib.hid fe_size
  have hb := builtE
  have hb3 := e3_built
  have hb4 := e4_built
  have HI3 := Lib.hid e3_row
  have HI4 := Lib.hid e4_row
  have L0 := KF.start u v w
  have hi := invP_lt v
  have cinv := fun w => rinvI v w hv
  have cmul := fun w => rmulP u (invP v) w hu hi
  have hm := mulP_lt u (invP v)
  generalize invP v = iv at cinv cmul hm ⊢
  generalize mulP u iv = m at cmul hm ⊢
  have cpow := fun w => rpowP m E3 w hm (by decide)
  have cpi := fun w => rpowP 2 E4 w (by decide) (by decide)
  rw [iR_pow] at cpi
  have hx := powP_lt m E3
  generalize powP m E3 = x0 at cpow hx ⊢
  have cdig := fun w => digits_any u w hu
  have cwor := fun w => words_any (u % pP) w
  have hu1 : u % pP < M256 := mod_lt_M _
  generalize u % pP = u1 at cdig cwor hu1 ⊢
  generalize E3 = e3 at HI3 cpow
  generalize E4 = e4 at HI4 cpi
  go_enter Try.func31, Try.ntmps31
  go_wp2_with fail
  refine wp_gen (KF w.heap.size w [(w.heap.size, F4 u), (w.heap.size + 1, F4 v), (w.heap.size + 2, zF)]) L0 (fun w1 h1 => ?_)
  clear L0
  refine wp_region_anyA (TwoA 5 4 (KQ w.heap.size w [(w.heap.size, F4 u), (w.heap.size + 1, F4 v), (w.heap.size + 2, zF)] m)) 4 (by kernel_rfl) (KQ.begin h1.drew _) ?_
  refine anyA_take (i := 0) (v := .agg (r64 4 (F4 u))) rfl (by decide) (by kernel_rfl) (by kernel_rfl) (by kernel_rfl) (fun q => ya_other (by decide) (by decide) rfl (fun f1 f2 wx hT => ?_)) ?_
  · exact lands_fe _ rfl _ rfl _ (hT.k.blk _ m0) hT
  simp only [Act.put, List.setIfInBounds_toArray, List.set_cons_zero, List.set_cons_succ]
  refine anyA_take (i := 1) (v := .agg (r64 4 (F4 v))) rfl (by decide) (by kernel_rfl) (by kernel_rfl) (by kernel_rfl) (fun q => ya_other (by decide) (by decide) rfl (fun f1 f2 wx hT => ?_)) ?_
  · exact lands_fe _ rfl _ rfl _ (hT.k.blk _ m1) hT
  simp only [Act.put, List.setIfInBounds_toArray, List.set_cons_zero, List.set_cons_succ]
  refine anyA_take (i := 2) (v := .agg (r64 4 (F4 iv))) rfl (by decide) (by kernel_rfl) (by kernel_rfl) (by kernel_rfl) (fun q => ya_other (by decide) (by decide) rfl (fun f1 f2 wx hT => ?_)) ?_
  · exact lands_calls (w := wx) ((cinv wx).mono fun _ _ ⟨he, hb⟩ => ⟨he, hT.below hb⟩) (by go_simp)
  simp only [Act.put, List.setIfInBounds_toArray, List.set_cons_zero, List.set_cons_succ]
  refine anyA_take (i := 3) (v := .agg (r64 4 (F4 m))) rfl (by decide) (by kernel_rfl) (by kernel_rfl) (by kernel_rfl) (fun q => ya_other (by decide) (by decide) rfl (fun f1 f2 wx hT => ?_)) ?_
  · exact lands_calls (w := wx) ((cmul wx).mono fun _ _ ⟨he, hb⟩ => ⟨he, hT.below hb⟩) (by go_simp)
  simp only [Act.put, List.setIfInBounds_toArray, List.set_cons_zero, List.set_cons_succ]
  refine anyA_made rfl (by kernel_rfl) (by kernel_rfl) (by kernel_rfl) (fun q => ya_made (n := 3) (by decide) (by kernel_rfl) rfl (fun q' wx hT => ?_)) ?_
  · exact ⟨_, _, (by go_simp <;> rfl), hT.made⟩
  simp only [Act.put, List.setIfInBounds_toArray, List.set_cons_zero, List.set_cons_succ]
  refine anyA_take (i := 5) (v := undef) rfl (by decide) (by kernel_rfl) (by kernel_rfl) (by kernel_rfl) (fun q => ya_store (by decide) (by kernel_rfl) rfl (fun wx hT => ?_)) ?_
  · exact hT.stored _ _ rfl rfl rfl
  simp only [Act.put]
  refine anyA_done (by kernel_rfl) (fun q w2 (K : KQ _ _ _ _ true true q w2) => ?_) _
  obtain ⟨g6, rfl, h2, hl6, hB6⟩ := K.out
  clear K h1 cinv cmul hl6 hB6
  go_wp2_with (first
    | (refine wpList_load_row rfl 24 _ rfl g6 rfl 24 _ (0, 0) _ (h2.blk _ m0) Try.underlying24 rfl (HS.out _) ?_))
  rw [HI3.out]
  refine (cpow _).mono ?_
  rintro e w3 ⟨rfl, hq⟩
  have h3 := h2.below hq
  clear h2 hq cpow hb3
  go_wp2_with (first
    | (refine wpList_store_row rfl 24 _ _ rfl w3.heap.size (r64 4 (F4 x0)) rfl rfl 24 (r64 4 zF) ((Blk.new w3 _ _).cast_ zero4') (HS.out _) (by simp only [row_size]) (row_one fun _ => rfl) ?_; refine wpList_gen (KF w.heap.size w ((w3.heap.size, F4 x0) :: (g6, F4 m) :: [(w.heap.size, F4 u), (w.heap.size + 1, F4 v), (w.heap.size + 2, zF)])) (h3.new _ _) (fun w4 h4 => ?_)))
  have l7 : w.heap.size + 2 < w3.heap.size := h3.lt _ m3
  clear h3
  generalize w3.heap.size = g7 at h4 l7 ⊢
  refine (rsmall2 _).mono ?_
  rintro e w5 ⟨rfl, hq⟩
  have h5 := h4.below hq
  clear h4 hq
  go_wp2_with fail
  rw [HI4.out]
  refine (cpi _).mono ?_
  rintro e w6 ⟨rfl, hq⟩
  have h6 := h5.below hq
  clear h5 hq cpi hb4
  go_wp2_with (first
    | (refine wpList_store_row rfl 24 _ _ rfl w6.heap.size (r64 4 (F4 iR)) rfl rfl 24 (r64 4 zF) ((Blk.new w6 _ _).cast_ zero4') (HS.out _) (by simp only [row_size]) (row_one fun _ => rfl) ?_; refine wpList_gen (KF w.heap.size w ((w6.heap.size, F4 iR) :: (g7, F4 x0) :: (g6, F4 m) :: [(w.heap.size, F4 u), (w.heap.size + 1, F4 v), (w.heap.size + 2, zF)])) (h6.new _ _) (fun w7 h7 => ?_))
    | (refine wpList_load_row rfl 24 _ rfl w.heap.size rfl 24 _ (0, 0) _ (h7.blk _ m3) Try.underlying24 rfl (HS.out _) ?_))
  have l8 : g7 < w6.heap.size := h6.lt _ m0
  clear h6
  generalize w6.heap.size = g8 at h7 l8 ⊢
  refine (cdig _).mono ?_
  rintro e w8 ⟨rfl, hq⟩
  have h8 := h7.below hq
  clear h7 hq cdig
  go_wp2_with fail
  refine (cwor _).mono ?_
  rintro e w9 ⟨rfl, hq⟩
  have h9 := h8.below hq
  clear h8 hq cwor
  go_wp2_with (first
    | (refine wpList_store_row rfl 24 _ _ rfl w9.heap.size (r64 4 (F4 u1)) rfl rfl 24 (r64 4 zF) ((Blk.new w9 _ _).cast_ zero4') (HS.out _) (by simp only [row_size]) (row_one fun _ => rfl) ?_; refine wpList_gen (KF w.heap.size w ((w9.heap.size, F4 u1) :: (g8, F4 iR) :: (g7, F4 x0) :: (g6, F4 m) :: [(w.heap.size, F4 u), (w.heap.size + 1, F4 v), (w.heap.size + 2, zF)])) (h9.new _ _) (fun wa ha => ?_)))
  have l9 : g8 < w9.heap.size := h9.lt _ m0
  clear h9
  generalize w9.heap.size = g9 at ha l9 ⊢
  have hr0 : KF w.heap.size w [(g7, F4 (xsV x0 0)), (w.heap.size + 1, F4 v), (w.heap.size + 2, zF), (g8, F4 iR), (g9, F4 u1)] wa := ha.sub (fun x hx => by
    simp only [List.mem_cons, List.not_mem_nil, or_false] at hx ⊢
    rcases hx with rfl | rfl | rfl | rfl | rfl
    · exact .inr (.inr (.inl rfl))
    · exact .inr (.inr (.inr (.inr (.inr (.inl rfl)))))
    · exact .inr (.inr (.inr (.inr (.inr (.inr rfl)))))
    · exact .inr (.inl rfl)
    · exact .inl rfl)
  have hg7 : Hid (∀ x ∈ [(w.heap.size + 1, F4 v), (w.heap.size + 2, zF), (g8, F4 iR), (g9, F4 u1)], x.1 ≠ g7) := Lib.hid (by
    intro x hx
    simp only [List.mem_cons, List.not_mem_nil, or_false] at hx
    rcases hx with rfl | rfl | rfl | rfl
    · show w.heap.size + 1 ≠ g7; omega
    · show w.heap.size + 2 ≠ g7; omega
    · show g8 ≠ g7; omega
    · show g9 ≠ g7; omega)
  clear ha
  go_loopw [10] (fun i wr => ∃ k : Nat, k ≤ 2 ∧ i = .int .i64 (k : Int) ∧ Hid (∀ j, j < k → ¬ tsV v (xsV x0 j) = u1) ∧ KF w.heap.size w [(g7, F4 (xsV x0 k)), (w.heap.size + 1, F4 v), (w.heap.size + 2, zF), (g8, F4 iR), (g9, F4 u1)] wr) (fun i _ => 2 - (intOf i).toNat)
  case atStart => exact ⟨0, by omega, rfl, Lib.hid (fun j hj => by omega), hr0⟩
  case round =>
    obtain ⟨k, hk, rfl, HN, hr⟩ := hrel
    clear hr0
    by_cases hlt : k < 2
    · have hxk := xsV_lt hx k
      by_cases c : tsV v (xsV x0 k) = u1
      · have HO := Lib.hid (fun ho => xs_odd hlt HN.out c ho)
        have HE := Lib.hid (fun ho => xs_even hlt HN.out c ho)
        have HC := Lib.hid (decide_eq_true c)
        clear HN c
        go_wp2_with fail
        clear hlt hk
        generalize xsV x0 k = x at HO HE HC hr hxk ⊢
        refine wp_region_anyL (Two 1000 1001 fun _ _ wx => KF w.heap.size w [(g7, F4 x), (w.heap.size + 1, F4 v), (w.heap.size + 2, zF), (g8, F4 iR), (g9, F4 u1)] wx) (by kernel_rfl) hr.drew ?_
        refine anyL_take (i := 0) (v := .agg (r64 4 (F4 v))) rfl (by kernel_rfl) (by kernel_rfl) (by kernel_rfl) (yl_other (by decide) (by decide) rfl (fun f1 f2 wx hT => ?_)) ?_
        · exact lands_fe _ rfl _ rfl _ (hT.blk _ m1) hT
        simp only [Act.put, List.setIfInBounds_toArray, List.set_cons_zero, List.set_cons_succ]
        refine anyL_take (i := 1) (v := .agg (r64 4 (F4 x))) rfl (by kernel_rfl) (by kernel_rfl) (by kernel_rfl) (yl_other (by decide) (by decide) rfl (fun f1 f2 wx hT => ?_)) ?_
        · exact lands_fe _ rfl _ rfl _ (hT.blk _ m0) hT
        simp only [Act.put, List.setIfInBounds_toArray, List.set_cons_zero, List.set_cons_succ]
        refine anyL_take (i := 2) (v := .agg (r64 4 (F4 x))) rfl (by kernel_rfl) (by kernel_rfl) (by kernel_rfl) (yl_other (by decide) (by decide) rfl (fun f1 f2 wx hT => ?_)) ?_
        · exact lands_fe _ rfl _ rfl _ (hT.blk _ m0) hT
        simp only [Act.put, List.setIfInBounds_toArray, List.set_cons_zero, List.set_cons_succ]
        refine anyL_take (i := 3) (v := .agg (r64 4 (F4 (mulP x x)))) rfl (by kernel_rfl) (by kernel_rfl) (by kernel_rfl) (yl_other (by decide) (by decide) rfl (fun f1 f2 wx hT => ?_)) ?_
        · exact lands_calls (w := wx) ((rmulP x x wx hxk hxk).mono fun _ _ ⟨he, hb⟩ => ⟨he, hT.below hb⟩) (by go_simp)
        simp only [Act.put, List.setIfInBounds_toArray, List.set_cons_zero, List.set_cons_succ]
        refine anyL_take (i := 4) (v := .agg (r64 4 (F4 (tsV v x)))) rfl (by kernel_rfl) (by kernel_rfl) (by kernel_rfl) (yl_other (by decide) (by decide) rfl (fun f1 f2 wx hT => ?_)) ?_
        · exact lands_calls (w := wx) ((rmulP v (mulP x x) wx hv (mulP_lt _ _)).mono fun _ _ ⟨he, hb⟩ => ⟨he, hT.below hb⟩) (by go_simp)
        simp only [Act.put, List.setIfInBounds_toArray, List.set_cons_zero, List.set_cons_succ]
        refine anyL_take (i := 5) (v := .agg (r64 4 (F4 u1))) rfl (by kernel_rfl) (by kernel_rfl) (by kernel_rfl) (yl_other (by decide) (by decide) rfl (fun f1 f2 wx hT => ?_)) ?_
        · exact lands_fe _ rfl _ rfl _ (hT.blk _ m4) hT
        simp only [Act.put, List.setIfInBounds_toArray, List.set_cons_zero, List.set_cons_succ]
        refine anyL_take (i := 6) (v := .bool true) rfl (by kernel_rfl) (by kernel_rfl) (by kernel_rfl) (yl_other (by decide) (by decide) rfl (fun f1 f2 wx hT => ?_)) ?_
        · exact lands_eql _ _ rfl (tsV v x) u1 rfl rfl (mod_lt_M _) hu1 true HC.out hT
        simp only [Act.put, List.setIfInBounds_toArray, List.set_cons_zero, List.set_cons_succ]
        refine anyL_done (by kernel_rfl) (fun ws (hs : KF w.heap.size w [(g7, F4 x), (w.heap.size + 1, F4 v), (w.heap.size + 2, zF), (g8, F4 iR), (g9, F4 u1)] ws) => ?_) _
        clear hr HC
        go_wp2_with (first
          | (refine wpList_load_row rfl 24 _ rfl g7 rfl 24 _ (0, 0) _ (hs.blk _ m0) Try.underlying24 rfl (HS.out _) ?_))
        refine (roddP x _ hxk).mono ?_
        rintro e wt ⟨rfl, hq⟩
        have ht := hs.below hq
        clear hq hs
        cases ho : oddP x with
        | true =>
          have HV := Lib.hid (HO.out ho)
          clear ho HO HE
          go_wp2_with (first
            | (refine wpList_load_row rfl 24 _ rfl g7 rfl 24 _ (0, 0) _ (ht.blk _ m0) Try.underlying24 rfl (HS.out _) ?_))
          refine (rnegP x _ hxk).mono ?_
          rintro e wn ⟨rfl, hq⟩
          have hn := ht.below hq
          clear hq ht
          generalize negP x = y at HV ⊢
          go_wp2_with (first
            | (refine wpList_store_row rfl 24 _ _ rfl g7 (r64 4 (F4 y)) rfl rfl 24 _ (hn.blk _ m0) (HS.out _) (by simp only [row_size]) (row_one fun _ => rfl) ?_; refine wpList_gen (KF w.heap.size w [(g7, F4 y), (w.heap.size + 1, F4 v), (w.heap.size + 2, zF), (g8, F4 iR), (g9, F4 u1)]) (hn.put0 (by omega) hg7.out _) (fun wz hz => ?_))
            | (refine wpList_load_row rfl 24 _ rfl g7 rfl 24 _ (0, 0) _ (hz.blk _ m0) Try.underlying24 rfl (HS.out _) ?_)
            | (refine wpList_store_row rfl 24 _ _ rfl (w.heap.size + 2) (r64 4 (F4 y)) rfl rfl 24 _ (hz.blk _ m2) (HS.out _) (by simp only [row_size]) (row_one fun _ => rfl) ?_))
          exact bodyPost_ret (results_cell_row_slot rfl _ _ (w.heap.size + 2) 24 (r64 4 (F4 y)) (0, 0) _ _ rfl ((hz.blk _ m2).row_ _) Try.underlying24 rfl (HS.out _) rfl) rfl ⟨by rw [HV.out]; rfl, below_setRow' hz.b (by omega) _⟩
        | false =>
          have HV := Lib.hid (HE.out ho)
          clear ho HO HE
          go_wp2_with (first
            | (refine wpList_load_row rfl 24 _ rfl g7 rfl 24 _ (0, 0) _ (ht.blk _ m0) Try.underlying24 rfl (HS.out _) ?_)
            | (refine wpList_store_row rfl 24 _ _ rfl (w.heap.size + 2) (r64 4 (F4 x)) rfl rfl 24 _ (ht.blk _ m2) (HS.out _) (by simp only [row_size]) (row_one fun _ => rfl) ?_))
          exact bodyPost_ret (results_cell_row_slot rfl _ _ (w.heap.size + 2) 24 (r64 4 (F4 x)) (0, 0) _ _ rfl ((ht.blk _ m2).row_ _) Try.underlying24 rfl (HS.out _) rfl) rfl ⟨by rw [HV.out]; rfl, below_setRow' ht.b (by omega) _⟩
      · have HN' : Hid (∀ j, j < k + 1 → ¬ tsV v (xsV x0 j) = u1) := Lib.hid (fun j hj => by
          by_cases h : j = k
          · subst h; exact c
          · exact HN.out j (by omega))
        have HC := Lib.hid (decide_eq_false c)
        have HX := Lib.hid (show xsV x0 (k + 1) = mulP (xsV x0 k) iR from rfl)
        clear HN c
        go_wp2_with fail
        generalize xsV x0 k = x at HX HC hr hxk
        refine wp_region_anyL (Two 1000 1001 fun _ _ wx => KF w.heap.size w [(g7, F4 x), (w.heap.size + 1, F4 v), (w.heap.size + 2, zF), (g8, F4 iR), (g9, F4 u1)] wx) (by kernel_rfl) hr.drew ?_
        refine anyL_take (i := 0) (v := .agg (r64 4 (F4 v))) rfl (by kernel_rfl) (by kernel_rfl) (by kernel_rfl) (yl_other (by decide) (by decide) rfl (fun f1 f2 wx hT => ?_)) ?_
        · exact lands_fe _ rfl _ rfl _ (hT.blk _ m1) hT
        simp only [Act.put, List.setIfInBounds_toArray, List.set_cons_zero, List.set_cons_succ]
        refine anyL_take (i := 1) (v := .agg (r64 4 (F4 x))) rfl (by kernel_rfl) (by kernel_rfl) (by kernel_rfl) (yl_other (by decide) (by decide) rfl (fun f1 f2 wx hT => ?_)) ?_
        · exact lands_fe _ rfl _ rfl _ (hT.blk _ m0) hT
        simp only [Act.put, List.setIfInBounds_toArray, List.set_cons_zero, List.set_cons_succ]
        refine anyL_take (i := 2) (v := .agg (r64 4 (F4 x))) rfl (by kernel_rfl) (by kernel_rfl) (by kernel_rfl) (yl_other (by decide) (by decide) rfl (fun f1 f2 wx hT => ?_)) ?_
        · exact lands_fe _ rfl _ rfl _ (hT.blk _ m0) hT
        simp only [Act.put, List.setIfInBounds_toArray, List.set_cons_zero, List.set_cons_succ]
        refine anyL_take (i := 3) (v := .agg (r64 4 (F4 (mulP x x)))) rfl (by kernel_rfl) (by kernel_rfl) (by kernel_rfl) (yl_other (by decide) (by decide) rfl (fun f1 f2 wx hT => ?_)) ?_
        · exact lands_calls (w := wx) ((rmulP x x wx hxk hxk).mono fun _ _ ⟨he, hb⟩ => ⟨he, hT.below hb⟩) (by go_simp)
        simp only [Act.put, List.setIfInBounds_toArray, List.set_cons_zero, List.set_cons_succ]
        refine anyL_take (i := 4) (v := .agg (r64 4 (F4 (tsV v x)))) rfl (by kernel_rfl) (by kernel_rfl) (by kernel_rfl) (yl_other (by decide) (by decide) rfl (fun f1 f2 wx hT => ?_)) ?_
        · exact lands_calls (w := wx) ((rmulP v (mulP x x) wx hv (mulP_lt _ _)).mono fun _ _ ⟨he, hb⟩ => ⟨he, hT.below hb⟩) (by go_simp)
        simp only [Act.put, List.setIfInBounds_toArray, List.set_cons_zero, List.set_cons_succ]
        refine anyL_take (i := 5) (v := .agg (r64 4 (F4 u1))) rfl (by kernel_rfl) (by kernel_rfl) (by kernel_rfl) (yl_other (by decide) (by decide) rfl (fun f1 f2 wx hT => ?_)) ?_
        · exact lands_fe _ rfl _ rfl _ (hT.blk _ m4) hT
        simp only [Act.put, List.setIfInBounds_toArray, List.set_cons_zero, List.set_cons_succ]
        refine anyL_take (i := 6) (v := .bool false) rfl (by kernel_rfl) (by kernel_rfl) (by kernel_rfl) (yl_other (by decide) (by decide) rfl (fun f1 f2 wx hT => ?_)) ?_
        · exact lands_eql _ _ rfl (tsV v x) u1 rfl rfl (mod_lt_M _) hu1 false HC.out hT
        simp only [Act.put, List.setIfInBounds_toArray, List.set_cons_zero, List.set_cons_succ]
        refine anyL_done (by kernel_rfl) (fun ws (hs : KF w.heap.size w [(g7, F4 x), (w.heap.size + 1, F4 v), (w.heap.size + 2, zF), (g8, F4 iR), (g9, F4 u1)] ws) => ?_) _
        clear hr HC
        go_wp2_with (first
          | (refine wpList_load_row rfl 24 _ rfl g7 rfl 24 _ (0, 0) _ (hs.blk _ m0) Try.underlying24 rfl (HS.out _) ?_)
          | (refine wpList_load_row rfl 24 _ rfl g8 rfl 24 _ (0, 0) _ (hs.blk _ m3) Try.underlying24 rfl (HS.out _) ?_))
        refine (rmulP x iR _ hxk (by decide)).mono ?_
        rintro e wm ⟨rfl, hq⟩
        have hm' := hs.below hq
        clear hq hs
        rw [← HX.out]
        go_wp2_with (first
          | (refine wpList_store_row rfl 24 _ _ rfl g7 (r64 4 (F4 (xsV x0 (k + 1)))) rfl rfl 24 _ (hm'.blk _ m0) (HS.out _) (by simp only [row_size]) (row_one fun _ => rfl) ?_; refine wpList_gen (KF w.heap.size w [(g7, F4 (xsV x0 (k + 1))), (w.heap.size + 1, F4 v), (w.heap.size + 2, zF), (g8, F4 iR), (g9, F4 u1)]) (hm'.put0 (by omega) hg7.out _) (fun wz hz => ?_)))
        go_roundw
        case rel => exact ⟨k + 1, by omega, by go_num, HN', hz⟩
        case measure => simp [intOf]; omega
    · obtain rfl : k = 2 := by omega
      have HV := Lib.hid (xs_none HN.out)
      clear HN hlt hk
      go_wp2_with (first
        | (refine wpList_store_row rfl 24 _ _ rfl (w.heap.size + 2) (r64 4 (F4 0)) rfl (congrArg Value.agg zero4F) 24 _ (hr.blk _ m2) (HS.out _) (by simp only [row_size]) (row_one fun _ => rfl) ?_))
      exact bodyPost_ret (results_cell_row_slot rfl _ _ (w.heap.size + 2) 24 (r64 4 (F4 0)) (0, 0) _ _ rfl ((hr.blk _ m2).row_ _) Try.underlying24 rfl (HS.out _) rfl) rfl ⟨by rw [HV.out]; rfl, below_setRow' hr.b (by omega) _⟩
end Go.Proofs.Ytjggclhhimccoaa
