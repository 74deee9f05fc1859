/- Strip: the developers'. -/
import Derived.Test.YtkbjgaobhbiieaaMG
import Derived.Test.YtkbjgaobhbiieaaDerTwice
namespace Go.Proofs.Ytkbjgaobhbiieaa
open Go.RowKit
theorem catT_bound (l : List It) (B : Nat) (h : ∀ y ∈ l, y.2.1.size ≤ B) : (catT (l.map tx2)).size ≤ l.length * (B + 5) := by
  have := catT_size (l.map tx2) B fun y hy => by
    obtain ⟨z, hz, rfl⟩ := List.mem_map.1 hy
    exact h z hz
  rwa [List.length_map] at this
set_option maxRecDepth 100000 in
set_option maxHeartbeats 8000000 in
theorem strip_at (s : ByteArray) (w : World) (hs : s.size ≤ 281474976710656) (A C : List It) (y : It) (hP : bodyD s = (A ++ y :: C, 0)) (hA : ∀ z ∈ A, isX z = false) (hy : isX y = true) :
    Calls Try.prog 17 #[.string s] w fun e w' => e = .returned (.tuple #[.string (stripD s).1, .bool (stripD s).2.1, .int .i64 ((stripD s).2.2 : Int)]) ∧ Below w.heap.size w w' := by
  obtain ⟨res, hres⟩ : ∃ res, res = stripD s := ⟨_, rfl⟩
  rw [← hres]
  unfold stripD at hres
  have hsz := @body_size s
  have CB := bodyOf_any s w hs
  rw [hP] at hres hsz CB
  replace CB := Lib.hid CB
  replace hres : res = (stepsD (A ++ y :: C) ⟨#[]⟩ false 0).elim (⟨#[]⟩, false, 2) fun r => if 1 < r.2 then (⟨#[]⟩, false, 2) else if r.2 = 0 then (⟨#[]⟩, false, 0) else (wrapT 48 r.1, true, 0) := hres
  rw [steps_at A y C _ _ hA hy, noneD_app] at hres
  obtain ⟨hPL, hPZ⟩ := hsz
  replace hPL : (A ++ y :: C).length ≤ 100 := hPL
  replace hPZ : ∀ z ∈ A ++ y :: C, z.2.1.size ≤ 2000 ∧ z.1 < 256 := hPZ
  have HPL : Hid ((A ++ y :: C).length ≤ 1000) := Lib.hid (by omega)
  have HPZ := Lib.hid hPZ
  have hIX : idxX (A ++ y :: C) = (A.length : Int) := by
    have := idxF_some A y C 0 hA hy
    rw [Nat.zero_add] at this
    exact this
  have hysz := hPZ y (List.mem_append_right _ (List.mem_cons_self ..))
  have CH := Lib.hid fun wx => harmless_any y.2.1 wx (by omega)
  have HXO : Hid (∀ L, extsD y.2.1 = some L → (∀ z ∈ L, extOk z = true) ∧ L.length ≤ 100 ∧ ∀ z ∈ L, z.2.1.size ≤ y.2.1.size ∧ z.1 < 256) := Lib.hid fun L h => exts_ok h
  have HYZ := Lib.hid hysz
  have HRS := Lib.hid hres
  have HA := Lib.hid hA
  have HY163 : Hid (y.1 = 163) := Lib.hid (by unfold isX at hy; simpa using hy)
  generalize extsD y.2.1 = X at HRS CH HXO
  obtain ⟨P, hPd⟩ : ∃ P, P = A ++ y :: C := ⟨_, rfl⟩
  have HP := Lib.hid hPd
  rw [← hPd] at CB HPL hIX
  have HK : Hid (A.length < P.length) := Lib.hid (by rw [hPd, List.length_append, List.length_cons]; omega)
  have hP100 : P.length ≤ 100 := by rw [hPd]; exact hPL
  have HP100 := Lib.hid hP100
  have HPY : Hid (P[A.length]? = some y) := Lib.hid (by rw [hPd, List.getElem?_append_right (Nat.le_refl _), Nat.sub_self]; rfl)
  clear hres hP hA hy hysz hPL hPZ hs hPd hP100
  obtain ⟨k, hk⟩ : ∃ k, k = A.length := ⟨_, rfl⟩
  have HKA := Lib.hid hk
  rw [← hk] at hIX HK HPY
  clear hk
  have HB0 := Lib.hid (Nat.le_refl w.heap.size)
  go_enter Try.func17, Try.ntmps17
  go_wp2_with fail
  refine CB.out.mono ?_
  rintro e w1 ⟨v, rfl, h1⟩
  have H1 := Lib.hid h1
  have CI := Lib.hid (idx_any P w1 h1 HPL.out)
  obtain ⟨p, c, hu⟩ := h1.len
  rw [List.length_map] at hu
  subst hu
  clear h1
  go_wp2_with fail
  refine CI.out.mono ?_
  rintro e w2 ⟨rfl, b2⟩
  have H2 := Lib.hid (H1.out.below b2)
  clear b2
  obtain ⟨g, cap, hv, c0, c1, c2, hgB, hcap⟩ := H2.out.item k y HPY.out
  injection hv with hp hz hc
  subst hp hc
  clear hz
  rw [hIX] at *
  have hkn : ¬ (k : Int) < 0 := by omega
  have hk0 : (0 : Int) ≤ (k : Int) := by omega
  have hkl : (k : Int) < (P.length : Int) := by have := HK.out; omega
  have hkN : k < P.length := HK.out
  have HG := Lib.hid hgB
  clear hgB hcap CB CI H1
  go_wp2_with fail
  refine (CH.out _).mono ?_
  rintro e w3 ⟨v3, rfl, h3⟩
  have H3 := Lib.hid h3
  have HB3 := Lib.hid (H2.out.below h3.b)
  have HBW3 := Lib.hid HB3.out.b
  obtain ⟨p3, k3, hu3⟩ := h3.len
  rw [List.length_map] at hu3
  subst hu3
  clear h3 CH c0 c1 c2
  cases X with
  | none =>
    have HRES : Hid (res = (⟨#[]⟩, false, 2)) := Lib.hid HRS.out
    go_wp2_with fail
    go_ret3
    rw [HRES.out]
    exact ⟨rfl, HBW3.out⟩
  | some L =>
    have HXL := Lib.hid (HXO.out L rfl)
    have HRS2 : Hid (res = if 1 < 0 + manyD L then (⟨#[]⟩, false, 2) else if 0 + manyD L = 0 then (⟨#[]⟩, false, 0) else (wrapT 48 ((if (innerD L).size = 0 then catT (A.map tx2) else catT (A.map tx2) ++ wrapT 163 (wrapT 48 (innerD L))) ++ catT (C.map tx2)), true, 0)) := Lib.hid HRS.out
    have H3L : Hid (LS 24 3 w2.heap.size w2 ((keepD L).map encIt) (.slice p3 (keepD L).length k3) w3) := Lib.hid H3.out
    have HML : Hid (manyD L ≤ 100) := Lib.hid (by have := manyD_len L; have := HXL.out.2.1; omega)
    have HKL : Hid ((keepD L).length ≤ 100 ∧ ∀ z ∈ keepD L, z.2.1.size ≤ 2000 ∧ z.1 < 256) := Lib.hid ⟨by have := keepD_len L; have := HXL.out.2.1; omega, fun z hz => by
      have := HXL.out.2.2 z (List.mem_filter.1 hz).1
      have := HYZ.out.1
      exact ⟨by omega, by omega⟩⟩
    have HIN := Lib.hid (inner_is L HXL.out.1)
    simp only [Option.elim_some, Option.isSome_some]
    obtain ⟨M, hM⟩ : ∃ M, M = (keepD L).length := ⟨_, rfl⟩
    have HMM := Lib.hid hM
    rw [← hM]
    clear hM
    generalize hmd : manyD L = md at HRS2 HML ⊢
    clear hmd HRS
    by_cases hm1 : 1 < md
    · have HRES : Hid (res = (⟨#[]⟩, false, 2)) := Lib.hid (by rw [HRS2.out, if_pos (by omega)])
      have hm1i : (1 : Int) < (md : Int) := by omega
      clear hm1
      go_wp2_with fail
      go_ret3
      rw [HRES.out]
      exact ⟨rfl, HBW3.out⟩
    · have hm1i : ¬ (1 : Int) < (md : Int) := by omega
      by_cases hm0 : md = 0
      · have HRES : Hid (res = (⟨#[]⟩, false, 0)) := Lib.hid (by rw [HRS2.out, if_neg (by omega), if_pos (by omega)])
        subst hm0
        clear hm1 hm1i
        go_wp2_with fail
        go_ret3
        rw [HRES.out]
        exact ⟨rfl, HBW3.out⟩
      · obtain rfl : md = 1 := by omega
        clear hm1 hm0 hm1i
        have hkw : IntKind.i64.wrap ((k : Int) + 1) = ((k + 1 : Nat) : Int) := by have := HK.out; have := HP100.out; rw [IntWalk.i64_in _ (by omega)]; rfl
        by_cases hkeep : keepD L = []
        · obtain ⟨F, hF⟩ : ∃ F, F = wrapT 48 (catT ((A ++ C).map tx2)) := ⟨_, rfl⟩
          have HF := Lib.hid hF
          clear hF
          have HRES : Hid (res = (F, true, 0)) := Lib.hid (by
            rw [HF.out, HRS2.out, if_neg (by decide), if_neg (by decide), if_pos (by rw [HIN.out, hkeep]; rfl), List.map_append, catT_append])
          have hB3 := HB3.out
          rw [HP.out] at hB3
          have CD := delete_any A C y _ w3 hB3 (by rw [← HP.out]; have := HP100.out; omega)
          rw [← HKA.out, Int.natCast_succ, ← HP.out] at CD
          replace CD := Lib.hid CD
          obtain ⟨N, hN⟩ : ∃ N, N = (A ++ C).length := ⟨_, rfl⟩
          have HNN := Lib.hid hN
          clear hN
          have CL : Hid (∀ (p' : Option Addr) (cap' : Nat) (wx : World) (hr : RS 3 p' N cap' ((A ++ C).map encIt) wx), Calls Try.prog 29 #[.slice p' N cap'] wx fun e w' => e = .returned (.string F) ∧ Below wx.heap.size wx w') := Lib.hid fun p' cap' wx hr => by
            rw [HNN.out] at hr ⊢
            rw [HF.out]
            have hz2 : ∀ z ∈ A ++ C, z.2.1.size ≤ 2000 ∧ z.1 < 256 := fun z hz => HPZ.out z (by
              rcases List.mem_append.1 hz with h | h
              · exact List.mem_append_left _ h
              · exact List.mem_append_right _ (List.mem_cons_of_mem _ h))
            have hlen : (A ++ C).length ≤ 100 := by have := HP100.out; rw [HP.out] at this; simp only [List.length_append, List.length_cons] at this ⊢; omega
            exact listOf_any p' cap' (A ++ C) wx hr (by omega) (by
              have h1 := catT_bound (A ++ C) 2000 fun z hz => (hz2 z hz).1
              have h2 : (A ++ C).length * 2005 ≤ 100 * 2005 := Nat.mul_le_mul hlen (Nat.le_refl _)
              omega) fun z hz => by have := hz2 z hz; exact ⟨this.2, by omega⟩
          obtain rfl : M = 0 := by rw [HMM.out, hkeep]; rfl
          clear hB3 hkeep
          go_wp2_with fail
          refine CD.out.mono ?_
          rintro e w4 ⟨v4, rfl, h4⟩
          obtain ⟨p4, k4, hv4, hr4, _⟩ := h4.rs
          rw [List.length_map, ← HNN.out] at hv4 hr4
          have C5 := Lib.hid (CL.out p4 k4 w4 hr4)
          have HB4 := Lib.hid h4.b
          subst hv4
          clear h4 hr4 CD
          go_wp2_with fail
          refine C5.out.mono ?_
          rintro e w5 ⟨rfl, b5⟩
          have HE := Lib.hid (HB4.out.trans (b5.mono HB4.out.size))
          clear b5
          go_wp2_with fail
          go_ret3
          rw [HRES.out]
          exact ⟨rfl, HE.out⟩
        · have hlen : ¬ (M : Int) = 0 := by
            have : (keepD L).length ≠ 0 := fun h => hkeep (List.length_eq_zero_iff.1 h)
            rw [← HMM.out] at this
            omega
          have hlenb : ((M : Int) == 0) = false := by simpa using hlen
          obtain ⟨tz, htz⟩ : ∃ tz, tz = wrapT 48 (catT ((keepD L).map tx2)) := ⟨_, rfl⟩
          have HRES : Hid (res = (wrapT 48 (catT ((A ++ (y.1, tz, y.2.2) :: C).map tx2)), true, 0)) := Lib.hid (by
            rw [HRS2.out, if_neg (by decide), if_neg (by decide), if_neg (fun h => hkeep (by
              rw [HIN.out] at h
              have := (catT_none _).1 h
              exact List.map_eq_nil_iff.1 this)), List.map_append, List.map_cons, catT_append, app_assocD, HIN.out, ← htz]
            show (wrapT 48 (catT (A.map tx2) ++ (wrapT 163 tz ++ catT (C.map tx2))), _) = (wrapT 48 (catT (A.map tx2) ++ (wrapT y.1 tz ++ catT (C.map tx2))), _)
            rw [HY163.out])
          obtain ⟨F, hF⟩ : ∃ F, F = wrapT 48 (catT ((A ++ (y.1, tz, y.2.2) :: C).map tx2)) := ⟨_, rfl⟩
          have HF := Lib.hid hF
          rw [← hF] at HRES
          clear hF
          have HTZ : Hid (tz.size ≤ 300000) := Lib.hid (by
            have h1 := catT_bound (keepD L) 2000 fun z hz => (HKL.out.2 z hz).1
            have h2 : (keepD L).length * 2005 ≤ 100 * 2005 := Nat.mul_le_mul HKL.out.1 (Nat.le_refl _)
            have h3 := wrapT_size 48 (catT ((keepD L).map tx2))
            rw [← htz] at h3
            omega)
          have CK : Hid (Calls Try.prog 29 #[.slice p3 M k3] w3 fun e w' => e = .returned (.string tz) ∧ Below w3.heap.size w3 w') := Lib.hid (by
            obtain ⟨p', c', hv', hr', _⟩ := H3L.out.rs
            rw [List.length_map] at hv' hr'
            injection hv' with e1 e2 e3
            subst e1 e3
            have h1 := catT_bound (keepD L) 2000 fun z hz => (HKL.out.2 z hz).1
            have h2 : (keepD L).length * 2005 ≤ 100 * 2005 := Nat.mul_le_mul HKL.out.1 (Nat.le_refl _)
            rw [HMM.out, htz]
            exact listOf_any _ _ (keepD L) w3 hr' (by have := HKL.out.1; omega) (by omega) fun z hz => by have := HKL.out.2 z hz; exact ⟨this.2, by omega⟩)
          have CL : Hid (∀ (p' : Option Addr) (cap' : Nat) (wx : World) (hr : RS 3 p' P.length cap' ((A ++ (y.1, tz, y.2.2) :: C).map encIt) wx), Calls Try.prog 29 #[.slice p' P.length cap'] wx fun e w' => e = .returned (.string F) ∧ Below wx.heap.size wx w') := Lib.hid fun p' cap' wx hr => by
            have hlp : P.length = (A ++ (y.1, tz, y.2.2) :: C).length := by rw [HP.out]; simp
            rw [hlp] at hr ⊢
            rw [HF.out]
            have hz2 : ∀ z ∈ A ++ C, z.2.1.size ≤ 2000 ∧ z.1 < 256 := fun z hz => HPZ.out z (by
              rcases List.mem_append.1 hz with h | h
              · exact List.mem_append_left _ h
              · exact List.mem_append_right _ (List.mem_cons_of_mem _ h))
            have hlen2 : A.length + C.length ≤ 100 := by have := HP100.out; rw [HP.out] at this; simp only [List.length_append, List.length_cons] at this; omega
            have hA2 := catT_bound A 2000 fun z hz => (hz2 z (List.mem_append_left _ hz)).1
            have hC2 := catT_bound C 2000 fun z hz => (hz2 z (List.mem_append_right _ hz)).1
            refine listOf_any p' cap' (A ++ (y.1, tz, y.2.2) :: C) wx hr (by simp only [List.length_append, List.length_cons]; omega) ?_ fun z hz => ?_
            · rw [List.map_append, catT_append, List.map_cons]
              show (catT (A.map tx2) ++ (wrapT y.1 tz ++ catT (C.map tx2))).size ≤ _
              have h3 := wrapT_size y.1 tz
              have h4 := HTZ.out
              rw [size_app, size_app]
              omega
            · rcases List.mem_append.1 hz with h | h
              · have := hz2 z (List.mem_append_left _ h); exact ⟨this.2, by omega⟩
              · rcases List.mem_cons.1 h with rfl | h
                · have h1 : y.1 < 256 := by rw [HY163.out]; decide
                  have h4 := HTZ.out
                  exact ⟨h1, by show tz.size ≤ _; omega⟩
                · have := hz2 z (List.mem_append_right _ h); exact ⟨this.2, by omega⟩
          clear hkeep htz
          go_wp2_with fail
          refine CK.out.mono ?_
          rintro e w4 ⟨rfl, b4⟩
          have HB4 := Lib.hid (HB3.out.below b4)
          have HSET := Lib.hid ((show LS 24 3 w.heap.size w ((A ++ y :: C).map encIt) (.slice (some ⟨g, 0, none⟩) P.length c) w4 by rw [← HP.out]; exact HB4.out).setText tz)
          have HROW : Hid (w4.frozen? ⟨g, k * 3 + 1, none⟩ = false ∧ w4.cell? ⟨g, k * 3 + 1, none⟩ = some (.string y.2.1)) := Lib.hid (by
            obtain ⟨cur, hc⟩ := HB4.out.obj g rfl
            obtain ⟨g2, cap2, hv2, _, c1, _, _, _⟩ := HB4.out.item k y HPY.out
            injection hv2 with e1 e2 e3
            injection e1 with e1
            injection e1 with e1
            subst e1
            exact ⟨Blk.frozen (t := 24) hc _, c1⟩)
          have f1 := HROW.out.1
          have c1 := HROW.out.2
          clear b4 CK
          rw [← HKA.out] at HSET
          have C5 : Hid (Calls Try.prog 29 #[.slice (some ⟨g, 0, none⟩) P.length c] (w4.setCell ⟨g, k * 3 + 1, none⟩ (.string tz)) fun e w' => e = .returned (.string F) ∧ Below (w4.setCell ⟨g, k * 3 + 1, none⟩ (.string tz)).heap.size (w4.setCell ⟨g, k * 3 + 1, none⟩ (.string tz)) w') := Lib.hid (by
            obtain ⟨p', c', hv', hr', _⟩ := HSET.out.rs
            have hlp : ((A ++ (y.1, tz, y.2.2) :: C).map encIt).length = P.length := by rw [HP.out]; simp
            rw [hlp] at hv' hr'
            injection hv' with e1 e2 e3
            subst e1 e3
            exact CL.out _ _ _ hr')
          have HBS := Lib.hid HSET.out.b
          have HSZ5 := Lib.hid HSET.out.lo
          go_wp2_with fail
          refine C5.out.mono ?_
          rintro e w5 ⟨rfl, b5⟩
          have HE := Lib.hid (HBS.out.trans (b5.mono HSZ5.out))
          clear b5
          go_wp2_with fail
          go_ret3
          rw [HRES.out]
          exact ⟨rfl, HE.out⟩
set_option maxRecDepth 100000 in
set_option maxHeartbeats 8000000 in
theorem strip_without (s : ByteArray) (w : World) (hs : s.size ≤ 281474976710656) (P : List It) (hP : bodyD s = (P, 0)) (hA : ∀ z ∈ P, isX z = false) :
    Calls Try.prog 17 #[.string s] w fun e w' => e = .returned (.tuple #[.string (stripD s).1, .bool (stripD s).2.1, .int .i64 ((stripD s).2.2 : Int)]) ∧ Below w.heap.size w w' := by
  obtain ⟨res, hres⟩ : ∃ res, res = stripD s := ⟨_, rfl⟩
  rw [← hres]
  unfold stripD at hres
  have hsz := @body_size s
  have CB := bodyOf_any s w hs
  rw [hP] at hres hsz CB
  replace CB := Lib.hid CB
  replace hres : res = (stepsD P ⟨#[]⟩ false 0).elim (⟨#[]⟩, false, 2) fun r => if 1 < r.2 then (⟨#[]⟩, false, 2) else if r.2 = 0 then (⟨#[]⟩, false, 0) else (wrapT 48 r.1, true, 0) := hres
  rw [steps_none P _ _ hA] at hres
  have HRES : Hid (res = (⟨#[]⟩, false, 0)) := Lib.hid hres
  obtain ⟨hPL, hPZ⟩ := hsz
  replace hPL : P.length ≤ 100 := hPL
  have HPL : Hid (P.length ≤ 1000) := Lib.hid (by omega)
  have hIX : idxX P = -1 := idxF_none P 0 hA
  clear hres hPL hPZ hP hA hs
  go_enter Try.func17, Try.ntmps17
  go_wp2_with fail
  refine CB.out.mono ?_
  rintro e w1 ⟨v, rfl, h1⟩
  have H1 := Lib.hid h1
  have CI := Lib.hid (idx_any P w1 h1 HPL.out)
  obtain ⟨p, c, hu⟩ := h1.len
  rw [List.length_map] at hu
  subst hu
  clear h1
  go_wp2_with fail
  rw [hIX] at CI
  refine CI.out.mono ?_
  rintro e w2 ⟨rfl, b2⟩
  have H2 := Lib.hid (H1.out.below b2)
  clear b2
  have HE := Lib.hid H2.out.b
  clear hIX
  go_wp2_with fail
  go_ret3
  rw [HRES.out]
  exact ⟨rfl, HE.out⟩
set_option maxRecDepth 100000 in
theorem strip_bad (s : ByteArray) (w : World) (hs : s.size ≤ 281474976710656) (P : List It) (f : Nat) (hP : bodyD s = (P, f)) (hf : f ≠ 0) :
    Calls Try.prog 17 #[.string s] w fun e w' => e = .returned (.tuple #[.string (stripD s).1, .bool (stripD s).2.1, .int .i64 ((stripD s).2.2 : Int)]) ∧ Below w.heap.size w w' := by
  have HRES : Hid (stripD s = (⟨#[]⟩, false, f)) := Lib.hid (by unfold stripD; rw [hP]; exact if_pos hf)
  have CB := bodyOf_any s w hs
  rw [hP] at CB
  replace CB := Lib.hid CB
  have hfi : ¬ (f : Int) = 0 := by omega
  have hfb : ((f : Int) == 0) = false := by simpa using hfi
  clear hP hf hs
  go_enter Try.func17, Try.ntmps17
  go_wp2_with fail
  refine CB.out.mono ?_
  rintro e w1 ⟨v, rfl, h1⟩
  have HE := Lib.hid h1.b
  obtain ⟨p, c, hu⟩ := h1.len
  subst hu
  clear h1
  go_wp2_with fail
  go_ret3
  rw [HRES.out]
  exact ⟨rfl, HE.out⟩
theorem stripC_any : StripC := fun s w hs => by
  cases hb : bodyD s with
  | mk P f =>
    by_cases hf : f = 0
    · subst hf
      rcases split_X P with h | ⟨A, y, C, rfl, h1, h2⟩
      · exact strip_without s w hs P hb h
      · exact strip_at s w hs A C y hb h1 h2
    · exact strip_bad s w hs P f hb hf
end Go.Proofs.Ytkbjgaobhbiieaa
