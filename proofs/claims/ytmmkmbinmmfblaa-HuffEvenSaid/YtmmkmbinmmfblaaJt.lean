/- The developers' halve and Lengths of chapter 9. -/
import Derived.Test.YtmmkmbinmmfblaaJs
import Derived.Test.YtmmkmbinmmfblaaJb
import Derived.Test.YtmmkmbinmmfblaaHt
import Derived.Deep.LoopGhost
namespace Go.Proofs.Ytmmkmbinmmfblaa
open Go.RowKit
def haN (c : Nat → Nat) (k j : Nat) : Int := if j < k then ((halve c j : Nat) : Int) else (c j : Int)
theorem haN_put (c : Nat → Nat) (k j : Nat) : (if j = k then ((halve c k : Nat) : Int) else haN c k j) = haN c (k + 1) j := by
  unfold haN
  by_cases h : j = k
  · subst h; rw [if_pos rfl, if_pos (by omega)]
  · rw [if_neg h]
    by_cases h2 : j < k
    · rw [if_pos h2, if_pos (by omega)]
    · rw [if_neg h2, if_neg (by omega)]
set_option maxRecDepth 100000 in
set_option maxHeartbeats 4000000 in
theorem halve_any (B : Nat) (w : World) (p : Option Addr) (n cap : Nat) (c : Nat → Nat) (w1 : World) (h : OI B w p n cap (fun i => (c i : Int)) w1) (hB : B ≤ w1.heap.size) (hn : n ≤ 300) (hc : ∀ i, i < n → c i ≤ 1099511627776) :
    Calls Try.prog 25 #[.slice p n cap] w1 fun e w' => e = .returned (.tuple #[]) ∧ OI B w p n cap (fun i => ((halve c i : Nat) : Int)) w' ∧ B ≤ w'.heap.size := by
  have H0 := Lib.hid h
  have HC := Lib.hid hc
  clear h hc
  go_enter Try.func25, Try.ntmps25
  go_wp2_with fail
  go_loopw [2, 3, 6] (fun _ _ i wx => ∃ k : Nat, k ≤ n ∧ i = .int .i64 (k : Int) ∧ Hid (OI B w p n cap (haN c k) wx) ∧ Hid (B ≤ wx.heap.size)) (fun _ _ i _ => n - (intOf i).toNat)
  case atStart => exact ⟨0, by omega, rfl, Lib.hid (H0.out.cast fun i _ => by unfold haN; rw [if_neg (by omega)]), Lib.hid hB⟩
  case round =>
    obtain ⟨k, hk, rfl, HO, HS⟩ := hrel
    clear hB
    by_cases hlt : k < n
    · obtain ⟨g, rfl⟩ : ∃ g, p = some ⟨g, 0, none⟩ := by
        cases p with
        | none => have := (HO.out.is_.nil_ rfl).1; omega
        | some a => exact ⟨a.block, by rw [← (HO.out.form a rfl).1]⟩
      have hck := HC.out k hlt
      obtain ⟨d, hd⟩ : ∃ d, d = c k := ⟨_, rfl⟩
      have hv : haN c k k = (d : Int) := by unfold haN; rw [if_neg (by omega), hd]
      have c0 := HO.out.at_ hlt
      rw [hv] at c0
      have f0 := HO.out.fz _ rfl k hlt
      obtain ⟨q, hq⟩ : ∃ q, q = d / 2 := ⟨_, rfl⟩
      obtain ⟨r, hr⟩ : ∃ r, r = d % 2 := ⟨_, rfl⟩
      obtain ⟨u, hu⟩ : ∃ u, u = q + r := ⟨_, rfl⟩
      have hqi : (d : Int).tdiv 2 = (q : Int) := by rw [Int.tdiv_eq_ediv_of_nonneg (by omega)]; omega
      have hri : (d : Int).tmod 2 = (r : Int) := by rw [Int.tmod_eq_emod_of_nonneg (by omega)]; omega
      have hqi2 : (d : Int) / 2 = (q : Int) := by omega
      have hri2 : (d : Int) % 2 = (r : Int) := by omega
      have hhv : halve c k = u := by unfold halve; omega
      have HP : Hid (OI B w (some ⟨g, 0, none⟩) n cap (haN c (k + 1)) (wr.setCell ⟨g, k, none⟩ (.int .i64 (u : Int)))) := Lib.hid (HO.out.put k (u : Int) (by omega) (by omega) (fun i _ => by rw [← hhv]; exact haN_put c k i) hlt)
      have hki : (k : Int) < (n : Int) := by omega
      have hdb : d ≤ 1099511627776 := by omega
      have huw : IntKind.i64.wrap ((q : Int) + (r : Int)) = (q : Int) + (r : Int) := IntWalk.i64_in _ (by omega)
      have hqr : (q : Int) + (r : Int) = (u : Int) := by omega
      have hqw : IntKind.i64.wrap (q : Int) = (q : Int) := IntWalk.i64_in _ (by omega)
      have hwu : wrap64 (u : Int) = (u : Int) := IntWalk.wrap64_in _ (by omega)
      have HZ : Hid (B ≤ (wr.setCell ⟨g, k, none⟩ (.int .i64 (u : Int))).heap.size) := Lib.hid (by simp [World.setCell]; exact HS.out)
      clear hck hd hv hq hr hu hhv hdb
      go_wp2_with fail
      go_roundw
      case rel => exact ⟨k + 1, by omega, by go_num, HP, HZ⟩
      case measure => simp [intOf]; omega
    · obtain rfl : k = n := by omega
      go_wp2_with fail
      go_end0
      exact ⟨rfl, HO.out.cast fun i hi => by unfold haN; rw [if_pos hi], HS.out⟩
theorem allB_C (f : Nat → Int) (n : Nat) : allB f 1099511627776 n = okC f n := by
  induction n with
  | zero => rfl
  | succ n ih => unfold allB okC; rw [ih]
/-- Are the lengths within the limit? Just if the nodes are no deeper. -/
theorem allB_len (c : Nat → Nat) (n mo : Nat) (h : 1 ≤ mo) : allB (fun i => (lenO c n i : Int)) (mo : Int) n = decide (depM c n n ≤ mo) := by
  rw [Bool.eq_iff_iff, allB_true, decide_eq_true_eq, depM_le]
  constructor
  · intro h1 i hi hc
    have h2 := h1 i hi
    unfold lenO at h2
    rw [if_neg (by omega)] at h2
    by_cases h3 : (nds c n).length = 1
    · unfold dep
      rw [hD_one (by omega)]
      omega
    · rw [if_neg h3] at h2
      omega
  · intro h1 i hi
    unfold lenO
    by_cases hc : c i = 0
    · rw [if_pos hc]; omega
    · rw [if_neg hc]
      have := h1 i hi (by omega)
      split <;> omega
set_option maxRecDepth 100000 in
set_option maxHeartbeats 4000000 in
theorem lengths_huff_not (p : Option Addr) (n cap : Nat) (f : Nat → Int) (most : Int) (w : World) (h : IS p n cap f w) (hn : n ≤ 300) (hl : lensV f n most = none) :
    Calls Try.prog 11 #[.slice p n cap, .int .i64 most] w fun e w' => e = .returned (.tuple #[.slice none 0 0, .bool false]) ∧ Below w.heap.size w w' := by
  by_cases hM : okM most n
  · have hc : okC f n = false := by
      cases e : okC f n with
      | false => rfl
      | true =>
        obtain ⟨l, h1⟩ := lens_some e hn hM
        unfold lensV at hl
        rw [if_pos ⟨e, hn, hM⟩, h1] at hl
        cases hl
    have C := allWithin_any p n cap f 1099511627776 w h (by omega)
    rw [allB_C, hc] at C
    have CM := mayLimit_any most n true w ⟨fun _ => ⟨hn, hM⟩, fun _ => rfl⟩ (by omega)
    clear hc hl hM
    go_enter Try.func11, Try.ntmps11
    go_wp2_with fail
    refine CM.mono ?_
    rintro e w1 ⟨rfl, rfl⟩
    go_wp2_with fail
    refine C.mono ?_
    rintro e w2 ⟨rfl, h2⟩
    go_wp2_with fail
    go_ret2
    exact ⟨rfl, h2⟩
  · have CM := mayLimit_any most n false w ⟨(fun e => by cases e), fun hh => absurd hh.2 hM⟩ (by omega)
    clear hl hM
    go_enter Try.func11, Try.ntmps11
    go_wp2_with fail
    refine CM.mono ?_
    rintro e w1 ⟨rfl, rfl⟩
    go_wp2_with fail
    go_ret2
    exact ⟨rfl, Below.refl _ _⟩
set_option maxRecDepth 100000 in
set_option maxHeartbeats 4000000 in
theorem lengths_huff (p : Option Addr) (n cap : Nat) (f : Nat → Int) (most : Int) (w : World) (h : IS p n cap f w) (hn : n ≤ 300) (l : Nat → Nat) (hl : lensV f n most = some l) :
    Calls Try.prog 11 #[.slice p n cap, .int .i64 most] w fun e w' => ∃ p2 c2, e = .returned (.tuple #[.slice p2 n c2, .bool true]) ∧ IS p2 n c2 (fun i => (l i : Int)) w' ∧ Below w.heap.size w w' := by
  have hcond : okC f n = true ∧ n ≤ 300 ∧ ((9 ≤ most ∧ most ≤ 15) ∨ (most = 7 ∧ n ≤ 19)) := by
    unfold lensV at hl
    by_cases hc : okC f n = true ∧ n ≤ 300 ∧ ((9 ≤ most ∧ most ≤ 15) ∨ (most = 7 ∧ n ≤ 19))
    · exact hc
    · rw [if_neg hc] at hl; cases hl
  have hlv : lenV 42 (toL f) n most.toNat = some l := by
    unfold lensV at hl
    rwa [if_pos hcond] at hl
  obtain ⟨mo, rfl⟩ := Int.eq_ofNat_of_zero_le (show 0 ≤ most by have := hcond.2.2; omega)
  have hmo : 1 ≤ mo := by have := hcond.2.2; omega
  rw [Int.toNat_natCast] at hlv
  have C := allWithin_any p n cap f 1099511627776 w h (by omega)
  rw [allB_C, hcond.1] at C
  have CM := mayLimit_any (mo : Int) n true w ⟨fun _ => ⟨hn, hcond.2.2⟩, fun _ => rfl⟩ (by omega)
  have HF := Lib.hid (okC_true.1 hcond.1)
  have HL := Lib.hid hlv
  have hlo := h.lo
  have hhi := h.hi
  clear hcond hl hlv
  go_enter Try.func11, Try.ntmps11
  go_wp2_with fail
  refine CM.mono ?_
  intro e w1 hw1
  obtain ⟨rfl, e1⟩ := hw1
  obtain rfl := e1
  clear CM
  go_wp2_with fail
  refine C.mono ?_
  rintro e w2 ⟨rfl, b2⟩
  clear C
  have CC := clone_any p n cap f w2 (h.below b2) (by omega)
  go_wp2_with fail
  refine CC.mono ?_
  rintro e w3 ⟨v3, rfl, hL3⟩
  obtain ⟨p3, c3, rfl, o3⟩ := hL3.oi hlo hhi
  have HS3 := Lib.hid (Nat.le_trans b2.size hL3.lo)
  have HO3 : Hid (OI w1.heap.size w1 p3 n c3 (fun i => (toL f i : Int)) w3) := Lib.hid (by
    have e : OI w2.heap.size w2 p3 n c3 (fun i => (toL f i : Int)) w3 := o3.cast fun i hi => by have := HF.out i hi; unfold toL; omega
    exact ⟨e.is_, (fun a ha => ⟨(e.form a ha).1, Nat.le_trans b2.size (e.form a ha).2⟩), e.fz, b2.trans (e.b.mono b2.size)⟩)
  have HB3 : Hid (∀ i, i < n → toL f i ≤ 1099511627776) := Lib.hid fun i hi => by have := HF.out i hi; unfold toL; omega
  clear CC hL3 o3 hlo hhi h b2 HF
  have CT := treeLengths_any p3 n c3 (toL f) w3 HO3.out.is_ hn HB3.out
  go_wp2_with fail
  refine CT.mono ?_
  rintro e w4 ⟨p4, c4, rfl, i4, b4⟩
  clear CT
  go_wp2_with fail
  go_loopg [6] 42 (fun gk v wr => ∃ (t : Nat) (c : Nat → Nat) (p5 : Option Addr) (c5 : Nat), gk = t ∧ v = .slice p5 n c5 ∧ Hid (lenV t c n mo = some l) ∧ Hid (∀ i, i < n → c i ≤ 1099511627776) ∧ Hid (OI w1.heap.size w1 p3 n c3 (fun i => (c i : Int)) wr) ∧ Hid (IS p5 n c5 (fun i => (lenO c n i : Int)) wr) ∧ Hid (w1.heap.size ≤ wr.heap.size))
  case atStart => exact ⟨42, toL f, p4, c4, rfl, rfl, HL, HB3, Lib.hid (HO3.out.below b4 HS3.out), Lib.hid i4, Lib.hid (Nat.le_trans HS3.out b4.size)⟩
  case round =>
    obtain ⟨t, c, p5, c5, hgk, rfl, HV, HB, HO, HI, HS⟩ := hrel
    have HG := Lib.hid hgk
    clear hgk i4 b4 HL HS3 HO3 HB3
    have CW := allWithin_any p5 n c5 (fun i => (lenO c n i : Int)) (mo : Int) wr HI.out (by omega)
    rw [allB_len c n mo hmo] at CW
    cases t with
    | zero => have := HV.out; simp [lenV] at this
    | succ t =>
      by_cases hle : depM c n n ≤ mo
      · rw [decide_eq_true hle] at CW
        have HE : Hid (lenO c n = l) := Lib.hid (by have := HV.out; unfold lenV at this; rw [if_pos hle] at this; exact Option.some.inj this)
        clear hle
        go_wp2_with fail
        refine CW.mono ?_
        rintro e w6 ⟨rfl, b6⟩
        have HI6 := Lib.hid (HI.out.below b6)
        have HB6 := Lib.hid (HO.out.b.trans (b6.mono HS.out))
        clear CW b6
        go_wp2_with fail
        go_ret2
        rw [← HE.out]
        exact ⟨p5, c5, rfl, HI6.out, HB6.out⟩
      · rw [decide_eq_false hle] at CW
        have HV2 : Hid (lenV t (halve c) n mo = some l) := Lib.hid (by have := HV.out; unfold lenV at this; rw [if_neg hle] at this; exact this)
        clear hle
        go_wp2_with fail
        refine CW.mono ?_
        rintro e w6 ⟨rfl, b6⟩
        have HS6 : Hid (w1.heap.size ≤ w6.heap.size) := Lib.hid (Nat.le_trans HS.out b6.size)
        have CH := halve_any w1.heap.size w1 p3 n c3 c w6 (HO.out.below b6 HS.out) HS6.out hn HB.out
        clear CW b6
        go_wp2_with fail
        refine CH.mono ?_
        rintro e w7 ⟨rfl, o7, s7⟩
        have HO7 := Lib.hid o7
        have HS7 := Lib.hid s7
        have HB7 : Hid (∀ i, i < n → halve c i ≤ 1099511627776) := Lib.hid fun i hi => by have := HB.out i hi; unfold halve; omega
        clear CH o7 s7
        have CT2 := treeLengths_any p3 n c3 (halve c) w7 HO7.out.is_ hn HB7.out
        go_wp2_with fail
        refine CT2.mono ?_
        rintro e w8 ⟨p8, c8, rfl, i8, b8⟩
        have HI8 := Lib.hid i8
        have HO8 := Lib.hid (HO7.out.below b8 HS7.out)
        have HS8 : Hid (w1.heap.size ≤ w8.heap.size) := Lib.hid (Nat.le_trans HS7.out b8.size)
        clear CT2 i8 b8
        go_wp2_with fail
        go_roundg t
        case measure => have := HG.out; omega
        case rel => exact ⟨t, halve c, p8, c8, rfl, rfl, HV2, HB7, HO8, HI8, HS8⟩
end Go.Proofs.Ytmmkmbinmmfblaa
