/- The reference's Lengths of chapter 9. -/
import Derived.Test.YtmmkmbinmmfblaaHq
import Derived.Deep.LoopGhost
namespace Go.Proofs.Ytmmkmbinmmfblaa
open Go.RowKit
/-- Is each one of the first n from 0 to 2 ^ 40? -/
def okC (f : Nat → Int) : Nat → Bool
  | 0 => true
  | k + 1 => okC f k && decide (0 ≤ f k ∧ f k ≤ 1099511627776)
theorem okC_true {f : Nat → Int} {n : Nat} : okC f n = true ↔ ∀ i, i < n → 0 ≤ f i ∧ f i ≤ 1099511627776 := by
  induction n with
  | zero => exact ⟨fun _ i hi => by omega, fun _ => rfl⟩
  | succ n ih =>
    unfold okC
    rw [Bool.and_eq_true, ih, decide_eq_true_eq]
    constructor
    · rintro ⟨h1, h2⟩ i hi
      rcases (show i < n ∨ i = n by omega) with h | rfl
      · exact h1 i h
      · exact h2
    · intro h
      exact ⟨fun i hi => h i (by omega), h n (by omega)⟩
theorem okC_false {f : Nat → Int} {n k : Nat} (hk : k < n) (h : ¬ (0 ≤ f k ∧ f k ≤ 1099511627776)) : okC f n = false := by
  cases e : okC f n with
  | false => rfl
  | true => exact absurd (okC_true.1 e k hk) h
/-- May the limit be? -/
def okM (most : Int) (n : Nat) : Prop := (9 ≤ most ∧ most ≤ 15) ∨ (most = 7 ∧ n ≤ 19)
set_option maxRecDepth 100000 in
set_option maxHeartbeats 8000000 in
theorem rLengths9_limit (p : Option Addr) (n cap : Nat) (most : Int) (w : World) (hM : ¬ (n ≤ 300 ∧ okM most n)) (hn : n ≤ 17592186044416) :
    Calls Try.prog 12 #[.slice p n cap, .int .i64 most] w fun e w' => e = .returned (.tuple #[.slice none 0 0, .bool false]) ∧ w' = w := by
  have hor : (n : Int) > 300 ∨ (¬ (n : Int) > 300 ∧ ((most < 9 ∧ most ≠ 7) ∨ (¬ most < 9 ∧ most > 15 ∧ most ≠ 7) ∨ (most = 7 ∧ (n : Int) > 19))) := by
    unfold okM at hM; omega
  clear hM
  rcases hor with h1 | ⟨h1, h2⟩
  · go_enter Try.func12, Try.ntmps12
    go_wp2_with fail
    go_ret2
    exact ⟨rfl, rfl⟩
  · rcases h2 with ⟨h2, h3⟩ | ⟨h2, h3, h4⟩ | ⟨rfl, h3⟩
    all_goals
      go_enter Try.func12, Try.ntmps12
      go_wp2_with fail
      go_ret2
      exact ⟨rfl, rfl⟩
theorem okM_facts {most : Int} {n : Nat} (h : okM most n) (hn : n ≤ 300) : ¬ (n : Int) > 300 ∧ ((¬ most < 9 ∧ ¬ most > 15) ∨ (most = 7 ∧ ¬ (n : Int) > 19)) := by
  unfold okM at h; omega
set_option maxRecDepth 100000 in
set_option maxHeartbeats 8000000 in
theorem rLengths9_bad (p : Option Addr) (n cap : Nat) (f : Nat → Int) (most : Int) (w : World) (h : IS p n cap f w) (hM : okM most n) (hn : n ≤ 300) (hc : okC f n = false) :
    Calls Try.prog 12 #[.slice p n cap, .int .i64 most] w fun e w' => e = .returned (.tuple #[.slice none 0 0, .bool false]) ∧ Below w.heap.size w w' := by
  obtain ⟨h1, h2⟩ := okM_facts hM hn
  have HC := Lib.hid hc
  have hlo := h.lo
  have hhi := h.hi
  clear hM hc
  rcases h2 with ⟨h2, h3⟩ | ⟨rfl, h3⟩
  all_goals
    go_enter Try.func12, Try.ntmps12
    go_wp2_with (refine wpList_copyI rfl (.tmp 31) rfl rfl h (by omega) ?_; intro vc w3 hL; obtain ⟨p3, c3, rfl, i3, hpb⟩ := hL.is hlo hhi; have b3 := hL.b; clear hL hpb hlo hhi h)
    go_loopw [7] (fun i wr => ∃ k : Nat, k ≤ n ∧ i = .int .i64 (k : Int) ∧ okC f k = true ∧ w3 = wr) (fun i _ => n - (intOf i).toNat)
    case atStart => exact ⟨0, by omega, rfl, rfl, rfl⟩
    case round =>
      obtain ⟨k, hk, rfl, hok, rfl⟩ := hrel
      by_cases hlt : k < n
      · cases p3 with
        | none => have := (i3.nil_ rfl).1; omega
        | some a =>
          have c0 := i3.cell a rfl k hlt
          by_cases h0 : 0 ≤ f k ∧ f k ≤ 1099511627776
          · have HO : Hid (okC f (k + 1) = true) := Lib.hid (by unfold okC; rw [hok, decide_eq_true h0]; rfl)
            obtain ⟨hx1, hx2⟩ := h0
            have hx3 : ¬ f k < 0 := by omega
            have hx4 : ¬ f k > 1099511627776 := by omega
            clear hok
            generalize f k = x at *
            go_wp2_with fail
            go_roundw
            case rel => exact ⟨k + 1, by omega, by go_num, HO.out, by trivial⟩
            case measure => simp [intOf]; omega
          · have hor : f k < 0 ∨ (¬ f k < 0 ∧ f k > 1099511627776) := by omega
            clear h0 hok
            generalize f k = x at *
            rcases hor with hx | ⟨hx1, hx2⟩
            all_goals
              go_wp2_with fail
              go_ret2
              exact ⟨rfl, b3⟩
      · obtain rfl : k = n := by omega
        exact absurd (hok.symm.trans HC.out) (by decide)
/-- A list of one's own that is written in place. -/
structure OI (B : Nat) (w0 : World) (p : Option Addr) (n cap : Nat) (f : Nat → Int) (w : World) : Prop where
  is_ : IS p n cap f w
  form : ∀ a, p = some a → a = ⟨a.block, 0, none⟩ ∧ B ≤ a.block
  fz : ∀ g, p = some ⟨g, 0, none⟩ → ∀ i, i < n → w.frozen? ⟨g, i, none⟩ = false
  b : Below B w0 w
theorem LI.oi {B : Nat} {w0 w : World} {f : Nat → Int} {n : Nat} {v : Value} (h : LI B w0 (firstI f n) v w) (lo : ∀ i, i < n → -9223372036854775808 ≤ f i) (hi : ∀ i, i < n → f i < 9223372036854775808) :
    ∃ p cap, v = .slice p n cap ∧ OI B w0 p n cap f w := by
  obtain ⟨p, cap, h1, h2, h3⟩ := h.is lo hi
  have hown := h.own
  rw [firstI_len] at hown
  refine ⟨p, cap, h1, h2, fun a ha => ?_, fun g hg i hi2 => ?_, h.b⟩
  · refine ⟨?_, h3 a ha⟩
    rcases hown.2 with ⟨h4, _⟩ | ⟨g, cap2, cur, h4, _⟩
    · rw [h1, ha] at h4; cases h4
    · rw [h1, ha] at h4; cases h4; rfl
  · rcases hown.2 with ⟨h4, _⟩ | ⟨g2, cap2, cur, h4, _, h5, _⟩
    · rw [h1, hg] at h4; cases h4
    · rw [h1, hg] at h4; cases h4
      exact Blk.frozen (t := 3) (cs := cur) h5 i
theorem OI.below {B : Nat} {w0 w w' : World} {p : Option Addr} {n cap : Nat} {f : Nat → Int} (h : OI B w0 p n cap f w) (hb : Below w.heap.size w w') (hB : B ≤ w.heap.size) : OI B w0 p n cap f w' :=
  ⟨h.is_.below hb, h.form, fun g hg i hi => (hb.frozen (p := ⟨g, i, none⟩) (show g < _ from h.is_.lt _ hg)).trans (h.fz g hg i hi), h.b.trans (hb.mono hB)⟩
theorem OI.drew {B : Nat} {w0 w : World} {p : Option Addr} {n cap : Nat} {f : Nat → Int} (h : OI B w0 p n cap f w) : OI B w0 p n cap f w.drew :=
  ⟨⟨h.is_.nil_, h.is_.cell, h.is_.lt, h.is_.lo, h.is_.hi⟩, h.form, h.fz, h.b.drew⟩
theorem OI.at_ {B : Nat} {w0 w : World} {g n cap : Nat} {f : Nat → Int} (h : OI B w0 (some ⟨g, 0, none⟩) n cap f w) {i : Nat} (hi : i < n) : w.cell? ⟨g, i, none⟩ = some (.int .i64 (f i)) := by
  have := h.is_.cell _ rfl i hi
  rwa [addr_add, Nat.zero_add] at this
theorem OI.cast {B : Nat} {w0 w : World} {p : Option Addr} {n cap : Nat} {f f' : Nat → Int} (h : OI B w0 p n cap f w) (e : ∀ i, i < n → f i = f' i) : OI B w0 p n cap f' w :=
  ⟨⟨h.is_.nil_, fun a ha i hi => by rw [← e i hi]; exact h.is_.cell a ha i hi, h.is_.lt, fun i hi => by rw [← e i hi]; exact h.is_.lo i hi, fun i hi => by rw [← e i hi]; exact h.is_.hi i hi⟩, h.form, h.fz, h.b⟩
theorem OI.put {B : Nat} {w0 w : World} {g n cap : Nat} {f f' : Nat → Int} (h : OI B w0 (some ⟨g, 0, none⟩) n cap f w) (k : Nat) (x : Int) (lo : -9223372036854775808 ≤ x) (hi : x < 9223372036854775808) (e : ∀ i, i < n → (if i = k then x else f i) = f' i) (hk : k < n) :
    OI B w0 (some ⟨g, 0, none⟩) n cap f' (w.setCell ⟨g, k, none⟩ (.int .i64 x)) := by
  refine ⟨⟨(fun e => by cases e), fun a ha i hi2 => ?_, fun a ha => ?_, fun i hi2 => ?_, fun i hi2 => ?_⟩, h.form, fun g2 hg2 i hi2 => ?_, h.b.setCell (p := ⟨g, k, none⟩) (show B ≤ g from (h.form _ rfl).2) _⟩
  · cases ha
    rw [addr_add, Nat.zero_add, ← e i hi2]
    by_cases h1 : i = k
    · subst h1; rw [if_pos rfl]; exact World.cell?_setCell_same _ _ _ (h.at_ hi2)
    · rw [if_neg h1, World.cell?_setCell_other _ _ _ _ (fun hh => by injection hh with _ h2; exact h1 h2.symm)]; exact h.at_ hi2
  · cases ha
    simp [World.setCell]; exact h.is_.lt _ rfl
  · rw [← e i hi2]; split; exact lo; exact h.is_.lo i hi2
  · rw [← e i hi2]; split; exact hi; exact h.is_.hi i hi2
  · cases hg2
    exact (World.frozen?_setCell _ _ _ _).trans (h.fz g rfl i hi2)
/-- Halved as far as k. -/
def haI (c : Nat → Nat) (f : Nat → Int) (k j : Nat) : Int := if j < k then ((halve c j : Nat) : Int) else f j
theorem haI_put (c : Nat → Nat) (f : Nat → Int) (k j : Nat) : (if j = k then ((halve c k : Nat) : Int) else haI c f k j) = haI c f (k + 1) j := by
  unfold haI
  by_cases h : j = k
  · subst h; rw [if_pos rfl, if_pos (by omega)]
  · rw [if_neg h]
    by_cases h2 : j < k
    · rw [if_pos h2, if_pos (by omega)]
    · rw [if_neg h2, if_neg (by omega)]
set_option maxRecDepth 100000 in
set_option maxHeartbeats 8000000 in
theorem rLengths9_ok (p : Option Addr) (n cap : Nat) (f : Nat → Int) (most : Int) (w : World) (h : IS p n cap f w) (hM : okM most n) (hn : n ≤ 300) (hc : okC f n = true) (l' : Nat → Nat) (hl : lenV 42 (toL f) n most.toNat = some l') :
    Calls Try.prog 12 #[.slice p n cap, .int .i64 most] w fun e w' => ∃ g, e = .returned (.tuple #[.slice (some ⟨g, 0, none⟩) n n, .bool true]) ∧ Blk w' g 3 (rI n fun i => (l' i : Int)) ∧ w.heap.size ≤ g ∧ Below w.heap.size w w' := by
  obtain ⟨h1, h2⟩ := okM_facts hM hn
  have HC := Lib.hid (okC_true.1 hc)
  have hlo := h.lo
  have hhi := h.hi
  have HL := Lib.hid hl
  obtain ⟨mo, hmo⟩ := Int.eq_ofNat_of_zero_le (show 0 ≤ most by unfold okM at hM; omega)
  rw [show most.toNat = mo by omega] at HL
  have hmo15 : 7 ≤ mo ∧ mo ≤ 15 := by unfold okM at hM; omega
  subst hmo
  clear hM hc hl
  rcases h2 with ⟨h2, h3⟩ | ⟨h2, h3⟩
  all_goals
    go_enter Try.func12, Try.ntmps12
    go_wp2_with (refine wpList_copyI rfl (.tmp 31) rfl rfl h (by omega) ?_; intro vc w3 hL; obtain ⟨p3, c3, rfl, o3⟩ := hL.oi hlo hhi; have hlw := hL.lo; clear hL hlo hhi h)
    go_loopw [7] (fun i wr => ∃ k : Nat, k ≤ n ∧ i = .int .i64 (k : Int) ∧ w3 = wr) (fun i _ => n - (intOf i).toNat)
    case atStart => exact ⟨0, by omega, rfl, rfl⟩
    case round =>
      obtain ⟨k, hk, rfl, rfl⟩ := hrel
      by_cases hlt : k < n
      · cases p3 with
        | none => have := (o3.is_.nil_ rfl).1; omega
        | some a =>
          have c0 := o3.is_.cell a rfl k hlt
          obtain ⟨hx1, hx2⟩ := HC.out k hlt
          have hx3 : ¬ f k < 0 := by omega
          have hx4 : ¬ f k > 1099511627776 := by omega
          generalize f k = x at *
          go_wp2_with fail
          go_roundw
          case rel => exact ⟨k + 1, by omega, by go_num, by trivial⟩
          case measure => simp [intOf]; omega
      · obtain rfl : k = n := by omega
        go_wp2_with fail
        go_loopg [9] 42 (fun gk _ wr => ∃ (t : Nat) (F : Nat → Int), gk = t ∧ Hid (lenV t (toL F) k mo = some l') ∧ Hid (∀ i, i < k → 0 ≤ F i ∧ F i ≤ 1099511627776) ∧ Hid (OI w.heap.size w p3 k c3 F wr) ∧ Hid (w.heap.size ≤ wr.heap.size))
        case atStart => exact ⟨42, f, rfl, HL, HC, Lib.hid o3, Lib.hid hlw⟩
        case round =>
          obtain ⟨t, F, hgk, HV, HB, HO, HS⟩ := hrel
          have HG := Lib.hid hgk
          clear hgk o3
          cases t with
          | zero => have := HV.out; simp [lenV] at this
          | succ t =>
            have CL := Lib.hid (rlengths9_any p3 k c3 F wr HO.out.is_ hn HB.out)
            go_wp2_with fail
            refine (CL.out).mono ?_
            rintro e w5 ⟨g5, rfl, hb5, hg5, b5⟩
            clear CL
            have HO5 := Lib.hid (HO.out.below b5 HS.out)
            have HS5 : Hid (w.heap.size ≤ w5.heap.size) := Lib.hid (Nat.le_trans HS.out b5.size)
            by_cases hle : depM (toL F) k k ≤ mo
            · have hlei : (depM (toL F) k k : Int) ≤ (mo : Int) := by omega
              have HE : Hid (lenO (toL F) k = l') := Lib.hid (by have := HV.out; unfold lenV at this; rw [if_pos hle] at this; exact Option.some.inj this)
              generalize depM (toL F) k k = dm at *
              have HG5 : Hid (w.heap.size ≤ g5) := Lib.hid (Nat.le_trans HS.out hg5)
              clear HV hle hg5 b5
              go_wp2_with fail
              go_ret2
              rw [← HE.out]
              exact ⟨g5, rfl, hb5, HG5.out, HO5.out.b⟩
            · have hlei : ¬ (depM (toL F) k k : Int) ≤ (mo : Int) := by omega
              have HV2 : Hid (lenV t (halve (toL F)) k mo = some l') := Lib.hid (by have := HV.out; unfold lenV at this; rw [if_neg hle] at this; exact this)
              generalize depM (toL F) k k = dm at *
              clear HV hle hg5 hb5 b5
              go_wp2_with fail
              have HO6 : Hid (OI w.heap.size w p3 k c3 (haI (toL F) F 0) w5) := Lib.hid (HO5.out.cast fun i _ => by unfold haI; rw [if_neg (by omega)])
              clear HO5 HO HS hlei HL HC
              go_loopw [10] (fun i wr => ∃ j : Nat, j ≤ k ∧ i = .int .i64 (j : Int) ∧ Hid (OI w.heap.size w p3 k c3 (haI (toL F) F j) wr) ∧ Hid (w.heap.size ≤ wr.heap.size)) (fun i _ => k - (intOf i).toNat)
              case atStart => exact ⟨0, by omega, rfl, HO6, HS5⟩
              case round =>
                obtain ⟨j, hj, rfl, HO7, HS7⟩ := hrel
                by_cases hlt2 : j < k
                · obtain ⟨g, rfl⟩ : ∃ g, p3 = some ⟨g, 0, none⟩ := by
                    cases p3 with
                    | none => have := (HO7.out.is_.nil_ rfl).1; omega
                    | some a => exact ⟨a.block, by rw [← (HO7.out.form a rfl).1]⟩
                  have hF := HB.out j hlt2
                  obtain ⟨d, hd⟩ := Int.eq_ofNat_of_zero_le hF.1
                  have HVD : Hid (haI (toL F) F j j = (d : Int)) := Lib.hid (by unfold haI; rw [if_neg (by omega)]; exact hd)
                  obtain ⟨q, hq⟩ : ∃ q, q = d / 2 := ⟨_, rfl⟩
                  obtain ⟨r, hr⟩ : ∃ r, r = d % 2 := ⟨_, rfl⟩
                  obtain ⟨u, hu⟩ : ∃ u, u = q + r := ⟨_, rfl⟩
                  have hdb : d ≤ 1099511627776 := by omega
                  have hqi : (d : Int).tdiv 2 = (q : Int) := by rw [Int.tdiv_eq_ediv_of_nonneg (by omega)]; omega
                  have hri : (d : Int).tmod 2 = (r : Int) := by rw [Int.tmod_eq_emod_of_nonneg (by omega)]; omega
                  have hqw : IntKind.i64.wrap (q : Int) = (q : Int) := IntWalk.i64_in _ (by omega)
                  have huw : IntKind.i64.wrap ((q : Int) + (r : Int)) = (u : Int) := by rw [IntWalk.i64_in _ (by omega)]; omega
                  have hhv : halve (toL F) j = u := by unfold halve toL; omega
                  have HPUT : Hid (∀ wx, OI w.heap.size w (some ⟨g, 0, none⟩) k c3 (haI (toL F) F j) wx → OI w.heap.size w (some ⟨g, 0, none⟩) k c3 (haI (toL F) F (j + 1)) (wx.setCell ⟨g, j, none⟩ (.int .i64 (u : Int)))) :=
                    Lib.hid fun wx hO => hO.put j _ (by omega) (by omega) (fun i _ => by rw [← hhv]; exact haI_put (toL F) F j i) hlt2
                  have hjk : (j : Int) < (k : Int) := by omega
                  clear hF hd hq hr hu hdb hhv
                  go_wp2_with fail
                  refine wp_region_anyL (Two 14 1000 fun f1 _ wx => OI w.heap.size w (some ⟨g, 0, none⟩) k c3 (haI (toL F) F (if f1 then j + 1 else j)) wx ∧ w.heap.size ≤ wx.heap.size) (by kernel_rfl) ⟨HO7.out.drew, HS7.out⟩ ?_
                  refine anyL_take (i := 0) (v := ?_) rfl (by kernel_rfl) (by kernel_rfl) (by kernel_rfl) (yl_other (by decide) (by decide) rfl (fun f1 f2 wx hT => ?_)) ?_; rotate_left
                  · refine lands_value (w := wx) ?_ hT; go_simp <;> rfl
                  simp only [pu]
                  refine anyL_take (i := 1) (v := ?_) rfl (by kernel_rfl) (by kernel_rfl) (by kernel_rfl) (yl_other (by decide) (by decide) rfl (fun f1 f2 wx hT => ?_)) ?_; rotate_left
                  · refine lands_value (w := wx) ?_ hT; go_simp <;> rfl
                  simp only [pu]
                  refine anyL_take (i := 2) (v := ?_) rfl (by kernel_rfl) (by kernel_rfl) (by kernel_rfl) (yl_other (by decide) (by decide) rfl (fun f1 f2 wx hT => ?_)) ?_; rotate_left
                  · refine lands_value (w := wx) ?_ hT; go_simp <;> rfl
                  simp only [pu]
                  refine anyL_take (i := 3) (v := ?_) rfl (by kernel_rfl) (by kernel_rfl) (by kernel_rfl) (yl_other (by decide) (by decide) rfl (fun f1 f2 wx hT => ?_)) ?_; rotate_left
                  · refine lands_value (w := wx) ?_ hT; go_simp <;> rfl
                  simp only [pu]
                  refine anyL_take (i := 4) (v := .pointer (some ⟨g, j, none⟩)) rfl (by kernel_rfl) (by kernel_rfl) (by kernel_rfl) (yl_other (by decide) (by decide) rfl (fun f1 f2 wx hT => ?_)) ?_
                  · refine lands_value (w := wx) ?_ hT; go_simp; try rfl
                  simp only [pu]
                  refine anyL_take (i := 5) (v := .int .i64 (d : Int)) rfl (by kernel_rfl) (by kernel_rfl) (by kernel_rfl) (yl_ahead (n := 9) (by decide) (by decide) (by kernel_rfl) rfl (fun f2 wx hT => ?_)) ?_
                  · have k0 : wx.cell? ⟨g, j, none⟩ = some (.int .i64 (haI (toL F) F j j)) := hT.1.at_ hlt2; rw [HVD.out] at k0; refine lands_value (w := wx) ?_ hT; go_simp
                  simp only [pu]
                  refine anyL_take (i := 6) (v := .int .i64 (q : Int)) rfl (by kernel_rfl) (by kernel_rfl) (by kernel_rfl) (yl_other (by decide) (by decide) rfl (fun f1 f2 wx hT => ?_)) ?_
                  · refine lands_value (w := wx) ?_ hT; go_simp; try rfl
                  simp only [pu]
                  refine anyL_take (i := 7) (v := ?_) rfl (by kernel_rfl) (by kernel_rfl) (by kernel_rfl) (yl_other (by decide) (by decide) rfl (fun f1 f2 wx hT => ?_)) ?_; rotate_left
                  · refine lands_value (w := wx) ?_ hT; go_simp <;> rfl
                  simp only [pu]
                  refine anyL_take (i := 8) (v := ?_) rfl (by kernel_rfl) (by kernel_rfl) (by kernel_rfl) (yl_other (by decide) (by decide) rfl (fun f1 f2 wx hT => ?_)) ?_; rotate_left
                  · refine lands_value (w := wx) ?_ hT; go_simp <;> rfl
                  simp only [pu]
                  refine anyL_take (i := 9) (v := .pointer (some ⟨g, j, none⟩)) rfl (by kernel_rfl) (by kernel_rfl) (by kernel_rfl) (yl_other (by decide) (by decide) rfl (fun f1 f2 wx hT => ?_)) ?_
                  · refine lands_value (w := wx) ?_ hT; go_simp; try rfl
                  simp only [pu]
                  refine anyL_take (i := 10) (v := .int .i64 (d : Int)) rfl (by kernel_rfl) (by kernel_rfl) (by kernel_rfl) (yl_ahead (n := 9) (by decide) (by decide) (by kernel_rfl) rfl (fun f2 wx hT => ?_)) ?_
                  · have k0 : wx.cell? ⟨g, j, none⟩ = some (.int .i64 (haI (toL F) F j j)) := hT.1.at_ hlt2; rw [HVD.out] at k0; refine lands_value (w := wx) ?_ hT; go_simp
                  simp only [pu]
                  refine anyL_take (i := 11) (v := .int .i64 (r : Int)) rfl (by kernel_rfl) (by kernel_rfl) (by kernel_rfl) (yl_other (by decide) (by decide) rfl (fun f1 f2 wx hT => ?_)) ?_
                  · refine lands_value (w := wx) ?_ hT; go_simp; try rfl
                  simp only [pu]
                  refine anyL_take (i := 12) (v := .int .i64 (u : Int)) rfl (by kernel_rfl) (by kernel_rfl) (by kernel_rfl) (yl_other (by decide) (by decide) rfl (fun f1 f2 wx hT => ?_)) ?_
                  · refine lands_value (w := wx) ?_ hT; go_simp; try rfl
                  simp only [pu]
                  refine anyL_take (i := 13) (v := .pointer (some ⟨g, j, none⟩)) rfl (by kernel_rfl) (by kernel_rfl) (by kernel_rfl) (yl_other (by decide) (by decide) rfl (fun f1 f2 wx hT => ?_)) ?_
                  · refine lands_value (w := wx) ?_ hT; go_simp; try rfl
                  simp only [pu]
                  refine anyL_take (i := 14) (v := undef) rfl (by kernel_rfl) (by kernel_rfl) (by kernel_rfl) (yl_first (by decide) rfl (fun f2 wx hT => ?_)) ?_
                  · have k0 : wx.cell? ⟨g, j, none⟩ = some (.int .i64 (haI (toL F) F j j)) := hT.1.at_ hlt2; have f0 := hT.1.fz _ rfl j hlt2; have K := HPUT.out wx hT.1; go_simp; exact ⟨rfl, K, by have := hT.2; simp [World.setCell]; exact this⟩
                  simp only [Act.put]
                  refine anyL_done (by kernel_rfl) (fun w8 (hw8 : OI w.heap.size w (some ⟨g, 0, none⟩) k c3 (haI (toL F) F (j + 1)) w8 ∧ w.heap.size ≤ w8.heap.size) => ?_) _
                  have HO8 := Lib.hid hw8.1
                  have HS8 := Lib.hid hw8.2
                  clear hw8
                  go_wp2_with fail
                  go_roundw
                  case rel => exact ⟨j + 1, by omega, by go_num, HO8, HS8⟩
                  case measure => simp [intOf]; omega
                · obtain rfl : j = k := by omega
                  have HO8 : Hid (OI w.heap.size w p3 j c3 (fun i => ((halve (toL F) i : Nat) : Int)) wr) := Lib.hid (HO7.out.cast fun i hi => by unfold haI; rw [if_pos hi])
                  have HB8 : Hid (∀ i, i < j → 0 ≤ ((halve (toL F) i : Nat) : Int) ∧ ((halve (toL F) i : Nat) : Int) ≤ 1099511627776) := Lib.hid fun i hi => by
                    have := HB.out i hi
                    unfold halve toL; omega
                  have HV8 : Hid (lenV t (toL fun i => ((halve (toL F) i : Nat) : Int)) j mo = some l') := Lib.hid HV2.out
                  clear HO7
                  go_wp2_with fail
                  go_roundg t
                  case measure => have := HG.out; omega
                  case rel => exact ⟨t, _, rfl, HV8, HB8, HO8, HS7⟩
end Go.Proofs.Ytmmkmbinmmfblaa
