/- HuffLengths: the walk. -/
import Derived.Test.YtmmkmbinmmfblaaVl9
import Derived.Test.YtmmkmbinmmfblaaHuffReads
import Derived.Test.YtmmkmbinmmfblaaHu
namespace Go.Proofs.Ytmmkmbinmmfblaa
open Go.RowKit
set_option maxRecDepth 100000 in
set_option maxHeartbeats 4000000 in
theorem huffLengths_none (a : Addr) (n cap : Nat) (f : Nat → Int) (most : Int) (w : World) (h : IS (some a) n cap f w) (hc : n ≤ cap) (he : lensV f (min n 60) most = none) :
    Calls Try.prog 3 #[.slice (some a) n cap, .int .i64 most] w fun e w' => e = .returned (.bool true) ∧ Below w.heap.size w w' := by
  obtain ⟨k, hk⟩ : ∃ k, k = min n 60 := ⟨_, rfl⟩
  rw [← hk] at he
  have hkn : k ≤ n := by omega
  have hk6 : k ≤ 60 := by omega
  have HK := Lib.hid hk
  have h2 := h.take hkn
  have C1 := Lib.hid (fun w h => lengths_huff_not (some a) k cap f most w h (by omega) he)
  have C2 := Lib.hid (fun q cq w h => rLens_not q k cq f most w h (by omega) he)
  have HLO := Lib.hid h2.lo
  have HHI := Lib.hid h2.hi
  clear h hk he
  go_enter Try.func3, Try.ntmps3
  go_wp2_with fail
  refine (examples9_any _).mono ?_
  rintro e w1 ⟨rfl, b1⟩
  have I1 := Lib.hid (h2.below b1)
  go_wp2_with (first | (refine wpList_valK (.int .i64 ((min n 60 : Nat) : Int)) rfl (lands_min (.tmp 18) n 60 rfl rfl rfl) ?_; intro wq hq; obtain rfl := hq; rw [← HK.out]) | (refine wpList_copyI rfl (.tmp 21) rfl rfl I1.out (by omega) ?_; intro vc w2 hL; obtain ⟨p3, c3, rfl, i3, _⟩ := hL.is HLO.out HHI.out; have b2 := hL.b; clear hL))
  have I2 := Lib.hid (I1.out.below b2)
  have J2 := Lib.hid i3
  have d2 := b1.trans (b2.mono b1.size)
  clear b1 b2 i3 I1
  refine (C1.out _ I2.out).mono ?_
  rintro e w4 ⟨rfl, b4⟩
  have d4 := d2.trans (b4.mono d2.size)
  have I4 := Lib.hid (I2.out.below b4)
  have M4 := Lib.hid (J2.out.below b4)
  clear d2 b4 I2 J2
  go_wp2_with fail
  refine (C2.out _ _ _ M4.out).mono ?_
  rintro e w5 ⟨rfl, b5⟩
  have d5 := d4.trans (b5.mono d4.size)
  have I5 := Lib.hid (I4.out.below b5)
  have M5 := Lib.hid (M4.out.below b5)
  clear d4 b5 I4 M4
  go_wp2_with fail
  refine (numbers9_same none 0 0 (fun _ => 0) none 0 (fun _ => 0) _ (IS.nil0 _ _) (IS.nil0 _ _) (by decide) (fun _ _ => rfl)).mono ?_
  rintro e w6 ⟨rfl, b6⟩
  have d6 := d5.trans (b6.mono d5.size)
  have I6 := Lib.hid (I5.out.below b6)
  have M6 := Lib.hid (M5.out.below b6)
  clear d5 b6 I5 M5
  go_wp2_with fail
  refine (numbers9_same (some a) k cap _ p3 c3 _ _ I6.out M6.out (by omega) (fun _ _ => rfl)).mono ?_
  rintro e w7 ⟨rfl, b7⟩
  have d7 := d6.trans (b7.mono d6.size)
  clear d6 b7
  go_wp2_with fail
  go_ret
  exact ⟨rfl, d7⟩
set_option maxRecDepth 100000 in
set_option maxHeartbeats 4000000 in
theorem huffLengths_some (a : Addr) (n cap : Nat) (f : Nat → Int) (most : Int) (w : World) (h : IS (some a) n cap f w) (hc : n ≤ cap) (l : Nat → Nat) (he : lensV f (min n 60) most = some l) :
    Calls Try.prog 3 #[.slice (some a) n cap, .int .i64 most] w fun e w' => e = .returned (.bool true) ∧ Below w.heap.size w w' := by
  obtain ⟨k, hk⟩ : ∃ k, k = min n 60 := ⟨_, rfl⟩
  rw [← hk] at he
  have hkn : k ≤ n := by omega
  have hk6 : k ≤ 60 := by omega
  have HK := Lib.hid hk
  have h2 := h.take hkn
  have C1 := Lib.hid (fun w h => lengths_huff (some a) k cap f most w h (by omega) l he)
  have C2 := Lib.hid (fun q cq w h => rLens q k cq f most w h (by omega) l he)
  have HLO := Lib.hid h2.lo
  have HHI := Lib.hid h2.hi
  clear h hk he
  go_enter Try.func3, Try.ntmps3
  go_wp2_with fail
  refine (examples9_any _).mono ?_
  rintro e w1 ⟨rfl, b1⟩
  have I1 := Lib.hid (h2.below b1)
  go_wp2_with (first | (refine wpList_valK (.int .i64 ((min n 60 : Nat) : Int)) rfl (lands_min (.tmp 18) n 60 rfl rfl rfl) ?_; intro wq hq; obtain rfl := hq; rw [← HK.out]) | (refine wpList_copyI rfl (.tmp 21) rfl rfl I1.out (by omega) ?_; intro vc w2 hL; obtain ⟨p3, c3, rfl, i3, _⟩ := hL.is HLO.out HHI.out; have b2 := hL.b; clear hL))
  have I2 := Lib.hid (I1.out.below b2)
  have J2 := Lib.hid i3
  have d2 := b1.trans (b2.mono b1.size)
  clear b1 b2 i3 I1
  refine (C1.out _ I2.out).mono ?_
  rintro e w4 ⟨p4, c4, rfl, i4, b4⟩
  have J4 := Lib.hid i4
  have d4 := d2.trans (b4.mono d2.size)
  have I4 := Lib.hid (I2.out.below b4)
  have M4 := Lib.hid (J2.out.below b4)
  clear d2 b4 I2 J2
  go_wp2_with fail
  refine (C2.out _ _ _ M4.out).mono ?_
  rintro e w5 ⟨p5, c5, rfl, i5, b5⟩
  have J5 := Lib.hid i5
  have K5 := Lib.hid (J4.out.below b5)
  have d5 := d4.trans (b5.mono d4.size)
  have I5 := Lib.hid (I4.out.below b5)
  have M5 := Lib.hid (M4.out.below b5)
  clear d4 b5 I4 M4
  go_wp2_with fail
  refine (numbers9_same p4 k c4 _ p5 c5 _ _ K5.out J5.out (by omega) (fun _ _ => rfl)).mono ?_
  rintro e w6 ⟨rfl, b6⟩
  have d6 := d5.trans (b6.mono d5.size)
  have I6 := Lib.hid (I5.out.below b6)
  have M6 := Lib.hid (M5.out.below b6)
  clear d5 b6 I5 M5
  go_wp2_with fail
  refine (numbers9_same (some a) k cap _ p3 c3 _ _ I6.out M6.out (by omega) (fun _ _ => rfl)).mono ?_
  rintro e w7 ⟨rfl, b7⟩
  have d7 := d6.trans (b7.mono d6.size)
  clear d6 b7
  go_wp2_with fail
  go_ret
  exact ⟨rfl, d7⟩
set_option maxRecDepth 100000 in
set_option maxHeartbeats 4000000 in
theorem huffLengths_noneN (f : Nat → Int) (most : Int) (w : World) (h : IS none 0 0 f w) (he : lensV f 0 most = none) :
    Calls Try.prog 3 #[.slice none 0 0, .int .i64 most] w fun e w' => e = .returned (.bool true) ∧ Below w.heap.size w w' := by
  have h2 := h
  have C1 := Lib.hid (fun w h => lengths_huff_not none 0 0 f most w h (by decide) he)
  have C2 := Lib.hid (fun q cq w h => rLens_not q 0 cq f most w h (by decide) he)
  have HLO := Lib.hid h2.lo
  have HHI := Lib.hid h2.hi
  clear h he
  go_enter Try.func3, Try.ntmps3
  go_wp2_with fail
  refine (examples9_any _).mono ?_
  rintro e w1 ⟨rfl, b1⟩
  have I1 := Lib.hid (h2.below b1)
  go_wp2_with (first | (refine wpList_valK (.int .i64 ((min 0 60 : Nat) : Int)) rfl (lands_min (.tmp 18) 0 60 rfl rfl rfl) ?_; intro wq hq; obtain rfl := hq) | (refine wpList_copyI rfl (.tmp 21) rfl rfl I1.out (by decide) ?_; intro vc w2 hL; obtain ⟨p3, c3, rfl, i3, _⟩ := hL.is HLO.out HHI.out; have b2 := hL.b; clear hL))
  have I2 := Lib.hid (I1.out.below b2)
  have J2 := Lib.hid i3
  have d2 := b1.trans (b2.mono b1.size)
  clear b1 b2 i3 I1
  refine (C1.out _ I2.out).mono ?_
  rintro e w4 ⟨rfl, b4⟩
  have d4 := d2.trans (b4.mono d2.size)
  have I4 := Lib.hid (I2.out.below b4)
  have M4 := Lib.hid (J2.out.below b4)
  clear d2 b4 I2 J2
  go_wp2_with fail
  refine (C2.out _ _ _ M4.out).mono ?_
  rintro e w5 ⟨rfl, b5⟩
  have d5 := d4.trans (b5.mono d4.size)
  have I5 := Lib.hid (I4.out.below b5)
  have M5 := Lib.hid (M4.out.below b5)
  clear d4 b5 I4 M4
  go_wp2_with fail
  refine (numbers9_same none 0 0 (fun _ => 0) none 0 (fun _ => 0) _ (IS.nil0 _ _) (IS.nil0 _ _) (by decide) (fun _ _ => rfl)).mono ?_
  rintro e w6 ⟨rfl, b6⟩
  have d6 := d5.trans (b6.mono d5.size)
  have I6 := Lib.hid (I5.out.below b6)
  have M6 := Lib.hid (M5.out.below b6)
  clear d5 b6 I5 M5
  go_wp2_with fail
  refine (numbers9_same none 0 0 _ p3 c3 _ _ I6.out M6.out (by decide) (fun _ _ => rfl)).mono ?_
  rintro e w7 ⟨rfl, b7⟩
  have d7 := d6.trans (b7.mono d6.size)
  clear d6 b7
  go_wp2_with fail
  go_ret
  exact ⟨rfl, d7⟩
set_option maxRecDepth 100000 in
set_option maxHeartbeats 4000000 in
theorem huffLengths_someN (f : Nat → Int) (most : Int) (w : World) (h : IS none 0 0 f w) (l : Nat → Nat) (he : lensV f 0 most = some l) :
    Calls Try.prog 3 #[.slice none 0 0, .int .i64 most] w fun e w' => e = .returned (.bool true) ∧ Below w.heap.size w w' := by
  have h2 := h
  have C1 := Lib.hid (fun w h => lengths_huff none 0 0 f most w h (by decide) l he)
  have C2 := Lib.hid (fun q cq w h => rLens q 0 cq f most w h (by decide) l he)
  have HLO := Lib.hid h2.lo
  have HHI := Lib.hid h2.hi
  clear h he
  go_enter Try.func3, Try.ntmps3
  go_wp2_with fail
  refine (examples9_any _).mono ?_
  rintro e w1 ⟨rfl, b1⟩
  have I1 := Lib.hid (h2.below b1)
  go_wp2_with (first | (refine wpList_valK (.int .i64 ((min 0 60 : Nat) : Int)) rfl (lands_min (.tmp 18) 0 60 rfl rfl rfl) ?_; intro wq hq; obtain rfl := hq) | (refine wpList_copyI rfl (.tmp 21) rfl rfl I1.out (by decide) ?_; intro vc w2 hL; obtain ⟨p3, c3, rfl, i3, _⟩ := hL.is HLO.out HHI.out; have b2 := hL.b; clear hL))
  have I2 := Lib.hid (I1.out.below b2)
  have J2 := Lib.hid i3
  have d2 := b1.trans (b2.mono b1.size)
  clear b1 b2 i3 I1
  refine (C1.out _ I2.out).mono ?_
  rintro e w4 ⟨p4, c4, rfl, i4, b4⟩
  have J4 := Lib.hid i4
  have d4 := d2.trans (b4.mono d2.size)
  have I4 := Lib.hid (I2.out.below b4)
  have M4 := Lib.hid (J2.out.below b4)
  clear d2 b4 I2 J2
  go_wp2_with fail
  refine (C2.out _ _ _ M4.out).mono ?_
  rintro e w5 ⟨p5, c5, rfl, i5, b5⟩
  have J5 := Lib.hid i5
  have K5 := Lib.hid (J4.out.below b5)
  have d5 := d4.trans (b5.mono d4.size)
  have I5 := Lib.hid (I4.out.below b5)
  have M5 := Lib.hid (M4.out.below b5)
  clear d4 b5 I4 M4
  go_wp2_with fail
  refine (numbers9_same p4 0 c4 _ p5 c5 _ _ K5.out J5.out (by decide) (fun _ _ => rfl)).mono ?_
  rintro e w6 ⟨rfl, b6⟩
  have d6 := d5.trans (b6.mono d5.size)
  have I6 := Lib.hid (I5.out.below b6)
  have M6 := Lib.hid (M5.out.below b6)
  clear d5 b6 I5 M5
  go_wp2_with fail
  refine (numbers9_same none 0 0 _ p3 c3 _ _ I6.out M6.out (by decide) (fun _ _ => rfl)).mono ?_
  rintro e w7 ⟨rfl, b7⟩
  have d7 := d6.trans (b7.mono d6.size)
  clear d6 b7
  go_wp2_with fail
  go_ret
  exact ⟨rfl, d7⟩
theorem huffLengths_any (p : Option Addr) (n cap : Nat) (f : Nat → Int) (most : Int) (w : World) (h : IS p n cap f w) (hc : n ≤ cap) :
    Calls Try.prog 3 #[.slice p n cap, .int .i64 most] w fun e w' => e = .returned (.bool true) ∧ Below w.heap.size w w' := by
  cases p with
  | none =>
    obtain ⟨rfl, rfl⟩ := h.nil_ rfl
    cases e : lensV f 0 most with
    | none => exact huffLengths_noneN f most w h e
    | some l => exact huffLengths_someN f most w h l e
  | some a =>
    cases e : lensV f (min n 60) most with
    | none => exact huffLengths_none a n cap f most w h hc e
    | some l => exact huffLengths_some a n cap f most w h hc l e
end Go.Proofs.Ytmmkmbinmmfblaa
