/- HuffReads: the walk. -/
import Derived.Test.YtmmkmbinmmfblaaVb9
namespace Go.Proofs.Ytmmkmbinmmfblaa
open Go.RowKit
theorem IS.take {p : Option Addr} {n cap : Nat} {f : Nat → Int} {w : World} (h : IS p n cap f w) {k : Nat} (hk : k ≤ n) : IS p k cap f w :=
  ⟨fun e => ⟨by have := (h.nil_ e).1; omega, (h.nil_ e).2⟩, fun a ha i hi => h.cell a ha i (by omega), h.lt, fun i hi => h.lo i (by omega), fun i hi => h.hi i (by omega)⟩
/-- Of a nil pointer. -/
theorem newE_pos {f : Nat → Int} {n : Nat} : newE f n = 0 ∨ newE f n ≠ 0 := by omega
set_option maxRecDepth 100000 in
set_option maxHeartbeats 4000000 in
theorem huffReads_none (a : Addr) (n cap : Nat) (f : Nat → Int) (s : ByteArray) (at_ : Int) (w : World) (h : IS (some a) n cap f w) (hc : n ≤ cap) (he : newE f (min n 100) ≠ 0) :
    Calls Try.prog 5 #[.slice (some a) n cap, .string s, .int .i64 at_] w fun e w' => e = .returned (.bool true) ∧ Below w.heap.size w w' := by
  obtain ⟨k, hk⟩ : ∃ k, k = min n 100 := ⟨_, rfl⟩
  rw [← hk] at he
  have hkn : k ≤ n := by omega
  have HK := Lib.hid hk
  have h2 := h.take hkn
  have hnz : ¬ (newE f k : Int) = 0 := by omega
  have C1 := Lib.hid (fun w h => new_huff_not (some a) k cap f w h (by omega) he)
  have C2 := Lib.hid (fun w h => rnew9_any (some a) k cap f w h (by omega))
  generalize newE f k = E at *
  have HBN : Hid (((E : Int) != 0) = true) := Lib.hid (bne_iff_ne.2 hnz)
  clear he
  clear h hk
  go_enter Try.func5, Try.ntmps5
  go_wp2_with fail
  refine (examples9_any _).mono ?_
  rintro e w1 ⟨rfl, b1⟩
  have I1 := Lib.hid (h2.below b1)
  go_wp2_with (refine wpList_valK (.int .i64 ((min n 100 : Nat) : Int)) rfl (lands_min (.tmp 23) n 100 rfl rfl rfl) ?_; intro wq hq; obtain rfl := hq; rw [← HK.out])
  refine (C1.out _ I1.out).mono ?_
  rintro e w2 ⟨rfl, b2⟩
  have I2 := Lib.hid (I1.out.below b2)
  have d2 := b1.trans (b2.mono b1.size)
  clear b1 b2
  go_wp2_with fail
  refine (C2.out _ I2.out).mono ?_
  rintro e w3 ⟨q1, e1, q2, e2, m, rfl, b3, _⟩
  have d3 := d2.trans (b3.mono d2.size)
  clear d2 b3
  go_wp2_with (first | rw [HBN.out])
  go_ret
  exact ⟨rfl, d3.alloc d3.size _⟩
set_option maxRecDepth 100000 in
set_option maxHeartbeats 4000000 in
theorem huffReads_pos (a : Addr) (n cap : Nat) (f : Nat → Int) (s : ByteArray) (at_ : Int) (w : World) (h : IS (some a) n cap f w) (hc : n ≤ cap) (hs : s.size ≤ 140737488351232) (ha : -9223372036854775808 ≤ at_ ∧ at_ < 9223372036854775808) (he : newE f (min n 100) = 0) (h0 : 0 ≤ at_) :
    Calls Try.prog 5 #[.slice (some a) n cap, .string s, .int .i64 at_] w fun e w' => e = .returned (.bool true) ∧ Below w.heap.size w w' := by
  obtain ⟨k, hk⟩ : ∃ k, k = min n 100 := ⟨_, rfl⟩
  rw [← hk] at he
  have hkn : k ≤ n := by omega
  have HK := Lib.hid hk
  have h2 := h.take hkn
  have C1 := Lib.hid (fun w h => new_huff (some a) k cap f w h (by omega) he)
  have C2 := Lib.hid (fun w h => rnew9_any (some a) k cap f w h (by omega))
  rw [he] at C2
  obtain ⟨A, rfl⟩ := Int.eq_ofNat_of_zero_le h0
  have hA : A < 9223372036854775808 := by omega
  have CN := Lib.hid (fun v w h => next_huff v f k s A w h (by omega) hA _ rfl)
  have RN := Lib.hid (fun p1 c1 p2 c2 w hok i1 i2 => rnext9_any p1 c1 p2 c2 k f s A w (by omega) hok i1 i2 (by omega) hA _ rfl)
  generalize nextV (toL f) k (bitH s) (8 * s.size) A 0 15 = R at *
  obtain ⟨r1, r2, r3⟩ := R
  clear he ha hA h0
  clear h hk hs
  go_enter Try.func5, Try.ntmps5
  go_wp2_with fail
  refine (examples9_any _).mono ?_
  rintro e w1 ⟨rfl, b1⟩
  have I1 := Lib.hid (h2.below b1)
  go_wp2_with (refine wpList_valK (.int .i64 ((min n 100 : Nat) : Int)) rfl (lands_min (.tmp 23) n 100 rfl rfl rfl) ?_; intro wq hq; obtain rfl := hq; rw [← HK.out])
  refine (C1.out _ I1.out).mono ?_
  rintro e w2 ⟨v, rfl, k2, b2⟩
  obtain ⟨av, rfl⟩ := k2.some
  have I2 := Lib.hid (I1.out.below b2)
  have K2 := Lib.hid k2
  have d2 := b1.trans (b2.mono b1.size)
  clear b1 b2 k2
  go_wp2_with fail
  refine (C2.out _ I2.out).mono ?_
  rintro e w3 ⟨q1, e1, q2, e2, m, rfl, b3, hg⟩
  obtain ⟨rfl, hn3, hok, i1, i2⟩ := hg (by trivial)
  have d3 := d2.trans (b3.mono d2.size)
  have bl : Below w3.heap.size w3 (w3.alloc (.cells #[.slice q1 m e1, .slice q2 m e2] 38)) := (Below.refl _ _).alloc (Nat.le_refl _) _
  have d4 := d3.trans (bl.mono d3.size)
  have K4 := Lib.hid ((K2.out.below b3).below bl)
  have J1 := Lib.hid (i1.below bl)
  have J2 := Lib.hid (i2.below bl)
  have BL := Lib.hid (Blk.new w3 38 #[.slice q1 m e1, .slice q2 m e2])
  have HOK := Lib.hid hok
  clear d2 b3 I2 K2 i1 i2 d3 bl hg hok
  go_wp2_with fail
  refine (CN.out _ _ K4.out).mono ?_
  rintro e w5 ⟨rfl, b5⟩
  have d5 := d4.trans (b5.mono d4.size)
  have hB5 := BL.out.below b5 BL.out.lt
  have c0 : w5.cell? ⟨w3.heap.size, 0, none⟩ = some (.slice q1 m e1) := hB5.cell 0
  have c1 : w5.cell? ⟨w3.heap.size, 1, none⟩ = some (.slice q2 m e2) := hB5.cell 1
  have L1 := Lib.hid (J1.out.below b5)
  have L2 := Lib.hid (J2.out.below b5)
  clear d4 b5 BL K4 J1 J2 hB5
  go_wp2_with fail
  refine (RN.out q1 e1 q2 e2 w5 HOK.out L1.out L2.out).mono ?_
  rintro e w6 ⟨rfl, b6⟩
  have d6 := d5.trans (b6.mono d5.size)
  clear d5 b6 L1 L2 c0 c1
  go_wp2_with fail
  go_ret
  exact ⟨rfl, d6⟩
set_option maxRecDepth 100000 in
set_option maxHeartbeats 4000000 in
theorem huffReads_neg (a : Addr) (n cap : Nat) (f : Nat → Int) (s : ByteArray) (at_ : Int) (w : World) (h : IS (some a) n cap f w) (hc : n ≤ cap) (he : newE f (min n 100) = 0) (h0 : at_ < 0) :
    Calls Try.prog 5 #[.slice (some a) n cap, .string s, .int .i64 at_] w fun e w' => e = .returned (.bool true) ∧ Below w.heap.size w w' := by
  obtain ⟨k, hk⟩ : ∃ k, k = min n 100 := ⟨_, rfl⟩
  rw [← hk] at he
  have hkn : k ≤ n := by omega
  have HK := Lib.hid hk
  have h2 := h.take hkn
  have C1 := Lib.hid (fun w h => new_huff (some a) k cap f w h (by omega) he)
  have C2 := Lib.hid (fun w h => rnew9_any (some a) k cap f w h (by omega))
  rw [he] at C2
  have CN := Lib.hid (fun v w h => next_huff_neg v f k s at_ w h h0)
  have RN := Lib.hid (fun p1 c1 p2 c2 w (_ : okB f k = true) (_ : IS p1 k c1 f w) (_ : IS p2 k c2 (fun i => (codeN (toL f) k i : Int)) w) => rnext9_neg (.agg #[.slice p1 k c1, .slice p2 k c2]) p1 c1 k p2 c2 s at_ w h0 rfl)
  clear he h0
  clear h hk
  go_enter Try.func5, Try.ntmps5
  go_wp2_with fail
  refine (examples9_any _).mono ?_
  rintro e w1 ⟨rfl, b1⟩
  have I1 := Lib.hid (h2.below b1)
  go_wp2_with (refine wpList_valK (.int .i64 ((min n 100 : Nat) : Int)) rfl (lands_min (.tmp 23) n 100 rfl rfl rfl) ?_; intro wq hq; obtain rfl := hq; rw [← HK.out])
  refine (C1.out _ I1.out).mono ?_
  rintro e w2 ⟨v, rfl, k2, b2⟩
  obtain ⟨av, rfl⟩ := k2.some
  have I2 := Lib.hid (I1.out.below b2)
  have K2 := Lib.hid k2
  have d2 := b1.trans (b2.mono b1.size)
  clear b1 b2 k2
  go_wp2_with fail
  refine (C2.out _ I2.out).mono ?_
  rintro e w3 ⟨q1, e1, q2, e2, m, rfl, b3, hg⟩
  obtain ⟨rfl, hn3, hok, i1, i2⟩ := hg (by trivial)
  have d3 := d2.trans (b3.mono d2.size)
  have bl : Below w3.heap.size w3 (w3.alloc (.cells #[.slice q1 m e1, .slice q2 m e2] 38)) := (Below.refl _ _).alloc (Nat.le_refl _) _
  have d4 := d3.trans (bl.mono d3.size)
  have K4 := Lib.hid ((K2.out.below b3).below bl)
  have J1 := Lib.hid (i1.below bl)
  have J2 := Lib.hid (i2.below bl)
  have BL := Lib.hid (Blk.new w3 38 #[.slice q1 m e1, .slice q2 m e2])
  have HOK := Lib.hid hok
  clear d2 b3 I2 K2 i1 i2 d3 bl hg hok
  go_wp2_with fail
  refine (CN.out _ _ K4.out).mono ?_
  rintro e w5 ⟨rfl, b5⟩
  have d5 := d4.trans (b5.mono d4.size)
  have hB5 := BL.out.below b5 BL.out.lt
  have c0 : w5.cell? ⟨w3.heap.size, 0, none⟩ = some (.slice q1 m e1) := hB5.cell 0
  have c1 : w5.cell? ⟨w3.heap.size, 1, none⟩ = some (.slice q2 m e2) := hB5.cell 1
  have L1 := Lib.hid (J1.out.below b5)
  have L2 := Lib.hid (J2.out.below b5)
  clear d4 b5 BL K4 J1 J2 hB5
  go_wp2_with fail
  refine (RN.out q1 e1 q2 e2 w5 HOK.out L1.out L2.out).mono ?_
  rintro e w6 ⟨rfl, b6⟩
  have d6 := d5.trans (b6.mono d5.size)
  clear d5 b6 L1 L2 c0 c1
  go_wp2_with fail
  go_ret
  exact ⟨rfl, d6⟩
set_option maxRecDepth 100000 in
set_option maxHeartbeats 4000000 in
theorem huffReads_posN (f : Nat → Int) (s : ByteArray) (at_ : Int) (w : World) (h : IS none 0 0 f w) (hs : s.size ≤ 140737488351232) (ha : -9223372036854775808 ≤ at_ ∧ at_ < 9223372036854775808) (he : newE f 0 = 0) (h0 : 0 ≤ at_) :
    Calls Try.prog 5 #[.slice none 0 0, .string s, .int .i64 at_] w fun e w' => e = .returned (.bool true) ∧ Below w.heap.size w w' := by
  have h2 := h
  have C1 := Lib.hid (fun w h => new_huff none 0 0 f w h (by decide) he)
  have C2 := Lib.hid (fun w h => rnew9_any none 0 0 f w h (by omega))
  rw [he] at C2
  obtain ⟨A, rfl⟩ := Int.eq_ofNat_of_zero_le h0
  have hA : A < 9223372036854775808 := by omega
  have CN := Lib.hid (fun v w h => next_huff v f 0 s A w h (by omega) hA _ rfl)
  have RN := Lib.hid (fun p1 c1 p2 c2 w hok i1 i2 => rnext9_any p1 c1 p2 c2 0 f s A w (by omega) hok i1 i2 (by omega) hA _ rfl)
  generalize nextV (toL f) 0 (bitH s) (8 * s.size) A 0 15 = R at *
  obtain ⟨r1, r2, r3⟩ := R
  clear he ha hA h0
  clear h hs
  go_enter Try.func5, Try.ntmps5
  go_wp2_with fail
  refine (examples9_any _).mono ?_
  rintro e w1 ⟨rfl, b1⟩
  have I1 := Lib.hid (h2.below b1)
  go_wp2_with (refine wpList_valK (.int .i64 ((min 0 100 : Nat) : Int)) rfl (lands_min (.tmp 23) 0 100 rfl rfl rfl) ?_; intro wq hq; obtain rfl := hq)
  refine (C1.out _ I1.out).mono ?_
  rintro e w2 ⟨v, rfl, k2, b2⟩
  obtain ⟨av, rfl⟩ := k2.some
  have I2 := Lib.hid (I1.out.below b2)
  have K2 := Lib.hid k2
  have d2 := b1.trans (b2.mono b1.size)
  clear b1 b2 k2
  go_wp2_with fail
  refine (C2.out _ I2.out).mono ?_
  rintro e w3 ⟨q1, e1, q2, e2, m, rfl, b3, hg⟩
  obtain ⟨rfl, hn3, hok, i1, i2⟩ := hg (by trivial)
  have d3 := d2.trans (b3.mono d2.size)
  have bl : Below w3.heap.size w3 (w3.alloc (.cells #[.slice q1 0 e1, .slice q2 0 e2] 38)) := (Below.refl _ _).alloc (Nat.le_refl _) _
  have d4 := d3.trans (bl.mono d3.size)
  have K4 := Lib.hid ((K2.out.below b3).below bl)
  have J1 := Lib.hid (i1.below bl)
  have J2 := Lib.hid (i2.below bl)
  have BL := Lib.hid (Blk.new w3 38 #[.slice q1 0 e1, .slice q2 0 e2])
  have HOK := Lib.hid hok
  clear d2 b3 I2 K2 i1 i2 d3 bl hg hok
  go_wp2_with fail
  refine (CN.out _ _ K4.out).mono ?_
  rintro e w5 ⟨rfl, b5⟩
  have d5 := d4.trans (b5.mono d4.size)
  have hB5 := BL.out.below b5 BL.out.lt
  have c0 : w5.cell? ⟨w3.heap.size, 0, none⟩ = some (.slice q1 0 e1) := hB5.cell 0
  have c1 : w5.cell? ⟨w3.heap.size, 1, none⟩ = some (.slice q2 0 e2) := hB5.cell 1
  have L1 := Lib.hid (J1.out.below b5)
  have L2 := Lib.hid (J2.out.below b5)
  clear d4 b5 BL K4 J1 J2 hB5
  go_wp2_with fail
  refine (RN.out q1 e1 q2 e2 w5 HOK.out L1.out L2.out).mono ?_
  rintro e w6 ⟨rfl, b6⟩
  have d6 := d5.trans (b6.mono d5.size)
  clear d5 b6 L1 L2 c0 c1
  go_wp2_with fail
  go_ret
  exact ⟨rfl, d6⟩
set_option maxRecDepth 100000 in
set_option maxHeartbeats 4000000 in
theorem huffReads_negN (f : Nat → Int) (s : ByteArray) (at_ : Int) (w : World) (h : IS none 0 0 f w) (he : newE f 0 = 0) (h0 : at_ < 0) :
    Calls Try.prog 5 #[.slice none 0 0, .string s, .int .i64 at_] w fun e w' => e = .returned (.bool true) ∧ Below w.heap.size w w' := by
  have h2 := h
  have C1 := Lib.hid (fun w h => new_huff none 0 0 f w h (by decide) he)
  have C2 := Lib.hid (fun w h => rnew9_any none 0 0 f w h (by omega))
  rw [he] at C2
  have CN := Lib.hid (fun v w h => next_huff_neg v f 0 s at_ w h h0)
  have RN := Lib.hid (fun p1 c1 p2 c2 w (_ : okB f 0 = true) (_ : IS p1 0 c1 f w) (_ : IS p2 0 c2 (fun i => (codeN (toL f) 0 i : Int)) w) => rnext9_neg (.agg #[.slice p1 0 c1, .slice p2 0 c2]) p1 c1 0 p2 c2 s at_ w h0 rfl)
  clear he h0
  clear h
  go_enter Try.func5, Try.ntmps5
  go_wp2_with fail
  refine (examples9_any _).mono ?_
  rintro e w1 ⟨rfl, b1⟩
  have I1 := Lib.hid (h2.below b1)
  go_wp2_with (refine wpList_valK (.int .i64 ((min 0 100 : Nat) : Int)) rfl (lands_min (.tmp 23) 0 100 rfl rfl rfl) ?_; intro wq hq; obtain rfl := hq)
  refine (C1.out _ I1.out).mono ?_
  rintro e w2 ⟨v, rfl, k2, b2⟩
  obtain ⟨av, rfl⟩ := k2.some
  have I2 := Lib.hid (I1.out.below b2)
  have K2 := Lib.hid k2
  have d2 := b1.trans (b2.mono b1.size)
  clear b1 b2 k2
  go_wp2_with fail
  refine (C2.out _ I2.out).mono ?_
  rintro e w3 ⟨q1, e1, q2, e2, m, rfl, b3, hg⟩
  obtain ⟨rfl, hn3, hok, i1, i2⟩ := hg (by trivial)
  have d3 := d2.trans (b3.mono d2.size)
  have bl : Below w3.heap.size w3 (w3.alloc (.cells #[.slice q1 0 e1, .slice q2 0 e2] 38)) := (Below.refl _ _).alloc (Nat.le_refl _) _
  have d4 := d3.trans (bl.mono d3.size)
  have K4 := Lib.hid ((K2.out.below b3).below bl)
  have J1 := Lib.hid (i1.below bl)
  have J2 := Lib.hid (i2.below bl)
  have BL := Lib.hid (Blk.new w3 38 #[.slice q1 0 e1, .slice q2 0 e2])
  have HOK := Lib.hid hok
  clear d2 b3 I2 K2 i1 i2 d3 bl hg hok
  go_wp2_with fail
  refine (CN.out _ _ K4.out).mono ?_
  rintro e w5 ⟨rfl, b5⟩
  have d5 := d4.trans (b5.mono d4.size)
  have hB5 := BL.out.below b5 BL.out.lt
  have c0 : w5.cell? ⟨w3.heap.size, 0, none⟩ = some (.slice q1 0 e1) := hB5.cell 0
  have c1 : w5.cell? ⟨w3.heap.size, 1, none⟩ = some (.slice q2 0 e2) := hB5.cell 1
  have L1 := Lib.hid (J1.out.below b5)
  have L2 := Lib.hid (J2.out.below b5)
  clear d4 b5 BL K4 J1 J2 hB5
  go_wp2_with fail
  refine (RN.out q1 e1 q2 e2 w5 HOK.out L1.out L2.out).mono ?_
  rintro e w6 ⟨rfl, b6⟩
  have d6 := d5.trans (b6.mono d5.size)
  clear d5 b6 L1 L2 c0 c1
  go_wp2_with fail
  go_ret
  exact ⟨rfl, d6⟩
theorem newE_nil (f : Nat → Int) : newE f 0 = 0 := by
  have e : codesE f 0 = 0 := by unfold codesE; rw [if_pos ⟨rfl, by decide⟩]; exact if_pos (by show 0 ≤ 32768; decide)
  unfold newE
  rw [if_pos e]
  exact if_pos (.inr (.inl rfl))
theorem huffReads_any (p : Option Addr) (n cap : Nat) (f : Nat → Int) (s : ByteArray) (at_ : Int) (w : World) (h : IS p n cap f w) (hc : n ≤ cap) (hs : s.size ≤ 140737488351232) (ha : -9223372036854775808 ≤ at_ ∧ at_ < 9223372036854775808) :
    Calls Try.prog 5 #[.slice p n cap, .string s, .int .i64 at_] w fun e w' => e = .returned (.bool true) ∧ Below w.heap.size w w' := by
  cases p with
  | none =>
    obtain ⟨rfl, rfl⟩ := h.nil_ rfl
    rcases Int.lt_or_le at_ 0 with h0 | h0
    · exact huffReads_negN f s at_ w h (newE_nil f) h0
    · exact huffReads_posN f s at_ w h hs ha (newE_nil f) h0
  | some a =>
    by_cases he : newE f (min n 100) = 0
    · rcases Int.lt_or_le at_ 0 with h0 | h0
      · exact huffReads_neg a n cap f s at_ w h hc he h0
      · exact huffReads_pos a n cap f s at_ w h hc hs ha he h0
    · exact huffReads_none a n cap f s at_ w h hc he
end Go.Proofs.Ytmmkmbinmmfblaa
