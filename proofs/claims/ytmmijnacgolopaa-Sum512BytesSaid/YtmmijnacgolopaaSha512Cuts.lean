/- Sum512Cuts: the walk. -/
import Derived.Test.YtmmijnacgolopaaSbH
import Derived.Test.YtmmijnacgolopaaSbg
namespace Go.Proofs.Ytmmijnacgolopaa
open Go.RowKit
set_option maxRecDepth 100000 in
set_option maxHeartbeats 400000 in
theorem cuts_a (s : ByteArray) (p : Int) (w : World) (_hs : s.size ≤ 9223372036854775807) (_h0 : -9223372036854775808 ≤ p) (_h1 : p ≤ 9223372036854775807) (_hp : p < 0) (_h5 : s.size ≤ 500) :
    Calls Try.prog 5 #[.string s, .int .i64 p] w fun e w' => e = .returned (.bool true) ∧ Below w.heap.size w w' := by
  obtain ⟨q, hq, hqs⟩ := pick_neg p s.size _hp
  go_enter Try.func5, Try.ntmps5
  go_wp2_with (first
    | (go_at_call 8; refine (examples_any _).mono ?_; rintro e w1 ⟨rfl, b1⟩)
    | fail)
  obtain ⟨t, rfl⟩ : ∃ t : ByteArray, t = s := ⟨_, rfl⟩
  refine (new_any _).mono ?_
  rintro e w2 ⟨rfl, h2, c2⟩
  have b2 := b1.trans (c2.mono b1.size)
  have hn : w.heap.size ≤ w1.heap.size := b1.size
  generalize w1.heap.size = n at h2 hn ⊢
  clear c2 b1 hq
  have hA : (t.data.toList.take q).length ≤ 500 := by rw [List.length_take, size_list]; omega
  have hB : (t.extract q t.size).size ≤ 500 := by simp; omega
  have hA2 : (t.extract 0 q).size ≤ 500 := by simp; omega
  have HC := Lib.hid (write_cut t q)
  go_wp2_with fail
  refine (write_any n H0 (t.extract 0 q) w2 h2.lt h2 (by show 0 + _ < _; omega)).mono ?_
  rintro e w3 ⟨rfl, h3, c3⟩
  rw [extract_list, List.drop_zero, Nat.sub_zero] at h3
  have b3 := c3.below b2 hn b2.size
  clear h2 b2 c3
  go_wp2_with fail
  refine (sum_any n _ w3 h3 (by rw [size0]; omega)).mono ?_
  rintro e w4 ⟨rfl, b4⟩
  have h4 := h3.below b4 h3.lt
  have b4' := b3.trans (b4.mono b3.size)
  clear h3 b3 b4
  go_wp2_with fail
  refine (write_any n _ (t.extract q t.size) w4 h4.lt h4 (by rw [size0]; omega)).mono ?_
  rintro e w5 ⟨rfl, h5, c5⟩
  have b5 := c5.below b4' hn b4'.size
  rw [HC.out] at h5
  have ht : (H0.write t.data.toList).size = t.size := by rw [size0, size_list]
  have hts : (H0.write t.data.toList).size < 576460752303423488 := by rw [ht]; omega
  have HT := Lib.hid ht
  clear h4 b4' c5 ht
  go_wp2_with fail
  refine (sum_any n _ w5 h5 hts).mono ?_
  rintro e w6 ⟨rfl, b6⟩
  have h6 := h5.below b6 h5.lt
  have b6' := b5.trans (b6.mono b5.size)
  clear h5 b5 b6
  go_wp2_with fail
  refine (one_any t w6 (by omega)).mono ?_
  rintro e w7 ⟨rfl, b7⟩
  have h7 := h6.below b7 h6.lt
  have b7' := b6'.trans (b7.mono b6'.size)
  clear h6 b6' b7
  go_wp2_with fail
  refine (sum_any n _ w7 h7 hts).mono ?_
  rintro e w8 ⟨rfl, b8⟩
  have h8 := h7.below b8 h7.lt
  have b8' := b7'.trans (b8.mono b7'.size)
  clear h7 b7' b8
  go_wp2_with fail
  refine (sum_any n _ w8 h8 hts).mono ?_
  rintro e w9 ⟨rfl, b9⟩
  have h9 := h8.below b9 h8.lt
  have b9' := b8'.trans (b9.mono b8'.size)
  clear h8 b8' b9
  go_wp2_with fail
  refine (one_any _ w9 (by omega)).mono ?_
  rintro e w10 ⟨rfl, b10⟩
  have h10 := h9.below b10 h9.lt
  have b10' := b9'.trans (b10.mono b9'.size)
  have hl := out_length (H0.write (t.data.toList.take q))
  clear h9 b9' b10
  go_wp2_with fail
  refine (len_any n _ w10 h10).mono ?_
  rintro e w11 ⟨rfl, rfl⟩
  rw [HT.out]
  go_wp2_with fail
  go_ret
  exact ⟨rfl, b10'⟩
set_option maxRecDepth 100000 in
set_option maxHeartbeats 400000 in
theorem cuts_b (s : ByteArray) (p : Int) (w : World) (_hs : s.size ≤ 9223372036854775807) (_h0 : -9223372036854775808 ≤ p) (_h1 : p ≤ 9223372036854775807) (_hp : 0 ≤ p) (_h5 : s.size ≤ 500) :
    Calls Try.prog 5 #[.string s, .int .i64 p] w fun e w' => e = .returned (.bool true) ∧ Below w.heap.size w w' := by
  obtain ⟨q, hq, hqs⟩ := pick_pos p s.size _hp
  go_enter Try.func5, Try.ntmps5
  go_wp2_with (first
    | (go_at_call 8; refine (examples_any _).mono ?_; rintro e w1 ⟨rfl, b1⟩)
    | fail)
  rw [hq]
  obtain ⟨t, rfl⟩ : ∃ t : ByteArray, t = s := ⟨_, rfl⟩
  refine (new_any _).mono ?_
  rintro e w2 ⟨rfl, h2, c2⟩
  have b2 := b1.trans (c2.mono b1.size)
  have hn : w.heap.size ≤ w1.heap.size := b1.size
  generalize w1.heap.size = n at h2 hn ⊢
  clear c2 b1 hq
  have hA : (t.data.toList.take q).length ≤ 500 := by rw [List.length_take, size_list]; omega
  have hB : (t.extract q t.size).size ≤ 500 := by simp; omega
  have hA2 : (t.extract 0 q).size ≤ 500 := by simp; omega
  have HC := Lib.hid (write_cut t q)
  go_wp2_with fail
  refine (write_any n H0 (t.extract 0 q) w2 h2.lt h2 (by show 0 + _ < _; omega)).mono ?_
  rintro e w3 ⟨rfl, h3, c3⟩
  rw [extract_list, List.drop_zero, Nat.sub_zero] at h3
  have b3 := c3.below b2 hn b2.size
  clear h2 b2 c3
  go_wp2_with fail
  refine (sum_any n _ w3 h3 (by rw [size0]; omega)).mono ?_
  rintro e w4 ⟨rfl, b4⟩
  have h4 := h3.below b4 h3.lt
  have b4' := b3.trans (b4.mono b3.size)
  clear h3 b3 b4
  go_wp2_with fail
  refine (write_any n _ (t.extract q t.size) w4 h4.lt h4 (by rw [size0]; omega)).mono ?_
  rintro e w5 ⟨rfl, h5, c5⟩
  have b5 := c5.below b4' hn b4'.size
  rw [HC.out] at h5
  have ht : (H0.write t.data.toList).size = t.size := by rw [size0, size_list]
  have hts : (H0.write t.data.toList).size < 576460752303423488 := by rw [ht]; omega
  have HT := Lib.hid ht
  clear h4 b4' c5 ht
  go_wp2_with fail
  refine (sum_any n _ w5 h5 hts).mono ?_
  rintro e w6 ⟨rfl, b6⟩
  have h6 := h5.below b6 h5.lt
  have b6' := b5.trans (b6.mono b5.size)
  clear h5 b5 b6
  go_wp2_with fail
  refine (one_any t w6 (by omega)).mono ?_
  rintro e w7 ⟨rfl, b7⟩
  have h7 := h6.below b7 h6.lt
  have b7' := b6'.trans (b7.mono b6'.size)
  clear h6 b6' b7
  go_wp2_with fail
  refine (sum_any n _ w7 h7 hts).mono ?_
  rintro e w8 ⟨rfl, b8⟩
  have h8 := h7.below b8 h7.lt
  have b8' := b7'.trans (b8.mono b7'.size)
  clear h7 b7' b8
  go_wp2_with fail
  refine (sum_any n _ w8 h8 hts).mono ?_
  rintro e w9 ⟨rfl, b9⟩
  have h9 := h8.below b9 h8.lt
  have b9' := b8'.trans (b9.mono b8'.size)
  clear h8 b8' b9
  go_wp2_with fail
  refine (one_any _ w9 (by omega)).mono ?_
  rintro e w10 ⟨rfl, b10⟩
  have h10 := h9.below b10 h9.lt
  have b10' := b9'.trans (b10.mono b9'.size)
  have hl := out_length (H0.write (t.data.toList.take q))
  clear h9 b9' b10
  go_wp2_with fail
  refine (len_any n _ w10 h10).mono ?_
  rintro e w11 ⟨rfl, rfl⟩
  rw [HT.out]
  go_wp2_with fail
  go_ret
  exact ⟨rfl, b10'⟩
set_option maxRecDepth 100000 in
set_option maxHeartbeats 400000 in
theorem cuts_c (s : ByteArray) (p : Int) (w : World) (_hs : s.size ≤ 9223372036854775807) (_h0 : -9223372036854775808 ≤ p) (_h1 : p ≤ 9223372036854775807) (_hp : p < 0) (_h5 : 500 < s.size) :
    Calls Try.prog 5 #[.string s, .int .i64 p] w fun e w' => e = .returned (.bool true) ∧ Below w.heap.size w w' := by
  obtain ⟨q, hq, hqs⟩ := pick_neg p (min 500 s.size) _hp
  go_enter Try.func5, Try.ntmps5
  go_wp2_with (first
    | (go_at_call 8; refine (examples_any _).mono ?_; rintro e w1 ⟨rfl, b1⟩)
    | fail)
  have h5 : (s.extract 0 500).size = 500 := by simp; omega
  generalize s.extract 0 500 = t at h5 ⊢
  have hqs2 : q ≤ t.size := by omega
  have h52 : t.size ≤ 500 := by omega
  clear h5 hqs
  refine (new_any _).mono ?_
  rintro e w2 ⟨rfl, h2, c2⟩
  have b2 := b1.trans (c2.mono b1.size)
  have hn : w.heap.size ≤ w1.heap.size := b1.size
  generalize w1.heap.size = n at h2 hn ⊢
  clear c2 b1 hq
  have hA : (t.data.toList.take q).length ≤ 500 := by rw [List.length_take, size_list]; omega
  have hB : (t.extract q t.size).size ≤ 500 := by simp; omega
  have hA2 : (t.extract 0 q).size ≤ 500 := by simp; omega
  have HC := Lib.hid (write_cut t q)
  go_wp2_with fail
  refine (write_any n H0 (t.extract 0 q) w2 h2.lt h2 (by show 0 + _ < _; omega)).mono ?_
  rintro e w3 ⟨rfl, h3, c3⟩
  rw [extract_list, List.drop_zero, Nat.sub_zero] at h3
  have b3 := c3.below b2 hn b2.size
  clear h2 b2 c3
  go_wp2_with fail
  refine (sum_any n _ w3 h3 (by rw [size0]; omega)).mono ?_
  rintro e w4 ⟨rfl, b4⟩
  have h4 := h3.below b4 h3.lt
  have b4' := b3.trans (b4.mono b3.size)
  clear h3 b3 b4
  go_wp2_with fail
  refine (write_any n _ (t.extract q t.size) w4 h4.lt h4 (by rw [size0]; omega)).mono ?_
  rintro e w5 ⟨rfl, h5, c5⟩
  have b5 := c5.below b4' hn b4'.size
  rw [HC.out] at h5
  have ht : (H0.write t.data.toList).size = t.size := by rw [size0, size_list]
  have hts : (H0.write t.data.toList).size < 576460752303423488 := by rw [ht]; omega
  have HT := Lib.hid ht
  clear h4 b4' c5 ht
  go_wp2_with fail
  refine (sum_any n _ w5 h5 hts).mono ?_
  rintro e w6 ⟨rfl, b6⟩
  have h6 := h5.below b6 h5.lt
  have b6' := b5.trans (b6.mono b5.size)
  clear h5 b5 b6
  go_wp2_with fail
  refine (one_any t w6 (by omega)).mono ?_
  rintro e w7 ⟨rfl, b7⟩
  have h7 := h6.below b7 h6.lt
  have b7' := b6'.trans (b7.mono b6'.size)
  clear h6 b6' b7
  go_wp2_with fail
  refine (sum_any n _ w7 h7 hts).mono ?_
  rintro e w8 ⟨rfl, b8⟩
  have h8 := h7.below b8 h7.lt
  have b8' := b7'.trans (b8.mono b7'.size)
  clear h7 b7' b8
  go_wp2_with fail
  refine (sum_any n _ w8 h8 hts).mono ?_
  rintro e w9 ⟨rfl, b9⟩
  have h9 := h8.below b9 h8.lt
  have b9' := b8'.trans (b9.mono b8'.size)
  clear h8 b8' b9
  go_wp2_with fail
  refine (one_any _ w9 (by omega)).mono ?_
  rintro e w10 ⟨rfl, b10⟩
  have h10 := h9.below b10 h9.lt
  have b10' := b9'.trans (b10.mono b9'.size)
  have hl := out_length (H0.write (t.data.toList.take q))
  clear h9 b9' b10
  go_wp2_with fail
  refine (len_any n _ w10 h10).mono ?_
  rintro e w11 ⟨rfl, rfl⟩
  rw [HT.out]
  go_wp2_with fail
  go_ret
  exact ⟨rfl, b10'⟩
set_option maxRecDepth 100000 in
set_option maxHeartbeats 400000 in
theorem cuts_d (s : ByteArray) (p : Int) (w : World) (_hs : s.size ≤ 9223372036854775807) (_h0 : -9223372036854775808 ≤ p) (_h1 : p ≤ 9223372036854775807) (_hp : 0 ≤ p) (_h5 : 500 < s.size) :
    Calls Try.prog 5 #[.string s, .int .i64 p] w fun e w' => e = .returned (.bool true) ∧ Below w.heap.size w w' := by
  obtain ⟨q, hq, hqs⟩ := pick_pos p (min 500 s.size) _hp
  go_enter Try.func5, Try.ntmps5
  go_wp2_with (first
    | (go_at_call 8; refine (examples_any _).mono ?_; rintro e w1 ⟨rfl, b1⟩)
    | fail)
  rw [hq]
  have h5 : (s.extract 0 500).size = 500 := by simp; omega
  generalize s.extract 0 500 = t at h5 ⊢
  have hqs2 : q ≤ t.size := by omega
  have h52 : t.size ≤ 500 := by omega
  clear h5 hqs
  refine (new_any _).mono ?_
  rintro e w2 ⟨rfl, h2, c2⟩
  have b2 := b1.trans (c2.mono b1.size)
  have hn : w.heap.size ≤ w1.heap.size := b1.size
  generalize w1.heap.size = n at h2 hn ⊢
  clear c2 b1 hq
  have hA : (t.data.toList.take q).length ≤ 500 := by rw [List.length_take, size_list]; omega
  have hB : (t.extract q t.size).size ≤ 500 := by simp; omega
  have hA2 : (t.extract 0 q).size ≤ 500 := by simp; omega
  have HC := Lib.hid (write_cut t q)
  go_wp2_with fail
  refine (write_any n H0 (t.extract 0 q) w2 h2.lt h2 (by show 0 + _ < _; omega)).mono ?_
  rintro e w3 ⟨rfl, h3, c3⟩
  rw [extract_list, List.drop_zero, Nat.sub_zero] at h3
  have b3 := c3.below b2 hn b2.size
  clear h2 b2 c3
  go_wp2_with fail
  refine (sum_any n _ w3 h3 (by rw [size0]; omega)).mono ?_
  rintro e w4 ⟨rfl, b4⟩
  have h4 := h3.below b4 h3.lt
  have b4' := b3.trans (b4.mono b3.size)
  clear h3 b3 b4
  go_wp2_with fail
  refine (write_any n _ (t.extract q t.size) w4 h4.lt h4 (by rw [size0]; omega)).mono ?_
  rintro e w5 ⟨rfl, h5, c5⟩
  have b5 := c5.below b4' hn b4'.size
  rw [HC.out] at h5
  have ht : (H0.write t.data.toList).size = t.size := by rw [size0, size_list]
  have hts : (H0.write t.data.toList).size < 576460752303423488 := by rw [ht]; omega
  have HT := Lib.hid ht
  clear h4 b4' c5 ht
  go_wp2_with fail
  refine (sum_any n _ w5 h5 hts).mono ?_
  rintro e w6 ⟨rfl, b6⟩
  have h6 := h5.below b6 h5.lt
  have b6' := b5.trans (b6.mono b5.size)
  clear h5 b5 b6
  go_wp2_with fail
  refine (one_any t w6 (by omega)).mono ?_
  rintro e w7 ⟨rfl, b7⟩
  have h7 := h6.below b7 h6.lt
  have b7' := b6'.trans (b7.mono b6'.size)
  clear h6 b6' b7
  go_wp2_with fail
  refine (sum_any n _ w7 h7 hts).mono ?_
  rintro e w8 ⟨rfl, b8⟩
  have h8 := h7.below b8 h7.lt
  have b8' := b7'.trans (b8.mono b7'.size)
  clear h7 b7' b8
  go_wp2_with fail
  refine (sum_any n _ w8 h8 hts).mono ?_
  rintro e w9 ⟨rfl, b9⟩
  have h9 := h8.below b9 h8.lt
  have b9' := b8'.trans (b9.mono b8'.size)
  clear h8 b8' b9
  go_wp2_with fail
  refine (one_any _ w9 (by omega)).mono ?_
  rintro e w10 ⟨rfl, b10⟩
  have h10 := h9.below b10 h9.lt
  have b10' := b9'.trans (b10.mono b9'.size)
  have hl := out_length (H0.write (t.data.toList.take q))
  clear h9 b9' b10
  go_wp2_with fail
  refine (len_any n _ w10 h10).mono ?_
  rintro e w11 ⟨rfl, rfl⟩
  rw [HT.out]
  go_wp2_with fail
  go_ret
  exact ⟨rfl, b10'⟩
theorem cuts_any (s : ByteArray) (p : Int) (w : World) (hs : s.size ≤ maxLen) (h0 : -9223372036854775808 ≤ p) (h1 : p ≤ 9223372036854775807) :
    Calls Try.prog 5 #[.string s, .int .i64 p] w fun e w' => e = .returned (.bool true) ∧ Below w.heap.size w w' := by
  unfold maxLen at hs
  rcases Int.lt_or_le p 0 with hp | hp
  · rcases Nat.lt_or_ge 500 s.size with h5 | h5
    · exact cuts_c s p w hs h0 h1 hp h5
    · exact cuts_a s p w hs h0 h1 hp h5
  · rcases Nat.lt_or_ge 500 s.size with h5 | h5
    · exact cuts_d s p w hs h0 h1 hp h5
    · exact cuts_b s p w hs h0 h1 hp h5
end Go.Proofs.Ytmmijnacgolopaa
