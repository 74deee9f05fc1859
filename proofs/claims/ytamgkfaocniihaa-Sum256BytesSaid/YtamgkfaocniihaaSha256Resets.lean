/- Sum256Resets: the walk. -/
import Derived.Test.YtamgkfaocniihaaSha256Cuts
namespace Go.Proofs.Ytamgkfaocniihaa
open Go.RowKit
theorem Hs.put_consts (H : Hs) (b : BitVec 8) : (H.put b).first = H.first ∧ (H.put b).keys = H.keys := by
  unfold Hs.put; split <;> exact ⟨rfl, rfl⟩
theorem Hs.write_consts (l : List UInt8) : ∀ H : Hs, (H.write l).first = H.first ∧ (H.write l).keys = H.keys := by
  induction l with
  | nil => intro H; exact ⟨rfl, rfl⟩
  | cons c l ih =>
    intro H
    have h1 := ih (H.put c.toBitVec)
    have h2 := H.put_consts c.toBitVec
    exact ⟨h1.1.trans h2.1, h1.2.trans h2.2⟩
theorem reset_write (l : List UInt8) : (H0.write l).reset = H0 := by
  have h := Hs.write_consts l H0
  unfold Hs.reset; rw [h.1, h.2]; rfl
theorem sz0 (l : List UInt8) (h : l.length ≤ 1000) : (H0.write l).size < 576460752303423488 := by rw [size0]; omega
set_option maxRecDepth 100000 in
set_option maxHeartbeats 1000000 in
theorem resets_a (s t : ByteArray) (w : World) (_hs : s.size ≤ 9223372036854775807) (_ht : t.size ≤ 9223372036854775807) (_h5 : s.size ≤ 300) (_h6 : t.size ≤ 300) :
    Calls Try.prog 6 #[.string s, .string t] w fun e w' => e = .returned (.bool true) ∧ Below w.heap.size w w' := by
  go_enter Try.func6, Try.ntmps6
  go_wp2_with (go_at_call 8; refine (examples_any _).mono ?_; rintro e w1 ⟨rfl, b1⟩)
  obtain ⟨x, rfl⟩ : ∃ x : ByteArray, x = s := ⟨_, rfl⟩
  have lx := _h5
  obtain ⟨y, rfl⟩ : ∃ y : ByteArray, y = t := ⟨_, rfl⟩
  have ly := _h6
  have lx2 : x.data.toList.length ≤ 1000 := by rw [size_list]; omega
  have ly2 : y.data.toList.length ≤ 1000 := by rw [size_list]; omega
  refine (new_any _).mono ?_
  rintro e w2 ⟨rfl, hn, d2⟩
  have B2 := b1.trans (d2.mono b1.size)
  have le_n : w.heap.size ≤ w1.heap.size := b1.size
  generalize w1.heap.size = n at hn le_n ⊢
  clear d2 b1
  go_wp2_with fail
  refine (new_any _).mono ?_
  rintro e w3 ⟨rfl, hk, d3⟩
  have B3 := B2.trans (d3.mono B2.size)
  have hn3 := hn.below d3 hn.lt
  have le_k : w.heap.size ≤ w2.heap.size := B2.size
  have lt_nk : n < w2.heap.size := hn.lt
  generalize w2.heap.size = k at hk le_k lt_nk ⊢
  have ne_n_k : n ≠ k := by omega
  have ne_k_n : k ≠ n := by omega
  have nbk : (k == n) = false := by simp; omega
  have nbn : (n == k) = false := by simp; omega
  clear d3 B2 hn
  go_wp2_with fail
  refine (write_any n _ x w3 hn3.lt hn3 (by show 0 + _ < _; omega)).mono ?_
  rintro e w4 ⟨rfl, hn4, C4⟩
  have hk4 := C4.blk hk ne_k_n
  have B4 := C4.below B3 le_n B3.size
  clear hn3 hk B3 C4
  go_wp2_with fail
  refine (write_any k _ y w4 hk4.lt hk4 (by show 0 + _ < _; omega)).mono ?_
  rintro e w5 ⟨rfl, hk5, C5⟩
  have hn5 := C5.blk hn4 ne_n_k
  have B5 := C5.below B4 le_k B4.size
  clear hn4 hk4 B4 C5
  go_wp2_with fail
  refine (reset_any n _ w5 hn5.lt hn5).mono ?_
  rintro e w6 ⟨rfl, hr, C6⟩
  rw [reset_write] at hr
  have hk6 := C6.blk hk5 ne_k_n
  have B6 := C6.below B5 le_n B5.size
  clear hn5 hk5 B5 C6
  go_wp2_with fail
  refine (len_any n _ w6 hr).mono ?_
  rintro e w7 ⟨rfl, hw7⟩
  subst hw7
  rw [show H0.size = 0 from rfl]
  go_wp2_with fail
  refine (sum_any n _ w6 hr (by decide)).mono ?_
  rintro e w7 ⟨rfl, D7⟩
  have hn7 := hr.below D7 hr.lt
  have hk7 := hk6.below D7 hk6.lt
  have B7 := B6.trans (D7.mono B6.size)
  clear hr hk6 B6 D7
  go_wp2_with fail
  refine (write_any n _ y w7 hn7.lt hn7 (by show 0 + _ < _; omega)).mono ?_
  rintro e w8 ⟨rfl, hn8, C8⟩
  have hk8 := C8.blk hk7 ne_k_n
  have B8 := C8.below B7 le_n B7.size
  clear hn7 hk7 B7 C8
  go_wp2_with fail
  refine (one_any ⟨#[]⟩ w8 (by decide)).mono ?_
  rintro e w9 ⟨rfl, D9⟩
  rw [show H0.write (⟨#[]⟩ : ByteArray).data.toList = H0 from rfl]
  have hn9 := hn8.below D9 hn8.lt
  have hk9 := hk8.below D9 hk8.lt
  have B9 := B8.trans (D9.mono B8.size)
  clear hn8 hk8 B8 D9
  go_wp2_with fail
  refine (sum_any n _ w9 hn9 (sz0 _ ly2)).mono ?_
  rintro e w10 ⟨rfl, D10⟩
  have hn10 := hn9.below D10 hn9.lt
  have hk10 := hk9.below D10 hk9.lt
  have B10 := B9.trans (D10.mono B9.size)
  clear hn9 hk9 B9 D10
  go_wp2_with fail
  refine (sum_any k _ w10 hk10 (sz0 _ ly2)).mono ?_
  rintro e w11 ⟨rfl, D11⟩
  have hn11 := hn10.below D11 hn10.lt
  have hk11 := hk10.below D11 hk10.lt
  have B11 := B10.trans (D11.mono B10.size)
  clear hn10 hk10 B10 D11
  go_wp2_with fail
  refine (len_any n _ w11 hn11).mono ?_
  rintro e w12 ⟨rfl, hw12⟩
  subst hw12
  go_wp2_with fail
  refine (len_any k _ w11 hk11).mono ?_
  rintro e w12 ⟨rfl, hw12⟩
  subst hw12
  go_wp2_with fail
  go_ret
  exact ⟨rfl, B11⟩
set_option maxRecDepth 100000 in
set_option maxHeartbeats 1000000 in
theorem resets_b (s t : ByteArray) (w : World) (_hs : s.size ≤ 9223372036854775807) (_ht : t.size ≤ 9223372036854775807) (_h5 : s.size ≤ 300) (_h6 : 300 < t.size) :
    Calls Try.prog 6 #[.string s, .string t] w fun e w' => e = .returned (.bool true) ∧ Below w.heap.size w w' := by
  go_enter Try.func6, Try.ntmps6
  go_wp2_with (go_at_call 8; refine (examples_any _).mono ?_; rintro e w1 ⟨rfl, b1⟩)
  obtain ⟨x, rfl⟩ : ∃ x : ByteArray, x = s := ⟨_, rfl⟩
  have lx := _h5
  have ly : (t.extract 0 300).size ≤ 300 := by simp; omega
  generalize t.extract 0 300 = y at ly ⊢
  have lx2 : x.data.toList.length ≤ 1000 := by rw [size_list]; omega
  have ly2 : y.data.toList.length ≤ 1000 := by rw [size_list]; omega
  refine (new_any _).mono ?_
  rintro e w2 ⟨rfl, hn, d2⟩
  have B2 := b1.trans (d2.mono b1.size)
  have le_n : w.heap.size ≤ w1.heap.size := b1.size
  generalize w1.heap.size = n at hn le_n ⊢
  clear d2 b1
  go_wp2_with fail
  refine (new_any _).mono ?_
  rintro e w3 ⟨rfl, hk, d3⟩
  have B3 := B2.trans (d3.mono B2.size)
  have hn3 := hn.below d3 hn.lt
  have le_k : w.heap.size ≤ w2.heap.size := B2.size
  have lt_nk : n < w2.heap.size := hn.lt
  generalize w2.heap.size = k at hk le_k lt_nk ⊢
  have ne_n_k : n ≠ k := by omega
  have ne_k_n : k ≠ n := by omega
  have nbk : (k == n) = false := by simp; omega
  have nbn : (n == k) = false := by simp; omega
  clear d3 B2 hn
  go_wp2_with fail
  refine (write_any n _ x w3 hn3.lt hn3 (by show 0 + _ < _; omega)).mono ?_
  rintro e w4 ⟨rfl, hn4, C4⟩
  have hk4 := C4.blk hk ne_k_n
  have B4 := C4.below B3 le_n B3.size
  clear hn3 hk B3 C4
  go_wp2_with fail
  refine (write_any k _ y w4 hk4.lt hk4 (by show 0 + _ < _; omega)).mono ?_
  rintro e w5 ⟨rfl, hk5, C5⟩
  have hn5 := C5.blk hn4 ne_n_k
  have B5 := C5.below B4 le_k B4.size
  clear hn4 hk4 B4 C5
  go_wp2_with fail
  refine (reset_any n _ w5 hn5.lt hn5).mono ?_
  rintro e w6 ⟨rfl, hr, C6⟩
  rw [reset_write] at hr
  have hk6 := C6.blk hk5 ne_k_n
  have B6 := C6.below B5 le_n B5.size
  clear hn5 hk5 B5 C6
  go_wp2_with fail
  refine (len_any n _ w6 hr).mono ?_
  rintro e w7 ⟨rfl, hw7⟩
  subst hw7
  rw [show H0.size = 0 from rfl]
  go_wp2_with fail
  refine (sum_any n _ w6 hr (by decide)).mono ?_
  rintro e w7 ⟨rfl, D7⟩
  have hn7 := hr.below D7 hr.lt
  have hk7 := hk6.below D7 hk6.lt
  have B7 := B6.trans (D7.mono B6.size)
  clear hr hk6 B6 D7
  go_wp2_with fail
  refine (write_any n _ y w7 hn7.lt hn7 (by show 0 + _ < _; omega)).mono ?_
  rintro e w8 ⟨rfl, hn8, C8⟩
  have hk8 := C8.blk hk7 ne_k_n
  have B8 := C8.below B7 le_n B7.size
  clear hn7 hk7 B7 C8
  go_wp2_with fail
  refine (one_any ⟨#[]⟩ w8 (by decide)).mono ?_
  rintro e w9 ⟨rfl, D9⟩
  rw [show H0.write (⟨#[]⟩ : ByteArray).data.toList = H0 from rfl]
  have hn9 := hn8.below D9 hn8.lt
  have hk9 := hk8.below D9 hk8.lt
  have B9 := B8.trans (D9.mono B8.size)
  clear hn8 hk8 B8 D9
  go_wp2_with fail
  refine (sum_any n _ w9 hn9 (sz0 _ ly2)).mono ?_
  rintro e w10 ⟨rfl, D10⟩
  have hn10 := hn9.below D10 hn9.lt
  have hk10 := hk9.below D10 hk9.lt
  have B10 := B9.trans (D10.mono B9.size)
  clear hn9 hk9 B9 D10
  go_wp2_with fail
  refine (sum_any k _ w10 hk10 (sz0 _ ly2)).mono ?_
  rintro e w11 ⟨rfl, D11⟩
  have hn11 := hn10.below D11 hn10.lt
  have hk11 := hk10.below D11 hk10.lt
  have B11 := B10.trans (D11.mono B10.size)
  clear hn10 hk10 B10 D11
  go_wp2_with fail
  refine (len_any n _ w11 hn11).mono ?_
  rintro e w12 ⟨rfl, hw12⟩
  subst hw12
  go_wp2_with fail
  refine (len_any k _ w11 hk11).mono ?_
  rintro e w12 ⟨rfl, hw12⟩
  subst hw12
  go_wp2_with fail
  go_ret
  exact ⟨rfl, B11⟩
set_option maxRecDepth 100000 in
set_option maxHeartbeats 1000000 in
theorem resets_c (s t : ByteArray) (w : World) (_hs : s.size ≤ 9223372036854775807) (_ht : t.size ≤ 9223372036854775807) (_h5 : 300 < s.size) (_h6 : t.size ≤ 300) :
    Calls Try.prog 6 #[.string s, .string t] w fun e w' => e = .returned (.bool true) ∧ Below w.heap.size w w' := by
  go_enter Try.func6, Try.ntmps6
  go_wp2_with (go_at_call 8; refine (examples_any _).mono ?_; rintro e w1 ⟨rfl, b1⟩)
  have lx : (s.extract 0 300).size ≤ 300 := by simp; omega
  generalize s.extract 0 300 = x at lx ⊢
  obtain ⟨y, rfl⟩ : ∃ y : ByteArray, y = t := ⟨_, rfl⟩
  have ly := _h6
  have lx2 : x.data.toList.length ≤ 1000 := by rw [size_list]; omega
  have ly2 : y.data.toList.length ≤ 1000 := by rw [size_list]; omega
  refine (new_any _).mono ?_
  rintro e w2 ⟨rfl, hn, d2⟩
  have B2 := b1.trans (d2.mono b1.size)
  have le_n : w.heap.size ≤ w1.heap.size := b1.size
  generalize w1.heap.size = n at hn le_n ⊢
  clear d2 b1
  go_wp2_with fail
  refine (new_any _).mono ?_
  rintro e w3 ⟨rfl, hk, d3⟩
  have B3 := B2.trans (d3.mono B2.size)
  have hn3 := hn.below d3 hn.lt
  have le_k : w.heap.size ≤ w2.heap.size := B2.size
  have lt_nk : n < w2.heap.size := hn.lt
  generalize w2.heap.size = k at hk le_k lt_nk ⊢
  have ne_n_k : n ≠ k := by omega
  have ne_k_n : k ≠ n := by omega
  have nbk : (k == n) = false := by simp; omega
  have nbn : (n == k) = false := by simp; omega
  clear d3 B2 hn
  go_wp2_with fail
  refine (write_any n _ x w3 hn3.lt hn3 (by show 0 + _ < _; omega)).mono ?_
  rintro e w4 ⟨rfl, hn4, C4⟩
  have hk4 := C4.blk hk ne_k_n
  have B4 := C4.below B3 le_n B3.size
  clear hn3 hk B3 C4
  go_wp2_with fail
  refine (write_any k _ y w4 hk4.lt hk4 (by show 0 + _ < _; omega)).mono ?_
  rintro e w5 ⟨rfl, hk5, C5⟩
  have hn5 := C5.blk hn4 ne_n_k
  have B5 := C5.below B4 le_k B4.size
  clear hn4 hk4 B4 C5
  go_wp2_with fail
  refine (reset_any n _ w5 hn5.lt hn5).mono ?_
  rintro e w6 ⟨rfl, hr, C6⟩
  rw [reset_write] at hr
  have hk6 := C6.blk hk5 ne_k_n
  have B6 := C6.below B5 le_n B5.size
  clear hn5 hk5 B5 C6
  go_wp2_with fail
  refine (len_any n _ w6 hr).mono ?_
  rintro e w7 ⟨rfl, hw7⟩
  subst hw7
  rw [show H0.size = 0 from rfl]
  go_wp2_with fail
  refine (sum_any n _ w6 hr (by decide)).mono ?_
  rintro e w7 ⟨rfl, D7⟩
  have hn7 := hr.below D7 hr.lt
  have hk7 := hk6.below D7 hk6.lt
  have B7 := B6.trans (D7.mono B6.size)
  clear hr hk6 B6 D7
  go_wp2_with fail
  refine (write_any n _ y w7 hn7.lt hn7 (by show 0 + _ < _; omega)).mono ?_
  rintro e w8 ⟨rfl, hn8, C8⟩
  have hk8 := C8.blk hk7 ne_k_n
  have B8 := C8.below B7 le_n B7.size
  clear hn7 hk7 B7 C8
  go_wp2_with fail
  refine (one_any ⟨#[]⟩ w8 (by decide)).mono ?_
  rintro e w9 ⟨rfl, D9⟩
  rw [show H0.write (⟨#[]⟩ : ByteArray).data.toList = H0 from rfl]
  have hn9 := hn8.below D9 hn8.lt
  have hk9 := hk8.below D9 hk8.lt
  have B9 := B8.trans (D9.mono B8.size)
  clear hn8 hk8 B8 D9
  go_wp2_with fail
  refine (sum_any n _ w9 hn9 (sz0 _ ly2)).mono ?_
  rintro e w10 ⟨rfl, D10⟩
  have hn10 := hn9.below D10 hn9.lt
  have hk10 := hk9.below D10 hk9.lt
  have B10 := B9.trans (D10.mono B9.size)
  clear hn9 hk9 B9 D10
  go_wp2_with fail
  refine (sum_any k _ w10 hk10 (sz0 _ ly2)).mono ?_
  rintro e w11 ⟨rfl, D11⟩
  have hn11 := hn10.below D11 hn10.lt
  have hk11 := hk10.below D11 hk10.lt
  have B11 := B10.trans (D11.mono B10.size)
  clear hn10 hk10 B10 D11
  go_wp2_with fail
  refine (len_any n _ w11 hn11).mono ?_
  rintro e w12 ⟨rfl, hw12⟩
  subst hw12
  go_wp2_with fail
  refine (len_any k _ w11 hk11).mono ?_
  rintro e w12 ⟨rfl, hw12⟩
  subst hw12
  go_wp2_with fail
  go_ret
  exact ⟨rfl, B11⟩
set_option maxRecDepth 100000 in
set_option maxHeartbeats 1000000 in
theorem resets_d (s t : ByteArray) (w : World) (_hs : s.size ≤ 9223372036854775807) (_ht : t.size ≤ 9223372036854775807) (_h5 : 300 < s.size) (_h6 : 300 < t.size) :
    Calls Try.prog 6 #[.string s, .string t] w fun e w' => e = .returned (.bool true) ∧ Below w.heap.size w w' := by
  go_enter Try.func6, Try.ntmps6
  go_wp2_with (go_at_call 8; refine (examples_any _).mono ?_; rintro e w1 ⟨rfl, b1⟩)
  have lx : (s.extract 0 300).size ≤ 300 := by simp; omega
  generalize s.extract 0 300 = x at lx ⊢
  have ly : (t.extract 0 300).size ≤ 300 := by simp; omega
  generalize t.extract 0 300 = y at ly ⊢
  have lx2 : x.data.toList.length ≤ 1000 := by rw [size_list]; omega
  have ly2 : y.data.toList.length ≤ 1000 := by rw [size_list]; omega
  refine (new_any _).mono ?_
  rintro e w2 ⟨rfl, hn, d2⟩
  have B2 := b1.trans (d2.mono b1.size)
  have le_n : w.heap.size ≤ w1.heap.size := b1.size
  generalize w1.heap.size = n at hn le_n ⊢
  clear d2 b1
  go_wp2_with fail
  refine (new_any _).mono ?_
  rintro e w3 ⟨rfl, hk, d3⟩
  have B3 := B2.trans (d3.mono B2.size)
  have hn3 := hn.below d3 hn.lt
  have le_k : w.heap.size ≤ w2.heap.size := B2.size
  have lt_nk : n < w2.heap.size := hn.lt
  generalize w2.heap.size = k at hk le_k lt_nk ⊢
  have ne_n_k : n ≠ k := by omega
  have ne_k_n : k ≠ n := by omega
  have nbk : (k == n) = false := by simp; omega
  have nbn : (n == k) = false := by simp; omega
  clear d3 B2 hn
  go_wp2_with fail
  refine (write_any n _ x w3 hn3.lt hn3 (by show 0 + _ < _; omega)).mono ?_
  rintro e w4 ⟨rfl, hn4, C4⟩
  have hk4 := C4.blk hk ne_k_n
  have B4 := C4.below B3 le_n B3.size
  clear hn3 hk B3 C4
  go_wp2_with fail
  refine (write_any k _ y w4 hk4.lt hk4 (by show 0 + _ < _; omega)).mono ?_
  rintro e w5 ⟨rfl, hk5, C5⟩
  have hn5 := C5.blk hn4 ne_n_k
  have B5 := C5.below B4 le_k B4.size
  clear hn4 hk4 B4 C5
  go_wp2_with fail
  refine (reset_any n _ w5 hn5.lt hn5).mono ?_
  rintro e w6 ⟨rfl, hr, C6⟩
  rw [reset_write] at hr
  have hk6 := C6.blk hk5 ne_k_n
  have B6 := C6.below B5 le_n B5.size
  clear hn5 hk5 B5 C6
  go_wp2_with fail
  refine (len_any n _ w6 hr).mono ?_
  rintro e w7 ⟨rfl, hw7⟩
  subst hw7
  rw [show H0.size = 0 from rfl]
  go_wp2_with fail
  refine (sum_any n _ w6 hr (by decide)).mono ?_
  rintro e w7 ⟨rfl, D7⟩
  have hn7 := hr.below D7 hr.lt
  have hk7 := hk6.below D7 hk6.lt
  have B7 := B6.trans (D7.mono B6.size)
  clear hr hk6 B6 D7
  go_wp2_with fail
  refine (write_any n _ y w7 hn7.lt hn7 (by show 0 + _ < _; omega)).mono ?_
  rintro e w8 ⟨rfl, hn8, C8⟩
  have hk8 := C8.blk hk7 ne_k_n
  have B8 := C8.below B7 le_n B7.size
  clear hn7 hk7 B7 C8
  go_wp2_with fail
  refine (one_any ⟨#[]⟩ w8 (by decide)).mono ?_
  rintro e w9 ⟨rfl, D9⟩
  rw [show H0.write (⟨#[]⟩ : ByteArray).data.toList = H0 from rfl]
  have hn9 := hn8.below D9 hn8.lt
  have hk9 := hk8.below D9 hk8.lt
  have B9 := B8.trans (D9.mono B8.size)
  clear hn8 hk8 B8 D9
  go_wp2_with fail
  refine (sum_any n _ w9 hn9 (sz0 _ ly2)).mono ?_
  rintro e w10 ⟨rfl, D10⟩
  have hn10 := hn9.below D10 hn9.lt
  have hk10 := hk9.below D10 hk9.lt
  have B10 := B9.trans (D10.mono B9.size)
  clear hn9 hk9 B9 D10
  go_wp2_with fail
  refine (sum_any k _ w10 hk10 (sz0 _ ly2)).mono ?_
  rintro e w11 ⟨rfl, D11⟩
  have hn11 := hn10.below D11 hn10.lt
  have hk11 := hk10.below D11 hk10.lt
  have B11 := B10.trans (D11.mono B10.size)
  clear hn10 hk10 B10 D11
  go_wp2_with fail
  refine (len_any n _ w11 hn11).mono ?_
  rintro e w12 ⟨rfl, hw12⟩
  subst hw12
  go_wp2_with fail
  refine (len_any k _ w11 hk11).mono ?_
  rintro e w12 ⟨rfl, hw12⟩
  subst hw12
  go_wp2_with fail
  go_ret
  exact ⟨rfl, B11⟩
theorem resets_any (s t : ByteArray) (w : World) (hs : s.size ≤ maxLen) (ht : t.size ≤ maxLen) :
    Calls Try.prog 6 #[.string s, .string t] w fun e w' => e = .returned (.bool true) ∧ Below w.heap.size w w' := by
  unfold maxLen at hs ht
  rcases Nat.lt_or_ge 300 s.size with h5 | h5
  · rcases Nat.lt_or_ge 300 t.size with h6 | h6
    · exact resets_d s t w hs ht h5 h6
    · exact resets_c s t w hs ht h5 h6
  · rcases Nat.lt_or_ge 300 t.size with h6 | h6
    · exact resets_b s t w hs ht h5 h6
    · exact resets_a s t w hs ht h5 h6
end Go.Proofs.Ytamgkfaocniihaa
