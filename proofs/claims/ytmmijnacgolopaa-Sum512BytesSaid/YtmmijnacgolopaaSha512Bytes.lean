/- Sum512Bytes: the walk. -/
import Derived.Test.YtmmijnacgolopaaSha512Cuts
namespace Go.Proofs.Ytmmijnacgolopaa
open Go.RowKit
/-- Block g is m bytes, of which the first k are x. -/
def Fill (w : World) (g m k : Nat) (x : BitVec 8) (wr : World) : Prop :=
  ∃ F, Blk wr g 5 (row m F) ∧ (∀ i, i < k → F i = .int .u8 (iw x)) ∧ Below w.heap.size w wr ∧ w.heap.size ≤ g
theorem Fill.of_own {w wr : World} {g m : Nat} {xs : List Value} (h : wr.ownsRow w.heap.size 5 1 (.slice (some ⟨g, 0, none⟩) m m) m xs) (b : Below w.heap.size w wr) (x : BitVec 8) : Fill w g m 0 x wr := by
  rcases h.2 with ⟨h1, _⟩ | ⟨g', cap, cur, hv, hg, hh, _, _, hsz, _⟩
  · cases h1
  · injection hv with h1 h2 h3
    injection h1 with h1
    injection h1 with h1
    subst h1 h3
    have hz : cur.size = m := by omega
    refine ⟨fun i => cur[i]?.getD undef, ?_, fun i hi => absurd hi (by omega), b, hg⟩
    show wr.heap[g]? = _
    rw [hh]
    congr 2
    have := row_of cur undef
    rwa [hz] at this
theorem Fill.put {w wr : World} {g m k : Nat} {x : BitVec 8} (h : Fill w g m k x wr) (hk : k < m) : Fill w g m (k + 1) x (wr.setCell ⟨g, k, none⟩ (.int .u8 (iw x))) := by
  obtain ⟨F, hb, hF, b, hg⟩ := h
  refine ⟨_, hb.put hk _, fun i hi => ?_, b.setCell hg _, hg⟩
  by_cases h1 : i = k
  · simp [h1]
  · simp [h1, hF i (by omega)]
theorem Fill.own {w wr : World} {g m : Nat} {x : BitVec 8} (h : Fill w g m m x wr) (hm : m ≤ 148) : wr.ownsRow w.heap.size 5 1 (.slice (some ⟨g, 0, none⟩) m m) m ((List.replicate m x).map b8v) := by
  obtain ⟨F, hb, hF, b, hg⟩ := h
  refine ⟨by simp, .inr ⟨g, m, row m F, rfl, hg, hb, by omega, by unfold maxLen; omega, by rw [row_size]; omega, ?_⟩⟩
  rw [row_ext hF]
  have e : List.map (fun _ => Value.int .u8 (iw x)) (List.range m) = List.replicate m (Value.int .u8 (iw x)) := List.eq_replicate_iff.2 ⟨by simp, by simp⟩
  simp [row, b8v, e]
theorem write_one (t : ByteArray) (i : Nat) : (H0.write (t.data.toList.take i)).write (t.extract i (i + 1)).data.toList = H0.write (t.data.toList.take (i + 1)) := by
  rw [← Hs.write_append, extract_list, show i + 1 - i = 1 by omega, ← List.take_add]
set_option maxRecDepth 100000 in
set_option maxHeartbeats 1000000 in
theorem bytes_a (x : BitVec 8) (n : Int) (s : ByteArray) (w : World) (_hs : s.size ≤ 9223372036854775807) (n0 : 0 ≤ n) (n1 : n ≤ 255) (_h5 : s.size ≤ 20) :
    Calls Try.prog 7 #[.int .u8 (iw x), .int .u8 n, .string s] w fun e w' => e = .returned (.bool true) ∧ Below w.heap.size w w' := by
  obtain ⟨m, hm, m44, m84⟩ : ∃ m : Nat, 108 + n % 41 = (m : Int) ∧ 108 ≤ m ∧ m ≤ 148 := ⟨(108 + n % 41).toNat, by omega, by omega, by omega⟩
  obtain ⟨i0, hi, hz0, hz1, hz2⟩ := info_parts u8_info
  go_enter Try.func7, Try.ntmps7
  go_wp2_with (first
    | (go_at_call 8; refine (examples_any _).mono ?_; rintro e w1 ⟨rfl, b1⟩)
    | (at_make; refine wpList_make_full _ rfl (.tmp 19) (.tmp 19) 33 rfl w.heap.size 5 i0 (.int .u8 0) 1 Try.underlying33 hi hz0 hz1 .i64 .i64 (m : Int) (m : Int) m rfl rfl rfl rfl (by rw [hz2]; omega) (by unfold maxLen; omega) b1.size ?_; intro w2 hown hg2))
  have b2 : Below w.heap.size w w2 := b1.grown hg2 b1.size (by simp)
  have hF := Fill.of_own hown b2 x
  clear hown hg2 b2 hm hi hz0 hz1 hz2
  have hg : w.heap.size ≤ w1.heap.size := b1.size
  clear b1
  generalize w1.heap.size = g at hF hg ⊢
  go_loopw [9] (fun i wr => ∃ k : Nat, k ≤ m ∧ i = .int .i64 k ∧ Fill w g m k x wr) (fun i _ => m - (intOf i).toNat)
  case atStart => exact ⟨0, by omega, rfl, hF⟩
  case round =>
    obtain ⟨k, hk, rfl, hr⟩ := hrel
    clear hF
    by_cases hlt : k < m
    · have K := hr.put hlt
      obtain ⟨F, hb, _, _, _⟩ := hr
      have hc := hb.at_ hlt
      have hf := hb.frozen k
      clear hb
      go_wp2_with fail
      go_roundw
      case rel => exact ⟨k + 1, by omega, by go_num, K⟩
      case measure => simp [intOf]; omega
    · obtain rfl : k = m := by omega
      have hown := hr.own m84
      have hcv : ∀ j, (convert 33 9 (.slice (some ⟨g, 0, none⟩) k k)).run Try.prog (wr.drewN j) = .ok (.string ⟨(asBytes (List.replicate k x)).toArray⟩) (wr.drewN j) := fun j =>
        run_string_of_own (wr.drewN j) _ _ 5 _ Try.underlying33 Try.underlying5 Try.underlying9 _ _ _ hown
      have hb2 : Below w.heap.size w wr := by obtain ⟨_, _, _, b, _⟩ := hr; exact b
      have hA : (⟨(asBytes (List.replicate k x)).toArray⟩ : ByteArray).size = k := by show (asBytes (List.replicate k x)).toArray.size = k; simp [asBytes]
      clear hr hlt hk
      generalize asBytes (List.replicate k x) = L at hcv hA
      go_wp2_with fail
      go_quiet (fail)
      go_wp2_with fail
      have hall : ((⟨L.toArray⟩ : ByteArray) ++ s).size ≤ 1000 := by rw [ByteArray.size_append, hA]; omega
      clear hcv hA
      generalize ((⟨L.toArray⟩ : ByteArray) ++ s) = t at hall ⊢
      have hb3 : Below w.heap.size w (wr.drewN nq) := ⟨hb2.os, hb2.tape, hb2.output, hb2.size, hb2.block⟩
      clear hb2
      generalize wr.drewN nq = w3 at hb3 ⊢
      refine (new_any _).mono ?_
      rintro e w4 ⟨rfl, h4, d4⟩
      have b4 := hb3.trans (d4.mono hb3.size)
      have hn : w.heap.size ≤ w3.heap.size := hb3.size
      generalize w3.heap.size = h at h4 hn ⊢
      clear d4 hb3
      go_wp2_with fail
      obtain ⟨wo, rfl⟩ : ∃ wo : World, wo = w4 := ⟨_, rfl⟩
      go_loopw [12] (fun i wr => ∃ j : Nat, j ≤ t.size ∧ i = .int .i64 j ∧ HB wr h (H0.write (t.data.toList.take j)) ∧ Below w.heap.size w wr) (fun i _ => t.size - (intOf i).toNat)
      case atStart => exact ⟨0, by omega, rfl, h4, b4⟩
      case round =>
        obtain ⟨j, hj, rfl, hh, hb⟩ := hrel
        clear h4 b4
        by_cases hlt : j < t.size
        · have HW := Lib.hid (write_one t j)
          have hs1 : (H0.write (t.data.toList.take j)).size + (t.extract j (j + 1)).size < 4611686018427387904 := by
            rw [size0, List.length_take]; simp; omega
          go_wp2_with fail
          refine (write_any h _ (t.extract j (j + 1)) _ hh.lt hh hs1).mono ?_
          rintro e w5 ⟨rfl, h5, c5⟩
          rw [HW.out] at h5
          have b5 := c5.below hb hn hb.size
          clear hh hb c5 hs1
          go_wp2_with fail
          go_roundw
          case rel => exact ⟨j + 1, by omega, by go_num, h5, b5⟩
          case measure => simp [intOf]; omega
        · obtain rfl : j = t.size := by omega
          rw [List.take_of_length_le (by rw [size_list]; omega)] at hh
          have HT := Lib.hid (show (H0.write t.data.toList).size = t.size by rw [size0, size_list])
          have hts : (H0.write t.data.toList).size < 576460752303423488 := by rw [HT.out]; omega
          clear hlt hj
          go_wp2_with fail
          refine (sum_any h _ _ hh hts).mono ?_
          rintro e w6 ⟨rfl, b6⟩
          have h6 := hh.below b6 hh.lt
          have b6' := hb.trans (b6.mono hb.size)
          clear hh hb b6
          go_wp2_with fail
          refine (one_any t w6 (by omega)).mono ?_
          rintro e w7 ⟨rfl, b7⟩
          have h7 := h6.below b7 h6.lt
          have b7' := b6'.trans (b7.mono b6'.size)
          clear h6 b6' b7
          go_wp2_with fail
          refine (len_any h _ w7 h7).mono ?_
          rintro e w8 ⟨rfl, rfl⟩
          rw [HT.out]
          go_wp2_with fail
          go_ret
          exact ⟨rfl, b7'⟩
set_option maxRecDepth 100000 in
set_option maxHeartbeats 1000000 in
theorem bytes_b (x : BitVec 8) (n : Int) (s : ByteArray) (w : World) (_hs : s.size ≤ 9223372036854775807) (n0 : 0 ≤ n) (n1 : n ≤ 255) (_h5 : 20 < s.size) :
    Calls Try.prog 7 #[.int .u8 (iw x), .int .u8 n, .string s] w fun e w' => e = .returned (.bool true) ∧ Below w.heap.size w w' := by
  obtain ⟨m, hm, m44, m84⟩ : ∃ m : Nat, 108 + n % 41 = (m : Int) ∧ 108 ≤ m ∧ m ≤ 148 := ⟨(108 + n % 41).toNat, by omega, by omega, by omega⟩
  obtain ⟨i0, hi, hz0, hz1, hz2⟩ := info_parts u8_info
  go_enter Try.func7, Try.ntmps7
  go_wp2_with (first
    | (go_at_call 8; refine (examples_any _).mono ?_; rintro e w1 ⟨rfl, b1⟩)
    | (at_make; refine wpList_make_full _ rfl (.tmp 19) (.tmp 19) 33 rfl w.heap.size 5 i0 (.int .u8 0) 1 Try.underlying33 hi hz0 hz1 .i64 .i64 (m : Int) (m : Int) m rfl rfl rfl rfl (by rw [hz2]; omega) (by unfold maxLen; omega) b1.size ?_; intro w2 hown hg2))
  have b2 : Below w.heap.size w w2 := b1.grown hg2 b1.size (by simp)
  have hF := Fill.of_own hown b2 x
  clear hown hg2 b2 hm hi hz0 hz1 hz2
  have hg : w.heap.size ≤ w1.heap.size := b1.size
  clear b1
  generalize w1.heap.size = g at hF hg ⊢
  go_loopw [9] (fun i wr => ∃ k : Nat, k ≤ m ∧ i = .int .i64 k ∧ Fill w g m k x wr) (fun i _ => m - (intOf i).toNat)
  case atStart => exact ⟨0, by omega, rfl, hF⟩
  case round =>
    obtain ⟨k, hk, rfl, hr⟩ := hrel
    clear hF
    by_cases hlt : k < m
    · have K := hr.put hlt
      obtain ⟨F, hb, _, _, _⟩ := hr
      have hc := hb.at_ hlt
      have hf := hb.frozen k
      clear hb
      go_wp2_with fail
      go_roundw
      case rel => exact ⟨k + 1, by omega, by go_num, K⟩
      case measure => simp [intOf]; omega
    · obtain rfl : k = m := by omega
      have hown := hr.own m84
      have hcv : ∀ j, (convert 33 9 (.slice (some ⟨g, 0, none⟩) k k)).run Try.prog (wr.drewN j) = .ok (.string ⟨(asBytes (List.replicate k x)).toArray⟩) (wr.drewN j) := fun j =>
        run_string_of_own (wr.drewN j) _ _ 5 _ Try.underlying33 Try.underlying5 Try.underlying9 _ _ _ hown
      have hb2 : Below w.heap.size w wr := by obtain ⟨_, _, _, b, _⟩ := hr; exact b
      have hA : (⟨(asBytes (List.replicate k x)).toArray⟩ : ByteArray).size = k := by show (asBytes (List.replicate k x)).toArray.size = k; simp [asBytes]
      clear hr hlt hk
      generalize asBytes (List.replicate k x) = L at hcv hA
      go_wp2_with fail
      go_quiet (fail)
      go_wp2_with fail
      have hall : ((⟨L.toArray⟩ : ByteArray) ++ s.extract 0 20).size ≤ 1000 := by rw [ByteArray.size_append, hA]; simp; omega
      clear hcv hA
      generalize ((⟨L.toArray⟩ : ByteArray) ++ s.extract 0 20) = t at hall ⊢
      have hb3 : Below w.heap.size w (wr.drewN nq) := ⟨hb2.os, hb2.tape, hb2.output, hb2.size, hb2.block⟩
      clear hb2
      generalize wr.drewN nq = w3 at hb3 ⊢
      refine (new_any _).mono ?_
      rintro e w4 ⟨rfl, h4, d4⟩
      have b4 := hb3.trans (d4.mono hb3.size)
      have hn : w.heap.size ≤ w3.heap.size := hb3.size
      generalize w3.heap.size = h at h4 hn ⊢
      clear d4 hb3
      go_wp2_with fail
      obtain ⟨wo, rfl⟩ : ∃ wo : World, wo = w4 := ⟨_, rfl⟩
      go_loopw [12] (fun i wr => ∃ j : Nat, j ≤ t.size ∧ i = .int .i64 j ∧ HB wr h (H0.write (t.data.toList.take j)) ∧ Below w.heap.size w wr) (fun i _ => t.size - (intOf i).toNat)
      case atStart => exact ⟨0, by omega, rfl, h4, b4⟩
      case round =>
        obtain ⟨j, hj, rfl, hh, hb⟩ := hrel
        clear h4 b4
        by_cases hlt : j < t.size
        · have HW := Lib.hid (write_one t j)
          have hs1 : (H0.write (t.data.toList.take j)).size + (t.extract j (j + 1)).size < 4611686018427387904 := by
            rw [size0, List.length_take]; simp; omega
          go_wp2_with fail
          refine (write_any h _ (t.extract j (j + 1)) _ hh.lt hh hs1).mono ?_
          rintro e w5 ⟨rfl, h5, c5⟩
          rw [HW.out] at h5
          have b5 := c5.below hb hn hb.size
          clear hh hb c5 hs1
          go_wp2_with fail
          go_roundw
          case rel => exact ⟨j + 1, by omega, by go_num, h5, b5⟩
          case measure => simp [intOf]; omega
        · obtain rfl : j = t.size := by omega
          rw [List.take_of_length_le (by rw [size_list]; omega)] at hh
          have HT := Lib.hid (show (H0.write t.data.toList).size = t.size by rw [size0, size_list])
          have hts : (H0.write t.data.toList).size < 576460752303423488 := by rw [HT.out]; omega
          clear hlt hj
          go_wp2_with fail
          refine (sum_any h _ _ hh hts).mono ?_
          rintro e w6 ⟨rfl, b6⟩
          have h6 := hh.below b6 hh.lt
          have b6' := hb.trans (b6.mono hb.size)
          clear hh hb b6
          go_wp2_with fail
          refine (one_any t w6 (by omega)).mono ?_
          rintro e w7 ⟨rfl, b7⟩
          have h7 := h6.below b7 h6.lt
          have b7' := b6'.trans (b7.mono b6'.size)
          clear h6 b6' b7
          go_wp2_with fail
          refine (len_any h _ w7 h7).mono ?_
          rintro e w8 ⟨rfl, rfl⟩
          rw [HT.out]
          go_wp2_with fail
          go_ret
          exact ⟨rfl, b7'⟩
theorem bytes_any (c n : Int) (s : ByteArray) (w : World) (hs : s.size ≤ maxLen) (c0 : 0 ≤ c) (c1 : c ≤ 255) (n0 : 0 ≤ n) (n1 : n ≤ 255) :
    Calls Try.prog 7 #[.int .u8 c, .int .u8 n, .string s] w fun e w' => e = .returned (.bool true) ∧ Below w.heap.size w w' := by
  unfold maxLen at hs
  have e : c = iw (BitVec.ofNat 8 c.toNat) := by unfold iw; rw [BitVec.toNat_ofNat]; omega
  rw [e]
  rcases Nat.lt_or_ge 20 s.size with h5 | h5
  · exact bytes_b _ n s w hs n0 n1 h5
  · exact bytes_a _ n s w hs n0 n1 h5
end Go.Proofs.Ytmmijnacgolopaa
