/- Sum512Sums: the walk. -/
import Derived.Test.YtmmijnacgolopaaSbH
import Derived.Test.YtmmijnacgolopaaRb7
namespace Go.Proofs.Ytmmijnacgolopaa
open Go.RowKit
set_option maxRecDepth 100000 in
set_option maxHeartbeats 400000 in
theorem sums_a (s : ByteArray) (w : World) (_h5 : s.size ≤ 600) :
    Calls Try.prog 3 #[.string s] w fun e w' => e = .returned (.bool true) ∧ Below w.heap.size w w' := by
  have hm : (min (s.size : Int) 600).toNat = s.size := by omega
  have hx : s.extract 0 s.size = s := by simp
  go_enter Try.func3, Try.ntmps3
  go_wp2_with (first
    | (go_at_call 8; refine (examples_any _).mono ?_; rintro e w1 ⟨rfl, b1⟩)
    | fail)
  refine (one_any s w1 (by omega)).mono ?_
  rintro e w2 ⟨rfl, b2⟩
  rw [out_eq]
  have b2' := b1.trans (b2.mono b1.size)
  clear b1 b2
  go_wp2_with fail
  refine (rone_any s w2 (by omega)).mono ?_
  rintro e w3 ⟨rfl, b3⟩
  have b3' := b2'.trans (b3.mono b2'.size)
  clear b2' b3
  go_wp2_with fail
  go_ret
  exact ⟨rfl, b3'⟩
set_option maxRecDepth 100000 in
set_option maxHeartbeats 400000 in
theorem sums_b (s : ByteArray) (w : World) (_hs : s.size ≤ 9223372036854775807) (_h5 : 600 < s.size) :
    Calls Try.prog 3 #[.string s] w fun e w' => e = .returned (.bool true) ∧ Below w.heap.size w w' := by
  have hm : (min (s.size : Int) 600).toNat = 600 := by omega
  go_enter Try.func3, Try.ntmps3
  go_wp2_with (first
    | (go_at_call 8; refine (examples_any _).mono ?_; rintro e w1 ⟨rfl, b1⟩)
    | fail)
  obtain ⟨t, ht⟩ : ∃ t : ByteArray, t = s.extract 0 600 := ⟨_, rfl⟩
  have hts : t.size ≤ 600 := by rw [ht]; simp; omega
  rw [← ht]
  clear ht
  refine (one_any t w1 (by omega)).mono ?_
  rintro e w2 ⟨rfl, b2⟩
  rw [out_eq]
  have b2' := b1.trans (b2.mono b1.size)
  clear b1 b2
  go_wp2_with fail
  refine (rone_any t w2 (by omega)).mono ?_
  rintro e w3 ⟨rfl, b3⟩
  have b3' := b2'.trans (b3.mono b2'.size)
  clear b2' b3
  go_wp2_with fail
  go_ret
  exact ⟨rfl, b3'⟩
theorem sums_any (s : ByteArray) (w : World) (hs : s.size ≤ 9223372036854775807) :
    Calls Try.prog 3 #[.string s] w fun e w' => e = .returned (.bool true) ∧ Below w.heap.size w w' := by
  by_cases h : s.size ≤ 600
  · exact sums_a s w h
  · exact sums_b s w hs (by omega)
end Go.Proofs.Ytmmijnacgolopaa
