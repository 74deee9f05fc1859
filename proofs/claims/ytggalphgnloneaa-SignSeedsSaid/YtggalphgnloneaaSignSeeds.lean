/- SignSeeds: the walk. (written by mkTl.py) -/
import Derived.Test.YtggalphgnloneaaTf
namespace Go.Proofs.Ytggalphgnloneaa
open Go.RowKit
set_option maxRecDepth 100000 in
set_option maxHeartbeats 1000000 in
theorem seeds_a (s : ByteArray) (h : s.size = 32) (w : World) :
    Calls Try.prog 4 #[.string s] w fun e w' => e = .returned (.bool true) ∧ Below w.heap.size w w' := by
  have hp := publicV_size s
  have CP := Lib.hid (fun w => public_t s w h (publicV s) rfl)
  have CS := Lib.hid (fun w => sign_t s (⟨#[120]⟩ : ByteArray) w h (by decide) (signV s (⟨#[120]⟩ : ByteArray)) rfl)
  have CV := Lib.hid (verify_is (publicV s) (⟨#[120]⟩ : ByteArray) (signV s (⟨#[120]⟩ : ByteArray)) true (by decide) (signed s (⟨#[120]⟩ : ByteArray)))
  generalize signV s (⟨#[120]⟩ : ByteArray) = a at *
  generalize publicV s = p at *
  go_enter Try.func4, Try.ntmps4
  go_wp2_with fail
  refine (examples6_any _).mono ?_
  rintro e w1 ⟨rfl, b1⟩
  go_wp2_with fail
  have he : s.extract 0 32 = s := by rw [← h]; exact ByteArray.extract_zero_size
  rw [he]
  refine (CP.out _).mono ?_
  rintro e w2 ⟨rfl, b2⟩
  have c2 := b1.trans (b2.mono b1.size)
  clear b1 b2
  go_wp2_with fail
  refine (CS.out _).mono ?_
  rintro e w3 ⟨rfl, b3⟩
  have c3 := c2.trans (b3.mono c2.size)
  clear c2 b3
  go_wp2_with fail
  refine (CV.out _).mono ?_
  rintro e w4 ⟨rfl, b4⟩
  have c4 := c3.trans (b4.mono c3.size)
  clear c3 b4
  go_wp2_with fail
  go_ret
  exact ⟨rfl, c4⟩
set_option maxRecDepth 100000 in
set_option maxHeartbeats 1000000 in
theorem seeds_b (s : ByteArray) (h : ¬ s.size = 32) (h6 : s.size ≤ 60) (w : World) :
    Calls Try.prog 4 #[.string s] w fun e w' => e = .returned (.bool true) ∧ Below w.heap.size w w' := by
  go_enter Try.func4, Try.ntmps4
  go_wp2_with fail
  refine (examples6_any _).mono ?_
  rintro e w1 ⟨rfl, b1⟩
  go_wp2_with fail
  refine (public_f s _ h).mono ?_
  rintro e w2 ⟨rfl, b2⟩
  have c2 := b1.trans (b2.mono b1.size)
  clear b1 b2
  go_wp2_with fail
  refine (sign_f s (⟨#[120]⟩ : ByteArray) _ h).mono ?_
  rintro e w3 ⟨rfl, b3⟩
  have c3 := c2.trans (b3.mono c2.size)
  clear c2 b3
  go_wp2_with fail
  go_ret
  exact ⟨rfl, c3⟩
set_option maxRecDepth 100000 in
set_option maxHeartbeats 1000000 in
theorem seeds_c (s : ByteArray) (h6 : 60 < s.size) (w : World) :
    Calls Try.prog 4 #[.string s] w fun e w' => e = .returned (.bool true) ∧ Below w.heap.size w w' := by
  go_enter Try.func4, Try.ntmps4
  go_wp2_with fail
  refine (examples6_any _).mono ?_
  rintro e w1 ⟨rfl, b1⟩
  go_wp2_with fail
  have hz : (s.extract 0 60).size = 60 := by rw [ByteArray.size_extract]; omega
  generalize s.extract 0 60 = t at hz ⊢
  have h : ¬ t.size = 32 := by omega
  refine (public_f t _ h).mono ?_
  rintro e w2 ⟨rfl, b2⟩
  have c2 := b1.trans (b2.mono b1.size)
  clear b1 b2
  go_wp2_with fail
  refine (sign_f t (⟨#[120]⟩ : ByteArray) _ h).mono ?_
  rintro e w3 ⟨rfl, b3⟩
  have c3 := c2.trans (b3.mono c2.size)
  clear c2 b3
  go_wp2_with fail
  go_ret
  exact ⟨rfl, c3⟩
theorem seeds_any (s : ByteArray) (w : World) :
    Calls Try.prog 4 #[.string s] w fun e w' => e = .returned (.bool true) ∧ Below w.heap.size w w' := by
  by_cases h : s.size = 32
  · exact seeds_a s h w
  · rcases Nat.lt_or_ge 60 s.size with h6 | h6
    · exact seeds_c s h6 w
    · exact seeds_b s h h6 w
end Go.Proofs.Ytggalphgnloneaa
