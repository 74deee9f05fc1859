/- Clamp, Bit of the layer scalar. -/
import Derived.Test.YtnfcgpoafmmioaaKi
namespace Go.Proofs.Ytnfcgpoafmmioaa
open Go.RowKit
theorem clamp_low' : ∀ x : Fin 256, bits .andNot .u8 (x.val : Int) 7 = ((x.val / 8 * 8 : Nat) : Int) := by decide +kernel
theorem clamp_low (x : Nat) (h : x < 256) : bits .andNot .u8 (x : Int) 7 = ((x / 8 * 8 : Nat) : Int) := clamp_low' ⟨x, h⟩
theorem clamp_high' : ∀ x : Fin 256, bits .or .u8 (bits .and .u8 (x.val : Int) 127) 64 = ((x.val % 64 + 64 : Nat) : Int) := by decide +kernel
theorem clamp_high (x : Nat) (h : x < 256) : bits .or .u8 (bits .and .u8 (x : Int) 127) 64 = ((x % 64 + 64 : Nat) : Int) := clamp_high' ⟨x, h⟩
set_option maxRecDepth 100000 in
set_option maxHeartbeats 1000000 in
theorem qclamp_any (s : ByteArray) (w : World) :
    Calls Try.prog 16 #[.string s] w fun e w' => e = .returned (.tuple #[.string (clampV s).1, .bool (clampV s).2]) ∧ Below w.heap.size w w' := by
  by_cases h : s.size = 32
  · have HV : Hid (clampV s = (⟨(clampL s).toArray⟩, true)) := Lib.hid (by unfold clampV; rw [if_pos h])
    have hc : ((s.size : Int) != 32) = false := by rw [h]; rfl
    obtain ⟨cap, W1, hcv, hW⟩ := conv_start s w h
    have c0 := hW.c 0 (by omega)
    have f0 := hW.fz 0 (by omega)
    have hq := byteS_lt s 0
    have hr := byteS_lt s 31
    obtain ⟨q, hqd⟩ : ∃ q, q = byteS s 0 / 8 * 8 := ⟨_, rfl⟩
    obtain ⟨r, hrd⟩ : ∃ r, r = byteS s 31 % 64 + 64 := ⟨_, rfl⟩
    have eq1 : bits .andNot .u8 (byteS s 0 : Int) 7 = (q : Int) := by rw [clamp_low _ hq, hqd]
    have eq2 : bits .or .u8 (bits .and .u8 (byteS s 31 : Int) 127) 64 = (r : Int) := by rw [clamp_high _ hr, hrd]
    have hW2 := hW.put (k := 0) (by omega) (q : Int)
    have c31 := hW2.c 31 (by omega)
    have f31 := hW2.fz 31 (by omega)
    have hW3 := hW2.put (k := 31) (by omega) (r : Int)
    have hend := conv_end hW3 s (fun j hj => by
      unfold clampB
      by_cases h1 : j = 31
      · rw [if_pos h1, if_pos h1, hrd]
      · rw [if_neg h1, if_neg h1]
        by_cases h2 : j = 0
        · rw [if_pos h2, if_pos h2, hqd]
        · rw [if_neg h2, if_neg h2]) cap
    have hb := hW3.b
    simp only [show ¬ (31 : Nat) = 0 by omega, if_false] at c31
    clear hW hW2 hW3 h hqd hrd hq hr
    go_enter Try.func16, Try.ntmps16
    go_wp2_with fail
    refine bodyPost_ret (results_tmp2 rfl _ _ _) rfl ⟨?_, hb⟩
    rw [HV.out]; rfl
  · have HV : Hid (clampV s = (⟨#[]⟩, false)) := Lib.hid (by unfold clampV; rw [if_neg h])
    have hc : ((s.size : Int) != 32) = true := by rw [bne_iff_ne]; omega
    clear h
    go_enter Try.func16, Try.ntmps16
    go_wp2_with fail
    refine bodyPost_ret (results_tmp2 rfl _ _ _) rfl ⟨?_, Below.refl _ _⟩
    rw [HV.out]; rfl
theorem bit8_out' : ∀ x : Fin 256, ∀ r : Fin 8, bits .and .u8 ((x.val / 2 ^ r.val : Nat) : Int) 1 = ((x.val / 2 ^ r.val % 2 : Nat) : Int) := by decide +kernel
theorem bit8_out (x r : Nat) (h : x < 256) (hr : r < 8) : bits .and .u8 ((x : Int) / 2 ^ r) 1 = ((x / 2 ^ r % 2 : Nat) : Int) := by
  have e : (x : Int) / 2 ^ r = ((x / 2 ^ r : Nat) : Int) := by norm_cast
  rw [e]; exact bit8_out' ⟨x, h⟩ ⟨r, hr⟩
set_option maxRecDepth 100000 in
set_option maxHeartbeats 1000000 in
theorem qbit_in (s : ByteArray) (i : Nat) (w : World) (hi : i < 9223372036854775808) (h : i / 8 < s.size) :
    Calls Try.prog 18 #[.string s, .int .i64 (i : Int)] w fun e w' => e = .returned (.int .i64 (bitS s i : Int)) ∧ w' = w := by
  obtain ⟨q, hqd⟩ : ∃ q, q = i / 8 := ⟨_, rfl⟩
  obtain ⟨r, hrd⟩ : ∃ r, r = i % 8 := ⟨_, rfl⟩
  have hr8 : r < 8 := by omega
  have hmin : min r 8 = r := by omega
  have hq : (i : Int).tdiv 8 = (q : Int) := by rw [Int.tdiv_eq_ediv_of_nonneg (by omega)]; omega
  have hr : (i : Int).tmod 8 = (r : Int) := by rw [Int.tmod_eq_emod_of_nonneg (by omega)]; omega
  have hks : q < s.size := by rw [hqd]; exact h
  have hge : ¬ (s.size : Int) ≤ q := by omega
  have hqb : q < 1152921504606846976 := by omega
  have HB := Lib.hid (byteS_at s q hks)
  have HV : Hid (bitS s i = byteS s q / 2 ^ r % 2) := Lib.hid (by unfold bitS; rw [hqd, hrd])
  clear hqd hrd h hi
  go_enter Try.func18, Try.ntmps18
  go_wp2_with fail
  have hw : wrap64 (bitS s i : Int) = (bitS s i : Int) := IntWalk.wrap64_in _ (by have := bitS_le s i; omega)
  rw [HB.out, bit8_out _ _ (byteS_lt s q) hr8, ← HV.out, hw]
  go_ret
  exact ⟨rfl, rfl⟩
set_option maxRecDepth 100000 in
set_option maxHeartbeats 1000000 in
theorem qbit_over (s : ByteArray) (i : Nat) (w : World) (hi : i < 9223372036854775808) (h : ¬ i / 8 < s.size) :
    Calls Try.prog 18 #[.string s, .int .i64 (i : Int)] w fun e w' => e = .returned (.int .i64 (bitS s i : Int)) ∧ w' = w := by
  obtain ⟨q, hqd⟩ : ∃ q, q = i / 8 := ⟨_, rfl⟩
  have hq : (i : Int).tdiv 8 = (q : Int) := by rw [Int.tdiv_eq_ediv_of_nonneg (by omega)]; omega
  have hge : (s.size : Int) ≤ q := by omega
  have hqb : q < 1152921504606846976 := by omega
  have HV : Hid (bitS s i = 0) := Lib.hid (by unfold bitS; rw [byteS_out s _ h, Nat.zero_div])
  clear hqd h hi
  go_enter Try.func18, Try.ntmps18
  go_wp2_with fail
  go_ret
  exact ⟨by rw [HV.out]; rfl, rfl⟩
theorem qbit_neg (s : ByteArray) (i : Int) (w : World) (h : i < 0) :
    Calls Try.prog 18 #[.string s, .int .i64 i] w fun e w' => e = .returned (.int .i64 0) ∧ w' = w := by
  have hd : decide (i < 0) = true := decide_eq_true h
  clear h
  go_enter Try.func18, Try.ntmps18
  go_wp2_with fail
  go_ret
  exact ⟨rfl, rfl⟩
theorem qbit_int (s : ByteArray) (i : Int) (w : World) (h : i < 9223372036854775808) :
    Calls Try.prog 18 #[.string s, .int .i64 i] w fun e w' => e = .returned (.int .i64 (bitI s i : Int)) ∧ w' = w := by
  unfold bitI
  by_cases hi : i < 0
  · rw [if_pos hi]; exact qbit_neg s i w hi
  · rw [if_neg hi]
    have : Calls Try.prog 18 #[.string s, .int .i64 (i.toNat : Int)] w fun e w' => e = .returned (.int .i64 (bitS s i.toNat : Int)) ∧ w' = w := by
      by_cases h2 : i.toNat / 8 < s.size
      · exact qbit_in s i.toNat w (by omega) h2
      · exact qbit_over s i.toNat w (by omega) h2
    rwa [show ((i.toNat : Nat) : Int) = i by omega] at this
end Go.Proofs.Ytnfcgpoafmmioaa
