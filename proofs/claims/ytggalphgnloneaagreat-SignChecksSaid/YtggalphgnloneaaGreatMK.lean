/- Bytes and bits of a text; Bit of the document's answer. -/
import Derived.Test.YtggalphgnloneaaGreatRows
import Derived.Test.YtggalphgnloneaaGreatMA
import Derived.BigQuiet
import Derived.Deep.QuietTactic
import Derived.StillTailTactics
namespace Go.Proofs.YtggalphgnloneaaGreat
open Go.RowKit
/-- Bit i of a text. -/
def bitS (s : ByteArray) (i : Nat) : Nat := byteS s (i / 8) / 2 ^ (i % 8) % 2
theorem bitS_le (s : ByteArray) (i : Nat) : bitS s i ≤ 1 := by unfold bitS; omega
theorem bitS_bv (s : ByteArray) (n i : Nat) (h : i < 8 * n) : bv (byteS s) n / 2 ^ i % 2 = bitS s i := by
  unfold bitS
  have hb := bv_byte (byteS s) (byteS_lt s) (i / 8) n (by omega)
  rw [← hb]
  unfold byteK
  have e : (2 : Nat) ^ i = 2 ^ (8 * (i / 8)) * 2 ^ (i % 8) := by rw [← Nat.pow_add, show 8 * (i / 8) + i % 8 = i by omega]
  rw [e, ← Nat.div_div_eq_div_mul]
  generalize bv (byteS s) n / 2 ^ (8 * (i / 8)) = x
  have e2 : (256 : Nat) = 2 ^ (i % 8) * 2 ^ (8 - i % 8) := by rw [← Nat.pow_add, show i % 8 + (8 - i % 8) = 8 by omega]
  rw [e2, Nat.mod_mul_right_div_self, Nat.mod_mod_of_dvd _ (show 2 ∣ 2 ^ (8 - i % 8) from Nat.pow_dvd_pow 2 (show 1 ≤ 8 - i % 8 by omega))]
theorem and_bit' : ∀ x : Fin 256, bits .and .i64 (x.val : Int) 1 = ((x.val % 2 : Nat) : Int) := by decide +kernel
theorem and_bit (x : Nat) (h : x < 256) : bits .and .i64 (x : Int) 1 = ((x % 2 : Nat) : Int) := and_bit' ⟨x, h⟩
theorem bit_out (x r : Nat) (h : x < 256) : bits .and .i64 (wrap64 ((x : Int) / 2 ^ r)) 1 = ((x / 2 ^ r % 2 : Nat) : Int) := by
  have e : (x : Int) / 2 ^ r = ((x / 2 ^ r : Nat) : Int) := by norm_cast
  have h2 : x / 2 ^ r < 256 := Nat.lt_of_le_of_lt (Nat.div_le_self _ _) h
  rw [e]
  clear e
  generalize x / 2 ^ r = y at h2 ⊢
  rw [IntWalk.wrap64_in _ (by omega), and_bit _ h2]
set_option maxRecDepth 100000 in
set_option maxHeartbeats 1000000 in
theorem rbit_in (s : ByteArray) (i : Nat) (w : World) (hi : i < 9223372036854775808) (h : i / 8 < s.size) :
    Calls Tryz.prog 46 #[.string s, .int .i64 (i : Int)] w fun e w' => e = .returned (.int .i64 (bitS s i : Int)) ∧ w' = w := by
  obtain ⟨q, hqd⟩ : ∃ q, q = i / 8 := ⟨_, rfl⟩
  obtain ⟨r, hrd⟩ : ∃ r, r = i % 8 := ⟨_, rfl⟩
  have hr8 : r < 8 := by omega
  have hmin : min r 8 = r := by omega
  have hq : (i : Int).tdiv 8 = (q : Int) := by rw [Int.tdiv_eq_ediv_of_nonneg (by omega)]; omega
  have hr : (i : Int).tmod 8 = (r : Int) := by rw [Int.tmod_eq_emod_of_nonneg (by omega)]; omega
  have hks : q < s.size := by rw [hqd]; exact h
  have hge : ¬ (s.size : Int) ≤ q := by omega
  have hqb : q < 1152921504606846976 := by omega
  have HB := Lib.hid (byteS_at s q hks)
  have HV : Hid (bitS s i = byteS s q / 2 ^ r % 2) := Lib.hid (by unfold bitS; rw [hqd, hrd])
  clear hqd hrd h hi
  go_enter Tryz.func46, Tryz.ntmps46
  go_wp2_with fail
  rw [HB.out, bit_out _ _ (byteS_lt s q), ← HV.out]
  go_ret
  exact ⟨rfl, rfl⟩
set_option maxRecDepth 100000 in
set_option maxHeartbeats 1000000 in
theorem rbit_over (s : ByteArray) (i : Nat) (w : World) (hi : i < 9223372036854775808) (h : ¬ i / 8 < s.size) :
    Calls Tryz.prog 46 #[.string s, .int .i64 (i : Int)] w fun e w' => e = .returned (.int .i64 (bitS s i : Int)) ∧ w' = w := by
  obtain ⟨q, hqd⟩ : ∃ q, q = i / 8 := ⟨_, rfl⟩
  have hq : (i : Int).tdiv 8 = (q : Int) := by rw [Int.tdiv_eq_ediv_of_nonneg (by omega)]; omega
  have hge : (s.size : Int) ≤ q := by omega
  have hqb : q < 1152921504606846976 := by omega
  have HV : Hid (bitS s i = 0) := Lib.hid (by unfold bitS; rw [byteS_out s _ h, Nat.zero_div])
  clear hqd h hi
  go_enter Tryz.func46, Tryz.ntmps46
  go_wp2_with fail
  go_ret
  exact ⟨by rw [HV.out]; rfl, rfl⟩
theorem rbit_any (s : ByteArray) (i : Nat) (w : World) (hi : i < 9223372036854775808) :
    Calls Tryz.prog 46 #[.string s, .int .i64 (i : Int)] w fun e w' => e = .returned (.int .i64 (bitS s i : Int)) ∧ w' = w := by
  by_cases h : i / 8 < s.size
  · exact rbit_in s i w hi h
  · exact rbit_over s i w hi h
end Go.Proofs.YtggalphgnloneaaGreat
/- Bit of the reference, of any number. -/
namespace Go.Proofs.YtggalphgnloneaaGreat
open Go.RowKit
/-- The bit at any place. -/
def bitI (s : ByteArray) (i : Int) : Nat := if i < 0 then 0 else bitS s i.toNat
end Go.Proofs.YtggalphgnloneaaGreat
/- Bit of the layer scalar. -/
namespace Go.Proofs.YtggalphgnloneaaGreat
open Go.RowKit
theorem bit8_out' : ∀ x : Fin 256, ∀ r : Fin 8, bits .and .u8 ((x.val / 2 ^ r.val : Nat) : Int) 1 = ((x.val / 2 ^ r.val % 2 : Nat) : Int) := by decide +kernel
theorem bit8_out (x r : Nat) (h : x < 256) (hr : r < 8) : bits .and .u8 ((x : Int) / 2 ^ r) 1 = ((x / 2 ^ r % 2 : Nat) : Int) := by
  have e : (x : Int) / 2 ^ r = ((x / 2 ^ r : Nat) : Int) := by norm_cast
  rw [e]; exact bit8_out' ⟨x, h⟩ ⟨r, hr⟩
set_option maxRecDepth 100000 in
set_option maxHeartbeats 1000000 in
theorem qbit_in (s : ByteArray) (i : Nat) (w : World) (hi : i < 9223372036854775808) (h : i / 8 < s.size) :
    Calls Tryz.prog 52 #[.string s, .int .i64 (i : Int)] w fun e w' => e = .returned (.int .i64 (bitS s i : Int)) ∧ w' = w := by
  obtain ⟨q, hqd⟩ : ∃ q, q = i / 8 := ⟨_, rfl⟩
  obtain ⟨r, hrd⟩ : ∃ r, r = i % 8 := ⟨_, rfl⟩
  have hr8 : r < 8 := by omega
  have hmin : min r 8 = r := by omega
  have hq : (i : Int).tdiv 8 = (q : Int) := by rw [Int.tdiv_eq_ediv_of_nonneg (by omega)]; omega
  have hr : (i : Int).tmod 8 = (r : Int) := by rw [Int.tmod_eq_emod_of_nonneg (by omega)]; omega
  have hks : q < s.size := by rw [hqd]; exact h
  have hge : ¬ (s.size : Int) ≤ q := by omega
  have hqb : q < 1152921504606846976 := by omega
  have HB := Lib.hid (byteS_at s q hks)
  have HV : Hid (bitS s i = byteS s q / 2 ^ r % 2) := Lib.hid (by unfold bitS; rw [hqd, hrd])
  clear hqd hrd h hi
  go_enter Tryz.func52, Tryz.ntmps52
  go_wp2_with fail
  have hw : wrap64 (bitS s i : Int) = (bitS s i : Int) := IntWalk.wrap64_in _ (by have := bitS_le s i; omega)
  rw [HB.out, bit8_out _ _ (byteS_lt s q) hr8, ← HV.out, hw]
  go_ret
  exact ⟨rfl, rfl⟩
set_option maxRecDepth 100000 in
set_option maxHeartbeats 1000000 in
theorem qbit_over (s : ByteArray) (i : Nat) (w : World) (hi : i < 9223372036854775808) (h : ¬ i / 8 < s.size) :
    Calls Tryz.prog 52 #[.string s, .int .i64 (i : Int)] w fun e w' => e = .returned (.int .i64 (bitS s i : Int)) ∧ w' = w := by
  obtain ⟨q, hqd⟩ : ∃ q, q = i / 8 := ⟨_, rfl⟩
  have hq : (i : Int).tdiv 8 = (q : Int) := by rw [Int.tdiv_eq_ediv_of_nonneg (by omega)]; omega
  have hge : (s.size : Int) ≤ q := by omega
  have hqb : q < 1152921504606846976 := by omega
  have HV : Hid (bitS s i = 0) := Lib.hid (by unfold bitS; rw [byteS_out s _ h, Nat.zero_div])
  clear hqd h hi
  go_enter Tryz.func52, Tryz.ntmps52
  go_wp2_with fail
  go_ret
  exact ⟨by rw [HV.out]; rfl, rfl⟩
theorem qbit_neg (s : ByteArray) (i : Int) (w : World) (h : i < 0) :
    Calls Tryz.prog 52 #[.string s, .int .i64 i] w fun e w' => e = .returned (.int .i64 0) ∧ w' = w := by
  have hd : decide (i < 0) = true := decide_eq_true h
  clear h
  go_enter Tryz.func52, Tryz.ntmps52
  go_wp2_with fail
  go_ret
  exact ⟨rfl, rfl⟩
theorem qbit_int (s : ByteArray) (i : Int) (w : World) (h : i < 9223372036854775808) :
    Calls Tryz.prog 52 #[.string s, .int .i64 i] w fun e w' => e = .returned (.int .i64 (bitI s i : Int)) ∧ w' = w := by
  unfold bitI
  by_cases hi : i < 0
  · rw [if_pos hi]; exact qbit_neg s i w hi
  · rw [if_neg hi]
    have : Calls Tryz.prog 52 #[.string s, .int .i64 (i.toNat : Int)] w fun e w' => e = .returned (.int .i64 (bitS s i.toNat : Int)) ∧ w' = w := by
      by_cases h2 : i.toNat / 8 < s.size
      · exact qbit_in s i.toNat w (by omega) h2
      · exact qbit_over s i.toNat w (by omega) h2
    rwa [show ((i.toNat : Nat) : Int) = i by omega] at this
end Go.Proofs.YtggalphgnloneaaGreat
