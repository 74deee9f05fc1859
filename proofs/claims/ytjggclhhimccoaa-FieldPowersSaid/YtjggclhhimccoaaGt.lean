/- A number by its bytes, the least one first. -/
import Derived.Test.YtjggclhhimccoaaGs
import Derived.Test.YtjggclhhimccoaaBytes
namespace Go.Proofs.Ytjggclhhimccoaa
open Go.RowKit
def bv (f : Nat → Nat) : Nat → Nat
  | 0 => 0
  | i + 1 => bv f i + f i * 2 ^ (8 * i)
theorem bv_lt (f : Nat → Nat) (hf : ∀ j, f j < 256) : ∀ i, bv f i < 2 ^ (8 * i)
  | 0 => by show 0 < _; exact Nat.pow_pos (by decide)
  | i + 1 => by
    have h := bv_lt f hf i
    have h1 := hf i
    have e : (2 : Nat) ^ (8 * (i + 1)) = 256 * 2 ^ (8 * i) := by rw [Nat.mul_succ, Nat.pow_add, Nat.mul_comm]
    show bv f i + f i * 2 ^ (8 * i) < _
    rw [e]
    have h2 : f i * 2 ^ (8 * i) ≤ 255 * 2 ^ (8 * i) := Nat.mul_le_mul_right _ (by omega)
    omega
theorem pow_split (q r : Nat) : (2 : Nat) ^ (8 * (8 * q + r)) = 2 ^ (64 * q) * 2 ^ (8 * r) := by
  rw [← Nat.pow_add]; congr 1; omega
theorem bv_word (f : Nat → Nat) (hf : ∀ j, f j < 256) (q r : Nat) (hr : r < 8) : orw (F4 (bv f (8 * q + r)) q) (shlw (nw (f (8 * q + r))) (8 * r)) = F4 (bv f (8 * q + r + 1)) q := by
  apply BitVec.eq_of_toNat_eq
  have h0 := bv_lt f hf (8 * q + r)
  have h1 := hf (8 * q + r)
  have hQ : 0 < 2 ^ (64 * q) := Nat.pow_pos (by decide)
  have hlow : bv f (8 * q + r) / 2 ^ (64 * q) < 2 ^ (8 * r) := Nat.div_lt_of_lt_mul (by rw [← pow_split]; exact h0)
  have hsum : bv f (8 * q + r + 1) / 2 ^ (64 * q) = bv f (8 * q + r) / 2 ^ (64 * q) + 2 ^ (8 * r) * f (8 * q + r) := by
    show (bv f (8 * q + r) + f (8 * q + r) * 2 ^ (8 * (8 * q + r))) / _ = _
    rw [pow_split, Nat.mul_comm (f _), Nat.mul_assoc, Nat.add_mul_div_left _ _ hQ]
  unfold orw shlw
  rw [BitVec.toNat_or, BitVec.toNat_shiftLeft, Nat.shiftLeft_eq, F4_nat, F4_nat, hsum, nw_nat _ (by unfold W64; omega)]
  generalize bv f (8 * q + r) / 2 ^ (64 * q) = x at *
  generalize f (8 * q + r) = b at *
  have hs : 2 ^ (8 * r) * b + x < 18446744073709551616 := by
    have h5 : (2 : Nat) ^ (8 * r) * 256 ≤ 18446744073709551616 := by
      rw [show (256 : Nat) = 2 ^ 8 by rfl, ← Nat.pow_add, show (18446744073709551616 : Nat) = 2 ^ 64 by rfl]
      exact Nat.pow_le_pow_right (by decide) (by omega)
    have h6 := Nat.mul_le_mul_left (2 ^ (8 * r)) (show b ≤ 255 by omega)
    omega
  have h3 := Nat.two_pow_add_eq_or_of_lt hlow b
  have e1 : x % 18446744073709551616 = x := Nat.mod_eq_of_lt (by omega)
  have e2 : b * 2 ^ (8 * r) % 2 ^ 64 = 2 ^ (8 * r) * b := by rw [Nat.mul_comm]; exact Nat.mod_eq_of_lt (by omega)
  rw [e1, e2, Nat.or_comm, ← h3, Nat.add_comm x, Nat.mod_eq_of_lt hs]
theorem bv_other (f : Nat → Nat) (hf : ∀ j, f j < 256) (q r k : Nat) (hr : r < 8) (hk : k ≠ q) : F4 (bv f (8 * q + r)) k = F4 (bv f (8 * q + r + 1)) k := by
  apply BitVec.eq_of_toNat_eq
  have h0 := bv_lt f hf (8 * q + r)
  have h1 := bv_lt f hf (8 * q + r + 1)
  rw [F4_nat, F4_nat]
  rcases Nat.lt_or_ge k q with hlt | hge
  · obtain ⟨d, rfl⟩ : ∃ d, q = k + 1 + d := ⟨q - (k + 1), by omega⟩
    show _ = (bv f (8 * (k + 1 + d) + r) + f (8 * (k + 1 + d) + r) * 2 ^ (8 * (8 * (k + 1 + d) + r))) / _ % _
    have e : (2 : Nat) ^ (8 * (8 * (k + 1 + d) + r)) = 2 ^ (64 * k) * (18446744073709551616 * 2 ^ (64 * d + 8 * r)) := by
      rw [show (18446744073709551616 : Nat) = 2 ^ 64 by rfl, ← Nat.pow_add, ← Nat.pow_add]; congr 1; omega
    rw [e, Nat.mul_left_comm, Nat.add_mul_div_left _ _ (Nat.pow_pos (by decide)), Nat.mul_left_comm, Nat.add_mul_mod_self_left]
  · have hz : ∀ x, x < 2 ^ (8 * (8 * q + r + 1)) → x / 2 ^ (64 * k) = 0 := fun x hx =>
      Nat.div_eq_of_lt (Nat.lt_of_lt_of_le hx (Nat.pow_le_pow_right (by decide) (by omega)))
    have h2 : bv f (8 * q + r) < 2 ^ (8 * (8 * q + r + 1)) := Nat.lt_of_lt_of_le h0 (Nat.pow_le_pow_right (by decide) (by omega))
    rw [hz _ h1, hz _ h2]
/-- Byte i of n. -/
def byteN (n i : Nat) : Nat := n / 2 ^ (8 * i) % 256
theorem byte_word (n q r : Nat) (hr : r < 8) : castw 8 (shrw (F4 n q) (8 * r)) = BitVec.ofNat 8 (byteN n (8 * q + r)) := by
  apply BitVec.eq_of_toNat_eq
  unfold castw shrw byteN
  rw [BitVec.toNat_ofNat, BitVec.toNat_ofNat, BitVec.toNat_ushiftRight, Nat.shiftRight_eq_div_pow, F4_nat, pow_split, ← Nat.div_div_eq_div_mul]
  generalize n / 2 ^ (64 * q) = x
  have e : (18446744073709551616 : Nat) = 2 ^ (8 * r) * 2 ^ (64 - 8 * r) := by
    rw [← Nat.pow_add, show 8 * r + (64 - 8 * r) = 64 by omega]
  rw [e, Nat.mod_mul_right_div_self, show (2 : Nat) ^ 8 = 256 by rfl, Nat.mod_mod_of_dvd _ (show 256 ∣ 2 ^ (64 - 8 * r) by
    rw [show (256 : Nat) = 2 ^ 8 by rfl]; exact Nat.pow_dvd_pow 2 (by omega)), Nat.mod_mod]
theorem bv_bytes (n : Nat) : ∀ i, bv (byteN n) i = n % 2 ^ (8 * i)
  | 0 => by show 0 = _; rw [Nat.mul_zero, Nat.pow_zero, Nat.mod_one]
  | i + 1 => by
    show bv (byteN n) i + byteN n i * 2 ^ (8 * i) = _
    rw [bv_bytes n i, Nat.mul_succ, Nat.pow_add, show (2 : Nat) ^ 8 = 256 by rfl, Nat.mod_mul]
    unfold byteN
    rw [Nat.mul_comm (n / 2 ^ (8 * i) % 256)]
theorem bytes_bv (f : Nat → Nat) (hf : ∀ j, f j < 256) (i : Nat) : ∀ k, i < k → byteN (bv f k) i = f i
  | 0, h => by omega
  | k + 1, h => by
    have hQ : 0 < 2 ^ (8 * i) := Nat.pow_pos (by decide)
    by_cases hk : i = k
    · subst hk
      show (bv f i + f i * 2 ^ (8 * i)) / 2 ^ (8 * i) % 256 = f i
      rw [Nat.add_mul_div_right _ _ hQ, Nat.div_eq_of_lt (bv_lt f hf i), Nat.zero_add, Nat.mod_eq_of_lt (hf i)]
    · have ih := bytes_bv f hf i k (by omega)
      show (bv f k + f k * 2 ^ (8 * k)) / 2 ^ (8 * i) % 256 = f i
      obtain ⟨d, rfl⟩ : ∃ d, k = i + 1 + d := ⟨k - (i + 1), by omega⟩
      have e : (2 : Nat) ^ (8 * (i + 1 + d)) = 2 ^ (8 * i) * (256 * 2 ^ (8 * d)) := by
        rw [show (256 : Nat) = 2 ^ 8 by rfl, ← Nat.pow_add, ← Nat.pow_add]; congr 1; omega
      rw [e, Nat.mul_left_comm, Nat.add_mul_div_left _ _ hQ, Nat.mul_left_comm, Nat.add_mul_mod_self_left]
      exact ih
end Go.Proofs.Ytjggclhhimccoaa
