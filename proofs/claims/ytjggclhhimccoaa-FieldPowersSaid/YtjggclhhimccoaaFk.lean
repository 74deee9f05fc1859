/- The document's answer to chapter 3: fold, the words. -/
import Derived.Test.YtjggclhhimccoaaFj
namespace Go.Proofs.Ytjggclhhimccoaa
open Go.RowKit
def cw (A B k : Nat) : BitVec 64 := BitVec.ofNat 64 (fc A B k)
def fs (c k : Nat) : BitVec 64 := addw (addw (D64 c k) (mulw (D64 c (k + 8)) (litw 64 38))) (cw (c % M256) (c / M256) k)
theorem D64_lo (c k : Nat) (hk : k < 8) : (D64 c k).toNat = c % M256 / 2 ^ (32 * k) % 4294967296 := by
  unfold D64
  rw [BitVec.toNat_ofNat]
  unfold M256
  match k, hk with
  | 0, _ => simp only [Nat.reduceMul, Nat.reducePow]; omega
  | 1, _ => simp only [Nat.reduceMul, Nat.reducePow]; omega
  | 2, _ => simp only [Nat.reduceMul, Nat.reducePow]; omega
  | 3, _ => simp only [Nat.reduceMul, Nat.reducePow]; omega
  | 4, _ => simp only [Nat.reduceMul, Nat.reducePow]; omega
  | 5, _ => simp only [Nat.reduceMul, Nat.reducePow]; omega
  | 6, _ => simp only [Nat.reduceMul, Nat.reducePow]; omega
  | 7, _ => simp only [Nat.reduceMul, Nat.reducePow]; omega
theorem D64_hi (c k : Nat) : (D64 c (k + 8)).toNat = c / M256 / 2 ^ (32 * k) % 4294967296 := by
  have : 2 ^ (32 * (k + 8)) = M256 * 2 ^ (32 * k) := by rw [Nat.mul_add, Nat.pow_add, Nat.mul_comm]; rfl
  unfold D64
  rw [BitVec.toNat_ofNat, this, ← Nat.div_div_eq_div_mul]
  omega
theorem fs_nat (c k : Nat) (hk : k < 8) : (fs c k).toNat = c % M256 / 2 ^ (32 * k) % 4294967296 + 38 * (c / M256 / 2 ^ (32 * k) % 4294967296) + fc (c % M256) (c / M256) k := by
  have h0 := fc_le (c % M256) (c / M256) k
  have h3 : (cw (c % M256) (c / M256) k).toNat = fc (c % M256) (c / M256) k := by
    unfold cw; rw [BitVec.toNat_ofNat]; exact Nat.mod_eq_of_lt (Nat.lt_of_le_of_lt h0 (by decide))
  have h4 : (litw 64 38).toNat = 38 := by unfold litw; rfl
  unfold fs addw mulw
  rw [BitVec.toNat_add, BitVec.toNat_add, BitVec.toNat_mul, D64_lo c k hk, D64_hi, h3, h4]
  generalize fc (c % M256) (c / M256) k = f at h0 ⊢
  have h5 : c % M256 / 2 ^ (32 * k) % 4294967296 < 4294967296 := Nat.mod_lt _ (by decide)
  have h6 : c / M256 / 2 ^ (32 * k) % 4294967296 < 4294967296 := Nat.mod_lt _ (by decide)
  generalize c % M256 / 2 ^ (32 * k) % 4294967296 = u at h5 ⊢
  generalize c / M256 / 2 ^ (32 * k) % 4294967296 = v at h6 ⊢
  omega
theorem fs_digit (c k : Nat) (hk : k < 8) : castw 32 (fs c k) = N8 (foldV c) k := by
  apply BitVec.eq_of_toNat_eq
  unfold castw
  rw [BitVec.toNat_ofNat, fs_nat c k hk, N8_nat]
  exact f_digit _ _ _
theorem fs_carry (c k : Nat) (hk : k < 8) : shrw (fs c k) 32 = cw (c % M256) (c / M256) (k + 1) := by
  apply BitVec.eq_of_toNat_eq
  have h0 := fc_le (c % M256) (c / M256) (k + 1)
  unfold shrw cw
  rw [BitVec.toNat_ushiftRight, Nat.shiftRight_eq_div_pow, fs_nat c k hk, BitVec.toNat_ofNat]
  rw [show (2 : Nat) ^ 32 = 4294967296 by rfl, f_carry]
  exact (Nat.mod_eq_of_lt (Nat.lt_of_le_of_lt h0 (by decide))).symm
theorem cw_zero (A B : Nat) : Value.int .u64 0 = .int .u64 (iw (cw A B 0)) := by
  have : cw A B 0 = litw 64 0 := by unfold cw fc; simp [Nat.mod_one]; rfl
  rw [this, iw_zero]
/-- The carry at the end: what stands above 2^256. -/
theorem cw_end (c : Nat) (hc : c < M256 * M256) : cw (c % M256) (c / M256) 8 = BitVec.ofNat 64 (foldV c / M256) := by
  unfold cw fc foldV
  have h1 : c % M256 < M256 := Nat.mod_lt _ (by decide)
  have h2 : c / M256 < M256 := Nat.div_lt_of_lt_mul hc
  have : 2 ^ (32 * 8) = M256 := by rfl
  rw [this, Nat.mod_eq_of_lt h1, Nat.mod_eq_of_lt h2]
/- The second loop: what is above 2^256 goes in, 38 times. -/
def tc (V k : Nat) : BitVec 64 := BitVec.ofNat 64 ((38 * (V / M256) + V % 2 ^ (32 * k)) / 2 ^ (32 * k))
def ts (V k : Nat) : BitVec 64 := addw (tc V k) (castw 64 (N8 V k))
theorem lo_eq (V k : Nat) (hk : k < 8) : V % M256 / 2 ^ (32 * k) % 4294967296 = V / 2 ^ (32 * k) % 4294967296 := by
  rw [← D64_lo V k hk]
  unfold D64
  rw [BitVec.toNat_ofNat]; omega
theorem mod_lo (V k : Nat) (hk : k ≤ 8) : V % M256 % 2 ^ (32 * k) = V % 2 ^ (32 * k) :=
  Nat.mod_mod_of_dvd _ (by
    have : M256 = 2 ^ 256 := by rfl
    rw [this]; exact Nat.pow_dvd_pow 2 (by omega))
theorem tc_le (V k : Nat) (hV : V < 40 * M256) : (38 * (V / M256) + V % 2 ^ (32 * k)) / 2 ^ (32 * k) ≤ 1482 := by
  have hc : V / M256 < 40 := Nat.div_lt_of_lt_mul (by rw [Nat.mul_comm]; exact hV)
  have hq : 0 < 2 ^ (32 * k) := Nat.pow_pos (by decide)
  generalize 2 ^ (32 * k) = q at hq ⊢
  generalize V / M256 = d at hc ⊢
  have h1 := Nat.mod_lt V hq
  have : (38 * d + V % q) / q < 1483 := Nat.div_lt_of_lt_mul (by
    have : 38 * d + V % q < 1482 + q := by omega
    have h3 : 1482 + q ≤ q * 1483 := by
      have := Nat.mul_le_mul_right 1482 hq
      omega
    omega)
  omega
theorem ts_nat (V k : Nat) (hV : V < 40 * M256) : (ts V k).toNat = (38 * (V / M256) + V % 2 ^ (32 * k)) / 2 ^ (32 * k) + V / 2 ^ (32 * k) % 4294967296 := by
  have h0 := tc_le V k hV
  have h1 : (tc V k).toNat = (38 * (V / M256) + V % 2 ^ (32 * k)) / 2 ^ (32 * k) := by
    unfold tc; rw [BitVec.toNat_ofNat]; exact Nat.mod_eq_of_lt (Nat.lt_of_le_of_lt h0 (by decide))
  have h2 : (castw 64 (N8 V k)).toNat = V / 2 ^ (32 * k) % 4294967296 := by
    unfold castw; rw [BitVec.toNat_ofNat, N8_nat]; omega
  unfold ts addw
  rw [BitVec.toNat_add, h1, h2]
  generalize (38 * (V / M256) + V % 2 ^ (32 * k)) / 2 ^ (32 * k) = d at h0 ⊢
  omega
theorem ts_digit (V k : Nat) (hk : k < 8) (hV : V < 40 * M256) : castw 32 (ts V k) = N8 (foldV V) k := by
  apply BitVec.eq_of_toNat_eq
  unfold castw
  rw [BitVec.toNat_ofNat, ts_nat V k hV, N8_nat]
  have hq : 0 < 2 ^ (32 * k) := Nat.pow_pos (by decide)
  have e1 := lo_eq V k hk
  have e2 := mod_lo V k (by omega)
  unfold foldV
  generalize 2 ^ (32 * k) = q at hq e1 e2 ⊢
  have e3 : V % M256 + 38 * (V / M256) = (38 * (V / M256) + V % q) + (V % M256 / q) * q := by
    have := Nat.mod_add_div (V % M256) q
    rw [e2] at this
    rw [Nat.mul_comm (V % M256 / q)]; omega
  rw [e3, Nat.add_mul_div_right _ _ hq]
  generalize (38 * (V / M256) + V % q) / q = d
  omega
theorem ts_carry (V k : Nat) (_hk : k < 8) (hV : V < 40 * M256) : shrw (ts V k) 32 = tc V (k + 1) := by
  apply BitVec.eq_of_toNat_eq
  have h0 := tc_le V (k + 1) hV
  unfold shrw
  rw [BitVec.toNat_ushiftRight, Nat.shiftRight_eq_div_pow, ts_nat V k hV]
  have h1 : (tc V (k + 1)).toNat = (38 * (V / M256) + V % 2 ^ (32 * (k + 1))) / 2 ^ (32 * (k + 1)) := by
    unfold tc; rw [BitVec.toNat_ofNat]; exact Nat.mod_eq_of_lt (Nat.lt_of_le_of_lt h0 (by decide))
  rw [h1, mod_split, Nat.mul_succ 32 k, Nat.pow_add, ← Nat.div_div_eq_div_mul]
  have hq : 0 < 2 ^ (32 * k) := Nat.pow_pos (by decide)
  generalize 2 ^ (32 * k) = q at hq ⊢
  have e : 38 * (V / M256) + (V % q + q * (V / q % 4294967296)) = (38 * (V / M256) + V % q) + (V / q % 4294967296) * q := by
    rw [Nat.mul_comm (V / q % 4294967296)]; omega
  rw [e, Nat.add_mul_div_right _ _ hq]
theorem tc_start (V : Nat) (hV : V < 40 * M256) : mulw (BitVec.ofNat 64 (V / M256)) (litw 64 38) = tc V 0 := by
  apply BitVec.eq_of_toNat_eq
  have hc : V / M256 < 40 := Nat.div_lt_of_lt_mul (by rw [Nat.mul_comm]; exact hV)
  have h4 : (litw 64 38).toNat = 38 := by unfold litw; rfl
  unfold mulw tc
  rw [BitVec.toNat_mul, h4, BitVec.toNat_ofNat, BitVec.toNat_ofNat]
  simp only [Nat.mul_zero, Nat.pow_zero, Nat.mod_one, Nat.div_one, Nat.add_zero]
  generalize V / M256 = d at hc ⊢
  omega
theorem tc_end (V : Nat) : tc V 8 = BitVec.ofNat 64 (foldV V / M256) := by
  unfold tc foldV
  have : 2 ^ (32 * 8) = M256 := by rfl
  rw [this, Nat.add_comm]
theorem foldV_lt (V : Nat) (h : M256 ≤ V) : foldV V < V := by
  have h1 := Nat.mod_add_div V M256
  have h2 : 0 < V / M256 := Nat.div_pos h (by decide)
  unfold foldV
  have h3 : 38 * (V / M256) < M256 * (V / M256) := Nat.mul_lt_mul_of_pos_right (by decide) h2
  omega
end Go.Proofs.Ytjggclhhimccoaa
