/- Numbers of 256 bits as digits and words. -/
import Derived.Test.YtmmkmbinmmfblaaRows2
import Derived.Test.YtmmkmbinmmfblaaWords
namespace Go.Proofs.Ytmmkmbinmmfblaa
open Go.RowKit
abbrev r32 (n : Nat) (f : Nat → BitVec 32) : Array Value := row n fun i => Value.int .u32 (iw (f i))
abbrev r64 (n : Nat) (f : Nat → BitVec 64) : Array Value := row n fun i => Value.int .u64 (iw (f i))
theorem below_draws {B : Nat} {w0 w : World} (h : Below B w0 w) (n : Nat) : Below B w0 (w.drewN n) := ⟨h.os, h.tape, h.output, h.size, h.block⟩
/-- The digits of 32 bits, the words of 64 bits of a number. -/
def N8 (a i : Nat) : BitVec 32 := BitVec.ofNat 32 (a / 2 ^ (32 * i))
def F4 (a i : Nat) : BitVec 64 := BitVec.ofNat 64 (a / 2 ^ (64 * i))
def M256 : Nat := 115792089237316195423570985008687907853269984665640564039457584007913129639936
def pP : Nat := 57896044618658097711785492504343953926634992332820282019728792003956564819949
theorem N8_nat (a i : Nat) : (N8 a i).toNat = a / 2 ^ (32 * i) % 4294967296 := by unfold N8; rw [BitVec.toNat_ofNat]
theorem F4_nat (a i : Nat) : (F4 a i).toNat = a / 2 ^ (64 * i) % 18446744073709551616 := by unfold F4; rw [BitVec.toNat_ofNat]
/-- Has a - b, of the first k digits, borrowed? -/
def bw (a b k : Nat) : BitVec 64 := BitVec.ofNat 64 (if a % 2 ^ (32 * k) < b % 2 ^ (32 * k) then 1 else 0)
def mx (a b k : Nat) : BitVec 64 := subw (subw (addw (castw 64 (N8 a k)) (litw 64 4294967296)) (castw 64 (N8 b k))) (bw a b k)
theorem mx_nat (a b k : Nat) : (mx a b k).toNat = a / 2 ^ (32 * k) % 4294967296 + 4294967296 - b / 2 ^ (32 * k) % 4294967296 - (if a % 2 ^ (32 * k) < b % 2 ^ (32 * k) then 1 else 0) := by
  have h1 : (castw 64 (N8 a k)).toNat = a / 2 ^ (32 * k) % 4294967296 := by
    unfold castw; rw [BitVec.toNat_ofNat, N8_nat]; omega
  have h2 : (castw 64 (N8 b k)).toNat = b / 2 ^ (32 * k) % 4294967296 := by
    unfold castw; rw [BitVec.toNat_ofNat, N8_nat]; omega
  have h3 : (bw a b k).toNat = (if a % 2 ^ (32 * k) < b % 2 ^ (32 * k) then 1 else 0) := by
    unfold bw; rw [BitVec.toNat_ofNat]; split <;> rfl
  have h4 : (litw 64 4294967296).toNat = 4294967296 := by unfold litw; rfl
  unfold mx subw addw
  rw [BitVec.toNat_sub, BitVec.toNat_sub, BitVec.toNat_add, h1, h2, h3, h4]
  split <;> omega
theorem mx_digit (a b k : Nat) (hk : k < 8) (ha : a < M256) (hb : b < M256) : castw 32 (mx a b k) = N8 (a + M256 - b) k := by
  apply BitVec.eq_of_toNat_eq
  unfold castw
  rw [BitVec.toNat_ofNat, mx_nat, N8_nat]
  unfold M256 at *
  match k, hk with
  | 0, _ => simp only [Nat.reduceMul, Nat.reducePow]; split <;> omega
  | 1, _ => simp only [Nat.reduceMul, Nat.reducePow]; split <;> omega
  | 2, _ => simp only [Nat.reduceMul, Nat.reducePow]; split <;> omega
  | 3, _ => simp only [Nat.reduceMul, Nat.reducePow]; split <;> omega
  | 4, _ => simp only [Nat.reduceMul, Nat.reducePow]; split <;> omega
  | 5, _ => simp only [Nat.reduceMul, Nat.reducePow]; split <;> omega
  | 6, _ => simp only [Nat.reduceMul, Nat.reducePow]; split <;> omega
  | 7, _ => simp only [Nat.reduceMul, Nat.reducePow]; split <;> omega
theorem mx_borrow (a b k : Nat) (hk : k < 8) : subw (litw 64 1) (shrw (mx a b k) 32) = bw a b (k + 1) := by
  apply BitVec.eq_of_toNat_eq
  have h4 : (litw 64 1).toNat = 1 := by unfold litw; rfl
  unfold subw shrw bw
  rw [BitVec.toNat_sub, BitVec.toNat_ushiftRight, Nat.shiftRight_eq_div_pow, mx_nat, h4, BitVec.toNat_ofNat]
  match k, hk with
  | 0, _ => simp only [Nat.mul_zero, Nat.pow_zero, Nat.div_one, Nat.mod_one, Nat.reduceAdd, Nat.reduceMul, Nat.reducePow]; split <;> split <;> omega
  | 1, _ => simp only [Nat.reduceMul, Nat.reduceAdd, Nat.reducePow]; split <;> split <;> omega
  | 2, _ => simp only [Nat.reduceMul, Nat.reduceAdd, Nat.reducePow]; split <;> split <;> omega
  | 3, _ => simp only [Nat.reduceMul, Nat.reduceAdd, Nat.reducePow]; split <;> split <;> omega
  | 4, _ => simp only [Nat.reduceMul, Nat.reduceAdd, Nat.reducePow]; split <;> split <;> omega
  | 5, _ => simp only [Nat.reduceMul, Nat.reduceAdd, Nat.reducePow]; split <;> split <;> omega
  | 6, _ => simp only [Nat.reduceMul, Nat.reduceAdd, Nat.reducePow]; split <;> split <;> omega
  | 7, _ => simp only [Nat.reduceMul, Nat.reduceAdd, Nat.reducePow]; split <;> split <;> omega
end Go.Proofs.Ytmmkmbinmmfblaa
