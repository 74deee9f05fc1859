/- The numbers of texts: what the laws without the reference stand on. -/
import Derived.Test.YtnfcgpoafmmioaaScalarReckons
namespace Go.Proofs.Ytnfcgpoafmmioaa
open Go.RowKit
theorem bytesV_byte (n j : Nat) (hj : j < 32) : byteS (bytesV n) j = byteK n j := by
  unfold byteS
  rw [dif_pos (by rw [bytesV_size]; exact hj)]
  show ((bytesV n).data[j]'_).toNat = _
  simp only [bytesV, asBytes, List.getElem_toArray, List.getElem_map, List.getElem_range]
  show (BitVec.ofNat 8 (byteK n j)).toNat = _
  rw [BitVec.toNat_ofNat]
  exact Nat.mod_eq_of_lt (byteK_lt _ _)
theorem numV_bytesV (n m : Nat) (hm : 32 ≤ m) (h : n < M256) : numV (bytesV n) m = n := by
  unfold numV
  rw [bytesV_size, show min 32 m = 32 by omega, bv_congr 32 (fun j hj => bytesV_byte n j hj), bv_bytes]
  exact Nat.mod_eq_of_lt h
theorem qL_M : qL < M256 := by decide
theorem mod_M (n : Nat) : n % qL < M256 := Nat.lt_trans (Nat.mod_lt _ (by decide)) qL_M
theorem numV_short (s : ByteArray) (m m' : Nat) (h : s.size ≤ m) (h' : s.size ≤ m') : numV s m = numV s m' := by
  unfold numV; rw [show min s.size m = min s.size m' by omega]
theorem redV_short (s : ByteArray) (h : s.size ≤ 32) : redV s = bytesV (numV s 32 % qL) := by
  unfold redV; rw [numV_short s 64 32 (by omega) h]
theorem redV_bytesV (n : Nat) (h : n < M256) : redV (bytesV n) = bytesV (n % qL) := by
  unfold redV; rw [numV_bytesV n 64 (by omega) h]
theorem redV_red (n : Nat) : redV (bytesV (n % qL)) = bytesV (n % qL) := by
  rw [redV_bytesV _ (mod_M n), Nat.mod_mod]
theorem numV_one : numV ⟨#[1]⟩ 32 = 1 := by decide +kernel
theorem numV_none : numV ⟨#[]⟩ 32 = 0 := by decide +kernel
theorem maV_turn (a b c : ByteArray) : maV b a c = maV a b c := by unfold maV; rw [Nat.mul_comm]
theorem maV_red (a b c : ByteArray) (ha : a.size ≤ 32) (hb : b.size ≤ 32) (hc : c.size ≤ 32) : maV (redV a) (redV b) (redV c) = maV a b c := by
  unfold maV
  rw [redV_short a ha, redV_short b hb, redV_short c hc, numV_bytesV _ 32 (by omega) (mod_M _), numV_bytesV _ 32 (by omega) (mod_M _), numV_bytesV _ 32 (by omega) (mod_M _)]
  rw [Nat.add_mod (_ * _), ← Nat.mul_mod, Nat.mod_mod, ← Nat.add_mod]
theorem maV_order (a : ByteArray) (ha : a.size ≤ 32) : maV a ⟨#[1]⟩ (bytesV qL) = redV a := by
  unfold maV
  rw [redV_short a ha, numV_bytesV _ 32 (by omega) qL_M, numV_one, Nat.mul_one, Nat.add_mod_right]
theorem maV_none (a c : ByteArray) (hc : c.size ≤ 32) : maV a ⟨#[]⟩ c = redV c := by
  unfold maV
  rw [redV_short c hc, numV_none, Nat.mul_zero, Nat.zero_add]
end Go.Proofs.Ytnfcgpoafmmioaa
