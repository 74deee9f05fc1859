/- Layer 6 in numbers: what Public and Sign answer. -/
import Derived.Test.YtggalphgnloneaaGreatM2
import Derived.Test.YtggalphgnloneaaGreatM4
import Derived.Test.YtggalphgnloneaaGreatQx
import Derived.Test.YtggalphgnloneaaGreatQu
import Derived.Test.YtggalphgnloneaaGreatQB
namespace Go.Proofs.YtggalphgnloneaaGreat
open Go.RowKit
/-- A text's bytes. -/
def lB (s : ByteArray) : List UInt8 := s.data.toList
theorem lB_append (a b : ByteArray) : lB (a ++ b) = lB a ++ lB b := by unfold lB; rw [ByteArray.data_append, Array.toList_append]
theorem lB_length (a : ByteArray) : (lB a).length = a.size := by simp [lB]
/-- The sum of some bytes. -/
def sumV (l : List UInt8) : ByteArray := ⟨(L2.H0.write l).out.toArray⟩
theorem sumV_size (l : List UInt8) : (sumV l).size = 64 := by
  show (L2.Hs.out _).toArray.size = 64
  simp [L2.Hs.out, asBytes, L2.outB_length]
/-- A seed's number, and the other half. -/
def numS (s : ByteArray) : ByteArray := (L4.clampV ((sumV (lB s)).extract 0 32)).1
def preS (s : ByteArray) : ByteArray := (sumV (lB s)).extract 32 64
/-- The bytes of the base, as often as a text's number says. -/
def tbV (n : ByteArray) : ByteArray := bytesV (encN (pmul bP (numV n 32)))
def publicV (s : ByteArray) : ByteArray := tbV (numS s)
def rS (s t : ByteArray) : ByteArray := L4.redV (sumV (lB (preS s) ++ lB t))
def kS (a b t : ByteArray) : ByteArray := L4.redV (sumV (lB a ++ lB b ++ lB t))
def firstS (s t : ByteArray) : ByteArray := tbV (rS s t)
def secondS (s t : ByteArray) : ByteArray := L4.maV (kS (firstS s t) (publicV s) t) (numS s) (rS s t)
def signV (s t : ByteArray) : ByteArray := firstS s t ++ secondS s t
/-- What Public and Sign answer. -/
def pubA (s : ByteArray) : ByteArray × Bool := if s.size = 32 then (publicV s, true) else (⟨#[]⟩, false)
def sigA (s t : ByteArray) : ByteArray × Bool := if s.size = 32 then (signV s t, true) else (⟨#[]⟩, false)
theorem numV_bytesV {n m : Nat} (hm : 32 ≤ m) (h : n < 2 ^ (8 * 32)) : numV (bytesV n) m = n := by
  unfold numV
  rw [bytesV_size, Nat.min_eq_left hm, bv_congr 32 (fun j hj => byteS_bytesV n j hj), bv_bytes]
  exact Nat.mod_eq_of_lt h
theorem qL_M : qL < 2 ^ (8 * 32) := by decide
theorem redV_bytesV {n : Nat} (h : n < 2 ^ (8 * 32)) : L4.redV (bytesV n) = bytesV (n % qL) := by
  unfold L4.redV; rw [numV_bytesV (by decide) h]
theorem redV_size (s : ByteArray) : (L4.redV s).size = 32 := bytesV_size _
theorem maV_size (a b c : ByteArray) : (L4.maV a b c).size = 32 := bytesV_size _
theorem tbV_size (n : ByteArray) : (tbV n).size = 32 := bytesV_size _
theorem firstS_size (s t : ByteArray) : (firstS s t).size = 32 := bytesV_size _
theorem secondS_size (s t : ByteArray) : (secondS s t).size = 32 := bytesV_size _
theorem publicV_size (s : ByteArray) : (publicV s).size = 32 := bytesV_size _
theorem signV_size (s t : ByteArray) : (signV s t).size = 64 := by
  unfold signV; rw [size_append, firstS_size, secondS_size]
theorem preS_size (s : ByteArray) : (preS s).size = 32 := by unfold preS; rw [ByteArray.size_extract, sumV_size]; rfl
theorem half_size (s : ByteArray) : ((sumV (lB s)).extract 0 32).size = 32 := by rw [ByteArray.size_extract, sumV_size]; rfl
theorem app_first (a b : ByteArray) (ha : a.size = 32) : (a ++ b).extract 0 32 = a := by
  rw [← ha]; exact ByteArray.extract_append_eq_left rfl
theorem app_second (a b : ByteArray) (ha : a.size = 32) (hb : b.size = 32) : (a ++ b).extract 32 64 = b := by
  have h := @ByteArray.extract_append_eq_right a b (a.size) (a.size + b.size) rfl rfl
  rw [ha, hb] at h; exact h
theorem sign_first (s t : ByteArray) : (signV s t).extract 0 32 = firstS s t := app_first _ _ (firstS_size s t)
theorem sign_second (s t : ByteArray) : (signV s t).extract 32 64 = secondS s t := app_second _ _ (firstS_size s t) (secondS_size s t)
theorem second_lt (a b c : ByteArray) : (numV a 32 * numV b 32 + numV c 32) % qL < qL := Nat.mod_lt _ (by decide)
theorem ma_num (a b c : ByteArray) : numV (L4.maV a b c) 32 = (numV a 32 * numV b 32 + numV c 32) % qL :=
  numV_bytesV (by decide) (Nat.lt_trans (second_lt a b c) qL_M)
theorem ma_right (a b c : ByteArray) : L4.redV (L4.maV a b c) = L4.maV a b c := by
  show L4.redV (bytesV _) = bytesV _
  rw [redV_bytesV (Nat.lt_trans (second_lt a b c) qL_M), Nat.mod_mod]
end Go.Proofs.YtggalphgnloneaaGreat
