/- The document's answer to chapter 1: its pieces joined. -/
import Derived.Test.YtmpklbjbdnocoaaRef4
namespace Go.Proofs.Ytmpklbjbdnocoaa
open Go.RowKit
def fourB (x : BitVec 32) : ByteArray := ⟨(asBytes (four x)).toArray⟩
theorem bS_bL (T : ByteArray) : bS T = bL T.data.toList := by
  funext i
  unfold bS bL
  rw [List.getD_eq_getElem?_getD]
  congr 1
  by_cases h : i < T.size
  · rw [getElem?_pos T i h]
    have : T.data.toList[i]? = some T.data[i] := by simp
    rw [this]; rfl
  · rw [getElem?_neg T i h, List.getElem?_eq_none (by simpa using h)]
theorem bS_extract (T : ByteArray) (m e i : Nat) (hi : i < e - m) (_he : e ≤ T.size) : bS (T.extract m e) i = bS T (m + i) := by
  rw [bS_bL, bS_bL]
  unfold bL
  congr 1
  rw [List.getD_eq_getElem?_getD, List.getD_eq_getElem?_getD]
  simp [ByteArray.data_extract, hi]
theorem cat_four (l : List UInt8) (x : BitVec 32) : (⟨l.toArray⟩ : ByteArray) ++ fourB x = ⟨(l ++ asBytes (four x)).toArray⟩ := by
  apply ByteArray.ext
  simp [fourB]
theorem sum_eq (S : S8) : fourB S.a ++ fourB S.b ++ fourB S.c ++ fourB S.d ++ fourB S.e ++ fourB S.f ++ fourB S.g ++ fourB S.h = ⟨(asBytes (s8B S)).toArray⟩ := by
  have : fourB S.a = ⟨(asBytes (four S.a)).toArray⟩ := rfl
  rw [this, cat_four, cat_four, cat_four, cat_four, cat_four, cat_four, cat_four]
  simp [s8B, asBytes]
theorem ref_eq (s T : ByteArray) (S : S8) (h : T.data.toList = padded s.data.toList) (hS : foldB (bS T) (T.size / 64) = S) :
    (⟨(asBytes (s8B S)).toArray⟩ : ByteArray) = ⟨(refSum s.data.toList).toArray⟩ := by
  subst hS
  have hl : T.size = (padded s.data.toList).length := by rw [← h]; simp
  unfold refSum
  rw [bS_bL, h, hl]
def hiW (n : Nat) : BitVec 32 := BitVec.ofNat 32 (8 * n / 4294967296)
def loW (n : Nat) : BitVec 32 := BitVec.ofNat 32 (8 * n)
theorem byte_of (x : BitVec 32) (k n m : Nat) (h : x.toNat / 2 ^ k % 256 = n * 8 / 2 ^ m % 256) : UInt8.ofBitVec (castw 8 (shrw x k)) = UInt8.ofNat (n * 8 / 2 ^ m) := by
  apply UInt8.toNat_inj.1
  unfold castw shrw
  rw [UInt8.toNat_ofNat']
  simp only [UInt8.toNat_ofBitVec, BitVec.toNat_ofNat, BitVec.toNat_ushiftRight, Nat.shiftRight_eq_div_pow]
  omega
theorem byte_of0 (x : BitVec 32) (n m : Nat) (h : x.toNat % 256 = n * 8 / 2 ^ m % 256) : UInt8.ofBitVec (castw 8 x) = UInt8.ofNat (n * 8 / 2 ^ m) := by
  apply UInt8.toNat_inj.1
  unfold castw
  rw [UInt8.toNat_ofNat']
  simp only [UInt8.toNat_ofBitVec, BitVec.toNat_ofNat]
  omega
theorem lenBytes_eq (n : Nat) : asBytes (four (hiW n)) ++ asBytes (four (loW n)) = lenBytes n 8 := by
  have hh : (hiW n).toNat = 8 * n / 4294967296 % 4294967296 := by unfold hiW; simp [BitVec.toNat_ofNat]
  have hl : (loW n).toNat = 8 * n % 4294967296 := by unfold loW; simp [BitVec.toNat_ofNat]
  have e : lenBytes n 8 = [lenByte n 0, lenByte n 1, lenByte n 2, lenByte n 3, lenByte n 4, lenByte n 5, lenByte n 6, lenByte n 7] := rfl
  rw [e]
  show [UInt8.ofBitVec (castw 8 (shrw (hiW n) 24)), UInt8.ofBitVec (castw 8 (shrw (hiW n) 16)), UInt8.ofBitVec (castw 8 (shrw (hiW n) 8)), UInt8.ofBitVec (castw 8 (hiW n)), UInt8.ofBitVec (castw 8 (shrw (loW n) 24)), UInt8.ofBitVec (castw 8 (shrw (loW n) 16)), UInt8.ofBitVec (castw 8 (shrw (loW n) 8)), UInt8.ofBitVec (castw 8 (loW n))] = _
  unfold lenByte
  rw [byte_of _ 24 n (56 - 8 * 0) (by rw [hh]; omega), byte_of _ 16 n (56 - 8 * 1) (by rw [hh]; omega), byte_of _ 8 n (56 - 8 * 2) (by rw [hh]; omega), byte_of0 _ n (56 - 8 * 3) (by rw [hh]; omega),
    byte_of _ 24 n (56 - 8 * 4) (by rw [hl]; omega), byte_of _ 16 n (56 - 8 * 5) (by rw [hl]; omega), byte_of _ 8 n (56 - 8 * 6) (by rw [hl]; omega), byte_of0 _ n (56 - 8 * 7) (by rw [hl]; omega)]
theorem fourB_size (x : BitVec 32) : (fourB x).size = 4 := rfl
theorem fourB_add (G : ByteArray) (x : BitVec 32) : (G ++ fourB x).size = G.size + 4 := by rw [ByteArray.size_append, fourB_size]
theorem fourB_data (x : BitVec 32) : (fourB x).data.toList = asBytes (four x) := by unfold fourB; simp
theorem s8_size (s : S8) : (s8v s).size = 8 := rfl
theorem rfourB_any (x : BitVec 32) (w : World) :
    Calls Try.prog 17 #[.int .u32 (iw x)] w fun e w' => e = .returned (.string (fourB x)) ∧ Below w.heap.size w w' := rfour_any x w
end Go.Proofs.Ytmpklbjbdnocoaa
