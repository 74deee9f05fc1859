/- The document's answer to chapter 2: its pieces joined. -/
import Derived.Test.YtmmijnacgolopaaRb4
import Derived.Test.YtmmijnacgolopaaRb1
namespace Go.Proofs.Ytmmijnacgolopaa
open Go.RowKit
def eightB (x : BitVec 64) : ByteArray := ⟨(asBytes (eight x)).toArray⟩
theorem bS_extract (T : ByteArray) (m e i : Nat) (hi : i < e - m) (_he : e ≤ T.size) : bS (T.extract m e) i = bS T (m + i) := by
  rw [bS_bL, bS_bL]
  unfold bL
  congr 1
  rw [List.getD_eq_getElem?_getD, List.getD_eq_getElem?_getD]
  simp [ByteArray.data_extract, hi]
theorem cat_eight (l : List UInt8) (x : BitVec 64) : (⟨l.toArray⟩ : ByteArray) ++ eightB x = ⟨(l ++ asBytes (eight x)).toArray⟩ := by
  apply ByteArray.ext
  simp [eightB]
theorem sum_eq (S : S8) : eightB S.a ++ eightB S.b ++ eightB S.c ++ eightB S.d ++ eightB S.e ++ eightB S.f ++ eightB S.g ++ eightB S.h = ⟨(asBytes (s8B S)).toArray⟩ := by
  have : eightB S.a = ⟨(asBytes (eight S.a)).toArray⟩ := rfl
  rw [this, cat_eight, cat_eight, cat_eight, cat_eight, cat_eight, cat_eight, cat_eight]
  simp [s8B, asBytes]
theorem ref_eq (s T : ByteArray) (S : S8) (h : T.data.toList = padded s.data.toList) (hS : foldB (bS T) (T.size / 128) = S) :
    (⟨(asBytes (s8B S)).toArray⟩ : ByteArray) = ⟨(refSum s.data.toList).toArray⟩ := by
  subst hS
  have hl : T.size = (padded s.data.toList).length := by rw [← h]; simp
  unfold refSum
  rw [bS_bL, h, hl]
theorem u128 : UInt8.ofBitVec (litw 8 128) = 128 := by kernel_rfl
theorem u0 : UInt8.ofBitVec (litw 8 0) = 0 := by kernel_rfl
theorem pad_eq (n : Nat) : padding n = (128 :: List.replicate (zeros n) 0) ++ asBytes (eight (hiW n)) ++ asBytes (eight (loW n)) := by
  unfold padding padB asBytes
  rw [List.map_append, List.map_append, List.map_cons, List.map_replicate, u128, u0]
theorem eightB_size (x : BitVec 64) : (eightB x).size = 8 := by
  show (asBytes (eight x)).toArray.size = 8
  simp [asBytes, eight_length]
theorem eightB_add (G : ByteArray) (x : BitVec 64) : (G ++ eightB x).size = G.size + 8 := by rw [ByteArray.size_append, eightB_size]
theorem eightB_data (x : BitVec 64) : (eightB x).data.toList = asBytes (eight x) := by unfold eightB; simp
theorem s8_size (s : S8) : (s8v s).size = 8 := rfl
theorem reightB_any (x : BitVec 64) (w : World) :
    Calls Try.prog 16 #[.int .u64 (iw x)] w fun e w' => e = .returned (.string (eightB x)) ∧ Below w.heap.size w w' := reight_any x w
end Go.Proofs.Ytmmijnacgolopaa
