/- Texts cut in two: what a Hash has then. -/
import Derived.Test.YtmmijnacgolopaaSbN
namespace Go.Proofs.Ytmmijnacgolopaa
open Go.RowKit
theorem extract_list (t : ByteArray) (a b : Nat) : (t.extract a b).data.toList = (t.data.toList.drop a).take (b - a) := by
  rw [ByteArray.data_extract, Array.toList_extract]
theorem size_list (t : ByteArray) : t.data.toList.length = t.size := by simp
theorem write_cut (t : ByteArray) (q : Nat) : (H0.write (t.data.toList.take q)).write (t.extract q t.size).data.toList = H0.write t.data.toList := by
  rw [← Hs.write_append, extract_list, List.take_of_length_le (l := t.data.toList.drop q) (by rw [List.length_drop, size_list]; omega), List.take_append_drop]
theorem size0 (l : List UInt8) : (H0.write l).size = l.length := by rw [Hs.size_write]; show 0 + _ = _; omega
theorem out_length (H : Hs) : H.out.length = 64 := by simp [Hs.out, asBytes, outB_length]
theorem pick_neg (p : Int) (n : Nat) (h : p < 0) : ∃ q : Nat, -(p + 1).tmod ((n : Int) + 1) = (q : Int) ∧ q ≤ n := by
  have h1 : 0 ≤ -(p + 1) := by omega
  have h2 : -(p + 1).tmod ((n : Int) + 1) = -(p + 1) % ((n : Int) + 1) := by rw [← Int.neg_tmod, Int.tmod_eq_emod_of_nonneg h1]
  have h3 := Int.emod_nonneg (-(p + 1)) (show (n : Int) + 1 ≠ 0 by omega)
  have h4 := Int.emod_lt_of_pos (-(p + 1)) (show 0 < (n : Int) + 1 by omega)
  exact ⟨(-(p + 1) % ((n : Int) + 1)).toNat, by rw [h2]; omega, by omega⟩
theorem pick_pos (p : Int) (n : Nat) (_h : 0 ≤ p) : ∃ q : Nat, p % ((n : Int) + 1) = (q : Int) ∧ q ≤ n := by
  have h3 := Int.emod_nonneg p (show (n : Int) + 1 ≠ 0 by omega)
  have h4 := Int.emod_lt_of_pos p (show 0 < (n : Int) + 1 by omega)
  exact ⟨(p % ((n : Int) + 1)).toNat, by omega, by omega⟩
end Go.Proofs.Ytmmijnacgolopaa
