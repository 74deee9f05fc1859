/- Bytes and back. -/
import Derived.Test.YtjggclhhimccoaaGv
import Derived.Test.YtjggclhhimccoaaGq
namespace Go.Proofs.Ytjggclhhimccoaa
open Go.RowKit
theorem bv_congr {f g : Nat → Nat} : ∀ k, (∀ j, j < k → f j = g j) → bv f k = bv g k
  | 0, _ => rfl
  | k + 1, h => by
    show bv f k + f k * _ = bv g k + g k * _
    rw [bv_congr k (fun j hj => h j (by omega)), h k (by omega)]
theorem asBytes_length (l : List (BitVec 8)) : (asBytes l).length = l.length := by simp [asBytes]
theorem bytesV_size (n : Nat) : (bytesV n).size = 32 := by
  show (bytesV n).data.size = 32
  simp [bytesV, asBytes]
theorem byteS_bytesV (n j : Nat) (hj : j < 32) : byteS (bytesV n) j = byteN n j := by
  unfold byteS
  rw [dif_pos (by rw [bytesV_size]; exact hj)]
  show ((bytesV n).data[j]'_).toNat = _
  simp only [bytesV, asBytes, List.getElem_toArray, List.getElem_map, List.getElem_range]
  show (BitVec.ofNat 8 (byteN n j)).toNat = _
  rw [BitVec.toNat_ofNat]
  exact Nat.mod_eq_of_lt (Nat.mod_lt _ (by decide))
theorem make_bytes {n : Nat} (hn : n < pP) : makeV (bytesV n) = (n, true) := by
  have e : bv (byteS (bytesV n)) 32 = n := by
    rw [bv_congr 32 (fun j hj => byteS_bytesV n j hj), bv_bytes]
    exact Nat.mod_eq_of_lt (Nat.lt_trans hn pP_lt)
  unfold makeV
  rw [if_pos (bytesV_size n), e, if_pos (Nat.mod_eq_of_lt hn)]
theorem bytes_bv_S (s : ByteArray) (h : s.size = 32) : bytesV (bv (byteS s) 32) = s := by
  have hd : (bytesV (bv (byteS s) 32)).data = s.data := by
    apply Array.ext
    · show (bytesV _).size = s.size; rw [bytesV_size, h]
    · intro i h1 h2
      have hi : i < 32 := by rw [← h]; exact h2
      simp only [bytesV, asBytes, List.getElem_toArray, List.getElem_map, List.getElem_range]
      rw [bytes_bv _ (byteS_lt s) i 32 hi]
      unfold byteS
      rw [dif_pos (show i < s.size from h2)]
      apply UInt8.toNat_inj.1
      show (BitVec.ofNat 8 ((s[i]'h2).toNat)).toNat = _
      rw [BitVec.toNat_ofNat]
      exact Nat.mod_eq_of_lt (UInt8.toNat_lt _)
  cases s; cases hb : bytesV _; simp_all
theorem bytes_make {s : ByteArray} {y : Nat} (h : makeV s = (y, true)) : bytesV (y % pP) = s ∧ y < M256 := by
  unfold makeV at h
  by_cases h1 : s.size = 32
  · rw [if_pos h1] at h
    by_cases h2 : bv (byteS s) 32 % pP = bv (byteS s) 32
    · rw [if_pos h2] at h
      have := congrArg Prod.fst h
      simp only at this
      subst this
      rw [h2]
      exact ⟨bytes_bv_S s h1, bv_ltM s⟩
    · rw [if_neg h2] at h; cases h
  · rw [if_neg h1] at h; cases h
theorem make_no {s : ByteArray} (h : (makeV s).2 = false) : makeV s = (0, false) := by
  unfold makeV at h ⊢
  by_cases h1 : s.size = 32
  · rw [if_pos h1] at h ⊢
    by_cases h2 : bv (byteS s) 32 % pP = bv (byteS s) 32
    · rw [if_pos h2] at h; cases h
    · rw [if_neg h2]
  · rw [if_neg h1]
theorem fmake_is (s : ByteArray) (y : Nat) (b : Bool) (w : World) (h : makeV s = (y, b)) :
    Calls Try.prog 20 #[.string s] w fun e w' => e = .returned (.tuple #[.agg (r64 4 (F4 y)), .bool b]) ∧ Below w.heap.size w w' := by
  have := fmake_any s w
  rw [h] at this; exact this
theorem fbytes_is (a : Nat) (s : ByteArray) (w : World) (ha : a < M256) (h : bytesV (a % pP) = s) :
    Calls Try.prog 26 #[.agg (r64 4 (F4 a))] w fun e w' => e = .returned (.string s) ∧ Below w.heap.size w w' := by
  have := fbytes_any a w ha
  rw [h] at this; exact this
end Go.Proofs.Ytjggclhhimccoaa
