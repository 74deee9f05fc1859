/- Texts by the numbers of their bytes. -/
import Derived.Test.YtmmkmbinmmfblaaBv
namespace Go.Proofs.Ytmmkmbinmmfblaa
open Go.RowKit
/-- n bytes by their numbers. -/
def textN (n : Nat) (f : Nat → Nat) : ByteArray := ⟨(asBytes ((List.range n).map fun i => BitVec.ofNat 8 (f i))).toArray⟩
theorem textN_size (n : Nat) (f : Nat → Nat) : (textN n f).size = n := by
  show Array.size _ = n
  simp [asBytes]
theorem byteS_textN (n : Nat) (f : Nat → Nat) (j : Nat) (hj : j < n) (hf : f j < 256) : byteS (textN n f) j = f j := by
  unfold byteS
  rw [dif_pos (by rw [textN_size]; exact hj)]
  have : (textN n f)[j]'(by rw [textN_size]; exact hj) = UInt8.ofBitVec (BitVec.ofNat 8 (f j)) := by
    have hl : j < (asBytes ((List.range n).map fun i => BitVec.ofNat 8 (f i))).toArray.size := by simp [asBytes]; exact hj
    show (asBytes ((List.range n).map fun i => BitVec.ofNat 8 (f i))).toArray[j]'hl = _
    simp [asBytes]
  rw [this]
  show (BitVec.ofNat 8 (f j)).toNat = _
  rw [BitVec.toNat_ofNat, Nat.mod_eq_of_lt (show f j < 2 ^ 8 by omega)]
theorem byteS_ext (s : ByteArray) (a b j : Nat) (hb : b ≤ s.size) (hj : a + j < b) : byteS (s.extract a b) j = byteS s (a + j) := by
  unfold byteS
  have h1 : j < (s.extract a b).size := by rw [ByteArray.size_extract]; omega
  rw [dif_pos h1, dif_pos (by omega), ByteArray.getElem_extract]
/-- Two texts of the same bytes are one. -/
theorem text_same {a b : ByteArray} (hs : a.size = b.size) (h : ∀ j, j < a.size → byteS a j = byteS b j) : a = b := by
  have hd : a.data = b.data := by
    apply Array.ext
    · exact hs
    · intro i h1 h2
      have e := h i h1
      have h1' : i < a.size := h1
      have h2' : i < b.size := h2
      unfold byteS at e
      rw [dif_pos h1', dif_pos h2'] at e
      exact UInt8.toNat_inj.1 e
  cases a; cases b
  exact congrArg ByteArray.mk hd
theorem textN_is {a : ByteArray} {n : Nat} {f : Nat → Nat} (hs : a.size = n) (h : ∀ j, j < n → f j = byteS a j) : textN n f = a :=
  text_same (by rw [textN_size, hs]) fun j hj => by
    rw [textN_size] at hj
    rw [byteS_textN n f j hj (by rw [h j hj]; exact byteS_lt _ _), h j hj]
theorem size_app (a b : ByteArray) : (a ++ b).size = a.size + b.size := by simp
theorem byteS_app (a b : ByteArray) (j : Nat) : byteS (a ++ b) j = if j < a.size then byteS a j else byteS b (j - a.size) := by
  unfold byteS
  have hs := size_app a b
  by_cases h1 : j < a.size
  · rw [if_pos h1, dif_pos (by omega), dif_pos h1]
    congr 1
    exact ByteArray.getElem_append_left h1
  · rw [if_neg h1]
    by_cases h2 : j - a.size < b.size
    · rw [dif_pos (by omega), dif_pos h2]
      congr 1
      exact ByteArray.getElem_append_right (by omega)
    · rw [dif_neg (by omega), dif_neg h2]
/-- One byte ahead. -/
theorem textN_ahead (n z : Nat) (f g : Nat → Nat) (hz : z < 256) (hf : ∀ j, f j < 256) (h0 : g 0 = z) (h : ∀ j, j < n → g (j + 1) = f j) : textN 1 (fun _ => z) ++ textN n f = textN (n + 1) g := by
  refine (textN_is (by rw [size_app, textN_size, textN_size]; omega) fun j hj => ?_).symm
  rw [byteS_app, textN_size]
  by_cases h1 : j < 1
  · rw [if_pos h1, byteS_textN _ _ _ h1 hz, show j = 0 by omega, h0]
  · rw [if_neg h1, byteS_textN _ _ _ (by omega) (hf _), ← h (j - 1) (by omega), show j - 1 + 1 = j by omega]
end Go.Proofs.Ytmmkmbinmmfblaa
