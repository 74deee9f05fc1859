/- Bits of bytes and digits: what is written, what is read. -/
import Derived.Test.YtbipbkancghkfaaDoorWb
import Derived.Test.YtbipbkancghkfaaDoorWe
import Derived.Test.YtbipbkancghkfaaDoorUc
import Derived.Test.YtbipbkancghkfaaDoorUd
import Derived.Test.YtbipbkancghkfaaDoorUg
namespace Go.Proofs.YtbipbkancghkfaaDoor
open Go.RowKit
theorem textN_congr {n m : Nat} {f g : Nat → Nat} (hn : n = m) (h : ∀ j, j < n → f j = g j) : textN n f = textN m g := by
  subst hn
  unfold textN
  congr 3
  exact List.map_congr_left fun i hi => by rw [h i (List.mem_range.1 hi)]
def bitB (s : ByteArray) : Nat → Nat := bitG (byteS s) 8 s.size
theorem num_byte (s : ByteArray) (m : Nat) : num (bitB s) (m * 8) 8 = byteS s m := by
  unfold bitB
  by_cases hm : m < s.size
  · exact num_group _ 8 _ m hm (byteS_lt s m)
  · rw [byteS_out s m hm]
    exact num_none _ _ _ fun p h1 _ => by rw [bitG_out _ _ _ _ (by decide) (by omega)]
theorem num_bit (s : ByteArray) (p : Nat) : bitB s p % 2 = byteS s (p / 8) / 2 ^ (7 - p % 8) % 2 := by
  have h1 : num (bitB s) (p / 8 * 8) (p % 8 + 1 + (7 - p % 8)) = byteS s (p / 8) := by rw [show p % 8 + 1 + (7 - p % 8) = 8 by omega]; exact num_byte s _
  have h2 := num_div (bitB s) (p / 8 * 8) (p % 8 + 1) (7 - p % 8)
  rw [h1] at h2
  rw [h2]
  unfold num
  rw [show p / 8 * 8 + p % 8 = p by omega]
  omega
/-- Hex. -/
theorem hexS_dig (n : Nat) (h : n < 16) : byteS hexS n = hexD n := by
  have : ∀ i : Fin 16, byteS hexS i.val = hexD i.val := by decide +kernel
  exact this ⟨n, h⟩
theorem hex_text (s : ByteArray) : textN ((s.size * 8 + 4 - 1) / 4) (fun k => byteS hexS (num (bitG (byteS s) 8 s.size) (k * 4) 4)) = hexT s := by
  refine textN_congr (by omega) fun j _ => ?_
  show byteS hexS (num (bitB s) (j * 4) 4) = hexB s j
  rw [hexS_dig _ (num_lt _ _ 4)]
  unfold hexB
  have h8 := num_byte s (j / 2)
  by_cases hj : j % 2 = 0
  · rw [if_pos hj, show j * 4 = j / 2 * 8 by omega, ← h8]
    exact congrArg hexD (num_div (bitB s) _ 4 4).symm
  · rw [if_neg hj, show j * 4 = j / 2 * 8 + 4 by omega, ← h8]
    exact congrArg hexD (num_mod (bitB s) _ 4 4).symm
/-- Base 64. -/
theorem tri3_bits (s : ByteArray) (g : Nat) : num (bitB s) (g * 24) 24 = tri3 s g := by
  have h1 := num_add (bitB s) (g * 24) 8 16
  have h2 := num_add (bitB s) (g * 24 + 8) 8 8
  rw [show g * 24 = 3 * g * 8 by omega, num_byte] at h1
  rw [show g * 24 + 8 = (3 * g + 1) * 8 by omega, num_byte, show (3 * g + 1) * 8 + 8 = (3 * g + 2) * 8 by omega, num_byte] at h2
  rw [show 3 * g * 8 + 8 = (3 * g + 1) * 8 by omega] at h1
  rw [show g * 24 = 3 * g * 8 by omega]
  show num (bitB s) (3 * g * 8) (8 + 16) = _
  rw [h1]
  rw [show num (bitB s) ((3 * g + 1) * 8) 16 = byteS s (3 * g + 1) * 2 ^ 8 + byteS s (3 * g + 2) from h2]
  unfold tri3
  omega
theorem six_bits (s : ByteArray) (j : Nat) : num (bitB s) (j * 6) 6 = six (tri3 s (j / 4)) (j % 4) := by
  have hk : j % 4 < 4 := Nat.mod_lt _ (by decide)
  have h1 := num_div (bitB s) (j / 4 * 24) (6 * (j % 4) + 6) (18 - 6 * (j % 4))
  rw [show 6 * (j % 4) + 6 + (18 - 6 * (j % 4)) = 24 by omega, tri3_bits] at h1
  have h2 := num_mod (bitB s) (j / 4 * 24) (6 * (j % 4)) 6
  unfold six
  rw [h1, show (64 : Nat) = 2 ^ 6 from rfl, h2]
  congr 1
  omega
theorem enc_text (s : ByteArray) : textN ((s.size * 8 + 6 - 1) / 6) (fun k => byteS digT (num (bitG (byteS s) 8 s.size) (k * 6) 6)) ++ textN ((4 - (s.size * 8 + 6 - 1) / 6 % 4) % 4) (fun _ => 61) = e64 s := by
  refine text_same ?_ fun j hj => ?_
  · rw [size_app, textN_size, textN_size, e64_size]
    obtain ⟨q, r, hr, hq⟩ : ∃ q r, r < 3 ∧ s.size = 3 * q + r := ⟨s.size / 3, s.size % 3, Nat.mod_lt _ (by decide), by omega⟩
    rw [hq]
    rcases (show r = 0 ∨ r = 1 ∨ r = 2 by omega) with rfl | rfl | rfl <;> omega
  · rw [size_app, textN_size, textN_size] at hj
    obtain ⟨q, r, hr, hq⟩ : ∃ q r, r < 3 ∧ s.size = 3 * q + r := ⟨s.size / 3, s.size % 3, Nat.mod_lt _ (by decide), by omega⟩
    have hjT : j < (s.size + 2) / 3 * 4 := by
      rw [hq] at hj ⊢
      rcases (show r = 0 ∨ r = 1 ∨ r = 2 by omega) with rfl | rfl | rfl <;> omega
    have hcond : (j < (s.size * 8 + 6 - 1) / 6) ↔ j % 4 < min (s.size - 3 * (j / 4)) 3 + 1 := by
      rw [hq] at hjT ⊢
      rcases (show r = 0 ∨ r = 1 ∨ r = 2 by omega) with rfl | rfl | rfl <;> omega
    rw [byteS_app, textN_size, e64_at s j hjT]
    unfold e64B
    by_cases h1 : j < (s.size * 8 + 6 - 1) / 6
    · rw [if_pos h1, if_pos (hcond.1 h1), byteS_textN _ (fun k => byteS digT (num (bitG (byteS s) 8 s.size) (k * 6) 6)) j h1 (byteS_lt _ _)]
      show byteS digT (num (bitB s) (j * 6) 6) = _
      rw [six_bits, digT_at _ (six_lt _ _)]
    · rw [if_neg h1, if_neg (fun h => h1 (hcond.2 h)), byteS_textN _ _ _ (by omega) (by decide)]
/-- The bits of the text that is read are the digits' bits, where nothing stands behind. -/
theorem read_bits (V : Nat → Nat) (fr n whole T : Nat) (hf : 0 < fr) (hw : whole = n * fr / 8) (hT : T = (n * fr + 8 - 1) / 8) (hz : ∀ k, whole ≤ k → k < T → num (bitG V fr n) (k * 8) 8 = 0) (p : Nat) :
    bitB (textN whole fun k => num (bitG V fr n) (k * 8) 8) p % 2 = bitG V fr n p % 2 := by
  have hb := num_byte (textN whole fun k => num (bitG V fr n) (k * 8) 8) (p / 8)
  by_cases h1 : p / 8 < whole
  · rw [byteS_textN _ _ _ h1 (num_lt _ _ 8)] at hb
    have := num_same' hb (p % 8) (Nat.mod_lt _ (by decide))
    rw [show p / 8 * 8 + p % 8 = p by omega] at this
    exact this
  · have e1 : bitB (textN whole fun k => num (bitG V fr n) (k * 8) 8) p = 0 := bitG_out _ _ _ _ (by decide) (by rw [textN_size]; omega)
    rw [e1]
    by_cases h2 : p / 8 < T
    · have := num_none' _ _ _ (hz (p / 8) (by omega) h2) p (by omega) (by omega)
      omega
    · rw [bitG_out V fr n p hf (by omega)]
end Go.Proofs.YtbipbkancghkfaaDoor
