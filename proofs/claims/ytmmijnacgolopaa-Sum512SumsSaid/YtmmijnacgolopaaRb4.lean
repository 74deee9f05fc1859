/- The document's answer to chapter 2: One; and that a text written piece by piece has that sum. -/
import Derived.Test.YtmmijnacgolopaaRb5
import Derived.Test.YtmmijnacgolopaaSbg
import Derived.Deep.LoopGhost
namespace Go.Proofs.Ytmmijnacgolopaa
open Go.RowKit
def iv : S8 := S8.of firstC
/-- The blocks' sum: the first k blocks of the text. -/
def foldB (f : Nat → BitVec 8) : Nat → S8
  | 0 => iv
  | k + 1 => blockS (foldB f k) fun i => f (128 * k + i)
def s8B (s : S8) : List (BitVec 8) := eight s.a ++ eight s.b ++ eight s.c ++ eight s.d ++ eight s.e ++ eight s.f ++ eight s.g ++ eight s.h
def padded (l : List UInt8) : List UInt8 := l ++ padding l.length
def refSum (l : List UInt8) : List UInt8 := asBytes (s8B (foldB (bL (padded l)) ((padded l).length / 128)))

/- Piece by piece: the state behind a text is the sum of its whole blocks; the block holds the rest. -/
structure Upto (l : List UInt8) (H : Hs) : Prop where
  keys : H.keys = keysC
  size : H.size = l.length
  state : ∀ i, i < 8 → H.state i = (foldB (bL l) (l.length / 128)).at i
  block : ∀ i, i < l.length % 128 → H.block i = bL l (128 * (l.length / 128) + i)
theorem bL_append {l m : List UInt8} {i : Nat} (h : i < l.length) : bL (l ++ m) i = bL l i := by
  unfold bL; rw [List.getD_eq_getElem?_getD, List.getD_eq_getElem?_getD, List.getElem?_append_left h]
theorem acc_congr {f g : Nat → BitVec 8} {k : Nat} (h : ∀ i, i < 128 → f i = g i) (hk : k < 16) : ∀ t, t ≤ 8 → acc f k t = acc g k t
  | 0, _ => rfl
  | t + 1, ht => by
    simp only [acc]
    rw [acc_congr h hk t (by omega), h (8 * k + t) (by omega)]
theorem wd_congr {f g : Nat → BitVec 8} {k : Nat} (h : ∀ i, i < 128 → f i = g i) (hk : k < 16) : wd f k = wd g k := acc_congr h hk 8 (by omega)
theorem schd_congr {f g : Nat → BitVec 8} (h : ∀ i, i < 128 → f i = g i) : ∀ n j, schd f n j = schd g n j
  | 0, j => by
    simp only [schd]
    by_cases hj : j < 16
    · rw [if_pos hj, if_pos hj, wd_congr h hj]
    · rw [if_neg hj, if_neg hj]
  | n + 1, j => by
    simp only [schd]
    by_cases hj : j = 16 + n
    · rw [if_pos hj, if_pos hj]; unfold nextw; simp only [schd_congr h n]
    · rw [if_neg hj, if_neg hj, schd_congr h n]
theorem blockS_congr {f g : Nat → BitVec 8} (h : ∀ i, i < 128 → f i = g i) (s : S8) : blockS s f = blockS s g := by
  have : schd f 64 = schd g 64 := funext fun j => schd_congr h 64 j
  unfold blockS; rw [this]
theorem foldB_congr {f g : Nat → BitVec 8} : ∀ k, (∀ i, i < 128 * k → f i = g i) → foldB f k = foldB g k
  | 0, _ => rfl
  | k + 1, h => by
    show blockS (foldB f k) _ = blockS (foldB g k) _
    rw [foldB_congr k fun i hi => h i (by omega)]
    exact blockS_congr (fun i hi => h _ (by omega)) _
theorem addS_at (s n : S8) (i : Nat) : (addS s n).at i = addw (s.at i) (n.at i) := by
  match i with
  | 0 => rfl
  | 1 => rfl
  | 2 => rfl
  | 3 => rfl
  | 4 => rfl
  | 5 => rfl
  | 6 => rfl
  | _ + 7 => rfl
theorem S8.of_at (f : Nat → BitVec 64) (s : S8) (h : ∀ i, i < 8 → f i = s.at i) : S8.of f = s := by
  unfold S8.of; rw [h 0 (by omega), h 1 (by omega), h 2 (by omega), h 3 (by omega), h 4 (by omega), h 5 (by omega), h 6 (by omega), h 7 (by omega)]; rfl
theorem Upto.nil : Upto [] H0 := ⟨rfl, rfl, fun i hi => by
  show firstC i = iv.at i
  match i, hi with
  | 0, _ => rfl
  | 1, _ => rfl
  | 2, _ => rfl
  | 3, _ => rfl
  | 4, _ => rfl
  | 5, _ => rfl
  | 6, _ => rfl
  | 7, _ => rfl, fun i hi => by simp at hi⟩
theorem Upto.snoc {l : List UInt8} {H : Hs} (h : Upto l H) (c : UInt8) : Upto (l ++ [c]) (H.put c.toBitVec) := by
  have hlast : bL (l ++ [c]) l.length = c.toBitVec := by simp [bL]
  have hlen : (l ++ [c]).length = l.length + 1 := by simp
  have hblk : ∀ i, i < l.length % 128 + 1 → (H.put1 c.toBitVec).block i = bL (l ++ [c]) (128 * (l.length / 128) + i) := fun i hi => by
    show (if i = H.size % 128 then c.toBitVec else H.block i) = _
    rw [h.size]
    by_cases h1 : i = l.length % 128
    · rw [if_pos h1, h1, show 128 * (l.length / 128) + l.length % 128 = l.length by omega, hlast]
    · rw [if_neg h1, h.block i (by omega), bL_append (by omega)]
  have hfold : foldB (bL (l ++ [c])) (l.length / 128) = foldB (bL l) (l.length / 128) := foldB_congr _ fun i hi => bL_append (by omega)
  unfold Hs.put
  rw [h.size]
  by_cases h63 : l.length % 128 = 127
  · rw [if_pos h63]
    refine ⟨h.keys, ?_, fun i hi => ?_, fun i hi => ?_⟩
    · show H.size + 1 = _; rw [h.size, hlen]
    · show addw (H.state i) ((mixed (H.put1 c.toBitVec)).at i) = _
      rw [hlen, show (l.length + 1) / 128 = l.length / 128 + 1 by omega]
      show _ = (blockS (foldB (bL (l ++ [c])) (l.length / 128)) _).at i
      rw [hfold, blockS, addS_at, h.state i hi]
      have e1 : S8.of (H.put1 c.toBitVec).state = foldB (bL l) (l.length / 128) := S8.of_at _ _ fun i hi => h.state i hi
      have e2 : schd (H.put1 c.toBitVec).block 64 = schd (fun i => bL (l ++ [c]) (128 * (l.length / 128) + i)) 64 := funext fun j => schd_congr (fun i hi => hblk i (by omega)) 64 j
      have e4 : (H.put1 c.toBitVec).keys = keysC := h.keys
      have e3 : mixed (H.put1 c.toBitVec) = rnd keysC (schd (fun i => bL (l ++ [c]) (128 * (l.length / 128) + i)) 64) (foldB (bL l) (l.length / 128)) 80 := by
        unfold mixed; rw [e1, e2, e4]
      rw [e3]
    · rw [hlen] at hi; omega
  · rw [if_neg h63]
    refine ⟨h.keys, ?_, fun i hi => ?_, fun i hi => ?_⟩
    · show H.size + 1 = _; rw [h.size, hlen]
    · rw [hlen, show (l.length + 1) / 128 = l.length / 128 by omega, hfold]; exact h.state i hi
    · rw [hlen] at hi ⊢
      rw [show (l.length + 1) / 128 = l.length / 128 by omega]
      exact hblk i (by omega)
theorem Upto.write (m : List UInt8) : ∀ {l : List UInt8} {H : Hs}, Upto l H → Upto (l ++ m) (H.write m) := by
  induction m with
  | nil => intro l H h; rw [List.append_nil]; exact h
  | cons c m ih =>
    intro l H h
    have := ih (h.snoc c)
    rw [List.append_assoc] at this
    exact this
theorem outB_of (s : S8) (f : Nat → BitVec 64) (h : ∀ i, i < 8 → f i = s.at i) : outB f 8 = s8B s := by
  show outB f 8 = _
  simp only [outB, h 0 (by omega), h 1 (by omega), h 2 (by omega), h 3 (by omega), h 4 (by omega), h 5 (by omega), h 6 (by omega), h 7 (by omega)]
  rfl
theorem out_eq (l : List UInt8) : (H0.write l).out = refSum l := by
  have h1 := Upto.write l Upto.nil
  have h2 := Upto.write (padding (H0.write l).size) h1
  rw [List.nil_append, size0] at h2
  unfold Hs.out refSum Hs.ended
  rw [size0]
  rw [outB_of _ _ h2.state]
  rfl
end Go.Proofs.Ytmmijnacgolopaa
