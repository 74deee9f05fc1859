/- The document's answer to chapter 1: One; and that a text written piece by piece has that sum. -/
import Derived.Test.YtmpklbjbdnocoaaRef3
import Derived.Test.YtmpklbjbdnocoaaSha256Cuts
import Derived.Deep.LoopGhost
namespace Go.Proofs.Ytmpklbjbdnocoaa
open Go.RowKit
def iv : S8 := S8.of firstC
/-- The blocks' sum: the first k blocks of the text. -/
def foldB (f : Nat → BitVec 8) : Nat → S8
  | 0 => iv
  | k + 1 => blockS (foldB f k) fun i => f (64 * k + i)
def s8B (s : S8) : List (BitVec 8) := four s.a ++ four s.b ++ four s.c ++ four s.d ++ four s.e ++ four s.f ++ four s.g ++ four s.h
def padded (l : List UInt8) : List UInt8 := l ++ padding l.length
def bL (l : List UInt8) (i : Nat) : BitVec 8 := (l.getD i 0).toBitVec
def refSum (l : List UInt8) : List UInt8 := asBytes (s8B (foldB (bL (padded l)) ((padded l).length / 64)))

/- Piece by piece: the state behind a text is the sum of its whole blocks; the block holds the rest. -/
structure Upto (l : List UInt8) (H : Hs) : Prop where
  first : H.first = firstC
  keys : H.keys = keysC
  size : H.size = l.length
  state : ∀ i, i < 8 → H.state i = (foldB (bL l) (l.length / 64)).at i
  block : ∀ i, i < l.length % 64 → H.block i = bL l (64 * (l.length / 64) + i)
theorem bL_append {l m : List UInt8} {i : Nat} (h : i < l.length) : bL (l ++ m) i = bL l i := by
  unfold bL; rw [List.getD_eq_getElem?_getD, List.getD_eq_getElem?_getD, List.getElem?_append_left h]
theorem wd_congr {f g : Nat → BitVec 8} {k : Nat} (h : ∀ i, i < 64 → f i = g i) (hk : k < 16) : wd f k = wd g k := by
  unfold wd; rw [h (4 * k) (by omega), h (4 * k + 1) (by omega), h (4 * k + 2) (by omega), h (4 * k + 3) (by omega)]
theorem schd_congr {f g : Nat → BitVec 8} (h : ∀ i, i < 64 → f i = g i) : ∀ n j, schd f n j = schd g n j
  | 0, j => by
    simp only [schd]
    by_cases hj : j < 16
    · rw [if_pos hj, if_pos hj, wd_congr h hj]
    · rw [if_neg hj, if_neg hj]
  | n + 1, j => by
    simp only [schd]
    by_cases hj : j = 16 + n
    · rw [if_pos hj, if_pos hj]; unfold nextw; simp only [schd_congr h n]
    · rw [if_neg hj, if_neg hj, schd_congr h n]
theorem blockS_congr {f g : Nat → BitVec 8} (h : ∀ i, i < 64 → f i = g i) (s : S8) : blockS s f = blockS s g := by
  have : schd f 48 = schd g 48 := funext fun j => schd_congr h 48 j
  unfold blockS; rw [this]
theorem foldB_congr {f g : Nat → BitVec 8} : ∀ k, (∀ i, i < 64 * k → f i = g i) → foldB f k = foldB g k
  | 0, _ => rfl
  | k + 1, h => by
    show blockS (foldB f k) _ = blockS (foldB g k) _
    rw [foldB_congr k fun i hi => h i (by omega)]
    exact blockS_congr (fun i hi => h _ (by omega)) _
theorem addS_at (s n : S8) (i : Nat) : (addS s n).at i = addw (s.at i) (n.at i) := by
  match i with
  | 0 => rfl
  | 1 => rfl
  | 2 => rfl
  | 3 => rfl
  | 4 => rfl
  | 5 => rfl
  | 6 => rfl
  | _ + 7 => rfl
theorem S8.of_at (f : Nat → BitVec 32) (s : S8) (h : ∀ i, i < 8 → f i = s.at i) : S8.of f = s := by
  unfold S8.of; rw [h 0 (by omega), h 1 (by omega), h 2 (by omega), h 3 (by omega), h 4 (by omega), h 5 (by omega), h 6 (by omega), h 7 (by omega)]; rfl
theorem Upto.nil : Upto [] H0 := ⟨rfl, rfl, rfl, fun i hi => by
  show firstC i = iv.at i
  match i, hi with
  | 0, _ => rfl
  | 1, _ => rfl
  | 2, _ => rfl
  | 3, _ => rfl
  | 4, _ => rfl
  | 5, _ => rfl
  | 6, _ => rfl
  | 7, _ => rfl, fun i hi => by simp at hi⟩
theorem Upto.snoc {l : List UInt8} {H : Hs} (h : Upto l H) (c : UInt8) : Upto (l ++ [c]) (H.put c.toBitVec) := by
  have hlast : bL (l ++ [c]) l.length = c.toBitVec := by simp [bL]
  have hlen : (l ++ [c]).length = l.length + 1 := by simp
  have hblk : ∀ i, i < l.length % 64 + 1 → (H.put1 c.toBitVec).block i = bL (l ++ [c]) (64 * (l.length / 64) + i) := fun i hi => by
    show (if i = H.size % 64 then c.toBitVec else H.block i) = _
    rw [h.size]
    by_cases h1 : i = l.length % 64
    · rw [if_pos h1, h1, show 64 * (l.length / 64) + l.length % 64 = l.length by omega, hlast]
    · rw [if_neg h1, h.block i (by omega), bL_append (by omega)]
  have hfold : foldB (bL (l ++ [c])) (l.length / 64) = foldB (bL l) (l.length / 64) := foldB_congr _ fun i hi => bL_append (by omega)
  unfold Hs.put
  rw [h.size]
  by_cases h63 : l.length % 64 = 63
  · rw [if_pos h63]
    refine ⟨h.first, h.keys, ?_, fun i hi => ?_, fun i hi => ?_⟩
    · show H.size + 1 = _; rw [h.size, hlen]
    · show addw (H.state i) ((mixed (H.put1 c.toBitVec)).at i) = _
      rw [hlen, show (l.length + 1) / 64 = l.length / 64 + 1 by omega]
      show _ = (blockS (foldB (bL (l ++ [c])) (l.length / 64)) _).at i
      rw [hfold, blockS, addS_at, h.state i hi]
      congr 2
      unfold mixed
      have e1 : S8.of (H.put1 c.toBitVec).state = foldB (bL l) (l.length / 64) := S8.of_at _ _ fun i hi => h.state i hi
      have e2 : schd (H.put1 c.toBitVec).block 48 = schd (fun i => bL (l ++ [c]) (64 * (l.length / 64) + i)) 48 := funext fun j => schd_congr (fun i hi => hblk i (by omega)) 48 j
      rw [e1, e2]
      show rnd H.keys _ _ 64 = _
      rw [h.keys]
    · rw [hlen] at hi; omega
  · rw [if_neg h63]
    refine ⟨h.first, h.keys, ?_, fun i hi => ?_, fun i hi => ?_⟩
    · show H.size + 1 = _; rw [h.size, hlen]
    · rw [hlen, show (l.length + 1) / 64 = l.length / 64 by omega, hfold]; exact h.state i hi
    · rw [hlen] at hi ⊢
      rw [show (l.length + 1) / 64 = l.length / 64 by omega]
      exact hblk i (by omega)
theorem Upto.write (m : List UInt8) : ∀ {l : List UInt8} {H : Hs}, Upto l H → Upto (l ++ m) (H.write m) := by
  induction m with
  | nil => intro l H h; rw [List.append_nil]; exact h
  | cons c m ih =>
    intro l H h
    have := ih (h.snoc c)
    rw [List.append_assoc] at this
    exact this
theorem outB_of (s : S8) (f : Nat → BitVec 32) (h : ∀ i, i < 8 → f i = s.at i) : outB f 8 = s8B s := by
  show outB f 8 = _
  simp only [outB, h 0 (by omega), h 1 (by omega), h 2 (by omega), h 3 (by omega), h 4 (by omega), h 5 (by omega), h 6 (by omega), h 7 (by omega)]
  rfl
theorem out_eq (l : List UInt8) : (H0.write l).out = refSum l := by
  have h1 := Upto.write l Upto.nil
  have h2 := Upto.write (padding (H0.write l).size) h1
  rw [List.nil_append, size0] at h2
  unfold Hs.out refSum Hs.ended
  rw [size0]
  rw [outB_of _ _ h2.state]
  rfl
end Go.Proofs.Ytmpklbjbdnocoaa
