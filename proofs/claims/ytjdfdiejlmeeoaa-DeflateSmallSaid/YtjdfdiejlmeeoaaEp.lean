/- Chapter 11 in numbers, no walk: a text of one byte, many times, has few bits. -/
import Derived.Test.YtjdfdiejlmeeoaaEn
import Derived.Test.YtjdfdiejlmeeoaaNL
namespace Go.Proofs.Ytjdfdiejlmeeoaa
open Go.RowKit
/-- How many bits words have in the fixed code. -/
def wB (ws : List (Int × Nat × Nat)) : Nat := bitsN (numsV fixL ws)
theorem wB_app (a b : List (Int × Nat × Nat)) : wB (a ++ b) = wB a + wB b := by unfold wB; rw [numsV_app, bitsN_app]
theorem wB_cons (x : Int × Nat × Nat) (r : List (Int × Nat × Nat)) : wB (x :: r) = (fixL.getD x.1.toNat (0, 0)).2 + x.2.2 + wB r := by
  unfold wB
  show (fixL.getD x.1.toNat (0, 0)).2 + (x.2.2 + bitsN (numsV fixL r)) = _
  omega
theorem fixL_lens : fixL.map (fun x => x.2) = List.replicate 144 8 ++ List.replicate 112 9 ++ List.replicate 24 7 ++ List.replicate 6 8 ++ List.replicate 30 5 := by decide +kernel
theorem fix_len (i : Nat) : (fixL.getD i (0, 0)).2 = (List.replicate 144 8 ++ List.replicate 112 9 ++ List.replicate 24 7 ++ List.replicate 6 8 ++ List.replicate 30 5).getD i 0 := by
  rw [← fixL_lens, List.getD_eq_getElem?_getD, List.getD_eq_getElem?_getD, List.getElem?_map]
  cases fixL[i]? <;> rfl
theorem fix_any (i : Nat) (h : i < 316) : (fixL.getD i (0, 0)).2 ≤ 9 := by
  rw [fix_len]
  exact (by decide +kernel : ∀ i, i < 316 → (List.replicate 144 8 ++ List.replicate 112 9 ++ List.replicate 24 7 ++ List.replicate 6 8 ++ List.replicate 30 5).getD i 0 ≤ 9) i h
theorem fix_many (i : Nat) (h : i < 286) (h2 : 257 ≤ i) : (fixL.getD i (0, 0)).2 ≤ 8 := by
  rw [fix_len]
  exact (by decide +kernel : ∀ i, i < 286 → 257 ≤ i → (List.replicate 144 8 ++ List.replicate 112 9 ++ List.replicate 24 7 ++ List.replicate 6 8 ++ List.replicate 30 5).getD i 0 ≤ 8) i h h2
theorem fix_back : (fixL.getD 286 (0, 0)).2 = 5 := by rw [fix_len]; decide +kernel
theorem lenX_le : ∀ i, i < 29 → lenX i ≤ 5 := by decide +kernel
theorem disW_one : disW 1 = (286, 0, 0) := by decide +kernel
theorem word_run {b : Nat → Nat} {m k : Nat} (h1 : 3 ≤ m) (h2 : m ≤ 258) : wB (wordT b k (m, 1)) ≤ 18 := by
  obtain ⟨-, -, h3, h4⟩ := lenW_fit h1 h2
  have e : wordT b k (m, 1) = [((((lenW m).1 : Nat) : Int), (lenW m).2), ((286 : Int), 0, 0)] := by
    unfold wordT
    rw [if_neg (show ¬ m = 1 by omega)]
    show [((((lenW m).1 : Nat) : Int), (lenW m).2), ((((disW 1).1 : Nat) : Int), (disW 1).2)] = _
    rw [disW_one]
    rfl
  rw [e, wB_cons, wB_cons]
  show (fixL.getD (Int.toNat ((lenW m).1 : Int)) (0, 0)).2 + (lenW m).2.2 + ((fixL.getD (Int.toNat (286 : Int)) (0, 0)).2 + 0 + 0) ≤ 18
  rw [Int.toNat_natCast]
  have := fix_many _ h4 h3
  have hx : (lenW m).2.2 ≤ 5 := by
    show lenX (stepsV lenB m 29 - 1) ≤ 5
    refine lenX_le _ ?_
    have : (lenW m).1 = 257 + (stepsV lenB m 29 - 1) := rfl
    omega
  have : (fixL.getD (Int.toNat (286 : Int)) (0, 0)).2 = 5 := fix_back
  omega
theorem word_one {b : Nat → Nat} (hb : ∀ i, b i < 256) (k y : Nat) : wB (wordT b k (1, y)) ≤ 9 := by
  have e : wordT b k (1, y) = [(((b k : Nat) : Int), 0, 0)] := by unfold wordT; rw [if_pos rfl]
  rw [e, wB_cons]
  show (fixL.getD (Int.toNat (b k : Int)) (0, 0)).2 + 0 + 0 ≤ 9
  rw [Int.toNat_natCast]
  have := fix_any (b k) (by have := hb k; omega)
  omega
theorem same_const {b : Nat → Nat} {x y : Nat} : ∀ m k, (∀ j, j < k + m → b (x + j) = b (y + j)) → sameG b x y k m = k + m
  | 0, k, _ => rfl
  | m + 1, k, h => by
    unfold sameG
    rw [if_pos (h k (by omega)), same_const m (k + 1) (fun j hj => h j (by omega))]; omega
/-- Of one byte, many times: behind the first one as many as may be, from the one ahead. -/
theorem best_run {b : Nat → Nat} {c n a : Nat} (h : ∀ j, j < n → b j = c) (ha : 1 ≤ a) (hn : a + 3 ≤ n) : bestS b 0 n a = (min (n - a) 258, 1) := by
  obtain ⟨p, rfl⟩ : ∃ p, a = p + 1 := ⟨a - 1, by omega⟩
  have ht : th b p = th b (p + 1) := by unfold th; rw [h p (by omega), h (p + 1) (by omega), h (p + 2) (by omega), h (p + 1 + 2) (by omega)]
  have e : prv b 0 (th b (p + 1)) (p + 1) = some p := by unfold prv; rw [if_pos ⟨Nat.zero_le _, ht⟩]
  have es : sameN b p (p + 1) (min (n - (p + 1)) 258) = min (n - (p + 1)) 258 := by
    have := same_const (b := b) (x := p) (y := p + 1) (min (n - (p + 1)) 258) 0 (fun j hj => by rw [h (p + j) (by omega), h (p + 1 + j) (by omega)])
    unfold sameN; omega
  unfold bestS
  rw [if_neg (show ¬ min (n - (p + 1)) 258 < 3 by omega), e]
  unfold srch
  rw [if_neg (show ¬ p + 1 - p > 32768 by omega), if_pos es, show p + 1 - p = 1 by omega]
def bndR (r : Nat) : Nat := if r < 3 then 9 * r else 18 * (r / 258 + 1) + 18
theorem bits_rest {b : Nat → Nat} (hb : ∀ i, b i < 256) {c n : Nat} (h : ∀ j, j < n → b j = c) : ∀ f a k, 1 ≤ a → wB (wordsG b (toksG b 0 n f a) k) ≤ bndR (n - a)
  | 0, a, k, _ => Nat.zero_le _
  | f + 1, a, k, ha => by
    by_cases hlt : a < n
    · rw [toksG_one hlt]
      by_cases h3 : a + 3 ≤ n
      · rw [best_run h ha h3]
        show wB (wordT b k (min (n - a) 258, 1) ++ wordsG b (toksG b 0 n f (a + min (n - a) 258)) (k + min (n - a) 258)) ≤ _
        rw [wB_app]
        have h1 := word_run (b := b) (m := min (n - a) 258) (k := k) (by omega) (by omega)
        have h2 := bits_rest hb h f (a + min (n - a) 258) (k + min (n - a) 258) (by omega)
        have h4 : 18 + bndR (n - (a + min (n - a) 258)) ≤ bndR (n - a) := by
          unfold bndR
          split <;> split <;> omega
        omega
      · have e : bestS b 0 n a = (1, 0) := by unfold bestS; rw [if_pos (show min (n - a) 258 < 3 by omega)]
        rw [e]
        show wB (wordT b k (1, 0) ++ wordsG b (toksG b 0 n f (a + 1)) (k + 1)) ≤ _
        rw [wB_app]
        have h1 := word_one hb k 0
        have h2 := bits_rest hb h f (a + 1) (k + 1) (by omega)
        have h4 : 9 + bndR (n - (a + 1)) ≤ bndR (n - a) := by
          unfold bndR
          split <;> split <;> omega
        omega
    · rw [toksG_end hlt]; exact Nat.zero_le _
theorem best_first (b : Nat → Nat) (n : Nat) : bestS b 0 n 0 = (1, 0) := by
  unfold bestS
  split
  · rfl
  · exact srch_none _ _
theorem bits_text {b : Nat → Nat} (hb : ∀ i, b i < 256) {c n : Nat} (hn : n ≤ 2000) (h : ∀ j, j < n → b j = c) : wB (textV b (toksV b 0 n)) ≤ 190 := by
  unfold textV
  rw [wB_app]
  have h1 : wB [((256 : Int), 0, 0)] ≤ 9 := by
    rw [wB_cons]
    show (fixL.getD 256 (0, 0)).2 + 0 + 0 ≤ 9
    have := fix_any 256 (by decide); omega
  have h2 : wB (wordsG b (toksV b 0 n) 0) ≤ 171 + 9 := by
    unfold toksV
    rcases n with _ | n
    · exact Nat.zero_le _
    · show wB (wordsG b (toksG b 0 (n + 1) (n + 1) 0) 0) ≤ _
      rw [toksG_one (Nat.succ_pos n), best_first]
      show wB (wordT b 0 (1, 0) ++ wordsG b (toksG b 0 (n + 1) n (0 + 1)) (0 + 1)) ≤ _
      rw [wB_app]
      have h3 := word_one hb 0 0
      have h4 := bits_rest hb h n (0 + 1) (0 + 1) (by decide)
      have h5 : bndR (n + 1 - (0 + 1)) ≤ 171 := by unfold bndR; split <;> omega
      omega
  have h3 : wB [((256 : Int), 0, 0)] = wB [(256, 0, 0)] := rfl
  omega
theorem packN_least (s : ByteArray) (l : List (Nat × Nat)) (h last : Nat) : bitsN (packN s l h last) ≤ 3 + wB (textV (byteS s) l) := by
  unfold packN
  have e : ∀ (x y : Nat) (r : List (Nat × Nat)), bitsN ([(x, 1), (y, 2)] ++ r) = 3 + bitsN r := fun x y r => by
    show 1 + (2 + bitsN r) = _; omega
  unfold wB
  split
  · split <;> rw [e] <;> omega
  · split <;> rw [e] <;> omega
theorem small_bits (s : ByteArray) (c : Nat) (hn : s.size ≤ 2000) (h : ∀ j, j < s.size → byteS s j = c) : (packT s).size ≤ 30 := by
  have e1 : s.extract 0 s.size = s := ByteArray.extract_zero_size
  have e : packV s = packN s (toksV (byteS s) 0 s.size) (0 % 8) 1 := by
    unfold packV
    rw [show s.size / 32768 + 1 = 0 + 1 by omega, packG_at s 0 0 0 s.size (by omega), if_pos rfl, List.append_nil]
    unfold pieceN
    rw [e1, if_pos rfl]
  have h1 := packN_least s (toksV (byteS s) 0 s.size) (0 % 8) 1
  have h2 := bits_text (byteS_lt s) hn h
  unfold packT txtN
  rw [textN_size, e]
  omega
end Go.Proofs.Ytjdfdiejlmeeoaa
