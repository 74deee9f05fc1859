/- Bytes of a list laid one behind the other; the reference's Decode of chapter 7. -/
import Derived.Test.YtbipbkancghkfaaDoorUg
namespace Go.Proofs.YtbipbkancghkfaaDoor
open Go.RowKit
structure OL (B : Nat) (w0 : World) (l : List Nat) (v : Value) (wr : World) : Prop where
  own : wr.ownsRow B 5 1 v l.length (l.map fun (b : Nat) => Value.int .u8 (b : Int))
  b : Below B w0 wr
  lo : B ≤ wr.heap.size
theorem OL.nil {B : Nat} {w0 w : World} (h : Below B w0 w) (hB : B ≤ w.heap.size) : OL B w0 [] (.slice none 0 0) w := ⟨⟨rfl, .inl ⟨rfl, rfl⟩⟩, h, hB⟩
theorem OL.cast {B : Nat} {w0 w : World} {l m : List Nat} {v : Value} (h : OL B w0 l v w) (e : l = m) : OL B w0 m v w := e ▸ h
theorem OL.below {B : Nat} {w0 w w' : World} {l : List Nat} {v : Value} (h : OL B w0 l v w) (hb : Below w.heap.size w w') : OL B w0 l v w' := by
  refine ⟨⟨h.own.1, ?_⟩, h.b.trans (hb.mono h.lo), Nat.le_trans h.lo hb.size⟩
  rcases h.own.2 with h1 | ⟨g, cap, cur, h1, h2, h3, h4⟩
  · exact .inl h1
  · refine .inr ⟨g, cap, cur, h1, h2, ?_, h4⟩
    rw [hb.block g (by
      rcases Nat.lt_or_ge g w.heap.size with hlt | hge
      · exact hlt
      · rw [Array.getElem?_eq_none hge] at h3; cases h3)]
    exact h3
/-- One byte more, of a list. -/
theorem wpList_pushL {ops : Array Oper} {rest : List Oper} {o : Oper} {a : Act} {Q : Exit → Act → World → Prop} {B : Nat} {l : List Nat} {w0 wr : World} {v : Value} (hgd : o.guard = none) (s x : Operand)
    (ho : o.op = .call { callee := .builtin .append, args := #[s, x], argTypes := #[35, 35] }) (hs : a.eval s = v) (h : OL B w0 l v wr) (hn : l.length ≤ 1099511627776)
    (hx : a.eval x = .slice (some ⟨wr.heap.size, 0, none⟩) 1 1) (y : Nat) (z : Int) (hf : (y : Int) = z)
    (k : ∀ v' w', OL B w0 (l ++ [y]) v' w' → wpList Tryd.prog ops Q rest (a.put o.dst v') w') : wpList Tryd.prog ops Q (o :: rest) a (wr.alloc (.cells #[.int .u8 z] 5)) := by
  subst hf
  obtain ⟨i0, hi, hz0, hz1, hz2⟩ := info_parts u8_infoO
  have hlo := h.lo
  refine wpList_append_own _ hgd s x 35 ho B 5 i0 (.int .u8 0) 1 1 Tryd.underlying35 hi hz0 hz1 hz2 rfl (by decide) v l.length _ hs (h.own.alloc _) ⟨wr.heap.size, 0, none⟩ 1 1 [.int .u8 (y : Int)] hx rfl ?_ ?_ ?_ ?_ ?_ ?_
  · intro j u hu
    rw [addr_add, Nat.zero_add]
    exact (cell_of_row _ _ j _ _ (0, 0) (heap_alloc_new wr _)).trans (by rw [← hu]; simp)
  · intro u hu
    simp at hu
    subst hu; rfl
  · unfold maxLen; omega
  · omega
  · simp; omega
  · intro v' w2 hown2 hg2 _
    have hb := (h.b.alloc hlo (.cells #[.int .u8 (y : Int)] 5)).grown hg2 (by simp; omega) (own_le h.own)
    exact k v' w2 ⟨by rw [List.map_append, List.length_append]; exact hown2, hb, Nat.le_trans hlo (Nat.le_trans (by simp) hg2.size)⟩
/-- A list's text. -/
def textL (l : List Nat) : ByteArray := ⟨(asBytes (l.map (BitVec.ofNat 8))).toArray⟩
theorem textL_size (l : List Nat) : (textL l).size = l.length := by
  show Array.size _ = _
  simp [asBytes]
theorem textL_range (n : Nat) (f : Nat → Nat) : textL ((List.range n).map f) = textN n f := by
  unfold textL textN
  rw [List.map_map]; rfl
theorem OL.text {B : Nat} {w0 wr : World} {l : List Nat} {v : Value} (h : OL B w0 l v wr) (hf : ∀ b ∈ l, b < 256) : (convert 35 9 v).run Tryd.prog wr = .ok (.string (textL l)) wr := by
  refine run_string_of_own wr 35 9 5 B Tryd.underlying35 Tryd.underlying5 Tryd.underlying9 v l.length (l.map (BitVec.ofNat 8)) ?_
  have e : (l.map (BitVec.ofNat 8)).map b8v = l.map fun (b : Nat) => Value.int .u8 (b : Int) := by
    rw [List.map_map]
    refine List.map_congr_left fun b hb => ?_
    show Value.int .u8 (iw (BitVec.ofNat 8 b)) = _
    unfold iw
    rw [BitVec.toNat_ofNat, Nat.mod_eq_of_lt (show b < 2 ^ 8 from hf b hb)]
  rw [e]; exact h.own
/-! Four digits: their number, and how many stand ahead. -/
def nK (s : ByteArray) (g : Nat) : Nat → Nat
  | 0 => 0
  | k + 1 => nK s g k * 64 + (vl (byteS s (4 * g + k))).1
def mK (s : ByteArray) (g : Nat) : Nat → Nat
  | 0 => 0
  | k + 1 => if (vl (byteS s (4 * g + k))).2 = true ∧ mK s g k = k then mK s g k + 1 else mK s g k
theorem mK_le (s : ByteArray) (g : Nat) : ∀ k, mK s g k ≤ k
  | 0 => Nat.le_refl _
  | k + 1 => by have := mK_le s g k; unfold mK; split <;> omega
theorem nK_lt (s : ByteArray) (g : Nat) : ∀ k, nK s g k < 64 ^ k
  | 0 => by show 0 < 1; omega
  | k + 1 => by
    have h1 := nK_lt s g k
    have h2 := vl_lt _ (byteS_lt s (4 * g + k))
    show nK s g k * 64 + _ < _
    rw [Nat.pow_succ]; omega
def bK64 (n k : Nat) : Nat := n / 2 ^ (16 - 8 * k) % 256
def grp (s : ByteArray) (g : Nat) : List Nat := (List.range (mK s g 4 - 1)).map (bK64 (nK s g 4))
def raw (s : ByteArray) : Nat → List Nat
  | 0 => []
  | g + 1 => raw s g ++ grp s g
theorem raw_byte (s : ByteArray) : ∀ g, ∀ b ∈ raw s g, b < 256
  | 0, b, h => by cases h
  | g + 1, b, h => by
    rcases List.mem_append.1 h with h | h
    · exact raw_byte s g b h
    · obtain ⟨k, _, rfl⟩ := List.mem_map.1 h
      exact Nat.mod_lt _ (by decide)
theorem raw_len (s : ByteArray) : ∀ g, (raw s g).length ≤ 3 * g
  | 0 => Nat.le_refl _
  | g + 1 => by
    have h1 := raw_len s g
    have h2 := mK_le s g 4
    show (raw s g ++ grp s g).length ≤ _
    unfold grp
    rw [List.length_append, List.length_map, List.length_range]; omega
/-- What is read of what was written. -/
theorem vl_e64 (t : ByteArray) (g k : Nat) (hg : g < (t.size + 2) / 3) (hk : k < 4) :
    vl (byteS (e64 t) (4 * g + k)) = if k < min (t.size - 3 * g) 3 + 1 then (six (tri3 t g) k, true) else (0, false) := by
  rw [e64_at t _ (by omega)]
  unfold e64B
  rw [show (4 * g + k) % 4 = k by omega, show (4 * g + k) / 4 = g by omega]
  by_cases h : k < min (t.size - 3 * g) 3 + 1
  · rw [if_pos h, if_pos h]; exact vl_of ⟨_, six_lt _ _⟩
  · rw [if_neg h, if_neg h]; decide
theorem six_zero2 (t : ByteArray) (g : Nat) (h : t.size - 3 * g ≤ 1) : six (tri3 t g) 2 = 0 ∧ six (tri3 t g) 3 = 0 := by
  unfold tri3
  rw [byteS_out t (3 * g + 1) (by omega), byteS_out t (3 * g + 2) (by omega)]
  unfold six
  simp only [Nat.reduceMul, Nat.reduceSub, Nat.reducePow]
  omega
theorem six_zero3 (t : ByteArray) (g : Nat) (h : t.size - 3 * g ≤ 2) : six (tri3 t g) 3 = 0 := by
  unfold tri3
  rw [byteS_out t (3 * g + 2) (by omega)]
  unfold six
  simp only [Nat.reduceMul, Nat.reduceSub, Nat.reducePow]
  omega
theorem six_sum (n : Nat) (h : n < 16777216) : ((six n 0 * 64 + six n 1) * 64 + six n 2) * 64 + six n 3 = n := by
  unfold six
  simp only [Nat.reduceMul, Nat.reduceSub, Nat.reducePow]
  omega
theorem tri3_lt (t : ByteArray) (g : Nat) : tri3 t g < 16777216 := by
  have := byteS_lt t (3 * g); have := byteS_lt t (3 * g + 1); have := byteS_lt t (3 * g + 2)
  unfold tri3; omega
theorem grp_e64 (t : ByteArray) (g : Nat) (hg : g < (t.size + 2) / 3) : grp (e64 t) g = (List.range (min (t.size - 3 * g) 3)).map fun k => byteS t (3 * g + k) := by
  have v0 := vl_e64 t g 0 hg (by decide)
  have v1 := vl_e64 t g 1 hg (by decide)
  have v2 := vl_e64 t g 2 hg (by decide)
  have v3 := vl_e64 t g 3 hg (by decide)
  have hl := tri3_lt t g
  have hsum := six_sum _ hl
  obtain ⟨M, hM⟩ : ∃ M, M = min (t.size - 3 * g) 3 := ⟨_, rfl⟩
  rw [← hM] at v0 v1 v2 v3 ⊢
  have h1 : 1 ≤ M := by omega
  have h3 : M ≤ 3 := by omega
  rw [if_pos (by omega)] at v0 v1
  have hn : nK (e64 t) g 4 = tri3 t g ∧ mK (e64 t) g 4 = M + 1 := by
    rcases (show M = 1 ∨ M = 2 ∨ M = 3 by omega) with rfl | rfl | rfl
    · obtain ⟨z2, z3⟩ := six_zero2 t g (by omega)
      rw [if_neg (by decide)] at v2 v3
      simp only [nK, mK, v0, v1, v2, v3]
      rw [z2, z3] at hsum
      exact ⟨by omega, by simp⟩
    · have z3 := six_zero3 t g (by omega)
      rw [if_pos (by decide)] at v2
      rw [if_neg (by decide)] at v3
      simp only [nK, mK, v0, v1, v2, v3]
      rw [z3] at hsum
      exact ⟨by omega, by simp⟩
    · rw [if_pos (by decide)] at v2 v3
      simp only [nK, mK, v0, v1, v2, v3]
      exact ⟨by omega, by simp⟩
  unfold grp
  rw [hn.1, hn.2, Nat.add_sub_cancel]
  refine List.map_congr_left fun k hk => ?_
  have hk := List.mem_range.1 hk
  have a := byteS_lt t (3 * g); have b := byteS_lt t (3 * g + 1); have c := byteS_lt t (3 * g + 2)
  unfold bK64 tri3
  rcases (show k = 0 ∨ k = 1 ∨ k = 2 by omega) with rfl | rfl | rfl <;> simp only [Nat.reduceMul, Nat.reduceSub, Nat.reducePow, Nat.add_zero, Nat.mul_zero, Nat.sub_zero, Nat.mul_one, Nat.sub_self, Nat.pow_zero] <;> omega
theorem raw_e64 (t : ByteArray) : ∀ g, g ≤ (t.size + 2) / 3 → raw (e64 t) g = (List.range (min (3 * g) t.size)).map (byteS t)
  | 0, _ => by show [] = _; rw [Nat.mul_zero, Nat.zero_min]; rfl
  | g + 1, hg => by
    show raw (e64 t) g ++ grp (e64 t) g = _
    rw [raw_e64 t g (by omega), grp_e64 t g (by omega), show min (3 * (g + 1)) t.size = 3 * g + min (t.size - 3 * g) 3 by omega, show min (3 * g) t.size = 3 * g by omega, List.range_add, List.map_append, List.map_map]
    rfl
theorem raw_back (t : ByteArray) : textL (raw (e64 t) ((e64 t).size / 4)) = t := by
  rw [e64_size, Nat.mul_div_cancel _ (by decide), raw_e64 t _ (Nat.le_refl _), textL_range]
  exact textN_is (by omega) fun j hj => rfl
theorem dec_good {s : ByteArray} (h : e64 (textL (raw s (s.size / 4))) = s) : dec64 s = (textL (raw s (s.size / 4)), true) := dec64_of h
theorem dec_bad {s : ByteArray} (h : e64 (textL (raw s (s.size / 4))) ≠ s) : dec64 s = (⟨#[]⟩, false) := dec64_not fun t e => h (by
  subst e; rw [raw_back])
end Go.Proofs.YtbipbkancghkfaaDoor
