/- Bytes laid one behind the other into a slice of one's own. -/
import Derived.Test.YtbipbkancghkfaaDoorTxt
import Derived.OwnWalk
import Derived.Laws.BitsLemmas
namespace Go.Proofs.YtbipbkancghkfaaDoor
open Go.RowKit
theorem i64_and63 (n : Int) : bits .and .i64 n 63 = n % 64 := by
  have h63 : (BitVec.ofInt 64 63).toNat = 2 ^ 6 - 1 := by decide
  have key : (BitVec.ofInt 64 n &&& BitVec.ofInt 64 63).toNat = (n % ((2 ^ 64 : Nat) : Int)).toNat % 2 ^ 6 := by
    rw [BitVec.toNat_and, BitVec.toNat_ofInt, h63, Nat.and_two_pow_sub_one_eq_mod]
  show IntKind.i64.wrap ((BitVec.ofInt 64 n &&& BitVec.ofInt 64 63).toNat : Nat) = n % 64
  rw [key, IntKind.wrap_i64]
  omega
theorem u8_infoO : (Tryd.prog.info? 5).map (fun i => (i.zero, i.size, i.bytes)) = some (some (.int .u8 0), 1, 1) := by kernel_rfl
/-- The first n bytes of f, in a slice made since w0. -/
structure OB (B : Nat) (w0 : World) (n : Nat) (f : Nat → Nat) (v : Value) (wr : World) : Prop where
  own : wr.ownsRow B 5 1 v n ((List.range n).map fun i => Value.int .u8 (f i : Int))
  b : Below B w0 wr
  lo : B ≤ wr.heap.size
theorem OB.nil {B : Nat} {w0 w : World} (h : Below B w0 w) (hB : B ≤ w.heap.size) (f : Nat → Nat) : OB B w0 0 f (.slice none 0 0) w := ⟨⟨rfl, .inl ⟨rfl, rfl⟩⟩, h, hB⟩
theorem OB.cast {B : Nat} {w0 w : World} {n m : Nat} {f : Nat → Nat} {v : Value} (h : OB B w0 n f v w) (e : n = m) : OB B w0 m f v w := e ▸ h
theorem OB.drew {B : Nat} {w0 w : World} {n : Nat} {f : Nat → Nat} {v : Value} (h : OB B w0 n f v w) : OB B w0 n f v w.drew := ⟨h.own.drew, h.b.drew, h.lo⟩
/-- One byte more. -/
theorem wpList_push {ops : Array Oper} {rest : List Oper} {o : Oper} {a : Act} {Q : Exit → Act → World → Prop} {B n : Nat} {w0 wr : World} {f : Nat → Nat} {v : Value} (hgd : o.guard = none) (s x : Operand)
    (ho : o.op = .call { callee := .builtin .append, args := #[s, x], argTypes := #[35, 35] }) (hs : a.eval s = v) (h : OB B w0 n f v wr) (hn : n ≤ 1099511627776)
    (hx : a.eval x = .slice (some ⟨wr.heap.size, 0, none⟩) 1 1) (z : Int) (hf : (f n : Int) = z)
    (k : ∀ v' w', OB B w0 (n + 1) f v' w' → wpList Tryd.prog ops Q rest (a.put o.dst v') w') : wpList Tryd.prog ops Q (o :: rest) a (wr.alloc (.cells #[.int .u8 z] 5)) := by
  subst hf
  obtain ⟨i0, hi, hz0, hz1, hz2⟩ := info_parts u8_infoO
  have hlo := h.lo
  refine wpList_append_own _ hgd s x 35 ho B 5 i0 (.int .u8 0) 1 1 Tryd.underlying35 hi hz0 hz1 hz2 rfl (by decide) v n _ hs (h.own.alloc _) ⟨wr.heap.size, 0, none⟩ 1 1 [.int .u8 (f n : Int)] hx rfl ?_ ?_ ?_ ?_ ?_ ?_
  · intro j u hu
    rw [addr_add, Nat.zero_add]
    exact (cell_of_row _ _ j _ _ (0, 0) (heap_alloc_new wr _)).trans (by rw [← hu]; simp)
  · intro u hu
    simp at hu
    subst hu; rfl
  · unfold maxLen; omega
  · omega
  · simp; omega
  · intro v' w2 hown2 hg2 _
    have hb := (h.b.alloc hlo (.cells #[.int .u8 (f n : Int)] 5)).grown hg2 (by simp; omega) (own_le h.own)
    exact k v' w2 ⟨by rw [List.range_succ, List.map_append]; exact hown2, hb, Nat.le_trans hlo (Nat.le_trans (by simp) hg2.size)⟩
/-- The text that it is. -/
theorem OB.text {B : Nat} {w0 wr : World} {n : Nat} {f : Nat → Nat} {v : Value} (h : OB B w0 n f v wr) (hf : ∀ i, f i < 256) : (convert 35 9 v).run Tryd.prog wr = .ok (.string (textN n f)) wr := by
  refine run_string_of_own wr 35 9 5 B Tryd.underlying35 Tryd.underlying5 Tryd.underlying9 v n ((List.range n).map fun i => BitVec.ofNat 8 (f i)) ?_
  have e : ((List.range n).map fun i => BitVec.ofNat 8 (f i)).map b8v = (List.range n).map fun i => Value.int .u8 (f i : Int) := by
    rw [List.map_map]
    refine List.map_congr_left fun i _ => ?_
    show Value.int .u8 (iw (BitVec.ofNat 8 (f i))) = _
    unfold iw
    rw [BitVec.toNat_ofNat, Nat.mod_eq_of_lt (show f i < 2 ^ 8 from hf i)]
  rw [e]; exact h.own
end Go.Proofs.YtbipbkancghkfaaDoor
