/- Ranges over strings whose bytes are digits; the places of digits. -/
import Derived.Test.YtbipbkancghkfaaDoorWa
import Derived.Laws.RangeAny
namespace Go.Proofs.YtbipbkancghkfaaDoor
open Go.RowKit
section
variable {P : Program}
def Itr (w : World) (r : Nat) (s : ByteArray) (p : Nat) : Prop := w.heap[r]? = some (.stringIter s p)
theorem Itr.new (w : World) (s : ByteArray) (p : Nat) : Itr (w.iter s p) w.heap.size s p := World.iter_heap w s p
theorem Itr.lt {w : World} {r : Nat} {s : ByteArray} {p : Nat} (h : Itr w r s p) : r < w.heap.size := (Array.getElem?_eq_some_iff.1 h).1
theorem Itr.put {w : World} {r : Nat} {s : ByteArray} {p : Nat} (h : Itr w r s p) (p' : Nat) : Itr (w.putObj r (.stringIter s p')) r s p' := World.putObj_heap_same h.lt
theorem Itr.pos {w : World} {r : Nat} {s : ByteArray} {p : Nat} (h : Itr w r s p) : w.iterPos r = p := by unfold Itr at h; simp [World.iterPos, h]
theorem Itr.far {w : World} {r : Nat} {s : ByteArray} {p : Nat} (h : Itr w r s p) {a : Addr} (ha : r ≠ a.block) (v : Value) : Itr (w.setCell a v) r s p := (Below.heap_setCell w a v r ha).trans h
theorem Blk.putFar {w : World} {g r : Nat} {t : TypeId} {cs : Array Value} (h : Blk w g t cs) (hr : g ≠ r) (o : Obj) : Blk (w.putObj r o) g t cs := (World.putObj_heap_other hr).trans h
theorem next_ascii {w : World} {r : Nat} {s : ByteArray} {p : Nat} (hi : Itr w r s p) (ty : TypeId) (h : p < s.size) (ha : byteS s p < 128) :
    (Instr.next (.pointer (some ⟨r, 0, none⟩)) true ty).run P w = .ok (.tuple #[.bool true, .int .i64 (p : Int), .int .i32 (byteS s p : Int)]) (w.putObj r (.stringIter s (p + 1))) := by
  have hi' : w.heap[r]? = some (.stringIter s p) := hi
  have e := byteS_at s p h
  rw [← e] at ha ⊢
  simp only [Instr.next, getObj, setObj, Sem.run_bind, Sem.run, hi', Result.andThen, h, if_true, decode_ascii s p h ha]
  simp [goInt, World.putObj]
theorem next_high {w : World} {r : Nat} {s : ByteArray} {p : Nat} (hi : Itr w r s p) (h : p < s.size) (ha : ¬ byteS s p < 128) :
    ∃ c k : Nat, 128 ≤ c ∧ c ≤ 2147483647 ∧ ∀ ty, (Instr.next (.pointer (some ⟨r, 0, none⟩)) true ty).run P w = .ok (.tuple #[.bool true, .int .i64 (p : Int), .int .i32 (c : Int)]) (w.putObj r (.stringIter s k)) := by
  have hi' : w.heap[r]? = some (.stringIter s p) := hi
  have e := byteS_at s p h
  rw [← e] at ha
  refine ⟨(Utf8.decode s p).1, p + (Utf8.decode s p).2, (decode_high s p h (by omega)).1, decode_le s p, fun ty => ?_⟩
  simp only [Instr.next, getObj, setObj, Sem.run_bind, Sem.run, hi', Result.andThen, h, if_true]
  simp [goInt, World.putObj]
theorem next_end {w : World} {r : Nat} {s : ByteArray} {p : Nat} (hi : Itr w r s p) (ty : TypeId) (h : ¬ p < s.size) :
    (Instr.next (.pointer (some ⟨r, 0, none⟩)) true ty).run P w = .ok (.tuple #[.bool false]) w := by
  have hi' : w.heap[r]? = some (.stringIter s p) := hi
  simp [Instr.next, getObj, Sem.run, hi', h]
end
/-- The place of a byte among the first n of D, counted from 1. -/
def plc (D : ByteArray) : Nat → Nat → Nat
  | 0, _ => 0
  | n + 1, c => if byteS D n = c then n + 1 else plc D n c
theorem plc_le (D : ByteArray) (c : Nat) : ∀ n, plc D n c ≤ n
  | 0 => Nat.le_refl _
  | n + 1 => by
    have := plc_le D c n
    unfold plc; split <;> omega
def plcR (D : ByteArray) (n : Nat) : Array Value := row 128 fun c => .int .u8 (plc D n c : Int)
theorem plcR_set (D : ByteArray) (n : Nat) (h : byteS D n < 128) : (plcR D n).setIfInBounds (byteS D n) (.int .u8 ((n + 1 : Nat) : Int)) = plcR D (n + 1) := by
  unfold plcR
  rw [row_set _ h]
  refine row_ext fun c _ => ?_
  show (if c = byteS D n then _ else _) = Value.int .u8 ((if byteS D n = c then n + 1 else plc D n c : Nat) : Int)
  by_cases hc : c = byteS D n
  · rw [if_pos hc, if_pos hc.symm]
  · rw [if_neg hc, if_neg fun e => hc e.symm]
end Go.Proofs.YtbipbkancghkfaaDoor
