/- Bytes of a slice that was a text: kept by calls, turned, made a text again; Encode in numbers. -/
import Derived.Test.YtggalphgnloneaaGreatQt
import Derived.Test.YtggalphgnloneaaGreatQe
namespace Go.Proofs.YtggalphgnloneaaGreat
open Go.RowKit
/-- 32 bytes in block g. -/
structure ClX (f : Nat → Int) (g : Nat) (wr : World) : Prop where
  c : ∀ j, j < 32 → wr.cell? ⟨g, j, none⟩ = some (.int .u8 (f j))
  fz : ∀ j, j < 32 → wr.frozen? ⟨g, j, none⟩ = false
  lt : g < wr.heap.size
theorem ClX.below {f : Nat → Int} {g : Nat} {wr w' : World} (h : ClX f g wr) (hb : Below wr.heap.size wr w') : ClX f g w' :=
  ⟨fun j hj => (hb.cell (p := ⟨g, j, none⟩) h.lt).trans (h.c j hj), fun j hj => (hb.frozen (p := ⟨g, j, none⟩) h.lt).trans (h.fz j hj), Nat.lt_of_lt_of_le h.lt hb.size⟩
theorem ClX.put {f : Nat → Int} {g : Nat} {wr : World} (h : ClX f g wr) {k : Nat} (hk : k < 32) (v : Int) : ClX (fun j => if j = k then v else f j) g (wr.setCell ⟨g, k, none⟩ (.int .u8 v)) :=
  ⟨fun j hj => by
    by_cases h1 : j = k
    · subst h1; simp only [if_true]; exact World.cell?_setCell_same _ _ _ (h.c j hj)
    · have hne : (⟨g, k, none⟩ : Addr) ≠ ⟨g, j, none⟩ := by intro hh; injection hh with _ h2; exact h1 h2.symm
      rw [if_neg h1, World.cell?_setCell_other _ _ _ _ hne]; exact h.c j hj,
   fun j hj => (World.frozen?_setCell _ _ _ _).trans (h.fz j hj), by simp [World.setCell]; exact h.lt⟩
/-- Blocks that are known, and the bytes. -/
structure KC (f : Nat → Int) (g B : Nat) (w0 : World) (l : Blks) (w : World) : Prop where
  k : KD B w0 l w
  x : ClX f g w
theorem KC.below {f : Nat → Int} {g B : Nat} {w0 w w' : World} {l : Blks} (h : KC f g B w0 l w) (hb : Below w.heap.size w w') : KC f g B w0 l w' := ⟨h.k.below hb, h.x.below hb⟩
theorem KC.call {P : Program} {f : Nat → Int} {g B : Nat} {w0 w : World} {l : Blks} {fn : FuncId} {args : Array Value} {v : Value} {r : Result Next} (hT : KC f g B w0 l w) (hc : Calls P fn args w fun e w' => e = .returned v ∧ Below w.heap.size w w') (h : r = .ok (.enter fn args) w) : Lands P (KC f g B w0 l) v r :=
  lands_call h (hc.mono fun _ _ ⟨he, hb⟩ => ⟨he, hT.below hb⟩)
theorem KC.blk {f : Nat → Int} {g B : Nat} {w0 w : World} {l : Blks} (h : KC f g B w0 l w) : ∀ x ∈ l, Blk w x.1 x.2.1 x.2.2 := h.k.blk
theorem bytes_start (s : ByteArray) (w : World) (h : s.size = 32) : ∃ cap W1, (convert 9 29 (.string s)).run Tryz.prog w = .ok (.slice (some ⟨w.heap.size, 0, none⟩) 32 cap) W1 ∧ ClX (fun j => (byteS s j : Int)) w.heap.size W1 ∧ Below w.heap.size w W1 := by
  refine ⟨_, _, (Lib.run_convert_string_bytes w _ _ 5 s Tryz.underlying9 Tryz.underlying29 Tryz.underlying5).trans (by rw [h]), ?_⟩
  have hsz : ∀ j, j < 32 → j < (Lib.bytesCells w 5 s).size := fun j hj => by
    unfold Lib.bytesCells; rw [Array.size_append, Array.size_map]
    have : s.data.size = 32 := h
    omega
  refine ⟨⟨fun j hj => ?_, fun j hj => ?_, by rw [Lib.bytesWorld_size]; omega⟩, ⟨rfl, rfl, rfl, by rw [Lib.bytesWorld_size]; omega, fun k hk => Lib.bytesWorld_at_old _ _ _ _ hk⟩⟩
  · rw [Lib.bytesWorld_cell _ _ _ _ (by omega)]
    rw [← byteS_at s j (by omega)]
    congr 3
    rw [List.getD_eq_getElem?_getD, List.getElem?_eq_getElem (by simpa using (show j < s.size by omega))]
    rfl
  · have := hsz j hj
    simp [World.frozen?, Lib.bytesWorld_at_new]
    omega
theorem bytes_end {f : Nat → Int} {g : Nat} {wr : World} (h : ClX f g wr) (n : Nat) (hf : ∀ j, j < 32 → f j = (byteK n j : Int)) (cap : Nat) : (convert 29 9 (.slice (some ⟨g, 0, none⟩) 32 cap)).run Tryz.prog wr = .ok (.string (bytesV n)) wr := by
  have hl : (asBytes ((List.range 32).map fun i => BitVec.ofNat 8 (byteK n i))).length = 32 := by rw [asBytes_length]; simp
  have := run_convert_bytes_back (P := Tryz.prog) wr 29 9 5 ⟨g, 0, none⟩ cap (asBytes ((List.range 32).map fun i => BitVec.ofNat 8 (byteK n i))) Tryz.underlying29 Tryz.underlying5 Tryz.underlying9 (fun j hj => by
    rw [hl] at hj
    rw [addr_add, Nat.zero_add, h.c j hj, hf j hj]
    congr 2
    have hb := byteK_lt n j
    simp only [asBytes, List.getElem_map, List.getElem_range]
    show (byteK n j : Int) = ((BitVec.ofNat 8 (byteK n j)).toNat : Int)
    rw [BitVec.toNat_ofNat, Nat.mod_eq_of_lt (show byteK n j < 2 ^ 8 by omega)])
  rwa [hl] at this
theorem lands_convert {P : Program} {R : World → Prop} {o : Oper} {a : Act} {w w1 : World} {u v : Value} (s d : TypeId) (x : Operand) (ho : o.op = .convert s d x) (hx : a.eval x = u) (h : (convert s d u).run P w = .ok v w1) (hR : R w1) : Lands P R v ((execOp a.eval o).run P w) := by
  have : (execOp a.eval o).run P w = .ok (.value v) w1 := by
    unfold execOp
    simp only [ho, hx, Sem.run_bind, h, Result.andThen_ok, Sem.run_pure]
  rw [this]; exact ⟨rfl, hR⟩
def B255 : Nat := 57896044618658097711785492504343953926634992332820282019728792003956564819968
/-- The number of a point's bytes. -/
def encN (P : Pt) : Nat := P.y + (if oddP P.x = true then B255 else 0)
theorem or128' : ∀ x : Fin 128, bits .or .u8 (x.val : Int) 128 = ((x.val + 128 : Nat) : Int) := by decide +kernel
theorem or128 (x : Nat) (h : x < 128) : bits .or .u8 (x : Int) 128 = ((x + 128 : Nat) : Int) := or128' ⟨x, h⟩
theorem byte_high {y : Nat} (h : y < pP) : byteK y 31 < 128 := by
  have h1 : pP < B255 := by decide
  have e : B255 = 2 ^ (8 * 31) * 128 := by decide
  unfold byteK
  have h2 : y / 2 ^ (8 * 31) < 128 := Nat.div_lt_of_lt_mul (by rw [← e]; omega)
  omega
theorem byte_odd {y : Nat} (h : y < pP) (j : Nat) (hj : j < 32) : byteK (y + B255) j = if j = 31 then byteK y 31 + 128 else byteK y j := by
  have e : B255 = 128 * 2 ^ (8 * 31) := by decide
  have h31 := byte_high h
  by_cases h1 : j = 31
  · subst h1
    rw [if_pos rfl]
    unfold byteK at *
    rw [e, Nat.add_mul_div_right _ _ (Nat.pow_pos (by decide))]
    omega
  · rw [if_neg h1]
    unfold byteK
    obtain ⟨d, hd⟩ : ∃ d, 31 = j + 1 + d := ⟨30 - j, by omega⟩
    have e2 : B255 = (128 * 2 ^ (8 * d)) * 256 * 2 ^ (8 * j) := by
      rw [e, hd, show 8 * (j + 1 + d) = 8 * d + 8 + 8 * j by omega, Nat.pow_add, Nat.pow_add, ← Nat.mul_assoc, ← Nat.mul_assoc]
    rw [e2, Nat.add_mul_div_right _ _ (Nat.pow_pos (by decide)), Nat.add_mul_mod_self_right]
theorem rbytes_is (a : Nat) (s : ByteArray) (w : World) (ha : a < M256) (h : bytesV (a % pP) = s) :
    Calls Tryz.prog 76 #[.agg (r64 4 (F4 a))] w fun e w' => e = .returned (.string s) ∧ Below w.heap.size w w' := by
  have := rbytes_any a w ha
  rw [h] at this; exact this
theorem rodd_is (a : Nat) (w : World) (ha : a < M256) (b : Bool) (h : oddP a = b) :
    Calls Tryz.prog 77 #[.agg (r64 4 (F4 a))] w fun e w' => e = .returned (.bool b) ∧ Below w.heap.size w w' := by
  have := roddP a w ha
  rw [h] at this; exact this
theorem eqP_off {P : Pt} (h : onB P = false) : eqP pZ P = false := eqP_no.2 fun e => by
  rw [← e, onB_C.2 pZ_on] at h; cases h
/-- What Encode answers. -/
def encV (P : Pt) : ByteArray × Bool := if onB P = true then (bytesV (encN P), true) else (⟨#[]⟩, false)
theorem encV_on {P : Pt} (h : onB P = true) : encV P = (bytesV (encN P), true) := if_pos h
theorem encV_off {P : Pt} (h : onB P = false) : encV P = (⟨#[]⟩, false) := if_neg (by rw [h]; decide)
theorem encN_odd {P : Pt} (h : oddP P.x = true) : encN P = P.y + B255 := by unfold encN; rw [if_pos h]
theorem encN_even {P : Pt} (h : oddP P.x = false) : encN P = P.y := by unfold encN; rw [if_neg (by rw [h]; decide), Nat.add_zero]
end Go.Proofs.YtggalphgnloneaaGreat
