/- order of the document's answer: L's bytes. -/
import Derived.Test.YtggalphgnloneaaMK
import Derived.Laws.AppendOwn
import Derived.OwnWalk
import Derived.Test.YtggalphgnloneaaMA
import Derived.Lib.ConvBytes
import Derived.Laws.IdiomStrings
namespace Go.Proofs.Ytggalphgnloneaa.L4
open Go.RowKit
/-- A number's byte as a value. -/
def bK (n i : Nat) : Value := .int .i64 (byteK n i : Int)
/-- The first k bytes of n. -/
def lK (n k : Nat) : List Value := (List.range k).map (bK n)
theorem lK_length (n k : Nat) : (lK n k).length = k := by unfold lK; simp
theorem lK_succ (n k : Nat) : lK n (k + 1) = lK n k ++ [bK n k] := by unfold lK; rw [List.range_succ, List.map_append]; rfl
theorem int_info : (Try.prog.info? 3).map (fun i => (i.zero, i.size, i.bytes)) = some (some (.int .i64 0), 1, 8) := by kernel_rfl
theorem first16 : [Value.int .i64 237, .int .i64 211, .int .i64 245, .int .i64 92, .int .i64 26, .int .i64 99, .int .i64 18, .int .i64 88, .int .i64 214, .int .i64 156, .int .i64 247, .int .i64 162, .int .i64 222, .int .i64 249, .int .i64 222, .int .i64 20] = lK qL 16 := by kernel_rfl
theorem zero_bytes' : ∀ k : Fin 31, 16 ≤ k.val → byteK qL k.val = 0 := by decide +kernel
theorem zero_byte {k : Nat} (h : 16 ≤ k) (h2 : k < 31) : bK qL k = .int .i64 0 := by unfold bK; rw [zero_bytes' ⟨k, h2⟩ h]; rfl
theorem last_byte : bK qL 31 = .int .i64 16 := by kernel_rfl
def lenV : Value → Nat
  | .slice _ n _ => n
  | _ => 0
theorem own_len {w : World} {base : Nat} {e : TypeId} {size n : Nat} {v : Value} {xs : List Value} (h : w.ownsRow base e size v n xs) : lenV v = n := by
  rcases h.2 with ⟨rfl, rfl⟩ | ⟨g, cap, cur, rfl, _⟩ <;> rfl
theorem own_slice {w : World} {base : Nat} {e : TypeId} {size n : Nat} {v : Value} {xs : List Value} (h : w.ownsRow base e size v n xs) (hn : 0 < n) : ∃ g cap, v = .slice (some ⟨g, 0, none⟩) n cap := by
  rcases h.2 with ⟨rfl, rfl⟩ | ⟨g, cap, cur, rfl, _⟩
  · omega
  · exact ⟨g, cap, rfl⟩
/-- L's list, grown to k. -/
structure OrW (k : Nat) (w : World) (v : Value) (wr : World) : Prop where
  own : wr.ownsRow w.heap.size 3 1 v k (lK qL k)
  b : Below w.heap.size w wr
end Go.Proofs.Ytggalphgnloneaa.L4
/- below of the document's answer. -/
namespace Go.Proofs.Ytggalphgnloneaa.L4
open Go.RowKit
theorem own_at {w : World} {base n : Nat} {e : TypeId} {g cap : Nat} {f : Nat → Value} (h : w.ownsRow base e 1 (.slice (some ⟨g, 0, none⟩) n cap) n ((List.range n).map f)) {j : Nat} (hj : j < n) : w.cell? ⟨g, j, none⟩ = some (f j) := by
  have := h.cells (g := g) rfl j (f j) (by rw [List.getElem?_map, List.getElem?_range hj]; rfl)
  rwa [addr_add, Nat.zero_add] at this
/-- Within below: the number's list, L's list. -/
structure BlW (R gr gl : Nat) (w wr : World) : Prop where
  r : Blk wr gr 3 (row 33 (bK R))
  l : ∀ j, j < 32 → wr.cell? ⟨gl, j, none⟩ = some (bK qL j)
  b : Below w.heap.size w wr
theorem BlW.drew {R gr gl : Nat} {w wr : World} (h : BlW R gr gl w wr) : BlW R gr gl w wr.drew := ⟨h.r, h.l, h.b.drew⟩
theorem BlW.ra {R gr gl : Nat} {w wr : World} (h : BlW R gr gl w wr) {j : Nat} (hj : j < 33) : wr.cell? ⟨gr, j, none⟩ = some (.int .i64 (byteK R j : Int)) := h.r.at_ hj
theorem BlW.la {R gr gl : Nat} {w wr : World} (h : BlW R gr gl w wr) {j : Nat} (hj : j < 32) : wr.cell? ⟨gl, j, none⟩ = some (.int .i64 (byteK qL j : Int)) := h.l j hj
end Go.Proofs.Ytggalphgnloneaa.L4
/- Reduce of the document's answer. -/
namespace Go.Proofs.Ytggalphgnloneaa.L4
open Go.RowKit
theorem own_blk {w : World} {base n : Nat} {e : TypeId} {g cap : Nat} {f : Nat → Value} (h : w.ownsRow base e 1 (.slice (some ⟨g, 0, none⟩) n cap) n ((List.range n).map f)) : (∃ cs, Blk w g e cs ∧ ∀ j, j < n → cs[j]? = some (f j)) ∧ base ≤ g := by
  rcases h.2 with ⟨h1, _⟩ | ⟨g', cap', cur, h1, hb, hg, _, _, _, ht⟩
  · cases h1
  · cases h1
    refine ⟨⟨cur, hg, fun j hj => ?_⟩, hb⟩
    have : (cur.toList.take (n * 1))[j]? = some (f j) := by rw [ht, List.getElem?_map, List.getElem?_range hj]; rfl
    rw [List.getElem?_take, if_pos (by omega)] at this
    simpa using this
/-- Within Reduce: the rest's list, L's list. -/
structure RdW (f : Nat → Value) (gr gl : Nat) (w wr : World) : Prop where
  r : Blk wr gr 3 (row 33 f)
  l : ∃ cs, Blk wr gl 3 cs ∧ ∀ j, j < 33 → cs[j]? = some (bK qL j)
  b : Below w.heap.size w wr
  lt : w.heap.size ≤ gl ∧ gl < gr
variable {f : Nat → Value} {gr gl : Nat} {w wr w' : World}
theorem RdW.drew (h : RdW f gr gl w wr) : RdW f gr gl w wr.drew := ⟨h.r, h.l, h.b.drew, h.lt⟩
theorem RdW.below (h : RdW f gr gl w wr) (hb : Below wr.heap.size wr w') : RdW f gr gl w w' := by
  obtain ⟨cs, hl, hc⟩ := h.l
  exact ⟨h.r.below hb h.r.lt, ⟨cs, hl.below hb hl.lt, hc⟩, h.b.trans (hb.mono h.b.size), h.lt⟩
theorem RdW.la (h : RdW f gr gl w wr) {j : Nat} (hj : j < 33) : wr.cell? ⟨gl, j, none⟩ = some (.int .i64 (byteK qL j : Int)) := by
  obtain ⟨cs, hl, hc⟩ := h.l
  exact (hl.cell j).trans (hc j hj)
theorem RdW.put {f' : Nat → Value} (h : RdW f gr gl w wr) {k : Nat} (hk : k < 33) (v : Value) (hf : ∀ j, j < 33 → (if j = k then v else f j) = f' j) : RdW f' gr gl w (wr.setCell ⟨gr, k, none⟩ v) := by
  obtain ⟨cs, hl, hc⟩ := h.l
  exact ⟨(h.r.put hk v).cast_ (row_ext hf), ⟨cs, hl.far (Nat.ne_of_lt h.lt.2) v, hc⟩, h.b.setCell (Nat.le_of_lt (Nat.lt_of_le_of_lt h.lt.1 h.lt.2)) _, h.lt⟩
theorem RdW.cast (h : RdW f gr gl w wr) {f' : Nat → Value} (hf : ∀ j, j < 33 → f j = f' j) : RdW f' gr gl w wr := ⟨h.r.cast_ (row_ext hf), h.l, h.b, h.lt⟩
theorem zero_row : (Array.replicate 33 (Value.int .i64 0)) = row 33 (bK 0) := by kernel_rfl
def mK (R R' k j : Nat) : Value := if j < k then bK R' j else bK R j
theorem mK_zero (R R' j : Nat) : bK R j = mK R R' 0 j := by unfold mK; rw [if_neg (by omega)]
theorem mK_put (R R' k j : Nat) : (if j = k then bK R' k else mK R R' k j) = mK R R' (k + 1) j := by
  unfold mK
  by_cases h : j = k
  · subst h; rw [if_pos rfl, if_pos (by omega)]
  · rw [if_neg h]
    by_cases h2 : j < k
    · rw [if_pos h2, if_pos (by omega)]
    · rw [if_neg h2, if_neg (by omega)]
theorem mK_all (R R' j : Nat) (h : j < 33) : mK R R' 33 j = bK R' j := by unfold mK; rw [if_pos h]
theorem lK33 : lK qL 33 = lK qL 32 ++ [.int .i64 0] := by rw [lK_succ]; kernel_rfl
theorem byteS_extract (s : ByteArray) (n j : Nat) (hn : n ≤ s.size) (hj : j < n) : byteS (s.extract 0 n) j = byteS s j := by
  unfold byteS
  have h1 : j < (s.extract 0 n).size := by rw [ByteArray.size_extract]; omega
  rw [dif_pos h1, dif_pos (by omega), ByteArray.getElem_extract]
  congr 2; omega
theorem rdk {X X' k gr gl : Nat} {w wr : World} (h : RdW (mK X X' k) gr gl w wr) (hk : k < 33) : wr.cell? ⟨gr, k, none⟩ = some (Value.int .i64 (byteK X k : Int)) :=
  (h.r.at_ hk).trans (by unfold mK; rw [if_neg (Nat.lt_irrefl k)]; rfl)
/-- Within Reduce's end: the bytes so far. -/
structure RyW (M k gb gr gl : Nat) (w wr : World) : Prop where
  d : RdW (bK M) gr gl w wr
  o : Blk wr gb 5 (r8 32 (bF M k))
  lt : gr < gb
theorem RyW.put {M k gb gr gl : Nat} {w wr : World} (h : RyW M k gb gr gl w wr) (hk : k < 32) : RyW M (k + 1) gb gr gl w (wr.setCell ⟨gb, k, none⟩ (.int .u8 (byteK M k : Int))) := by
  obtain ⟨cs, hl, hc⟩ := h.d.l
  have l1 := h.d.lt
  have l2 := h.lt
  exact ⟨⟨h.d.r.far (show gr ≠ gb by omega) _, ⟨cs, hl.far (show gl ≠ gb by omega) _, hc⟩, h.d.b.setCell (show w.heap.size ≤ gb by omega) _, l1⟩, (h.o.put hk _).cast_ (row_ext fun j _ => by rw [byte_iw]; exact bF_put _ _ _), l2⟩
theorem step1 {R b k : Nat} : (2 * (byteK R k : Int) + (dc R b k : Int)).tmod 256 = (byteK (2 * R + b) k : Int) := by
  rw [Int.tmod_eq_emod_of_nonneg (by omega), ← dc_byte R b k]; omega
theorem step2 {R b k : Nat} : (2 * (byteK R k : Int) + (dc R b k : Int)).tdiv 256 = (dc R b (k + 1) : Int) := by
  rw [Int.tdiv_eq_ediv_of_nonneg (by omega), ← dc_next R b k]; omega
theorem step3 {X k : Nat} (h : qL ≤ X) : ((byteK X k : Int) - (byteK qL k : Int) - (bo X qL k : Int) + 256).tmod 256 = (byteK (X - qL) k : Int) := by
  have h1 := byteK_lt X k
  have h2 := byteK_lt qL k
  have h3 := bo_le X qL k
  rw [Int.tmod_eq_emod_of_nonneg (by omega), ← bo_byte X qL k h]; omega
theorem step4 {X k : Nat} : 1 - ((byteK X k : Int) - (byteK qL k : Int) - (bo X qL k : Int) + 256).tdiv 256 = (bo X qL (k + 1) : Int) := by
  have h1 := byteK_lt X k
  have h2 := byteK_lt qL k
  have h3 := bo_le X qL k
  rw [Int.tdiv_eq_ediv_of_nonneg (by omega), ← bo_next X qL k]; omega
end Go.Proofs.Ytggalphgnloneaa.L4
/- Reduce of the document's answer, of any text; Right. -/
namespace Go.Proofs.Ytggalphgnloneaa.L4
open Go.RowKit
/-- Reduce: P4.1. -/
def redV (s : ByteArray) : ByteArray := bytesV (numV s 64 % qL)
theorem text_eq (r s : ByteArray) : (r.toList == s.toList) = decide (r = s) := by
  rw [Bool.eq_iff_iff, beq_iff_eq, decide_eq_true_eq, ByteArray.toList_eq, ByteArray.toList_eq]
  exact ⟨fun h => ByteArray.ext (Array.toList_inj.mp h), fun h => by rw [h]⟩
end Go.Proofs.Ytggalphgnloneaa.L4
/- Clamp of the document's answer; Bit of any number. -/
namespace Go.Proofs.Ytggalphgnloneaa.L4
open Go.RowKit
/-- The bytes that Clamp answers. -/
def clampB (s : ByteArray) (j : Nat) : Nat := if j = 31 then byteS s 31 % 64 + 64 else if j = 0 then byteS s 0 / 8 * 8 else byteS s j
def clampL (s : ByteArray) : List UInt8 := (List.range 32).map fun j => UInt8.ofNat (clampB s j)
def clampV (s : ByteArray) : ByteArray × Bool := if s.size = 32 then (⟨(clampL s).toArray⟩, true) else (⟨#[]⟩, false)
theorem clampB_lt (s : ByteArray) (j : Nat) : clampB s j < 256 := by
  unfold clampB
  have h0 := byteS_lt s 0
  have h1 := byteS_lt s j
  split
  · omega
  · split <;> omega
/-- Bytes in a block whose row is a conversion's. -/
structure ClW (f : Nat → Int) (g : Nat) (w wr : World) : Prop where
  c : ∀ j, j < 32 → wr.cell? ⟨g, j, none⟩ = some (.int .u8 (f j))
  fz : ∀ j, j < 32 → wr.frozen? ⟨g, j, none⟩ = false
  b : Below w.heap.size w wr
  ge : w.heap.size ≤ g
theorem ClW.put {f : Nat → Int} {g : Nat} {w wr : World} (h : ClW f g w wr) {k : Nat} (hk : k < 32) (v : Int) : ClW (fun j => if j = k then v else f j) g w (wr.setCell ⟨g, k, none⟩ (.int .u8 v)) :=
  ⟨fun j hj => by
    by_cases h1 : j = k
    · subst h1; simp only [if_true]; exact World.cell?_setCell_same _ _ _ (h.c j hj)
    · have hne : (⟨g, k, none⟩ : Addr) ≠ ⟨g, j, none⟩ := by intro hh; injection hh with _ h2; exact h1 h2.symm
      rw [if_neg h1, World.cell?_setCell_other _ _ _ _ hne]; exact h.c j hj,
   fun j hj => (World.frozen?_setCell _ _ _ _).trans (h.fz j hj), h.b.setCell h.ge _, h.ge⟩
theorem conv_start (s : ByteArray) (w : World) (h : s.size = 32) : ∃ cap W1, (convert 9 30 (.string s)).run Try.prog w = .ok (.slice (some ⟨w.heap.size, 0, none⟩) 32 cap) W1 ∧ ClW (fun j => (byteS s j : Int)) w.heap.size w W1 := by
  refine ⟨_, _, (Lib.run_convert_string_bytes w _ _ 5 s Try.underlying9 Try.underlying30 Try.underlying5).trans (by rw [h]), ?_⟩
  have hsz : ∀ j, j < 32 → j < (Lib.bytesCells w 5 s).size := fun j hj => by
    unfold Lib.bytesCells; rw [Array.size_append, Array.size_map]
    have : s.data.size = 32 := h
    omega
  refine ⟨fun j hj => ?_, fun j hj => ?_, ⟨rfl, rfl, rfl, by rw [Lib.bytesWorld_size]; omega, fun k hk => Lib.bytesWorld_at_old _ _ _ _ hk⟩, Nat.le_refl _⟩
  · rw [Lib.bytesWorld_cell _ _ _ _ (by omega)]
    rw [← byteS_at s j (by omega)]
    congr 3
    rw [List.getD_eq_getElem?_getD, List.getElem?_eq_getElem (by simpa using (show j < s.size by omega))]
    rfl
  · have := hsz j hj
    simp [World.frozen?, Lib.bytesWorld_at_new]
    omega
theorem conv_end {f : Nat → Int} {g : Nat} {w wr : World} (h : ClW f g w wr) (s : ByteArray) (hf : ∀ j, j < 32 → f j = (clampB s j : Int)) (cap : Nat) : (convert 30 9 (.slice (some ⟨g, 0, none⟩) 32 cap)).run Try.prog wr = .ok (.string ⟨(clampL s).toArray⟩) wr := by
  have hl : (clampL s).length = 32 := by unfold clampL; simp
  have := run_convert_bytes_back (P := Try.prog) wr 30 9 5 ⟨g, 0, none⟩ cap (clampL s) Try.underlying30 Try.underlying5 Try.underlying9 (fun j hj => by
    rw [addr_add, Nat.zero_add, h.c j (by omega), hf j (by omega)]
    have hb := clampB_lt s j
    simp [clampL]
    omega)
  rwa [hl] at this
end Go.Proofs.Ytggalphgnloneaa.L4
/- Lists of numbers that carry: what MulAdd wants; Bit of any number. -/
namespace Go.Proofs.Ytggalphgnloneaa.L4
open Go.RowKit
theorem bv_add (o : Nat → Nat) (j x : Nat) : ∀ n, j < n → bv (fun i => if i = j then o i + x else o i) n = bv o n + x * 2 ^ (8 * j)
  | 0, h => by omega
  | n + 1, h => by
    show bv _ n + (if n = j then o n + x else o n) * 2 ^ (8 * n) = bv o n + o n * 2 ^ (8 * n) + x * 2 ^ (8 * j)
    by_cases hn : n = j
    · subst hn
      rw [if_pos rfl, bv_congr (f := fun i => if i = n then o i + x else o i) (g := o) n (fun i hi => by rw [if_neg (by omega)]), Nat.add_mul]
      omega
    · rw [if_neg hn, bv_add o j x n (by omega)]
      omega
/-- The carry into place k. -/
def cK (o : Nat → Nat) (k : Nat) : Nat := bv o k / 2 ^ (8 * k)
theorem cK_zero (o : Nat → Nat) : cK o 0 = 0 := by unfold cK; show 0 / _ = 0; rw [Nat.zero_div]
theorem cK_sum (o : Nat → Nat) (k : Nat) : bv o (k + 1) / 2 ^ (8 * k) = o k + cK o k := by
  unfold cK
  show (bv o k + o k * 2 ^ (8 * k)) / 2 ^ (8 * k) = _
  rw [Nat.add_mul_div_right _ _ (Nat.pow_pos (by decide)), Nat.add_comm]
theorem cK_next (o : Nat → Nat) (k : Nat) : (o k + cK o k) / 256 = cK o (k + 1) := by
  rw [← cK_sum, Nat.div_div_eq_div_mul, ← pow8]; rfl
theorem bv_high (o : Nat → Nat) (k : Nat) : ∀ n, k ≤ n → ∃ h, bv o n = bv o k + h * 2 ^ (8 * k)
  | 0, hn => ⟨0, by rw [show k = 0 by omega, Nat.zero_mul, Nat.add_zero]⟩
  | n + 1, hn => by
    by_cases he : k = n + 1
    · subst he; exact ⟨0, by rw [Nat.zero_mul]; rfl⟩
    · obtain ⟨h, e⟩ := bv_high o k n (by omega)
      obtain ⟨d, rfl⟩ : ∃ d, n = k + d := ⟨n - k, by omega⟩
      refine ⟨h + o (k + d) * 2 ^ (8 * d), ?_⟩
      show bv o (k + d) + o (k + d) * 2 ^ (8 * (k + d)) = _
      rw [e, Nat.mul_add 8, Nat.pow_add, Nat.add_mul h, Nat.mul_assoc (o (k + d)), Nat.mul_comm (2 ^ (8 * d))]
      omega
theorem cK_byte (o : Nat → Nat) (k n : Nat) (h : k < n) : (o k + cK o k) % 256 = byteK (bv o n) k := by
  obtain ⟨d, e⟩ := bv_high o (k + 1) n h
  unfold byteK
  rw [← cK_sum, e, pow8, show d * (2 ^ (8 * k) * 256) = d * 256 * 2 ^ (8 * k) by rw [Nat.mul_comm (2 ^ (8 * k)), Nat.mul_assoc], Nat.add_mul_div_right _ _ (Nat.pow_pos (by decide)), Nat.add_mul_mod_self_right]
theorem cK_le (o : Nat → Nat) (m : Nat) (ho : ∀ j, o j ≤ m) : ∀ k, cK o k ≤ m
  | 0 => by rw [cK_zero]; omega
  | k + 1 => by
    have h := cK_le o m ho k
    have h1 := ho k
    rw [← cK_next]; omega
end Go.Proofs.Ytggalphgnloneaa.L4
/- MulAdd of the document's answer. -/
namespace Go.Proofs.Ytggalphgnloneaa.L4
open Go.RowKit
def oV (o : Nat → Nat) (j : Nat) : Value := .int .i64 (o j : Int)
def addO (o : Nat → Nat) (d x : Nat) (j : Nat) : Nat := if j = d then o j + x else o j
/-- Within MulAdd: the list of sums. -/
structure MaW (o : Nat → Nat) (g : Nat) (w wr : World) : Prop where
  r : Blk wr g 3 (row 64 (oV o))
  b : Below w.heap.size w wr
  ge : w.heap.size ≤ g
theorem MaW.drew {o : Nat → Nat} {g : Nat} {w wr : World} (h : MaW o g w wr) : MaW o g w wr.drew := ⟨h.r, h.b.drew, h.ge⟩
theorem MaW.at_ {o : Nat → Nat} {g : Nat} {w wr : World} (h : MaW o g w wr) {j : Nat} (hj : j < 64) : wr.cell? ⟨g, j, none⟩ = some (.int .i64 (o j : Int)) := h.r.at_ hj
theorem MaW.add {o : Nat → Nat} {g : Nat} {w wr : World} (h : MaW o g w wr) {d : Nat} (hd : d < 64) (x : Nat) : MaW (addO o d x) g w (wr.setCell ⟨g, d, none⟩ (.int .i64 ((o d + x : Nat) : Int))) :=
  ⟨(h.r.put hd _).cast_ (row_ext fun j _ => by
    unfold oV addO
    by_cases h1 : j = d
    · subst h1; rw [if_pos rfl, if_pos rfl]
    · rw [if_neg h1, if_neg h1]), h.b.setCell h.ge _, h.ge⟩
theorem addO_bv (o : Nat → Nat) {d : Nat} (hd : d < 64) (x : Nat) : bv (addO o d x) 64 = bv o 64 + x * 2 ^ (8 * d) := bv_add o d x 64 hd
theorem addO_le {o : Nat → Nat} {m x d : Nat} (h : ∀ j, o j ≤ m) (j : Nat) : addO o d x j ≤ m + x := by
  unfold addO; have := h j; split <;> omega
theorem bv_none (n : Nat) : bv (fun _ => 0) n = 0 := by
  induction n with
  | zero => rfl
  | succ n ih => show bv _ n + 0 * _ = 0; rw [ih, Nat.zero_mul]
theorem zero64 : row 64 (oV fun _ => 0) = row 64 (fun _ => Value.int .i64 0) := rfl
theorem mul_next (S x B y k i : Nat) (h : S = B + x * y * 2 ^ (8 * i)) (z : Nat) : S + x * z * 2 ^ (8 * (i + k)) = B + x * (y + z * 2 ^ (8 * k)) * 2 ^ (8 * i) := by
  have e : x * z * 2 ^ (8 * (i + k)) = x * (z * 2 ^ (8 * k)) * 2 ^ (8 * i) := by
    rw [Nat.mul_add 8, Nat.pow_add, Nat.mul_comm (2 ^ (8 * i)), ← Nat.mul_assoc, Nat.mul_assoc x z]
  rw [h, e, Nat.mul_add, Nat.add_mul]; omega
theorem mul_row (A x B i : Nat) : A * B + x * B * 2 ^ (8 * i) = (A + x * 2 ^ (8 * i)) * B := by
  rw [Nat.add_mul, Nat.mul_assoc x, Nat.mul_comm B, ← Nat.mul_assoc]
/-- 64 bytes of a number as a text. -/
def t64 (V : Nat) : ByteArray := ⟨(asBytes ((List.range 64).map (bF V 64))).toArray⟩
theorem t64_size (V : Nat) : (t64 V).size = 64 := by
  show (asBytes _).toArray.size = 64
  simp [asBytes]
theorem t64_byte (V j : Nat) (hj : j < 64) : byteS (t64 V) j = byteK V j := by
  unfold byteS
  rw [dif_pos (by rw [t64_size]; exact hj)]
  show ((t64 V).data[j]'_).toNat = _
  simp only [t64, asBytes, List.getElem_toArray, List.getElem_map, List.getElem_range]
  show (bF V 64 j).toNat = _
  unfold bF
  rw [if_pos hj, BitVec.toNat_ofNat]
  exact Nat.mod_eq_of_lt (byteK_lt _ _)
theorem bv_twice (V i : Nat) (h : V < 2 ^ (8 * i) * 2 ^ (8 * i)) : bv (byteK V) (i + i) = V := by
  rw [bv_bytes, Nat.mul_add, Nat.pow_add, Nat.mod_eq_of_lt h]
/-- MulAdd: P4.1. -/
def maV (a b c : ByteArray) : ByteArray := bytesV ((numV a 32 * numV b 32 + numV c 32) % qL)
theorem numV_lt (s : ByteArray) : numV s 32 < 2 ^ (8 * 32) :=
  Nat.lt_of_lt_of_le (bv_lt _ (byteS_lt s) _) (Nat.pow_le_pow_right (by decide) (by omega))
theorem sum_lt {A B C M : Nat} (hA : A < M) (hB : B < M) (hC : C < M) : A * B + C < M * M := by
  have h1 := Nat.mul_le_mul_left A (Nat.le_of_lt hB)
  have h2 := Nat.mul_le_mul_right M (show A + 1 ≤ M from hA)
  rw [Nat.succ_mul] at h2
  omega
theorem red_t64 {V : Nat} (h : V < 2 ^ (8 * 32) * 2 ^ (8 * 32)) : redV (t64 V) = bytesV (V % qL) := by
  unfold redV numV
  rw [t64_size, show min 64 64 = 32 + 32 by rfl, bv_congr (32 + 32) (fun j hj => t64_byte V j hj), bv_twice V 32 h]
/-- Within MulAdd's end: the sums, the bytes so far. -/
structure MbW (o : Nat → Nat) (V k gb g : Nat) (w wr : World) : Prop where
  d : MaW o g w wr
  o : Blk wr gb 5 (r8 64 (bF V k))
  lt : g < gb
theorem MbW.put {o : Nat → Nat} {V k gb g : Nat} {w wr : World} (h : MbW o V k gb g w wr) (hk : k < 64) : MbW o V (k + 1) gb g w (wr.setCell ⟨gb, k, none⟩ (.int .u8 (byteK V k : Int))) := by
  have l1 := h.d.ge
  have l2 := h.lt
  exact ⟨⟨h.d.r.far (show g ≠ gb by omega) _, h.d.b.setCell (show w.heap.size ≤ gb by omega) _, l1⟩, (h.o.put hk _).cast_ (row_ext fun j _ => by rw [byte_iw]; exact bF_put _ _ _), l2⟩
end Go.Proofs.Ytggalphgnloneaa.L4
