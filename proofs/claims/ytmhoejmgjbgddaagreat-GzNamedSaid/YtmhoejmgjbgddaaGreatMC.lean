/- Lists of integers, as they are read; the reference's sum and single of chapter 9. -/
import Derived.Test.YtmhoejmgjbgddaaGreatMB
import Derived.Test.YtmhoejmgjbgddaaGreatMA
import Derived.IntWalk
import Derived.Laws.MakeOwn
import Derived.OwnWalk
import Derived.Laws.BitsAllLaws
namespace Go.Proofs.YtmhoejmgjbgddaaGreat
open Go.RowKit
structure IS (p : Option Addr) (n cap : Nat) (f : Nat → Int) (w : World) : Prop where
 nil_ : p = none → n = 0 ∧ cap = 0
 cell : ∀ a, p = some a → ∀ i, i < n → w.cell? (a.add i) = some (.int .i64 (f i))
 lt : ∀ a, p = some a → a.block < w.heap.size
 lo : ∀ i, i < n → -9223372036854775808 ≤ f i
 hi : ∀ i, i < n → f i < 9223372036854775808
theorem IS.below {p : Option Addr} {n cap : Nat} {f : Nat → Int} {w w' : World} (h : IS p n cap f w) (hb : Below w.heap.size w w') : IS p n cap f w' :=
 ⟨h.nil_, fun a ha i hi => by
  have hl := h.lt a ha
  have : (a.add i).block = a.block := by unfold Addr.add; split <;> rfl
  rw [hb.cell (p := a.add i) (by rw [this]; exact hl)]; exact h.cell a ha i hi, fun a ha => Nat.lt_of_lt_of_le (h.lt a ha) hb.size, h.lo, h.hi⟩
def okB (f : Nat → Int) : Nat → Bool
 | 0 => true
 | k + 1 => okB f k && decide (0 ≤ f k ∧ f k ≤ 15)
theorem okB_true {f : Nat → Int} {n : Nat} : okB f n = true ↔ ∀ i, i < n → 0 ≤ f i ∧ f i ≤ 15 := by
 induction n with
 | zero => exact ⟨fun _ i hi => by omega, fun _ => rfl⟩
 | succ n ih =>
  unfold okB
  rw [Bool.and_eq_true, ih, decide_eq_true_eq]
  constructor
  ·rintro ⟨h1, h2⟩ i hi
   rcases (show i < n ∨ i = n by omega) with h | rfl
   ·exact h1 i h
   ·exact h2
  ·intro h
   exact ⟨fun i hi => h i (by omega), h n (by omega)⟩
def toL (f : Nat → Int) (i : Nat) : Nat := (f i).toNat
theorem kr_le (l : Nat → Nat) (n : Nat) : kr l n ≤ n * 32768 := by
 induction n with
 | zero => exact Nat.zero_le _
 | succ n ih =>
  show kr l n + _ ≤ _
  rw [Nat.add_mul]
  refine Nat.add_le_add ih ?_
  split
  ·exact Nat.zero_le _
  ·rw [Nat.one_mul]
   exact Nat.pow_le_pow_right (by decide) (show 15 - l n ≤ 15 by omega)
end Go.Proofs.YtmhoejmgjbgddaaGreat
/- The reference's Codes and single of chapter 9. -/
namespace Go.Proofs.YtmhoejmgjbgddaaGreat
open Go.RowKit
theorem int_infoC : (Tryz.prog.info? 3).map (fun i => (i.zero, i.size, i.bytes)) = some (some (.int .i64 0), 1, 8) := by kernel_rfl
abbrev rI (n : Nat) (f : Nat → Int) : Array Value := row n fun i => Value.int .i64 (f i)
theorem made_ints (n : Nat) : madeCells #[Value.int .i64 0] n = rI n fun _ => 0 := by
 apply Array.ext
 ·rw [size_madeCells, row_size]
 ·intro i h1 h2
  have h : i < n := by rw [size_madeCells] at h1; exact h1
  have e := row_get (fun i => Value.int .i64 ((fun _ => (0 : Int)) i)) h
  rw [Array.getElem?_eq_getElem h2] at e
  rw [Option.some.inj e]
  simp only [madeCells, Array.getElem_map, Array.getElem_range]
  simp [Nat.mod_one]
theorem run_ints (n : Nat) (hn : n ≤ 35184372088832) (w : World) :
  (Instr.makeSlice 92 (.int .i64 (n : Int)) (.int .i64 (n : Int))).run Tryz.prog w = .ok (.slice (some ⟨w.heap.size, 0, none⟩) n n) (w.alloc (.cells (rI n fun _ => 0) 3)) := by
 obtain ⟨i0, hi, hz0, hz1, hz2⟩ := info_parts int_infoC
 have h := run_make (P := Tryz.prog) w 92 3 i0 (.int .i64 0) Tryz.underlying92 hi hz0 .i64 .i64 n n (by omega) (Int.le_refl _) (by rw [hz2]; omega) (by omega)
 rw [hz1, Int.toNat_natCast, Nat.mul_one, show Value.cells (.int .i64 0) = #[Value.int .i64 0] from rfl, made_ints] at h
 exact h
theorem IS.row {g n cap : Nat} {t : TypeId} {f : Nat → Int} {w : World} (h : Blk w g t (rI n f)) (lo : ∀ i, i < n → -9223372036854775808 ≤ f i) (hi : ∀ i, i < n → f i < 9223372036854775808) : IS (some ⟨g, 0, none⟩) n cap f w :=
 ⟨(fun e => by cases e), (fun a e i hi => by cases e; rw [addr_add, Nat.zero_add]; exact h.at_ hi), (fun a e => by cases e; exact h.lt), lo, hi⟩
theorem cnt_le (l : Nat → Nat) (d n : Nat) : cnt l d n ≤ n := by
 induction n with
 | zero => exact Nat.le_refl _
 | succ n ih => show cnt l d n + _ ≤ _; split <;> omega
structure CoW (p : Option Addr) (n : Nat) (f : Nat → Int) (F : Nat → Int) (g : Nat) (w wr : World) : Prop where
 o : Blk wr g 3 (rI n F)
 l : Below w.heap.size w wr
theorem CoW.put {p : Option Addr} {n : Nat} {f F G : Nat → Int} {g : Nat} {w wr : World} (h : CoW p n f F g w wr) (hg : w.heap.size ≤ g) {k : Nat} (hk : k < n) (v : Int)
  (e : ∀ j, (if j = k then Value.int .i64 v else Value.int .i64 (F j)) = Value.int .i64 (G j)) : CoW p n f G g w (wr.setCell ⟨g, k, none⟩ (.int .i64 v)) :=
 ⟨(h.o.put hk _).cast_ (row_ext fun i _ => e i), h.l.setCell hg _⟩
theorem CoW.cast {p : Option Addr} {n : Nat} {f F G : Nat → Int} {g : Nat} {w wr : World} (h : CoW p n f F g w wr) (e : ∀ j, j < n → F j = G j) : CoW p n f G g w wr :=
 ⟨h.o.cast_ (row_ext fun i hi => by rw [e i hi]), h.l⟩
def codesE (f : Nat → Int) (n : Nat) : Nat := if okB f n = true ∧ n ≤ 300 then if kr (toL f) n ≤ 32768 then 0 else 2 else 1
theorem codesE_arg {f : Nat → Int} {n : Nat} (h : ¬ (okB f n = true ∧ n ≤ 300)) : codesE f n = 1 := by unfold codesE; rw [if_neg h]
theorem codesE_form {f : Nat → Int} {n : Nat} (h : okB f n = true ∧ n ≤ 300) (hk : ¬ kr (toL f) n ≤ 32768) : codesE f n = 2 := by unfold codesE; rw [if_pos h, if_neg hk]
theorem codesE_ok {f : Nat → Int} {n : Nat} (h : okB f n = true ∧ n ≤ 300) (hk : kr (toL f) n ≤ 32768) : codesE f n = 0 := by unfold codesE; rw [if_pos h, if_pos hk]
def sgl (l : Nat → Nat) : Nat → Nat
 | 0 => 0
 | k + 1 => sgl l k + l k
end Go.Proofs.YtmhoejmgjbgddaaGreat
/- Lists of integers of one's own; the reference's New of chapter 9. -/
namespace Go.Proofs.YtmhoejmgjbgddaaGreat
open Go.RowKit
structure LI (B : Nat) (w0 : World) (l : List Int) (v : Value) (wr : World) : Prop where
 own : wr.ownsRow B 3 1 v l.length (l.map fun (x : Int) => Value.int .i64 x)
 b : Below B w0 wr
 lo : B ≤ wr.heap.size
theorem LI.nil {B : Nat} {w0 w : World} (h : Below B w0 w) (hB : B ≤ w.heap.size) : LI B w0 [] (.slice none 0 0) w := ⟨⟨rfl, .inl ⟨rfl, rfl⟩⟩, h, hB⟩
theorem LI.below {B : Nat} {w0 w w' : World} {l : List Int} {v : Value} (h : LI B w0 l v w) (hb : Below w.heap.size w w') : LI B w0 l v w' := by
 refine ⟨⟨h.own.1, ?_⟩, h.b.trans (hb.mono h.lo), Nat.le_trans h.lo hb.size⟩
 rcases h.own.2 with h1 | ⟨g, cap, cur, h1, h2, h3, h4⟩
 ·exact .inl h1
 ·refine .inr ⟨g, cap, cur, h1, h2, ?_, h4⟩
  rw [hb.block g (by
   rcases Nat.lt_or_ge g w.heap.size with hlt | hge
   ·exact hlt
   ·rw [Array.getElem?_eq_none hge] at h3; cases h3)]
  exact h3
def firstI (f : Nat → Int) (n : Nat) : List Int := (List.range n).map f
theorem firstI_len (f : Nat → Int) (n : Nat) : (firstI f n).length = n := by simp [firstI]
theorem LI.is {B : Nat} {w0 w : World} {f : Nat → Int} {n : Nat} {v : Value} (h : LI B w0 (firstI f n) v w) (lo : ∀ i, i < n → -9223372036854775808 ≤ f i) (hi : ∀ i, i < n → f i < 9223372036854775808) :
  ∃ p cap, v = .slice p n cap ∧ IS p n cap f w ∧ ∀ a, p = some a → B ≤ a.block := by
 have hown := h.own
 rw [firstI_len] at hown
 rcases hown.2 with ⟨h1, h2⟩ | ⟨g, cap, cur, h1, h2, h3, h4, h5, h6, h7⟩
 ·subst h2; exact ⟨none, 0, h1, ⟨fun _ => ⟨rfl, rfl⟩, (fun a e => by cases e), (fun a e => by cases e), lo, hi⟩, (fun a e => by cases e)⟩
 ·refine ⟨some ⟨g, 0, none⟩, cap, h1, ⟨(fun e => by cases e), (fun a e i hi2 => ?_), (fun a e => ?_), lo, hi⟩, (fun a e => by cases e; exact h2)⟩
  ·cases e
   rw [addr_add, Nat.zero_add, cell_of_row w g i cur 3 (0, 0) h3]
   have : (cur.toList.take (n * 1))[i]? = some (.int .i64 (f i)) := by
    rw [h7, firstI, List.map_map, List.getElem?_map, List.getElem?_range hi2]; rfl
   rw [List.getElem?_take, if_pos (by omega)] at this
   simpa using this
  ·cases e
   show g < _
   rcases Nat.lt_or_ge g w.heap.size with hlt | hge
   ·exact hlt
   ·rw [Array.getElem?_eq_none hge] at h3; cases h3
theorem IS.set {p : Option Addr} {n cap : Nat} {f : Nat → Int} {w : World} (h : IS p n cap f w) (q : Addr) (v : Value) (hne : ∀ a, p = some a → a.block ≠ q.block) : IS p n cap f (w.setCell q v) :=
 ⟨h.nil_, (fun a ha i hi => by
  have hb : (a.add i).block = a.block := by unfold Addr.add; split <;> rfl
  have : (a.add i).block ≠ q.block := by rw [hb]; exact hne a ha
  rw [World.cell?_of_block (Below.heap_setCell w q v _ this)]; exact h.cell a ha i hi), (fun a ha => by simp [World.setCell]; exact h.lt a ha), h.lo, h.hi⟩
def newE (f : Nat → Int) (n : Nat) : Nat := if codesE f n = 0 then if kr (toL f) n = 32768 ∨ kr (toL f) n = 0 ∨ sgl (toL f) n = 1 then 0 else 2 else codesE f n
theorem codesE_zero {f : Nat → Int} {n : Nat} (h : codesE f n = 0) : (okB f n = true ∧ n ≤ 300) ∧ kr (toL f) n ≤ 32768 := by
 unfold codesE at h
 by_cases h1 : okB f n = true ∧ n ≤ 300
 ·rw [if_pos h1] at h
  by_cases h2 : kr (toL f) n ≤ 32768
  ·exact ⟨h1, h2⟩
  ·rw [if_neg h2] at h; cases h
 ·rw [if_neg h1] at h; cases h
end Go.Proofs.YtmhoejmgjbgddaaGreat
/- The reference's Next of chapter 9. -/
namespace Go.Proofs.YtmhoejmgjbgddaaGreat
open Go.RowKit
def bitH (s : ByteArray) (i : Nat) : Nat := byteS s (i / 8) / 2 ^ (i % 8) % 2
structure NxW (p1 : Option Addr) (c1 : Nat) (p2 : Option Addr) (c2 n g : Nat) (f f2 : Nat → Int) (w wr : World) : Prop where
 l : IS p1 n c1 f wr
 c : IS p2 n c2 f2 wr
 o : Blk wr g 125 #[.slice p1 n c1, .slice p2 n c2]
 b : Below w.heap.size w wr
theorem NxW.c0 {p1 p2 : Option Addr} {c1 c2 n g : Nat} {f f2 : Nat → Int} {w wr : World} (h : NxW p1 c1 p2 c2 n g f f2 w wr) : wr.cell? ⟨g, 0, none⟩ = some (.slice p1 n c1) := h.o.cell 0
theorem NxW.c1 {p1 p2 : Option Addr} {c1 c2 n g : Nat} {f f2 : Nat → Int} {w wr : World} (h : NxW p1 c1 p2 c2 n g f f2 w wr) : wr.cell? ⟨g, 1, none⟩ = some (.slice p2 n c2) := h.o.cell 1
theorem rv_lt {B : Nat → Nat} (hB : ∀ i, B i < 2) (at_ k : Nat) : rv B at_ k < 2 ^ k := by
 induction k with
 | zero => exact Nat.one_pos
 | succ k ih => have := hB (at_ + k); show 2 * rv B at_ k + B (at_ + k) < _; rw [Nat.pow_succ]; omega
theorem bitH_lt (s : ByteArray) (i : Nat) : bitH s i < 2 := Nat.mod_lt _ (by decide)
theorem nextV_end (l : Nat → Nat) (n : Nat) (B : Nat → Nat) (T at_ d f : Nat) (h : T ≤ at_ + d) : nextV l n B T at_ d (f + 1) = (0, 0, 3) := if_pos h
theorem nextV_found {l : Nat → Nat} {n : Nat} {B : Nat → Nat} {T at_ d f k : Nat} (h : ¬ T ≤ at_ + d) (hk : fnd l n (d + 1) (rv B at_ (d + 1)) n = some k) : nextV l n B T at_ d (f + 1) = (k, at_ + d + 1, 0) := by
 unfold nextV
 rw [if_neg h, hk]
theorem nextV_not {l : Nat → Nat} {n : Nat} {B : Nat → Nat} {T at_ d f : Nat} (h : ¬ T ≤ at_ + d) (hk : fnd l n (d + 1) (rv B at_ (d + 1)) n = none) : nextV l n B T at_ d (f + 1) = nextV l n B T at_ (d + 1) f := by
 rw [nextV, if_neg h, hk]
end Go.Proofs.YtmhoejmgjbgddaaGreat
