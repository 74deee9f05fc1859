/- Layer 10 in numbers: what was packed, unpacked: bits, symbols, blocks. -/
import Derived.Test.YtiphnnaanjjaoaaMD
import Derived.Test.YtiphnnaanjjaoaaMA
import Derived.OwnWalk
import Derived.Laws.BitsLemmas
import Derived.IntWalk
import Derived.Test.YtiphnnaanjjaoaaMC
import Derived.Deep.QuietTactic
import Derived.BigQuiet
import Derived.Deep.AppendLies
namespace Go.Proofs.Ytiphnnaanjjaoaa
open Go.RowKit
/-- Lengths: the least one, and how many bits more. -/
def lbits (k : Nat) : Nat := (k - 4) / 4
def lbase : Nat → Nat
  | 0 => 3
  | k + 1 => lbase k + 2 ^ lbits k
def dbits (k : Nat) : Nat := k / 2 - 1
def dbase : Nat → Nat
  | 0 => 1
  | k + 1 => dbase k + 2 ^ dbits k
/-- What Length answers, Distance. -/
def lengthV (x : Int) : Nat × Nat × Bool := if x = 285 then (258, 0, true) else if 257 ≤ x ∧ x ≤ 284 then (lbase (x - 257).toNat, lbits (x - 257).toNat, true) else (0, 0, false)
def distV (x : Int) : Nat × Nat × Bool := if 0 ≤ x ∧ x ≤ 29 then (dbase x.toNat, dbits x.toNat, true) else (0, 0, false)
/-- A number of n bits, its lowest one first. -/
def vb (B : Nat → Nat) (p : Nat) : Nat → Nat
  | 0 => 0
  | n + 1 => vb B p n + B (p + n) * 2 ^ n
theorem vb_lt {B : Nat → Nat} (h : ∀ i, B i < 2) (p n : Nat) : vb B p n < 2 ^ n := by
  induction n with
  | zero => exact Nat.one_pos
  | succ n ih =>
    have := h (p + n)
    show vb B p n + B (p + n) * 2 ^ n < _
    rw [Nat.pow_succ]
    rcases (show B (p + n) = 0 ∨ B (p + n) = 1 by omega) with e | e <;> rw [e] <;> omega
/-- The next bit, the error, what was said. -/
structure Fl where
  p : Nat
  e : Nat
  o : List Nat
def bitsS (B : Nat → Nat) (T n : Nat) (x : Fl) : Nat × Fl :=
  if x.e ≠ 0 then (0, x) else if x.p + n ≤ T then (vb B x.p n, ⟨x.p + n, 0, x.o⟩) else (0, ⟨T, 2, x.o⟩)
def symS (B : Nat → Nat) (T : Nat) (l : Nat → Nat) (n : Nat) (x : Fl) : Nat × Fl :=
  if x.e ≠ 0 then (0, x) else match nextV l n B T x.p 0 15 with
    | (k, q, 0) => (k, ⟨q, 0, x.o⟩)
    | _ => (0, ⟨x.p, 2, x.o⟩)
def sayS (M b : Nat) (x : Fl) : Fl := if x.e ≠ 0 then x else if x.o.length ≥ M then ⟨x.p, 9, x.o⟩ else ⟨x.p, 0, x.o ++ [b]⟩
/-- N bytes of a stored block. -/
def copyS (B : Nat → Nat) (T M : Nat) : Nat → Fl → Fl
  | 0, x => x
  | n + 1, x => if x.e ≠ 0 then x else copyS B T M n (sayS M (bitsS B T 8 x).1 (bitsS B T 8 x).2)
/-- A stored block, its first number and what is left of its second one. -/
def storedS (B : Nat → Nat) (T M : Nat) (x : Fl) : Fl :=
  let a := bitsS B T 16 ⟨(x.p + 7) / 8 * 8, x.e, x.o⟩
  let b := bitsS B T 16 a.2
  copyS B T M a.1 (if b.2.e = 0 ∧ b.1 + a.1 ≠ 65535 then ⟨b.2.p, 2, b.2.o⟩ else b.2)
/-- Bytes as far behind as d, n times. -/
def backS (M d : Nat) : Nat → Fl → Fl
  | 0, x => x
  | n + 1, x => if x.e ≠ 0 then x else backS M d n (sayS M (x.o.getD (x.o.length - d) 0) x)
def copiedS (B : Nat → Nat) (T M k : Nat) (l : Nat → Nat) (n : Nat) (x : Fl) : Fl :=
  if (lengthV (k : Int)).2.2 = false then ⟨x.p, 2, x.o⟩ else
    let a := bitsS B T (lengthV (k : Int)).2.1 x
    let s := symS B T l n a.2
    if s.2.e ≠ 0 ∨ (distV (s.1 : Int)).2.2 = false then ⟨s.2.p, 2, s.2.o⟩ else
      let b := bitsS B T (distV (s.1 : Int)).2.1 s.2
      let d := (distV (s.1 : Int)).1 + b.1
      backS M d ((lengthV (k : Int)).1 + a.1) (if b.2.e = 0 ∧ d > b.2.o.length then ⟨b.2.p, 2, b.2.o⟩ else b.2)
/-- The symbols of a block. -/
def symbolsS (B : Nat → Nat) (T M : Nat) (l : Nat → Nat) (n : Nat) (g : Nat → Nat) (m : Nat) : Nat → Fl → Fl
  | 0, x => x
  | f + 1, x => if x.e ≠ 0 then x else
    let s := symS B T l n x
    if s.2.e ≠ 0 ∨ s.1 = 256 then s.2 else
      if s.1 < 256 then symbolsS B T M l n g m f (sayS M s.1 s.2) else symbolsS B T M l n g m f (copiedS B T M s.1 g m s.2)
/-- Lengths as a list: is it a code? -/
def codeS (l : List Nat) (x : Fl) : Fl := if x.e ≠ 0 then x else if newE (fun i => (l.getD i 0 : Int)) l.length = 0 then x else ⟨x.p, 2, x.o⟩
def codedS (B : Nat → Nat) (T M : Nat) (a b : List Nat) (x : Fl) : Fl :=
  symbolsS B T M (fun i => a.getD i 0) a.length (fun i => b.getD i 0) b.length (T + 1) (codeS b (codeS a x))
/-- The lengths of kind 1. -/
def fixA : List Nat := List.replicate 144 8 ++ List.replicate 112 9 ++ List.replicate 24 7 ++ List.replicate 8 8
def fixB : List Nat := List.replicate 32 5
def ordL : List Nat := [16, 17, 18, 0, 8, 7, 9, 6, 10, 5, 11, 4, 12, 3, 13, 2, 14, 1, 15]
/-- The lengths of lengths. -/
def fewS (B : Nat → Nat) (T : Nat) : Nat → Nat → (Nat → Nat) → Fl → (Nat → Nat) × Fl
  | 0, _, g, x => (g, x)
  | n + 1, i, g, x => fewS B T n (i + 1) (fun j => if j = ordL.getD i 0 then (bitsS B T 3 x).1 else g j) (bitsS B T 3 x).2
def againS (l : List Nat) (v n e : Nat) : List Nat := if e = 0 then l ++ List.replicate n v else l
/-- The lengths that are told, one symbol behind the other. -/
def tellS (B : Nat → Nat) (T : Nat) (g : Nat → Nat) (all : Nat) : Nat → List Nat → Fl → List Nat × Fl
  | 0, l, x => (l, x)
  | f + 1, l, x => if l.length ≥ all ∨ x.e ≠ 0 then (l, x) else
    let s := symS B T g 19 x
    if s.2.e ≠ 0 then (l, s.2) else
    if s.1 < 16 then tellS B T g all f (l ++ [s.1]) s.2 else
    if s.1 = 16 ∧ l.length = 0 then (l, ⟨s.2.p, 2, s.2.o⟩) else
    if s.1 = 16 then tellS B T g all f (againS l (l.getD (l.length - 1) 0) (3 + (bitsS B T 2 s.2).1) (bitsS B T 2 s.2).2.e) (bitsS B T 2 s.2).2 else
    if s.1 = 17 then tellS B T g all f (againS l 0 (3 + (bitsS B T 3 s.2).1) (bitsS B T 3 s.2).2.e) (bitsS B T 3 s.2).2 else
      tellS B T g all f (againS l 0 (11 + (bitsS B T 7 s.2).1) (bitsS B T 7 s.2).2.e) (bitsS B T 7 s.2).2
def toldS (B : Nat → Nat) (T : Nat) (x : Fl) : (List Nat × List Nat) × Fl :=
  let a := bitsS B T 5 x
  let b := bitsS B T 5 a.2
  let c := bitsS B T 4 b.2
  let many := 257 + a.1
  let far := 1 + b.1
  let g := fewS B T (4 + c.1) 0 (fun _ => 0) (if c.2.e = 0 ∧ (many > 286 ∨ far > 30) then ⟨c.2.p, 2, c.2.o⟩ else c.2)
  let t := tellS B T g.1 (many + far) (many + far + 1) [] (codeS ((List.range 19).map g.1) g.2)
  let y := if t.2.e = 0 ∧ (t.1.length > many + far ∨ t.1.getD 256 0 = 0) then ⟨t.2.p, 2, t.2.o⟩ else t.2
  if y.e ≠ 0 then (([], []), y) else ((t.1.take many, t.1.drop many), y)
/-- One block: is it the last one? -/
def blockS (B : Nat → Nat) (T M : Nat) (x : Fl) : Bool × Fl :=
  let a := bitsS B T 1 x
  let k := bitsS B T 2 a.2
  (decide (a.1 = 1), if k.2.e ≠ 0 then k.2 else if k.1 = 0 then storedS B T M k.2 else if k.1 = 1 then codedS B T M fixA fixB k.2 else
    if k.1 = 2 then codedS B T M (toldS B T k.2).1.1 (toldS B T k.2).1.2 (toldS B T k.2).2 else ⟨k.2.p, 2, k.2.o⟩)
def blocksS (B : Nat → Nat) (T M : Nat) : Nat → Bool → Fl → Fl
  | 0, _, x => x
  | f + 1, last, x => if last = true ∨ x.e ≠ 0 then x else blocksS B T M f (blockS B T M x).1 (blockS B T M x).2
/-- What Open answers: what was said, how many bytes, the error. -/
def openS (s : ByteArray) (most : Int) : List Nat × Nat × Nat :=
  if most < 0 ∨ most > 1048576 then ([], 0, 1) else
    let x := blocksS (bitH s) (8 * s.size) most.toNat (8 * s.size + 1) false ⟨0, 0, []⟩
    if x.e ≠ 0 then ([], 0, x.e) else (x.o, (x.p + 7) / 8, 0)
end Go.Proofs.Ytiphnnaanjjaoaa
/- Bytes laid one behind the other into a slice of one's own. -/
namespace Go.Proofs.Ytiphnnaanjjaoaa
open Go.RowKit
theorem i64_and63 (n : Int) : bits .and .i64 n 63 = n % 64 := by
  have h63 : (BitVec.ofInt 64 63).toNat = 2 ^ 6 - 1 := by decide
  have key : (BitVec.ofInt 64 n &&& BitVec.ofInt 64 63).toNat = (n % ((2 ^ 64 : Nat) : Int)).toNat % 2 ^ 6 := by
    rw [BitVec.toNat_and, BitVec.toNat_ofInt, h63, Nat.and_two_pow_sub_one_eq_mod]
  show IntKind.i64.wrap ((BitVec.ofInt 64 n &&& BitVec.ofInt 64 63).toNat : Nat) = n % 64
  rw [key, IntKind.wrap_i64]
  omega
theorem u8_infoO : (Try.prog.info? 5).map (fun i => (i.zero, i.size, i.bytes)) = some (some (.int .u8 0), 1, 1) := by kernel_rfl
/-- The first n bytes of f, in a slice made since w0. -/
structure OB (B : Nat) (w0 : World) (n : Nat) (f : Nat → Nat) (v : Value) (wr : World) : Prop where
  own : wr.ownsRow B 5 1 v n ((List.range n).map fun i => Value.int .u8 (f i : Int))
  b : Below B w0 wr
  lo : B ≤ wr.heap.size
theorem OB.nil {B : Nat} {w0 w : World} (h : Below B w0 w) (hB : B ≤ w.heap.size) (f : Nat → Nat) : OB B w0 0 f (.slice none 0 0) w := ⟨⟨rfl, .inl ⟨rfl, rfl⟩⟩, h, hB⟩
theorem OB.cast {B : Nat} {w0 w : World} {n m : Nat} {f : Nat → Nat} {v : Value} (h : OB B w0 n f v w) (e : n = m) : OB B w0 m f v w := e ▸ h
theorem OB.drew {B : Nat} {w0 w : World} {n : Nat} {f : Nat → Nat} {v : Value} (h : OB B w0 n f v w) : OB B w0 n f v w.drew := ⟨h.own.drew, h.b.drew, h.lo⟩
/-- One byte more. -/
theorem wpList_push {ops : Array Oper} {rest : List Oper} {o : Oper} {a : Act} {Q : Exit → Act → World → Prop} {B n : Nat} {w0 wr : World} {f : Nat → Nat} {v : Value} (hgd : o.guard = none) (s x : Operand)
    (ho : o.op = .call { callee := .builtin .append, args := #[s, x], argTypes := #[36, 36] }) (hs : a.eval s = v) (h : OB B w0 n f v wr) (hn : n ≤ 1099511627776)
    (hx : a.eval x = .slice (some ⟨wr.heap.size, 0, none⟩) 1 1) (z : Int) (hf : (f n : Int) = z)
    (k : ∀ v' w', OB B w0 (n + 1) f v' w' → wpList Try.prog ops Q rest (a.put o.dst v') w') : wpList Try.prog ops Q (o :: rest) a (wr.alloc (.cells #[.int .u8 z] 5)) := by
  subst hf
  obtain ⟨i0, hi, hz0, hz1, hz2⟩ := info_parts u8_infoO
  have hlo := h.lo
  refine wpList_append_own _ hgd s x 36 ho B 5 i0 (.int .u8 0) 1 1 Try.underlying36 hi hz0 hz1 hz2 rfl (by decide) v n _ hs (h.own.alloc _) ⟨wr.heap.size, 0, none⟩ 1 1 [.int .u8 (f n : Int)] hx rfl ?_ ?_ ?_ ?_ ?_ ?_
  · intro j u hu
    rw [addr_add, Nat.zero_add]
    exact (cell_of_row _ _ j _ _ (0, 0) (heap_alloc_new wr _)).trans (by rw [← hu]; simp)
  · intro u hu
    simp at hu
    subst hu; rfl
  · unfold maxLen; omega
  · omega
  · simp; omega
  · intro v' w2 hown2 hg2 _
    have hb := (h.b.alloc hlo (.cells #[.int .u8 (f n : Int)] 5)).grown hg2 (by simp; omega) (own_le h.own)
    exact k v' w2 ⟨by rw [List.range_succ, List.map_append]; exact hown2, hb, Nat.le_trans hlo (Nat.le_trans (by simp) hg2.size)⟩
/-- The text that it is. -/
theorem OB.text {B : Nat} {w0 wr : World} {n : Nat} {f : Nat → Nat} {v : Value} (h : OB B w0 n f v wr) (hf : ∀ i, f i < 256) : (convert 36 9 v).run Try.prog wr = .ok (.string (textN n f)) wr := by
  refine run_string_of_own wr 36 9 5 B Try.underlying36 Try.underlying5 Try.underlying9 v n ((List.range n).map fun i => BitVec.ofNat 8 (f i)) ?_
  have e : ((List.range n).map fun i => BitVec.ofNat 8 (f i)).map b8v = (List.range n).map fun i => Value.int .u8 (f i : Int) := by
    rw [List.map_map]
    refine List.map_congr_left fun i _ => ?_
    show Value.int .u8 (iw (BitVec.ofNat 8 (f i))) = _
    unfold iw
    rw [BitVec.toNat_ofNat, Nat.mod_eq_of_lt (show f i < 2 ^ 8 from hf i)]
  rw [e]; exact h.own
end Go.Proofs.Ytiphnnaanjjaoaa
/- The reference's Length and Distance of chapter 10. -/
namespace Go.Proofs.Ytiphnnaanjjaoaa
open Go.RowKit
theorem lands_max0 {o : Oper} {a : Act} {w : World} (x : Operand) (n : Int) (ho : o.op = .call { callee := .builtin .max, args := #[.const (.int .i64 0), x], argTypes := #[3, 3] }) (ht : o.type = 3) (hx : a.eval x = .int .i64 n) :
    Lands Try.prog (fun w' => w' = w) (.int .i64 (max 0 n)) ((execOp a.eval o).run Try.prog w) := by
  refine lands_value (w := w) ?_ rfl
  have hc : a.eval (.const (.int .i64 0)) = .int .i64 0 := rfl
  simp [execOp, ho, ht, hx, hc, resolve, invoke, builtin]
  by_cases h : n ≤ 0
  · rw [show max 0 n = 0 by omega]
    go_simp
    try (intro; omega)
  · rw [show max 0 n = n by omega]
    have h' : (0 : Int) < n := by omega
    go_simp
    try (intro; omega)
theorem lbits_le (k : Nat) (h : k ≤ 28) : lbits k ≤ 6 := by unfold lbits; omega
theorem lbase_le (k : Nat) (h : k ≤ 28) : lbase k ≤ 300 := by
  have : ∀ j : Fin 29, lbase j.val ≤ 300 := by decide +kernel
  exact this ⟨k, by omega⟩
theorem dbits_le (k : Nat) (h : k ≤ 30) : dbits k ≤ 14 := by unfold dbits; omega
theorem dbase_le (k : Nat) (h : k ≤ 30) : dbase k ≤ 40000 := by
  have : ∀ j : Fin 31, dbase j.val ≤ 40000 := by decide +kernel
  exact this ⟨k, by omega⟩
set_option maxRecDepth 100000 in
set_option maxHeartbeats 2000000 in
theorem rlength_any (x : Int) (w : World) :
    Calls Try.prog 13 #[.int .i64 x] w fun e w' => e = .returned (.tuple #[.int .i64 ((lengthV x).1 : Int), .int .i64 ((lengthV x).2.1 : Int), .bool (lengthV x).2.2]) ∧ w' = w := by
  by_cases h5 : x = 285
  · have e : lengthV x = (258, 0, true) := if_pos h5
    rw [e]
    go_enter Try.func13, Try.ntmps13
    go_wp2_with fail
    go_ret3
    exact ⟨rfl, rfl⟩
  · by_cases hr : 257 ≤ x ∧ x ≤ 284
    · obtain ⟨n, hn⟩ : ∃ n : Nat, x = 257 + n := ⟨(x - 257).toNat, by omega⟩
      have e : lengthV x = (lbase n, lbits n, true) := by
        unfold lengthV
        rw [if_neg h5, if_pos hr, show (x - 257).toNat = n by omega]
      rw [e]
      have hn27 : n ≤ 27 := by omega
      have HX := Lib.hid hn
      have hlo : ¬ x < 257 := by omega
      have hhi : ¬ x > 284 := by omega
      clear e hr hn
      go_enter Try.func13, Try.ntmps13
      go_wp2_with fail
      go_loopw [5, 6, 7] (fun b i _ wr => ∃ k : Nat, k ≤ n ∧ i = .int .i64 ((257 + k : Nat) : Int) ∧ b = .int .i64 (lbase k : Int) ∧ w = wr) (fun _ i _ _ => 300 - (intOf i).toNat)
      case atStart => exact ⟨0, by omega, rfl, rfl, rfl⟩
      case round =>
        obtain ⟨k, hk, rfl, rfl, rfl⟩ := hrel
        have hb := lbase_le k (by omega)
        obtain ⟨j, hj⟩ : ∃ j, j = 257 + k := ⟨_, rfl⟩
        obtain ⟨z, hz⟩ : ∃ z : Int, ((j : Int) - 261).tdiv 4 = z := ⟨_, rfl⟩
        have hzb : max 0 z = (lbits k : Int) ∧ -300 ≤ z ∧ z ≤ 300 := by
          unfold lbits
          rcases Nat.lt_or_ge k 4 with h1 | h1
          · have : z = -1 ∨ z = 0 := by
              rw [← hz, hj]
              rcases (show k = 0 ∨ k = 1 ∨ k = 2 ∨ k = 3 by omega) with rfl | rfl | rfl | rfl
              · left; decide
              · right; decide
              · right; decide
              · right; decide
            omega
          · rw [Int.tdiv_eq_ediv_of_nonneg (by omega)] at hz
            omega
        have hs : IntKind.i64.wrap ((j : Int) - 261) = (j : Int) - 261 := IntWalk.i64_in _ (by omega)
        have hzw : IntKind.i64.wrap z = z := IntWalk.i64_in _ (by omega)
        rw [← hj]
        have HZM := Lib.hid hzb.1
        have HJ := Lib.hid hj
        have hlb := lbits_le k (by omega)
        obtain ⟨q, hq⟩ : ∃ q, q = lbits k := ⟨_, rfl⟩
        rw [← hq] at HZM hlb
        have HQ := Lib.hid hq
        clear hj hzb hq
        by_cases hkn : k = n
        · have hxj : ((j : Int) == x) = true := by have := HJ.out; have := HX.out; simp; omega
          have HK := Lib.hid hkn
          clear hkn
          go_wp2_with (refine wpList_valK (.int .i64 (q : Int)) rfl (by rw [← HZM.out]; exact lands_max0 (.tmp 20) z rfl rfl rfl) ?_; rintro _ rfl)
          go_ret3
          rw [← HK.out, ← HQ.out]
          exact ⟨rfl, rfl⟩
        · have hxj : ¬ (j : Int) = x := by have := HJ.out; have := HX.out; omega
          have HW : Hid (wrap64 ((lbase k : Int) + wrap64 (2 ^ q)) = (lbase (k + 1) : Int)) := Lib.hid (by
            have hQ : (2 : Int) ^ q = ((2 ^ q : Nat) : Int) := by rw [Int.natCast_pow]; rfl
            have hQl : 2 ^ q ≤ 2 ^ 6 := Nat.pow_le_pow_right (by decide) hlb
            show _ = ((lbase k + 2 ^ lbits k : Nat) : Int)
            rw [hQ, ← HQ.out]
            generalize 2 ^ q = Q at *
            rw [IntWalk.wrap64_in (Q : Int) (by omega), IntWalk.wrap64_in _ (by omega)]; omega)
          have HKL : Hid (k + 1 ≤ n) := Lib.hid (by omega)
          clear hkn
          go_wp2_with (refine wpList_valK (.int .i64 (q : Int)) rfl (by rw [← HZM.out]; exact lands_max0 (.tmp 20) z rfl rfl rfl) ?_; rintro _ rfl)
          rw [HW.out]
          have hjk : (j : Int) = ((257 + k : Nat) : Int) := by rw [HJ.out]
          exact ⟨⟨k + 1, HKL.out, by rw [IntWalk.wrap64_in _ (by omega), hjk]; push_cast; rfl, rfl, trivial⟩, by rw [IntWalk.wrap64_in _ (by omega)]; simp only [intOf]; omega⟩
    · have e : lengthV x = (0, 0, false) := by unfold lengthV; rw [if_neg h5, if_neg hr]
      rw [e]
      have hor : x < 257 ∨ (¬ x < 257 ∧ x > 284) := by omega
      clear e hr
      rcases hor with h1 | ⟨h1, h2⟩
      all_goals
        go_enter Try.func13, Try.ntmps13
        go_wp2_with fail
        go_ret3
        exact ⟨rfl, rfl⟩
set_option maxRecDepth 100000 in
set_option maxHeartbeats 2000000 in
theorem rdist_any (x : Int) (w : World) :
    Calls Try.prog 15 #[.int .i64 x] w fun e w' => e = .returned (.tuple #[.int .i64 ((distV x).1 : Int), .int .i64 ((distV x).2.1 : Int), .bool (distV x).2.2]) ∧ w' = w := by
  by_cases hr : 0 ≤ x ∧ x ≤ 29
  · obtain ⟨n, hn⟩ : ∃ n : Nat, x = n := ⟨x.toNat, by omega⟩
    have e : distV x = (dbase n, dbits n, true) := by
      unfold distV
      rw [if_pos hr, show x.toNat = n by omega]
    rw [e]
    have hn27 : n ≤ 29 := by omega
    have HX := Lib.hid hn
    have hlo : ¬ x < 0 := by omega
    have hhi : ¬ x > 29 := by omega
    clear e hr hn
    go_enter Try.func15, Try.ntmps15
    go_wp2_with fail
    go_loopw [5, 6, 7] (fun b i _ wr => ∃ k : Nat, k ≤ n ∧ i = .int .i64 (k : Int) ∧ b = .int .i64 (dbase k : Int) ∧ w = wr) (fun _ i _ _ => 300 - (intOf i).toNat)
    case atStart => exact ⟨0, by omega, rfl, rfl, rfl⟩
    case round =>
      obtain ⟨k, hk, rfl, rfl, rfl⟩ := hrel
      have hb := dbase_le k (by omega)
      obtain ⟨h, hh⟩ : ∃ h, h = k / 2 := ⟨_, rfl⟩
      have hq1 : (k : Int).tdiv 2 = (h : Int) := by rw [Int.tdiv_eq_ediv_of_nonneg (by omega)]; omega
      have hq2 : (k : Int) / 2 = (h : Int) := by omega
      have hhw : IntKind.i64.wrap (h : Int) = (h : Int) := IntWalk.i64_in _ (by omega)
      have hs : IntKind.i64.wrap ((h : Int) - 1) = (h : Int) - 1 := IntWalk.i64_in _ (by omega)
      have HZM : Hid (max 0 ((h : Int) - 1) = (dbits k : Int)) := Lib.hid (by unfold dbits; rw [← hh]; omega)
      have hlb := dbits_le k (by omega)
      obtain ⟨q, hq⟩ : ∃ q, q = dbits k := ⟨_, rfl⟩
      rw [← hq] at HZM hlb
      have HQ := Lib.hid hq
      clear hh hq
      by_cases hkn : k = n
      · have hxj : ((k : Int) == x) = true := by have := HX.out; simp; omega
        have HK := Lib.hid hkn
        clear hkn
        go_wp2_with (refine wpList_valK (.int .i64 (q : Int)) rfl (by rw [← HZM.out]; exact lands_max0 (.tmp 18) ((h : Int) - 1) rfl rfl rfl) ?_; rintro _ rfl)
        go_ret3
        rw [← HK.out, ← HQ.out]
        exact ⟨rfl, rfl⟩
      · have hxj : ¬ (k : Int) = x := by have := HX.out; omega
        have HW : Hid (wrap64 ((dbase k : Int) + wrap64 (2 ^ q)) = (dbase (k + 1) : Int)) := Lib.hid (by
          have hQ : (2 : Int) ^ q = ((2 ^ q : Nat) : Int) := by rw [Int.natCast_pow]; rfl
          have hQl : 2 ^ q ≤ 2 ^ 14 := Nat.pow_le_pow_right (by decide) hlb
          show _ = ((dbase k + 2 ^ dbits k : Nat) : Int)
          rw [hQ, ← HQ.out]
          generalize 2 ^ q = Q at *
          rw [IntWalk.wrap64_in (Q : Int) (by omega), IntWalk.wrap64_in _ (by omega)]; omega)
        have HKL : Hid (k + 1 ≤ n) := Lib.hid (by omega)
        clear hkn
        go_wp2_with (refine wpList_valK (.int .i64 (q : Int)) rfl (by rw [← HZM.out]; exact lands_max0 (.tmp 18) ((h : Int) - 1) rfl rfl rfl) ?_; rintro _ rfl)
        rw [HW.out]
        exact ⟨⟨k + 1, HKL.out, rfl, rfl, trivial⟩, by simp only [intOf]; omega⟩
  · have e : distV x = (0, 0, false) := by unfold distV; rw [if_neg hr]
    rw [e]
    have hor : x < 0 ∨ (¬ x < 0 ∧ x > 29) := by omega
    clear e hr
    rcases hor with h1 | ⟨h1, h2⟩
    all_goals
      go_enter Try.func15, Try.ntmps15
      go_wp2_with fail
      go_ret3
      exact ⟨rfl, rfl⟩
end Go.Proofs.Ytiphnnaanjjaoaa
/- The state of the reference of chapter 10: five cells, what was said in a slice of one's own; bits. -/
namespace Go.Proofs.Ytiphnnaanjjaoaa
open Go.RowKit
/-- A list of bytes as cells. -/
def bys (l : List Nat) : List Value := l.map fun (b : Nat) => Value.int .u8 (b : Int)
/-- The state in block g: v holds what was said. -/
structure FW (g : Nat) (s : ByteArray) (M : Nat) (x : Fl) (v : Value) (w : World) : Prop where
  blk : Blk w g 54 #[.string s, .int .i64 (x.p : Int), .int .i64 (x.e : Int), v, .int .i64 (M : Int)]
  own : w.ownsRow (g + 1) 5 1 v x.o.length (bys x.o)
/-- What the state's methods leave as it was. -/
structure Mv (g : Nat) (v : Value) (w : World) (v' : Value) (w' : World) : Prop where
  os : w'.os = w.os
  tape : w'.tape = w.tape
  output : w'.output = w.output
  size : w.heap.size ≤ w'.heap.size
  block : ∀ k, k < w.heap.size → k ≠ g → v.ownBlock ≠ some k → w'.heap[k]? = w.heap[k]?
  own : ∀ k, v'.ownBlock = some k → v.ownBlock = some k ∨ w.heap.size ≤ k
theorem Mv.refl (g : Nat) (v : Value) (w : World) : Mv g v w v w := ⟨rfl, rfl, rfl, Nat.le_refl _, fun _ _ _ _ => rfl, fun _ h => .inl h⟩
theorem Mv.trans {g : Nat} {v v1 v2 : Value} {w w1 w2 : World} (h : Mv g v w v1 w1) (k : Mv g v1 w1 v2 w2) : Mv g v w v2 w2 :=
  ⟨k.os.trans h.os, k.tape.trans h.tape, k.output.trans h.output, Nat.le_trans h.size k.size, fun i hi hg hv => (k.block i (Nat.lt_of_lt_of_le hi h.size) hg (fun e => by
    rcases h.own i e with h1 | h1
    · exact hv h1
    · omega)).trans (h.block i hi hg hv), fun i e => by
    rcases k.own i e with h1 | h1
    · exact h.own i h1
    · exact .inr (Nat.le_trans h.size h1)⟩
theorem Mv.set {g : Nat} {v v' : Value} {w w' : World} (h : Mv g v w v' w') (j : Nat) (u : Value) : Mv g v w v' (w'.setCell ⟨g, j, none⟩ u) :=
  ⟨h.os, h.tape, h.output, by simp [World.setCell]; exact h.size, fun i hi hg hv => (Below.heap_setCell w' ⟨g, j, none⟩ u i (show i ≠ g from hg)).trans (h.block i hi hg hv), h.own⟩
theorem Mv.below {g : Nat} {v v' : Value} {w w1 w2 : World} (h : Mv g v w v' w1) (hb : Below w1.heap.size w1 w2) : Mv g v w v' w2 :=
  ⟨hb.os.trans h.os, hb.tape.trans h.tape, hb.output.trans h.output, Nat.le_trans h.size hb.size, fun i hi hg hv => (hb.block i (Nat.lt_of_lt_of_le hi h.size)).trans (h.block i hi hg hv), h.own⟩
theorem Mv.drew {g : Nat} {v v' : Value} {w w1 : World} (h : Mv g v w v' w1) : Mv g v w v' w1.drew := ⟨h.os, h.tape, h.output, h.size, h.block, h.own⟩
theorem Mv.drewN {g : Nat} {v v' : Value} {w w1 : World} (h : Mv g v w v' w1) (n : Nat) : Mv g v w v' (w1.drewN n) := ⟨h.os, h.tape, h.output, h.size, h.block, h.own⟩
theorem Mv.is {g : Nat} {v v' : Value} {w w' : World} (h : Mv g v w v' w') {p : Option Addr} {n cap : Nat} {f : Nat → Int} (hi : IS p n cap f w) (hg : ∀ a, p = some a → a.block ≠ g ∧ v.ownBlock ≠ some a.block) : IS p n cap f w' :=
  ⟨hi.nil_, (fun a ha i hin => by
    have hb : (a.add i).block = a.block := by unfold Addr.add; split <;> rfl
    rw [World.cell?_of_block (w := w) (h.block _ (by rw [hb]; exact hi.lt a ha) (by rw [hb]; exact (hg a ha).1) (by rw [hb]; exact (hg a ha).2))]
    exact hi.cell a ha i hin), (fun a ha => Nat.lt_of_lt_of_le (hi.lt a ha) h.size), hi.lo, hi.hi⟩
section
variable {g : Nat} {s : ByteArray} {M : Nat} {x : Fl} {v : Value} {w w' : World}
theorem FW.lt (h : FW g s M x v w) : g < w.heap.size := h.blk.lt
theorem FW.c0 (h : FW g s M x v w) : w.cell? ⟨g, 0, none⟩ = some (.string s) := h.blk.cell 0
theorem FW.c1 (h : FW g s M x v w) : w.cell? ⟨g, 1, none⟩ = some (.int .i64 (x.p : Int)) := h.blk.cell 1
theorem FW.c2 (h : FW g s M x v w) : w.cell? ⟨g, 2, none⟩ = some (.int .i64 (x.e : Int)) := h.blk.cell 2
theorem FW.c3 (h : FW g s M x v w) : w.cell? ⟨g, 3, none⟩ = some v := h.blk.cell 3
theorem FW.c4 (h : FW g s M x v w) : w.cell? ⟨g, 4, none⟩ = some (.int .i64 (M : Int)) := h.blk.cell 4
theorem FW.fz (h : FW g s M x v w) (j : Nat) : w.frozen? ⟨g, j, none⟩ = false := h.blk.frozen j
theorem FW.setP (h : FW g s M x v w) (p : Nat) : FW g s M ⟨p, x.e, x.o⟩ v (w.setCell ⟨g, 1, none⟩ (.int .i64 (p : Int))) :=
  ⟨h.blk.set_ 1 _, ownsRow_setCell_below h.own (a := ⟨g, 1, none⟩) (Nat.lt_succ_self g) _⟩
theorem FW.setE (h : FW g s M x v w) (e : Nat) : FW g s M ⟨x.p, e, x.o⟩ v (w.setCell ⟨g, 2, none⟩ (.int .i64 (e : Int))) :=
  ⟨h.blk.set_ 2 _, ownsRow_setCell_below h.own (a := ⟨g, 2, none⟩) (Nat.lt_succ_self g) _⟩
theorem FW.drew (h : FW g s M x v w) : FW g s M x v w.drew := ⟨h.blk.drew, h.own.drew⟩
theorem FW.drewN (h : FW g s M x v w) (n : Nat) : FW g s M x v (w.drewN n) := ⟨h.blk.drewN n, h.own⟩
theorem FW.below (h : FW g s M x v w) (hb : Below w.heap.size w w') : FW g s M x v w' := by
  refine ⟨h.blk.below hb h.lt, h.own.1, ?_⟩
  rcases h.own.2 with h1 | ⟨q, cap, cur, h1, h2, h3, h4⟩
  · exact .inl h1
  · refine .inr ⟨q, cap, cur, h1, h2, ?_, h4⟩
    rw [hb.block q (by
      rcases Nat.lt_or_ge q w.heap.size with hlt | hge
      · exact hlt
      · rw [Array.getElem?_eq_none hge] at h3; cases h3)]
    exact h3
theorem FW.ownB (h : FW g s M x v w) : ∀ k, v.ownBlock = some k → g + 1 ≤ k ∧ k < w.heap.size := World.ownsRow.lt h.own
end
theorem or_bit (a b k : Nat) (h : a < 2 ^ k) (hb : b < 2) (hk : k ≤ 40) : bits .or .i64 (a : Int) ((b * 2 ^ k : Nat) : Int) = ((a + b * 2 ^ k : Nat) : Int) := by
  have hp : 2 ^ k ≤ 2 ^ 40 := Nat.pow_le_pow_right (by decide) hk
  have hbk : b * 2 ^ k ≤ 1 * 2 ^ 40 := Nat.mul_le_mul (by omega) hp
  have e : b * 2 ^ k ||| a = 2 ^ k * b + a := by rw [Nat.mul_comm, Nat.two_pow_add_eq_or_of_lt h]
  have key : (BitVec.ofInt 64 (a : Int) ||| BitVec.ofInt 64 ((b * 2 ^ k : Nat) : Int)).toNat = a + b * 2 ^ k := by
    rw [BitVec.toNat_or, BitVec.ofInt_natCast, BitVec.ofInt_natCast, BitVec.toNat_ofNat, BitVec.toNat_ofNat, Nat.mod_eq_of_lt (by omega), Nat.mod_eq_of_lt (by omega), Nat.or_comm, e]
    rw [Nat.mul_comm]; omega
  show IntKind.i64.wrap ((BitVec.ofInt 64 (a : Int) ||| BitVec.ofInt 64 ((b * 2 ^ k : Nat) : Int)).toNat : Nat) = _
  rw [key, IntKind.wrap_i64]
  omega
end Go.Proofs.Ytiphnnaanjjaoaa
/- The reference's bits of chapter 10. -/
namespace Go.Proofs.Ytiphnnaanjjaoaa
open Go.RowKit
theorem and_bit8' : ∀ x : Fin 256, bits .and .u8 (x.val : Int) 1 = ((x.val % 2 : Nat) : Int) := by decide +kernel
theorem bit_out8 (x r : Nat) (h : x < 256) : bits .and .u8 ((x : Int) / 2 ^ r) 1 = ((x / 2 ^ r % 2 : Nat) : Int) := by
  have e : (x : Int) / 2 ^ r = ((x / 2 ^ r : Nat) : Int) := by norm_cast
  have h2 : x / 2 ^ r < 256 := Nat.lt_of_le_of_lt (Nat.div_le_self _ _) h
  rw [e]
  exact and_bit8' ⟨_, h2⟩
/-- One bit more. -/
theorem vb_more (B : Nat → Nat) (hB : ∀ i, B i < 2) (p k : Nat) (hk : k ≤ 40) (y : Int) (hy : y = (B (p + k) : Int)) : bits .or .i64 (vb B p k : Int) (wrap64 (wrap64 y * 2 ^ k)) = (vb B p (k + 1) : Int) := by
  have h1 := hB (p + k)
  have hp : 2 ^ k ≤ 2 ^ 40 := Nat.pow_le_pow_right (by decide) hk
  have hbk : B (p + k) * 2 ^ k ≤ 1 * 2 ^ 40 := Nat.mul_le_mul (by omega) hp
  subst hy
  have e : wrap64 (wrap64 (B (p + k) : Int) * 2 ^ k) = ((B (p + k) * 2 ^ k : Nat) : Int) := by
    rw [IntWalk.wrap64_in (B (p + k) : Int) (by omega), Int.natCast_mul, Int.natCast_pow]
    show wrap64 ((B (p + k) : Int) * 2 ^ k) = (B (p + k) : Int) * 2 ^ k
    have e2 : (B (p + k) : Int) * 2 ^ k = ((B (p + k) * 2 ^ k : Nat) : Int) := by rw [Int.natCast_mul, Int.natCast_pow]; rfl
    rw [e2]
    exact IntWalk.wrap64_in _ (by omega)
  rw [e, or_bit _ _ _ (vb_lt hB p k) h1 hk]
  rfl
theorem bitsS_err {B : Nat → Nat} {T n : Nat} {x : Fl} (h : x.e ≠ 0) : bitsS B T n x = (0, x) := if_pos h
theorem bitsS_in {B : Nat → Nat} {T n : Nat} {x : Fl} (h : x.e = 0) (hp : x.p + n ≤ T) : bitsS B T n x = (vb B x.p n, ⟨x.p + n, 0, x.o⟩) := by unfold bitsS; rw [if_neg (by omega), if_pos hp]
theorem bitsS_out {B : Nat → Nat} {T n : Nat} {x : Fl} (h : x.e = 0) (hp : ¬ x.p + n ≤ T) : bitsS B T n x = (0, ⟨T, 2, x.o⟩) := by unfold bitsS; rw [if_neg (by omega), if_neg hp]
set_option maxRecDepth 100000 in
set_option maxHeartbeats 8000000 in
theorem rbits10_any (g : Nat) (s : ByteArray) (M : Nat) (x : Fl) (v : Value) (n : Nat) (w : World) (h : FW g s M x v w) (hs : s.size ≤ 281474976710656) (hp : x.e = 0 → x.p ≤ 8 * s.size) (hn : n ≤ 16) :
    Calls Try.prog 19 #[.pointer (some ⟨g, 0, none⟩), .int .i64 (n : Int)] w fun e w' => e = .returned (.int .i64 ((bitsS (bitH s) (8 * s.size) n x).1 : Int)) ∧ FW g s M (bitsS (bitH s) (8 * s.size) n x).2 v w' ∧ Mv g v w v w' := by
  have c2 := h.c2
  by_cases he : x.e = 0
  · replace hp := hp he
    rw [he] at c2
    have hT := @bitsS_in (bitH s) (8 * s.size) n x he
    have hF := @bitsS_out (bitH s) (8 * s.size) n x he
    obtain ⟨p, e, o⟩ := x
    obtain rfl : e = 0 := he
    have HT := Lib.hid hT
    have HF := Lib.hid hF
    generalize bitsS (bitH s) (8 * s.size) n ⟨p, 0, o⟩ = r at HT HF ⊢
    clear hT hF
    go_enter Try.func19, Try.ntmps19
    go_wp2_with fail
    go_loopw [5, 6] (fun u i wr => ∃ k : Nat, k ≤ n ∧ i = .int .i64 (k : Int) ∧ u = .int .i64 (vb (bitH s) p k : Int) ∧ p + k ≤ 8 * s.size ∧ FW g s M ⟨p + k, 0, o⟩ v wr ∧ Mv g v w v wr) (fun _ i _ => n - (intOf i).toNat)
    case atStart => exact ⟨0, by omega, rfl, rfl, hp, h, Mv.refl _ _ _⟩
    case round =>
      obtain ⟨k, hk, rfl, rfl, hpk, hr, hm⟩ := hrel
      have c0 := hr.c0
      have c1 := hr.c1
      have c2 : wr.cell? ⟨g, 2, none⟩ = some (.int .i64 0) := hr.c2
      have f1 := hr.fz 1
      have f2 := hr.fz 2
      by_cases hlt : k < n
      · obtain ⟨P, hP⟩ : ∃ P, P = p + k := ⟨_, rfl⟩
        obtain ⟨Q, hQ⟩ : ∃ Q, Q = P / 8 := ⟨_, rfl⟩
        obtain ⟨R, hR⟩ : ∃ R, R = P % 8 := ⟨_, rfl⟩
        rw [← hP] at c1 hpk hr
        have hz1 : (P : Int).tdiv 8 = (Q : Int) := by rw [Int.tdiv_eq_ediv_of_nonneg (by omega)]; omega
        have hz2 : (P : Int) / 8 = (Q : Int) := by omega
        have hR1 : (P : Int).tmod 8 = (R : Int) := by rw [Int.tmod_eq_emod_of_nonneg (by omega)]; omega
        have hR2 : (P : Int) % 8 = (R : Int) := by omega
        have hQw : IntKind.i64.wrap (Q : Int) = (Q : Int) := IntWalk.i64_in _ (by omega)
        have hlti : (k : Int) < (n : Int) := by omega
        by_cases hq : Q < s.size
        · have hQn : ¬ (Q : Int) ≥ (s.size : Int) := by omega
          have hR8 : R < 8 := by omega
          have hmin : min R 8 = R := by omega
          have HBS : Hid (bitH s P = byteS s Q / 2 ^ R % 2) := Lib.hid (by unfold bitH; rw [← hQ, ← hR])
          have HP1 := Lib.hid hP
          have HPT : Hid (P < 8 * s.size) := Lib.hid (by omega)
          clear hP hQ hR hpk hp hlt
          go_wp2_with fail
          go_quiet (fail)
          have h2 := hr.drewN nq
          have m2 := hm.drewN nq
          clear hr hm c0 c1 c2 f1 f2
          generalize wr.drewN nq = wq at h2 m2 ⊢
          have c0 := h2.c0
          have c1 := h2.c1
          have c2 : wq.cell? ⟨g, 2, none⟩ = some (.int .i64 0) := h2.c2
          have f1 := h2.fz 1
          have f2 := h2.fz 2
          go_wp2_with fail
          go_quiet (fail)
          have HV : Hid (bits .or .i64 (vb (bitH s) p k : Int) (wrap64 (wrap64 (bits .and .u8 (((s[Q]).toNat : Int) / 2 ^ R) 1) * 2 ^ k)) = (vb (bitH s) p (k + 1) : Int)) := Lib.hid (vb_more _ (bitH_lt s) p k (by omega) _ (by
            rw [byteS_at s Q hq, bit_out8 _ _ (byteS_lt _ _), ← HBS.out, HP1.out]))
          rw [HV.out]
          have h3 := h2.drewN nq
          have m3 := m2.drewN nq
          clear h2 m2 c0 c1 c2 f1 f2
          generalize wq.drewN nq = wz at h3 m3 ⊢
          have c1 := h3.c1
          have f1 := h3.fz 1
          have hPw : IntKind.i64.wrap ((P : Int) + 1) = ((P + 1 : Nat) : Int) := by have := HPT.out; rw [IntWalk.i64_in _ (by omega)]; rfl
          have HPT2 : Hid ((P : Int) + 1 < 9000000000000000000) := Lib.hid (by have := HPT.out; omega)
          have HKN : Hid (k < n) := Lib.hid (by omega)
          go_wp2_with fail
          have hP1 := HP1.out
          have hPT := HPT.out
          have hkn := HKN.out
          have h4 := h3.setP (P + 1)
          rw [show P + 1 = p + (k + 1) by omega] at h4
          rw [show (P : Int) + 1 = ((p + (k + 1) : Nat) : Int) by omega]
          exact ⟨⟨k + 1, by omega, rfl, rfl, by omega, h4, m3.set 1 _⟩, by simp only [intOf]; omega⟩
        · have hQn : (Q : Int) ≥ (s.size : Int) := by omega
          have HR := Lib.hid (HF.out (show ¬ p + n ≤ _ by omega))
          have HPT : Hid (8 * s.size = P) := Lib.hid (by omega)
          clear hP hQ hR hpk hq hp hk hlt HT HF
          go_wp2_with fail
          go_quiet (fail)
          have h2 := hr.drewN nq
          have m2 := hm.drewN nq
          clear hr hm c0 c1 c2 f1 f2
          generalize wr.drewN nq = wq at h2 m2 ⊢
          have c0 := h2.c0
          have c1 := h2.c1
          have c2 : wq.cell? ⟨g, 2, none⟩ = some (.int .i64 0) := h2.c2
          have f1 := h2.fz 1
          have f2 := h2.fz 2
          go_wp2_with fail
          go_ret
          rw [HR.out, HPT.out]
          exact ⟨rfl, h2.setE 2, m2.set 2 _⟩
      · obtain rfl : k = n := by omega
        have hlti : ¬ (k : Int) < (k : Int) := by omega
        have HR := Lib.hid (HT.out hpk)
        go_wp2_with fail
        go_ret
        rw [HR.out]
        exact ⟨rfl, hr, hm⟩
  · rw [bitsS_err he]
    have he2 : ¬ (x.e : Int) = 0 := by omega
    have hb : ((x.e : Int) == 0) = false := by simp; omega
    go_enter Try.func19, Try.ntmps19
    have HN : (0 : Int) < (n : Int) ∨ ¬ (0 : Int) < (n : Int) := by omega
    go_wp2_with fail
    go_loopw [5, 6] (fun u i wr => i = .int .i64 0 ∧ u = .int .i64 0 ∧ w = wr) (fun _ i _ => 0)
    case atStart => exact ⟨rfl, rfl, rfl⟩
    case round =>
      obtain ⟨rfl, rfl, rfl⟩ := hrel
      rcases HN with hn0 | hn0
      all_goals
        go_wp2_with fail
        go_ret
        exact ⟨rfl, h, Mv.refl _ _ _⟩
end Go.Proofs.Ytiphnnaanjjaoaa
/- The reference's say of chapter 10. -/
namespace Go.Proofs.Ytiphnnaanjjaoaa
open Go.RowKit
theorem FW.shape {g : Nat} {s : ByteArray} {M : Nat} {x : Fl} {v : Value} {w : World} (h : FW g s M x v w) : ∃ p cap, v = .slice p x.o.length cap := by
  rcases h.own.2 with ⟨h1, h2⟩ | ⟨q, cap, cur, h1, _⟩
  · exact ⟨none, 0, by rw [h1, h2]⟩
  · exact ⟨_, cap, h1⟩
theorem bys_one (l : List Nat) (b : Nat) : bys (l ++ [b]) = bys l ++ [Value.int .u8 (b : Int)] := by simp [bys]
/-- One byte more. -/
theorem wpList_sayB {ops : Array Oper} {rest : List Oper} {o : Oper} {a : Act} {Q : Exit → Act → World → Prop} {g : Nat} {s : ByteArray} {M : Nat} {x : Fl} {v : Value} {w : World} (hgd : o.guard = none) (sl xx : Operand)
    (ho : o.op = .call { callee := .builtin .append, args := #[sl, xx], argTypes := #[36, 36] }) (hs : a.eval sl = v) (h : FW g s M x v w) (hn : x.o.length ≤ 2097152)
    (hx : a.eval xx = .slice (some ⟨w.heap.size, 0, none⟩) 1 1) (b : Nat)
    (k : ∀ q cap w', w'.cell? ⟨g, 3, none⟩ = some v → w'.frozen? ⟨g, 3, none⟩ = false → FW g s M ⟨x.p, x.e, x.o ++ [b]⟩ (.slice (some ⟨q, 0, none⟩) (x.o.length + 1) cap) (w'.setCell ⟨g, 3, none⟩ (.slice (some ⟨q, 0, none⟩) (x.o.length + 1) cap)) →
      Mv g v w (.slice (some ⟨q, 0, none⟩) (x.o.length + 1) cap) (w'.setCell ⟨g, 3, none⟩ (.slice (some ⟨q, 0, none⟩) (x.o.length + 1) cap)) → wpList Try.prog ops Q rest (a.put o.dst (.slice (some ⟨q, 0, none⟩) (x.o.length + 1) cap)) w') :
    wpList Try.prog ops Q (o :: rest) a (w.alloc (.cells #[.int .u8 (b : Int)] 5)) := by
  have hb : Below w.heap.size w (w.alloc (.cells #[.int .u8 (b : Int)] 5)) := (Below.refl _ _).alloc (Nat.le_refl _) _
  have h2 := h.below hb
  obtain ⟨i0, hi, hz0, hz1, hz2⟩ := info_parts u8_infoO
  have hbn := Blk.new w 5 #[.int .u8 (b : Int)]
  refine wpList_append_lies _ hgd sl xx 36 ho (g + 1) 5 i0 (.int .u8 0) 1 1 Try.underlying36 hi hz0 hz1 hz2 rfl (by decide) v x.o.length _ hs h2.own ⟨w.heap.size, 0, none⟩ 1 1 [.int .u8 (b : Int)] hx rfl
    (World.news_of_block hbn) (by intro u hu; rw [List.mem_singleton.1 hu]; rfl) (by decide) (by unfold maxLen; omega) (by omega) (by have := h2.lt; omega) _ rfl ?_
  intro q cap w' hown hgr hat hlt
  have hgB := h.lt
  have hne : v.ownBlock ≠ some g := fun e => by have := (h.ownB g e).1; omega
  have hblk : w'.heap[g]? = _ := hgr.block g (by have := hb.size; omega) (fun e => hne e.symm)
  have hbw : Blk w' g 54 #[.string s, .int .i64 (x.p : Int), .int .i64 (x.e : Int), v, .int .i64 (M : Int)] := hblk.trans h2.blk
  have hq : g + 1 ≤ q := (World.ownsRow.lt hown q rfl).1
  refine k q cap w' (hbw.cell 3) (hbw.frozen 3) ⟨hbw.set_ 3 _, ?_⟩ (Mv.set ?_ 3 _)
  · have := ownsRow_setCell_below hown (a := ⟨g, 3, none⟩) (Nat.lt_succ_self g) (.slice (some ⟨q, 0, none⟩) (x.o.length + 1) cap)
    show World.ownsRow _ _ _ _ _ (x.o ++ [b]).length (bys (x.o ++ [b]))
    rw [bys_one, List.length_append]
    exact this
  · refine ⟨hgr.os.trans hb.os, hgr.tape.trans hb.tape, hgr.output.trans hb.output, Nat.le_trans hb.size hgr.size, fun i hi2 _ hv => (hgr.block i (Nat.lt_of_lt_of_le hi2 hb.size) (fun e => hv e.symm)).trans (hb.block i hi2), fun i e => ?_⟩
    have e : q = i := by injection e
    rcases hat with h1 | h1
    · exact .inl (by rw [h1, e])
    · right
      have := hb.size
      omega
set_option maxRecDepth 100000 in
set_option maxHeartbeats 8000000 in
theorem rsay10_any (g : Nat) (s : ByteArray) (M : Nat) (x : Fl) (v : Value) (b : Nat) (w : World) (h : FW g s M x v w) (hM : M ≤ 1048576) (hn : x.o.length ≤ M) :
    Calls Try.prog 29 #[.pointer (some ⟨g, 0, none⟩), .int .u8 (b : Int)] w fun e w' => e = .returned (.tuple #[]) ∧ ∃ v', FW g s M (sayS M b x) v' w' ∧ Mv g v w v' w' := by
  have c2 := h.c2
  have c3 := h.c3
  have c4 := h.c4
  have f2 := h.fz 2
  by_cases he : x.e = 0
  · rw [he] at c2
    replace c2 : w.cell? ⟨g, 2, none⟩ = some (.int .i64 0) := c2
    obtain ⟨p, cap, hv⟩ := h.shape
    subst hv
    by_cases hl : x.o.length ≥ M
    · have e : sayS M b x = ⟨x.p, 9, x.o⟩ := by unfold sayS; rw [if_neg (by omega), if_pos hl]
      rw [e]
      have hli : (x.o.length : Int) ≥ (M : Int) := by omega
      go_enter Try.func29, Try.ntmps29
      go_wp2_with fail
      go_quiet (fail)
      have h2 := h.drewN nq
      have m2 := (Mv.refl g (.slice p x.o.length cap) w).drewN nq
      clear h c2 c3 c4 f2
      generalize w.drewN nq = wq at h2 m2 ⊢
      have c2 : wq.cell? ⟨g, 2, none⟩ = _ := h2.c2
      have f2 := h2.fz 2
      go_wp2_with fail
      exact bodyPost_end (results_none rfl _ _ _) rfl ⟨rfl, _, h2.setE 9, m2.set 2 _⟩
    · have e : sayS M b x = ⟨x.p, 0, x.o ++ [b]⟩ := by unfold sayS; rw [if_neg (by omega), if_neg hl]
      rw [e]
      have hli : ¬ (x.o.length : Int) ≥ (M : Int) := by omega
      go_enter Try.func29, Try.ntmps29
      go_wp2_with fail
      go_quiet (fail)
      have h2 := h.drewN nq
      have m2 := (Mv.refl g (.slice p x.o.length cap) w).drewN nq
      clear h c2 c3 c4 f2
      generalize w.drewN nq = wq at h2 m2 ⊢
      have c2 : wq.cell? ⟨g, 2, none⟩ = some (.int .i64 (x.e : Int)) := h2.c2
      rw [he] at c2
      replace c2 : wq.cell? ⟨g, 2, none⟩ = some (.int .i64 0) := c2
      have c3 := h2.c3
      have HE := Lib.hid he
      go_wp2_with (at_builtin; refine wpList_sayB rfl (.tmp 33) (.tmp 35) rfl rfl h2 (by omega) rfl b ?_; intro q cap2 w3 d3 e3 h3 m3)
      have h4 : FW g s M ⟨x.p, 0, x.o ++ [b]⟩ _ _ := HE.out ▸ h3
      exact bodyPost_end (results_none rfl _ _ _) rfl ⟨rfl, _, h4, m2.trans m3⟩
  · have e : sayS M b x = x := if_pos he
    rw [e]
    obtain ⟨y, hy⟩ : ∃ y : Int, (x.e : Int) = y := ⟨_, rfl⟩
    have hy0 : ¬ y = 0 := by omega
    rw [hy] at c2
    have HY := Lib.hid hy
    clear he e hy
    go_enter Try.func29, Try.ntmps29
    go_wp2_with fail
    go_quiet (fail)
    have h2 := h.drewN nq
    have m2 := (Mv.refl g v w).drewN nq
    clear h c2 c3 c4 f2
    generalize w.drewN nq = wq at h2 m2 ⊢
    have c2 := h2.c2
    rw [HY.out] at c2
    go_wp2_with fail
    exact bodyPost_end (results_none rfl _ _ _) rfl ⟨rfl, _, h2, m2⟩
end Go.Proofs.Ytiphnnaanjjaoaa
/- The reference's symbol of chapter 10. -/
namespace Go.Proofs.Ytiphnnaanjjaoaa
open Go.RowKit
/-- symbol under way: the code in a box. -/
structure SyW (g : Nat) (s : ByteArray) (M : Nat) (x : Fl) (v : Value) (q : Nat) (p1 : Option Addr) (c1 : Nat) (p2 : Option Addr) (c2 n : Nat) (f : Nat → Int) (w wr : World) : Prop where
  fw : FW g s M x v wr
  m : Mv g v w v wr
  o : Blk wr q 66 #[.slice p1 n c1, .slice p2 n c2]
  l : IS p1 n c1 f wr
  c : IS p2 n c2 (fun i => (codeN (toL f) n i : Int)) wr
section
variable {g : Nat} {s : ByteArray} {M : Nat} {x : Fl} {v : Value} {q : Nat} {p1 : Option Addr} {c1 : Nat} {p2 : Option Addr} {c2 n : Nat} {f : Nat → Int} {w wr wr' : World}
theorem SyW.below (h : SyW g s M x v q p1 c1 p2 c2 n f w wr) (hb : Below wr.heap.size wr wr') : SyW g s M x v q p1 c1 p2 c2 n f w wr' :=
  ⟨h.fw.below hb, h.m.below hb, h.o.below hb h.o.lt, h.l.below hb, h.c.below hb⟩
theorem SyW.drew (h : SyW g s M x v q p1 c1 p2 c2 n f w wr) : SyW g s M x v q p1 c1 p2 c2 n f w wr.drew :=
  ⟨h.fw.drew, h.m.drew, h.o.drew, ⟨h.l.nil_, h.l.cell, h.l.lt, h.l.lo, h.l.hi⟩, ⟨h.c.nil_, h.c.cell, h.c.lt, h.c.lo, h.c.hi⟩⟩
end
theorem symS_err {B : Nat → Nat} {T n : Nat} {l : Nat → Nat} {x : Fl} (h : x.e ≠ 0) : symS B T l n x = (0, x) := if_pos h
theorem symS_in {B : Nat → Nat} {T n : Nat} {l : Nat → Nat} {x : Fl} (h : x.e = 0) {k q : Nat} (e : nextV l n B T x.p 0 15 = (k, q, 0)) : symS B T l n x = (k, ⟨q, 0, x.o⟩) := by
  unfold symS; rw [if_neg (by omega), e]; rfl
theorem symS_out {B : Nat → Nat} {T n : Nat} {l : Nat → Nat} {x : Fl} (h : x.e = 0) {k q e : Nat} (e1 : nextV l n B T x.p 0 15 = (k, q, e + 1)) : symS B T l n x = (0, ⟨x.p, 2, x.o⟩) := by
  unfold symS; rw [if_neg (by omega), e1]; rfl
set_option maxRecDepth 100000 in
set_option maxHeartbeats 8000000 in
theorem rsym10_err (g : Nat) (s : ByteArray) (M : Nat) (x : Fl) (v : Value) (p1 : Option Addr) (n1 c1 : Nat) (p2 : Option Addr) (n2 c2 : Nat) (w : World) (h : FW g s M x v w) (he : x.e ≠ 0) :
    Calls Try.prog 31 #[.pointer (some ⟨g, 0, none⟩), .agg #[.slice p1 n1 c1, .slice p2 n2 c2]] w fun e w' => e = .returned (.int .i64 0) ∧ FW g s M x v w' ∧ Mv g v w v w' := by
  obtain ⟨y, hy⟩ : ∃ y : Int, (x.e : Int) = y := ⟨_, rfl⟩
  have hy0 : ¬ y = 0 := by omega
  have hyn : (y != 0) = true := by simp; omega
  have hb0 := (Below.refl _ w).alloc (Nat.le_refl _) (.cells #[.slice p1 n1 c1, .slice p2 n2 c2] 66)
  have h2 := h.below hb0
  have m2 := (Mv.refl g v w).below hb0
  have c2 := h2.c2
  rw [hy] at c2
  clear h he hb0
  go_enter Try.func31, Try.ntmps31
  go_wp2_with fail
  go_ret
  exact ⟨rfl, h2, m2⟩
set_option maxRecDepth 100000 in
set_option maxHeartbeats 8000000 in
theorem rsym10_any (g : Nat) (s : ByteArray) (M : Nat) (x : Fl) (v : Value) (p1 : Option Addr) (c1 : Nat) (p2 : Option Addr) (c2 n : Nat) (f : Nat → Int) (w : World) (h : FW g s M x v w) (hn : n ≤ 300) (hok : okB f n = true)
    (h1 : IS p1 n c1 f w) (h2 : IS p2 n c2 (fun i => (codeN (toL f) n i : Int)) w) (hs : s.size ≤ 281474976710656) (hp : x.p < 9223372036854775808) :
    Calls Try.prog 31 #[.pointer (some ⟨g, 0, none⟩), .agg #[.slice p1 n c1, .slice p2 n c2]] w fun e w' => e = .returned (.int .i64 ((symS (bitH s) (8 * s.size) (toL f) n x).1 : Int)) ∧ FW g s M (symS (bitH s) (8 * s.size) (toL f) n x).2 v w' ∧ Mv g v w v w' := by
  by_cases he : x.e = 0
  · obtain ⟨r, hr⟩ : ∃ r, nextV (toL f) n (bitH s) (8 * s.size) x.p 0 15 = r := ⟨_, rfl⟩
    have HR := Lib.hid hr
    have HOK := Lib.hid hok
    have hb0 := (Below.refl _ w).alloc (Nat.le_refl _) (.cells #[.slice p1 n c1, .slice p2 n c2] 66)
    have H0 : Hid (SyW g s M x v w.heap.size p1 c1 p2 c2 n f w (w.alloc (.cells #[.slice p1 n c1, .slice p2 n c2] 66))) := Lib.hid ⟨h.below hb0, (Mv.refl g v w).below hb0, Blk.new w _ _, h1.below hb0, h2.below hb0⟩
    have HE := Lib.hid he
    have k2 := H0.out.fw.c2
    rw [he] at k2
    replace k2 : World.cell? _ ⟨g, 2, none⟩ = some (.int .i64 0) := k2
    clear he hr hok hb0 h h1 h2
    go_enter Try.func31, Try.ntmps31
    go_wp2_with fail
    obtain ⟨q, hq⟩ : ∃ q, q = w.heap.size := ⟨_, rfl⟩
    rw [← hq] at H0 ⊢
    clear k2 hq
    refine wp_region_anyL (Two 1000 1001 fun _ _ wx => SyW g s M x v q p1 c1 p2 c2 n f w wx) (by kernel_rfl) H0.out.drew ?_
    refine anyL_take (i := 0) (v := .agg #[.slice p1 n c1, .slice p2 n c2]) rfl (by kernel_rfl) (by kernel_rfl) (by kernel_rfl) (yl_other (by decide) (by decide) rfl (fun f1 f2 wx hT => ?_)) ?_
    · exact lands_load 66 (.tmp 3) rfl q rfl 66 _ _ hT.o Try.underlying66 rfl (by kernel_rfl) hT
    simp only [pu]
    refine anyL_take (i := 1) (v := ?_) rfl (by kernel_rfl) (by kernel_rfl) (by kernel_rfl) (yl_other (by decide) (by decide) rfl (fun f1 f2 wx hT => ?_)) ?_; rotate_left
    · refine lands_value (w := wx) ?_ hT; go_simp <;> rfl
    simp only [pu]
    refine anyL_take (i := 2) (v := ?_) rfl (by kernel_rfl) (by kernel_rfl) (by kernel_rfl) (yl_other (by decide) (by decide) rfl (fun f1 f2 wx hT => ?_)) ?_; rotate_left
    · refine lands_value (w := wx) ?_ hT; go_simp <;> rfl
    simp only [pu]
    refine anyL_take (i := 3) (v := ?_) rfl (by kernel_rfl) (by kernel_rfl) (by kernel_rfl) (yl_other (by decide) (by decide) rfl (fun f1 f2 wx hT => ?_)) ?_; rotate_left
    · refine lands_value (w := wx) ?_ hT; go_simp <;> rfl
    simp only [pu]
    refine anyL_take (i := 4) (v := .string s) rfl (by kernel_rfl) (by kernel_rfl) (by kernel_rfl) (yl_other (by decide) (by decide) rfl (fun f1 f2 wx hT => ?_)) ?_
    · have c0 := hT.fw.c0; refine lands_value (w := wx) ?_ hT; go_simp; skip
    simp only [pu]
    refine anyL_take (i := 5) (v := ?_) rfl (by kernel_rfl) (by kernel_rfl) (by kernel_rfl) (yl_other (by decide) (by decide) rfl (fun f1 f2 wx hT => ?_)) ?_; rotate_left
    · refine lands_value (w := wx) ?_ hT; go_simp <;> rfl
    simp only [pu]
    refine anyL_take (i := 6) (v := ?_) rfl (by kernel_rfl) (by kernel_rfl) (by kernel_rfl) (yl_other (by decide) (by decide) rfl (fun f1 f2 wx hT => ?_)) ?_; rotate_left
    · refine lands_value (w := wx) ?_ hT; go_simp <;> rfl
    simp only [pu]
    refine anyL_take (i := 7) (v := ?_) rfl (by kernel_rfl) (by kernel_rfl) (by kernel_rfl) (yl_other (by decide) (by decide) rfl (fun f1 f2 wx hT => ?_)) ?_; rotate_left
    · refine lands_value (w := wx) ?_ hT; go_simp <;> rfl
    simp only [pu]
    refine anyL_take (i := 8) (v := .int .i64 (x.p : Int)) rfl (by kernel_rfl) (by kernel_rfl) (by kernel_rfl) (yl_other (by decide) (by decide) rfl (fun f1 f2 wx hT => ?_)) ?_
    · have c1 := hT.fw.c1; refine lands_value (w := wx) ?_ hT; go_simp; skip
    simp only [pu]
    refine anyL_take (i := 9) (v := .tuple #[.int .i64 (r.1 : Int), .int .i64 (r.2.1 : Int), .int .i64 (r.2.2 : Int)]) rfl (by kernel_rfl) (by kernel_rfl) (by kernel_rfl) (yl_other (by decide) (by decide) rfl (fun f1 f2 wx hT => ?_)) ?_
    · refine lands_calls (f := 41) ((rnext9_any p1 c1 p2 c2 n f s x.p wx hn HOK.out hT.l hT.c hs hp r HR.out).mono fun e w' ⟨he, hb⟩ => ⟨he, hT.below hb⟩) ?_; go_simp; skip
    simp only [pu]
    refine anyL_take (i := 10) (v := ?_) rfl (by kernel_rfl) (by kernel_rfl) (by kernel_rfl) (yl_other (by decide) (by decide) rfl (fun f1 f2 wx hT => ?_)) ?_; rotate_left
    · refine lands_value (w := wx) ?_ hT; go_simp <;> rfl
    simp only [pu]
    refine anyL_take (i := 11) (v := ?_) rfl (by kernel_rfl) (by kernel_rfl) (by kernel_rfl) (yl_other (by decide) (by decide) rfl (fun f1 f2 wx hT => ?_)) ?_; rotate_left
    · refine lands_value (w := wx) ?_ hT; go_simp <;> rfl
    simp only [pu]
    refine anyL_take (i := 12) (v := ?_) rfl (by kernel_rfl) (by kernel_rfl) (by kernel_rfl) (yl_other (by decide) (by decide) rfl (fun f1 f2 wx hT => ?_)) ?_; rotate_left
    · refine lands_value (w := wx) ?_ hT; go_simp <;> rfl
    simp only [pu]
    refine anyL_take (i := 13) (v := ?_) rfl (by kernel_rfl) (by kernel_rfl) (by kernel_rfl) (yl_other (by decide) (by decide) rfl (fun f1 f2 wx hT => ?_)) ?_; rotate_left
    · refine lands_value (w := wx) ?_ hT; go_simp <;> rfl
    simp only [pu]
    refine anyL_take (i := 14) (v := ?_) rfl (by kernel_rfl) (by kernel_rfl) (by kernel_rfl) (yl_other (by decide) (by decide) rfl (fun f1 f2 wx hT => ?_)) ?_; rotate_left
    · refine lands_value (w := wx) ?_ hT; go_simp <;> rfl
    simp only [pu]
    refine anyL_take (i := 15) (v := ?_) rfl (by kernel_rfl) (by kernel_rfl) (by kernel_rfl) (yl_other (by decide) (by decide) rfl (fun f1 f2 wx hT => ?_)) ?_; rotate_left
    · refine lands_value (w := wx) ?_ hT; go_simp <;> rfl
    simp only [pu]
    refine anyL_take (i := 16) (v := ?_) rfl (by kernel_rfl) (by kernel_rfl) (by kernel_rfl) (yl_other (by decide) (by decide) rfl (fun f1 f2 wx hT => ?_)) ?_; rotate_left
    · refine lands_value (w := wx) ?_ hT; go_simp <;> rfl
    simp only [pu]
    refine anyL_done rfl ?_ _
    intro wx hT
    replace hT : SyW g s M x v q p1 c1 p2 c2 n f w wx := hT
    obtain ⟨k, z, e⟩ := r
    cases e with
    | zero =>
      have HS := Lib.hid (symS_in HE.out HR.out)
      have fz := hT.fw.fz 1
      have c1 := hT.fw.c1
      go_wp2_with fail
      go_ret
      rw [HS.out]
      have h4 : FW g s M ⟨z, 0, x.o⟩ v _ := HE.out ▸ hT.fw.setP z
      exact ⟨rfl, h4, hT.m.set 1 _⟩
    | succ e =>
      have HS := Lib.hid (symS_out HE.out HR.out)
      have fz := hT.fw.fz 2
      have c2 := hT.fw.c2
      have hen : (((e + 1 : Nat) : Int) != 0) = true := by simp; omega
      have hen0 : ¬ ((e + 1 : Nat) : Int) = 0 := by omega
      generalize ((e + 1 : Nat) : Int) = E at hen hen0 ⊢
      go_wp2_with fail
      go_ret
      rw [HS.out]
      exact ⟨rfl, hT.fw.setE 2, hT.m.set 2 _⟩
  · rw [symS_err he]
    exact rsym10_err g s M x v p1 n c1 p2 n c2 w h he
end Go.Proofs.Ytiphnnaanjjaoaa
/- The reference's stored of chapter 10. -/
namespace Go.Proofs.Ytiphnnaanjjaoaa
open Go.RowKit
/-- What every state keeps. -/
def okF (T M : Nat) (x : Fl) : Prop := (x.e = 0 → x.p ≤ T) ∧ x.o.length ≤ M
theorem bitsS_lt (s : ByteArray) (T n : Nat) (x : Fl) : (bitsS (bitH s) T n x).1 < 2 ^ n := by
  unfold bitsS
  split
  · exact Nat.two_pow_pos n
  · split
    · exact vb_lt (bitH_lt s) _ _
    · exact Nat.two_pow_pos n
theorem bitsS_o (B : Nat → Nat) (T n : Nat) (x : Fl) : (bitsS B T n x).2.o = x.o := by unfold bitsS; split; rfl; split <;> rfl
theorem bitsS_ok {B : Nat → Nat} {T M n : Nat} {x : Fl} (h : okF T M x) : okF T M (bitsS B T n x).2 := by
  refine ⟨?_, by rw [bitsS_o]; exact h.2⟩
  unfold bitsS
  split
  · exact h.1
  · split
    · intro _; assumption
    · intro h2; exact absurd (show 2 = 0 from h2) (by decide)
theorem sayS_ok {T M b : Nat} {x : Fl} (h : okF T M x) : okF T M (sayS M b x) := by
  unfold sayS
  split
  · exact h
  · have hp := h.1 (by omega)
    split
    · exact ⟨fun h2 => absurd (show 9 = 0 from h2) (by decide), h.2⟩
    · exact ⟨fun _ => hp, by show (x.o ++ [b]).length ≤ M; rw [List.length_append]; simp only [List.length_cons, List.length_nil]; omega⟩
theorem copyS_err {B : Nat → Nat} {T M n : Nat} {x : Fl} (h : x.e ≠ 0) : copyS B T M n x = x := by
  cases n with
  | zero => rfl
  | succ n => exact if_pos h
theorem copyS_one {B : Nat → Nat} {T M n : Nat} {x : Fl} (h : x.e = 0) : copyS B T M (n + 1) x = copyS B T M n (sayS M (bitsS B T 8 x).1 (bitsS B T 8 x).2) := if_neg (by omega)
theorem copyS_ok {B : Nat → Nat} {T M : Nat} : ∀ (n : Nat) {x : Fl}, okF T M x → okF T M (copyS B T M n x)
  | 0, _, h => h
  | n + 1, x, h => by
    by_cases he : x.e = 0
    · rw [copyS_one he]; exact copyS_ok n (sayS_ok (bitsS_ok h))
    · rw [copyS_err he]; exact h
/-- What storedS has told when its bytes come. -/
def storedH (B : Nat → Nat) (T : Nat) (x : Fl) : Nat × Fl :=
  let a := bitsS B T 16 ⟨(x.p + 7) / 8 * 8, x.e, x.o⟩
  let b := bitsS B T 16 a.2
  (a.1, if b.2.e = 0 ∧ b.1 + a.1 ≠ 65535 then ⟨b.2.p, 2, b.2.o⟩ else b.2)
theorem storedS_eq (B : Nat → Nat) (T M : Nat) (x : Fl) : storedS B T M x = copyS B T M (storedH B T x).1 (storedH B T x).2 := rfl
theorem storedH_ok {B : Nat → Nat} {t M : Nat} {x : Fl} (h : okF (8 * t) M x) : okF (8 * t) M (storedH B (8 * t) x).2 := by
  have h0 : okF (8 * t) M ⟨(x.p + 7) / 8 * 8, x.e, x.o⟩ := ⟨fun he => by have := h.1 he; show (x.p + 7) / 8 * 8 ≤ 8 * t; omega, h.2⟩
  have h2 : okF (8 * t) M _ := bitsS_ok (B := B) (n := 16) (bitsS_ok (B := B) (n := 16) h0)
  unfold storedH
  simp only
  split
  · exact ⟨fun h3 => absurd (show 2 = 0 from h3) (by decide), h2.2⟩
  · exact h2
set_option maxRecDepth 100000 in
set_option maxHeartbeats 8000000 in
theorem rstored10_any (g : Nat) (s : ByteArray) (M : Nat) (x : Fl) (v : Value) (w : World) (h : FW g s M x v w) (hs : s.size ≤ 281474976710656) (he : x.e = 0) (hM : M ≤ 1048576) (hok : okF (8 * s.size) M x) :
    Calls Try.prog 20 #[.pointer (some ⟨g, 0, none⟩)] w fun e w' => e = .returned (.tuple #[]) ∧ ∃ v', FW g s M (storedS (bitH s) (8 * s.size) M x) v' w' ∧ Mv g v w v' w' := by
  have hp := hok.1 he
  have HK := Lib.hid (storedH_ok (B := bitH s) hok)
  rw [storedS_eq]
  obtain ⟨H, hH⟩ : ∃ H, H = storedH (bitH s) (8 * s.size) x := ⟨_, rfl⟩
  rw [← hH] at HK ⊢
  obtain ⟨Q, hQ⟩ : ∃ Q, Q = (x.p + 7) / 8 := ⟨_, rfl⟩
  have hq1 : ((x.p : Int) + 7).tdiv 8 = (Q : Int) := by rw [Int.tdiv_eq_ediv_of_nonneg (by omega)]; omega
  have hq2 : ((x.p : Int) + 7) / 8 = (Q : Int) := by omega
  have hqs : Q ≤ s.size := by omega
  have e8 : (Q : Int) * 8 = ((Q * 8 : Nat) : Int) := by omega
  have hqw : IntKind.i64.wrap (Q : Int) = (Q : Int) := IntWalk.i64_in _ (by omega)
  have hok0 : okF (8 * s.size) M ⟨Q * 8, x.e, x.o⟩ := ⟨fun _ => by show Q * 8 ≤ _; omega, hok.2⟩
  have HH := Lib.hid hH
  have HQ := Lib.hid hQ
  have k1 := h.c1
  have f1 := h.fz 1
  have h0 := h.setP (Q * 8)
  have m0 := (Mv.refl g v w).set 1 (.int .i64 ((Q * 8 : Nat) : Int))
  have E8 := Lib.hid e8
  clear hH hQ h e8
  go_enter Try.func20, Try.ntmps20
  go_wp2_with fail
  rw [E8.out]
  clear k1 f1 E8 hq1 hq2
  generalize w.setCell ⟨g, 1, none⟩ (.int .i64 ((Q * 8 : Nat) : Int)) = wa at h0 m0 ⊢
  refine (rbits10_any g s M ⟨Q * 8, x.e, x.o⟩ v 16 wa h0 hs hok0.1 (by omega)).mono ?_
  rintro e w1 ⟨rfl, h1, m1⟩
  have ok1 := bitsS_ok (B := bitH s) (n := 16) hok0
  have l1 := bitsS_lt s (8 * s.size) 16 ⟨Q * 8, x.e, x.o⟩
  obtain ⟨a, ha⟩ : ∃ a, a = bitsS (bitH s) (8 * s.size) 16 ⟨Q * 8, x.e, x.o⟩ := ⟨_, rfl⟩
  rw [← ha] at h1 ok1 l1 ⊢
  replace m1 := m0.trans m1
  have HAA := Lib.hid ha
  clear m0 h0 hok0 ha
  go_wp2_with fail
  refine (rbits10_any g s M a.2 v 16 w1 h1 hs ok1.1 (by omega)).mono ?_
  rintro e w2 ⟨rfl, h2, m2⟩
  have ok2 := bitsS_ok (B := bitH s) (n := 16) ok1
  have l2 := bitsS_lt s (8 * s.size) 16 a.2
  obtain ⟨b, hb⟩ : ∃ b, b = bitsS (bitH s) (8 * s.size) 16 a.2 := ⟨_, rfl⟩
  rw [← hb] at h2 ok2 l2 ⊢
  replace m2 := m1.trans m2
  clear m1 h1 ok1
  have HV : Hid (H = (a.1, if b.2.e = 0 ∧ b.1 + a.1 ≠ 65535 then ⟨b.2.p, 2, b.2.o⟩ else b.2)) := Lib.hid (by
    rw [HH.out]; unfold storedH; rw [← HQ.out]; simp only; rw [← HAA.out, ← hb])
  clear HAA hb HH HQ
  obtain ⟨A, ha⟩ : ∃ A, A = a.1 := ⟨_, rfl⟩
  obtain ⟨D, hd⟩ : ∃ D, D = b.1 := ⟨_, rfl⟩
  have HA1 : Hid (H.1 = A) := Lib.hid (by rw [HV.out, ha])
  rw [← ha] at l1 HV ⊢
  rw [← hd] at l2 HV ⊢
  clear ha hd
  have k2 := h2.c2
  have hl1 : (A : Int) < 65536 := by omega
  have hl2 : (D : Int) < 65536 := by omega
  have L2 := Lib.hid l2
  have L1 := Lib.hid l1
  clear l1 l2
  obtain ⟨Z, hZ⟩ : ∃ Z : Int, 65535 - (A : Int) = Z := ⟨_, rfl⟩
  have hZw : IntKind.i64.wrap Z = Z := IntWalk.i64_in _ (by omega)
  have hZb : -65536 < Z ∧ Z < 65536 := by omega
  obtain ⟨E, hE⟩ : ∃ E : Int, (b.2.e : Int) = E := ⟨_, rfl⟩
  rw [hE] at k2
  by_cases hbad : b.2.e = 0 ∧ D + A ≠ 65535
  · have HY : Hid (H.2 = ⟨b.2.p, 2, b.2.o⟩) := Lib.hid (by rw [HV.out, if_pos hbad])
    have e0 : E = 0 := by omega
    have hne : ¬ (D : Int) = Z := by omega
    have fz := h2.fz 2
    have h3 := h2.setE 2
    have m3 := m2.set 2 (.int .i64 ((2 : Nat) : Int))
    clear hE HV hbad
    subst e0
    have hneb : ((D : Int) != Z) = true := by simp; omega
    have HZ := Lib.hid hZ
    clear hl1 hl2 hne hZb
    dsimp only
    iterate 38 go_step
    clear hZ hZw hneb
    go_wp2_with fail
    generalize w2.setCell ⟨g, 2, none⟩ (.int .i64 2) = wz at *
    have HC : Hid (copyS (bitH s) (8 * s.size) M H.1 H.2 = ⟨b.2.p, 2, b.2.o⟩) := Lib.hid (by rw [HY.out]; exact copyS_err (fun h => absurd (show 2 = 0 from h) (by decide)))
    have hAor : (0 : Int) < (A : Int) ∨ ¬ (0 : Int) < (A : Int) := by omega
    have c2 : wz.cell? ⟨g, 2, none⟩ = some (.int .i64 2) := h3.c2
    go_loopw [4] (fun i wr => i = .int .i64 0 ∧ wz = wr) (fun _ _ => 0)
    case atStart => exact ⟨rfl, rfl⟩
    case round =>
      obtain ⟨rfl, rfl⟩ := hrel
      rcases hAor with hA0 | hA0
      all_goals
        go_wp2_with fail
        go_end0
        rw [HC.out]
        exact ⟨rfl, v, h3, m3⟩
  · have HY : Hid (H.2 = b.2) := Lib.hid (by rw [HV.out, if_neg hbad])
    by_cases he0 : E = 0
    · have hneb : ((D : Int) != Z) = false := by simp; omega
      have HZ := Lib.hid hZ
      clear hE HV hbad
      subst he0
      clear hl1 hl2 hZb
      dsimp only
      iterate 38 go_step
      clear hZ hZw hneb
      go_wp2_with fail
      have h3 := HY.out.symm ▸ h2
      clear h2 k2
      go_loopw [4] (fun i wr => ∃ (k : Nat) (y : Fl) (v' : Value), k ≤ A ∧ i = .int .i64 (k : Int) ∧ Hid (copyS (bitH s) (8 * s.size) M (A - k) y = copyS (bitH s) (8 * s.size) M H.1 H.2) ∧ Hid (okF (8 * s.size) M y) ∧ FW g s M y v' wr ∧ Mv g v w v' wr) (fun i _ => A - (intOf i).toNat)
      case atStart => exact ⟨0, H.2, v, by omega, rfl, Lib.hid (by rw [HA1.out]; rfl), HK, h3, m2⟩
      case round =>
        obtain ⟨k, y, v', hk, rfl, HC, HO, hr, hm⟩ := hrel
        clear h3 m2
        have k2 := hr.c2
        by_cases hlt : k < A
        · have hlti : (k : Int) < (A : Int) := by omega
          by_cases hye : y.e = 0
          · rw [hye] at k2
            replace k2 : wr.cell? ⟨g, 2, none⟩ = some (.int .i64 0) := k2
            obtain ⟨q, hq⟩ : ∃ q, A - k = q + 1 := ⟨A - k - 1, by omega⟩
            have HN := Lib.hid (by rw [← HC.out, hq, copyS_one hye] : copyS (bitH s) (8 * s.size) M H.1 H.2 = copyS (bitH s) (8 * s.size) M q (sayS M (bitsS (bitH s) (8 * s.size) 8 y).1 (bitsS (bitH s) (8 * s.size) 8 y).2))
            have hq2 : q = A - (k + 1) := by omega
            have HQ2 := Lib.hid hq2
            have HKN : Hid (k < A) := Lib.hid hlt
            have HK1 : Hid (wrap64 ((k : Int) + 1) = ((k + 1 : Nat) : Int)) := Lib.hid (by have := L1.out; rw [IntWalk.wrap64_in _ (by omega)]; rfl)
            clear hye hq hq2 HC
            go_wp2_with fail
            refine (rbits10_any g s M y v' 8 wr hr hs HO.out.1 (by omega)).mono ?_
            rintro e w5 ⟨rfl, h5, m5⟩
            replace m5 := hm.trans m5
            have ok5 := Lib.hid (bitsS_ok (B := bitH s) (n := 8) HO.out)
            have l5 := bitsS_lt s (8 * s.size) 8 y
            obtain ⟨a, ha⟩ : ∃ a, a = bitsS (bitH s) (8 * s.size) 8 y := ⟨_, rfl⟩
            rw [← ha] at h5 ok5 l5 HN ⊢
            obtain ⟨c, hc⟩ : ∃ c, c = a.1 := ⟨_, rfl⟩
            rw [← hc] at l5 HN ⊢
            have hc8 : IntKind.u8.wrap (c : Int) = (c : Int) := by rw [IntKind.wrap_u8]; omega
            have hc256 : (c : Int) < 256 := by omega
            clear ha hc l5 hr hm k2 HO
            dsimp only
            go_wp2_with fail
            refine (rsay10_any g s M a.2 v' c w5 h5 hM ok5.out.2).mono ?_
            rintro e w6 ⟨rfl, v6, h6, m6⟩
            have ok6 := Lib.hid (sayS_ok (b := c) ok5.out)
            replace m6 := m5.trans m6
            obtain ⟨y6, hy6⟩ : ∃ y6, y6 = sayS M c a.2 := ⟨_, rfl⟩
            rw [← hy6] at h6 ok6 HN
            clear hy6 h5 m5 ok5
            go_wp2_with fail
            rw [HK1.out]
            have hkn := HKN.out
            exact ⟨⟨k + 1, y6, v6, by omega, rfl, Lib.hid (by rw [← HQ2.out]; exact HN.out.symm), ok6, h6, m6⟩, by simp only [intOf]; omega⟩
          · have HS : Hid (copyS (bitH s) (8 * s.size) M H.1 H.2 = y) := Lib.hid (by rw [← HC.out]; exact copyS_err hye)
            obtain ⟨E, hE⟩ : ∃ E : Int, (y.e : Int) = E := ⟨_, rfl⟩
            rw [hE] at k2
            have he0 : ¬ E = 0 := by omega
            have heb : (E == 0) = false := by simp; omega
            clear hE hye
            go_wp2_with fail
            go_end0
            rw [HS.out]
            exact ⟨rfl, v', hr, hm⟩
        · obtain rfl : k = A := by omega
          have hlti : ¬ (k : Int) < (k : Int) := by omega
          have HS : Hid (copyS (bitH s) (8 * s.size) M H.1 H.2 = y) := Lib.hid (by rw [← HC.out, Nat.sub_self]; rfl)
          go_wp2_with fail
          go_end0
          rw [HS.out]
          exact ⟨rfl, v', hr, hm⟩
    · have heb : (E == 0) = false := by simp; omega
      have hye : b.2.e ≠ 0 := by omega
      have HC : Hid (copyS (bitH s) (8 * s.size) M H.1 H.2 = b.2) := Lib.hid (by rw [HY.out]; exact copyS_err hye)
      have hAor : (0 : Int) < (A : Int) ∨ ¬ (0 : Int) < (A : Int) := by omega
      clear hE HV hbad hl1 hl2 hZb hZ hZw hye
      dsimp only
      go_wp2_with fail
      go_loopw [4] (fun i wr => i = .int .i64 0 ∧ w2 = wr) (fun _ _ => 0)
      case atStart => exact ⟨rfl, rfl⟩
      case round =>
        obtain ⟨rfl, rfl⟩ := hrel
        rcases hAor with hA0 | hA0
        all_goals
          go_wp2_with fail
          go_end0
          rw [HC.out]
          exact ⟨rfl, v, h2, m2⟩
end Go.Proofs.Ytiphnnaanjjaoaa
