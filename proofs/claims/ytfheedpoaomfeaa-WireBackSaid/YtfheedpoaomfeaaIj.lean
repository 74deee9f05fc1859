/- Parts of chapter 13's law; its examples. -/
import Derived.Test.YtfheedpoaomfeaaIi
import Derived.Test.YtfheedpoaomfeaaIf
namespace Go.Proofs.Ytfheedpoaomfeaa
open Go.RowKit
/-- A part: its kind, its number, its size, its text. -/
structure Pt where
  k : Int
  n : Int
  z : Int
  s : ByteArray
def encPt (x : Pt) : List Value := [.int .i64 x.k, .int .i64 x.n, .int .i64 x.z, .string x.s]
/-- Its numbers are of 64 bits. -/
structure Pt.ok (x : Pt) : Prop where
  k : -9223372036854775808 ≤ x.k ∧ x.k < 9223372036854775808
  n : -9223372036854775808 ≤ x.n ∧ x.n < 9223372036854775808
  z : -9223372036854775808 ≤ x.z ∧ x.z < 9223372036854775808
  s : x.s.size ≤ 9223372036854775807
theorem RS.at4 {a : Addr} {n cap : Nat} {l : List (List Value)} {w : World} (h : RS 4 (some a) n cap l w) {i : Nat} {x y z u : Value} (hi : l[i]? = some [x, y, z, u]) :
    w.cell? (a.add (i * 4)) = some x ∧ w.cell? ⟨(a.add (i * 4)).block, (a.add (i * 4)).off + 1, none⟩ = some y ∧ w.cell? ⟨(a.add (i * 4)).block, (a.add (i * 4)).off + 2, none⟩ = some z ∧ w.cell? ⟨(a.add (i * 4)).block, (a.add (i * 4)).off + 3, none⟩ = some u := by
  obtain ⟨hl, e⟩ := List.getElem?_eq_some_iff.1 hi
  have k := h.cell a rfl i hl
  rw [e] at k
  have k1 := k 1 y rfl
  have k2 := k 2 z rfl
  have k3 := k 3 u rfl
  rw [← addr_add2, addr_next _ _ (by decide)] at k1 k2 k3
  exact ⟨k 0 x rfl, k1, k2, k3⟩
theorem part_size : (Try.prog.info? 30).map (·.size) = some 4 := by kernel_rfl
theorem part_one (a b c : Int) (s : ByteArray) : (#[Value.int .i64 a, .int .i64 b, .int .i64 c, .string s] : Array Value).all (·.oneCell') = true := by simp [Value.oneCell']
/-- A part's kind, 0 to 2. -/
def kindN (k : Int) : Nat := (if k < 0 then (-(k + 1)) % 3 else k % 3).toNat
theorem kindN_lt (k : Int) : kindN k < 3 := by unfold kindN; split <;> omega
set_option maxRecDepth 100000 in
theorem kind_any (k n z : Int) (s : ByteArray) (w : World) (hk : -9223372036854775808 ≤ k) :
    Calls Try.prog 10 #[.agg #[.int .i64 k, .int .i64 n, .int .i64 z, .string s]] w fun e w' => e = .returned (.int .i64 (kindN k : Int)) ∧ Below w.heap.size w w' := by
  have HB := Lib.hid ((Below.refl _ w).alloc (Nat.le_refl _) (.cells #[.int .i64 k, .int .i64 n, .int .i64 z, .string s] 30))
  have hc : (w.alloc (.cells #[.int .i64 k, .int .i64 n, .int .i64 z, .string s] 30)).cell? ⟨w.heap.size, 0, none⟩ = some (.int .i64 k) := (Blk.new w _ _).cell 0
  by_cases h : k < 0
  · have HK : Hid (-(k + 1).tmod 3 = (kindN k : Int)) := Lib.hid (by rw [← Int.neg_tmod]; unfold kindN; rw [if_pos h, Int.tmod_eq_emod_of_nonneg (by omega)]; omega)
    have h1 : IntKind.i64.wrap (k + 1) = k + 1 := IntWalk.i64_in _ (by omega)
    have h2 : IntKind.i64.wrap (-(k + 1)) = -(k + 1) := IntWalk.i64_in _ (by omega)
    have h3 : IntKind.i64.wrap (kindN k : Int) = (kindN k : Int) := IntWalk.i64_in _ (by have := kindN_lt k; omega)
    clear hk
    go_enter Try.func10, Try.ntmps10
    go_wp2_with fail
    go_ret
    exact ⟨congrArg (fun x => Ending.returned (Value.int .i64 x)) HK.out, HB.out⟩
  · have HK : Hid (k % 3 = (kindN k : Int)) := Lib.hid (by unfold kindN; rw [if_neg h]; omega)
    have h3 : IntKind.i64.wrap (kindN k : Int) = (kindN k : Int) := IntWalk.i64_in _ (by have := kindN_lt k; omega)
    clear hk
    go_enter Try.func10, Try.ntmps10
    go_wp2_with fail
    go_ret
    exact ⟨congrArg (fun x => Ending.returned (Value.int .i64 x)) HK.out, HB.out⟩
theorem ex_put : opqP ⟨#[]⟩ 0 ⟨#[97, 98]⟩ 2 = (⟨#[0, 2, 97, 98]⟩, 0) := by decide +kernel
theorem ex_take : opqW ⟨#[0, 2, 97, 98, 99]⟩ 0 2 = (⟨#[97, 98]⟩, ⟨#[99]⟩, 0) := by decide +kernel
theorem ex_rest : restW ⟨#[99]⟩ 0 = 1 := by decide +kernel
theorem ex_end : endW ⟨#[99]⟩ 0 = 2 := by decide +kernel
set_option maxRecDepth 100000 in
theorem examples13_any (w : World) :
    Calls Try.prog 8 #[] w fun e w' => e = .returned (.bool true) ∧ Below w.heap.size w w' := by
  go_enter Try.func8, Try.ntmps8
  go_wp2_with fail
  refine (newWriter_any w).mono ?_
  rintro e w1 ⟨g, rfl, hg, hw, b1⟩
  have C := newReader_any ⟨#[0, 2, 97, 98, 99]⟩ w1 (by decide)
  have hgl := hw.blk.lt
  go_wp2_with fail
  refine C.mono ?_
  rintro e w2 ⟨r, rfl, hr, hx, b2⟩
  have hw2 := hw.below b2
  have b12 := b1.trans (b2.mono b1.size)
  have C2 := opqP_any g _ _ 0 ⟨#[97, 98]⟩ 2 w2 hw2 (fun _ => by decide)
  rw [ex_put] at C2
  clear C hw b1 b2
  go_wp2_with fail
  refine C2.mono ?_
  rintro e w3 ⟨rfl, v3, hw3, g3⟩
  have hx3 := hx.gg g3 (by omega) (by omega) (fun i e => by cases e)
  have b3 : Below w.heap.size w w3 := b12.trans ⟨g3.os, g3.tape, g3.output, g3.size, fun i hi => g3.block i (by have := b12.size; omega) (by omega) (fun e => by cases e)⟩
  have C3 := bytesW_any g v3 _ 0 w3 hw3
  clear C2 hw2 hx g3 b12
  go_wp2_with fail
  refine C3.mono ?_
  rintro e w4 ⟨rfl, rfl⟩
  have C4 := opaque_any r _ 0 2 w3.drew (hx3.below ((Below.refl _ _).drew))
  rw [ex_take] at C4
  have b4 := b3.drew
  clear C3 hw3 hx3 b3
  go_wp2_with fail
  refine C4.mono ?_
  rintro e w5 ⟨rfl, h5, hx5⟩
  have b5 : Below w.heap.size w w5 := b4.trans (h5.below (by omega) b4.size)
  have C5 := rest_any r _ 0 w5 hx5
  rw [ex_rest] at C5
  have C6 := end_any r _ 0 w5 hx5
  rw [ex_end] at C6
  clear C4 b4 h5
  go_wp2_with fail
  refine C5.mono ?_
  rintro e w6 ⟨rfl, rfl⟩
  go_wp2_with fail
  refine C6.mono ?_
  rintro e w7 ⟨rfl, rfl⟩
  go_wp2_with fail
  go_ret
  exact ⟨rfl, b5⟩
end Go.Proofs.Ytfheedpoaomfeaa
