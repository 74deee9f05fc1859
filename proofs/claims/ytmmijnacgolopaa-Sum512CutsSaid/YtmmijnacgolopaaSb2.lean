/- Mul64, Add64, addAll, times. -/
import Derived.Test.YtmmijnacgolopaaRows
import Derived.Test.YtmmijnacgolopaaRows2
import Derived.Test.YtmmijnacgolopaaSb5
import Derived.Test.YtmmijnacgolopaaWords
import Derived.Laws.Externs
import Derived.BigQuiet
import Derived.Deep.QuietTactic
namespace Go.Proofs.Ytmmijnacgolopaa
open Go.RowKit
def m32 : BitVec 64 := litw 64 4294967295
def mulT (x y : BitVec 64) : BitVec 64 :=
  addw (mulw (shrw x 32) (andw y m32)) (shrw (mulw (andw x m32) (andw y m32)) 32)
def mulHi (x y : BitVec 64) : BitVec 64 :=
  addw (addw (mulw (shrw x 32) (shrw y 32)) (shrw (mulT x y) 32)) (shrw (addw (andw (mulT x y) m32) (mulw (andw x m32) (shrw y 32))) 32)
set_option maxHeartbeats 400000 in
theorem mul64_any (x y : BitVec 64) (w : World) :
    Calls Try.prog 35 #[.int .u64 (iw x), .int .u64 (iw y)] w fun e w' => e = .returned (.tuple #[.int .u64 (iw (mulHi x y)), .int .u64 (iw (mulw x y))]) ∧ w = w' := by
  have hm : ∀ x : BitVec 64, bits .and .u64 (iw x) 4294967295 = iw (andw x m32) := fun x => and64_lit x _
  go_enter Try.func35, Try.ntmps35
  go_wp2
  go_ret2
  exact ⟨rfl, rfl⟩
def carryOf (x y : BitVec 64) : BitVec 64 := BitVec.ofNat 64 ((x.toNat + y.toNat) / 18446744073709551616)
theorem run_add (x y : BitVec 64) (w : World) : (callFunc 38 #[.int .u64 (iw x), .int .u64 (iw y), .int .u64 0]).run Try.prog w = .ok (.value (.tuple #[.int .u64 (iw (addw x y)), .int .u64 (iw (carryOf x y))])) w := by
  have h1 : (0 : Int) ≤ iw x := by unfold iw; omega
  have h2 : (0 : Int) ≤ iw y := by unfold iw; omega
  rw [run_callFunc_extern Try.func38 (by kernel_rfl) (by kernel_rfl) (by kernel_rfl) (e := add64Entry) (by kernel_rfl), run_add64 _ _ 0 h1 h2 (by omega) (by omega)]
  have e1 : (iw x + iw y + 0) % 18446744073709551616 = iw (addw x y) := by unfold iw addw; rw [BitVec.toNat_add]; omega
  have e2 : (iw x + iw y + 0) / 18446744073709551616 = iw (carryOf x y) := by
    have := x.isLt
    have := y.isLt
    unfold iw carryOf
    rw [BitVec.toNat_ofNat]; omega
  rw [e1, e2]
  rfl
/-- The sum of the first k numbers, and how often it went round. -/
def adds (f : Nat → BitVec 64) : Nat → BitVec 64 × BitVec 64
  | 0 => (litw 64 0, litw 64 0)
  | k + 1 => (addw (adds f k).1 (f k), addw (adds f k).2 (carryOf (adds f k).1 (f k)))
theorem adds_zero (f : Nat → BitVec 64) : adds f 0 = (litw 64 0, litw 64 0) := rfl
theorem lit0 : Value.int .u64 0 = .int .u64 (iw (litw 64 0)) := by kernel_rfl
set_option maxHeartbeats 1000000 in
theorem addAll_any (g n : Nat) (f : Nat → BitVec 64) (t : TypeId) (w : World) (hn : n ≤ 100) (hb : Blk w g t (r64 n f)) :
    Calls Try.prog 36 #[.slice (some ⟨g, 0, none⟩) n n] w fun e w' => e = .returned (.tuple #[.int .u64 (iw (adds f n).1), .int .u64 (iw (adds f n).2)]) ∧ w = w' := by
  have hrun := run_add
  go_enter Try.func36, Try.ntmps36
  go_wp2_with fail
  go_loopw [2, 3, 10] (fun a b i wr => ∃ k : Nat, k ≤ n ∧ i = .int .i64 k ∧ a = .int .u64 (iw (adds f k).1) ∧ b = .int .u64 (iw (adds f k).2) ∧ w = wr) (fun _ _ i _ => n - (intOf i).toNat)
  case atStart => exact ⟨0, by omega, rfl, lit0, lit0, rfl⟩
  case round =>
    obtain ⟨k, hk, rfl, rfl, rfl, rfl⟩ := hrel
    by_cases hlt : k < n
    · have cx : w.cell? ⟨g, k, none⟩ = some (.int .u64 (iw (f k))) := hb.at_ hlt
      have hk1 : adds f (k + 1) = (addw (adds f k).1 (f k), addw (adds f k).2 (carryOf (adds f k).1 (f k))) := rfl
      have HK := Lib.hid hk1
      clear hk1
      generalize adds f k = P at HK ⊢
      go_wp2_with fail
      go_roundw
      case rel => exact ⟨k + 1, by omega, by go_num, by rw [HK.out], by rw [HK.out], by trivial⟩
      case measure => simp [intOf]; omega
    · obtain rfl : k = n := by omega
      go_wp2_with fail
      go_ret2
      exact ⟨rfl, by trivial⟩
structure Fx where
  a : BitVec 64
  b : BitVec 64
  c : BitVec 64
abbrev fxv (x : Fx) : Array Value := #[.int .u64 (iw x.a), .int .u64 (iw x.b), .int .u64 (iw x.c)]
def low3 (n x : Fx) : Nat → BitVec 64
  | 0 => mulw n.b x.b
  | 1 => mulw n.c x.a
  | _ => mulHi n.c x.b
def mid5 (n x : Fx) : Nat → BitVec 64
  | 0 => mulw n.a x.b
  | 1 => mulw n.b x.a
  | 2 => mulHi n.b x.b
  | 3 => mulHi n.c x.a
  | _ => (adds (low3 n x) 3).2
def timesS (n x : Fx) : Fx :=
  ⟨addw (addw (addw (mulw n.a x.a) (mulHi n.a x.b)) (mulHi n.b x.a)) (adds (mid5 n x) 5).2, (adds (mid5 n x) 5).1, (adds (low3 n x) 3).1⟩
theorem built_fx (x : Fx) : Try.prog.built 60 [(0, .int .u64 (iw x.a)), (1, .int .u64 (iw x.b)), (2, .int .u64 (iw x.c))] = some (fxv x) := by kernel_rfl
theorem fx_one (s : Fx) : (fxv s).all (·.oneCell') = true := by kernel_rfl
theorem row3 (a b c : BitVec 64) (f : Nat → BitVec 64) (h0 : f 0 = a) (h1 : f 1 = b) (h2 : f 2 = c) : #[Value.int .u64 (iw a), .int .u64 (iw b), .int .u64 (iw c)] = r64 3 f := by subst h0 h1 h2; rfl
theorem row5 (a b c d e : BitVec 64) (f : Nat → BitVec 64) (h0 : f 0 = a) (h1 : f 1 = b) (h2 : f 2 = c) (h3 : f 3 = d) (h4 : f 4 = e) : #[Value.int .u64 (iw a), .int .u64 (iw b), .int .u64 (iw c), .int .u64 (iw d), .int .u64 (iw e)] = r64 5 f := by subst h0 h1 h2 h3 h4; rfl
/-- Within times: the receiver and the result. -/
structure TW (n : Fx) (w wr : World) : Prop where
  n : Blk wr w.heap.size 60 (fxv n)
  z : Blk wr (w.heap.size + 2) 60 #[.int .u64 0, .int .u64 0, .int .u64 0]
  b : Below w.heap.size w wr
theorem below_draws {B : Nat} {w0 w : World} (h : Below B w0 w) (n : Nat) : Below B w0 (w.drewN n) := ⟨h.os, h.tape, h.output, h.size, h.block⟩
theorem TW.alloc {n : Fx} {w wr : World} (h : TW n w wr) (o : Obj) : TW n w (wr.alloc o) := ⟨h.n.alloc _, h.z.alloc _, h.b.alloc h.b.size _⟩
set_option maxRecDepth 100000 in
set_option maxHeartbeats 1000000 in
theorem times_any (n x : Fx) (w : World) :
    Calls Try.prog 32 #[.agg (fxv n), .agg (fxv x)] w fun e w' => e = .returned (.agg (fxv (timesS n x))) ∧ Below w.heap.size w w' := by
  have hsz : (Try.prog.info? 60).map (·.size) = some 3 := by kernel_rfl
  go_enter Try.func32, Try.ntmps32
  go_wp2_with fail
  go_quiet (fail)
  refine any_gen (F := fun w => Exit.then _ _ _ _ w) (TW n w) ⟨((Blk.new w _ _).alloc _).alloc _, (Blk.new _ _ _).cast' ⟨by simp, rfl⟩, below_draws ((((Below.refl _ _).alloc (Nat.le_refl _) _).alloc (by simp) _).alloc (by simp; omega) _) _⟩ (fun w1 h1 => ?_)
  have n0 : w1.cell? ⟨w.heap.size, 0, none⟩ = some (.int .u64 (iw n.a)) := h1.n.cell 0
  have n1 : w1.cell? ⟨w.heap.size, 1, none⟩ = some (.int .u64 (iw n.b)) := h1.n.cell 1
  have n2 : w1.cell? ⟨w.heap.size, 2, none⟩ = some (.int .u64 (iw n.c)) := h1.n.cell 2
  go_wp2_with (go_at_call 35; refine (mul64_any _ _ _).mono ?_; rintro e w' ⟨rfl, rfl⟩)
  refine any_gen (F := fun w => Calls _ _ _ w _) (fun wx => Blk wx w1.heap.size 36 (r64 3 (low3 n x)) ∧ TW n w wx) ⟨(Blk.new w1 _ _).cast_ (row3 _ _ _ (low3 n x) rfl rfl rfl), h1.alloc _⟩ (fun w2 h2 => ?_)
  obtain ⟨k2, h2⟩ := h2
  refine (addAll_any _ 3 (low3 n x) _ w2 (by omega) k2).mono ?_
  rintro e w2' ⟨rfl, rfl⟩
  generalize hP : adds (low3 n x) 3 = P
  have HP := Lib.hid hP
  clear n0 n1 n2 h1 k2 hP
  go_wp2_with fail
  refine any_gen (F := fun w => Calls _ _ _ w _) (fun wx => Blk wx w2.heap.size 36 (r64 5 (mid5 n x)) ∧ TW n w wx) ⟨(Blk.new w2 _ _).cast_ (row5 _ _ _ _ _ (mid5 n x) rfl rfl rfl rfl (by rw [← HP.out]; rfl)), h2.alloc _⟩ (fun w3 h3 => ?_)
  obtain ⟨k3, h3⟩ := h3
  refine (addAll_any _ 5 (mid5 n x) _ w3 (by omega) k3).mono ?_
  rintro e w3' ⟨rfl, rfl⟩
  generalize hR : adds (mid5 n x) 5 = R
  have HR : Hid (timesS n x = ⟨addw (addw (addw (mulw n.a x.a) (mulHi n.a x.b)) (mulHi n.b x.a)) R.2, R.1, P.1⟩) := by
    rw [← hR, ← HP.out]; exact Lib.hid rfl
  clear h2 k3 hR HP
  have n0 : w3.cell? ⟨w.heap.size, 0, none⟩ = some (.int .u64 (iw n.a)) := h3.n.cell 0
  have hz := h3.z
  have hb := h3.b
  clear h3
  go_wp2_with (refine wpList_store_row rfl 60 _ _ rfl (w.heap.size + 2) (fxv ⟨addw (addw (addw (mulw n.a x.a) (mulHi n.a x.b)) (mulHi n.b x.a)) R.2, R.1, P.1⟩) rfl rfl 60 _ hz hsz rfl (fx_one _) ?_)
  exact bodyPost_ret (results_cell_row rfl _ _ (w.heap.size + 2) 60 _ (0, 0) _ rfl (hz.row_ _) Try.underlying60 rfl hsz) rfl ⟨by rw [HR.out], below_setRow' hb (by omega) _⟩
end Go.Proofs.Ytmmijnacgolopaa
