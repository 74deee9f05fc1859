/- The document's answer to chapter 3: prime, minus, less, below. -/
import Derived.Test.YtjggclhhimccoaaRows
import Derived.Test.YtjggclhhimccoaaFa
import Derived.BigQuiet
import Derived.Deep.QuietTactic
namespace Go.Proofs.Ytjggclhhimccoaa
open Go.RowKit
abbrev r32 (n : Nat) (f : Nat → BitVec 32) : Array Value := row n fun i => Value.int .u32 (iw (f i))
abbrev r64 (n : Nat) (f : Nat → BitVec 64) : Array Value := row n fun i => Value.int .u64 (iw (f i))
theorem below_draws {B : Nat} {w0 w : World} (h : Below B w0 w) (n : Nat) : Below B w0 (w.drewN n) := ⟨h.os, h.tape, h.output, h.size, h.block⟩
theorem zero8 : #[Value.int .u32 0, .int .u32 0, .int .u32 0, .int .u32 0, .int .u32 0, .int .u32 0, .int .u32 0, .int .u32 0] = r32 8 fun _ => litw 32 0 := by simp only [r32, iw_zero]; rfl
set_option maxRecDepth 100000 in
set_option maxHeartbeats 400000 in
theorem prime_any (w : World) :
    Calls Try.prog 47 #[] w fun e w' => e = .returned (.agg (r32 8 (N8 pP))) ∧ Below w.heap.size w w' := by
  have hsz : (Try.prog.info? 47).map (·.size) = some (r32 8 (N8 pP)).size := by rw [row_size]; kernel_rfl
  go_enter Try.func47, Try.ntmps47
  go_wp2_with (refine wpList_store_row rfl 47 _ _ rfl w.heap.size (r32 8 (N8 pP)) rfl (by kernel_rfl) 47 _ (Blk.new w _ _) hsz (by rw [row_size]; rfl) (row_one fun _ => rfl) ?_)
  simp only [Act.put]
  exact bodyPost_ret (results_cell_row rfl _ _ w.heap.size 47 (r32 8 (N8 pP)) (0, 0) _ rfl ((Blk.new w _ _).row_ _) Try.underlying47 rfl hsz) rfl ⟨rfl, below_setRow' ((Below.refl _ _).alloc (Nat.le_refl _) _) (by omega) _⟩
/-- Within minus. -/
def mF (a b k i : Nat) : BitVec 32 := if i < k then N8 (a + M256 - b) i else litw 32 0
structure MW (a b k : Nat) (w wr : World) : Prop where
  da : Blk wr w.heap.size 47 (r32 8 (N8 a))
  db : Blk wr (w.heap.size + 1) 47 (r32 8 (N8 b))
  r : Blk wr (w.heap.size + 2) 47 (r32 8 fun _ => litw 32 0)
  o : Blk wr (w.heap.size + 3) 47 (r32 8 (mF a b k))
  l : Below w.heap.size w wr
theorem MW.drewN {a b k : Nat} {w wr : World} (h : MW a b k w wr) (n : Nat) : MW a b k w (wr.drewN n) := ⟨h.da, h.db, h.r, h.o, below_draws h.l n⟩
theorem MW.put {a b k : Nat} {w wr : World} (h : MW a b k w wr) (hk : k < 8) (v : BitVec 32) (hv : v = N8 (a + M256 - b) k) : MW a b (k + 1) w (wr.setCell ⟨w.heap.size + 3, k, none⟩ (.int .u32 (iw v))) := by
  subst hv
  refine ⟨h.da.far (by simp) _, h.db.far (by simp) _, h.r.far (by simp) _, (h.o.put hk _).cast_ (row_ext fun i _ => ?_), h.l.setCell (by simp) _⟩
  by_cases h1 : i = k
  · subst h1
    have : mF a b (i + 1) i = N8 (a + M256 - b) i := by unfold mF; rw [if_pos (by omega)]
    rw [this, if_pos rfl]
  · rw [if_neg h1]
    by_cases h2 : i < k
    · have e1 : mF a b (k + 1) i = N8 (a + M256 - b) i := by unfold mF; rw [if_pos (by omega)]
      have e2 : mF a b k i = N8 (a + M256 - b) i := by unfold mF; rw [if_pos h2]
      rw [e1, e2]
    · have e1 : mF a b (k + 1) i = litw 32 0 := by unfold mF; rw [if_neg (by omega)]
      have e2 : mF a b k i = litw 32 0 := by unfold mF; rw [if_neg h2]
      rw [e1, e2]
theorem bw_zero (a b : Nat) : Value.int .u64 0 = .int .u64 (iw (bw a b 0)) := by
  have : bw a b 0 = litw 64 0 := by unfold bw; rw [if_neg (by omega)]; rfl
  rw [this, iw_zero]
set_option maxRecDepth 100000 in
set_option maxHeartbeats 1000000 in
theorem minus_any (a b : Nat) (w : World) (ha : a < M256) (hb : b < M256) :
    Calls Try.prog 46 #[.agg (r32 8 (N8 a)), .agg (r32 8 (N8 b))] w fun e w' => e = .returned (.agg (r32 8 (N8 (a + M256 - b)))) ∧ Below w.heap.size w w' := by
  have hsz : (Try.prog.info? 47).map (·.size) = some (r32 8 (N8 (a + M256 - b))).size := by rw [row_size]; kernel_rfl
  have hal : Try.prog.arrayLen 47 = 8 := by kernel_rfl
  go_enter Try.func46, Try.ntmps46
  go_wp2_with fail
  go_loopw [6, 7] (fun v i wr => ∃ k : Nat, k ≤ 8 ∧ i = .int .i64 (k : Int) ∧ v = .int .u64 (iw (bw a b k)) ∧ MW a b k w wr) (fun _ i _ => 8 - (intOf i).toNat)
  case atStart => exact ⟨0, by omega, rfl, bw_zero a b, ⟨((Blk.new w _ _).alloc _).alloc _ |>.alloc _, ((Blk.new (w.alloc _) _ _).cast' ⟨by simp, rfl⟩ |>.alloc _).alloc _, ((Blk.new ((w.alloc _).alloc _) _ _).cast' ⟨by simp, zero8⟩).alloc _, (Blk.new _ _ _).cast' ⟨by simp, zero8.trans (row_ext fun i _ => by rw [show mF a b 0 i = litw 32 0 by unfold mF; rw [if_neg (by omega)]])⟩, ((((Below.refl _ _).alloc (Nat.le_refl _) _).alloc (by simp) _).alloc (by simp; omega) _).alloc (by simp; omega) _⟩⟩
  case round =>
    obtain ⟨k, hk, rfl, rfl, hr⟩ := hrel
    by_cases hlt : k < 8
    · have ca := hr.da.at_ hlt
      have cb := hr.db.at_ hlt
      go_wp2_with fail
      go_quiet (fail)
      have h2 := hr.drewN nq
      clear ca cb hr
      refine any_gen (F := fun w => Exit.then _ _ _ _ w) (MW a b k w) h2 (fun w2 h2 => ?_)
      have co := h2.o.at_ hlt
      have fo := h2.o.frozen k
      have hX : subw (subw (addw (castw 64 (N8 a k)) (litw 64 4294967296)) (castw 64 (N8 b k))) (bw a b k) = mx a b k := rfl
      have HD := mx_digit a b k hlt ha hb
      have HB := mx_borrow a b k hlt
      have K := h2.put hlt _ HD
      have hs1 : ∀ x : BitVec 64, IntKind.u64.wrap (1 - iw x) = iw (subw (litw 64 1) x) := fun x => by
        have := iw64_one
        rw [← this]; exact wrap64_sub _ _
      have hp32 : ∀ x : BitVec 64, IntKind.u64.wrap (iw x + 4294967296) = iw (addw x (litw 64 4294967296)) := fun x => wrap64_add_lit x 4294967296
      unfold mx at HD HB K
      have HB' := Lib.hid HB
      clear h2 HD HB hX
      go_wp2_with fail
      go_roundw
      case rel => exact ⟨k + 1, by omega, by go_num, by rw [← HB'.out], K⟩
      case measure => simp [intOf]; omega
    · obtain rfl : k = 8 := by omega
      have ho : Blk wr (w.heap.size + 3) 47 (r32 8 (N8 (a + M256 - b))) := hr.o.cast_ (row_ext fun i hi => by rw [show mF a b 8 i = N8 (a + M256 - b) i by unfold mF; rw [if_pos hi]])
      have hz := hr.r
      have hl := hr.l
      clear hr
      go_wp2_with (first
        | (refine wpList_load_row rfl 47 _ rfl (w.heap.size + 3) rfl 47 _ (0, 0) _ ho Try.underlying47 rfl (by kernel_rfl) ?_)
        | (refine wpList_store_row rfl 47 _ _ rfl (w.heap.size + 2) (r32 8 (N8 (a + M256 - b))) rfl rfl 47 _ hz hsz (by rw [row_size, row_size]) (row_one fun _ => rfl) ?_))
      simp only [Act.put]
      exact bodyPost_ret (results_cell_row rfl _ _ (w.heap.size + 2) 47 (r32 8 (N8 (a + M256 - b))) (0, 0) _ rfl (hz.row_ _) Try.underlying47 rfl hsz) rfl ⟨rfl, below_setRow' hl (by omega) _⟩
end Go.Proofs.Ytjggclhhimccoaa
