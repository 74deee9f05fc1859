/- step, order of the layer scalar. -/
import Derived.Test.YtnfcgpoafmmioaaBv
namespace Go.Proofs.Ytnfcgpoafmmioaa
open Go.RowKit
set_option maxHeartbeats 1000000 in
theorem qstep_any (x y t c : BitVec 64) (w : World) :
    Calls Try.prog 30 #[.int .u64 (iw x), .int .u64 (iw y), .int .u64 (iw t), .int .u64 (iw c)] w fun e w' => e = .returned (.tuple #[.int .u64 (iw (nw (x.toNat * y.toNat + t.toNat + c.toNat))), .int .u64 (iw (nw ((x.toNat * y.toNat + t.toNat + c.toNat) / W64)))]) ∧ w = w' := by
  have hrun := run_addW0
  have hp : x.toNat * y.toNat ≤ (W64 - 1) * (W64 - 1) := Nat.mul_le_mul (by have := w_lt x; omega) (by have := w_lt y; omega)
  have h1 := mul_lo x y
  have h2 := mul_hi x y
  have ht := w_lt t
  have hc := w_lt c
  have e1 : nw ((nw ((mulw x y).toNat + t.toNat)).toNat + c.toNat) = nw (x.toNat * y.toNat + t.toNat + c.toNat) := by
    apply BitVec.eq_of_toNat_eq
    rw [nw_nat', nw_nat', nw_nat', h1]
    generalize x.toNat * y.toNat = p at *
    unfold W64 at *; omega
  have e2 : addw (addw (mulHi x y) (nw (((mulw x y).toNat + t.toNat) / W64))) (nw (((nw ((mulw x y).toNat + t.toNat)).toNat + c.toNat) / W64)) = nw ((x.toNat * y.toNat + t.toNat + c.toNat) / W64) := by
    apply BitVec.eq_of_toNat_eq
    unfold addw
    rw [BitVec.toNat_add, BitVec.toNat_add, nw_nat', nw_nat', nw_nat', nw_nat', h1, h2]
    generalize x.toNat * y.toNat = p at *
    unfold W64 at *; omega
  have E1 := Lib.hid e1
  have E2 := Lib.hid e2
  clear e1 e2 hp h1 h2 ht hc
  go_enter Try.func30, Try.ntmps30
  go_wp2_with (go_at_call 35; refine (mul64_any _ _ _).mono ?_; rintro e w' ⟨rfl, rfl⟩)
  rw [E1.out, E2.out]
  go_ret2
  exact ⟨rfl, rfl⟩
theorem qstepF (x : BitVec 64) (b W k : Nat) (w : World) :
    Calls Try.prog 30 #[.int .u64 (iw x), .int .u64 (iw (F4 b k)), .int .u64 (iw (F4 W k)), .int .u64 (iw (cr64 x.toNat b W k))] w fun e w' => e = .returned (.tuple #[.int .u64 (iw (F4 (x.toNat * b + W) k)), .int .u64 (iw (cr64 x.toNat b W (k + 1)))]) ∧ w = w' := by
  refine (qstep_any x (F4 b k) (F4 W k) (cr64 x.toNat b W k) w).mono ?_
  rintro e w' ⟨rfl, rfl⟩
  have hx := w_lt x
  have e1 : nw (x.toNat * (F4 b k).toNat + (F4 W k).toNat + (cr64 x.toNat b W k).toNat) = F4 (x.toNat * b + W) k := by
    apply nw_eq
    rw [F4_nat', F4_nat', F4_nat', cr64_nat _ _ _ _ hx, cr_digit]
  have e2 : nw ((x.toNat * (F4 b k).toNat + (F4 W k).toNat + (cr64 x.toNat b W k).toNat) / W64) = cr64 x.toNat b W (k + 1) := by
    rw [F4_nat', F4_nat', cr64_nat _ _ _ _ hx, cr_next]; rfl
  rw [e1, e2]
  exact ⟨rfl, rfl⟩
theorem qstepF0 (x : BitVec 64) (b W : Nat) (w : World) :
    Calls Try.prog 30 #[.int .u64 (iw x), .int .u64 (iw (F4 b 0)), .int .u64 (iw (F4 W 0)), .int .u64 0] w fun e w' => e = .returned (.tuple #[.int .u64 (iw (F4 (x.toNat * b + W) 0)), .int .u64 (iw (cr64 x.toNat b W (0 + 1)))]) ∧ w = w' := by
  have h : Value.int .u64 0 = .int .u64 (iw (cr64 x.toNat b W 0)) := by
    rw [lit0w]; unfold cr64; rw [cr_zero]; rfl
  rw [h]; exact qstepF x b W 0 w
theorem num_size (f : Nat → BitVec 64) : (Try.prog.info? 39).map (·.size) = some (r64 4 f).size := by rw [row_size]; kernel_rfl
theorem wide_size (f : Nat → BitVec 64) : (Try.prog.info? 42).map (·.size) = some (r64 8 f).size := by rw [row_size]; kernel_rfl
theorem qorder_any (w : World) :
    Calls Try.prog 34 #[] w fun e w' => e = .returned (.agg (r64 4 (F4 qL))) ∧ Below w.heap.size w w' := by
  have HS := Lib.hid num_size
  go_enter Try.func34, Try.ntmps34
  go_wp2_with (refine wpList_store_row rfl 39 _ _ rfl w.heap.size (r64 4 (F4 qL)) rfl (by kernel_rfl) 39 _ (Blk.new w _ _) (HS.out _) (by rw [row_size]; rfl) (row_one fun _ => rfl) ?_)
  simp only [Act.put]
  exact bodyPost_ret (results_cell_row rfl _ _ w.heap.size 39 (r64 4 (F4 qL)) (0, 0) _ rfl ((Blk.new w _ _).row_ _) Try.underlying39 rfl (HS.out _)) rfl ⟨rfl, below_setRow' ((Below.refl _ _).alloc (Nat.le_refl _) _) (by omega) _⟩
end Go.Proofs.Ytnfcgpoafmmioaa
