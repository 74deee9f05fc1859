/- step, order of the layer scalar. -/
import Derived.Test.YtggalphgnloneaaGreatMA
import Derived.Test.YtggalphgnloneaaGreatPu
import Derived.Test.YtggalphgnloneaaGreatM4r
import Derived.Test.YtggalphgnloneaaGreatMK
namespace Go.Proofs.YtggalphgnloneaaGreat.L4
open Go.RowKit
set_option maxHeartbeats 1000000 in
theorem qstep_any (x y t c : BitVec 64) (w : World) :
    Calls Tryz.prog 82 #[.int .u64 (iw x), .int .u64 (iw y), .int .u64 (iw t), .int .u64 (iw c)] w fun e w' => e = .returned (.tuple #[.int .u64 (iw (nw (x.toNat * y.toNat + t.toNat + c.toNat))), .int .u64 (iw (nw ((x.toNat * y.toNat + t.toNat + c.toNat) / W64)))]) ∧ w = w' := by
  have hrun := run_addW0
  have hp : x.toNat * y.toNat ≤ (W64 - 1) * (W64 - 1) := Nat.mul_le_mul (by have := w_lt x; omega) (by have := w_lt y; omega)
  have h1 := mul_lo x y
  have h2 := mul_hi x y
  have ht := w_lt t
  have hc := w_lt c
  have e1 : nw ((nw ((mulw x y).toNat + t.toNat)).toNat + c.toNat) = nw (x.toNat * y.toNat + t.toNat + c.toNat) := by
    apply BitVec.eq_of_toNat_eq
    rw [nw_nat', nw_nat', nw_nat', h1]
    generalize x.toNat * y.toNat = p at *
    unfold W64 at *; omega
  have e2 : addw (addw (mulHi x y) (nw (((mulw x y).toNat + t.toNat) / W64))) (nw (((nw ((mulw x y).toNat + t.toNat)).toNat + c.toNat) / W64)) = nw ((x.toNat * y.toNat + t.toNat + c.toNat) / W64) := by
    apply BitVec.eq_of_toNat_eq
    unfold addw
    rw [BitVec.toNat_add, BitVec.toNat_add, nw_nat', nw_nat', nw_nat', nw_nat', h1, h2]
    generalize x.toNat * y.toNat = p at *
    unfold W64 at *; omega
  have E1 := Lib.hid e1
  have E2 := Lib.hid e2
  clear e1 e2 hp h1 h2 ht hc
  go_enter Tryz.func82, Tryz.ntmps82
  go_wp2_with (go_at_call 119; refine (mul64_any _ _ _).mono ?_; rintro e w' ⟨rfl, rfl⟩)
  rw [E1.out, E2.out]
  go_ret2
  exact ⟨rfl, rfl⟩
theorem qstepF (x : BitVec 64) (b W k : Nat) (w : World) :
    Calls Tryz.prog 82 #[.int .u64 (iw x), .int .u64 (iw (F4 b k)), .int .u64 (iw (F4 W k)), .int .u64 (iw (cr64 x.toNat b W k))] w fun e w' => e = .returned (.tuple #[.int .u64 (iw (F4 (x.toNat * b + W) k)), .int .u64 (iw (cr64 x.toNat b W (k + 1)))]) ∧ w = w' := by
  refine (qstep_any x (F4 b k) (F4 W k) (cr64 x.toNat b W k) w).mono ?_
  rintro e w' ⟨rfl, rfl⟩
  have hx := w_lt x
  have e1 : nw (x.toNat * (F4 b k).toNat + (F4 W k).toNat + (cr64 x.toNat b W k).toNat) = F4 (x.toNat * b + W) k := by
    apply nw_eq
    rw [F4_nat', F4_nat', F4_nat', cr64_nat _ _ _ _ hx, cr_digit]
  have e2 : nw ((x.toNat * (F4 b k).toNat + (F4 W k).toNat + (cr64 x.toNat b W k).toNat) / W64) = cr64 x.toNat b W (k + 1) := by
    rw [F4_nat', F4_nat', cr64_nat _ _ _ _ hx, cr_next]; rfl
  rw [e1, e2]
  exact ⟨rfl, rfl⟩
theorem num_size (f : Nat → BitVec 64) : (Tryz.prog.info? 52).map (·.size) = some (r64 4 f).size := by rw [row_size]; kernel_rfl
theorem wide_size (f : Nat → BitVec 64) : (Tryz.prog.info? 55).map (·.size) = some (r64 8 f).size := by rw [row_size]; kernel_rfl
theorem qorder_any (w : World) :
    Calls Tryz.prog 118 #[] w fun e w' => e = .returned (.agg (r64 4 (F4 qL))) ∧ Below w.heap.size w w' := by
  have HS := Lib.hid num_size
  go_enter Tryz.func118, Tryz.ntmps118
  go_wp2_with (refine wpList_store_row rfl 52 _ _ rfl w.heap.size (r64 4 (F4 qL)) rfl (by kernel_rfl) 52 _ (Blk.new w _ _) (HS.out _) (by rw [row_size]; rfl) (row_one fun _ => rfl) ?_)
  simp only [Act.put]
  exact bodyPost_ret (results_cell_row rfl _ _ w.heap.size 52 (r64 4 (F4 qL)) (0, 0) _ rfl ((Blk.new w _ _).row_ _) Tryz.underlying52 rfl (HS.out _)) rfl ⟨rfl, below_setRow' ((Below.refl _ _).alloc (Nat.le_refl _) _) (by omega) _⟩
end Go.Proofs.YtggalphgnloneaaGreat.L4
/- minus, plus of the layer scalar. -/
namespace Go.Proofs.YtggalphgnloneaaGreat.L4
open Go.RowKit
/-- Has a - b, of the first k words, borrowed? -/
def bb (a b k : Nat) : Nat := if a % 2 ^ (64 * k) < b % 2 ^ (64 * k) then 1 else 0
theorem bb_le (a b k : Nat) : bb a b k ≤ 1 := by unfold bb; split <;> omega
def b64 (a b k : Nat) : BitVec 64 := nw (bb a b k)
theorem b64_nat (a b k : Nat) : (b64 a b k).toNat = bb a b k := nw_nat _ (by have := bb_le a b k; unfold W64; omega)
theorem bb_zero (a b : Nat) : bb a b 0 = 0 := by unfold bb; rw [if_neg (by rw [Nat.mul_zero, Nat.pow_zero, Nat.mod_one, Nat.mod_one]; omega)]
theorem b64_zero (a b : Nat) : Value.int .u64 0 = .int .u64 (iw (b64 a b 0)) := by
  unfold b64; rw [bb_zero]; exact lit0w
theorem bb_digit (a b k : Nat) (hk : k < 4) (ha : a < M256) (hb : b < M256) : (a / 2 ^ (64 * k) % W64 + W64 - b / 2 ^ (64 * k) % W64 - bb a b k) % W64 = (a + M256 - b) / 2 ^ (64 * k) % W64 := by
  unfold bb M256 W64 at *
  match k, hk with
  | 0, _ => simp only [Nat.reduceMul, Nat.reducePow]; split <;> omega
  | 1, _ => simp only [Nat.reduceMul, Nat.reducePow]; split <;> omega
  | 2, _ => simp only [Nat.reduceMul, Nat.reducePow]; split <;> omega
  | 3, _ => simp only [Nat.reduceMul, Nat.reducePow]; split <;> omega
theorem bb_next (a b k : Nat) (hk : k < 4) : (if a / 2 ^ (64 * k) % W64 < b / 2 ^ (64 * k) % W64 + bb a b k then 1 else 0) = bb a b (k + 1) := by
  unfold bb W64
  match k, hk with
  | 0, _ => simp only [Nat.reduceMul, Nat.reduceAdd, Nat.reducePow]; split <;> split <;> split <;> omega
  | 1, _ => simp only [Nat.reduceMul, Nat.reduceAdd, Nat.reducePow]; split <;> split <;> split <;> omega
  | 2, _ => simp only [Nat.reduceMul, Nat.reduceAdd, Nat.reducePow]; split <;> split <;> split <;> omega
  | 3, _ => simp only [Nat.reduceMul, Nat.reduceAdd, Nat.reducePow]; split <;> split <;> split <;> omega
theorem bb_four (a b : Nat) (ha : a < M256) (hb : b < M256) : bb a b 4 = if a < b then 1 else 0 := by
  unfold bb; rw [show (2 : Nat) ^ (64 * 4) = M256 by decide, Nat.mod_eq_of_lt ha, Nat.mod_eq_of_lt hb]
theorem subF (a b k : Nat) (hk : k < 4) (ha : a < M256) (hb : b < M256) (w : World) : (callFunc 129 #[.int .u64 (iw (F4 a k)), .int .u64 (iw (F4 b k)), .int .u64 (iw (b64 a b k))]).run Tryz.prog w = .ok (.value (.tuple #[.int .u64 (iw (F4 (a + M256 - b) k)), .int .u64 (iw (b64 a b (k + 1)))])) w := by
  rw [run_subW _ _ _ (by rw [b64_nat]; exact bb_le a b k)]
  have e1 : nw ((F4 a k).toNat + W64 - (F4 b k).toNat - (b64 a b k).toNat) = F4 (a + M256 - b) k := by
    apply nw_eq
    rw [F4_nat', F4_nat', F4_nat', b64_nat, bb_digit a b k hk ha hb]
  have e2 : nw (if (F4 a k).toNat < (F4 b k).toNat + (b64 a b k).toNat then 1 else 0) = b64 a b (k + 1) := by
    rw [F4_nat', F4_nat', b64_nat, bb_next a b k hk]; rfl
  rw [e1, e2]
/-- Within plus. -/
structure PW (a b k : Nat) (w wr : World) : Prop where
  da : Blk wr w.heap.size 52 (r64 4 (F4 a))
  db : Blk wr (w.heap.size + 1) 52 (r64 4 (F4 b))
  o : Blk wr (w.heap.size + 2) 52 (r64 4 (gF (a + b) k))
  l : Below w.heap.size w wr
theorem PW.drew {a b k : Nat} {w wr : World} (h : PW a b k w wr) : PW a b k w wr.drew := ⟨h.da, h.db, h.o, h.l.drew⟩
theorem PW.put {a b k : Nat} {w wr : World} (h : PW a b k w wr) (hk : k < 4) : PW a b (k + 1) w (wr.setCell ⟨w.heap.size + 2, k, none⟩ (.int .u64 (iw (F4 (a + b) k)))) :=
  ⟨h.da.far (by simp) _, h.db.far (by simp) _, (h.o.put hk _).cast_ (row_ext fun i _ => gF_put (a + b) k i), h.l.setCell (by simp) _⟩
set_option maxRecDepth 100000 in
set_option maxHeartbeats 1000000 in
theorem qplus_any (a b : Nat) (w : World) :
    Calls Tryz.prog 117 #[.agg (r64 4 (F4 a)), .agg (r64 4 (F4 b))] w fun e w' => e = .returned (.agg (r64 4 (F4 (a + b)))) ∧ Below w.heap.size w w' := by
  have HS := Lib.hid num_size
  have hal : Tryz.prog.arrayLen 52 = 4 := by kernel_rfl
  have HA := Lib.hid (addF a b)
  go_enter Tryz.func117, Tryz.ntmps117
  go_wp2_with fail
  go_loopw [5, 7] (fun v i wr => ∃ k : Nat, k ≤ 4 ∧ i = .int .i64 (k : Int) ∧ v = .int .u64 (iw (c64 a b k)) ∧ PW a b k w wr) (fun _ i _ => 4 - (intOf i).toNat)
  case atStart => exact ⟨0, by omega, rfl, c64_zero a b, ⟨((Blk.new w _ _).alloc _).alloc _, ((Blk.new (w.alloc _) _ _).cast' ⟨by simp, rfl⟩).alloc _, (Blk.new _ _ _).cast' ⟨by simp, zero4'.trans (gF_none _)⟩, (((Below.refl _ _).alloc (Nat.le_refl _) _).alloc (by simp) _).alloc (by simp; omega) _⟩⟩
  case round =>
    obtain ⟨k, hk, rfl, rfl, hr⟩ := hrel
    by_cases hlt : k < 4
    · have ca := hr.da.at_ hlt
      have cb := hr.db.at_ hlt
      have hrun := HA.out k
      have hl0 : (k : Int) < 4 := by omega
      have hl1 : (0 : Int) ≤ k := by omega
      have hw1 : IntKind.i64.wrap (k : Int) = (k : Int) := IntWalk.i64_in _ (by omega)
      go_wp2_with fail
      refine wp_region_anyL (Two 13 1000 fun f1 _ wx => PW a b (if f1 then k + 1 else k) w wx) (by kernel_rfl) hr.drew ?_
      refine anyL_take (i := 0) (v := ?_) rfl (by kernel_rfl) (by kernel_rfl) (by kernel_rfl) (yl_other (by decide) (by decide) rfl (fun f1 f2 wx hT => ?_)) ?_; rotate_left
      · refine lands_value (w := wx) ?_ hT; go_simp <;> rfl
      simp only [pu]
      refine anyL_take (i := 1) (v := ?_) rfl (by kernel_rfl) (by kernel_rfl) (by kernel_rfl) (yl_other (by decide) (by decide) rfl (fun f1 f2 wx hT => ?_)) ?_; rotate_left
      · refine lands_value (w := wx) ?_ hT; go_simp <;> rfl
      simp only [pu]
      refine anyL_take (i := 2) (v := ?_) rfl (by kernel_rfl) (by kernel_rfl) (by kernel_rfl) (yl_other (by decide) (by decide) rfl (fun f1 f2 wx hT => ?_)) ?_; rotate_left
      · refine lands_value (w := wx) ?_ hT; go_simp <;> rfl
      simp only [pu]
      refine anyL_take (i := 3) (v := ?_) rfl (by kernel_rfl) (by kernel_rfl) (by kernel_rfl) (yl_other (by decide) (by decide) rfl (fun f1 f2 wx hT => ?_)) ?_; rotate_left
      · have ca := hT.da.at_ hlt; refine lands_value (w := wx) ?_ hT; go_simp <;> rfl
      simp only [pu]
      refine anyL_take (i := 4) (v := ?_) rfl (by kernel_rfl) (by kernel_rfl) (by kernel_rfl) (yl_other (by decide) (by decide) rfl (fun f1 f2 wx hT => ?_)) ?_; rotate_left
      · refine lands_value (w := wx) ?_ hT; go_simp <;> rfl
      simp only [pu]
      refine anyL_take (i := 5) (v := ?_) rfl (by kernel_rfl) (by kernel_rfl) (by kernel_rfl) (yl_other (by decide) (by decide) rfl (fun f1 f2 wx hT => ?_)) ?_; rotate_left
      · refine lands_value (w := wx) ?_ hT; go_simp <;> rfl
      simp only [pu]
      refine anyL_take (i := 6) (v := ?_) rfl (by kernel_rfl) (by kernel_rfl) (by kernel_rfl) (yl_other (by decide) (by decide) rfl (fun f1 f2 wx hT => ?_)) ?_; rotate_left
      · have cb := hT.db.at_ hlt; refine lands_value (w := wx) ?_ hT; go_simp <;> rfl
      simp only [pu]
      refine anyL_take (i := 7) (v := ?_) rfl (by kernel_rfl) (by kernel_rfl) (by kernel_rfl) (yl_other (by decide) (by decide) rfl (fun f1 f2 wx hT => ?_)) ?_; rotate_left
      · refine lands_value (w := wx) ?_ hT; go_simp <;> rfl
      simp only [pu]
      refine anyL_take (i := 8) (v := ?_) rfl (by kernel_rfl) (by kernel_rfl) (by kernel_rfl) (yl_other (by decide) (by decide) rfl (fun f1 f2 wx hT => ?_)) ?_; rotate_left
      · refine lands_value (w := wx) ?_ hT; go_simp <;> rfl
      simp only [pu]
      refine anyL_take (i := 9) (v := ?_) rfl (by kernel_rfl) (by kernel_rfl) (by kernel_rfl) (yl_other (by decide) (by decide) rfl (fun f1 f2 wx hT => ?_)) ?_; rotate_left
      · refine lands_value (w := wx) ?_ hT; go_simp <;> rfl
      simp only [pu]
      refine anyL_take (i := 10) (v := ?_) rfl (by kernel_rfl) (by kernel_rfl) (by kernel_rfl) (yl_other (by decide) (by decide) rfl (fun f1 f2 wx hT => ?_)) ?_; rotate_left
      · refine lands_value (w := wx) ?_ hT; go_simp <;> rfl
      simp only [pu]
      refine anyL_take (i := 11) (v := ?_) rfl (by kernel_rfl) (by kernel_rfl) (by kernel_rfl) (yl_other (by decide) (by decide) rfl (fun f1 f2 wx hT => ?_)) ?_; rotate_left
      · refine lands_value (w := wx) ?_ hT; go_simp <;> rfl
      simp only [pu]
      refine anyL_take (i := 12) (v := ?_) rfl (by kernel_rfl) (by kernel_rfl) (by kernel_rfl) (yl_other (by decide) (by decide) rfl (fun f1 f2 wx hT => ?_)) ?_; rotate_left
      · refine lands_value (w := wx) ?_ hT; go_simp <;> rfl
      simp only [pu]
      refine anyL_take (i := 13) (v := undef) rfl (by kernel_rfl) (by kernel_rfl) (by kernel_rfl) (yl_first (by decide) rfl (fun f2 wx hT => ?_)) ?_
      · have co := hT.o.at_ hlt; have fo := hT.o.frozen k; have K := hT.put hlt; go_simp; exact ⟨rfl, K⟩
      simp only [Act.put]
      refine anyL_take (i := 14) (v := ?_) rfl (by kernel_rfl) (by kernel_rfl) (by kernel_rfl) (yl_other (by decide) (by decide) rfl (fun f1 f2 wx hT => ?_)) ?_; rotate_left
      · refine lands_value (w := wx) ?_ hT; go_simp <;> rfl
      simp only [pu]
      refine anyL_done (by kernel_rfl) (fun w3 (K : PW a b (k + 1) w w3) => ?_) _
      clear hr ca cb hrun hl0 hl1 hw1
      go_wp2_with fail
      go_roundw
      case rel => exact ⟨k + 1, by omega, by go_num, rfl, K⟩
      case measure => simp [intOf]; omega
    · obtain rfl : k = 4 := by omega
      have ho := hr.o.cast_ (gF_all (a + b))
      have hl := hr.l
      clear hr
      go_wp2_with (first
        | (refine wpList_load_row rfl 52 _ rfl (w.heap.size + 2) rfl 52 _ (0, 0) _ ho Tryz.underlying52 rfl (HS.out _) ?_)
        | (refine wpList_store_row rfl 52 _ _ rfl (w.heap.size + 2) (r64 4 (F4 (a + b))) rfl rfl 52 _ ho (HS.out _) rfl (row_one fun _ => rfl) ?_))
      exact bodyPost_ret (results_cell_row rfl _ _ (w.heap.size + 2) 52 (r64 4 (F4 (a + b))) (0, 0) _ rfl (ho.row_ _) Tryz.underlying52 rfl (HS.out _)) rfl ⟨rfl, below_setRow' hl (by omega) _⟩
/-- Within minus. -/
structure NW (a b k : Nat) (w wr : World) : Prop where
  da : Blk wr w.heap.size 52 (r64 4 (F4 a))
  db : Blk wr (w.heap.size + 1) 52 (r64 4 (F4 b))
  o : Blk wr (w.heap.size + 2) 52 (r64 4 (gF (a + M256 - b) k))
  l : Below w.heap.size w wr
theorem NW.drew {a b k : Nat} {w wr : World} (h : NW a b k w wr) : NW a b k w wr.drew := ⟨h.da, h.db, h.o, h.l.drew⟩
theorem NW.put {a b k : Nat} {w wr : World} (h : NW a b k w wr) (hk : k < 4) : NW a b (k + 1) w (wr.setCell ⟨w.heap.size + 2, k, none⟩ (.int .u64 (iw (F4 (a + M256 - b) k)))) :=
  ⟨h.da.far (by simp) _, h.db.far (by simp) _, (h.o.put hk _).cast_ (row_ext fun i _ => gF_put (a + M256 - b) k i), h.l.setCell (by simp) _⟩
set_option maxRecDepth 100000 in
set_option maxHeartbeats 1000000 in
theorem qminus_any (a b : Nat) (ha : a < M256) (hb : b < M256) (w : World) :
    Calls Tryz.prog 115 #[.agg (r64 4 (F4 a)), .agg (r64 4 (F4 b))] w fun e w' => e = .returned (.tuple #[.agg (r64 4 (F4 (a + M256 - b))), .int .u64 (iw (b64 a b 4))]) ∧ Below w.heap.size w w' := by
  have HS := Lib.hid num_size
  have hal : Tryz.prog.arrayLen 52 = 4 := by kernel_rfl
  have HA := Lib.hid (fun k hk w => subF a b k hk ha hb w)
  go_enter Tryz.func115, Tryz.ntmps115
  go_wp2_with fail
  go_loopw [5, 7] (fun v i wr => ∃ k : Nat, k ≤ 4 ∧ i = .int .i64 (k : Int) ∧ v = .int .u64 (iw (b64 a b k)) ∧ NW a b k w wr) (fun _ i _ => 4 - (intOf i).toNat)
  case atStart => exact ⟨0, by omega, rfl, b64_zero a b, ⟨((Blk.new w _ _).alloc _).alloc _, ((Blk.new (w.alloc _) _ _).cast' ⟨by simp, rfl⟩).alloc _, (Blk.new _ _ _).cast' ⟨by simp, zero4'.trans (gF_none _)⟩, (((Below.refl _ _).alloc (Nat.le_refl _) _).alloc (by simp) _).alloc (by simp; omega) _⟩⟩
  case round =>
    obtain ⟨k, hk, rfl, rfl, hr⟩ := hrel
    by_cases hlt : k < 4
    · have ca := hr.da.at_ hlt
      have cb := hr.db.at_ hlt
      have hrun := HA.out k hlt
      have hl0 : (k : Int) < 4 := by omega
      have hl1 : (0 : Int) ≤ k := by omega
      have hw1 : IntKind.i64.wrap (k : Int) = (k : Int) := IntWalk.i64_in _ (by omega)
      go_wp2_with fail
      refine wp_region_anyL (Two 13 1000 fun f1 _ wx => NW a b (if f1 then k + 1 else k) w wx) (by kernel_rfl) hr.drew ?_
      refine anyL_take (i := 0) (v := ?_) rfl (by kernel_rfl) (by kernel_rfl) (by kernel_rfl) (yl_other (by decide) (by decide) rfl (fun f1 f2 wx hT => ?_)) ?_; rotate_left
      · refine lands_value (w := wx) ?_ hT; go_simp <;> rfl
      simp only [pu]
      refine anyL_take (i := 1) (v := ?_) rfl (by kernel_rfl) (by kernel_rfl) (by kernel_rfl) (yl_other (by decide) (by decide) rfl (fun f1 f2 wx hT => ?_)) ?_; rotate_left
      · refine lands_value (w := wx) ?_ hT; go_simp <;> rfl
      simp only [pu]
      refine anyL_take (i := 2) (v := ?_) rfl (by kernel_rfl) (by kernel_rfl) (by kernel_rfl) (yl_other (by decide) (by decide) rfl (fun f1 f2 wx hT => ?_)) ?_; rotate_left
      · refine lands_value (w := wx) ?_ hT; go_simp <;> rfl
      simp only [pu]
      refine anyL_take (i := 3) (v := ?_) rfl (by kernel_rfl) (by kernel_rfl) (by kernel_rfl) (yl_other (by decide) (by decide) rfl (fun f1 f2 wx hT => ?_)) ?_; rotate_left
      · have ca := hT.da.at_ hlt; refine lands_value (w := wx) ?_ hT; go_simp <;> rfl
      simp only [pu]
      refine anyL_take (i := 4) (v := ?_) rfl (by kernel_rfl) (by kernel_rfl) (by kernel_rfl) (yl_other (by decide) (by decide) rfl (fun f1 f2 wx hT => ?_)) ?_; rotate_left
      · refine lands_value (w := wx) ?_ hT; go_simp <;> rfl
      simp only [pu]
      refine anyL_take (i := 5) (v := ?_) rfl (by kernel_rfl) (by kernel_rfl) (by kernel_rfl) (yl_other (by decide) (by decide) rfl (fun f1 f2 wx hT => ?_)) ?_; rotate_left
      · refine lands_value (w := wx) ?_ hT; go_simp <;> rfl
      simp only [pu]
      refine anyL_take (i := 6) (v := ?_) rfl (by kernel_rfl) (by kernel_rfl) (by kernel_rfl) (yl_other (by decide) (by decide) rfl (fun f1 f2 wx hT => ?_)) ?_; rotate_left
      · have cb := hT.db.at_ hlt; refine lands_value (w := wx) ?_ hT; go_simp <;> rfl
      simp only [pu]
      refine anyL_take (i := 7) (v := ?_) rfl (by kernel_rfl) (by kernel_rfl) (by kernel_rfl) (yl_other (by decide) (by decide) rfl (fun f1 f2 wx hT => ?_)) ?_; rotate_left
      · refine lands_value (w := wx) ?_ hT; go_simp <;> rfl
      simp only [pu]
      refine anyL_take (i := 8) (v := ?_) rfl (by kernel_rfl) (by kernel_rfl) (by kernel_rfl) (yl_other (by decide) (by decide) rfl (fun f1 f2 wx hT => ?_)) ?_; rotate_left
      · refine lands_value (w := wx) ?_ hT; go_simp <;> rfl
      simp only [pu]
      refine anyL_take (i := 9) (v := ?_) rfl (by kernel_rfl) (by kernel_rfl) (by kernel_rfl) (yl_other (by decide) (by decide) rfl (fun f1 f2 wx hT => ?_)) ?_; rotate_left
      · refine lands_value (w := wx) ?_ hT; go_simp <;> rfl
      simp only [pu]
      refine anyL_take (i := 10) (v := ?_) rfl (by kernel_rfl) (by kernel_rfl) (by kernel_rfl) (yl_other (by decide) (by decide) rfl (fun f1 f2 wx hT => ?_)) ?_; rotate_left
      · refine lands_value (w := wx) ?_ hT; go_simp <;> rfl
      simp only [pu]
      refine anyL_take (i := 11) (v := ?_) rfl (by kernel_rfl) (by kernel_rfl) (by kernel_rfl) (yl_other (by decide) (by decide) rfl (fun f1 f2 wx hT => ?_)) ?_; rotate_left
      · refine lands_value (w := wx) ?_ hT; go_simp <;> rfl
      simp only [pu]
      refine anyL_take (i := 12) (v := ?_) rfl (by kernel_rfl) (by kernel_rfl) (by kernel_rfl) (yl_other (by decide) (by decide) rfl (fun f1 f2 wx hT => ?_)) ?_; rotate_left
      · refine lands_value (w := wx) ?_ hT; go_simp <;> rfl
      simp only [pu]
      refine anyL_take (i := 13) (v := undef) rfl (by kernel_rfl) (by kernel_rfl) (by kernel_rfl) (yl_first (by decide) rfl (fun f2 wx hT => ?_)) ?_
      · have co := hT.o.at_ hlt; have fo := hT.o.frozen k; have K := hT.put hlt; go_simp; exact ⟨rfl, K⟩
      simp only [Act.put]
      refine anyL_take (i := 14) (v := ?_) rfl (by kernel_rfl) (by kernel_rfl) (by kernel_rfl) (yl_other (by decide) (by decide) rfl (fun f1 f2 wx hT => ?_)) ?_; rotate_left
      · refine lands_value (w := wx) ?_ hT; go_simp <;> rfl
      simp only [pu]
      refine anyL_done (by kernel_rfl) (fun w3 (K : NW a b (k + 1) w w3) => ?_) _
      clear hr ca cb hrun hl0 hl1 hw1
      go_wp2_with fail
      go_roundw
      case rel => exact ⟨k + 1, by omega, by go_num, rfl, K⟩
      case measure => simp [intOf]; omega
    · obtain rfl : k = 4 := by omega
      have ho := hr.o.cast_ (gF_all (a + M256 - b))
      have hl := hr.l
      clear hr
      go_wp2_with (first
        | (refine wpList_load_row rfl 52 _ rfl (w.heap.size + 2) rfl 52 _ (0, 0) _ ho Tryz.underlying52 rfl (HS.out _) ?_)
        | (refine wpList_store_row rfl 52 _ _ rfl (w.heap.size + 2) (r64 4 (F4 (a + M256 - b))) rfl rfl 52 _ ho (HS.out _) rfl (row_one fun _ => rfl) ?_))
      exact bodyPost_ret (results_cell_row_slot rfl _ _ (w.heap.size + 2) 52 (r64 4 (F4 (a + M256 - b))) (0, 0) _ _ rfl (ho.row_ _) Tryz.underlying52 rfl (HS.out _) rfl) rfl ⟨rfl, below_setRow' hl (by omega) _⟩
end Go.Proofs.YtggalphgnloneaaGreat.L4
/- leastTimes, behind of the layer scalar. -/
namespace Go.Proofs.YtggalphgnloneaaGreat.L4
open Go.RowKit
/-- The least two words of L. -/
def lL : Nat := 27742317777372353535851937790883648493
def lo0 : BitVec 64 := litw 64 6346243789798364141
def lo1 : BitVec 64 := litw 64 1503914060200516822
theorem lo0_nat : lo0.toNat = 6346243789798364141 := by unfold lo0 litw; rfl
theorem lo1_nat : lo1.toNat = 1503914060200516822 := by unfold lo1 litw; rfl
theorem lo0_int : Value.int .u64 6346243789798364141 = .int .u64 (iw lo0) := by kernel_rfl
theorem lo1_int : Value.int .u64 1503914060200516822 = .int .u64 (iw lo1) := by kernel_rfl
theorem least_sum (v : BitVec 64) : v.toNat * lL = v.toNat * lo0.toNat + v.toNat * lo1.toNat * W64 := by
  rw [lo0_nat, lo1_nat, Nat.mul_assoc, ← Nat.mul_add]; rfl
theorem least0 (v : BitVec 64) : nw (v.toNat * lo0.toNat) = F4 (v.toNat * lL) 0 := by
  apply nw_eq
  rw [F4_nat', least_sum]
  generalize v.toNat * lo0.toNat = p
  generalize v.toNat * lo1.toNat = q
  unfold W64; omega
theorem lo_lt (v : BitVec 64) : v.toNat * lo0.toNat / W64 < W64 :=
  Nat.div_lt_of_lt_mul (Nat.mul_lt_mul'' (w_lt v) (w_lt lo0))
theorem hi_lt (v : BitVec 64) : v.toNat * lo1.toNat ≤ (W64 - 1) * (W64 - 1) := Nat.mul_le_mul (by have := w_lt v; omega) (by have := w_lt lo1; omega)
theorem least1 (v : BitVec 64) : nw (v.toNat * lo1.toNat + (nw (v.toNat * lo0.toNat / W64)).toNat) = F4 (v.toNat * lL) 1 := by
  have h := lo_lt v
  apply nw_eq
  rw [F4_nat', least_sum, nw_nat _ h]
  generalize v.toNat * lo0.toNat = p at *
  generalize v.toNat * lo1.toNat = q
  simp only [Nat.reduceMul, Nat.reducePow]
  unfold W64 at *; omega
theorem least2 (v : BitVec 64) : nw ((v.toNat * lo1.toNat + (nw (v.toNat * lo0.toNat / W64)).toNat) / W64) = F4 (v.toNat * lL) 2 := by
  have h := lo_lt v
  apply nw_eq
  rw [F4_nat', least_sum, nw_nat _ h]
  generalize v.toNat * lo0.toNat = p at *
  generalize v.toNat * lo1.toNat = q
  simp only [Nat.reduceMul, Nat.reducePow]
  unfold W64 at *; omega
theorem least3 (v : BitVec 64) : F4 (v.toNat * lL) 3 = litw 64 0 := by
  have h := lo_lt v
  have h2 := hi_lt v
  apply BitVec.eq_of_toNat_eq
  rw [F4_nat', show (litw 64 0).toNat = 0 from rfl, least_sum]
  generalize v.toNat * lo0.toNat = p at *
  generalize v.toNat * lo1.toNat = q at *
  simp only [Nat.reduceMul, Nat.reducePow]
  unfold W64 at *; omega
theorem least_row (v : BitVec 64) : #[Value.int .u64 (iw (F4 (v.toNat * lL) 0)), .int .u64 (iw (F4 (v.toNat * lL) 1)), .int .u64 (iw (F4 (v.toNat * lL) 2)), .int .u64 0] = r64 4 (F4 (v.toNat * lL)) := by
  rw [lit0w]; exact row4 _ _ _ _ _ rfl rfl rfl (least3 v).symm
theorem built3 (a b c : BitVec 64) : Tryz.prog.built 52 [(0, .int .u64 (iw a)), (1, .int .u64 (iw b)), (2, .int .u64 (iw c))] = some #[.int .u64 (iw a), .int .u64 (iw b), .int .u64 (iw c), .int .u64 0] := by kernel_rfl
theorem step_l0 (v : BitVec 64) (w : World) : Calls Tryz.prog 82 #[.int .u64 (iw v), .int .u64 6346243789798364141, .int .u64 0, .int .u64 0] w fun e w' => e = .returned (.tuple #[.int .u64 (iw (F4 (v.toNat * lL) 0)), .int .u64 (iw (nw (v.toNat * lo0.toNat / W64)))]) ∧ w = w' := by
  have h := qstep_any v lo0 (litw 64 0) (litw 64 0) w
  simp only [show (litw 64 0).toNat = 0 from rfl, Nat.add_zero] at h
  rw [← lit0w, ← lo0_int, least0] at h
  exact h
theorem step_l1 (v : BitVec 64) (w : World) : Calls Tryz.prog 82 #[.int .u64 (iw v), .int .u64 1503914060200516822, .int .u64 0, .int .u64 (iw (nw (v.toNat * lo0.toNat / W64)))] w fun e w' => e = .returned (.tuple #[.int .u64 (iw (F4 (v.toNat * lL) 1)), .int .u64 (iw (F4 (v.toNat * lL) 2))]) ∧ w = w' := by
  have h := qstep_any v lo1 (litw 64 0) (nw (v.toNat * lo0.toNat / W64)) w
  simp only [show (litw 64 0).toNat = 0 from rfl, Nat.add_zero] at h
  rw [← lit0w, ← lo1_int, least1, least2] at h
  exact h
set_option maxRecDepth 100000 in
theorem qleast_any (v : BitVec 64) (w : World) :
    Calls Tryz.prog 116 #[.int .u64 (iw v)] w fun e w' => e = .returned (.agg (r64 4 (F4 (v.toNat * lL)))) ∧ Below w.heap.size w w' := by
  have HS := Lib.hid num_size
  have H0 := Lib.hid (step_l0 v)
  have H1 := Lib.hid (step_l1 v)
  have HR := Lib.hid (least_row v)
  have hb := built3
  have Z0 : Blk (w.alloc (.cells #[.int .u64 0, .int .u64 0, .int .u64 0, .int .u64 0] 52)) w.heap.size 52 (r64 4 fun _ => litw 64 0) := (Blk.new w _ _).cast_ zero4'
  go_enter Tryz.func116, Tryz.ntmps116
  go_wp2_with fail
  refine (H0.out _).mono ?_
  rintro e w' ⟨rfl, rfl⟩
  go_wp2_with fail
  refine (H1.out _).mono ?_
  rintro e w' ⟨rfl, rfl⟩
  go_wp2_with (refine wpList_store_row rfl 52 _ _ rfl w.heap.size (r64 4 (F4 (v.toNat * lL))) rfl (congrArg Value.agg HR.out) 52 _ Z0 (HS.out _) (by simp only [row_size]) (row_one fun _ => rfl) ?_)
  exact bodyPost_ret (results_cell_row rfl _ _ w.heap.size 52 (r64 4 (F4 (v.toNat * lL))) (0, 0) _ rfl (Z0.row_ _) Tryz.underlying52 rfl (HS.out _)) rfl ⟨rfl, below_setRow' ((Below.refl _ _).alloc (Nat.le_refl _) _) (by omega) _⟩
/-- r times 2^32, and half, below 2^252. -/
def bR (r h : Nat) : Nat := (r * 4294967296 + h) % 7237005577332262213973186563042994240829374041602535252466099000494570602496
def bT (r : Nat) : Nat := r / 1684996666696914987166688442938726917102321526408785780068975640576
theorem bR_lt (r h : Nat) : bR r h < 7237005577332262213973186563042994240829374041602535252466099000494570602496 := Nat.mod_lt _ (by decide)
theorem bR_sum (r h : Nat) (hh : h < 4294967296) : r * 4294967296 + h = bT r * 7237005577332262213973186563042994240829374041602535252466099000494570602496 + bR r h := by
  unfold bT bR; omega
theorem or_shl (x y : BitVec 64) (hy : y.toNat < 4294967296) : (orw (shlw x 32) y).toNat = 4294967296 * (x.toNat % 4294967296) + y.toNat := by
  have e : (shlw x 32).toNat = 4294967296 * (x.toNat % 4294967296) := by
    unfold shlw; rw [BitVec.toNat_shiftLeft, Nat.shiftLeft_eq]; omega
  unfold orw
  rw [BitVec.toNat_or, e]
  exact (Nat.two_pow_add_eq_or_of_lt (i := 32) hy _).symm
theorem or_and (x y : BitVec 64) (hy : y.toNat < 4294967296) : (orw (andw (shlw x 32) (litw 64 1152921504606846975)) y).toNat = 4294967296 * (x.toNat % 268435456) + y.toNat := by
  have e : (andw (shlw x 32) (litw 64 1152921504606846975)).toNat = 4294967296 * (x.toNat % 268435456) := by
    unfold andw shlw litw
    rw [BitVec.toNat_and, show (BitVec.ofNat 64 1152921504606846975).toNat = 2 ^ 60 - 1 by rfl, Nat.and_two_pow_sub_one_eq_mod, BitVec.toNat_shiftLeft, Nat.shiftLeft_eq]; omega
  unfold orw
  rw [BitVec.toNat_or, e]
  exact (Nat.two_pow_add_eq_or_of_lt (i := 32) hy _).symm
theorem shr_nat (x : BitVec 64) : (shrw x 32).toNat = x.toNat / 4294967296 := by
  unfold shrw; rw [BitVec.toNat_ushiftRight, Nat.shiftRight_eq_div_pow]
theorem shr_lt (x : BitVec 64) : (shrw x 32).toNat < 4294967296 := by
  have := x.isLt
  rw [shr_nat]; omega
theorem half_nat (h : Nat) (hh : h < 4294967296) : (nw h).toNat = h := nw_nat _ (by unfold W64; omega)
theorem behind0 (r h : Nat) (hh : h < 4294967296) : orw (shlw (F4 r 0) 32) (nw h) = F4 (bR r h) 0 := by
  apply BitVec.eq_of_toNat_eq
  rw [or_shl _ _ (by rw [half_nat h hh]; exact hh), half_nat h hh, F4_nat', F4_nat']
  unfold bR W64; simp only [Nat.reduceMul, Nat.reducePow]; omega
theorem behind1 (r h : Nat) (hh : h < 4294967296) : orw (shlw (F4 r 1) 32) (shrw (F4 r 0) 32) = F4 (bR r h) 1 := by
  apply BitVec.eq_of_toNat_eq
  rw [or_shl _ _ (shr_lt _), shr_nat, F4_nat', F4_nat', F4_nat']
  unfold bR W64; simp only [Nat.reduceMul, Nat.reducePow]; omega
theorem behind2 (r h : Nat) (hh : h < 4294967296) : orw (shlw (F4 r 2) 32) (shrw (F4 r 1) 32) = F4 (bR r h) 2 := by
  apply BitVec.eq_of_toNat_eq
  rw [or_shl _ _ (shr_lt _), shr_nat, F4_nat', F4_nat', F4_nat']
  unfold bR W64; simp only [Nat.reduceMul, Nat.reducePow]; omega
theorem behind3 (r h : Nat) (hh : h < 4294967296) : orw (andw (shlw (F4 r 3) 32) (litw 64 1152921504606846975)) (shrw (F4 r 2) 32) = F4 (bR r h) 3 := by
  apply BitVec.eq_of_toNat_eq
  rw [or_and _ _ (shr_lt _), shr_nat, F4_nat', F4_nat', F4_nat']
  unfold bR W64; simp only [Nat.reduceMul, Nat.reducePow]; omega
theorem behindT (r : Nat) (hr : r < qL) : (shrw (F4 r 3) 28).toNat = bT r := by
  unfold shrw
  rw [BitVec.toNat_ushiftRight, Nat.shiftRight_eq_div_pow, F4_nat']
  unfold bT W64; unfold qL at hr; simp only [Nat.reduceMul, Nat.reducePow]; omega
theorem behind_row (r h : Nat) (hh : h < 4294967296) : #[Value.int .u64 (iw (orw (shlw (F4 r 0) 32) (nw h))), .int .u64 (iw (orw (shlw (F4 r 1) 32) (shrw (F4 r 0) 32))), .int .u64 (iw (orw (shlw (F4 r 2) 32) (shrw (F4 r 1) 32))), .int .u64 (iw (orw (andw (shlw (F4 r 3) 32) (litw 64 1152921504606846975)) (shrw (F4 r 2) 32)))] = r64 4 (F4 (bR r h)) :=
  row4 _ _ _ _ _ (behind0 r h hh) (behind1 r h hh) (behind2 r h hh) (behind3 r h hh)
theorem built_num (a b c d : BitVec 64) : Tryz.prog.built 52 [(0, .int .u64 (iw a)), (1, .int .u64 (iw b)), (2, .int .u64 (iw c)), (3, .int .u64 (iw d))] = some #[.int .u64 (iw a), .int .u64 (iw b), .int .u64 (iw c), .int .u64 (iw d)] := by kernel_rfl
/-- What is taken away. -/
def tL (r : Nat) : Nat := bT r * lL
theorem tL_lt (r : Nat) (hr : r < qL) : tL r < M256 := by unfold tL bT lL M256; unfold qL at hr; omega
theorem bR_M (r h : Nat) : bR r h < M256 := Nat.lt_trans (bR_lt r h) (by decide)
theorem behind_less (r h : Nat) (hr : r < qL) (hh : h < 4294967296) (hlt : bR r h < tL r) : (bR r h + M256 - tL r + qL) % M256 = (r * 4294967296 + h) % qL := by
  have h1 := bR_sum r h hh
  have h2 := bR_lt r h
  have h3 : bT r < 8589934592 := by unfold bT; unfold qL at hr; omega
  rw [h1]
  unfold tL lL at *
  generalize bT r = t at *
  generalize bR r h = x at *
  clear h1 hr hh
  obtain ⟨s, rfl⟩ : ∃ s, t = s + 1 := ⟨t - 1, by omega⟩
  obtain ⟨y, hy⟩ : ∃ y, y = x + qL - (s + 1) * 27742317777372353535851937790883648493 := ⟨_, rfl⟩
  have hyq : y < qL := by unfold qL at *; omega
  have e1 : (s + 1) * 7237005577332262213973186563042994240829374041602535252466099000494570602496 + x = y + qL * s := by unfold qL at *; omega
  have e2 : x + M256 - (s + 1) * 27742317777372353535851937790883648493 + qL = y + M256 := by unfold qL M256 at *; omega
  have hyM : y < M256 := Nat.lt_trans hyq (by decide)
  rw [e1, e2, Nat.add_mul_mod_self_left, Nat.mod_eq_of_lt hyq, Nat.add_mod_right, Nat.mod_eq_of_lt hyM]
theorem behind_more (r h : Nat) (hr : r < qL) (hh : h < 4294967296) (hlt : ¬ bR r h < tL r) : (bR r h + M256 - tL r) % M256 = (r * 4294967296 + h) % qL := by
  have h1 := bR_sum r h hh
  have h2 := bR_lt r h
  have h3 : bT r < 8589934592 := by unfold bT; unfold qL at hr; omega
  rw [h1]
  unfold tL lL at *
  generalize bT r = t at *
  generalize bR r h = x at *
  clear h1 hr hh
  obtain ⟨y, hy⟩ : ∃ y, y = x - t * 27742317777372353535851937790883648493 := ⟨_, rfl⟩
  have hyq : y < qL := by unfold qL at *; omega
  have e1 : t * 7237005577332262213973186563042994240829374041602535252466099000494570602496 + x = y + qL * t := by unfold qL at *; omega
  have e2 : x + M256 - t * 27742317777372353535851937790883648493 = y + M256 := by unfold M256 at *; omega
  have hyM : y < M256 := Nat.lt_trans hyq (by decide)
  rw [e1, e2, Nat.add_mul_mod_self_left, Nat.mod_eq_of_lt hyq, Nat.add_mod_right, Nat.mod_eq_of_lt hyM]
theorem F4_modM (m i : Nat) (hi : i < 4) : F4 m i = F4 (m % M256) i := by
  apply BitVec.eq_of_toNat_eq
  rw [F4_nat, F4_nat]
  unfold M256
  match i, hi with
  | 0, _ => simp only [Nat.reduceMul, Nat.reducePow]; omega
  | 1, _ => simp only [Nat.reduceMul, Nat.reducePow]; omega
  | 2, _ => simp only [Nat.reduceMul, Nat.reducePow]; omega
  | 3, _ => simp only [Nat.reduceMul, Nat.reducePow]; omega
theorem r64_modM (m : Nat) : r64 4 (F4 m) = r64 4 (F4 (m % M256)) := row_ext fun i hi => by rw [F4_modM m i hi]
theorem lands_num {R : World → Prop} {o : Oper} {a : Act} {w : World} (x : Operand) (ho : o.op = .load 52 x) (g : Nat) (hx : a.eval x = .pointer (some ⟨g, 0, none⟩)) (f : Nat → BitVec 64) (hg : Blk w g 52 (r64 4 f)) (hR : R w) :
    Lands Tryz.prog R (.agg (r64 4 f)) ((execOp a.eval o).run Tryz.prog w) := lands_load 52 x ho g hx _ _ _ hg Tryz.underlying52 rfl (num_size f) hR
theorem stores_num {R : World → Prop} {o : Oper} {a : Act} {w : World} (x y : Operand) (ho : o.op = .store 52 x y) (g : Nat) (f f0 : Nat → BitVec 64) (hx : a.eval x = .pointer (some ⟨g, 0, none⟩)) (hy : a.eval y = .agg (r64 4 f)) (hg : Blk w g 52 (r64 4 f0)) (hR : R (w.setRow g (r64 4 f))) :
    Lands Tryz.prog R undef ((execOp a.eval o).run Tryz.prog w) := lands_store 52 x y ho g _ hx hy _ _ hg (num_size f) (by simp only [row_size]) (row_one fun _ => rfl) hR
def zW : Nat → BitVec 64 := fun _ => litw 64 0
theorem zero4z : #[Value.int .u64 0, .int .u64 0, .int .u64 0, .int .u64 0] = r64 4 zW := zero4'
/-- The blocks of behind. -/
def bBl (g : Nat) (T : TypeId) (f : Nat → BitVec 64) : List (Nat × TypeId × Array Value) := [(g + 2, T, r64 4 f), (g + 1, T, r64 4 zW)]
theorem bBl_put (g : Nat) (T : TypeId) (f f' : Nat → BitVec 64) : ∀ x ∈ bBl g T f', (x = (g + 2, T, r64 4 f')) ∨ (x ∈ bBl g T f ∧ x.1 ≠ g + 2) := by
  intro x hx
  simp only [bBl, List.mem_cons, List.not_mem_nil, or_false] at hx
  rcases hx with rfl | rfl
  · exact .inl rfl
  · exact .inr ⟨m1, by show g + 1 ≠ _; omega⟩
set_option maxRecDepth 100000 in
set_option maxHeartbeats 2000000 in
theorem qbehind_any (r h : Nat) (hr : r < qL) (hh : h < 4294967296) (w : World) :
    Calls Tryz.prog 81 #[.agg (r64 4 (F4 r)), .int .u64 (iw (nw h))] w fun e w' => e = .returned (.agg (r64 4 (F4 ((r * 4294967296 + h) % qL)))) ∧ Below w.heap.size w w' := by
  have HS := Lib.hid num_size
  have HR := Lib.hid (behind_row r h hh)
  have HT := Lib.hid (behindT r hr)
  have hand : ∀ x : BitVec 64, bits .and .u64 (iw x) 1152921504606846975 = iw (andw x (litw 64 1152921504606846975)) := fun x => and64_lit x _
  have hbu := built_num
  have W0 : Blk ((w.alloc (.cells (r64 4 (F4 r)) 52)).alloc (.cells #[.int .u64 0, .int .u64 0, .int .u64 0, .int .u64 0] 52)) w.heap.size 52 (r64 4 (F4 r)) := (Blk.new w _ _).alloc _
  have K0 : Known w.heap.size w [(w.heap.size + 1, 52, r64 4 zW)] ((w.alloc (.cells (r64 4 (F4 r)) 52)).alloc (.cells #[.int .u64 0, .int .u64 0, .int .u64 0, .int .u64 0] 52)) := by
    refine ((((Known.begin w).alloc _).add _ 52).cast ?_)
    rw [zero4z]; simp
  have c0 := W0.at_ (i := 0) (by omega)
  have c1 := W0.at_ (i := 1) (by omega)
  have c2 := W0.at_ (i := 2) (by omega)
  have c3 := W0.at_ (i := 3) (by omega)
  go_enter Tryz.func81, Tryz.ntmps81
  go_wp2_with fail
  rw [HR.out]
  refine wp_gen (Known w.heap.size w (bBl w.heap.size 52 (F4 (bR r h)))) ((K0.add _ 52).cast (by simp [bBl])) (fun w1 h1 => ?_)
  clear K0 W0 c0 c1 c2 c3 hand hbu
  have CL : Hid (∀ w, Calls Tryz.prog 116 #[.int .u64 (iw (shrw (F4 r 3) 28))] w fun e w' => e = .returned (.agg (r64 4 (F4 (tL r)))) ∧ Below w.heap.size w w') := Lib.hid (fun w => by
    have h1 := qleast_any (shrw (F4 r 3) 28) w
    rw [HT.out] at h1
    exact h1)
  have CM := Lib.hid (fun w => qminus_any (bR r h) (tL r) (bR_M r h) (tL_lt r hr) w)
  have HM := Lib.hid (fun f f' => bBl_put w.heap.size 52 f f')
  have hbf := bb_four (bR r h) (tL r) (bR_M r h) (tL_lt r hr)
  have HL := Lib.hid (behind_less r h hr hh)
  have HG := Lib.hid (behind_more r h hr hh)
  clear HR HT
  generalize hX : (r * 4294967296 + h) % qL = X at HL HG ⊢
  have HXX := Lib.hid hX
  clear hX
  generalize bR r h = x at *
  generalize tL r = t at *
  generalize x + M256 - t = D at CM HL HG
  refine wp_region_anyL (Two 7 1000 fun f1 _ wx => Known w.heap.size w (bBl w.heap.size 52 (if f1 then F4 D else F4 x)) wx) (by kernel_rfl) h1.drew ?_
  refine anyL_take (i := 0) (v := .agg (r64 4 (F4 x))) rfl (by kernel_rfl) (by kernel_rfl) (by kernel_rfl) (yl_ahead (n := 9) (by decide) (by decide) (by kernel_rfl) rfl (fun f2 wx hT => ?_)) ?_
  · exact lands_num _ rfl _ rfl _ (hT.blk _ m0) hT
  simp only [pu]
  refine anyL_take (i := 1) (v := ?_) rfl (by kernel_rfl) (by kernel_rfl) (by kernel_rfl) (yl_other (by decide) (by decide) rfl (fun f1 f2 wx hT => ?_)) ?_; rotate_left
  · refine lands_value (w := wx) ?_ hT; go_simp <;> rfl
  simp only [pu]
  refine anyL_take (i := 2) (v := .agg (r64 4 (F4 t))) rfl (by kernel_rfl) (by kernel_rfl) (by kernel_rfl) (yl_other (by decide) (by decide) rfl (fun f1 f2 wx hT => ?_)) ?_
  · exact lands_calls (w := wx) ((CL.out wx).mono fun _ _ ⟨he, hb⟩ => ⟨he, hT.below hb⟩) (by go_simp)
  simp only [pu]
  refine anyL_take (i := 3) (v := .tuple #[.agg (r64 4 (F4 D)), .int .u64 (iw (b64 x t 4))]) rfl (by kernel_rfl) (by kernel_rfl) (by kernel_rfl) (yl_other (by decide) (by decide) rfl (fun f1 f2 wx hT => ?_)) ?_
  · exact lands_calls (w := wx) ((CM.out wx).mono fun _ _ ⟨he, hb⟩ => ⟨he, hT.below hb⟩) (by go_simp)
  simp only [pu]
  refine anyL_take (i := 4) (v := ?_) rfl (by kernel_rfl) (by kernel_rfl) (by kernel_rfl) (yl_other (by decide) (by decide) rfl (fun f1 f2 wx hT => ?_)) ?_; rotate_left
  · refine lands_value (w := wx) ?_ hT; go_simp <;> rfl
  simp only [pu]
  refine anyL_take (i := 5) (v := ?_) rfl (by kernel_rfl) (by kernel_rfl) (by kernel_rfl) (yl_other (by decide) (by decide) rfl (fun f1 f2 wx hT => ?_)) ?_; rotate_left
  · refine lands_value (w := wx) ?_ hT; go_simp <;> rfl
  simp only [pu]
  refine anyL_take (i := 6) (v := ?_) rfl (by kernel_rfl) (by kernel_rfl) (by kernel_rfl) (yl_other (by decide) (by decide) rfl (fun f1 f2 wx hT => ?_)) ?_; rotate_left
  · refine lands_value (w := wx) ?_ hT; go_simp <;> rfl
  simp only [pu]
  refine anyL_take (i := 7) (v := undef) rfl (by kernel_rfl) (by kernel_rfl) (by kernel_rfl) (yl_first (by decide) rfl (fun f2 wx hT => ?_)) ?_
  · exact stores_num _ _ rfl (w.heap.size + 2) _ _ rfl rfl (hT.blk _ m0) (hT.put (hT.blk _ m0) (by omega) _ _ (HM.out _ _))
  simp only [Act.put]
  refine anyL_take (i := 8) (v := ?_) rfl (by kernel_rfl) (by kernel_rfl) (by kernel_rfl) (yl_other (by decide) (by decide) rfl (fun f1 f2 wx hT => ?_)) ?_; rotate_left
  · refine lands_value (w := wx) ?_ hT; go_simp <;> rfl
  simp only [pu]
  refine anyL_done (by kernel_rfl) (fun w3 (K : Known w.heap.size w (bBl w.heap.size 52 (F4 D)) w3) => ?_) _
  clear h1 CL CM
  have CP := Lib.hid (fun w => qplus_any D qL w)
  by_cases hlt : x < t
  · have hiw : iw (b64 x t 4) = 1 := by unfold iw; rw [b64_nat, hbf, if_pos hlt]; rfl
    have hd : (iw (b64 x t 4) == 1) = true := by rw [hiw]; rfl
    have HX : Hid (r64 4 (F4 (D + qL)) = r64 4 (F4 X)) := Lib.hid (by rw [r64_modM, HL.out hlt])
    clear HL HG hbf hlt hiw
    generalize b64 x t 4 = bo at hd ⊢
    generalize D + qL = D2 at CP HX
    go_wp2_with fail
    refine wp_region_anyL (Two 3 1000 fun f1 _ wx => Known w.heap.size w (bBl w.heap.size 52 (if f1 then F4 D2 else F4 D)) wx) (by kernel_rfl) K.drew ?_
    refine anyL_take (i := 0) (v := .agg (r64 4 (F4 D))) rfl (by kernel_rfl) (by kernel_rfl) (by kernel_rfl) (yl_ahead (n := 9) (by decide) (by decide) (by kernel_rfl) rfl (fun f2 wx hT => ?_)) ?_
    · exact lands_num _ rfl _ rfl _ (hT.blk _ m0) hT
    simp only [pu]
    refine anyL_take (i := 1) (v := .agg (r64 4 (F4 qL))) rfl (by kernel_rfl) (by kernel_rfl) (by kernel_rfl) (yl_other (by decide) (by decide) rfl (fun f1 f2 wx hT => ?_)) ?_
    · exact lands_calls (w := wx) ((qorder_any wx).mono fun _ _ ⟨he, hb⟩ => ⟨he, hT.below hb⟩) (by go_simp)
    simp only [pu]
    refine anyL_take (i := 2) (v := .agg (r64 4 (F4 D2))) rfl (by kernel_rfl) (by kernel_rfl) (by kernel_rfl) (yl_other (by decide) (by decide) rfl (fun f1 f2 wx hT => ?_)) ?_
    · exact lands_calls (w := wx) ((CP.out wx).mono fun _ _ ⟨he, hb⟩ => ⟨he, hT.below hb⟩) (by go_simp)
    simp only [pu]
    refine anyL_take (i := 3) (v := undef) rfl (by kernel_rfl) (by kernel_rfl) (by kernel_rfl) (yl_first (by decide) rfl (fun f2 wx hT => ?_)) ?_
    · exact stores_num _ _ rfl (w.heap.size + 2) _ _ rfl rfl (hT.blk _ m0) (hT.put (hT.blk _ m0) (by omega) _ _ (HM.out _ _))
    simp only [Act.put]
    refine anyL_done (by kernel_rfl) (fun w4 (K2 : Known w.heap.size w (bBl w.heap.size 52 (F4 D2)) w4) => ?_) _
    clear K CP
    go_wp2_with (first
      | (refine wpList_load_row rfl 52 _ rfl (w.heap.size + 2) rfl 52 _ (0, 0) _ (K2.blk _ m0) Tryz.underlying52 rfl (HS.out _) ?_)
      | (refine wpList_store_row rfl 52 _ _ rfl (w.heap.size + 1) (r64 4 (F4 D2)) rfl rfl 52 _ (K2.blk _ m1) (HS.out _) (by simp only [row_size]) (row_one fun _ => rfl) ?_))
    exact bodyPost_ret (results_cell_row rfl _ _ (w.heap.size + 1) 52 (r64 4 (F4 D2)) (0, 0) _ rfl ((K2.blk _ m1).row_ _) Tryz.underlying52 rfl (HS.out _)) rfl ⟨by rw [HX.out, ← HXX.out], below_setRow' K2.b (by omega) _⟩
  · have hiw : iw (b64 x t 4) = 0 := by unfold iw; rw [b64_nat, hbf, if_neg hlt]; rfl
    have hd : (iw (b64 x t 4) == 1) = false := by rw [hiw]; rfl
    have HX : Hid (r64 4 (F4 D) = r64 4 (F4 X)) := Lib.hid (by rw [r64_modM, HG.out hlt])
    clear HL HG hbf hlt hiw CP
    generalize b64 x t 4 = bo at hd ⊢
    go_wp2_with (first
      | (refine wpList_load_row rfl 52 _ rfl (w.heap.size + 2) rfl 52 _ (0, 0) _ (K.blk _ m0) Tryz.underlying52 rfl (HS.out _) ?_)
      | (refine wpList_store_row rfl 52 _ _ rfl (w.heap.size + 1) (r64 4 (F4 D)) rfl rfl 52 _ (K.blk _ m1) (HS.out _) (by simp only [row_size]) (row_one fun _ => rfl) ?_))
    exact bodyPost_ret (results_cell_row rfl _ _ (w.heap.size + 1) 52 (r64 4 (F4 D)) (0, 0) _ rfl ((K.blk _ m1).row_ _) Tryz.underlying52 rfl (HS.out _)) rfl ⟨by rw [HX.out, ← HXX.out], below_setRow' K.b (by omega) _⟩
end Go.Proofs.YtggalphgnloneaaGreat.L4
/- reduced of the layer scalar. -/
namespace Go.Proofs.YtggalphgnloneaaGreat.L4
open Go.RowKit
/-- What is left, modulo L, of the words from k on. -/
def hiQ (n k : Nat) : Nat := n / 2 ^ (64 * k) % qL
theorem hiQ_lt (n k : Nat) : hiQ n k < qL := Nat.mod_lt _ (by decide)
theorem hiQ_zero (n : Nat) : hiQ n 0 = n % qL := by unfold hiQ; rw [Nat.mul_zero, Nat.pow_zero, Nat.div_one]
theorem hiQ_top (n a b k : Nat) (hk : k = a + b) (h : n < 2 ^ (64 * a) * 2 ^ (64 * b)) : hiQ n k = 0 := by
  subst hk; unfold hiQ; rw [Nat.div_eq_of_lt (by rw [Nat.mul_add, Nat.pow_add]; exact h)]; rfl
def midQ (n k : Nat) : Nat := (hiQ n (k + 1) * 4294967296 + (F4 n k).toNat / 4294967296) % qL
theorem midQ_lt (n k : Nat) : midQ n k < qL := Nat.mod_lt _ (by decide)
theorem mul_mod_next (x B h : Nat) : (x % qL * B + h) % qL = (x * B + h) % qL := by
  rw [Nat.add_mod, Nat.mul_mod, Nat.mod_mod, ← Nat.mul_mod, ← Nat.add_mod]
theorem midQ_next (n k : Nat) : (midQ n k * 4294967296 + (F4 n k).toNat % 4294967296) % qL = hiQ n k := by
  unfold midQ hiQ
  rw [mul_mod_next, Nat.add_mul, Nat.add_assoc]
  have e : (F4 n k).toNat / 4294967296 * 4294967296 + (F4 n k).toNat % 4294967296 = (F4 n k).toNat := by omega
  rw [e, Nat.mul_assoc, mul_mod_next, F4_nat', W64_pow, ← Nat.div_div_eq_div_mul]
  generalize n / 2 ^ (64 * k) = x
  have e2 : 4294967296 * 4294967296 = W64 := by decide
  have e3 : x / W64 * (4294967296 * 4294967296) + x % W64 = x := by rw [e2]; exact Nat.div_add_mod' x W64
  rw [e3]
theorem shr_half (x : BitVec 64) : shrw x 32 = nw (x.toNat / 4294967296) := by
  apply BitVec.eq_of_toNat_eq
  rw [shr_nat, nw_nat _ (by have := x.isLt; unfold W64; omega)]
theorem and_half (x : BitVec 64) : andw x (litw 64 4294967295) = nw (x.toNat % 4294967296) := by
  apply BitVec.eq_of_toNat_eq
  unfold andw litw
  rw [BitVec.toNat_and, show (BitVec.ofNat 64 4294967295).toNat = 2 ^ 32 - 1 by rfl, Nat.and_two_pow_sub_one_eq_mod, nw_nat _ (by have := x.isLt; unfold W64; omega)]
theorem behind_hi (n k : Nat) (w : World) : Calls Tryz.prog 81 #[.agg (r64 4 (F4 (hiQ n (k + 1)))), .int .u64 (iw (shrw (F4 n k) 32))] w fun e w' => e = .returned (.agg (r64 4 (F4 (midQ n k)))) ∧ Below w.heap.size w w' := by
  rw [shr_half]
  exact qbehind_any _ _ (hiQ_lt _ _) (by have := (F4 n k).isLt; omega) w
theorem behind_lo (n k : Nat) (w : World) : Calls Tryz.prog 81 #[.agg (r64 4 (F4 (midQ n k))), .int .u64 (iw (andw (F4 n k) (litw 64 4294967295)))] w fun e w' => e = .returned (.agg (r64 4 (F4 (hiQ n k)))) ∧ Below w.heap.size w w' := by
  rw [and_half]
  have h := qbehind_any (midQ n k) ((F4 n k).toNat % 4294967296) (midQ_lt _ _) (Nat.mod_lt _ (by decide)) w
  rw [midQ_next] at h
  exact h
/-- The blocks of reduced. -/
def rBl (g : Nat) (T1 T2 : TypeId) (f : Nat → BitVec 64) (n : Nat) : List (Nat × TypeId × Array Value) := [(g + 1, T1, r64 4 f), (g, T2, r64 8 (F4 n))]
theorem rBl_put (g : Nat) (T1 T2 : TypeId) (f f' : Nat → BitVec 64) (n : Nat) : ∀ x ∈ rBl g T1 T2 f' n, (x = (g + 1, T1, r64 4 f')) ∨ (x ∈ rBl g T1 T2 f n ∧ x.1 ≠ g + 1) := by
  intro x hx
  simp only [rBl, List.mem_cons, List.not_mem_nil, or_false] at hx
  rcases hx with rfl | rfl
  · exact .inl rfl
  · exact .inr ⟨m1, by show g ≠ _; omega⟩
abbrev RdQ (n : Nat) (f : Nat → BitVec 64) (w wr : World) : Prop := Known w.heap.size w (rBl w.heap.size 52 55 f n) wr
theorem RdQ.put {n : Nat} {f : Nat → BitVec 64} {w wr : World} (h : RdQ n f w wr) (f' : Nat → BitVec 64) : RdQ n f' w (wr.setRow (w.heap.size + 1) (r64 4 f')) :=
  Known.put h (Known.blk h _ m0) (by omega) _ _ (rBl_put _ _ _ _ _ _)
set_option maxRecDepth 100000 in
set_option maxHeartbeats 2000000 in
theorem qreduced_any (n : Nat) (hn : n < 2 ^ (64 * 4) * 2 ^ (64 * 4)) (w : World) :
    Calls Tryz.prog 42 #[.agg (r64 8 (F4 n))] w fun e w' => e = .returned (.agg (r64 4 (F4 (n % qL)))) ∧ Below w.heap.size w w' := by
  have HS := Lib.hid num_size
  have hal : Tryz.prog.arrayLen 55 = 8 := by kernel_rfl
  have HT : Hid (hiQ n 8 = 0) := Lib.hid (hiQ_top n 4 4 8 rfl hn)
  have HZ := Lib.hid (hiQ_zero n)
  have hand : ∀ x : BitVec 64, bits .and .u64 (iw x) 4294967295 = iw (andw x (litw 64 4294967295)) := fun x => and64_lit x _
  clear hn
  have K0 : RdQ n (F4 (hiQ n 8)) w ((w.alloc (.cells (r64 8 (F4 n)) 55)).alloc (.cells #[.int .u64 0, .int .u64 0, .int .u64 0, .int .u64 0] 52)) := by
    refine (((Known.begin w).add _ 55).add _ 52).cast ?_
    rw [HT.out, zero4', show r64 4 (fun _ => litw 64 0) = r64 4 (F4 0) from row_ext fun i _ => by rw [F4_zero]]; simp [rBl]
  go_enter Tryz.func42, Tryz.ntmps42
  go_wp2_with fail
  go_loopw [3] (fun i wr => ∃ k : Nat, k ≤ 8 ∧ i = .int .i64 ((k : Int) - 1) ∧ RdQ n (F4 (hiQ n k)) w wr) (fun i _ => (intOf i + 1).toNat)
  case atStart => exact ⟨8, by omega, rfl, K0⟩
  case round =>
    obtain ⟨k, hk, rfl, hr⟩ := hrel
    clear K0
    by_cases hlt : 0 < k
    · obtain ⟨j, rfl⟩ : ∃ j, k = j + 1 := ⟨k - 1, by omega⟩
      have hj8 : j < 8 := by omega
      have hl0 : (j : Int) < 8 := by omega
      have hl1 : (0 : Int) ≤ j := by omega
      have hwj : IntKind.i64.wrap (j : Int) = (j : Int) := IntWalk.i64_in _ (by omega)
      have CH := Lib.hid (behind_hi n j)
      have CO := Lib.hid (behind_lo n j)
      rw [show ((j + 1 : Nat) : Int) - 1 = (j : Int) by omega]
      generalize hiQ n (j + 1) = r0 at hr CH
      generalize midQ n j = r1 at CH CO
      generalize hR2 : hiQ n j = r2 at CO
      have HR2 := Lib.hid hR2
      clear hR2 hk hlt
      go_wp2_with fail
      refine wp_region_anyL (Two 6 1000 fun f1 _ wx => RdQ n (if f1 then F4 r1 else F4 r0) w wx) (by kernel_rfl) hr.drew ?_
      refine anyL_take (i := 0) (v := .agg (r64 4 (F4 r0))) rfl (by kernel_rfl) (by kernel_rfl) (by kernel_rfl) (yl_ahead (n := 9) (by decide) (by decide) (by kernel_rfl) rfl (fun f2 wx hT => ?_)) ?_
      · exact lands_num _ rfl _ rfl _ (Known.blk hT _ m0) hT
      simp only [pu]
      refine anyL_take (i := 1) (v := ?_) rfl (by kernel_rfl) (by kernel_rfl) (by kernel_rfl) (yl_other (by decide) (by decide) rfl (fun f1 f2 wx hT => ?_)) ?_; rotate_left
      · refine lands_value (w := wx) ?_ hT; go_simp <;> rfl
      simp only [pu]
      refine anyL_take (i := 2) (v := ?_) rfl (by kernel_rfl) (by kernel_rfl) (by kernel_rfl) (yl_other (by decide) (by decide) rfl (fun f1 f2 wx hT => ?_)) ?_; rotate_left
      · refine lands_value (w := wx) ?_ hT; go_simp <;> rfl
      simp only [pu]
      refine anyL_take (i := 3) (v := .int .u64 (iw (F4 n j))) rfl (by kernel_rfl) (by kernel_rfl) (by kernel_rfl) (yl_other (by decide) (by decide) rfl (fun f1 f2 wx hT => ?_)) ?_
      · have c0 := (Known.blk hT _ m1).at_ hj8; refine lands_value (w := wx) ?_ hT; go_simp
      simp only [pu]
      refine anyL_take (i := 4) (v := ?_) rfl (by kernel_rfl) (by kernel_rfl) (by kernel_rfl) (yl_other (by decide) (by decide) rfl (fun f1 f2 wx hT => ?_)) ?_; rotate_left
      · refine lands_value (w := wx) ?_ hT; go_simp <;> rfl
      simp only [pu]
      refine anyL_take (i := 5) (v := .agg (r64 4 (F4 r1))) rfl (by kernel_rfl) (by kernel_rfl) (by kernel_rfl) (yl_other (by decide) (by decide) rfl (fun f1 f2 wx hT => ?_)) ?_
      · exact lands_calls (w := wx) ((CH.out wx).mono fun _ _ ⟨he, hb⟩ => ⟨he, Known.below hT hb⟩) (by go_simp)
      simp only [pu]
      refine anyL_take (i := 6) (v := undef) rfl (by kernel_rfl) (by kernel_rfl) (by kernel_rfl) (yl_first (by decide) rfl (fun f2 wx hT => ?_)) ?_
      · exact stores_num _ _ rfl (w.heap.size + 1) _ _ rfl rfl (Known.blk hT _ m0) (RdQ.put hT _)
      simp only [Act.put]
      refine anyL_done (by kernel_rfl) (fun w3 (K : RdQ n (F4 r1) w w3) => ?_) _
      clear hr CH
      go_wp2_with fail
      refine wp_region_anyL (Two 6 1000 fun f1 _ wx => RdQ n (if f1 then F4 r2 else F4 r1) w wx) (by kernel_rfl) (Known.drew K) ?_
      refine anyL_take (i := 0) (v := .agg (r64 4 (F4 r1))) rfl (by kernel_rfl) (by kernel_rfl) (by kernel_rfl) (yl_ahead (n := 9) (by decide) (by decide) (by kernel_rfl) rfl (fun f2 wx hT => ?_)) ?_
      · exact lands_num _ rfl _ rfl _ (Known.blk hT _ m0) hT
      simp only [pu]
      refine anyL_take (i := 1) (v := ?_) rfl (by kernel_rfl) (by kernel_rfl) (by kernel_rfl) (yl_other (by decide) (by decide) rfl (fun f1 f2 wx hT => ?_)) ?_; rotate_left
      · refine lands_value (w := wx) ?_ hT; go_simp <;> rfl
      simp only [pu]
      refine anyL_take (i := 2) (v := ?_) rfl (by kernel_rfl) (by kernel_rfl) (by kernel_rfl) (yl_other (by decide) (by decide) rfl (fun f1 f2 wx hT => ?_)) ?_; rotate_left
      · refine lands_value (w := wx) ?_ hT; go_simp <;> rfl
      simp only [pu]
      refine anyL_take (i := 3) (v := .int .u64 (iw (F4 n j))) rfl (by kernel_rfl) (by kernel_rfl) (by kernel_rfl) (yl_other (by decide) (by decide) rfl (fun f1 f2 wx hT => ?_)) ?_
      · have c0 := (Known.blk hT _ m1).at_ hj8; refine lands_value (w := wx) ?_ hT; go_simp
      simp only [pu]
      refine anyL_take (i := 4) (v := ?_) rfl (by kernel_rfl) (by kernel_rfl) (by kernel_rfl) (yl_other (by decide) (by decide) rfl (fun f1 f2 wx hT => ?_)) ?_; rotate_left
      · refine lands_value (w := wx) ?_ hT; go_simp <;> rfl
      simp only [pu]
      refine anyL_take (i := 5) (v := .agg (r64 4 (F4 r2))) rfl (by kernel_rfl) (by kernel_rfl) (by kernel_rfl) (yl_other (by decide) (by decide) rfl (fun f1 f2 wx hT => ?_)) ?_
      · exact lands_calls (w := wx) ((CO.out wx).mono fun _ _ ⟨he, hb⟩ => ⟨he, Known.below hT hb⟩) (by go_simp)
      simp only [pu]
      refine anyL_take (i := 6) (v := undef) rfl (by kernel_rfl) (by kernel_rfl) (by kernel_rfl) (yl_first (by decide) rfl (fun f2 wx hT => ?_)) ?_
      · exact stores_num _ _ rfl (w.heap.size + 1) _ _ rfl rfl (Known.blk hT _ m0) (RdQ.put hT _)
      simp only [Act.put]
      refine anyL_done (by kernel_rfl) (fun w4 (K2 : RdQ n (F4 r2) w w4) => ?_) _
      clear K CO hand
      go_wp2_with fail
      go_roundw
      case rel => exact ⟨j, by omega, by go_num, by rw [HR2.out]; exact K2⟩
      case measure => simp [intOf]
    · obtain rfl : k = 0 := by omega
      rw [HZ.out] at hr
      generalize hR : n % qL = r at hr
      have HZ2 := Lib.hid hR
      clear hR
      rw [show ((0 : Nat) : Int) - 1 = -1 by rfl]
      clear hlt hk
      go_wp2_with (first
        | (refine wpList_load_row rfl 52 _ rfl (w.heap.size + 1) rfl 52 _ (0, 0) _ (Known.blk hr _ m0) Tryz.underlying52 rfl (HS.out _) ?_)
        | (refine wpList_store_row rfl 52 _ _ rfl (w.heap.size + 1) (r64 4 (F4 r)) rfl rfl 52 _ (Known.blk hr _ m0) (HS.out _) (by simp only [row_size]) (row_one fun _ => rfl) ?_))
      exact bodyPost_ret (results_cell_row rfl _ _ (w.heap.size + 1) 52 (r64 4 (F4 r)) (0, 0) _ rfl ((Known.blk hr _ m0).row_ _) Tryz.underlying52 rfl (HS.out _)) rfl ⟨by rw [HZ2.out], below_setRow' (Known.b hr) (by omega) _⟩
end Go.Proofs.YtggalphgnloneaaGreat.L4
/- read of the layer scalar. -/
namespace Go.Proofs.YtggalphgnloneaaGreat.L4
open Go.RowKit
theorem wpList_valQ {ops : Array Oper} {Q : Exit → Act → World → Prop} {R : World → Prop} {o : Oper} {rest : List Oper} {a : Act} {w : World} (v : Value) (hg : o.guard = none) (h : Lands Tryz.prog R v ((execOp a.eval o).run Tryz.prog w)) (k : ∀ w', R w' → wpList Tryz.prog ops Q rest (a.put o.dst v) w') : wpList Tryz.prog ops Q (o :: rest) a w :=
  wpList_plain hg fun _ hK => h.upon fun w' hR => hK _ _ (k w' hR)
/-- The builtin min of two numbers, in one way. -/
theorem lands_min2 {o : Oper} {a : Act} {w : World} (x y : Operand) (n k : Nat) (ho : o.op = .call { callee := .builtin .min, args := #[x, y], argTypes := #[3, 3] }) (ht : o.type = 3) (hx : a.eval x = .int .i64 (n : Int)) (hy : a.eval y = .int .i64 (k : Int)) :
    Lands Tryz.prog (fun w' => w' = w) (.int .i64 ((min n k : Nat) : Int)) ((execOp a.eval o).run Tryz.prog w) := by
  refine lands_value (w := w) ?_ rfl
  simp [execOp, ho, ht, hx, hy, resolve, invoke, builtin]
  by_cases h : n ≤ k
  · rw [show min n k = n by omega]
    have h2 : (n : Int) ≤ k := by omega
    go_simp
    intro; omega
  · rw [show min n k = k by omega]
    have h' : (k : Int) < n := by omega
    go_simp
/-- Within read: the number so far. -/
structure RnW (s : ByteArray) (k : Nat) (w wr : World) : Prop where
  o : Blk wr w.heap.size 55 (r64 8 (F4 (bv (byteS s) k)))
  l : Below w.heap.size w wr
theorem RnW.drew {s : ByteArray} {k : Nat} {w wr : World} (h : RnW s k w wr) : RnW s k w wr.drew := ⟨h.o, h.l.drew⟩
theorem RnW.put {s : ByteArray} {k q r : Nat} {w wr : World} (h : RnW s k w wr) (hk : k = 8 * q + r) (hr : r < 8) (hq : q < 8) : RnW s (k + 1) w (wr.setCell ⟨w.heap.size, q, none⟩ (.int .u64 (iw (orw (F4 (bv (byteS s) k) q) (shlw (nw (byteS s k)) (8 * r)))))) :=
  ⟨(h.o.put hq _).cast_ (row_ext fun i hi => by
    subst hk
    by_cases h1 : i = q
    · subst h1; rw [if_pos rfl, bv_word _ (byteS_lt s) _ _ hr]
    · rw [if_neg h1, bv_other _ (byteS_lt s) q r i hr h1]), h.l.setCell (by simp) _⟩
theorem zero8z : #[Value.int .u64 0, .int .u64 0, .int .u64 0, .int .u64 0, .int .u64 0, .int .u64 0, .int .u64 0, .int .u64 0] = r64 8 zW := by
  have : r64 8 zW = row 8 (fun _ => Value.int .u64 0) := row_ext fun i _ => by show Value.int .u64 (iw (litw 64 0)) = _; rw [iw_zero]
  rw [this]; rfl
theorem bv_none8 (f : Nat → Nat) : r64 8 zW = r64 8 (F4 (bv f 0)) := row_ext fun i _ => by
  show _ = Value.int .u64 (iw (F4 0 i)); rw [F4_zero]; rfl
set_option maxRecDepth 100000 in
set_option maxHeartbeats 4000000 in
theorem qread_any (s : ByteArray) (m : Nat) (hm : m ≤ 64) (w : World) :
    Calls Tryz.prog 44 #[.string s, .int .i64 (m : Int)] w fun e w' => e = .returned (.agg (r64 8 (F4 (numV s m)))) ∧ Below w.heap.size w w' := by
  have HS := Lib.hid wide_size
  have hal : Tryz.prog.arrayLen 55 = 8 := by kernel_rfl
  obtain ⟨c, hcd⟩ : ∃ c, c = min s.size m := ⟨_, rfl⟩
  have HM : Hid (c = min s.size m) := Lib.hid hcd
  have hcs : c ≤ s.size := by omega
  have hc64 : c ≤ 64 := by omega
  have HV : Hid (numV s m = bv (byteS s) c) := Lib.hid (by unfold numV; rw [← hcd])
  have K0 : RnW s 0 w (w.alloc (.cells #[.int .u64 0, .int .u64 0, .int .u64 0, .int .u64 0, .int .u64 0, .int .u64 0, .int .u64 0, .int .u64 0] 55)) := ⟨(Blk.new w _ _).cast_ (zero8z.trans (bv_none8 _)), (Below.refl _ _).alloc (Nat.le_refl _) _⟩
  clear hcd hm
  go_enter Tryz.func44, Tryz.ntmps44
  go_wp2_with (refine wpList_valQ (R := fun w' => w' = _) (.int .i64 (c : Int)) rfl (by rw [HM.out]; exact lands_min2 (.tmp 7) (.tmp 8) s.size m rfl rfl rfl rfl) ?_; intro w' hw'; rw [hw']; clear hw')
  go_loopw [10] (fun i wr => ∃ k : Nat, k ≤ c ∧ i = .int .i64 (k : Int) ∧ RnW s k w wr) (fun i _ => c - (intOf i).toNat)
  case atStart => exact ⟨0, by omega, rfl, K0⟩
  case round =>
    obtain ⟨k, hk, rfl, hr⟩ := hrel
    clear K0
    by_cases hlt : k < c
    · obtain ⟨q, hqd⟩ : ∃ q, q = k / 8 := ⟨_, rfl⟩
      obtain ⟨r, hrd⟩ : ∃ r, r = k % 8 := ⟨_, rfl⟩
      have hq8 : q < 8 := by omega
      have hq4 : q < 8 := by omega
      have hr8' : r < 8 := by omega
      have hq : (k : Int).tdiv 8 = (q : Int) := by rw [Int.tdiv_eq_ediv_of_nonneg (by omega)]; omega
      have hr8 : (k : Int).tmod 8 = (r : Int) := by rw [Int.tmod_eq_emod_of_nonneg (by omega)]; omega
      have hks : k < s.size := by omega
      have HB := Lib.hid (byteS_at s k hks)
      have hb256 := byteS_lt s k
      have hkq : k = 8 * q + r := by omega
      have HPUT : Hid (∀ wx, RnW s k w wx → RnW s (k + 1) w (wx.setCell ⟨w.heap.size, q, none⟩ (.int .u64 (iw (orw (F4 (bv (byteS s) k) q) (shlw (nw (byteS s k)) (8 * r))))))) := Lib.hid (fun wx hx => hx.put hkq hr8' hq8)
      have hl0 : (q : Int) < 8 := by omega
      have hl1 : (0 : Int) ≤ q := by omega
      clear hqd hrd hkq
      go_wp2_with fail
      refine wp_region_anyL (Two 14 1000 fun f1 _ wx => RnW s (if f1 then k + 1 else k) w wx) (by kernel_rfl) hr.drew ?_
      refine anyL_take (i := 0) (v := ?_) rfl (by kernel_rfl) (by kernel_rfl) (by kernel_rfl) (yl_other (by decide) (by decide) rfl (fun f1 f2 wx hT => ?_)) ?_; rotate_left
      · refine lands_value (w := wx) ?_ hT; go_simp <;> rfl
      simp only [pu]
      refine anyL_take (i := 1) (v := .int .i64 (q : Int)) rfl (by kernel_rfl) (by kernel_rfl) (by kernel_rfl) (yl_other (by decide) (by decide) rfl (fun f1 f2 wx hT => ?_)) ?_
      · refine lands_value (w := wx) ?_ hT; go_simp; exact IntWalk.i64_in _ (by omega)
      simp only [pu]
      refine anyL_take (i := 2) (v := ?_) rfl (by kernel_rfl) (by kernel_rfl) (by kernel_rfl) (yl_other (by decide) (by decide) rfl (fun f1 f2 wx hT => ?_)) ?_; rotate_left
      · refine lands_value (w := wx) ?_ hT; go_simp <;> rfl
      simp only [pu]
      refine anyL_take (i := 3) (v := .int .u64 (iw (F4 (bv (byteS s) k) q))) rfl (by kernel_rfl) (by kernel_rfl) (by kernel_rfl) (yl_ahead (n := 9) (by decide) (by decide) (by kernel_rfl) rfl (fun f2 wx hT => ?_)) ?_
      · have c0 := hT.o.at_ hq4; refine lands_value (w := wx) ?_ hT; go_simp; skip
      simp only [pu]
      refine anyL_take (i := 4) (v := ?_) rfl (by kernel_rfl) (by kernel_rfl) (by kernel_rfl) (yl_other (by decide) (by decide) rfl (fun f1 f2 wx hT => ?_)) ?_; rotate_left
      · refine lands_value (w := wx) ?_ hT; go_simp <;> rfl
      simp only [pu]
      refine anyL_take (i := 5) (v := ?_) rfl (by kernel_rfl) (by kernel_rfl) (by kernel_rfl) (yl_other (by decide) (by decide) rfl (fun f1 f2 wx hT => ?_)) ?_; rotate_left
      · refine lands_value (w := wx) ?_ hT; go_simp <;> rfl
      simp only [pu]
      refine anyL_take (i := 6) (v := .int .u8 (byteS s k : Int)) rfl (by kernel_rfl) (by kernel_rfl) (by kernel_rfl) (yl_other (by decide) (by decide) rfl (fun f1 f2 wx hT => ?_)) ?_
      · refine lands_value (w := wx) ?_ hT; go_simp; rw [HB.out]
      simp only [pu]
      refine anyL_take (i := 7) (v := .int .u64 (iw (nw (byteS s k)))) rfl (by kernel_rfl) (by kernel_rfl) (by kernel_rfl) (yl_other (by decide) (by decide) rfl (fun f1 f2 wx hT => ?_)) ?_
      · refine lands_value (w := wx) ?_ hT; go_simp; unfold iw; rw [nw_nat _ (by unfold W64; omega), IntKind.wrap_u64]; omega
      simp only [pu]
      refine anyL_take (i := 8) (v := ?_) rfl (by kernel_rfl) (by kernel_rfl) (by kernel_rfl) (yl_other (by decide) (by decide) rfl (fun f1 f2 wx hT => ?_)) ?_; rotate_left
      · refine lands_value (w := wx) ?_ hT; go_simp <;> rfl
      simp only [pu]
      refine anyL_take (i := 9) (v := .int .i64 (r : Int)) rfl (by kernel_rfl) (by kernel_rfl) (by kernel_rfl) (yl_other (by decide) (by decide) rfl (fun f1 f2 wx hT => ?_)) ?_
      · refine lands_value (w := wx) ?_ hT; go_simp; skip
      simp only [pu]
      refine anyL_take (i := 10) (v := .int .i64 ((8 * r : Nat) : Int)) rfl (by kernel_rfl) (by kernel_rfl) (by kernel_rfl) (yl_other (by decide) (by decide) rfl (fun f1 f2 wx hT => ?_)) ?_
      · refine lands_value (w := wx) ?_ hT; go_simp; rw [IntWalk.i64_in _ (by omega)]; omega
      simp only [pu]
      refine anyL_take (i := 11) (v := .int .u64 (iw (shlw (nw (byteS s k)) (8 * r)))) rfl (by kernel_rfl) (by kernel_rfl) (by kernel_rfl) (yl_other (by decide) (by decide) rfl (fun f1 f2 wx hT => ?_)) ?_
      · refine lands_value (w := wx) ?_ hT; go_simp; rw [show (8 * (r : Int)).toNat = 8 * r by omega]
      simp only [pu]
      refine anyL_take (i := 12) (v := .int .u64 (iw (orw (F4 (bv (byteS s) k) q) (shlw (nw (byteS s k)) (8 * r))))) rfl (by kernel_rfl) (by kernel_rfl) (by kernel_rfl) (yl_other (by decide) (by decide) rfl (fun f1 f2 wx hT => ?_)) ?_
      · refine lands_value (w := wx) ?_ hT; go_simp; skip
      simp only [pu]
      refine anyL_take (i := 13) (v := ?_) rfl (by kernel_rfl) (by kernel_rfl) (by kernel_rfl) (yl_other (by decide) (by decide) rfl (fun f1 f2 wx hT => ?_)) ?_; rotate_left
      · refine lands_value (w := wx) ?_ hT; go_simp <;> rfl
      simp only [pu]
      refine anyL_take (i := 14) (v := undef) rfl (by kernel_rfl) (by kernel_rfl) (by kernel_rfl) (yl_first (by decide) rfl (fun f2 wx hT => ?_)) ?_
      · have co := hT.o.at_ hq4; have fo := hT.o.frozen q; have K := HPUT.out _ hT; go_simp; exact ⟨rfl, K⟩
      simp only [Act.put]
      refine anyL_done (by kernel_rfl) (fun w3 (K : RnW s (k + 1) w w3) => ?_) _
      clear hr HPUT hq hr8
      go_wp2_with fail
      go_roundw
      case rel => exact ⟨k + 1, by omega, by go_num, K⟩
      case measure => simp [intOf]; omega
    · obtain rfl : k = c := by omega
      have ho := hr.o
      have hl := hr.l
      clear hr HM
      generalize bv (byteS s) k = n at HV ho
      go_wp2_with (first
        | (refine wpList_load_row rfl 55 _ rfl w.heap.size rfl 55 _ (0, 0) _ ho Tryz.underlying55 rfl (HS.out _) ?_)
        | (refine wpList_store_row rfl 55 _ _ rfl w.heap.size (r64 8 (F4 n)) rfl rfl 55 _ ho (HS.out _) (by simp only [row_size]) (row_one fun _ => rfl) ?_))
      exact bodyPost_ret (results_cell_row rfl _ _ w.heap.size 55 (r64 8 (F4 n)) (0, 0) _ rfl (ho.row_ _) Tryz.underlying55 rfl (HS.out _)) rfl ⟨by rw [HV.out], below_setRow' hl (by omega) _⟩
end Go.Proofs.YtggalphgnloneaaGreat.L4
/- written of the layer scalar. -/
namespace Go.Proofs.YtggalphgnloneaaGreat.L4
open Go.RowKit
/-- Within written: the number, the bytes so far. -/
structure WrW (n k : Nat) (w wr : World) : Prop where
  d : Blk wr w.heap.size 52 (r64 4 (F4 n))
  o : Blk wr (w.heap.size + 1) 95 (r8 32 (bF n k))
  l : Below w.heap.size w wr
theorem WrW.put {n k : Nat} {w wr : World} (h : WrW n k w wr) (hk : k < 32) : WrW n (k + 1) w (wr.setCell ⟨w.heap.size + 1, k, none⟩ (.int .u8 (iw (BitVec.ofNat 8 (byteK n k))))) :=
  ⟨h.d.far (by simp) _, (h.o.put hk _).cast_ (row_ext fun i _ => bF_put n k i), h.l.setCell (by simp) _⟩
theorem byte_wordQ (n q r : Nat) (hr : r < 8) : castw 8 (shrw (F4 n q) (r * 8)) = BitVec.ofNat 8 (byteK n (8 * q + r)) := by
  rw [Nat.mul_comm]; exact byte_word n q r hr
theorem zero32 : #[Value.int .u8 0, .int .u8 0, .int .u8 0, .int .u8 0, .int .u8 0, .int .u8 0, .int .u8 0, .int .u8 0, .int .u8 0, .int .u8 0, .int .u8 0, .int .u8 0, .int .u8 0, .int .u8 0, .int .u8 0, .int .u8 0, .int .u8 0, .int .u8 0, .int .u8 0, .int .u8 0, .int .u8 0, .int .u8 0, .int .u8 0, .int .u8 0, .int .u8 0, .int .u8 0, .int .u8 0, .int .u8 0, .int .u8 0, .int .u8 0, .int .u8 0, .int .u8 0] = row 32 (fun _ => Value.int .u8 0) := by kernel_rfl
set_option maxRecDepth 100000 in
set_option maxHeartbeats 2000000 in
theorem qwritten_any (n : Nat) (w : World) :
    Calls Tryz.prog 41 #[.agg (r64 4 (F4 n))] w fun e w' => e = .returned (.string (bytesV n)) ∧ Below w.heap.size w w' := by
  have hal : Tryz.prog.arrayLen 52 = 4 := by kernel_rfl
  have hal2 : Tryz.prog.arrayLen 95 = 32 := by kernel_rfl
  have Z := Lib.hid (zero32.trans (bF_none n).symm)
  go_enter Tryz.func41, Tryz.ntmps41
  go_wp2_with fail
  go_loopw [5] (fun i wr => ∃ k : Nat, k ≤ 32 ∧ i = .int .i64 (k : Int) ∧ WrW n k w wr) (fun i _ => 32 - (intOf i).toNat)
  case atStart => exact ⟨0, by omega, rfl, ⟨(Blk.new w _ _).alloc _, (Blk.new (w.alloc _) _ _).cast' ⟨by simp, Z.out⟩, ((Below.refl _ _).alloc (Nat.le_refl _) _).alloc (by simp) _⟩⟩
  case round =>
    obtain ⟨k, hk, rfl, hr⟩ := hrel
    by_cases hlt : k < 32
    · obtain ⟨q, hqd⟩ : ∃ q, q = k / 8 := ⟨_, rfl⟩
      obtain ⟨r, hrd⟩ : ∃ r, r = k % 8 := ⟨_, rfl⟩
      have hq4 : q < 4 := by omega
      have hr8' : r < 8 := by omega
      have hq : (k : Int).tdiv 8 = (q : Int) := by rw [Int.tdiv_eq_ediv_of_nonneg (by omega)]; omega
      have hr8 : (k : Int).tmod 8 = (r : Int) := by rw [Int.tmod_eq_emod_of_nonneg (by omega)]; omega
      have hl0 : (q : Int) < 4 := by omega
      have hl1 : (0 : Int) ≤ q := by omega
      have c0 := hr.d.at_ hq4
      have co := hr.o.at_ hlt
      have fo := hr.o.frozen k
      have HK := Lib.hid (hr.put hlt)
      have HW := Lib.hid (show castw 8 (shrw (F4 n q) (r * 8)) = BitVec.ofNat 8 (byteK n k) by rw [byte_wordQ n q r hr8', show 8 * q + r = k by omega])
      clear hqd hrd hr
      go_wp2_with fail
      rw [HW.out]
      go_roundw
      case rel => exact ⟨k + 1, by omega, by go_num, HK.out⟩
      case measure => simp [intOf]; omega
    · obtain rfl : k = 32 := by omega
      have hst := run_string_of_blk (P := Tryz.prog) wr 29 9 5 Tryz.underlying29 Tryz.underlying5 Tryz.underlying9 (w.heap.size + 1) 32 32 _ _ hr.o
      rw [bF_all] at hst
      have hl := hr.l
      clear hr Z
      go_wp2_with fail
      go_ret
      exact ⟨rfl, hl⟩
end Go.Proofs.YtggalphgnloneaaGreat.L4
/- timesAnd of the layer scalar. -/
namespace Go.Proofs.YtggalphgnloneaaGreat.L4
open Go.RowKit
/-- c, and the first i words of a times b. -/
def tC (a b c i : Nat) : Nat := c + a % 2 ^ (64 * i) * b
theorem tC_zero (a b c : Nat) : tC a b c 0 = c := by unfold tC; rw [Nat.mul_zero, Nat.pow_zero, Nat.mod_one, Nat.zero_mul, Nat.add_zero]
theorem M256_pow : (2 : Nat) ^ (64 * 4) = M256 := by decide
theorem tC_four (a b c : Nat) (ha : a < M256) : tC a b c 4 = a * b + c := by
  unfold tC; rw [M256_pow, Nat.mod_eq_of_lt ha, Nat.add_comm]
theorem tC_next (a b c i : Nat) : tC a b c (i + 1) = tC a b c i + (F4 a i).toNat * b * 2 ^ (64 * i) := by
  unfold tC
  rw [W64_pow, Nat.mod_mul, F4_nat', Nat.add_mul, ← Nat.add_assoc]
  congr 1
  rw [Nat.mul_comm (2 ^ (64 * i)), Nat.mul_right_comm]
theorem tC_lt (a b c i : Nat) (hb : b < M256) (hc : c < M256) : tC a b c i < 2 ^ (64 * i) * M256 := by
  have hq : 0 < 2 ^ (64 * i) := Nat.pow_pos (by decide)
  have h1 := Nat.mod_lt a hq
  unfold tC
  generalize a % 2 ^ (64 * i) = m at *
  generalize 2 ^ (64 * i) = q at *
  obtain ⟨p, rfl⟩ : ∃ p, q = p + 1 := ⟨q - 1, by omega⟩
  have h2 : m * b ≤ p * (M256 - 1) := Nat.mul_le_mul (by omega) (by omega)
  have h3 : (p + 1) * M256 = p * (M256 - 1) + p + M256 := by
    rw [Nat.succ_mul]
    have : M256 = (M256 - 1) + 1 := by decide
    rw [this, Nat.mul_succ, Nat.add_sub_cancel]
  omega
/-- What stands at word i and behind. -/
def tD (C i : Nat) : Nat := C / 2 ^ (64 * i)
theorem tD_lt (C i : Nat) (h : C < 2 ^ (64 * i) * M256) : tD C i < M256 := Nat.div_lt_of_lt_mul h
theorem F4_tD (C i j : Nat) : F4 (tD C i) j = F4 C (i + j) := by
  unfold F4 tD; rw [Nat.div_div_eq_div_mul, ← Nat.pow_add, ← Nat.mul_add]
theorem tD_next (C y i : Nat) : tD (C + y * 2 ^ (64 * i)) i = y + tD C i := by
  unfold tD; rw [Nat.add_mul_div_right _ _ (Nat.pow_pos (by decide)), Nat.add_comm]
theorem F4_low_next (C y i m : Nat) (h : m < i) : F4 (C + y * 2 ^ (64 * i)) m = F4 C m := by
  apply BitVec.eq_of_toNat_eq
  rw [F4_nat', F4_nat']
  obtain ⟨d, rfl⟩ : ∃ d, i = m + 1 + d := ⟨i - (m + 1), by omega⟩
  have e : (2 : Nat) ^ (64 * (m + 1 + d)) = 2 ^ (64 * m) * (W64 * 2 ^ (64 * d)) := by
    rw [show W64 = 2 ^ 64 from rfl, ← Nat.pow_add, ← Nat.pow_add]; congr 1; omega
  rw [e, Nat.mul_left_comm, Nat.add_mul_div_left _ _ (Nat.pow_pos (by decide)), Nat.mul_left_comm, Nat.add_mul_mod_self_left]
theorem F4_above (C k m : Nat) (h : C < 2 ^ (64 * k)) (hm : k ≤ m) : F4 C m = litw 64 0 := by
  have : C / 2 ^ (64 * m) = 0 := Nat.div_eq_of_lt (Nat.lt_of_lt_of_le h (Nat.pow_le_pow_right (by decide) (by omega)))
  unfold F4; rw [this]; rfl
/-- A row's words so far. -/
def tF (C C' k m : Nat) : BitVec 64 := if m < k then F4 C' m else F4 C m
theorem tF_put (C C' k m : Nat) : (if m = k then Value.int .u64 (iw (F4 C' k)) else Value.int .u64 (iw (tF C C' k m))) = Value.int .u64 (iw (tF C C' (k + 1) m)) := by
  unfold tF
  by_cases h : m = k
  · subst h; rw [if_pos rfl, if_pos (by omega)]
  · rw [if_neg h]
    by_cases h2 : m < k
    · rw [if_pos h2, if_pos (by omega)]
    · rw [if_neg h2, if_neg (by omega)]
theorem tF_at (C C' k : Nat) : tF C C' k k = F4 C k := by unfold tF; rw [if_neg (by omega)]
theorem tF_begin (C y i : Nat) : r64 8 (F4 C) = r64 8 (tF C (C + y * 2 ^ (64 * i)) i) := row_ext fun m _ => by
  unfold tF
  by_cases h : m < i
  · rw [if_pos h, F4_low_next _ _ _ _ h]
  · rw [if_neg h]
theorem pow_M (i : Nat) : 2 ^ (64 * i) * M256 = 2 ^ (64 * (i + 4)) := by rw [← M256_pow, ← Nat.pow_add, ← Nat.mul_add]
theorem tF_all (C C' i : Nat) (h : C < 2 ^ (64 * i) * M256) (h' : C' < 2 ^ (64 * (i + 1)) * M256) : r64 8 (tF C C' (i + 4 + 1)) = r64 8 (F4 C') := row_ext fun m _ => by
  unfold tF
  rw [pow_M] at h h'
  by_cases hm : m < i + 4 + 1
  · rw [if_pos hm]
  · rw [if_neg hm, F4_above C _ m h (by omega), F4_above C' _ m h' (by omega)]
theorem step_word (x : BitVec 64) (b C i j : Nat) (w : World) :
    Calls Tryz.prog 82 #[.int .u64 (iw x), .int .u64 (iw (F4 b j)), .int .u64 (iw (F4 C (i + j))), .int .u64 (iw (cr64 x.toNat b (tD C i) j))] w fun e w' => e = .returned (.tuple #[.int .u64 (iw (F4 (C + x.toNat * b * 2 ^ (64 * i)) (i + j))), .int .u64 (iw (cr64 x.toNat b (tD C i) (j + 1)))]) ∧ w = w' := by
  have h := qstepF x b (tD C i) j w
  rw [← tD_next, F4_tD, F4_tD] at h
  exact h
theorem cr_word (x : BitVec 64) (b C i : Nat) (hb : b < M256) (hC : C < 2 ^ (64 * i) * M256) : cr64 x.toNat b (tD C i) 4 = F4 (C + x.toNat * b * 2 ^ (64 * i)) (i + 4) := by
  rw [← F4_tD, tD_next]
  unfold cr64; rw [cr_four _ _ _ hb (tD_lt C i hC)]
  unfold F4; rw [M256_pow]
theorem cr64_none (x b W : Nat) : Value.int .u64 0 = .int .u64 (iw (cr64 x b W 0)) := by rw [lit0w]; unfold cr64; rw [cr_zero]; rfl
/-- Within timesAnd. -/
structure TaW (a b : Nat) (f : Nat → BitVec 64) (w wr : World) : Prop where
  da : Blk wr w.heap.size 55 (r64 8 (F4 a))
  db : Blk wr (w.heap.size + 1) 55 (r64 8 (F4 b))
  dc : Blk wr (w.heap.size + 2) 55 (r64 8 f)
  r : Blk wr (w.heap.size + 3) 55 (r64 8 zW)
  l : Below w.heap.size w wr
variable {a b : Nat} {f : Nat → BitVec 64} {w wr w' : World}
theorem TaW.drew (h : TaW a b f w wr) : TaW a b f w wr.drew := ⟨h.da, h.db, h.dc, h.r, h.l.drew⟩
theorem TaW.cast (h : TaW a b f w wr) {f' : Nat → BitVec 64} (e : r64 8 f = r64 8 f') : TaW a b f' w wr := ⟨h.da, h.db, h.dc.cast_ e, h.r, h.l⟩
theorem TaW.put {C C' k : Nat} (h : TaW a b (tF C C' k) w wr) (hk : k < 8) : TaW a b (tF C C' (k + 1)) w (wr.setCell ⟨w.heap.size + 2, k, none⟩ (.int .u64 (iw (F4 C' k)))) :=
  ⟨h.da.far (by simp) _, h.db.far (by simp) _, (h.dc.put hk _).cast_ (row_ext fun m _ => tF_put C C' k m), h.r.far (by simp) _, h.l.setCell (by simp) _⟩
theorem TaW.start (a b c : Nat) (w : World) : TaW a b (F4 c) w ((((w.alloc (.cells (r64 8 (F4 a)) 55)).alloc (.cells (r64 8 (F4 b)) 55)).alloc (.cells (r64 8 (F4 c)) 55)).alloc (.cells #[.int .u64 0, .int .u64 0, .int .u64 0, .int .u64 0, .int .u64 0, .int .u64 0, .int .u64 0, .int .u64 0] 55)) :=
  ⟨(((Blk.new w _ _).alloc _).alloc _).alloc _, (((Blk.new (w.alloc _) _ _).cast' ⟨by simp, rfl⟩).alloc _).alloc _, ((Blk.new ((w.alloc _).alloc _) _ _).cast' ⟨by simp, rfl⟩).alloc _, (Blk.new _ _ _).cast' ⟨by simp, zero8z⟩, ((((Below.refl _ _).alloc (Nat.le_refl _) _).alloc (by simp) _).alloc (by simp; omega) _).alloc (by simp; omega) _⟩
set_option maxRecDepth 100000 in
set_option maxHeartbeats 4000000 in
theorem qtimes_any (a b c : Nat) (ha : a < M256) (hb : b < M256) (hc : c < M256) (w : World) :
    Calls Tryz.prog 43 #[.agg (r64 8 (F4 a)), .agg (r64 8 (F4 b)), .agg (r64 8 (F4 c))] w fun e w' => e = .returned (.agg (r64 8 (F4 (a * b + c)))) ∧ Below w.heap.size w w' := by
  have HS := Lib.hid wide_size
  have hal : Tryz.prog.arrayLen 55 = 8 := by kernel_rfl
  have K0 := (TaW.start a b c w).cast (f' := F4 (tC a b c 0)) (by rw [tC_zero])
  have HE := Lib.hid (tC_four a b c ha)
  have HLT := Lib.hid (fun i => tC_lt a b c i hb hc)
  have HNX := Lib.hid (tC_next a b c)
  generalize hC : tC a b c = C at K0 HE HLT HNX
  clear hC ha hc
  have HB := Lib.hid hb
  clear hb
  go_enter Tryz.func43, Tryz.ntmps43
  go_wp2_with fail
  go_loopw [10] (fun ii wr => ∃ i : Nat, i ≤ 4 ∧ ii = .int .i64 (i : Int) ∧ TaW a b (F4 (C i)) w wr) (fun ii _ => 4 - (intOf ii).toNat)
  case atStart => exact ⟨0, by omega, rfl, K0⟩
  case round =>
    obtain ⟨i, hi, rfl, hr⟩ := hrel
    clear K0
    by_cases hlt : i < 4
    · have hi8 : i < 8 := by omega
      have hil0 : (i : Int) < 8 := by omega
      have hil1 : (0 : Int) ≤ i := by omega
      have hi4 : ((i + 4 : Nat) : Int) = (i : Int) + 4 := by omega
      have hi48 : (i : Int) + 4 < 8 := by omega
      have hwi4 : IntKind.i64.wrap ((i : Int) + 4) = (i : Int) + 4 := IntWalk.i64_in _ (by omega)
      have HB0 := Lib.hid (tF_begin (C i) ((F4 a i).toNat * b) i)
      have HW := Lib.hid (fun j w => step_word (F4 a i) b (C i) i j w)
      have HCW := Lib.hid (cr_word (F4 a i) b (C i) i HB.out (HLT.out i))
      have HAL := Lib.hid (tF_all (C i) (C (i + 1)) i (HLT.out i) (HLT.out (i + 1)))
      rw [HNX.out i] at HAL
      have HC1 : Hid (C (i + 1) = C i + (F4 a i).toNat * b * 2 ^ (64 * i)) := Lib.hid (HNX.out i)
      have hr0 := hr.cast HB0.out
      have HN0 := Lib.hid (cr64_none (F4 a i).toNat b (tD (C i) i))
      clear hr HB0
      generalize hC2 : C i + (F4 a i).toNat * b * 2 ^ (64 * i) = C2 at HW HCW HAL HC1 hr0
      generalize hcr : cr64 (F4 a i).toNat b (tD (C i) i) = cr at HW HCW HN0
      generalize hCi : C i = Ci at HW HAL hr0
      clear hC2 hcr hCi
      go_wp2_with fail
      go_loopw [8, 13] (fun cc jj wr => ∃ j : Nat, j ≤ 4 ∧ jj = .int .i64 (j : Int) ∧ cc = .int .u64 (iw (cr j)) ∧ TaW a b (tF Ci C2 (i + j)) w wr) (fun _ jj _ => 4 - (intOf jj).toNat)
      case atStart => exact ⟨0, by omega, rfl, HN0.out, hr0⟩
      case round =>
        obtain ⟨j, hj, rfl, rfl, hq⟩ := hrel
        clear hr0 HN0
        by_cases hjlt : j < 4
        · have hjl0 : (j : Int) < 8 := by omega
          have hjl1 : (0 : Int) ≤ j := by omega
          have hj8 : j < 8 := by omega
          obtain ⟨d, hd⟩ : ∃ d, d = i + j := ⟨_, rfl⟩
          have hd8 : d < 8 := by omega
          have hdl0 : (d : Int) < 8 := by omega
          have hdl1 : (0 : Int) ≤ d := by omega
          have HD : Hid ((i : Int) + j = d) := Lib.hid (by omega)
          have CS := Lib.hid (HW.out j)
          have HIJ := Lib.hid (show i + (j + 1) = d + 1 by omega)
          rw [← hd] at hq CS
          clear hd
          have HPUT : Hid (∀ wx, TaW a b (tF Ci C2 d) w wx → TaW a b (tF Ci C2 (d + 1)) w (wx.setCell ⟨w.heap.size + 2, d, none⟩ (.int .u64 (iw (F4 C2 d))))) := Lib.hid (fun wx hx => hx.put hd8)
          go_wp2_with fail
          refine wp_region_anyL (Two 20 1000 fun f1 _ wx => TaW a b (if f1 then tF Ci C2 (d + 1) else tF Ci C2 d) w wx) (by kernel_rfl) hq.drew ?_
          refine anyL_take (i := 0) (v := ?_) rfl (by kernel_rfl) (by kernel_rfl) (by kernel_rfl) (yl_other (by decide) (by decide) rfl (fun f1 f2 wx hT => ?_)) ?_; rotate_left
          · refine lands_value (w := wx) ?_ hT; go_simp <;> rfl
          simp only [pu]
          refine anyL_take (i := 1) (v := ?_) rfl (by kernel_rfl) (by kernel_rfl) (by kernel_rfl) (yl_other (by decide) (by decide) rfl (fun f1 f2 wx hT => ?_)) ?_; rotate_left
          · refine lands_value (w := wx) ?_ hT; go_simp <;> rfl
          simp only [pu]
          refine anyL_take (i := 2) (v := .int .i64 (d : Int)) rfl (by kernel_rfl) (by kernel_rfl) (by kernel_rfl) (yl_other (by decide) (by decide) rfl (fun f1 f2 wx hT => ?_)) ?_
          · refine lands_value (w := wx) ?_ hT; go_simp <;> first | exact HD.out | (rw [HD.out]; exact IntWalk.i64_in _ (by omega)) | (rw [HD.out, IntWalk.i64_in _ (by omega)])
          simp only [pu]
          refine anyL_take (i := 3) (v := ?_) rfl (by kernel_rfl) (by kernel_rfl) (by kernel_rfl) (yl_other (by decide) (by decide) rfl (fun f1 f2 wx hT => ?_)) ?_; rotate_left
          · refine lands_value (w := wx) ?_ hT; go_simp <;> rfl
          simp only [pu]
          refine anyL_take (i := 4) (v := ?_) rfl (by kernel_rfl) (by kernel_rfl) (by kernel_rfl) (yl_other (by decide) (by decide) rfl (fun f1 f2 wx hT => ?_)) ?_; rotate_left
          · refine lands_value (w := wx) ?_ hT; go_simp <;> rfl
          simp only [pu]
          refine anyL_take (i := 5) (v := .int .u64 (iw (F4 a i))) rfl (by kernel_rfl) (by kernel_rfl) (by kernel_rfl) (yl_other (by decide) (by decide) rfl (fun f1 f2 wx hT => ?_)) ?_
          · have c0 := hT.da.at_ hi8; refine lands_value (w := wx) ?_ hT; go_simp
          simp only [pu]
          refine anyL_take (i := 6) (v := ?_) rfl (by kernel_rfl) (by kernel_rfl) (by kernel_rfl) (yl_other (by decide) (by decide) rfl (fun f1 f2 wx hT => ?_)) ?_; rotate_left
          · refine lands_value (w := wx) ?_ hT; go_simp <;> rfl
          simp only [pu]
          refine anyL_take (i := 7) (v := ?_) rfl (by kernel_rfl) (by kernel_rfl) (by kernel_rfl) (yl_other (by decide) (by decide) rfl (fun f1 f2 wx hT => ?_)) ?_; rotate_left
          · refine lands_value (w := wx) ?_ hT; go_simp <;> rfl
          simp only [pu]
          refine anyL_take (i := 8) (v := .int .u64 (iw (F4 b j))) rfl (by kernel_rfl) (by kernel_rfl) (by kernel_rfl) (yl_other (by decide) (by decide) rfl (fun f1 f2 wx hT => ?_)) ?_
          · have c0 := hT.db.at_ hj8; refine lands_value (w := wx) ?_ hT; go_simp
          simp only [pu]
          refine anyL_take (i := 9) (v := ?_) rfl (by kernel_rfl) (by kernel_rfl) (by kernel_rfl) (yl_other (by decide) (by decide) rfl (fun f1 f2 wx hT => ?_)) ?_; rotate_left
          · refine lands_value (w := wx) ?_ hT; go_simp <;> rfl
          simp only [pu]
          refine anyL_take (i := 10) (v := ?_) rfl (by kernel_rfl) (by kernel_rfl) (by kernel_rfl) (yl_other (by decide) (by decide) rfl (fun f1 f2 wx hT => ?_)) ?_; rotate_left
          · refine lands_value (w := wx) ?_ hT; go_simp <;> rfl
          simp only [pu]
          refine anyL_take (i := 11) (v := .int .i64 (d : Int)) rfl (by kernel_rfl) (by kernel_rfl) (by kernel_rfl) (yl_other (by decide) (by decide) rfl (fun f1 f2 wx hT => ?_)) ?_
          · refine lands_value (w := wx) ?_ hT; go_simp <;> first | exact HD.out | (rw [HD.out]; exact IntWalk.i64_in _ (by omega)) | (rw [HD.out, IntWalk.i64_in _ (by omega)])
          simp only [pu]
          refine anyL_take (i := 12) (v := ?_) rfl (by kernel_rfl) (by kernel_rfl) (by kernel_rfl) (yl_other (by decide) (by decide) rfl (fun f1 f2 wx hT => ?_)) ?_; rotate_left
          · refine lands_value (w := wx) ?_ hT; go_simp <;> rfl
          simp only [pu]
          refine anyL_take (i := 13) (v := .int .u64 (iw (F4 Ci d))) rfl (by kernel_rfl) (by kernel_rfl) (by kernel_rfl) (yl_ahead (n := 12) (by decide) (by decide) (by kernel_rfl) rfl (fun f2 wx hT => ?_)) ?_
          · have c0 := hT.dc.at_ hd8; simp only [if_false, Bool.false_eq_true, tF_at] at c0; refine lands_value (w := wx) ?_ hT; go_simp
          simp only [pu]
          refine anyL_take (i := 14) (v := ?_) rfl (by kernel_rfl) (by kernel_rfl) (by kernel_rfl) (yl_other (by decide) (by decide) rfl (fun f1 f2 wx hT => ?_)) ?_; rotate_left
          · refine lands_value (w := wx) ?_ hT; go_simp <;> rfl
          simp only [pu]
          refine anyL_take (i := 15) (v := .tuple #[.int .u64 (iw (F4 C2 d)), .int .u64 (iw (cr (j + 1)))]) rfl (by kernel_rfl) (by kernel_rfl) (by kernel_rfl) (yl_other (by decide) (by decide) rfl (fun f1 f2 wx hT => ?_)) ?_
          · exact lands_calls (w := wx) ((CS.out wx).mono fun _ _ ⟨he, hb⟩ => ⟨he, hb ▸ hT⟩) (by go_simp)
          simp only [pu]
          refine anyL_take (i := 16) (v := ?_) rfl (by kernel_rfl) (by kernel_rfl) (by kernel_rfl) (yl_other (by decide) (by decide) rfl (fun f1 f2 wx hT => ?_)) ?_; rotate_left
          · refine lands_value (w := wx) ?_ hT; go_simp <;> rfl
          simp only [pu]
          refine anyL_take (i := 17) (v := ?_) rfl (by kernel_rfl) (by kernel_rfl) (by kernel_rfl) (yl_other (by decide) (by decide) rfl (fun f1 f2 wx hT => ?_)) ?_; rotate_left
          · refine lands_value (w := wx) ?_ hT; go_simp <;> rfl
          simp only [pu]
          refine anyL_take (i := 18) (v := ?_) rfl (by kernel_rfl) (by kernel_rfl) (by kernel_rfl) (yl_other (by decide) (by decide) rfl (fun f1 f2 wx hT => ?_)) ?_; rotate_left
          · refine lands_value (w := wx) ?_ hT; go_simp <;> rfl
          simp only [pu]
          refine anyL_take (i := 19) (v := ?_) rfl (by kernel_rfl) (by kernel_rfl) (by kernel_rfl) (yl_other (by decide) (by decide) rfl (fun f1 f2 wx hT => ?_)) ?_; rotate_left
          · refine lands_value (w := wx) ?_ hT; go_simp <;> rfl
          simp only [pu]
          refine anyL_take (i := 20) (v := undef) rfl (by kernel_rfl) (by kernel_rfl) (by kernel_rfl) (yl_first (by decide) rfl (fun f2 wx hT => ?_)) ?_
          · have co := hT.dc.at_ hd8; have fo := hT.dc.frozen d; have K := HPUT.out _ hT; go_simp; exact ⟨rfl, K⟩
          simp only [Act.put]
          refine anyL_take (i := 21) (v := ?_) rfl (by kernel_rfl) (by kernel_rfl) (by kernel_rfl) (yl_other (by decide) (by decide) rfl (fun f1 f2 wx hT => ?_)) ?_; rotate_left
          · refine lands_value (w := wx) ?_ hT; go_simp <;> rfl
          simp only [pu]
          refine anyL_done (by kernel_rfl) (fun w3 (K : TaW a b (tF Ci C2 (d + 1)) w w3) => ?_) _
          clear hq HPUT CS
          go_wp2_with fail
          go_roundw
          case rel => exact ⟨j + 1, by omega, by go_num, rfl, by rw [HIJ.out]; exact K⟩
          case measure => simp [intOf]; omega
        · obtain rfl : j = 4 := by omega
          have hi48' : i + 4 < 8 := by omega
          have co := hq.dc.at_ hi48'
          have fo := hq.dc.frozen (i + 4)
          have K := hq.put hi48'
          rw [← HCW.out] at K
          have HK := Lib.hid (K.cast HAL.out)
          clear hq K HW
          go_wp2_with fail
          go_roundw
          case rel => exact ⟨i + 1, by omega, by go_num, by rw [HC1.out]; exact HK.out⟩
          case measure => simp [intOf]; omega
    · obtain rfl : i = 4 := by omega
      have ho := hr.dc
      have hz := hr.r
      have hl := hr.l
      clear hr HLT HNX
      generalize hN : C 4 = n at HE ho
      clear hN
      go_wp2_with (first
        | (refine wpList_load_row rfl 55 _ rfl (w.heap.size + 2) rfl 55 _ (0, 0) _ ho Tryz.underlying55 rfl (HS.out _) ?_)
        | (refine wpList_store_row rfl 55 _ _ rfl (w.heap.size + 3) (r64 8 (F4 n)) rfl rfl 55 _ hz (HS.out _) (by simp only [row_size]) (row_one fun _ => rfl) ?_))
      exact bodyPost_ret (results_cell_row rfl _ _ (w.heap.size + 3) 55 (r64 8 (F4 n)) (0, 0) _ rfl (hz.row_ _) Tryz.underlying55 rfl (HS.out _)) rfl ⟨by rw [HE.out], below_setRow' hl (by omega) _⟩
end Go.Proofs.YtggalphgnloneaaGreat.L4
/- Reduce, Right, MulAdd of the layer scalar. -/
namespace Go.Proofs.YtggalphgnloneaaGreat.L4
open Go.RowKit
theorem numV_ltv (s : ByteArray) (m a b : Nat) (h : 8 * m ≤ a + b) : numV s m < 2 ^ a * 2 ^ b := by
  rw [← Nat.pow_add]
  exact Nat.lt_of_lt_of_le (bv_lt _ (byteS_lt s) _) (Nat.pow_le_pow_right (by decide) (by omega))
theorem numV_lt64 (s : ByteArray) : numV s 64 < 2 ^ (64 * 4) * 2 ^ (64 * 4) := numV_ltv s 64 (64 * 4) (64 * 4) (by omega)
theorem numV_M (s : ByteArray) : numV s 32 < M256 := by
  have h := numV_lt s
  rwa [show 8 * 32 = 64 * 4 from rfl, M256_pow] at h
set_option maxRecDepth 100000 in
theorem qreduce_any (s : ByteArray) (w : World) :
    Calls Tryz.prog 40 #[.string s] w fun e w' => e = .returned (.string (redV s)) ∧ Below w.heap.size w w' := by
  have CR : Hid (∀ w, Calls Tryz.prog 44 #[.string s, .int .i64 64] w fun e w' => e = .returned (.agg (r64 8 (F4 (numV s 64)))) ∧ Below w.heap.size w w') := Lib.hid (fun w => qread_any s 64 (Nat.le_refl _) w)
  have CD := Lib.hid (fun w => qreduced_any (numV s 64) (numV_lt64 s) w)
  have CWr := Lib.hid (fun w => qwritten_any (numV s 64 % qL) w)
  have HV : Hid (redV s = bytesV (numV s 64 % qL)) := Lib.hid rfl
  generalize numV s 64 = n at CR CD CWr HV
  generalize n % qL = r at CD CWr HV
  generalize bytesV r = t at CWr HV
  go_enter Tryz.func40, Tryz.ntmps40
  go_wp2_with fail
  refine (CR.out _).mono ?_
  rintro e w1 ⟨rfl, h1⟩
  go_wp2_with fail
  refine (CD.out _).mono ?_
  rintro e w2 ⟨rfl, h2⟩
  go_wp2_with fail
  refine (CWr.out _).mono ?_
  rintro e w3 ⟨rfl, h3⟩
  have h12 := h1.trans (h2.mono h1.size)
  have h13 := h12.trans (h3.mono h12.size)
  clear h1 h2 h3 h12
  go_wp2_with fail
  go_ret
  exact ⟨by rw [HV.out]; rfl, h13⟩
theorem qright_any (s : ByteArray) (w : World) :
    Calls Tryz.prog 24 #[.string s] w fun e w' => e = .returned (.bool (decide (redV s = s))) ∧ Below w.heap.size w w' := by
  have CR := Lib.hid (fun w => qreduce_any s w)
  generalize redV s = r at CR ⊢
  go_enter Tryz.func24, Tryz.ntmps24
  go_wp2_with fail
  refine (CR.out _).mono ?_
  rintro e w1 ⟨rfl, hq⟩
  go_wp2_with fail
  rw [text_eq]
  go_ret
  exact ⟨rfl, hq⟩
set_option maxRecDepth 100000 in
theorem qmuladd_any (a b c : ByteArray) (w : World) :
    Calls Tryz.prog 19 #[.string a, .string b, .string c] w fun e w' => e = .returned (.string (maV a b c)) ∧ Below w.heap.size w w' := by
  have CR : Hid (∀ s w, Calls Tryz.prog 44 #[.string s, .int .i64 32] w fun e w' => e = .returned (.agg (r64 8 (F4 (numV s 32)))) ∧ Below w.heap.size w w') := Lib.hid (fun s w => qread_any s 32 (by omega) w)
  have CT := Lib.hid (fun w => qtimes_any (numV a 32) (numV b 32) (numV c 32) (numV_M a) (numV_M b) (numV_M c) w)
  have CD := Lib.hid (fun w => qreduced_any (numV a 32 * numV b 32 + numV c 32) (by rw [M256_pow]; exact sum_lt (numV_M a) (numV_M b) (numV_M c)) w)
  have CWr := Lib.hid (fun w => qwritten_any ((numV a 32 * numV b 32 + numV c 32) % qL) w)
  have HV : Hid (maV a b c = bytesV ((numV a 32 * numV b 32 + numV c 32) % qL)) := Lib.hid rfl
  have CA := Lib.hid (CR.out a)
  have CB := Lib.hid (CR.out b)
  have CC := Lib.hid (CR.out c)
  clear CR
  generalize numV a 32 = x at *
  generalize numV b 32 = y at *
  generalize numV c 32 = z at *
  generalize x * y + z = n at *
  generalize n % qL = r at *
  generalize bytesV r = t at *
  go_enter Tryz.func19, Tryz.ntmps19
  go_wp2_with fail
  refine (CA.out _).mono ?_
  rintro e w1 ⟨rfl, h1⟩
  go_wp2_with fail
  refine (CB.out _).mono ?_
  rintro e w2 ⟨rfl, h2⟩
  go_wp2_with fail
  refine (CC.out _).mono ?_
  rintro e w3 ⟨rfl, h3⟩
  have h12 := h1.trans (h2.mono h1.size)
  have h13 := h12.trans (h3.mono h12.size)
  clear h1 h2 h3 h12
  go_wp2_with fail
  refine (CT.out _).mono ?_
  rintro e w4 ⟨rfl, h4⟩
  go_wp2_with fail
  refine (CD.out _).mono ?_
  rintro e w5 ⟨rfl, h5⟩
  go_wp2_with fail
  refine (CWr.out _).mono ?_
  rintro e w6 ⟨rfl, h6⟩
  have h14 := h13.trans (h4.mono h13.size)
  have h15 := h14.trans (h5.mono h14.size)
  have h16 := h15.trans (h6.mono h15.size)
  clear h13 h4 h5 h6 h14 h15
  go_wp2_with fail
  go_ret
  exact ⟨by rw [HV.out]; rfl, h16⟩
end Go.Proofs.YtggalphgnloneaaGreat.L4
/- Clamp, Bit of the layer scalar. -/
namespace Go.Proofs.YtggalphgnloneaaGreat.L4
open Go.RowKit
theorem clamp_low' : ∀ x : Fin 256, bits .andNot .u8 (x.val : Int) 7 = ((x.val / 8 * 8 : Nat) : Int) := by decide +kernel
theorem clamp_low (x : Nat) (h : x < 256) : bits .andNot .u8 (x : Int) 7 = ((x / 8 * 8 : Nat) : Int) := clamp_low' ⟨x, h⟩
theorem clamp_high' : ∀ x : Fin 256, bits .or .u8 (bits .and .u8 (x.val : Int) 127) 64 = ((x.val % 64 + 64 : Nat) : Int) := by decide +kernel
theorem clamp_high (x : Nat) (h : x < 256) : bits .or .u8 (bits .and .u8 (x : Int) 127) 64 = ((x % 64 + 64 : Nat) : Int) := clamp_high' ⟨x, h⟩
set_option maxRecDepth 100000 in
set_option maxHeartbeats 1000000 in
theorem qclamp_any (s : ByteArray) (w : World) :
    Calls Tryz.prog 38 #[.string s] w fun e w' => e = .returned (.tuple #[.string (clampV s).1, .bool (clampV s).2]) ∧ Below w.heap.size w w' := by
  by_cases h : s.size = 32
  · have HV : Hid (clampV s = (⟨(clampL s).toArray⟩, true)) := Lib.hid (by unfold clampV; rw [if_pos h])
    have hc : ((s.size : Int) != 32) = false := by rw [h]; rfl
    obtain ⟨cap, W1, hcv, hW⟩ := conv_start s w h
    have c0 := hW.c 0 (by omega)
    have f0 := hW.fz 0 (by omega)
    have hq := byteS_lt s 0
    have hr := byteS_lt s 31
    obtain ⟨q, hqd⟩ : ∃ q, q = byteS s 0 / 8 * 8 := ⟨_, rfl⟩
    obtain ⟨r, hrd⟩ : ∃ r, r = byteS s 31 % 64 + 64 := ⟨_, rfl⟩
    have eq1 : bits .andNot .u8 (byteS s 0 : Int) 7 = (q : Int) := by rw [clamp_low _ hq, hqd]
    have eq2 : bits .or .u8 (bits .and .u8 (byteS s 31 : Int) 127) 64 = (r : Int) := by rw [clamp_high _ hr, hrd]
    have hW2 := hW.put (k := 0) (by omega) (q : Int)
    have c31 := hW2.c 31 (by omega)
    have f31 := hW2.fz 31 (by omega)
    have hW3 := hW2.put (k := 31) (by omega) (r : Int)
    have hend := conv_end hW3 s (fun j hj => by
      unfold clampB
      by_cases h1 : j = 31
      · rw [if_pos h1, if_pos h1, hrd]
      · rw [if_neg h1, if_neg h1]
        by_cases h2 : j = 0
        · rw [if_pos h2, if_pos h2, hqd]
        · rw [if_neg h2, if_neg h2]) cap
    have hb := hW3.b
    simp only [show ¬ (31 : Nat) = 0 by omega, if_false] at c31
    clear hW hW2 hW3 h hqd hrd hq hr
    go_enter Tryz.func38, Tryz.ntmps38
    go_wp2_with fail
    refine bodyPost_ret (results_tmp2 rfl _ _ _) rfl ⟨?_, hb⟩
    rw [HV.out]; rfl
  · have HV : Hid (clampV s = (⟨#[]⟩, false)) := Lib.hid (by unfold clampV; rw [if_neg h])
    have hc : ((s.size : Int) != 32) = true := by rw [bne_iff_ne]; omega
    clear h
    go_enter Tryz.func38, Tryz.ntmps38
    go_wp2_with fail
    refine bodyPost_ret (results_tmp2 rfl _ _ _) rfl ⟨?_, Below.refl _ _⟩
    rw [HV.out]; rfl
end Go.Proofs.YtggalphgnloneaaGreat.L4
