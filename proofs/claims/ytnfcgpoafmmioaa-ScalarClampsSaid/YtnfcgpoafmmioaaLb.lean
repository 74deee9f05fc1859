/- minus, plus of the layer scalar. -/
import Derived.Test.YtnfcgpoafmmioaaLa
import Derived.Test.YtnfcgpoafmmioaaReg
namespace Go.Proofs.Ytnfcgpoafmmioaa
open Go.RowKit
/-- Has a - b, of the first k words, borrowed? -/
def bb (a b k : Nat) : Nat := if a % 2 ^ (64 * k) < b % 2 ^ (64 * k) then 1 else 0
theorem bb_le (a b k : Nat) : bb a b k ≤ 1 := by unfold bb; split <;> omega
def b64 (a b k : Nat) : BitVec 64 := nw (bb a b k)
theorem b64_nat (a b k : Nat) : (b64 a b k).toNat = bb a b k := nw_nat _ (by have := bb_le a b k; unfold W64; omega)
theorem bb_zero (a b : Nat) : bb a b 0 = 0 := by unfold bb; rw [if_neg (by rw [Nat.mul_zero, Nat.pow_zero, Nat.mod_one, Nat.mod_one]; omega)]
theorem b64_zero (a b : Nat) : Value.int .u64 0 = .int .u64 (iw (b64 a b 0)) := by
  unfold b64; rw [bb_zero]; exact lit0w
theorem bb_digit (a b k : Nat) (hk : k < 4) (ha : a < M256) (hb : b < M256) : (a / 2 ^ (64 * k) % W64 + W64 - b / 2 ^ (64 * k) % W64 - bb a b k) % W64 = (a + M256 - b) / 2 ^ (64 * k) % W64 := by
  unfold bb M256 W64 at *
  match k, hk with
  | 0, _ => simp only [Nat.reduceMul, Nat.reducePow]; split <;> omega
  | 1, _ => simp only [Nat.reduceMul, Nat.reducePow]; split <;> omega
  | 2, _ => simp only [Nat.reduceMul, Nat.reducePow]; split <;> omega
  | 3, _ => simp only [Nat.reduceMul, Nat.reducePow]; split <;> omega
theorem bb_next (a b k : Nat) (hk : k < 4) : (if a / 2 ^ (64 * k) % W64 < b / 2 ^ (64 * k) % W64 + bb a b k then 1 else 0) = bb a b (k + 1) := by
  unfold bb W64
  match k, hk with
  | 0, _ => simp only [Nat.reduceMul, Nat.reduceAdd, Nat.reducePow]; split <;> split <;> split <;> omega
  | 1, _ => simp only [Nat.reduceMul, Nat.reduceAdd, Nat.reducePow]; split <;> split <;> split <;> omega
  | 2, _ => simp only [Nat.reduceMul, Nat.reduceAdd, Nat.reducePow]; split <;> split <;> split <;> omega
  | 3, _ => simp only [Nat.reduceMul, Nat.reduceAdd, Nat.reducePow]; split <;> split <;> split <;> omega
theorem bb_four (a b : Nat) (ha : a < M256) (hb : b < M256) : bb a b 4 = if a < b then 1 else 0 := by
  unfold bb; rw [show (2 : Nat) ^ (64 * 4) = M256 by decide, Nat.mod_eq_of_lt ha, Nat.mod_eq_of_lt hb]
theorem subF (a b k : Nat) (hk : k < 4) (ha : a < M256) (hb : b < M256) (w : World) : (callFunc 37 #[.int .u64 (iw (F4 a k)), .int .u64 (iw (F4 b k)), .int .u64 (iw (b64 a b k))]).run Try.prog w = .ok (.value (.tuple #[.int .u64 (iw (F4 (a + M256 - b) k)), .int .u64 (iw (b64 a b (k + 1)))])) w := by
  rw [run_subW _ _ _ (by rw [b64_nat]; exact bb_le a b k)]
  have e1 : nw ((F4 a k).toNat + W64 - (F4 b k).toNat - (b64 a b k).toNat) = F4 (a + M256 - b) k := by
    apply nw_eq
    rw [F4_nat', F4_nat', F4_nat', b64_nat, bb_digit a b k hk ha hb]
  have e2 : nw (if (F4 a k).toNat < (F4 b k).toNat + (b64 a b k).toNat then 1 else 0) = b64 a b (k + 1) := by
    rw [F4_nat', F4_nat', b64_nat, bb_next a b k hk]; rfl
  rw [e1, e2]
/-- Within plus. -/
structure PW (a b k : Nat) (w wr : World) : Prop where
  da : Blk wr w.heap.size 39 (r64 4 (F4 a))
  db : Blk wr (w.heap.size + 1) 39 (r64 4 (F4 b))
  o : Blk wr (w.heap.size + 2) 39 (r64 4 (gF (a + b) k))
  l : Below w.heap.size w wr
theorem PW.drew {a b k : Nat} {w wr : World} (h : PW a b k w wr) : PW a b k w wr.drew := ⟨h.da, h.db, h.o, h.l.drew⟩
theorem PW.put {a b k : Nat} {w wr : World} (h : PW a b k w wr) (hk : k < 4) : PW a b (k + 1) w (wr.setCell ⟨w.heap.size + 2, k, none⟩ (.int .u64 (iw (F4 (a + b) k)))) :=
  ⟨h.da.far (by simp) _, h.db.far (by simp) _, (h.o.put hk _).cast_ (row_ext fun i _ => gF_put (a + b) k i), h.l.setCell (by simp) _⟩
set_option maxRecDepth 100000 in
set_option maxHeartbeats 1000000 in
theorem qplus_any (a b : Nat) (w : World) :
    Calls Try.prog 33 #[.agg (r64 4 (F4 a)), .agg (r64 4 (F4 b))] w fun e w' => e = .returned (.agg (r64 4 (F4 (a + b)))) ∧ Below w.heap.size w w' := by
  have HS := Lib.hid num_size
  have hal : Try.prog.arrayLen 39 = 4 := by kernel_rfl
  have HA := Lib.hid (addF a b)
  go_enter Try.func33, Try.ntmps33
  go_wp2_with fail
  go_loopw [5, 7] (fun v i wr => ∃ k : Nat, k ≤ 4 ∧ i = .int .i64 (k : Int) ∧ v = .int .u64 (iw (c64 a b k)) ∧ PW a b k w wr) (fun _ i _ => 4 - (intOf i).toNat)
  case atStart => exact ⟨0, by omega, rfl, c64_zero a b, ⟨((Blk.new w _ _).alloc _).alloc _, ((Blk.new (w.alloc _) _ _).cast' ⟨by simp, rfl⟩).alloc _, (Blk.new _ _ _).cast' ⟨by simp, zero4'.trans (gF_none _)⟩, (((Below.refl _ _).alloc (Nat.le_refl _) _).alloc (by simp) _).alloc (by simp; omega) _⟩⟩
  case round =>
    obtain ⟨k, hk, rfl, rfl, hr⟩ := hrel
    by_cases hlt : k < 4
    · have ca := hr.da.at_ hlt
      have cb := hr.db.at_ hlt
      have hrun := HA.out k
      have hl0 : (k : Int) < 4 := by omega
      have hl1 : (0 : Int) ≤ k := by omega
      have hw1 : IntKind.i64.wrap (k : Int) = (k : Int) := IntWalk.i64_in _ (by omega)
      go_wp2_with fail
      refine wp_region_anyL (Two 13 1000 fun f1 _ wx => PW a b (if f1 then k + 1 else k) w wx) (by kernel_rfl) hr.drew ?_
      refine anyL_take (i := 0) (v := ?_) rfl (by kernel_rfl) (by kernel_rfl) (by kernel_rfl) (yl_other (by decide) (by decide) rfl (fun f1 f2 wx hT => ?_)) ?_; rotate_left
      · refine lands_value (w := wx) ?_ hT; go_simp <;> rfl
      simp only [Act.put, List.setIfInBounds_toArray, List.set_cons_zero, List.set_cons_succ]
      refine anyL_take (i := 1) (v := ?_) rfl (by kernel_rfl) (by kernel_rfl) (by kernel_rfl) (yl_other (by decide) (by decide) rfl (fun f1 f2 wx hT => ?_)) ?_; rotate_left
      · refine lands_value (w := wx) ?_ hT; go_simp <;> rfl
      simp only [Act.put, List.setIfInBounds_toArray, List.set_cons_zero, List.set_cons_succ]
      refine anyL_take (i := 2) (v := ?_) rfl (by kernel_rfl) (by kernel_rfl) (by kernel_rfl) (yl_other (by decide) (by decide) rfl (fun f1 f2 wx hT => ?_)) ?_; rotate_left
      · refine lands_value (w := wx) ?_ hT; go_simp <;> rfl
      simp only [Act.put, List.setIfInBounds_toArray, List.set_cons_zero, List.set_cons_succ]
      refine anyL_take (i := 3) (v := ?_) rfl (by kernel_rfl) (by kernel_rfl) (by kernel_rfl) (yl_other (by decide) (by decide) rfl (fun f1 f2 wx hT => ?_)) ?_; rotate_left
      · have ca := hT.da.at_ hlt; refine lands_value (w := wx) ?_ hT; go_simp <;> rfl
      simp only [Act.put, List.setIfInBounds_toArray, List.set_cons_zero, List.set_cons_succ]
      refine anyL_take (i := 4) (v := ?_) rfl (by kernel_rfl) (by kernel_rfl) (by kernel_rfl) (yl_other (by decide) (by decide) rfl (fun f1 f2 wx hT => ?_)) ?_; rotate_left
      · refine lands_value (w := wx) ?_ hT; go_simp <;> rfl
      simp only [Act.put, List.setIfInBounds_toArray, List.set_cons_zero, List.set_cons_succ]
      refine anyL_take (i := 5) (v := ?_) rfl (by kernel_rfl) (by kernel_rfl) (by kernel_rfl) (yl_other (by decide) (by decide) rfl (fun f1 f2 wx hT => ?_)) ?_; rotate_left
      · refine lands_value (w := wx) ?_ hT; go_simp <;> rfl
      simp only [Act.put, List.setIfInBounds_toArray, List.set_cons_zero, List.set_cons_succ]
      refine anyL_take (i := 6) (v := ?_) rfl (by kernel_rfl) (by kernel_rfl) (by kernel_rfl) (yl_other (by decide) (by decide) rfl (fun f1 f2 wx hT => ?_)) ?_; rotate_left
      · have cb := hT.db.at_ hlt; refine lands_value (w := wx) ?_ hT; go_simp <;> rfl
      simp only [Act.put, List.setIfInBounds_toArray, List.set_cons_zero, List.set_cons_succ]
      refine anyL_take (i := 7) (v := ?_) rfl (by kernel_rfl) (by kernel_rfl) (by kernel_rfl) (yl_other (by decide) (by decide) rfl (fun f1 f2 wx hT => ?_)) ?_; rotate_left
      · refine lands_value (w := wx) ?_ hT; go_simp <;> rfl
      simp only [Act.put, List.setIfInBounds_toArray, List.set_cons_zero, List.set_cons_succ]
      refine anyL_take (i := 8) (v := ?_) rfl (by kernel_rfl) (by kernel_rfl) (by kernel_rfl) (yl_other (by decide) (by decide) rfl (fun f1 f2 wx hT => ?_)) ?_; rotate_left
      · refine lands_value (w := wx) ?_ hT; go_simp <;> rfl
      simp only [Act.put, List.setIfInBounds_toArray, List.set_cons_zero, List.set_cons_succ]
      refine anyL_take (i := 9) (v := ?_) rfl (by kernel_rfl) (by kernel_rfl) (by kernel_rfl) (yl_other (by decide) (by decide) rfl (fun f1 f2 wx hT => ?_)) ?_; rotate_left
      · refine lands_value (w := wx) ?_ hT; go_simp <;> rfl
      simp only [Act.put, List.setIfInBounds_toArray, List.set_cons_zero, List.set_cons_succ]
      refine anyL_take (i := 10) (v := ?_) rfl (by kernel_rfl) (by kernel_rfl) (by kernel_rfl) (yl_other (by decide) (by decide) rfl (fun f1 f2 wx hT => ?_)) ?_; rotate_left
      · refine lands_value (w := wx) ?_ hT; go_simp <;> rfl
      simp only [Act.put, List.setIfInBounds_toArray, List.set_cons_zero, List.set_cons_succ]
      refine anyL_take (i := 11) (v := ?_) rfl (by kernel_rfl) (by kernel_rfl) (by kernel_rfl) (yl_other (by decide) (by decide) rfl (fun f1 f2 wx hT => ?_)) ?_; rotate_left
      · refine lands_value (w := wx) ?_ hT; go_simp <;> rfl
      simp only [Act.put, List.setIfInBounds_toArray, List.set_cons_zero, List.set_cons_succ]
      refine anyL_take (i := 12) (v := ?_) rfl (by kernel_rfl) (by kernel_rfl) (by kernel_rfl) (yl_other (by decide) (by decide) rfl (fun f1 f2 wx hT => ?_)) ?_; rotate_left
      · refine lands_value (w := wx) ?_ hT; go_simp <;> rfl
      simp only [Act.put, List.setIfInBounds_toArray, List.set_cons_zero, List.set_cons_succ]
      refine anyL_take (i := 13) (v := undef) rfl (by kernel_rfl) (by kernel_rfl) (by kernel_rfl) (yl_first (by decide) rfl (fun f2 wx hT => ?_)) ?_
      · have co := hT.o.at_ hlt; have fo := hT.o.frozen k; have K := hT.put hlt; go_simp; exact ⟨rfl, K⟩
      simp only [Act.put]
      refine anyL_take (i := 14) (v := ?_) rfl (by kernel_rfl) (by kernel_rfl) (by kernel_rfl) (yl_other (by decide) (by decide) rfl (fun f1 f2 wx hT => ?_)) ?_; rotate_left
      · refine lands_value (w := wx) ?_ hT; go_simp <;> rfl
      simp only [Act.put, List.setIfInBounds_toArray, List.set_cons_zero, List.set_cons_succ]
      refine anyL_done (by kernel_rfl) (fun w3 (K : PW a b (k + 1) w w3) => ?_) _
      clear hr ca cb hrun hl0 hl1 hw1
      go_wp2_with fail
      go_roundw
      case rel => exact ⟨k + 1, by omega, by go_num, rfl, K⟩
      case measure => simp [intOf]; omega
    · obtain rfl : k = 4 := by omega
      have ho := hr.o.cast_ (gF_all (a + b))
      have hl := hr.l
      clear hr
      go_wp2_with (first
        | (refine wpList_load_row rfl 39 _ rfl (w.heap.size + 2) rfl 39 _ (0, 0) _ ho Try.underlying39 rfl (HS.out _) ?_)
        | (refine wpList_store_row rfl 39 _ _ rfl (w.heap.size + 2) (r64 4 (F4 (a + b))) rfl rfl 39 _ ho (HS.out _) rfl (row_one fun _ => rfl) ?_))
      exact bodyPost_ret (results_cell_row rfl _ _ (w.heap.size + 2) 39 (r64 4 (F4 (a + b))) (0, 0) _ rfl (ho.row_ _) Try.underlying39 rfl (HS.out _)) rfl ⟨rfl, below_setRow' hl (by omega) _⟩
/-- Within minus. -/
structure NW (a b k : Nat) (w wr : World) : Prop where
  da : Blk wr w.heap.size 39 (r64 4 (F4 a))
  db : Blk wr (w.heap.size + 1) 39 (r64 4 (F4 b))
  o : Blk wr (w.heap.size + 2) 39 (r64 4 (gF (a + M256 - b) k))
  l : Below w.heap.size w wr
theorem NW.drew {a b k : Nat} {w wr : World} (h : NW a b k w wr) : NW a b k w wr.drew := ⟨h.da, h.db, h.o, h.l.drew⟩
theorem NW.put {a b k : Nat} {w wr : World} (h : NW a b k w wr) (hk : k < 4) : NW a b (k + 1) w (wr.setCell ⟨w.heap.size + 2, k, none⟩ (.int .u64 (iw (F4 (a + M256 - b) k)))) :=
  ⟨h.da.far (by simp) _, h.db.far (by simp) _, (h.o.put hk _).cast_ (row_ext fun i _ => gF_put (a + M256 - b) k i), h.l.setCell (by simp) _⟩
set_option maxRecDepth 100000 in
set_option maxHeartbeats 1000000 in
theorem qminus_any (a b : Nat) (ha : a < M256) (hb : b < M256) (w : World) :
    Calls Try.prog 31 #[.agg (r64 4 (F4 a)), .agg (r64 4 (F4 b))] w fun e w' => e = .returned (.tuple #[.agg (r64 4 (F4 (a + M256 - b))), .int .u64 (iw (b64 a b 4))]) ∧ Below w.heap.size w w' := by
  have HS := Lib.hid num_size
  have hal : Try.prog.arrayLen 39 = 4 := by kernel_rfl
  have HA := Lib.hid (fun k hk w => subF a b k hk ha hb w)
  go_enter Try.func31, Try.ntmps31
  go_wp2_with fail
  go_loopw [5, 7] (fun v i wr => ∃ k : Nat, k ≤ 4 ∧ i = .int .i64 (k : Int) ∧ v = .int .u64 (iw (b64 a b k)) ∧ NW a b k w wr) (fun _ i _ => 4 - (intOf i).toNat)
  case atStart => exact ⟨0, by omega, rfl, b64_zero a b, ⟨((Blk.new w _ _).alloc _).alloc _, ((Blk.new (w.alloc _) _ _).cast' ⟨by simp, rfl⟩).alloc _, (Blk.new _ _ _).cast' ⟨by simp, zero4'.trans (gF_none _)⟩, (((Below.refl _ _).alloc (Nat.le_refl _) _).alloc (by simp) _).alloc (by simp; omega) _⟩⟩
  case round =>
    obtain ⟨k, hk, rfl, rfl, hr⟩ := hrel
    by_cases hlt : k < 4
    · have ca := hr.da.at_ hlt
      have cb := hr.db.at_ hlt
      have hrun := HA.out k hlt
      have hl0 : (k : Int) < 4 := by omega
      have hl1 : (0 : Int) ≤ k := by omega
      have hw1 : IntKind.i64.wrap (k : Int) = (k : Int) := IntWalk.i64_in _ (by omega)
      go_wp2_with fail
      refine wp_region_anyL (Two 13 1000 fun f1 _ wx => NW a b (if f1 then k + 1 else k) w wx) (by kernel_rfl) hr.drew ?_
      refine anyL_take (i := 0) (v := ?_) rfl (by kernel_rfl) (by kernel_rfl) (by kernel_rfl) (yl_other (by decide) (by decide) rfl (fun f1 f2 wx hT => ?_)) ?_; rotate_left
      · refine lands_value (w := wx) ?_ hT; go_simp <;> rfl
      simp only [Act.put, List.setIfInBounds_toArray, List.set_cons_zero, List.set_cons_succ]
      refine anyL_take (i := 1) (v := ?_) rfl (by kernel_rfl) (by kernel_rfl) (by kernel_rfl) (yl_other (by decide) (by decide) rfl (fun f1 f2 wx hT => ?_)) ?_; rotate_left
      · refine lands_value (w := wx) ?_ hT; go_simp <;> rfl
      simp only [Act.put, List.setIfInBounds_toArray, List.set_cons_zero, List.set_cons_succ]
      refine anyL_take (i := 2) (v := ?_) rfl (by kernel_rfl) (by kernel_rfl) (by kernel_rfl) (yl_other (by decide) (by decide) rfl (fun f1 f2 wx hT => ?_)) ?_; rotate_left
      · refine lands_value (w := wx) ?_ hT; go_simp <;> rfl
      simp only [Act.put, List.setIfInBounds_toArray, List.set_cons_zero, List.set_cons_succ]
      refine anyL_take (i := 3) (v := ?_) rfl (by kernel_rfl) (by kernel_rfl) (by kernel_rfl) (yl_other (by decide) (by decide) rfl (fun f1 f2 wx hT => ?_)) ?_; rotate_left
      · have ca := hT.da.at_ hlt; refine lands_value (w := wx) ?_ hT; go_simp <;> rfl
      simp only [Act.put, List.setIfInBounds_toArray, List.set_cons_zero, List.set_cons_succ]
      refine anyL_take (i := 4) (v := ?_) rfl (by kernel_rfl) (by kernel_rfl) (by kernel_rfl) (yl_other (by decide) (by decide) rfl (fun f1 f2 wx hT => ?_)) ?_; rotate_left
      · refine lands_value (w := wx) ?_ hT; go_simp <;> rfl
      simp only [Act.put, List.setIfInBounds_toArray, List.set_cons_zero, List.set_cons_succ]
      refine anyL_take (i := 5) (v := ?_) rfl (by kernel_rfl) (by kernel_rfl) (by kernel_rfl) (yl_other (by decide) (by decide) rfl (fun f1 f2 wx hT => ?_)) ?_; rotate_left
      · refine lands_value (w := wx) ?_ hT; go_simp <;> rfl
      simp only [Act.put, List.setIfInBounds_toArray, List.set_cons_zero, List.set_cons_succ]
      refine anyL_take (i := 6) (v := ?_) rfl (by kernel_rfl) (by kernel_rfl) (by kernel_rfl) (yl_other (by decide) (by decide) rfl (fun f1 f2 wx hT => ?_)) ?_; rotate_left
      · have cb := hT.db.at_ hlt; refine lands_value (w := wx) ?_ hT; go_simp <;> rfl
      simp only [Act.put, List.setIfInBounds_toArray, List.set_cons_zero, List.set_cons_succ]
      refine anyL_take (i := 7) (v := ?_) rfl (by kernel_rfl) (by kernel_rfl) (by kernel_rfl) (yl_other (by decide) (by decide) rfl (fun f1 f2 wx hT => ?_)) ?_; rotate_left
      · refine lands_value (w := wx) ?_ hT; go_simp <;> rfl
      simp only [Act.put, List.setIfInBounds_toArray, List.set_cons_zero, List.set_cons_succ]
      refine anyL_take (i := 8) (v := ?_) rfl (by kernel_rfl) (by kernel_rfl) (by kernel_rfl) (yl_other (by decide) (by decide) rfl (fun f1 f2 wx hT => ?_)) ?_; rotate_left
      · refine lands_value (w := wx) ?_ hT; go_simp <;> rfl
      simp only [Act.put, List.setIfInBounds_toArray, List.set_cons_zero, List.set_cons_succ]
      refine anyL_take (i := 9) (v := ?_) rfl (by kernel_rfl) (by kernel_rfl) (by kernel_rfl) (yl_other (by decide) (by decide) rfl (fun f1 f2 wx hT => ?_)) ?_; rotate_left
      · refine lands_value (w := wx) ?_ hT; go_simp <;> rfl
      simp only [Act.put, List.setIfInBounds_toArray, List.set_cons_zero, List.set_cons_succ]
      refine anyL_take (i := 10) (v := ?_) rfl (by kernel_rfl) (by kernel_rfl) (by kernel_rfl) (yl_other (by decide) (by decide) rfl (fun f1 f2 wx hT => ?_)) ?_; rotate_left
      · refine lands_value (w := wx) ?_ hT; go_simp <;> rfl
      simp only [Act.put, List.setIfInBounds_toArray, List.set_cons_zero, List.set_cons_succ]
      refine anyL_take (i := 11) (v := ?_) rfl (by kernel_rfl) (by kernel_rfl) (by kernel_rfl) (yl_other (by decide) (by decide) rfl (fun f1 f2 wx hT => ?_)) ?_; rotate_left
      · refine lands_value (w := wx) ?_ hT; go_simp <;> rfl
      simp only [Act.put, List.setIfInBounds_toArray, List.set_cons_zero, List.set_cons_succ]
      refine anyL_take (i := 12) (v := ?_) rfl (by kernel_rfl) (by kernel_rfl) (by kernel_rfl) (yl_other (by decide) (by decide) rfl (fun f1 f2 wx hT => ?_)) ?_; rotate_left
      · refine lands_value (w := wx) ?_ hT; go_simp <;> rfl
      simp only [Act.put, List.setIfInBounds_toArray, List.set_cons_zero, List.set_cons_succ]
      refine anyL_take (i := 13) (v := undef) rfl (by kernel_rfl) (by kernel_rfl) (by kernel_rfl) (yl_first (by decide) rfl (fun f2 wx hT => ?_)) ?_
      · have co := hT.o.at_ hlt; have fo := hT.o.frozen k; have K := hT.put hlt; go_simp; exact ⟨rfl, K⟩
      simp only [Act.put]
      refine anyL_take (i := 14) (v := ?_) rfl (by kernel_rfl) (by kernel_rfl) (by kernel_rfl) (yl_other (by decide) (by decide) rfl (fun f1 f2 wx hT => ?_)) ?_; rotate_left
      · refine lands_value (w := wx) ?_ hT; go_simp <;> rfl
      simp only [Act.put, List.setIfInBounds_toArray, List.set_cons_zero, List.set_cons_succ]
      refine anyL_done (by kernel_rfl) (fun w3 (K : NW a b (k + 1) w w3) => ?_) _
      clear hr ca cb hrun hl0 hl1 hw1
      go_wp2_with fail
      go_roundw
      case rel => exact ⟨k + 1, by omega, by go_num, rfl, K⟩
      case measure => simp [intOf]; omega
    · obtain rfl : k = 4 := by omega
      have ho := hr.o.cast_ (gF_all (a + M256 - b))
      have hl := hr.l
      clear hr
      go_wp2_with (first
        | (refine wpList_load_row rfl 39 _ rfl (w.heap.size + 2) rfl 39 _ (0, 0) _ ho Try.underlying39 rfl (HS.out _) ?_)
        | (refine wpList_store_row rfl 39 _ _ rfl (w.heap.size + 2) (r64 4 (F4 (a + M256 - b))) rfl rfl 39 _ ho (HS.out _) rfl (row_one fun _ => rfl) ?_))
      exact bodyPost_ret (results_cell_row_slot rfl _ _ (w.heap.size + 2) 39 (r64 4 (F4 (a + M256 - b))) (0, 0) _ _ rfl (ho.row_ _) Try.underlying39 rfl (HS.out _) rfl) rfl ⟨rfl, below_setRow' hl (by omega) _⟩
end Go.Proofs.Ytnfcgpoafmmioaa
