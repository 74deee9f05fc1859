/- opposite, Add, Sub, Neg of the layer field. -/
import Derived.Test.YtjggclhhimccoaaGe
namespace Go.Proofs.Ytjggclhhimccoaa
open Go.RowKit
theorem subF (x y k : Nat) (hy : y ≤ x) (w : World) : (callFunc 56 #[.int .u64 (iw (F4 x k)), .int .u64 (iw (F4 y k)), .int .u64 (iw (c64 y (x - y) k))]).run Try.prog w = .ok (.value (.tuple #[.int .u64 (iw (F4 (x - y) k)), .int .u64 (iw (c64 y (x - y) (k + 1)))])) w := by
  rw [run_subW _ _ _ (by rw [c64_nat]; exact cn_le y (x - y) k)]
  have h1 := cn_digit y (x - y) k
  have h2 := cn_next y (x - y) k
  rw [show y + (x - y) = x by omega] at h1
  have l1 := F4_lt x k
  have l2 := F4_lt y k
  have l3 := F4_lt (x - y) k
  have l4 := cn_le y (x - y) k
  have l5 := cn_le y (x - y) (k + 1)
  have e1 : nw ((F4 x k).toNat + W64 - (F4 y k).toNat - (c64 y (x - y) k).toNat) = F4 (x - y) k := by
    apply nw_eq
    rw [F4_nat', F4_nat', F4_nat', c64_nat]
    unfold W64 at *; omega
  have e2 : nw (if (F4 x k).toNat < (F4 y k).toNat + (c64 y (x - y) k).toNat then 1 else 0) = c64 y (x - y) (k + 1) := by
    apply nw_eq
    rw [F4_nat', F4_nat', c64_nat, c64_nat]
    unfold W64 at *
    split <;> omega
  rw [e1, e2]
/-- Within opposite: the number turns into p less it, word by word. -/
def oF (y x k i : Nat) : BitVec 64 := if i < k then F4 (x - y) i else F4 y i
structure OW (y k : Nat) (w wr : World) : Prop where
  d : Blk wr w.heap.size 24 (r64 4 (oF y pP k))
  r : Blk wr (w.heap.size + 1) 24 (r64 4 fun _ => litw 64 0)
  l : Below w.heap.size w wr
theorem OW.put {y k : Nat} {w wr : World} (h : OW y k w wr) (hk : k < 4) : OW y (k + 1) w (wr.setCell ⟨w.heap.size, k, none⟩ (.int .u64 (iw (F4 (pP - y) k)))) :=
  ⟨(h.d.put hk _).cast_ (row_ext fun i _ => by
    unfold oF
    by_cases h : i = k
    · subst h; rw [if_pos rfl, if_pos (by omega)]
    · rw [if_neg h]
      by_cases h2 : i < k
      · rw [if_pos h2, if_pos (by omega)]
      · rw [if_neg h2, if_neg (by omega)]), h.r.far (by simp) _, h.l.setCell (by simp) _⟩
theorem OW.at_ {y k : Nat} {w wr : World} (h : OW y k w wr) (hk : k < 4) : wr.cell? ⟨w.heap.size, k, none⟩ = some (.int .u64 (iw (F4 y k))) := by
  have := h.d.at_ hk
  rw [show oF y pP k k = F4 y k by unfold oF; rw [if_neg (by omega)]] at this
  exact this
theorem oF_zero (y : Nat) : r64 4 (F4 y) = r64 4 (oF y pP 0) := row_ext fun i _ => by unfold oF; rw [if_neg (by omega)]
theorem oF_all (y : Nat) : r64 4 (oF y pP 4) = r64 4 (F4 (pP - y)) := row_ext fun i hi => by unfold oF; rw [if_pos hi]
theorem run_index4 (f : Nat → BitVec 64) (j : Nat) (hj : j < 4) (w : World) : (Instr.index 24 (.agg (r64 4 f)) (.int .i64 (j : Int))).run Try.prog w = .ok (.int .u64 (iw (f j))) w :=
  run_index_cell w 24 22 4 _ Try.underlying24 Try.underlying22 rfl (by kernel_rfl) _ _ j hj (row_get _ hj) .i64
set_option maxRecDepth 100000 in
set_option maxHeartbeats 1000000 in
theorem opposite_any (a : Nat) (w : World) (ha : a < M256) :
    Calls Try.prog 42 #[.agg (r64 4 (F4 a))] w fun e w' => e = .returned (.agg (r64 4 (F4 (pP - a % pP)))) ∧ Below w.heap.size w w' := by
  have HS := Lib.hid fe_size
  have hal : Try.prog.arrayLen 24 = 4 := by kernel_rfl
  have LW0 : LW a w ((w.alloc (.cells (r64 4 (F4 a)) 24)).alloc (.cells #[.int .u64 0, .int .u64 0, .int .u64 0, .int .u64 0] 24)) := ⟨(Blk.new w _ _).alloc _, (Blk.new _ _ _).cast' ⟨by simp, zero4'⟩, ((Below.refl _ _).alloc (Nat.le_refl _) _).alloc (by simp) _⟩
  have HY : a % pP ≤ pP := Nat.le_of_lt (Nat.mod_lt _ (by decide))
  have HB := Lib.hid (fun k => subF pP (a % pP) k HY)
  have HI := Lib.hid (run_index4 (F4 pP))
  go_enter Try.func42, Try.ntmps42
  go_wp2_with (refine wpList_gen (LW a w) LW0 (fun w1 h1 => ?_); refine wpList_load_row rfl 24 _ rfl w.heap.size rfl 24 _ (0, 0) _ h1.d Try.underlying24 rfl (HS.out _) ?_)
  refine (reduced_any a w1 ha).mono ?_
  rintro e w2 ⟨rfl, hq⟩
  have h2 := h1.below hq
  clear h1 hq LW0
  generalize hy : a % pP = y at HB HY ⊢
  have HYV := Lib.hid hy
  clear hy
  go_wp2_with (refine wpList_store_row rfl 24 _ _ rfl w.heap.size (r64 4 (F4 y)) rfl rfl 24 _ h2.d (HS.out _) (by simp only [row_size]) (row_one fun _ => rfl) ?_; refine wpList_gen (LW y w) (h2.row y) (fun w3 h3 => ?_))
  refine (fprime_any _).mono ?_
  rintro e w4 ⟨rfl, hq⟩
  have h4 := h3.below hq
  clear h2 h3 hq
  go_wp2_with fail
  go_loopw [3, 9] (fun v i wr => ∃ k : Nat, k ≤ 4 ∧ i = .int .i64 (k : Int) ∧ v = .int .u64 (iw (c64 y (pP - y) k)) ∧ OW y k w wr) (fun _ i _ => 4 - (intOf i).toNat)
  case atStart => exact ⟨0, by omega, rfl, c64_zero _ _, ⟨h4.d.cast_ (oF_zero y), h4.r, h4.l⟩⟩
  case round =>
    obtain ⟨k, hk, rfl, rfl, hr⟩ := hrel
    clear h4
    by_cases hlt : k < 4
    · have ca := hr.at_ hlt
      have hrun := HB.out k
      have hix := HI.out k hlt
      have hl0 : (k : Int) < 4 := by omega
      have hl1 : (0 : Int) ≤ k := by omega
      have fo := hr.d.frozen k
      have K := hr.put hlt
      clear hr
      go_wp2_with fail
      go_roundw
      case rel => exact ⟨k + 1, by omega, by go_num, rfl, K⟩
      case measure => simp [intOf]; omega
    · obtain rfl : k = 4 := by omega
      have ho := hr.d.cast_ (oF_all y)
      have hz := hr.r
      have hl := hr.l
      clear hr
      go_wp2_with (first
        | (refine wpList_load_row rfl 24 _ rfl w.heap.size rfl 24 _ (0, 0) _ ho Try.underlying24 rfl (HS.out _) ?_)
        | (refine wpList_store_row rfl 24 _ _ rfl (w.heap.size + 1) (r64 4 (F4 (pP - y))) rfl rfl 24 _ hz (HS.out _) (by simp only [row_size]) (row_one fun _ => rfl) ?_))
      simp only [Act.put]
      exact bodyPost_ret (results_cell_row rfl _ _ (w.heap.size + 1) 24 (r64 4 (F4 (pP - y))) (0, 0) _ rfl (hz.row_ _) Try.underlying24 rfl (HS.out _)) rfl ⟨by rw [HYV.out], below_setRow' hl (by omega) _⟩
/-- Three blocks of a call: two numbers and the result. -/
structure L3 (a b : Nat) (w wr : World) : Prop where
  da : Blk wr w.heap.size 24 (r64 4 (F4 a))
  db : Blk wr (w.heap.size + 1) 24 (r64 4 (F4 b))
  r : Blk wr (w.heap.size + 2) 24 (r64 4 fun _ => litw 64 0)
  l : Below w.heap.size w wr
theorem L3.below {a b : Nat} {w wr w' : World} (h : L3 a b w wr) (hb : Below wr.heap.size wr w') : L3 a b w w' := ⟨h.da.below hb h.da.lt, h.db.below hb h.db.lt, h.r.below hb h.r.lt, h.l.trans (hb.mono h.l.size)⟩
theorem L3.drew {a b : Nat} {w wr : World} (h : L3 a b w wr) : L3 a b w wr.drew := ⟨h.da, h.db, h.r, h.l.drew⟩
theorem L3.start (a b : Nat) (w : World) : L3 a b w (((w.alloc (.cells (r64 4 (F4 a)) 24)).alloc (.cells (r64 4 (F4 b)) 24)).alloc (.cells #[.int .u64 0, .int .u64 0, .int .u64 0, .int .u64 0] 24)) :=
  ⟨((Blk.new w _ _).alloc _).alloc _, ((Blk.new (w.alloc _) _ _).cast' ⟨by simp, rfl⟩).alloc _, (Blk.new _ _ _).cast' ⟨by simp, zero4'⟩, (((Below.refl _ _).alloc (Nat.le_refl _) _).alloc (by simp) _).alloc (by simp; omega) _⟩
set_option maxRecDepth 100000 in
set_option maxHeartbeats 1000000 in
theorem fadd_any (a b : Nat) (w : World) (ha : a < M256) (hb : b < M256) :
    Calls Try.prog 12 #[.agg (r64 4 (F4 a)), .agg (r64 4 (F4 b))] w fun e w' => e = .returned (.agg (r64 4 (F4 ((a + b) % pP)))) ∧ Below w.heap.size w w' := by
  have HS := Lib.hid fe_size
  have hc : c64 a b 4 = nw ((a + b) / M256) := by
    have e : (2 : Nat) ^ (64 * 4) = M256 := by decide
    unfold c64 cn; rw [e, Nat.mod_eq_of_lt ha, Nat.mod_eq_of_lt hb]; rfl
  have hF : r64 4 (F4 (a + b)) = r64 4 (F4 ((a + b) % M256)) := row_ext fun i hi => by
    have : F4 (a + b) i = F4 ((a + b) % M256) i := by
      apply BitVec.eq_of_toNat_eq
      rw [F4_nat, F4_nat]
      unfold M256
      match i, hi with
      | 0, _ => simp only [Nat.reduceMul, Nat.reducePow]; omega
      | 1, _ => simp only [Nat.reduceMul, Nat.reducePow]; omega
      | 2, _ => simp only [Nat.reduceMul, Nat.reducePow]; omega
      | 3, _ => simp only [Nat.reduceMul, Nat.reducePow]; omega
    rw [this]
  have HE := Lib.hid (show (a + b) % M256 + (a + b) / M256 * M256 = a + b by rw [Nat.mul_comm]; exact Nat.mod_add_div _ _)
  have HB := Lib.hid (fun w => fbelow_any ((a + b) % M256) ((a + b) / M256) w (Nat.mod_lt _ (by decide)) (by unfold M256 at *; omega))
  have HC := Lib.hid hc
  have HF := Lib.hid hF
  clear hc hF
  have L0 := L3.start a b w
  go_enter Try.func12, Try.ntmps12
  go_wp2_with (first
    | (refine wpList_gen (L3 a b w) L0 (fun w1 h1 => ?_); refine wpList_load_row rfl 24 _ rfl w.heap.size rfl 24 _ (0, 0) _ h1.da Try.underlying24 rfl (HS.out _) ?_)
    | (refine wpList_load_row rfl 24 _ rfl (w.heap.size + 1) rfl 24 _ (0, 0) _ h1.db Try.underlying24 rfl (HS.out _) ?_))
  refine (plus_any a b w1).mono ?_
  rw [HC.out, HF.out]
  rintro e w2 ⟨rfl, hq⟩
  have h2 := h1.below hq
  clear h1 hq L0
  go_wp2_with fail
  refine (HB.out w2).mono ?_
  rw [HE.out]
  rintro e w3 ⟨rfl, hq⟩
  have h3 := h2.below hq
  clear h2 hq
  go_wp2_with (refine wpList_store_row rfl 24 _ _ rfl (w.heap.size + 2) (r64 4 (F4 ((a + b) % pP))) rfl rfl 24 _ h3.r (HS.out _) (by simp only [row_size]) (row_one fun _ => rfl) ?_)
  simp only [Act.put]
  exact bodyPost_ret (results_cell_row rfl _ _ (w.heap.size + 2) 24 (r64 4 (F4 ((a + b) % pP))) (0, 0) _ rfl (h3.r.row_ _) Try.underlying24 rfl (HS.out _)) rfl ⟨rfl, below_setRow' h3.l (by omega) _⟩
set_option maxRecDepth 100000 in
set_option maxHeartbeats 1000000 in
theorem fneg_any (a : Nat) (w : World) (ha : a < M256) :
    Calls Try.prog 18 #[.agg (r64 4 (F4 a))] w fun e w' => e = .returned (.agg (r64 4 (F4 ((pP - a % pP) % pP)))) ∧ Below w.heap.size w w' := by
  have HS := Lib.hid fe_size
  have LW0 : LW a w ((w.alloc (.cells (r64 4 (F4 a)) 24)).alloc (.cells #[.int .u64 0, .int .u64 0, .int .u64 0, .int .u64 0] 24)) := ⟨(Blk.new w _ _).alloc _, (Blk.new _ _ _).cast' ⟨by simp, zero4'⟩, ((Below.refl _ _).alloc (Nat.le_refl _) _).alloc (by simp) _⟩
  have HB := Lib.hid (fun w => reduced_any (pP - a % pP) w (by have := Nat.sub_le pP (a % pP); unfold pP M256 at *; omega))
  go_enter Try.func18, Try.ntmps18
  go_wp2_with (refine wpList_gen (LW a w) LW0 (fun w1 h1 => ?_); refine wpList_load_row rfl 24 _ rfl w.heap.size rfl 24 _ (0, 0) _ h1.d Try.underlying24 rfl (HS.out _) ?_)
  refine (opposite_any a w1 ha).mono ?_
  rintro e w2 ⟨rfl, hq⟩
  have h2 := h1.below hq
  clear h1 hq LW0
  go_wp2_with fail
  refine (HB.out w2).mono ?_
  rintro e w3 ⟨rfl, hq⟩
  have h3 := h2.below hq
  clear h2 hq
  go_wp2_with (refine wpList_store_row rfl 24 _ _ rfl (w.heap.size + 1) (r64 4 (F4 ((pP - a % pP) % pP))) rfl rfl 24 _ h3.r (HS.out _) (by simp only [row_size]) (row_one fun _ => rfl) ?_)
  simp only [Act.put]
  exact bodyPost_ret (results_cell_row rfl _ _ (w.heap.size + 1) 24 (r64 4 (F4 ((pP - a % pP) % pP))) (0, 0) _ rfl (h3.r.row_ _) Try.underlying24 rfl (HS.out _)) rfl ⟨rfl, below_setRow' h3.l (by omega) _⟩
end Go.Proofs.Ytjggclhhimccoaa
