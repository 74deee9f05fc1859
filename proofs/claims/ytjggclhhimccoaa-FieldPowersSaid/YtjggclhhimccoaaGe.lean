/- plus of the layer field. -/
import Derived.Test.YtjggclhhimccoaaGd
import Derived.Test.YtjggclhhimccoaaReg
import Derived.StillTailTactics
import Derived.IntWalk
namespace Go.Proofs.Ytjggclhhimccoaa
open Go.RowKit
theorem results_cell_row_slot {P : Program} {fn : Func} {p q : Tmp} {ty : TypeId} (h : fn.results = #[.cell p ty, .tmp q]) (tmps : Array Value) (w : World) (g : Nat) (t : TypeId) (cs : Array Value) (fr : Nat × Nat) (d : TypeDesc) (v : Value)
    (hp : tmps.getD p undef = .pointer (some ⟨g, 0, none⟩)) (hg : w.heap[g]? = some (.cells cs t fr))
    (hu : P.underlying ty = some d) (hd : (match d with | .struct _ | .array _ _ => true | _ => false) = true) (hi : (P.info? ty).map (·.size) = some cs.size) (hq : tmps.getD q undef = v) :
    (results fn tmps).run P w = .ok (.tuple #[.agg cs, v]) w := by
  have hp' : tmps[p]?.getD undef = .pointer (some ⟨g, 0, none⟩) := by simpa using hp
  have hq' : tmps[q]?.getD undef = v := by simpa using hq
  simp [results, h, hp', hq', asAddr, run_loadVar_row w g t ty cs fr d hg hu hd hi]
def gF (n k i : Nat) : BitVec 64 := if i < k then F4 n i else litw 64 0
theorem gF_put (n k i : Nat) : (if i = k then Value.int .u64 (iw (F4 n k)) else Value.int .u64 (iw (gF n k i))) = Value.int .u64 (iw (gF n (k + 1) i)) := by
  unfold gF
  by_cases h : i = k
  · subst h; rw [if_pos rfl, if_pos (by omega)]
  · rw [if_neg h]
    by_cases h2 : i < k
    · rw [if_pos h2, if_pos (by omega)]
    · rw [if_neg h2, if_neg (by omega)]
theorem gF_all (n : Nat) : r64 4 (gF n 4) = r64 4 (F4 n) := row_ext fun i hi => by unfold gF; rw [if_pos hi]
theorem gF_none (n : Nat) : r64 4 (fun _ => litw 64 0) = r64 4 (gF n 0) := row_ext fun i _ => by unfold gF; rw [if_neg (by omega)]
structure PW (a b k : Nat) (w wr : World) : Prop where
  da : Blk wr w.heap.size 24 (r64 4 (F4 a))
  db : Blk wr (w.heap.size + 1) 24 (r64 4 (F4 b))
  o : Blk wr (w.heap.size + 2) 24 (r64 4 (gF (a + b) k))
  l : Below w.heap.size w wr
theorem PW.drew {a b k : Nat} {w wr : World} (h : PW a b k w wr) : PW a b k w wr.drew := ⟨h.da, h.db, h.o, h.l.drew⟩
theorem PW.put {a b k : Nat} {w wr : World} (h : PW a b k w wr) (hk : k < 4) : PW a b (k + 1) w (wr.setCell ⟨w.heap.size + 2, k, none⟩ (.int .u64 (iw (F4 (a + b) k)))) :=
  ⟨h.da.far (by simp) _, h.db.far (by simp) _, (h.o.put hk _).cast_ (row_ext fun i _ => gF_put (a + b) k i), h.l.setCell (by simp) _⟩
set_option maxRecDepth 100000 in
set_option maxHeartbeats 1000000 in
theorem plus_any (a b : Nat) (w : World) :
    Calls Try.prog 38 #[.agg (r64 4 (F4 a)), .agg (r64 4 (F4 b))] w fun e w' => e = .returned (.tuple #[.agg (r64 4 (F4 (a + b))), .int .u64 (iw (c64 a b 4))]) ∧ Below w.heap.size w w' := by
  have HS := Lib.hid fe_size
  have hal : Try.prog.arrayLen 24 = 4 := by kernel_rfl
  have HA := Lib.hid (addF a b)
  go_enter Try.func38, Try.ntmps38
  go_wp2_with fail
  go_loopw [5, 7] (fun v i wr => ∃ k : Nat, k ≤ 4 ∧ i = .int .i64 (k : Int) ∧ v = .int .u64 (iw (c64 a b k)) ∧ PW a b k w wr) (fun _ i _ => 4 - (intOf i).toNat)
  case atStart => exact ⟨0, by omega, rfl, c64_zero a b, ⟨((Blk.new w _ _).alloc _).alloc _, ((Blk.new (w.alloc _) _ _).cast' ⟨by simp, rfl⟩).alloc _, (Blk.new _ _ _).cast' ⟨by simp, zero4'.trans (gF_none _)⟩, (((Below.refl _ _).alloc (Nat.le_refl _) _).alloc (by simp) _).alloc (by simp; omega) _⟩⟩
  case round =>
    obtain ⟨k, hk, rfl, rfl, hr⟩ := hrel
    by_cases hlt : k < 4
    · have ca := hr.da.at_ hlt
      have cb := hr.db.at_ hlt
      have hrun := HA.out k
      have hl0 : (k : Int) < 4 := by omega
      have hl1 : (0 : Int) ≤ k := by omega
      have hw1 : IntKind.i64.wrap (k : Int) = (k : Int) := IntWalk.i64_in _ (by omega)
      go_wp2_with fail
      refine wp_region_anyL (Two 13 1000 fun f1 _ wx => PW a b (if f1 then k + 1 else k) w wx) (by kernel_rfl) hr.drew ?_
      refine anyL_take (i := 0) (v := ?_) rfl (by kernel_rfl) (by kernel_rfl) (by kernel_rfl) (yl_other (by decide) (by decide) rfl (fun f1 f2 wx hT => ?_)) ?_; rotate_left
      · refine lands_value (w := wx) ?_ hT; go_simp <;> rfl
      simp only [Act.put, List.setIfInBounds_toArray, List.set_cons_zero, List.set_cons_succ]
      refine anyL_take (i := 1) (v := ?_) rfl (by kernel_rfl) (by kernel_rfl) (by kernel_rfl) (yl_other (by decide) (by decide) rfl (fun f1 f2 wx hT => ?_)) ?_; rotate_left
      · refine lands_value (w := wx) ?_ hT; go_simp <;> rfl
      simp only [Act.put, List.setIfInBounds_toArray, List.set_cons_zero, List.set_cons_succ]
      refine anyL_take (i := 2) (v := ?_) rfl (by kernel_rfl) (by kernel_rfl) (by kernel_rfl) (yl_other (by decide) (by decide) rfl (fun f1 f2 wx hT => ?_)) ?_; rotate_left
      · refine lands_value (w := wx) ?_ hT; go_simp <;> rfl
      simp only [Act.put, List.setIfInBounds_toArray, List.set_cons_zero, List.set_cons_succ]
      refine anyL_take (i := 3) (v := ?_) rfl (by kernel_rfl) (by kernel_rfl) (by kernel_rfl) (yl_other (by decide) (by decide) rfl (fun f1 f2 wx hT => ?_)) ?_; rotate_left
      · have ca := hT.da.at_ hlt; refine lands_value (w := wx) ?_ hT; go_simp <;> rfl
      simp only [Act.put, List.setIfInBounds_toArray, List.set_cons_zero, List.set_cons_succ]
      refine anyL_take (i := 4) (v := ?_) rfl (by kernel_rfl) (by kernel_rfl) (by kernel_rfl) (yl_other (by decide) (by decide) rfl (fun f1 f2 wx hT => ?_)) ?_; rotate_left
      · refine lands_value (w := wx) ?_ hT; go_simp <;> rfl
      simp only [Act.put, List.setIfInBounds_toArray, List.set_cons_zero, List.set_cons_succ]
      refine anyL_take (i := 5) (v := ?_) rfl (by kernel_rfl) (by kernel_rfl) (by kernel_rfl) (yl_other (by decide) (by decide) rfl (fun f1 f2 wx hT => ?_)) ?_; rotate_left
      · refine lands_value (w := wx) ?_ hT; go_simp <;> rfl
      simp only [Act.put, List.setIfInBounds_toArray, List.set_cons_zero, List.set_cons_succ]
      refine anyL_take (i := 6) (v := ?_) rfl (by kernel_rfl) (by kernel_rfl) (by kernel_rfl) (yl_other (by decide) (by decide) rfl (fun f1 f2 wx hT => ?_)) ?_; rotate_left
      · have cb := hT.db.at_ hlt; refine lands_value (w := wx) ?_ hT; go_simp <;> rfl
      simp only [Act.put, List.setIfInBounds_toArray, List.set_cons_zero, List.set_cons_succ]
      refine anyL_take (i := 7) (v := ?_) rfl (by kernel_rfl) (by kernel_rfl) (by kernel_rfl) (yl_other (by decide) (by decide) rfl (fun f1 f2 wx hT => ?_)) ?_; rotate_left
      · refine lands_value (w := wx) ?_ hT; go_simp <;> rfl
      simp only [Act.put, List.setIfInBounds_toArray, List.set_cons_zero, List.set_cons_succ]
      refine anyL_take (i := 8) (v := ?_) rfl (by kernel_rfl) (by kernel_rfl) (by kernel_rfl) (yl_other (by decide) (by decide) rfl (fun f1 f2 wx hT => ?_)) ?_; rotate_left
      · refine lands_value (w := wx) ?_ hT; go_simp <;> rfl
      simp only [Act.put, List.setIfInBounds_toArray, List.set_cons_zero, List.set_cons_succ]
      refine anyL_take (i := 9) (v := ?_) rfl (by kernel_rfl) (by kernel_rfl) (by kernel_rfl) (yl_other (by decide) (by decide) rfl (fun f1 f2 wx hT => ?_)) ?_; rotate_left
      · refine lands_value (w := wx) ?_ hT; go_simp <;> rfl
      simp only [Act.put, List.setIfInBounds_toArray, List.set_cons_zero, List.set_cons_succ]
      refine anyL_take (i := 10) (v := ?_) rfl (by kernel_rfl) (by kernel_rfl) (by kernel_rfl) (yl_other (by decide) (by decide) rfl (fun f1 f2 wx hT => ?_)) ?_; rotate_left
      · refine lands_value (w := wx) ?_ hT; go_simp <;> rfl
      simp only [Act.put, List.setIfInBounds_toArray, List.set_cons_zero, List.set_cons_succ]
      refine anyL_take (i := 11) (v := ?_) rfl (by kernel_rfl) (by kernel_rfl) (by kernel_rfl) (yl_other (by decide) (by decide) rfl (fun f1 f2 wx hT => ?_)) ?_; rotate_left
      · refine lands_value (w := wx) ?_ hT; go_simp <;> rfl
      simp only [Act.put, List.setIfInBounds_toArray, List.set_cons_zero, List.set_cons_succ]
      refine anyL_take (i := 12) (v := ?_) rfl (by kernel_rfl) (by kernel_rfl) (by kernel_rfl) (yl_other (by decide) (by decide) rfl (fun f1 f2 wx hT => ?_)) ?_; rotate_left
      · refine lands_value (w := wx) ?_ hT; go_simp <;> rfl
      simp only [Act.put, List.setIfInBounds_toArray, List.set_cons_zero, List.set_cons_succ]
      refine anyL_take (i := 13) (v := undef) rfl (by kernel_rfl) (by kernel_rfl) (by kernel_rfl) (yl_first (by decide) rfl (fun f2 wx hT => ?_)) ?_
      · have co := hT.o.at_ hlt; have fo := hT.o.frozen k; have K := hT.put hlt; go_simp; exact ⟨rfl, K⟩
      simp only [Act.put]
      refine anyL_take (i := 14) (v := ?_) rfl (by kernel_rfl) (by kernel_rfl) (by kernel_rfl) (yl_other (by decide) (by decide) rfl (fun f1 f2 wx hT => ?_)) ?_; rotate_left
      · refine lands_value (w := wx) ?_ hT; go_simp <;> rfl
      simp only [Act.put, List.setIfInBounds_toArray, List.set_cons_zero, List.set_cons_succ]
      refine anyL_done (by kernel_rfl) (fun w3 (K : PW a b (k + 1) w w3) => ?_) _
      clear hr ca cb hrun hl0 hl1 hw1
      go_wp2_with fail
      go_roundw
      case rel => exact ⟨k + 1, by omega, by go_num, rfl, K⟩
      case measure => simp [intOf]; omega
    · obtain rfl : k = 4 := by omega
      have ho := hr.o.cast_ (gF_all (a + b))
      have hl := hr.l
      clear hr
      go_wp2_with (first
        | (refine wpList_load_row rfl 24 _ rfl (w.heap.size + 2) rfl 24 _ (0, 0) _ ho Try.underlying24 rfl (HS.out _) ?_)
        | (refine wpList_store_row rfl 24 _ _ rfl (w.heap.size + 2) (r64 4 (F4 (a + b))) rfl rfl 24 _ ho (HS.out _) rfl (row_one fun _ => rfl) ?_))
      exact bodyPost_ret (results_cell_row_slot rfl _ _ (w.heap.size + 2) 24 (r64 4 (F4 (a + b))) (0, 0) _ _ rfl (ho.row_ _) Try.underlying24 rfl (HS.out _) rfl) rfl ⟨rfl, below_setRow' hl (by omega) _⟩
end Go.Proofs.Ytjggclhhimccoaa
