/- read of the layer scalar. -/
import Derived.Test.YtnfcgpoafmmioaaLc
namespace Go.Proofs.Ytnfcgpoafmmioaa
open Go.RowKit
theorem wpList_valQ {ops : Array Oper} {Q : Exit → Act → World → Prop} {R : World → Prop} {o : Oper} {rest : List Oper} {a : Act} {w : World} (v : Value) (hg : o.guard = none) (h : Lands Try.prog R v ((execOp a.eval o).run Try.prog w)) (k : ∀ w', R w' → wpList Try.prog ops Q rest (a.put o.dst v) w') : wpList Try.prog ops Q (o :: rest) a w :=
  wpList_plain hg fun _ hK => h.upon fun w' hR => hK _ _ (k w' hR)
/-- The builtin min of two numbers, in one way. -/
theorem lands_min2 {o : Oper} {a : Act} {w : World} (x y : Operand) (n k : Nat) (ho : o.op = .call { callee := .builtin .min, args := #[x, y], argTypes := #[3, 3] }) (ht : o.type = 3) (hx : a.eval x = .int .i64 (n : Int)) (hy : a.eval y = .int .i64 (k : Int)) :
    Lands Try.prog (fun w' => w' = w) (.int .i64 ((min n k : Nat) : Int)) ((execOp a.eval o).run Try.prog w) := by
  refine lands_value (w := w) ?_ rfl
  simp [execOp, ho, ht, hx, hy, resolve, invoke, builtin]
  by_cases h : n ≤ k
  · rw [show min n k = n by omega]
    have h2 : (n : Int) ≤ k := by omega
    go_simp
    intro; omega
  · rw [show min n k = k by omega]
    have h' : (k : Int) < n := by omega
    go_simp
/-- Within read: the number so far. -/
structure RnW (s : ByteArray) (k : Nat) (w wr : World) : Prop where
  o : Blk wr w.heap.size 42 (r64 8 (F4 (bv (byteS s) k)))
  l : Below w.heap.size w wr
theorem RnW.drew {s : ByteArray} {k : Nat} {w wr : World} (h : RnW s k w wr) : RnW s k w wr.drew := ⟨h.o, h.l.drew⟩
theorem RnW.put {s : ByteArray} {k q r : Nat} {w wr : World} (h : RnW s k w wr) (hk : k = 8 * q + r) (hr : r < 8) (hq : q < 8) : RnW s (k + 1) w (wr.setCell ⟨w.heap.size, q, none⟩ (.int .u64 (iw (orw (F4 (bv (byteS s) k) q) (shlw (nw (byteS s k)) (8 * r)))))) :=
  ⟨(h.o.put hq _).cast_ (row_ext fun i hi => by
    subst hk
    by_cases h1 : i = q
    · subst h1; rw [if_pos rfl, bv_word _ (byteS_lt s) _ _ hr]
    · rw [if_neg h1, bv_other _ (byteS_lt s) q r i hr h1]), h.l.setCell (by simp) _⟩
theorem zero8z : #[Value.int .u64 0, .int .u64 0, .int .u64 0, .int .u64 0, .int .u64 0, .int .u64 0, .int .u64 0, .int .u64 0] = r64 8 zW := by
  have : r64 8 zW = row 8 (fun _ => Value.int .u64 0) := row_ext fun i _ => by show Value.int .u64 (iw (litw 64 0)) = _; rw [iw_zero]
  rw [this]; rfl
theorem bv_none8 (f : Nat → Nat) : r64 8 zW = r64 8 (F4 (bv f 0)) := row_ext fun i _ => by
  show _ = Value.int .u64 (iw (F4 0 i)); rw [F4_zero]; rfl
set_option maxRecDepth 100000 in
set_option maxHeartbeats 4000000 in
theorem qread_any (s : ByteArray) (m : Nat) (hm : m ≤ 64) (w : World) :
    Calls Try.prog 24 #[.string s, .int .i64 (m : Int)] w fun e w' => e = .returned (.agg (r64 8 (F4 (numV s m)))) ∧ Below w.heap.size w w' := by
  have HS := Lib.hid wide_size
  have hal : Try.prog.arrayLen 42 = 8 := by kernel_rfl
  obtain ⟨c, hcd⟩ : ∃ c, c = min s.size m := ⟨_, rfl⟩
  have HM : Hid (c = min s.size m) := Lib.hid hcd
  have hcs : c ≤ s.size := by omega
  have hc64 : c ≤ 64 := by omega
  have HV : Hid (numV s m = bv (byteS s) c) := Lib.hid (by unfold numV; rw [← hcd])
  have K0 : RnW s 0 w (w.alloc (.cells #[.int .u64 0, .int .u64 0, .int .u64 0, .int .u64 0, .int .u64 0, .int .u64 0, .int .u64 0, .int .u64 0] 42)) := ⟨(Blk.new w _ _).cast_ (zero8z.trans (bv_none8 _)), (Below.refl _ _).alloc (Nat.le_refl _) _⟩
  clear hcd hm
  go_enter Try.func24, Try.ntmps24
  go_wp2_with (refine wpList_valQ (R := fun w' => w' = _) (.int .i64 (c : Int)) rfl (by rw [HM.out]; exact lands_min2 (.tmp 7) (.tmp 8) s.size m rfl rfl rfl rfl) ?_; intro w' hw'; rw [hw']; clear hw')
  go_loopw [10] (fun i wr => ∃ k : Nat, k ≤ c ∧ i = .int .i64 (k : Int) ∧ RnW s k w wr) (fun i _ => c - (intOf i).toNat)
  case atStart => exact ⟨0, by omega, rfl, K0⟩
  case round =>
    obtain ⟨k, hk, rfl, hr⟩ := hrel
    clear K0
    by_cases hlt : k < c
    · obtain ⟨q, hqd⟩ : ∃ q, q = k / 8 := ⟨_, rfl⟩
      obtain ⟨r, hrd⟩ : ∃ r, r = k % 8 := ⟨_, rfl⟩
      have hq8 : q < 8 := by omega
      have hq4 : q < 8 := by omega
      have hr8' : r < 8 := by omega
      have hq : (k : Int).tdiv 8 = (q : Int) := by rw [Int.tdiv_eq_ediv_of_nonneg (by omega)]; omega
      have hr8 : (k : Int).tmod 8 = (r : Int) := by rw [Int.tmod_eq_emod_of_nonneg (by omega)]; omega
      have hks : k < s.size := by omega
      have HB := Lib.hid (byteS_at s k hks)
      have hb256 := byteS_lt s k
      have hkq : k = 8 * q + r := by omega
      have HPUT : Hid (∀ wx, RnW s k w wx → RnW s (k + 1) w (wx.setCell ⟨w.heap.size, q, none⟩ (.int .u64 (iw (orw (F4 (bv (byteS s) k) q) (shlw (nw (byteS s k)) (8 * r))))))) := Lib.hid (fun wx hx => hx.put hkq hr8' hq8)
      have hl0 : (q : Int) < 8 := by omega
      have hl1 : (0 : Int) ≤ q := by omega
      clear hqd hrd hkq
      go_wp2_with fail
      refine wp_region_anyL (Two 14 1000 fun f1 _ wx => RnW s (if f1 then k + 1 else k) w wx) (by kernel_rfl) hr.drew ?_
      refine anyL_take (i := 0) (v := ?_) rfl (by kernel_rfl) (by kernel_rfl) (by kernel_rfl) (yl_other (by decide) (by decide) rfl (fun f1 f2 wx hT => ?_)) ?_; rotate_left
      · refine lands_value (w := wx) ?_ hT; go_simp <;> rfl
      simp only [Act.put, List.setIfInBounds_toArray, List.set_cons_zero, List.set_cons_succ]
      refine anyL_take (i := 1) (v := .int .i64 (q : Int)) rfl (by kernel_rfl) (by kernel_rfl) (by kernel_rfl) (yl_other (by decide) (by decide) rfl (fun f1 f2 wx hT => ?_)) ?_
      · refine lands_value (w := wx) ?_ hT; go_simp; exact IntWalk.i64_in _ (by omega)
      simp only [Act.put, List.setIfInBounds_toArray, List.set_cons_zero, List.set_cons_succ]
      refine anyL_take (i := 2) (v := ?_) rfl (by kernel_rfl) (by kernel_rfl) (by kernel_rfl) (yl_other (by decide) (by decide) rfl (fun f1 f2 wx hT => ?_)) ?_; rotate_left
      · refine lands_value (w := wx) ?_ hT; go_simp <;> rfl
      simp only [Act.put, List.setIfInBounds_toArray, List.set_cons_zero, List.set_cons_succ]
      refine anyL_take (i := 3) (v := .int .u64 (iw (F4 (bv (byteS s) k) q))) rfl (by kernel_rfl) (by kernel_rfl) (by kernel_rfl) (yl_ahead (n := 9) (by decide) (by decide) (by kernel_rfl) rfl (fun f2 wx hT => ?_)) ?_
      · have c0 := hT.o.at_ hq4; refine lands_value (w := wx) ?_ hT; go_simp; skip
      simp only [Act.put, List.setIfInBounds_toArray, List.set_cons_zero, List.set_cons_succ]
      refine anyL_take (i := 4) (v := ?_) rfl (by kernel_rfl) (by kernel_rfl) (by kernel_rfl) (yl_other (by decide) (by decide) rfl (fun f1 f2 wx hT => ?_)) ?_; rotate_left
      · refine lands_value (w := wx) ?_ hT; go_simp <;> rfl
      simp only [Act.put, List.setIfInBounds_toArray, List.set_cons_zero, List.set_cons_succ]
      refine anyL_take (i := 5) (v := ?_) rfl (by kernel_rfl) (by kernel_rfl) (by kernel_rfl) (yl_other (by decide) (by decide) rfl (fun f1 f2 wx hT => ?_)) ?_; rotate_left
      · refine lands_value (w := wx) ?_ hT; go_simp <;> rfl
      simp only [Act.put, List.setIfInBounds_toArray, List.set_cons_zero, List.set_cons_succ]
      refine anyL_take (i := 6) (v := .int .u8 (byteS s k : Int)) rfl (by kernel_rfl) (by kernel_rfl) (by kernel_rfl) (yl_other (by decide) (by decide) rfl (fun f1 f2 wx hT => ?_)) ?_
      · refine lands_value (w := wx) ?_ hT; go_simp; rw [HB.out]
      simp only [Act.put, List.setIfInBounds_toArray, List.set_cons_zero, List.set_cons_succ]
      refine anyL_take (i := 7) (v := .int .u64 (iw (nw (byteS s k)))) rfl (by kernel_rfl) (by kernel_rfl) (by kernel_rfl) (yl_other (by decide) (by decide) rfl (fun f1 f2 wx hT => ?_)) ?_
      · refine lands_value (w := wx) ?_ hT; go_simp; unfold iw; rw [nw_nat _ (by unfold W64; omega), IntKind.wrap_u64]; omega
      simp only [Act.put, List.setIfInBounds_toArray, List.set_cons_zero, List.set_cons_succ]
      refine anyL_take (i := 8) (v := ?_) rfl (by kernel_rfl) (by kernel_rfl) (by kernel_rfl) (yl_other (by decide) (by decide) rfl (fun f1 f2 wx hT => ?_)) ?_; rotate_left
      · refine lands_value (w := wx) ?_ hT; go_simp <;> rfl
      simp only [Act.put, List.setIfInBounds_toArray, List.set_cons_zero, List.set_cons_succ]
      refine anyL_take (i := 9) (v := .int .i64 (r : Int)) rfl (by kernel_rfl) (by kernel_rfl) (by kernel_rfl) (yl_other (by decide) (by decide) rfl (fun f1 f2 wx hT => ?_)) ?_
      · refine lands_value (w := wx) ?_ hT; go_simp; skip
      simp only [Act.put, List.setIfInBounds_toArray, List.set_cons_zero, List.set_cons_succ]
      refine anyL_take (i := 10) (v := .int .i64 ((8 * r : Nat) : Int)) rfl (by kernel_rfl) (by kernel_rfl) (by kernel_rfl) (yl_other (by decide) (by decide) rfl (fun f1 f2 wx hT => ?_)) ?_
      · refine lands_value (w := wx) ?_ hT; go_simp; rw [IntWalk.i64_in _ (by omega)]; omega
      simp only [Act.put, List.setIfInBounds_toArray, List.set_cons_zero, List.set_cons_succ]
      refine anyL_take (i := 11) (v := .int .u64 (iw (shlw (nw (byteS s k)) (8 * r)))) rfl (by kernel_rfl) (by kernel_rfl) (by kernel_rfl) (yl_other (by decide) (by decide) rfl (fun f1 f2 wx hT => ?_)) ?_
      · refine lands_value (w := wx) ?_ hT; go_simp; rw [show (8 * (r : Int)).toNat = 8 * r by omega]
      simp only [Act.put, List.setIfInBounds_toArray, List.set_cons_zero, List.set_cons_succ]
      refine anyL_take (i := 12) (v := .int .u64 (iw (orw (F4 (bv (byteS s) k) q) (shlw (nw (byteS s k)) (8 * r))))) rfl (by kernel_rfl) (by kernel_rfl) (by kernel_rfl) (yl_other (by decide) (by decide) rfl (fun f1 f2 wx hT => ?_)) ?_
      · refine lands_value (w := wx) ?_ hT; go_simp; skip
      simp only [Act.put, List.setIfInBounds_toArray, List.set_cons_zero, List.set_cons_succ]
      refine anyL_take (i := 13) (v := ?_) rfl (by kernel_rfl) (by kernel_rfl) (by kernel_rfl) (yl_other (by decide) (by decide) rfl (fun f1 f2 wx hT => ?_)) ?_; rotate_left
      · refine lands_value (w := wx) ?_ hT; go_simp <;> rfl
      simp only [Act.put, List.setIfInBounds_toArray, List.set_cons_zero, List.set_cons_succ]
      refine anyL_take (i := 14) (v := undef) rfl (by kernel_rfl) (by kernel_rfl) (by kernel_rfl) (yl_first (by decide) rfl (fun f2 wx hT => ?_)) ?_
      · have co := hT.o.at_ hq4; have fo := hT.o.frozen q; have K := HPUT.out _ hT; go_simp; exact ⟨rfl, K⟩
      simp only [Act.put]
      refine anyL_done (by kernel_rfl) (fun w3 (K : RnW s (k + 1) w w3) => ?_) _
      clear hr HPUT hq hr8
      go_wp2_with fail
      go_roundw
      case rel => exact ⟨k + 1, by omega, by go_num, K⟩
      case measure => simp [intOf]; omega
    · obtain rfl : k = c := by omega
      have ho := hr.o
      have hl := hr.l
      clear hr HM
      generalize bv (byteS s) k = n at HV ho
      go_wp2_with (first
        | (refine wpList_load_row rfl 42 _ rfl w.heap.size rfl 42 _ (0, 0) _ ho Try.underlying42 rfl (HS.out _) ?_)
        | (refine wpList_store_row rfl 42 _ _ rfl w.heap.size (r64 8 (F4 n)) rfl rfl 42 _ ho (HS.out _) (by simp only [row_size]) (row_one fun _ => rfl) ?_))
      exact bodyPost_ret (results_cell_row rfl _ _ w.heap.size 42 (r64 8 (F4 n)) (0, 0) _ rfl (ho.row_ _) Try.underlying42 rfl (HS.out _)) rfl ⟨by rw [HV.out], below_setRow' hl (by omega) _⟩
end Go.Proofs.Ytnfcgpoafmmioaa
