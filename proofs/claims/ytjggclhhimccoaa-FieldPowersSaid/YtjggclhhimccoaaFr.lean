/- The document's answer to chapter 3: Right, Make, Bytes. -/
import Derived.Test.YtjggclhhimccoaaGv
import Derived.Test.YtjggclhhimccoaaGp
import Derived.Test.YtjggclhhimccoaaFi
namespace Go.Proofs.Ytjggclhhimccoaa
open Go.RowKit
set_option maxRecDepth 100000 in
set_option maxHeartbeats 1000000 in
theorem rright_any (a : Nat) (w : World) (ha : a < M256) (c : Bool) (hc : decide (a % pP = a) = c) :
    Calls Try.prog 23 #[.agg (r64 4 (F4 a))] w fun e w' => e = .returned (.bool c) ∧ Below w.heap.size w w' := by
  have L0 := KF.start1 a w
  have HC := Lib.hid hc
  clear hc
  go_enter Try.func23, Try.ntmps23
  go_wp2_with fail
  refine wp_gen (KF w.heap.size w [(w.heap.size, F4 a)]) L0 (fun w1 h1 => ?_)
  clear L0
  refine wp_region_anyL (Two 1000 1001 fun _ _ wx => KF w.heap.size w [(w.heap.size, F4 a)] wx) (by kernel_rfl) h1.drew ?_
  refine anyL_take (i := 0) (v := .agg (r64 4 (F4 a))) rfl (by kernel_rfl) (by kernel_rfl) (by kernel_rfl) (yl_other (by decide) (by decide) rfl (fun f1 f2 wx hT => ?_)) ?_
  · exact lands_fe _ rfl _ rfl _ (hT.blk _ m0) hT
  simp only [Act.put, List.setIfInBounds_toArray, List.set_cons_zero, List.set_cons_succ]
  refine anyL_take (i := 1) (v := .agg (r32 8 (N8 (a % pP)))) rfl (by kernel_rfl) (by kernel_rfl) (by kernel_rfl) (yl_other (by decide) (by decide) rfl (fun f1 f2 wx hT => ?_)) ?_
  · exact lands_calls (w := wx) ((digits_any a wx ha).mono fun _ _ ⟨he, hb⟩ => ⟨he, hT.below hb⟩) (by go_simp)
  simp only [Act.put, List.setIfInBounds_toArray, List.set_cons_zero, List.set_cons_succ]
  refine anyL_take (i := 2) (v := .agg (r64 4 (F4 (a % pP)))) rfl (by kernel_rfl) (by kernel_rfl) (by kernel_rfl) (yl_other (by decide) (by decide) rfl (fun f1 f2 wx hT => ?_)) ?_
  · exact lands_calls (w := wx) ((words_any (a % pP) wx).mono fun _ _ ⟨he, hb⟩ => ⟨he, hT.below hb⟩) (by go_simp)
  simp only [Act.put, List.setIfInBounds_toArray, List.set_cons_zero, List.set_cons_succ]
  refine anyL_take (i := 3) (v := .agg (r64 4 (F4 a))) rfl (by kernel_rfl) (by kernel_rfl) (by kernel_rfl) (yl_other (by decide) (by decide) rfl (fun f1 f2 wx hT => ?_)) ?_
  · exact lands_fe _ rfl _ rfl _ (hT.blk _ m0) hT
  simp only [Act.put, List.setIfInBounds_toArray, List.set_cons_zero, List.set_cons_succ]
  refine anyL_take (i := 4) (v := .bool c) rfl (by kernel_rfl) (by kernel_rfl) (by kernel_rfl) (yl_other (by decide) (by decide) rfl (fun f1 f2 wx hT => ?_)) ?_
  · exact lands_eql _ _ rfl (a % pP) a rfl rfl (mod_lt_M _) ha c HC.out hT
  simp only [Act.put, List.setIfInBounds_toArray, List.set_cons_zero, List.set_cons_succ]
  refine anyL_take (i := 5) (v := ?_) rfl (by kernel_rfl) (by kernel_rfl) (by kernel_rfl) (yl_other (by decide) (by decide) rfl (fun f1 f2 wx hT => ?_)) ?_; rotate_left
  · refine lands_value (w := wx) ?_ hT; go_simp <;> rfl
  simp only [Act.put, List.setIfInBounds_toArray, List.set_cons_zero, List.set_cons_succ]
  refine anyL_done (by kernel_rfl) (fun w3 (K : KF w.heap.size w [(w.heap.size, F4 a)] w3) => ?_) _
  go_wp2_with fail
  go_ret
  exact ⟨rfl, K.b⟩
theorem rright_true (a : Nat) (w : World) (ha : a < M256) (h : a % pP = a) :
    Calls Try.prog 23 #[.agg (r64 4 (F4 a))] w fun e w' => e = .returned (.bool true) ∧ Below w.heap.size w w' := rright_any a w ha true (decide_eq_true h)
theorem rright_false (a : Nat) (w : World) (ha : a < M256) (h : ¬ a % pP = a) :
    Calls Try.prog 23 #[.agg (r64 4 (F4 a))] w fun e w' => e = .returned (.bool false) ∧ Below w.heap.size w w' := rright_any a w ha false (decide_eq_false h)
set_option maxRecDepth 100000 in
set_option maxHeartbeats 2000000 in
theorem rmake_short (s : ByteArray) (w : World) (h : ¬ s.size = 32) :
    Calls Try.prog 21 #[.string s] w fun e w' => e = .returned (.tuple #[.agg (r64 4 (F4 0)), .bool false]) ∧ Below w.heap.size w w' := by
  have HS := Lib.hid fe_size
  have hc : ((s.size : Int) != 32) = true := by rw [bne_iff_ne]; omega
  have hb := builtE
  have Z0 : Blk (w.alloc (.cells #[.int .u64 0, .int .u64 0, .int .u64 0, .int .u64 0] 24)) w.heap.size 24 (r64 4 zF) := (Blk.new w _ _).cast_ zero4'
  go_enter Try.func21, Try.ntmps21
  go_wp2_with (refine wpList_store_row rfl 24 _ _ rfl w.heap.size (r64 4 (F4 0)) rfl (congrArg Value.agg zero4F) 24 _ Z0 (HS.out _) (by simp only [row_size]) (row_one fun _ => rfl) ?_)
  exact bodyPost_ret (results_cell_row_slot rfl _ _ w.heap.size 24 (r64 4 (F4 0)) (0, 0) _ _ rfl (Z0.row_ _) Try.underlying24 rfl (HS.out _) rfl) rfl ⟨rfl, below_setRow' ((Below.refl _ _).alloc (Nat.le_refl _) _) (by omega) _⟩
set_option maxRecDepth 100000 in
set_option maxHeartbeats 4000000 in
theorem rmake_long (s : ByteArray) (w : World) (h : s.size = 32) :
    Calls Try.prog 21 #[.string s] w fun e w' => e = .returned (.tuple #[.agg (r64 4 (F4 (makeV s).1)), .bool (makeV s).2]) ∧ Below w.heap.size w w' := by
  have HS := Lib.hid fe_size
  have hc : ((s.size : Int) != 32) = false := by rw [h]; rfl
  have hb := builtE
  have H := Lib.hid h
  have hal : Try.prog.arrayLen 24 = 4 := by kernel_rfl
  clear h
  go_enter Try.func21, Try.ntmps21
  go_wp2_with fail
  clear hc
  go_loopw [5] (fun i wr => ∃ k : Nat, k ≤ 32 ∧ i = .int .i64 (k : Int) ∧ MkW s k w wr) (fun i _ => 32 - (intOf i).toNat)
  case atStart => exact ⟨0, by omega, rfl, ⟨((Blk.new w _ _).alloc _).cast_ zero4', (Blk.new _ _ _).cast' ⟨by simp, zero4'.trans (bv_zero _)⟩, ((Below.refl _ _).alloc (Nat.le_refl _) _).alloc (by simp) _⟩⟩
  case round =>
    obtain ⟨k, hk, rfl, hr⟩ := hrel
    by_cases hlt : k < 32
    · obtain ⟨q, hqd⟩ : ∃ q, q = k / 8 := ⟨_, rfl⟩
      obtain ⟨r, hrd⟩ : ∃ r, r = k % 8 := ⟨_, rfl⟩
      have hq4 : q < 4 := by omega
      have hr8' : r < 8 := by omega
      have hq : (k : Int).tdiv 8 = (q : Int) := by rw [Int.tdiv_eq_ediv_of_nonneg (by omega)]; omega
      have hr8 : (k : Int).tmod 8 = (r : Int) := by rw [Int.tmod_eq_emod_of_nonneg (by omega)]; omega
      have hks : k < s.size := by rw [H.out]; exact hlt
      have HB := Lib.hid (byteS_at s k hks)
      have hb256 := byteS_lt s k
      have hkq : k = 8 * q + r := by omega
      have HPUT : Hid (∀ wx, MkW s k w wx → MkW s (k + 1) w (wx.setCell ⟨w.heap.size + 1, q, none⟩ (.int .u64 (iw (orw (F4 (bv (byteS s) k) q) (shlw (nw (byteS s k)) (8 * r))))))) := Lib.hid (fun wx hx => hx.put hkq hr8' hq4)
      have hl0 : (q : Int) < 4 := by omega
      have hl1 : (0 : Int) ≤ q := by omega
      clear hqd hrd hkq
      go_wp2_with fail
      refine wp_region_anyL (Two 16 1000 fun f1 _ wx => MkW s (if f1 then k + 1 else k) w wx) (by kernel_rfl) hr.drew ?_
      refine anyL_take (i := 0) (v := ?_) rfl (by kernel_rfl) (by kernel_rfl) (by kernel_rfl) (yl_other (by decide) (by decide) rfl (fun f1 f2 wx hT => ?_)) ?_; rotate_left
      · refine lands_value (w := wx) ?_ hT; go_simp <;> rfl
      simp only [Act.put, List.setIfInBounds_toArray, List.set_cons_zero, List.set_cons_succ]
      refine anyL_take (i := 1) (v := .int .i64 (q : Int)) rfl (by kernel_rfl) (by kernel_rfl) (by kernel_rfl) (yl_other (by decide) (by decide) rfl (fun f1 f2 wx hT => ?_)) ?_
      · refine lands_value (w := wx) ?_ hT; go_simp; exact IntWalk.i64_in _ (by omega)
      simp only [Act.put, List.setIfInBounds_toArray, List.set_cons_zero, List.set_cons_succ]
      refine anyL_take (i := 2) (v := ?_) rfl (by kernel_rfl) (by kernel_rfl) (by kernel_rfl) (yl_other (by decide) (by decide) rfl (fun f1 f2 wx hT => ?_)) ?_; rotate_left
      · refine lands_value (w := wx) ?_ hT; go_simp <;> rfl
      simp only [Act.put, List.setIfInBounds_toArray, List.set_cons_zero, List.set_cons_succ]
      refine anyL_take (i := 3) (v := .int .i64 (q : Int)) rfl (by kernel_rfl) (by kernel_rfl) (by kernel_rfl) (yl_other (by decide) (by decide) rfl (fun f1 f2 wx hT => ?_)) ?_
      · refine lands_value (w := wx) ?_ hT; go_simp; exact IntWalk.i64_in _ (by omega)
      simp only [Act.put, List.setIfInBounds_toArray, List.set_cons_zero, List.set_cons_succ]
      refine anyL_take (i := 4) (v := ?_) rfl (by kernel_rfl) (by kernel_rfl) (by kernel_rfl) (yl_other (by decide) (by decide) rfl (fun f1 f2 wx hT => ?_)) ?_; rotate_left
      · refine lands_value (w := wx) ?_ hT; go_simp <;> rfl
      simp only [Act.put, List.setIfInBounds_toArray, List.set_cons_zero, List.set_cons_succ]
      refine anyL_take (i := 5) (v := .int .u64 (iw (F4 (bv (byteS s) k) q))) rfl (by kernel_rfl) (by kernel_rfl) (by kernel_rfl) (yl_ahead (n := 9) (by decide) (by decide) (by kernel_rfl) rfl (fun f2 wx hT => ?_)) ?_
      · have c0 := hT.o.at_ hq4; refine lands_value (w := wx) ?_ hT; go_simp; skip
      simp only [Act.put, List.setIfInBounds_toArray, List.set_cons_zero, List.set_cons_succ]
      refine anyL_take (i := 6) (v := ?_) rfl (by kernel_rfl) (by kernel_rfl) (by kernel_rfl) (yl_other (by decide) (by decide) rfl (fun f1 f2 wx hT => ?_)) ?_; rotate_left
      · refine lands_value (w := wx) ?_ hT; go_simp <;> rfl
      simp only [Act.put, List.setIfInBounds_toArray, List.set_cons_zero, List.set_cons_succ]
      refine anyL_take (i := 7) (v := ?_) rfl (by kernel_rfl) (by kernel_rfl) (by kernel_rfl) (yl_other (by decide) (by decide) rfl (fun f1 f2 wx hT => ?_)) ?_; rotate_left
      · refine lands_value (w := wx) ?_ hT; go_simp <;> rfl
      simp only [Act.put, List.setIfInBounds_toArray, List.set_cons_zero, List.set_cons_succ]
      refine anyL_take (i := 8) (v := .int .u8 (byteS s k : Int)) rfl (by kernel_rfl) (by kernel_rfl) (by kernel_rfl) (yl_other (by decide) (by decide) rfl (fun f1 f2 wx hT => ?_)) ?_
      · refine lands_value (w := wx) ?_ hT; go_simp; rw [HB.out]
      simp only [Act.put, List.setIfInBounds_toArray, List.set_cons_zero, List.set_cons_succ]
      refine anyL_take (i := 9) (v := .int .u64 (iw (nw (byteS s k)))) rfl (by kernel_rfl) (by kernel_rfl) (by kernel_rfl) (yl_other (by decide) (by decide) rfl (fun f1 f2 wx hT => ?_)) ?_
      · refine lands_value (w := wx) ?_ hT; go_simp; unfold iw; rw [nw_nat _ (by unfold W64; omega), IntKind.wrap_u64]; omega
      simp only [Act.put, List.setIfInBounds_toArray, List.set_cons_zero, List.set_cons_succ]
      refine anyL_take (i := 10) (v := ?_) rfl (by kernel_rfl) (by kernel_rfl) (by kernel_rfl) (yl_other (by decide) (by decide) rfl (fun f1 f2 wx hT => ?_)) ?_; rotate_left
      · refine lands_value (w := wx) ?_ hT; go_simp <;> rfl
      simp only [Act.put, List.setIfInBounds_toArray, List.set_cons_zero, List.set_cons_succ]
      refine anyL_take (i := 11) (v := .int .i64 (r : Int)) rfl (by kernel_rfl) (by kernel_rfl) (by kernel_rfl) (yl_other (by decide) (by decide) rfl (fun f1 f2 wx hT => ?_)) ?_
      · refine lands_value (w := wx) ?_ hT; go_simp; skip
      simp only [Act.put, List.setIfInBounds_toArray, List.set_cons_zero, List.set_cons_succ]
      refine anyL_take (i := 12) (v := .int .i64 ((8 * r : Nat) : Int)) rfl (by kernel_rfl) (by kernel_rfl) (by kernel_rfl) (yl_other (by decide) (by decide) rfl (fun f1 f2 wx hT => ?_)) ?_
      · refine lands_value (w := wx) ?_ hT; go_simp; rw [IntWalk.i64_in _ (by omega)]
      simp only [Act.put, List.setIfInBounds_toArray, List.set_cons_zero, List.set_cons_succ]
      refine anyL_take (i := 13) (v := .int .u64 (iw (shlw (nw (byteS s k)) (8 * r)))) rfl (by kernel_rfl) (by kernel_rfl) (by kernel_rfl) (yl_other (by decide) (by decide) rfl (fun f1 f2 wx hT => ?_)) ?_
      · refine lands_value (w := wx) ?_ hT; go_simp; rw [show (8 * (r : Int)).toNat = 8 * r by omega]
      simp only [Act.put, List.setIfInBounds_toArray, List.set_cons_zero, List.set_cons_succ]
      refine anyL_take (i := 14) (v := .int .u64 (iw (orw (F4 (bv (byteS s) k) q) (shlw (nw (byteS s k)) (8 * r))))) rfl (by kernel_rfl) (by kernel_rfl) (by kernel_rfl) (yl_other (by decide) (by decide) rfl (fun f1 f2 wx hT => ?_)) ?_
      · refine lands_value (w := wx) ?_ hT; go_simp; skip
      simp only [Act.put, List.setIfInBounds_toArray, List.set_cons_zero, List.set_cons_succ]
      refine anyL_take (i := 15) (v := ?_) rfl (by kernel_rfl) (by kernel_rfl) (by kernel_rfl) (yl_other (by decide) (by decide) rfl (fun f1 f2 wx hT => ?_)) ?_; rotate_left
      · refine lands_value (w := wx) ?_ hT; go_simp <;> rfl
      simp only [Act.put, List.setIfInBounds_toArray, List.set_cons_zero, List.set_cons_succ]
      refine anyL_take (i := 16) (v := undef) rfl (by kernel_rfl) (by kernel_rfl) (by kernel_rfl) (yl_first (by decide) rfl (fun f2 wx hT => ?_)) ?_
      · have co := hT.o.at_ hq4; have fo := hT.o.frozen q; have K := HPUT.out _ hT; go_simp; exact ⟨rfl, K⟩
      simp only [Act.put]
      refine anyL_done (by kernel_rfl) (fun w3 (K : MkW s (k + 1) w w3) => ?_) _
      clear hr HPUT hq hr8
      go_wp2_with fail
      go_roundw
      case rel => exact ⟨k + 1, by omega, by go_num, K⟩
      case measure => simp [intOf]; omega
    · obtain rfl : k = 32 := by omega
      have hl := bv_ltM s
      have ho := hr.o
      have hz := hr.r
      have hL := hr.l
      clear hr
      by_cases c : bv (byteS s) 32 % pP = bv (byteS s) 32
      · have HV : Hid (makeV s = (bv (byteS s) 32, true)) := Lib.hid (by unfold makeV; rw [if_pos H.out, if_pos c])
        have CR := Lib.hid (fun w => rright_true (bv (byteS s) 32) w hl c)
        clear c hlt hk
        generalize bv (byteS s) 32 = n at HV CR ho hl
        go_wp2_with (refine wpList_load_row rfl 24 _ rfl (w.heap.size + 1) rfl 24 _ (0, 0) _ ho Try.underlying24 rfl (HS.out _) ?_)
        refine (CR.out _).mono ?_
        rintro e w3 ⟨rfl, hq⟩
        have ho3 := ho.below hq ho.lt
        have hz3 := hz.below hq hz.lt
        have hL3 := hL.trans (hq.mono hL.size)
        clear ho hz hL hq CR
        go_wp2_with (first
          | (refine wpList_load_row rfl 24 _ rfl (w.heap.size + 1) rfl 24 _ (0, 0) _ ho3 Try.underlying24 rfl (HS.out _) ?_)
          | (refine wpList_store_row rfl 24 _ _ rfl w.heap.size (r64 4 (F4 n)) rfl rfl 24 _ hz3 (HS.out _) (by simp only [row_size]) (row_one fun _ => rfl) ?_))
        exact bodyPost_ret (results_cell_row_slot rfl _ _ w.heap.size 24 (r64 4 (F4 n)) (0, 0) _ _ rfl (hz3.row_ _) Try.underlying24 rfl (HS.out _) rfl) rfl ⟨by rw [HV.out]; rfl, below_setRow' hL3 (by omega) _⟩
      · have HV : Hid (makeV s = (0, false)) := Lib.hid (by unfold makeV; rw [if_pos H.out, if_neg c])
        have CR := Lib.hid (fun w => rright_false (bv (byteS s) 32) w hl c)
        clear c hlt hk
        generalize bv (byteS s) 32 = n at HV CR ho hl
        go_wp2_with (refine wpList_load_row rfl 24 _ rfl (w.heap.size + 1) rfl 24 _ (0, 0) _ ho Try.underlying24 rfl (HS.out _) ?_)
        refine (CR.out _).mono ?_
        rintro e w3 ⟨rfl, hq⟩
        have hz3 := hz.below hq hz.lt
        have hL3 := hL.trans (hq.mono hL.size)
        clear ho hz hL hq CR
        go_wp2_with (refine wpList_store_row rfl 24 _ _ rfl w.heap.size (r64 4 (F4 0)) rfl (congrArg Value.agg zero4F) 24 _ hz3 (HS.out _) (by simp only [row_size]) (row_one fun _ => rfl) ?_)
        exact bodyPost_ret (results_cell_row_slot rfl _ _ w.heap.size 24 (r64 4 (F4 0)) (0, 0) _ _ rfl (hz3.row_ _) Try.underlying24 rfl (HS.out _) rfl) rfl ⟨by rw [HV.out]; rfl, below_setRow' hL3 (by omega) _⟩
theorem rmake_any (s : ByteArray) (w : World) :
    Calls Try.prog 21 #[.string s] w fun e w' => e = .returned (.tuple #[.agg (r64 4 (F4 (makeV s).1)), .bool (makeV s).2]) ∧ Below w.heap.size w w' := by
  by_cases h : s.size = 32
  · exact rmake_long s w h
  · have hV : makeV s = (0, false) := by unfold makeV; rw [if_neg h]
    rw [hV]; exact rmake_short s w h
/-- Within Bytes: the number at g, the bytes at gl. -/
structure ByV (n k g gl : Nat) (w wr : World) : Prop where
  d : Blk wr g 24 (r64 4 (F4 n))
  o : Blk wr gl 5 (r8 32 (bF n k))
  l : Below w.heap.size w wr
  lt : w.heap.size ≤ g ∧ g < gl
theorem ByV.put {n k g gl : Nat} {w wr : World} (h : ByV n k g gl w wr) (hk : k < 32) : ByV n (k + 1) g gl w (wr.setCell ⟨gl, k, none⟩ (.int .u8 (iw (BitVec.ofNat 8 (byteN n k))))) :=
  ⟨h.d.far (by have := h.lt; simp; omega) _, (h.o.put hk _).cast_ (row_ext fun i _ => by
    unfold bF
    by_cases h1 : i = k
    · subst h1; rw [if_pos rfl, if_pos (by omega)]
    · rw [if_neg h1]
      by_cases h2 : i < k
      · rw [if_pos h2, if_pos (by omega)]
      · rw [if_neg h2, if_neg (by omega)]), h.l.setCell (by have := h.lt; simp; omega) _, h.lt⟩
set_option maxRecDepth 100000 in
set_option maxHeartbeats 2000000 in
theorem rbytes_any (a : Nat) (w : World) (ha : a < M256) :
    Calls Try.prog 27 #[.agg (r64 4 (F4 a))] w fun e w' => e = .returned (.string (bytesV (a % pP))) ∧ Below w.heap.size w w' := by
  have HS := Lib.hid fe_size
  have hal : Try.prog.arrayLen 24 = 4 := by kernel_rfl
  have L0 := KF.start1 a w
  go_enter Try.func27, Try.ntmps27
  go_wp2_with (refine wpList_load_row rfl 24 _ rfl w.heap.size rfl 24 _ (0, 0) _ (L0.blk _ m0) Try.underlying24 rfl (HS.out _) ?_)
  refine (digits_any a _ ha).mono ?_
  rintro e w1 ⟨rfl, hq⟩
  have h1 := L0.below hq
  clear L0 hq
  generalize hN : a % pP = n
  have HN := Lib.hid hN
  clear hN
  go_wp2_with fail
  refine (words_any n _).mono ?_
  rintro e w2 ⟨rfl, hq⟩
  have h2 := h1.below hq
  clear h1 hq
  have hmk : ∀ w, (Instr.makeSlice 59 (.int .i64 32) (.int .i64 32)).run Try.prog w = .ok (.slice (some ⟨w.heap.size, 0, none⟩) 32 32) (w.alloc (.cells (r8 32 fun _ => litw 8 0) 5)) := fun w => by kernel_rfl
  go_wp2_with (refine wpList_store_row rfl 24 _ _ rfl w2.heap.size (r64 4 (F4 n)) rfl rfl 24 (r64 4 zF) ((Blk.new w2 _ _).cast_ zero4') (HS.out _) (by simp only [row_size]) (row_one fun _ => rfl) ?_; refine wpList_gen (KF w.heap.size w [(w2.heap.size, F4 n), (w.heap.size, F4 a)]) (h2.new _ _) (fun w3 h3 => ?_))
  have hg : w.heap.size ≤ w2.heap.size := h2.lo
  clear h2
  generalize w2.heap.size = g at h3 hg ⊢
  go_loopw [5] (fun i wr => ∃ k : Nat, k ≤ 32 ∧ i = .int .i64 (k : Int) ∧ ByV n k g w3.heap.size w wr) (fun i _ => 32 - (intOf i).toNat)
  case atStart => exact ⟨0, by omega, rfl, ⟨(h3.blk _ m0).alloc _, (Blk.new w3 _ _).cast_ (row_ext fun i _ => by unfold bF; rw [if_neg (by omega)]), h3.b.alloc h3.lo _, hg, h3.lt _ m0⟩⟩
  case round =>
    obtain ⟨k, hk, rfl, hr⟩ := hrel
    clear h3 hmk
    by_cases hlt : k < 32
    · obtain ⟨q, hqd⟩ : ∃ q, q = k / 8 := ⟨_, rfl⟩
      obtain ⟨r, hrd⟩ : ∃ r, r = k % 8 := ⟨_, rfl⟩
      have hq4 : q < 4 := by omega
      have hr8' : r < 8 := by omega
      have hq : (k : Int).tdiv 8 = (q : Int) := by rw [Int.tdiv_eq_ediv_of_nonneg (by omega)]; omega
      have hr8 : (k : Int).tmod 8 = (r : Int) := by rw [Int.tmod_eq_emod_of_nonneg (by omega)]; omega
      have hl0 : (q : Int) < 4 := by omega
      have hl1 : (0 : Int) ≤ q := by omega
      have c0 := hr.d.at_ hq4
      have co := hr.o.at_ hlt
      have fo := hr.o.frozen k
      have HK := Lib.hid (hr.put hlt)
      have HW := Lib.hid (show castw 8 (shrw (F4 n q) (8 * r)) = BitVec.ofNat 8 (byteN n k) by rw [byte_word n q r hr8', show 8 * q + r = k by omega])
      clear hqd hrd hr
      go_wp2_with fail
      rw [HW.out]
      go_roundw
      case rel => exact ⟨k + 1, by omega, by go_num, HK.out⟩
      case measure => simp [intOf]; omega
    · obtain rfl : k = 32 := by omega
      have hst := run_string_of_blk (P := Try.prog) wr 59 9 5 Try.underlying59 Try.underlying5 Try.underlying9 w3.heap.size 32 32 _ _ hr.o
      rw [bF_all] at hst
      have hst2 : (convert 59 9 (.slice (some ⟨w3.heap.size, 0, none⟩) 32 32)).run Try.prog wr = .ok (.string (bytesV n)) wr := hst
      have hl := hr.l
      clear hr hst
      go_wp2_with fail
      go_ret
      exact ⟨by rw [HN.out]; rfl, hl⟩
end Go.Proofs.Ytjggclhhimccoaa
