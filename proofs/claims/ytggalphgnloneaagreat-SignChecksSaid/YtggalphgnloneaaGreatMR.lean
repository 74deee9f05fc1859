/- The document's answer to chapter 3: Right, Make, Bytes. -/
import Derived.Test.YtggalphgnloneaaGreatPu
import Derived.Test.YtggalphgnloneaaGreatMH
import Derived.Test.YtggalphgnloneaaGreatMF
import Derived.IntWalk
namespace Go.Proofs.YtggalphgnloneaaGreat
open Go.RowKit
set_option maxRecDepth 100000 in
set_option maxHeartbeats 1000000 in
theorem rright_any (a : Nat) (w : World) (ha : a < M256) (c : Bool) (hc : decide (a % pP = a) = c) :
    Calls Tryz.prog 99 #[.agg (r64 4 (F4 a))] w fun e w' => e = .returned (.bool c) ∧ Below w.heap.size w w' := by
  have L0 := KF.start1 a w
  have HC := Lib.hid hc
  clear hc
  go_enter Tryz.func99, Tryz.ntmps99
  go_wp2_with fail
  refine wp_gen (KF w.heap.size w [(w.heap.size, F4 a)]) L0 (fun w1 h1 => ?_)
  clear L0
  refine wp_region_anyL (Two 1000 1001 fun _ _ wx => KF w.heap.size w [(w.heap.size, F4 a)] wx) (by kernel_rfl) h1.drew ?_
  refine anyL_take (i := 0) (v := .agg (r64 4 (F4 a))) rfl (by kernel_rfl) (by kernel_rfl) (by kernel_rfl) (yl_other (by decide) (by decide) rfl (fun f1 f2 wx hT => ?_)) ?_
  · exact lands_fe _ rfl _ rfl _ (hT.blk _ m0) hT
  simp only [pu]
  refine anyL_take (i := 1) (v := .agg (r32 8 (N8 (a % pP)))) rfl (by kernel_rfl) (by kernel_rfl) (by kernel_rfl) (yl_other (by decide) (by decide) rfl (fun f1 f2 wx hT => ?_)) ?_
  · exact lands_calls (w := wx) ((digits_any a wx ha).mono fun _ _ ⟨he, hb⟩ => ⟨he, hT.below hb⟩) (by go_simp)
  simp only [pu]
  refine anyL_take (i := 2) (v := .agg (r64 4 (F4 (a % pP)))) rfl (by kernel_rfl) (by kernel_rfl) (by kernel_rfl) (yl_other (by decide) (by decide) rfl (fun f1 f2 wx hT => ?_)) ?_
  · exact lands_calls (w := wx) ((words_any (a % pP) wx).mono fun _ _ ⟨he, hb⟩ => ⟨he, hT.below hb⟩) (by go_simp)
  simp only [pu]
  refine anyL_take (i := 3) (v := .agg (r64 4 (F4 a))) rfl (by kernel_rfl) (by kernel_rfl) (by kernel_rfl) (yl_other (by decide) (by decide) rfl (fun f1 f2 wx hT => ?_)) ?_
  · exact lands_fe _ rfl _ rfl _ (hT.blk _ m0) hT
  simp only [pu]
  refine anyL_take (i := 4) (v := .bool c) rfl (by kernel_rfl) (by kernel_rfl) (by kernel_rfl) (yl_other (by decide) (by decide) rfl (fun f1 f2 wx hT => ?_)) ?_
  · exact lands_eql _ _ rfl (a % pP) a rfl rfl (mod_lt_M _) ha c HC.out hT
  simp only [pu]
  refine anyL_take (i := 5) (v := ?_) rfl (by kernel_rfl) (by kernel_rfl) (by kernel_rfl) (yl_other (by decide) (by decide) rfl (fun f1 f2 wx hT => ?_)) ?_; rotate_left
  · refine lands_value (w := wx) ?_ hT; go_simp <;> rfl
  simp only [pu]
  refine anyL_done (by kernel_rfl) (fun w3 (K : KF w.heap.size w [(w.heap.size, F4 a)] w3) => ?_) _
  go_wp2_with fail
  go_ret
  exact ⟨rfl, K.b⟩
theorem rright_true (a : Nat) (w : World) (ha : a < M256) (h : a % pP = a) :
    Calls Tryz.prog 99 #[.agg (r64 4 (F4 a))] w fun e w' => e = .returned (.bool true) ∧ Below w.heap.size w w' := rright_any a w ha true (decide_eq_true h)
theorem rright_false (a : Nat) (w : World) (ha : a < M256) (h : ¬ a % pP = a) :
    Calls Tryz.prog 99 #[.agg (r64 4 (F4 a))] w fun e w' => e = .returned (.bool false) ∧ Below w.heap.size w w' := rright_any a w ha false (decide_eq_false h)
set_option maxRecDepth 100000 in
set_option maxHeartbeats 2000000 in
theorem rmake_short (s : ByteArray) (w : World) (h : ¬ s.size = 32) :
    Calls Tryz.prog 63 #[.string s] w fun e w' => e = .returned (.tuple #[.agg (r64 4 (F4 0)), .bool false]) ∧ Below w.heap.size w w' := by
  have HS := Lib.hid fe_size
  have hc : ((s.size : Int) != 32) = true := by rw [bne_iff_ne]; omega
  have hb := builtE
  have Z0 : Blk (w.alloc (.cells #[.int .u64 0, .int .u64 0, .int .u64 0, .int .u64 0] 40)) w.heap.size 40 (r64 4 zF) := (Blk.new w _ _).cast_ zero4'
  go_enter Tryz.func63, Tryz.ntmps63
  go_wp2_with (refine wpList_store_row rfl 40 _ _ rfl w.heap.size (r64 4 (F4 0)) rfl (congrArg Value.agg zero4F) 40 _ Z0 (HS.out _) (by simp only [row_size]) (row_one fun _ => rfl) ?_)
  exact bodyPost_ret (results_cell_row_slot rfl _ _ w.heap.size 40 (r64 4 (F4 0)) (0, 0) _ _ rfl (Z0.row_ _) Tryz.underlying40 rfl (HS.out _) rfl) rfl ⟨rfl, below_setRow' ((Below.refl _ _).alloc (Nat.le_refl _) _) (by omega) _⟩
set_option maxRecDepth 100000 in
set_option maxHeartbeats 4000000 in
theorem rmake_long (s : ByteArray) (w : World) (h : s.size = 32) :
    Calls Tryz.prog 63 #[.string s] w fun e w' => e = .returned (.tuple #[.agg (r64 4 (F4 (makeV s).1)), .bool (makeV s).2]) ∧ Below w.heap.size w w' := by
  have HS := Lib.hid fe_size
  have hc : ((s.size : Int) != 32) = false := by rw [h]; rfl
  have hb := builtE
  have H := Lib.hid h
  have hal : Tryz.prog.arrayLen 40 = 4 := by kernel_rfl
  clear h
  go_enter Tryz.func63, Tryz.ntmps63
  go_wp2_with fail
  clear hc
  go_loopw [5] (fun i wr => ∃ k : Nat, k ≤ 32 ∧ i = .int .i64 (k : Int) ∧ MkW s k w wr) (fun i _ => 32 - (intOf i).toNat)
  case atStart => exact ⟨0, by omega, rfl, ⟨((Blk.new w _ _).alloc _).cast_ zero4', (Blk.new _ _ _).cast' ⟨by simp, zero4'.trans (bv_zero _)⟩, ((Below.refl _ _).alloc (Nat.le_refl _) _).alloc (by simp) _⟩⟩
  case round =>
    obtain ⟨k, hk, rfl, hr⟩ := hrel
    by_cases hlt : k < 32
    · obtain ⟨q, hqd⟩ : ∃ q, q = k / 8 := ⟨_, rfl⟩
      obtain ⟨r, hrd⟩ : ∃ r, r = k % 8 := ⟨_, rfl⟩
      have hq4 : q < 4 := by omega
      have hr8' : r < 8 := by omega
      have hq : (k : Int).tdiv 8 = (q : Int) := by rw [Int.tdiv_eq_ediv_of_nonneg (by omega)]; omega
      have hr8 : (k : Int).tmod 8 = (r : Int) := by rw [Int.tmod_eq_emod_of_nonneg (by omega)]; omega
      have hks : k < s.size := by rw [H.out]; exact hlt
      have HB := Lib.hid (byteS_at s k hks)
      have hb256 := byteS_lt s k
      have hkq : k = 8 * q + r := by omega
      have HPUT : Hid (∀ wx, MkW s k w wx → MkW s (k + 1) w (wx.setCell ⟨w.heap.size + 1, q, none⟩ (.int .u64 (iw (orw (F4 (bv (byteS s) k) q) (shlw (nw (byteS s k)) (8 * r))))))) := Lib.hid (fun wx hx => hx.put hkq hr8' hq4)
      have hl0 : (q : Int) < 4 := by omega
      have hl1 : (0 : Int) ≤ q := by omega
      clear hqd hrd hkq
      go_wp2_with fail
      refine wp_region_anyL (Two 16 1000 fun f1 _ wx => MkW s (if f1 then k + 1 else k) w wx) (by kernel_rfl) hr.drew ?_
      refine anyL_take (i := 0) (v := ?_) rfl (by kernel_rfl) (by kernel_rfl) (by kernel_rfl) (yl_other (by decide) (by decide) rfl (fun f1 f2 wx hT => ?_)) ?_; rotate_left
      · refine lands_value (w := wx) ?_ hT; go_simp <;> rfl
      simp only [pu]
      refine anyL_take (i := 1) (v := .int .i64 (q : Int)) rfl (by kernel_rfl) (by kernel_rfl) (by kernel_rfl) (yl_other (by decide) (by decide) rfl (fun f1 f2 wx hT => ?_)) ?_
      · refine lands_value (w := wx) ?_ hT; go_simp; exact IntWalk.i64_in _ (by omega)
      simp only [pu]
      refine anyL_take (i := 2) (v := ?_) rfl (by kernel_rfl) (by kernel_rfl) (by kernel_rfl) (yl_other (by decide) (by decide) rfl (fun f1 f2 wx hT => ?_)) ?_; rotate_left
      · refine lands_value (w := wx) ?_ hT; go_simp <;> rfl
      simp only [pu]
      refine anyL_take (i := 3) (v := .int .i64 (q : Int)) rfl (by kernel_rfl) (by kernel_rfl) (by kernel_rfl) (yl_other (by decide) (by decide) rfl (fun f1 f2 wx hT => ?_)) ?_
      · refine lands_value (w := wx) ?_ hT; go_simp; exact IntWalk.i64_in _ (by omega)
      simp only [pu]
      refine anyL_take (i := 4) (v := ?_) rfl (by kernel_rfl) (by kernel_rfl) (by kernel_rfl) (yl_other (by decide) (by decide) rfl (fun f1 f2 wx hT => ?_)) ?_; rotate_left
      · refine lands_value (w := wx) ?_ hT; go_simp <;> rfl
      simp only [pu]
      refine anyL_take (i := 5) (v := .int .u64 (iw (F4 (bv (byteS s) k) q))) rfl (by kernel_rfl) (by kernel_rfl) (by kernel_rfl) (yl_ahead (n := 9) (by decide) (by decide) (by kernel_rfl) rfl (fun f2 wx hT => ?_)) ?_
      · have c0 := hT.o.at_ hq4; refine lands_value (w := wx) ?_ hT; go_simp; skip
      simp only [pu]
      refine anyL_take (i := 6) (v := ?_) rfl (by kernel_rfl) (by kernel_rfl) (by kernel_rfl) (yl_other (by decide) (by decide) rfl (fun f1 f2 wx hT => ?_)) ?_; rotate_left
      · refine lands_value (w := wx) ?_ hT; go_simp <;> rfl
      simp only [pu]
      refine anyL_take (i := 7) (v := ?_) rfl (by kernel_rfl) (by kernel_rfl) (by kernel_rfl) (yl_other (by decide) (by decide) rfl (fun f1 f2 wx hT => ?_)) ?_; rotate_left
      · refine lands_value (w := wx) ?_ hT; go_simp <;> rfl
      simp only [pu]
      refine anyL_take (i := 8) (v := .int .u8 (byteS s k : Int)) rfl (by kernel_rfl) (by kernel_rfl) (by kernel_rfl) (yl_other (by decide) (by decide) rfl (fun f1 f2 wx hT => ?_)) ?_
      · refine lands_value (w := wx) ?_ hT; go_simp; rw [HB.out]
      simp only [pu]
      refine anyL_take (i := 9) (v := .int .u64 (iw (nw (byteS s k)))) rfl (by kernel_rfl) (by kernel_rfl) (by kernel_rfl) (yl_other (by decide) (by decide) rfl (fun f1 f2 wx hT => ?_)) ?_
      · refine lands_value (w := wx) ?_ hT; go_simp; unfold iw; rw [nw_nat _ (by unfold W64; omega), IntKind.wrap_u64]; omega
      simp only [pu]
      refine anyL_take (i := 10) (v := ?_) rfl (by kernel_rfl) (by kernel_rfl) (by kernel_rfl) (yl_other (by decide) (by decide) rfl (fun f1 f2 wx hT => ?_)) ?_; rotate_left
      · refine lands_value (w := wx) ?_ hT; go_simp <;> rfl
      simp only [pu]
      refine anyL_take (i := 11) (v := .int .i64 (r : Int)) rfl (by kernel_rfl) (by kernel_rfl) (by kernel_rfl) (yl_other (by decide) (by decide) rfl (fun f1 f2 wx hT => ?_)) ?_
      · refine lands_value (w := wx) ?_ hT; go_simp; skip
      simp only [pu]
      refine anyL_take (i := 12) (v := .int .i64 ((8 * r : Nat) : Int)) rfl (by kernel_rfl) (by kernel_rfl) (by kernel_rfl) (yl_other (by decide) (by decide) rfl (fun f1 f2 wx hT => ?_)) ?_
      · refine lands_value (w := wx) ?_ hT; go_simp; rw [IntWalk.i64_in _ (by omega)]
      simp only [pu]
      refine anyL_take (i := 13) (v := .int .u64 (iw (shlw (nw (byteS s k)) (8 * r)))) rfl (by kernel_rfl) (by kernel_rfl) (by kernel_rfl) (yl_other (by decide) (by decide) rfl (fun f1 f2 wx hT => ?_)) ?_
      · refine lands_value (w := wx) ?_ hT; go_simp; rw [show (8 * (r : Int)).toNat = 8 * r by omega]
      simp only [pu]
      refine anyL_take (i := 14) (v := .int .u64 (iw (orw (F4 (bv (byteS s) k) q) (shlw (nw (byteS s k)) (8 * r))))) rfl (by kernel_rfl) (by kernel_rfl) (by kernel_rfl) (yl_other (by decide) (by decide) rfl (fun f1 f2 wx hT => ?_)) ?_
      · refine lands_value (w := wx) ?_ hT; go_simp; skip
      simp only [pu]
      refine anyL_take (i := 15) (v := ?_) rfl (by kernel_rfl) (by kernel_rfl) (by kernel_rfl) (yl_other (by decide) (by decide) rfl (fun f1 f2 wx hT => ?_)) ?_; rotate_left
      · refine lands_value (w := wx) ?_ hT; go_simp <;> rfl
      simp only [pu]
      refine anyL_take (i := 16) (v := undef) rfl (by kernel_rfl) (by kernel_rfl) (by kernel_rfl) (yl_first (by decide) rfl (fun f2 wx hT => ?_)) ?_
      · have co := hT.o.at_ hq4; have fo := hT.o.frozen q; have K := HPUT.out _ hT; go_simp; exact ⟨rfl, K⟩
      simp only [Act.put]
      refine anyL_done (by kernel_rfl) (fun w3 (K : MkW s (k + 1) w w3) => ?_) _
      clear hr HPUT hq hr8
      go_wp2_with fail
      go_roundw
      case rel => exact ⟨k + 1, by omega, by go_num, K⟩
      case measure => simp [intOf]; omega
    · obtain rfl : k = 32 := by omega
      have hl := bv_ltM s
      have ho := hr.o
      have hz := hr.r
      have hL := hr.l
      clear hr
      by_cases c : bv (byteS s) 32 % pP = bv (byteS s) 32
      · have HV : Hid (makeV s = (bv (byteS s) 32, true)) := Lib.hid (by unfold makeV; rw [if_pos H.out, if_pos c])
        have CR := Lib.hid (fun w => rright_true (bv (byteS s) 32) w hl c)
        clear c hlt hk
        generalize bv (byteS s) 32 = n at HV CR ho hl
        go_wp2_with (refine wpList_load_row rfl 40 _ rfl (w.heap.size + 1) rfl 40 _ (0, 0) _ ho Tryz.underlying40 rfl (HS.out _) ?_)
        refine (CR.out _).mono ?_
        rintro e w3 ⟨rfl, hq⟩
        have ho3 := ho.below hq ho.lt
        have hz3 := hz.below hq hz.lt
        have hL3 := hL.trans (hq.mono hL.size)
        clear ho hz hL hq CR
        go_wp2_with (first
          | (refine wpList_load_row rfl 40 _ rfl (w.heap.size + 1) rfl 40 _ (0, 0) _ ho3 Tryz.underlying40 rfl (HS.out _) ?_)
          | (refine wpList_store_row rfl 40 _ _ rfl w.heap.size (r64 4 (F4 n)) rfl rfl 40 _ hz3 (HS.out _) (by simp only [row_size]) (row_one fun _ => rfl) ?_))
        exact bodyPost_ret (results_cell_row_slot rfl _ _ w.heap.size 40 (r64 4 (F4 n)) (0, 0) _ _ rfl (hz3.row_ _) Tryz.underlying40 rfl (HS.out _) rfl) rfl ⟨by rw [HV.out]; rfl, below_setRow' hL3 (by omega) _⟩
      · have HV : Hid (makeV s = (0, false)) := Lib.hid (by unfold makeV; rw [if_pos H.out, if_neg c])
        have CR := Lib.hid (fun w => rright_false (bv (byteS s) 32) w hl c)
        clear c hlt hk
        generalize bv (byteS s) 32 = n at HV CR ho hl
        go_wp2_with (refine wpList_load_row rfl 40 _ rfl (w.heap.size + 1) rfl 40 _ (0, 0) _ ho Tryz.underlying40 rfl (HS.out _) ?_)
        refine (CR.out _).mono ?_
        rintro e w3 ⟨rfl, hq⟩
        have hz3 := hz.below hq hz.lt
        have hL3 := hL.trans (hq.mono hL.size)
        clear ho hz hL hq CR
        go_wp2_with (refine wpList_store_row rfl 40 _ _ rfl w.heap.size (r64 4 (F4 0)) rfl (congrArg Value.agg zero4F) 40 _ hz3 (HS.out _) (by simp only [row_size]) (row_one fun _ => rfl) ?_)
        exact bodyPost_ret (results_cell_row_slot rfl _ _ w.heap.size 40 (r64 4 (F4 0)) (0, 0) _ _ rfl (hz3.row_ _) Tryz.underlying40 rfl (HS.out _) rfl) rfl ⟨by rw [HV.out]; rfl, below_setRow' hL3 (by omega) _⟩
theorem rmake_any (s : ByteArray) (w : World) :
    Calls Tryz.prog 63 #[.string s] w fun e w' => e = .returned (.tuple #[.agg (r64 4 (F4 (makeV s).1)), .bool (makeV s).2]) ∧ Below w.heap.size w w' := by
  by_cases h : s.size = 32
  · exact rmake_long s w h
  · have hV : makeV s = (0, false) := by unfold makeV; rw [if_neg h]
    rw [hV]; exact rmake_short s w h
/-- Within Bytes: the number at g, the bytes at gl. -/
structure ByV (n k g gl : Nat) (w wr : World) : Prop where
  d : Blk wr g 40 (r64 4 (F4 n))
  o : Blk wr gl 5 (r8 32 (bF n k))
  l : Below w.heap.size w wr
  lt : w.heap.size ≤ g ∧ g < gl
theorem ByV.put {n k g gl : Nat} {w wr : World} (h : ByV n k g gl w wr) (hk : k < 32) : ByV n (k + 1) g gl w (wr.setCell ⟨gl, k, none⟩ (.int .u8 (iw (BitVec.ofNat 8 (byteK n k))))) :=
  ⟨h.d.far (by have := h.lt; simp; omega) _, (h.o.put hk _).cast_ (row_ext fun i _ => by
    unfold bF
    by_cases h1 : i = k
    · subst h1; rw [if_pos rfl, if_pos (by omega)]
    · rw [if_neg h1]
      by_cases h2 : i < k
      · rw [if_pos h2, if_pos (by omega)]
      · rw [if_neg h2, if_neg (by omega)]), h.l.setCell (by have := h.lt; simp; omega) _, h.lt⟩
set_option maxRecDepth 100000 in
set_option maxHeartbeats 2000000 in
theorem rbytes_any (a : Nat) (w : World) (ha : a < M256) :
    Calls Tryz.prog 76 #[.agg (r64 4 (F4 a))] w fun e w' => e = .returned (.string (bytesV (a % pP))) ∧ Below w.heap.size w w' := by
  have HS := Lib.hid fe_size
  have hal : Tryz.prog.arrayLen 40 = 4 := by kernel_rfl
  have L0 := KF.start1 a w
  go_enter Tryz.func76, Tryz.ntmps76
  go_wp2_with (refine wpList_load_row rfl 40 _ rfl w.heap.size rfl 40 _ (0, 0) _ (L0.blk _ m0) Tryz.underlying40 rfl (HS.out _) ?_)
  refine (digits_any a _ ha).mono ?_
  rintro e w1 ⟨rfl, hq⟩
  have h1 := L0.below hq
  clear L0 hq
  generalize hN : a % pP = n
  have HN := Lib.hid hN
  clear hN
  go_wp2_with fail
  refine (words_any n _).mono ?_
  rintro e w2 ⟨rfl, hq⟩
  have h2 := h1.below hq
  clear h1 hq
  have hmk : ∀ w, (Instr.makeSlice 29 (.int .i64 32) (.int .i64 32)).run Tryz.prog w = .ok (.slice (some ⟨w.heap.size, 0, none⟩) 32 32) (w.alloc (.cells (r8 32 fun _ => litw 8 0) 5)) := fun w => by kernel_rfl
  go_wp2_with (refine wpList_store_row rfl 40 _ _ rfl w2.heap.size (r64 4 (F4 n)) rfl rfl 40 (r64 4 zF) ((Blk.new w2 _ _).cast_ zero4') (HS.out _) (by simp only [row_size]) (row_one fun _ => rfl) ?_; refine wpList_gen (KF w.heap.size w [(w2.heap.size, F4 n), (w.heap.size, F4 a)]) (h2.new _ _) (fun w3 h3 => ?_))
  have hg : w.heap.size ≤ w2.heap.size := h2.lo
  clear h2
  generalize w2.heap.size = g at h3 hg ⊢
  go_loopw [5] (fun i wr => ∃ k : Nat, k ≤ 32 ∧ i = .int .i64 (k : Int) ∧ ByV n k g w3.heap.size w wr) (fun i _ => 32 - (intOf i).toNat)
  case atStart => exact ⟨0, by omega, rfl, ⟨(h3.blk _ m0).alloc _, (Blk.new w3 _ _).cast_ (row_ext fun i _ => by unfold bF; rw [if_neg (by omega)]), h3.b.alloc h3.lo _, hg, h3.lt _ m0⟩⟩
  case round =>
    obtain ⟨k, hk, rfl, hr⟩ := hrel
    clear h3 hmk
    by_cases hlt : k < 32
    · obtain ⟨q, hqd⟩ : ∃ q, q = k / 8 := ⟨_, rfl⟩
      obtain ⟨r, hrd⟩ : ∃ r, r = k % 8 := ⟨_, rfl⟩
      have hq4 : q < 4 := by omega
      have hr8' : r < 8 := by omega
      have hq : (k : Int).tdiv 8 = (q : Int) := by rw [Int.tdiv_eq_ediv_of_nonneg (by omega)]; omega
      have hr8 : (k : Int).tmod 8 = (r : Int) := by rw [Int.tmod_eq_emod_of_nonneg (by omega)]; omega
      have hl0 : (q : Int) < 4 := by omega
      have hl1 : (0 : Int) ≤ q := by omega
      have c0 := hr.d.at_ hq4
      have co := hr.o.at_ hlt
      have fo := hr.o.frozen k
      have HK := Lib.hid (hr.put hlt)
      have HW := Lib.hid (show castw 8 (shrw (F4 n q) (8 * r)) = BitVec.ofNat 8 (byteK n k) by rw [byte_word n q r hr8', show 8 * q + r = k by omega])
      clear hqd hrd hr
      go_wp2_with fail
      rw [HW.out]
      go_roundw
      case rel => exact ⟨k + 1, by omega, by go_num, HK.out⟩
      case measure => simp [intOf]; omega
    · obtain rfl : k = 32 := by omega
      have hst := run_string_of_blk (P := Tryz.prog) wr 29 9 5 Tryz.underlying29 Tryz.underlying5 Tryz.underlying9 w3.heap.size 32 32 _ _ hr.o
      rw [bF_end] at hst
      have hst2 : (convert 29 9 (.slice (some ⟨w3.heap.size, 0, none⟩) 32 32)).run Tryz.prog wr = .ok (.string (bytesV n)) wr := hst
      have hl := hr.l
      clear hr hst
      go_wp2_with fail
      go_ret
      exact ⟨by rw [HN.out]; rfl, hl⟩
end Go.Proofs.YtggalphgnloneaaGreat
/- The document's answer to chapter 3: sums and products, by names. -/
namespace Go.Proofs.YtggalphgnloneaaGreat
open Go.RowKit
theorem raddP (a b : Nat) (w : World) (ha : a < M256) (hb : b < M256) :
    Calls Tryz.prog 102 #[.agg (r64 4 (F4 a)), .agg (r64 4 (F4 b))] w fun e w' => e = .returned (.agg (r64 4 (F4 (addP a b)))) ∧ Below w.heap.size w w' := add_any a b w ha hb
theorem rmulP (a b : Nat) (w : World) (ha : a < M256) (hb : b < M256) :
    Calls Tryz.prog 72 #[.agg (r64 4 (F4 a)), .agg (r64 4 (F4 b))] w fun e w' => e = .returned (.agg (r64 4 (F4 (mulP a b)))) ∧ Below w.heap.size w w' := mul_any a b w ha hb
theorem rsubP (a b : Nat) (w : World) (ha : a < M256) (hb : b < M256) :
    Calls Tryz.prog 101 #[.agg (r64 4 (F4 a)), .agg (r64 4 (F4 b))] w fun e w' => e = .returned (.agg (r64 4 (F4 (subP a b)))) ∧ Below w.heap.size w w' := by
  have h := sub_any a b w ha hb
  rw [Nat.add_mod_mod] at h
  exact h
theorem rnegP (a : Nat) (w : World) (ha : a < M256) :
    Calls Tryz.prog 65 #[.agg (r64 4 (F4 a))] w fun e w' => e = .returned (.agg (r64 4 (F4 (negP a)))) ∧ Below w.heap.size w w' := neg_any a w ha
end Go.Proofs.YtggalphgnloneaaGreat
/- The document's answer to chapter 3: Odd, Small, by names. -/
namespace Go.Proofs.YtggalphgnloneaaGreat
open Go.RowKit
theorem roddP (a : Nat) (w : World) (ha : a < M256) :
    Calls Tryz.prog 77 #[.agg (r64 4 (F4 a))] w fun e w' => e = .returned (.bool (oddP a)) ∧ Below w.heap.size w w' := odd_any a w ha
theorem rsmall_any (v : BitVec 64) (w : World) :
    Calls Tryz.prog 73 #[.int .u64 (iw v)] w fun e w' => e = .returned (.agg (r64 4 (F4 v.toNat))) ∧ Below w.heap.size w w' := by
  have h := small_any v.toNat w v.isLt
  rw [show BitVec.ofNat 64 v.toNat = v by apply BitVec.eq_of_toNat_eq; rw [BitVec.toNat_ofNat]; exact Nat.mod_eq_of_lt v.isLt] at h
  exact h
end Go.Proofs.YtggalphgnloneaaGreat
/- The document's answer to chapter 3: Pow, Invert. -/
namespace Go.Proofs.YtggalphgnloneaaGreat
open Go.RowKit
/-- Within Pow: the number, the power, the product of the upper bits. -/
structure RpW (x e p pb : Nat) (w wr : World) : Prop where
  d : Blk wr w.heap.size 40 (r64 4 (F4 x))
  e : Blk wr (w.heap.size + 1) 39 (r64 4 (F4 e))
  r : Blk wr (w.heap.size + 2) 40 (r64 4 zF)
  p : Blk wr pb 40 (r64 4 (F4 p))
  l : Below w.heap.size w wr
  lt : w.heap.size + 2 < pb
theorem RpW.below {x e p pb : Nat} {w wr w' : World} (h : RpW x e p pb w wr) (hb : Below wr.heap.size wr w') : RpW x e p pb w w' :=
  ⟨h.d.below hb h.d.lt, h.e.below hb h.e.lt, h.r.below hb h.r.lt, h.p.below hb h.p.lt, h.l.trans (hb.mono h.l.size), h.lt⟩
theorem RpW.putp {x e p pb : Nat} {w wr : World} (h : RpW x e p pb w wr) (y : Nat) : RpW x e y pb w (wr.setRow pb (r64 4 (F4 y))) :=
  ⟨h.d.row_far (by have := h.lt; omega) _, h.e.row_far (by have := h.lt; omega) _, h.r.row_far (by have := h.lt; omega) _, h.p.row_ _, below_setRow' h.l (by have := h.lt; omega) _, h.lt⟩
theorem bit_word (e q r : Nat) (hr : r < 64) : andw (shrw (F4 e q) r) (litw 64 1) = nw (e / 2 ^ (64 * q + r) % 2) := by
  apply BitVec.eq_of_toNat_eq
  unfold andw shrw litw
  rw [BitVec.toNat_and, show (BitVec.ofNat 64 1).toNat = 2 ^ 1 - 1 by rfl, Nat.and_two_pow_sub_one_eq_mod, BitVec.toNat_ushiftRight, Nat.shiftRight_eq_div_pow, F4_nat, nw_nat _ (by unfold W64; omega), Nat.pow_add, ← Nat.div_div_eq_div_mul]
  generalize e / 2 ^ (64 * q) = x
  have h : (18446744073709551616 : Nat) = 2 ^ r * 2 ^ (64 - r) := by rw [← Nat.pow_add, show r + (64 - r) = 64 by omega]
  rw [h, Nat.mod_mul_right_div_self, show (2 : Nat) ^ 1 = 2 by rfl, Nat.mod_mod_of_dvd _ (show 2 ∣ 2 ^ (64 - r) from Nat.pow_dvd_pow 2 (show 1 ≤ 64 - r by omega))]
/-- The power of the bits from j on. -/
def topE (e j : Nat) : Nat := e / 2 ^ j
theorem topE_next (e j : Nat) : topE e j = 2 * topE e (j + 1) + topE e j % 2 := by
  unfold topE; rw [Nat.pow_succ, ← Nat.div_div_eq_div_mul]; omega
theorem pow_bit1 {x e j : Nat} (h : topE e j % 2 = 1) : mulP (mulP (powP x (topE e (j + 1))) (powP x (topE e (j + 1)))) x = powP x (topE e j) := by
  unfold mulP powP
  rw [topE_next e j, h, ← Nat.mul_mod, Nat.mod_mul_mod, ← Nat.pow_add, ← Nat.two_mul, ← Nat.pow_succ]
theorem pow_bit0 {x e j : Nat} (h : topE e j % 2 = 0) : mulP (powP x (topE e (j + 1))) (powP x (topE e (j + 1))) = powP x (topE e j) := by
  unfold mulP powP
  rw [topE_next e j, h, Nat.add_zero (2 * topE e (j + 1)), ← Nat.mul_mod, ← Nat.pow_add, ← Nat.two_mul]
theorem rsmall1 (w : World) : Calls Tryz.prog 73 #[.int .u64 1] w fun e w' => e = .returned (.agg (r64 4 (F4 1))) ∧ Below w.heap.size w w' := by
  have h := rsmall_any (litw 64 1) w
  rw [show (litw 64 1).toNat = 1 by unfold litw; rfl, iw64_one] at h
  exact h
theorem rsmall2 (w : World) : Calls Tryz.prog 73 #[.int .u64 2] w fun e w' => e = .returned (.agg (r64 4 (F4 2))) ∧ Below w.heap.size w w' := by
  have h := rsmall_any (litw 64 2) w
  have e1 : Value.int .u64 2 = .int .u64 (iw (litw 64 2)) := by kernel_rfl
  rw [show (litw 64 2).toNat = 2 by unfold litw; rfl, ← e1] at h
  exact h
set_option maxRecDepth 100000 in
set_option maxHeartbeats 4000000 in
theorem rpowP (x e : Nat) (w : World) (hx : x < M256) (he : e < M256) :
    Calls Tryz.prog 109 #[.agg (r64 4 (F4 x)), .agg (r64 4 (F4 e))] w fun e' w' => e' = .returned (.agg (r64 4 (F4 (powP x e)))) ∧ Below w.heap.size w w' := by
  have HS := Lib.hid fe_size
  have hal : Tryz.prog.arrayLen 39 = 4 := by kernel_rfl
  have H0 : Hid (powP x (topE e 256) = 1) := Lib.hid (by
    unfold topE powP; rw [show e / 2 ^ 256 = 0 from Nat.div_eq_of_lt he, Nat.pow_zero]; decide)
  have H9 : Hid (topE e 0 = e) := Lib.hid (by unfold topE; rw [Nat.pow_zero, Nat.div_one])
  have D0 : Blk (((w.alloc (.cells (r64 4 (F4 x)) 40)).alloc (.cells (r64 4 (F4 e)) 39)).alloc (.cells #[.int .u64 0, .int .u64 0, .int .u64 0, .int .u64 0] 40)) w.heap.size 40 (r64 4 (F4 x)) := ((Blk.new w _ _).alloc _).alloc _
  have E0 : Blk (((w.alloc (.cells (r64 4 (F4 x)) 40)).alloc (.cells (r64 4 (F4 e)) 39)).alloc (.cells #[.int .u64 0, .int .u64 0, .int .u64 0, .int .u64 0] 40)) (w.heap.size + 1) 39 (r64 4 (F4 e)) := ((Blk.new (w.alloc _) _ _).cast' ⟨by simp, rfl⟩).alloc _
  have R0 : Blk (((w.alloc (.cells (r64 4 (F4 x)) 40)).alloc (.cells (r64 4 (F4 e)) 39)).alloc (.cells #[.int .u64 0, .int .u64 0, .int .u64 0, .int .u64 0] 40)) (w.heap.size + 2) 40 (r64 4 zF) := (Blk.new _ _ _).cast' ⟨by simp, zero4'⟩
  have B0 : Below w.heap.size w (((w.alloc (.cells (r64 4 (F4 x)) 40)).alloc (.cells (r64 4 (F4 e)) 39)).alloc (.cells #[.int .u64 0, .int .u64 0, .int .u64 0, .int .u64 0] 40)) := (((Below.refl _ _).alloc (Nat.le_refl _) _).alloc (by simp) _).alloc (by simp; omega) _
  go_enter Tryz.func109, Tryz.ntmps109
  go_wp2_with fail
  refine (rsmall1 _).mono ?_
  rintro e' w1 ⟨rfl, hq⟩
  have D1 := D0.below hq D0.lt
  have E1 := E0.below hq E0.lt
  have R1 := R0.below hq R0.lt
  have B1 := B0.trans (hq.mono B0.size)
  have l1 := R1.lt
  clear D0 E0 R0 B0 hq
  go_wp2_with (refine wpList_store_row rfl 40 _ _ rfl w1.heap.size (r64 4 (F4 1)) rfl rfl 40 (r64 4 zF) ((Blk.new w1 _ _).cast_ zero4') (HS.out _) (by simp only [row_size]) (row_one fun _ => rfl) ?_; refine wpList_gen (RpW x e 1 w1.heap.size w) ⟨(D1.alloc _).row_far (by omega) _, (E1.alloc _).row_far (by omega) _, (R1.alloc _).row_far (by omega) _, (Blk.new w1 _ _).row_ _, below_setRow' (B1.alloc B1.size _) B1.size _, l1⟩ (fun w2 h2 => ?_))
  clear D1 E1 R1 B1 l1
  generalize w1.heap.size = pb at h2 ⊢
  go_loopw [6] (fun i wr => ∃ k : Nat, k ≤ 256 ∧ i = .int .i64 ((k : Int) - 1) ∧ RpW x e (powP x (topE e k)) pb w wr) (fun i _ => (intOf i + 1).toNat)
  case atStart => exact ⟨256, by omega, rfl, by rw [H0.out]; exact h2⟩
  case round =>
    obtain ⟨k, hk, rfl, hr⟩ := hrel
    clear h2
    cases k with
    | zero =>
      rw [H9.out] at hr
      go_wp2_with (first
        | (refine wpList_load_row rfl 40 _ rfl pb rfl 40 _ (0, 0) _ hr.p Tryz.underlying40 rfl (HS.out _) ?_)
        | (refine wpList_store_row rfl 40 _ _ rfl (w.heap.size + 2) (r64 4 (F4 (powP x e))) rfl rfl 40 _ hr.r (HS.out _) (by simp only [row_size]) (row_one fun _ => rfl) ?_))
      simp only [Act.put]
      exact bodyPost_ret (results_cell_row rfl _ _ (w.heap.size + 2) 40 (r64 4 (F4 (powP x e))) (0, 0) _ rfl (hr.r.row_ _) Tryz.underlying40 rfl (HS.out _)) rfl ⟨rfl, below_setRow' hr.l (by omega) _⟩
    | succ j =>
      have hj : ((j + 1 : Nat) : Int) - 1 = (j : Int) := by omega
      rw [hj]
      clear hj
      go_wp2_with (refine wpList_load_row rfl 40 _ rfl pb rfl 40 _ (0, 0) _ hr.p Tryz.underlying40 rfl (HS.out _) ?_)
      obtain ⟨q, hqd⟩ : ∃ q, q = j / 64 := ⟨_, rfl⟩
      obtain ⟨r, hrd⟩ : ∃ r, r = j % 64 := ⟨_, rfl⟩
      have hq4 : q < 4 := by omega
      have hr64 : r < 64 := by omega
      have hq : (j : Int).tdiv 64 = (q : Int) := by rw [Int.tdiv_eq_ediv_of_nonneg (by omega)]; omega
      have hr8 : (j : Int).tmod 64 = (r : Int) := by rw [Int.tmod_eq_emod_of_nonneg (by omega)]; omega
      have hl0 : (q : Int) < 4 := by omega
      have hl1 : (0 : Int) ≤ q := by omega
      have hand := and64_lit (shrw (F4 e q) r) 1
      rw [bit_word e q r hr64, show 64 * q + r = j by omega, show e / 2 ^ j = topE e j from rfl] at hand
      have hpm := powP_lt x (topE e (j + 1))
      have hmin : min r 64 = r := by omega
      clear hqd hrd
      by_cases hb : topE e j % 2 = 1
      · have HN := Lib.hid (pow_bit1 (x := x) hb)
        have hmm := mulP_lt (powP x (topE e (j + 1))) (powP x (topE e (j + 1)))
        rw [hb, show iw (nw 1) = 1 by kernel_rfl] at hand
        clear hb
        refine (rmulP _ _ wr hpm hpm).mono ?_
        rintro e' w3 ⟨rfl, hq3⟩
        have h3 := hr.below hq3
        clear hr hq3 hpm
        generalize mulP (powP x (topE e (j + 1))) (powP x (topE e (j + 1))) = m at HN hmm h3 ⊢
        go_wp2_with (first
          | (refine wpList_store_row rfl 40 _ _ rfl pb (r64 4 (F4 m)) rfl rfl 40 _ h3.p (HS.out _) (by simp only [row_size]) (row_one fun _ => rfl) ?_; refine wpList_gen (RpW x e m pb w) (h3.putp _) (fun w4 h4 => ?_); have c0 := h4.e.at_ hq4)
          | (refine wpList_load_row rfl 40 _ rfl pb rfl 40 _ (0, 0) _ h4.p Tryz.underlying40 rfl (HS.out _) ?_)
          | (refine wpList_load_row rfl 40 _ rfl w.heap.size rfl 40 _ (0, 0) _ h4.d Tryz.underlying40 rfl (HS.out _) ?_))
        refine (rmulP _ _ _ hmm hx).mono ?_
        rintro e' w5 ⟨rfl, hq5⟩
        have h5 := h4.below hq5
        clear h3 h4 hq5 c0 hand
        rw [HN.out]
        go_wp2_with (first
          | (refine wpList_store_row rfl 40 _ _ rfl pb (r64 4 (F4 (powP x (topE e j)))) rfl rfl 40 _ h5.p (HS.out _) (by simp only [row_size]) (row_one fun _ => rfl) ?_; refine wpList_gen (RpW x e (powP x (topE e j)) pb w) (h5.putp _) (fun w6 h6 => ?_)))
        go_roundw
        case rel => exact ⟨j, by omega, rfl, h6⟩
        case measure => simp [intOf]
      · have hb0 : topE e j % 2 = 0 := by omega
        have HN := Lib.hid (pow_bit0 (x := x) hb0)
        rw [hb0, show iw (nw 0) = 0 by kernel_rfl] at hand
        clear hb hb0
        refine (rmulP _ _ wr hpm hpm).mono ?_
        rintro e' w3 ⟨rfl, hq3⟩
        have h3 := hr.below hq3
        clear hr hq3 hpm
        rw [HN.out]
        go_wp2_with (first
          | (refine wpList_store_row rfl 40 _ _ rfl pb (r64 4 (F4 (powP x (topE e j)))) rfl rfl 40 _ h3.p (HS.out _) (by simp only [row_size]) (row_one fun _ => rfl) ?_; refine wpList_gen (RpW x e (powP x (topE e j)) pb w) (h3.putp _) (fun w4 h4 => ?_); have c0 := h4.e.at_ hq4))
        go_roundw
        case rel => exact ⟨j, by omega, rfl, h4⟩
        case measure => simp [intOf]
set_option maxHeartbeats 1000000 in
theorem rinvP (a : Nat) (w : World) (ha : a < M256) :
    Calls Tryz.prog 74 #[.agg (r64 4 (F4 a))] w fun e w' => e = .returned (.agg (r64 4 (F4 (powP a (pP - 2))))) ∧ Below w.heap.size w w' := by
  have HS := Lib.hid fe_size
  have hb := inv_built
  have HI := Lib.hid inv_row
  have hlt : pP - 2 < M256 := by decide
  have LW0 : LW a w ((w.alloc (.cells (r64 4 (F4 a)) 40)).alloc (.cells #[.int .u64 0, .int .u64 0, .int .u64 0, .int .u64 0] 40)) := ⟨(Blk.new w _ _).alloc _, (Blk.new _ _ _).cast' ⟨by simp, zero4'⟩, ((Below.refl _ _).alloc (Nat.le_refl _) _).alloc (by simp) _⟩
  generalize hx : pP - 2 = x at HI hlt ⊢
  clear hx
  go_enter Tryz.func74, Tryz.ntmps74
  go_wp2_with (refine wpList_gen (LW a w) LW0 (fun w1 h1 => ?_); refine wpList_load_row rfl 40 _ rfl w.heap.size rfl 40 _ (0, 0) _ h1.d Tryz.underlying40 rfl (HS.out _) ?_)
  rw [HI.out]
  refine (rpowP a x w1 ha hlt).mono ?_
  rintro e w2 ⟨rfl, hq⟩
  have h2 := h1.below hq
  clear h1 hq LW0
  go_wp2_with (refine wpList_store_row rfl 40 _ _ rfl (w.heap.size + 1) (r64 4 (F4 (powP a x))) rfl rfl 40 _ h2.r (HS.out _) (by simp only [row_size]) (row_one fun _ => rfl) ?_)
  simp only [Act.put]
  exact bodyPost_ret (results_cell_row rfl _ _ (w.heap.size + 1) 40 (r64 4 (F4 (powP a x))) (0, 0) _ rfl (h2.r.row_ _) Tryz.underlying40 rfl (HS.out _)) rfl ⟨rfl, below_setRow' h2.l (by omega) _⟩
end Go.Proofs.YtggalphgnloneaaGreat
/- The two ways to a root agree. -/
namespace Go.Proofs.YtggalphgnloneaaGreat
open Go.RowKit
/-- (p + 3) / 8. -/
def E3 : Nat := 7237005577332262213973186563042994240829374041602535252466099000494570602494
/-- The document's first try. -/
def tryV (u v : Nat) : Nat := powP (mulP u (invP v)) E3
theorem mul_invP {v : Nat} (h : ¬ v % pP = 0) : v * invP v % pP = 1 := by
  unfold invP
  rw [Nat.mul_mod_mod, Nat.mul_comm, ← Nat.pow_succ, show (pP - 2).succ = pP - 1 by decide]
  exact fermatP v h
theorem tryV_lt (u v : Nat) : tryV u v < pP := Nat.mod_lt _ (by decide)
/-- v divides out. -/
theorem div_invP {v z : Nat} (h : ¬ v % pP = 0) : (v * z % pP) * invP v % pP = z % pP := by
  rw [Nat.mod_mul_mod, Nat.mul_comm v z, Nat.mul_assoc, Nat.mul_mod, mul_invP h, Nat.mul_one, Nat.mod_mod]
theorem try_sq {U v z : Nat} (hv : ¬ v % pP = 0) (h : U = v * (z * z) % pP) : tsV v (tryV U v) = U * (z ^ H2 % pP) % pP := by
  have e1 : mulP U (invP v) = z * z % pP := by rw [h]; exact div_invP hv
  have e2 : tryV U v * tryV U v % pP = z * z * z ^ H2 % pP := by
    unfold tryV powP
    rw [e1, ← Nat.pow_mod, ← Nat.mul_mod, ← Nat.pow_add, ← Nat.pow_two, ← Nat.pow_mul, ← Nat.pow_add, show 2 * (E3 + E3) = 2 + H2 by decide]
  unfold tsV
  rw [e2, h, Nat.mul_mod_mod, ← Nat.mul_mod, Nat.mul_assoc v]
theorem try_found {U v z : Nat} (hU : U < pP) (hv : ¬ v % pP = 0) (h : U = v * (z * z) % pP) : tsV v (tryV U v) = U ∨ tsV v (tryV U v * iR % pP) = U := by
  rw [ts_turn, try_sq hv h]
  by_cases hz : z % pP = 0
  · left
    have h0 : U = 0 := by rw [h, Nat.mul_mod, Nat.mul_mod z, hz, Nat.zero_mul, Nat.zero_mod, Nat.mul_zero, Nat.zero_mod]
    rw [h0, Nat.zero_mul, Nat.zero_mod]
  · rcases half_one hz with h1 | h1
    · left; rw [h1, Nat.mul_one, Nat.mod_eq_of_lt hU]
    · right
      rw [h1, Nat.mod_mul_mod, Nat.mul_assoc, Nat.mul_mod, show (pP - 1) * (pP - 1) % pP = 1 by decide, Nat.mul_one, Nat.mod_mod, Nat.mod_eq_of_lt hU]
theorem even_root {v x y U : Nat} (hv : ¬ v % pP = 0) (hx : tsV v x = U) (hxl : x < pP) (hxo : oddB (x % pP) = false) (hy : tsV v y = U) (hyl : y < pP) (hyo : oddB (y % pP) = false) : x = y := by
  have h : x * x % pP = y * y % pP := by
    have h1 := div_invP (z := x * x % pP) hv
    have h2 := div_invP (z := y * y % pP) hv
    have h3 : v * (x * x % pP) % pP = v * (y * y % pP) % pP := hx.trans hy.symm
    rw [h3, h2, Nat.mod_mod, Nat.mod_mod] at h1
    exact h1.symm
  unfold oddB at hxo hyo
  rw [decide_eq_false_iff_not] at hxo hyo
  rcases sq_eq h with h1 | h1
  · rwa [Nat.mod_eq_of_lt hxl, Nat.mod_eq_of_lt hyl] at h1
  · rw [Nat.mod_eq_of_lt hxl, Nat.mod_eq_of_lt hyl] at h1
    rw [Nat.mod_eq_of_lt hxl] at hxo
    rw [Nat.mod_eq_of_lt hyl] at hyo
    by_cases hy0 : y = 0
    · subst hy0; rw [h1]; decide
    · rw [Nat.mod_eq_of_lt (show pP - y < pP by omega)] at h1
      unfold pP at *; omega
theorem root_same (u v : Nat) : rootW (u % pP) v (tryV (u % pP) v) = rootV u v := by
  have hU := Nat.mod_lt u (show 0 < pP by decide)
  by_cases hv : v % pP = 0
  · have e1 : tryV (u % pP) v = 0 := by
      have : invP v = 0 := by
        unfold invP; rw [Nat.pow_mod, hv, Nat.zero_pow (by decide), Nat.zero_mod]
      unfold tryV powP mulP
      rw [this, Nat.mul_zero, Nat.zero_mod, Nat.zero_pow (by decide), Nat.zero_mod]
    have e2 : nearV (u % pP) v = 0 := by
      have : cuV v = 0 := by
        unfold cuV; rw [Nat.mul_mod, hv, Nat.mul_zero, Nat.zero_mod]
      unfold nearV
      rw [this, Nat.mul_zero, Nat.zero_mod, Nat.zero_mul, Nat.zero_mod]
    unfold rootV
    rw [e1, e2]
  · cases hb : (rootV u v).2 with
    | true =>
      obtain ⟨x, hx⟩ : ∃ x, rootV u v = (x, true) := ⟨(rootV u v).1, by
        generalize rootV u v = p at hb ⊢
        obtain ⟨a, b⟩ := p
        subst hb
        rfl⟩
      obtain ⟨t1, t2, t3⟩ := rootV_ok hx
      have hf := rootW_found (try_found (z := x) hU hv (by rw [← t1]; exact Nat.mul_mod_mod _ _ _))
      obtain ⟨y, hy⟩ : ∃ y, rootW (u % pP) v (tryV (u % pP) v) = (y, true) := ⟨(rootW (u % pP) v (tryV (u % pP) v)).1, by
        generalize rootW (u % pP) v (tryV (u % pP) v) = p at hf ⊢
        obtain ⟨a, b⟩ := p
        subst hf
        rfl⟩
      obtain ⟨s1, s2, s3⟩ := rootW_ok (tryV_lt _ _) hy
      rw [hx, hy, even_root hv t1 t2 t3 s1 s2 s3]
    | false =>
      rw [rootV_no hb]
      cases hf : (rootW (u % pP) v (tryV (u % pP) v)).2 with
      | false => exact rootW_no hf
      | true =>
        obtain ⟨y, hy⟩ : ∃ y, rootW (u % pP) v (tryV (u % pP) v) = (y, true) := ⟨(rootW (u % pP) v (tryV (u % pP) v)).1, by
          generalize rootW (u % pP) v (tryV (u % pP) v) = p at hf ⊢
          obtain ⟨a, b⟩ := p
          subst hf
          rfl⟩
        obtain ⟨s1, _, _⟩ := rootW_ok (tryV_lt _ _) hy
        have := rootV_found (u := u) (v := v) (z := y) (by rw [← s1]; exact Nat.mul_mod_mod _ _ _)
        rw [this] at hb
        cases hb
end Go.Proofs.YtggalphgnloneaaGreat
/- The document's answer to chapter 3: Root. -/
namespace Go.Proofs.YtggalphgnloneaaGreat
open Go.RowKit
def E4 : Nat := 14474011154664524427946373126085988481658748083205070504932198000989141204987
theorem e3_row : #[Value.int .u64 18446744073709551614, .int .u64 18446744073709551615, .int .u64 18446744073709551615, .int .u64 1152921504606846975] = r64 4 (F4 E3) := by kernel_rfl
theorem e3_built : Tryz.prog.built 39 [(0, .int .u64 18446744073709551614), (1, .int .u64 18446744073709551615), (2, .int .u64 18446744073709551615), (3, .int .u64 1152921504606846975)] = some #[.int .u64 18446744073709551614, .int .u64 18446744073709551615, .int .u64 18446744073709551615, .int .u64 1152921504606846975] := by kernel_rfl
theorem e4_row : #[Value.int .u64 18446744073709551611, .int .u64 18446744073709551615, .int .u64 18446744073709551615, .int .u64 2305843009213693951] = r64 4 (F4 E4) := by kernel_rfl
theorem e4_built : Tryz.prog.built 39 [(0, .int .u64 18446744073709551611), (1, .int .u64 18446744073709551615), (2, .int .u64 18446744073709551615), (3, .int .u64 2305843009213693951)] = some #[.int .u64 18446744073709551611, .int .u64 18446744073709551615, .int .u64 18446744073709551615, .int .u64 2305843009213693951] := by kernel_rfl
theorem pow_E4 (a : Nat) : powP a E4 = pmod pP a 254 E4 := (pmod_eq pP a 254 E4 (by decide)).symm
theorem iR_pow : powP 2 E4 = iR := by
  rw [pow_E4]
  decide +kernel
theorem rinvI (a : Nat) (w : World) (ha : a < M256) :
    Calls Tryz.prog 74 #[.agg (r64 4 (F4 a))] w fun e w' => e = .returned (.agg (r64 4 (F4 (invP a)))) ∧ Below w.heap.size w w' := rinvP a w ha
/-- The tries of the document's Root. -/
def xsV (x : Nat) : Nat → Nat
  | 0 => x
  | k + 1 => mulP (xsV x k) iR
theorem xsV_lt {x : Nat} (hx : x < M256) : ∀ k, xsV x k < M256
  | 0 => hx
  | _ + 1 => mulP_lt _ _
theorem xs_odd {u v x k : Nat} (hk : k < 2) (hn : ∀ j, j < k → ¬ tsV v (xsV x j) = u) (c : tsV v (xsV x k) = u) (ho : oddP (xsV x k) = true) : rootW u v x = (negP (xsV x k), true) := by
  match k, hk with
  | 0, _ => exact rootW_a c ho
  | 1, _ => exact rootW_c (y := xsV x 1) rfl (hn 0 (by omega)) c ho
theorem xs_even {u v x k : Nat} (hk : k < 2) (hn : ∀ j, j < k → ¬ tsV v (xsV x j) = u) (c : tsV v (xsV x k) = u) (ho : oddP (xsV x k) = false) : rootW u v x = (xsV x k, true) := by
  match k, hk with
  | 0, _ => exact rootW_b c ho
  | 1, _ => exact rootW_d (y := xsV x 1) rfl (hn 0 (by omega)) c ho
theorem xs_none {u v x : Nat} (hn : ∀ j, j < 2 → ¬ tsV v (xsV x j) = u) : rootW u v x = (0, false) :=
  rootW_e (y := xsV x 1) rfl (hn 0 (by omega)) (hn 1 (by omega))
set_option maxRecDepth 100000 in
set_option maxHeartbeats 8000000 in
theorem rroot_any (u v : Nat) (w : World) (hu : u < M256) (hv : v < M256) :
    Calls Tryz.prog 100 #[.agg (r64 4 (F4 u)), .agg (r64 4 (F4 v))] w fun e w' => e = .returned (.tuple #[.agg (r64 4 (F4 (rootW (u % pP) v (powP (mulP u (invP v)) E3)).1)), .bool (rootW (u % pP) v (powP (mulP u (invP v)) E3)).2]) ∧ Below w.heap.size w w' := by
  have HS := Lib.hid fe_size
  have hb := builtE
  have hb3 := e3_built
  have hb4 := e4_built
  have HI3 := Lib.hid e3_row
  have HI4 := Lib.hid e4_row
  have L0 := KF.start u v w
  have hi := invP_lt v
  have cinv := fun w => rinvI v w hv
  have cmul := fun w => rmulP u (invP v) w hu hi
  have hm := mulP_lt u (invP v)
  generalize invP v = iv at cinv cmul hm ⊢
  generalize mulP u iv = m at cmul hm ⊢
  have cpow := fun w => rpowP m E3 w hm (by decide)
  have cpi := fun w => rpowP 2 E4 w (by decide) (by decide)
  rw [iR_pow] at cpi
  have hx := powP_lt m E3
  generalize powP m E3 = x0 at cpow hx ⊢
  have cdig := fun w => digits_any u w hu
  have cwor := fun w => words_any (u % pP) w
  have hu1 : u % pP < M256 := mod_lt_M _
  generalize u % pP = u1 at cdig cwor hu1 ⊢
  generalize E3 = e3 at HI3 cpow
  generalize E4 = e4 at HI4 cpi
  go_enter Tryz.func100, Tryz.ntmps100
  go_wp2_with fail
  refine wp_gen (KF w.heap.size w [(w.heap.size, F4 u), (w.heap.size + 1, F4 v), (w.heap.size + 2, zF)]) L0 (fun w1 h1 => ?_)
  clear L0
  refine wp_region_anyA (TwoA 5 4 (KQ w.heap.size w [(w.heap.size, F4 u), (w.heap.size + 1, F4 v), (w.heap.size + 2, zF)] m)) 4 (by kernel_rfl) (KQ.begin h1.drew _) ?_
  refine anyA_take (i := 0) (v := .agg (r64 4 (F4 u))) rfl (by decide) (by kernel_rfl) (by kernel_rfl) (by kernel_rfl) (fun q => ya_other (by decide) (by decide) rfl (fun f1 f2 wx hT => ?_)) ?_
  · exact lands_fe _ rfl _ rfl _ (hT.k.blk _ m0) hT
  simp only [pu]
  refine anyA_take (i := 1) (v := .agg (r64 4 (F4 v))) rfl (by decide) (by kernel_rfl) (by kernel_rfl) (by kernel_rfl) (fun q => ya_other (by decide) (by decide) rfl (fun f1 f2 wx hT => ?_)) ?_
  · exact lands_fe _ rfl _ rfl _ (hT.k.blk _ m1) hT
  simp only [pu]
  refine anyA_take (i := 2) (v := .agg (r64 4 (F4 iv))) rfl (by decide) (by kernel_rfl) (by kernel_rfl) (by kernel_rfl) (fun q => ya_other (by decide) (by decide) rfl (fun f1 f2 wx hT => ?_)) ?_
  · exact lands_calls (w := wx) ((cinv wx).mono fun _ _ ⟨he, hb⟩ => ⟨he, hT.below hb⟩) (by go_simp)
  simp only [pu]
  refine anyA_take (i := 3) (v := .agg (r64 4 (F4 m))) rfl (by decide) (by kernel_rfl) (by kernel_rfl) (by kernel_rfl) (fun q => ya_other (by decide) (by decide) rfl (fun f1 f2 wx hT => ?_)) ?_
  · exact lands_calls (w := wx) ((cmul wx).mono fun _ _ ⟨he, hb⟩ => ⟨he, hT.below hb⟩) (by go_simp)
  simp only [pu]
  refine anyA_made rfl (by kernel_rfl) (by kernel_rfl) (by kernel_rfl) (fun q => ya_made (n := 3) (by decide) (by kernel_rfl) rfl (fun q' wx hT => ?_)) ?_
  · exact ⟨_, _, (by go_simp <;> rfl), hT.made⟩
  simp only [pu]
  refine anyA_take (i := 5) (v := undef) rfl (by decide) (by kernel_rfl) (by kernel_rfl) (by kernel_rfl) (fun q => ya_store (by decide) (by kernel_rfl) rfl (fun wx hT => ?_)) ?_
  · exact hT.stored _ _ rfl rfl rfl
  simp only [Act.put]
  refine anyA_done (by kernel_rfl) (fun q w2 (K : KQ _ _ _ _ true true q w2) => ?_) _
  obtain ⟨g6, rfl, h2, hl6, hB6⟩ := K.out
  clear K h1 cinv cmul hl6 hB6
  go_wp2_with (first
    | (refine wpList_load_row rfl 40 _ rfl g6 rfl 40 _ (0, 0) _ (h2.blk _ m0) Tryz.underlying40 rfl (HS.out _) ?_))
  rw [HI3.out]
  refine (cpow _).mono ?_
  rintro e w3 ⟨rfl, hq⟩
  have h3 := h2.below hq
  clear h2 hq cpow hb3
  go_wp2_with (first
    | (refine wpList_store_row rfl 40 _ _ rfl w3.heap.size (r64 4 (F4 x0)) rfl rfl 40 (r64 4 zF) ((Blk.new w3 _ _).cast_ zero4') (HS.out _) (by simp only [row_size]) (row_one fun _ => rfl) ?_; refine wpList_gen (KF w.heap.size w ((w3.heap.size, F4 x0) :: (g6, F4 m) :: [(w.heap.size, F4 u), (w.heap.size + 1, F4 v), (w.heap.size + 2, zF)])) (h3.new _ _) (fun w4 h4 => ?_)))
  have l7 : w.heap.size + 2 < w3.heap.size := h3.lt _ m3
  clear h3
  generalize w3.heap.size = g7 at h4 l7 ⊢
  refine (rsmall2 _).mono ?_
  rintro e w5 ⟨rfl, hq⟩
  have h5 := h4.below hq
  clear h4 hq
  go_wp2_with fail
  rw [HI4.out]
  refine (cpi _).mono ?_
  rintro e w6 ⟨rfl, hq⟩
  have h6 := h5.below hq
  clear h5 hq cpi hb4
  go_wp2_with (first
    | (refine wpList_store_row rfl 40 _ _ rfl w6.heap.size (r64 4 (F4 iR)) rfl rfl 40 (r64 4 zF) ((Blk.new w6 _ _).cast_ zero4') (HS.out _) (by simp only [row_size]) (row_one fun _ => rfl) ?_; refine wpList_gen (KF w.heap.size w ((w6.heap.size, F4 iR) :: (g7, F4 x0) :: (g6, F4 m) :: [(w.heap.size, F4 u), (w.heap.size + 1, F4 v), (w.heap.size + 2, zF)])) (h6.new _ _) (fun w7 h7 => ?_))
    | (refine wpList_load_row rfl 40 _ rfl w.heap.size rfl 40 _ (0, 0) _ (h7.blk _ m3) Tryz.underlying40 rfl (HS.out _) ?_))
  have l8 : g7 < w6.heap.size := h6.lt _ m0
  clear h6
  generalize w6.heap.size = g8 at h7 l8 ⊢
  refine (cdig _).mono ?_
  rintro e w8 ⟨rfl, hq⟩
  have h8 := h7.below hq
  clear h7 hq cdig
  go_wp2_with fail
  refine (cwor _).mono ?_
  rintro e w9 ⟨rfl, hq⟩
  have h9 := h8.below hq
  clear h8 hq cwor
  go_wp2_with (first
    | (refine wpList_store_row rfl 40 _ _ rfl w9.heap.size (r64 4 (F4 u1)) rfl rfl 40 (r64 4 zF) ((Blk.new w9 _ _).cast_ zero4') (HS.out _) (by simp only [row_size]) (row_one fun _ => rfl) ?_; refine wpList_gen (KF w.heap.size w ((w9.heap.size, F4 u1) :: (g8, F4 iR) :: (g7, F4 x0) :: (g6, F4 m) :: [(w.heap.size, F4 u), (w.heap.size + 1, F4 v), (w.heap.size + 2, zF)])) (h9.new _ _) (fun wa ha => ?_)))
  have l9 : g8 < w9.heap.size := h9.lt _ m0
  clear h9
  generalize w9.heap.size = g9 at ha l9 ⊢
  have hr0 : KF w.heap.size w [(g7, F4 (xsV x0 0)), (w.heap.size + 1, F4 v), (w.heap.size + 2, zF), (g8, F4 iR), (g9, F4 u1)] wa := ha.sub (fun x hx => by
    simp only [List.mem_cons, List.not_mem_nil, or_false] at hx ⊢
    rcases hx with rfl | rfl | rfl | rfl | rfl
    · exact .inr (.inr (.inl rfl))
    · exact .inr (.inr (.inr (.inr (.inr (.inl rfl)))))
    · exact .inr (.inr (.inr (.inr (.inr (.inr rfl)))))
    · exact .inr (.inl rfl)
    · exact .inl rfl)
  have hg7 : Hid (∀ x ∈ [(w.heap.size + 1, F4 v), (w.heap.size + 2, zF), (g8, F4 iR), (g9, F4 u1)], x.1 ≠ g7) := Lib.hid (by
    intro x hx
    simp only [List.mem_cons, List.not_mem_nil, or_false] at hx
    rcases hx with rfl | rfl | rfl | rfl
    · show w.heap.size + 1 ≠ g7; omega
    · show w.heap.size + 2 ≠ g7; omega
    · show g8 ≠ g7; omega
    · show g9 ≠ g7; omega)
  clear ha
  go_loopw [10] (fun i wr => ∃ k : Nat, k ≤ 2 ∧ i = .int .i64 (k : Int) ∧ Hid (∀ j, j < k → ¬ tsV v (xsV x0 j) = u1) ∧ KF w.heap.size w [(g7, F4 (xsV x0 k)), (w.heap.size + 1, F4 v), (w.heap.size + 2, zF), (g8, F4 iR), (g9, F4 u1)] wr) (fun i _ => 2 - (intOf i).toNat)
  case atStart => exact ⟨0, by omega, rfl, Lib.hid (fun j hj => by omega), hr0⟩
  case round =>
    obtain ⟨k, hk, rfl, HN, hr⟩ := hrel
    clear hr0
    by_cases hlt : k < 2
    · have hxk := xsV_lt hx k
      by_cases c : tsV v (xsV x0 k) = u1
      · have HO := Lib.hid (fun ho => xs_odd hlt HN.out c ho)
        have HE := Lib.hid (fun ho => xs_even hlt HN.out c ho)
        have HC := Lib.hid (decide_eq_true c)
        clear HN c
        go_wp2_with fail
        clear hlt hk
        generalize xsV x0 k = x at HO HE HC hr hxk ⊢
        refine wp_region_anyL (Two 1000 1001 fun _ _ wx => KF w.heap.size w [(g7, F4 x), (w.heap.size + 1, F4 v), (w.heap.size + 2, zF), (g8, F4 iR), (g9, F4 u1)] wx) (by kernel_rfl) hr.drew ?_
        refine anyL_take (i := 0) (v := .agg (r64 4 (F4 v))) rfl (by kernel_rfl) (by kernel_rfl) (by kernel_rfl) (yl_other (by decide) (by decide) rfl (fun f1 f2 wx hT => ?_)) ?_
        · exact lands_fe _ rfl _ rfl _ (hT.blk _ m1) hT
        simp only [pu]
        refine anyL_take (i := 1) (v := .agg (r64 4 (F4 x))) rfl (by kernel_rfl) (by kernel_rfl) (by kernel_rfl) (yl_other (by decide) (by decide) rfl (fun f1 f2 wx hT => ?_)) ?_
        · exact lands_fe _ rfl _ rfl _ (hT.blk _ m0) hT
        simp only [pu]
        refine anyL_take (i := 2) (v := .agg (r64 4 (F4 x))) rfl (by kernel_rfl) (by kernel_rfl) (by kernel_rfl) (yl_other (by decide) (by decide) rfl (fun f1 f2 wx hT => ?_)) ?_
        · exact lands_fe _ rfl _ rfl _ (hT.blk _ m0) hT
        simp only [pu]
        refine anyL_take (i := 3) (v := .agg (r64 4 (F4 (mulP x x)))) rfl (by kernel_rfl) (by kernel_rfl) (by kernel_rfl) (yl_other (by decide) (by decide) rfl (fun f1 f2 wx hT => ?_)) ?_
        · exact lands_calls (w := wx) ((rmulP x x wx hxk hxk).mono fun _ _ ⟨he, hb⟩ => ⟨he, hT.below hb⟩) (by go_simp)
        simp only [pu]
        refine anyL_take (i := 4) (v := .agg (r64 4 (F4 (tsV v x)))) rfl (by kernel_rfl) (by kernel_rfl) (by kernel_rfl) (yl_other (by decide) (by decide) rfl (fun f1 f2 wx hT => ?_)) ?_
        · exact lands_calls (w := wx) ((rmulP v (mulP x x) wx hv (mulP_lt _ _)).mono fun _ _ ⟨he, hb⟩ => ⟨he, hT.below hb⟩) (by go_simp)
        simp only [pu]
        refine anyL_take (i := 5) (v := .agg (r64 4 (F4 u1))) rfl (by kernel_rfl) (by kernel_rfl) (by kernel_rfl) (yl_other (by decide) (by decide) rfl (fun f1 f2 wx hT => ?_)) ?_
        · exact lands_fe _ rfl _ rfl _ (hT.blk _ m4) hT
        simp only [pu]
        refine anyL_take (i := 6) (v := .bool true) rfl (by kernel_rfl) (by kernel_rfl) (by kernel_rfl) (yl_other (by decide) (by decide) rfl (fun f1 f2 wx hT => ?_)) ?_
        · exact lands_eql _ _ rfl (tsV v x) u1 rfl rfl (mod_lt_M _) hu1 true HC.out hT
        simp only [pu]
        refine anyL_done (by kernel_rfl) (fun ws (hs : KF w.heap.size w [(g7, F4 x), (w.heap.size + 1, F4 v), (w.heap.size + 2, zF), (g8, F4 iR), (g9, F4 u1)] ws) => ?_) _
        clear hr HC
        go_wp2_with (first
          | (refine wpList_load_row rfl 40 _ rfl g7 rfl 40 _ (0, 0) _ (hs.blk _ m0) Tryz.underlying40 rfl (HS.out _) ?_))
        refine (roddP x _ hxk).mono ?_
        rintro e wt ⟨rfl, hq⟩
        have ht := hs.below hq
        clear hq hs
        cases ho : oddP x with
        | true =>
          have HV := Lib.hid (HO.out ho)
          clear ho HO HE
          go_wp2_with (first
            | (refine wpList_load_row rfl 40 _ rfl g7 rfl 40 _ (0, 0) _ (ht.blk _ m0) Tryz.underlying40 rfl (HS.out _) ?_))
          refine (rnegP x _ hxk).mono ?_
          rintro e wn ⟨rfl, hq⟩
          have hn := ht.below hq
          clear hq ht
          generalize negP x = y at HV ⊢
          go_wp2_with (first
            | (refine wpList_store_row rfl 40 _ _ rfl g7 (r64 4 (F4 y)) rfl rfl 40 _ (hn.blk _ m0) (HS.out _) (by simp only [row_size]) (row_one fun _ => rfl) ?_; refine wpList_gen (KF w.heap.size w [(g7, F4 y), (w.heap.size + 1, F4 v), (w.heap.size + 2, zF), (g8, F4 iR), (g9, F4 u1)]) (hn.put0 (by omega) hg7.out _) (fun wz hz => ?_))
            | (refine wpList_load_row rfl 40 _ rfl g7 rfl 40 _ (0, 0) _ (hz.blk _ m0) Tryz.underlying40 rfl (HS.out _) ?_)
            | (refine wpList_store_row rfl 40 _ _ rfl (w.heap.size + 2) (r64 4 (F4 y)) rfl rfl 40 _ (hz.blk _ m2) (HS.out _) (by simp only [row_size]) (row_one fun _ => rfl) ?_))
          exact bodyPost_ret (results_cell_row_slot rfl _ _ (w.heap.size + 2) 40 (r64 4 (F4 y)) (0, 0) _ _ rfl ((hz.blk _ m2).row_ _) Tryz.underlying40 rfl (HS.out _) rfl) rfl ⟨by rw [HV.out]; rfl, below_setRow' hz.b (by omega) _⟩
        | false =>
          have HV := Lib.hid (HE.out ho)
          clear ho HO HE
          go_wp2_with (first
            | (refine wpList_load_row rfl 40 _ rfl g7 rfl 40 _ (0, 0) _ (ht.blk _ m0) Tryz.underlying40 rfl (HS.out _) ?_)
            | (refine wpList_store_row rfl 40 _ _ rfl (w.heap.size + 2) (r64 4 (F4 x)) rfl rfl 40 _ (ht.blk _ m2) (HS.out _) (by simp only [row_size]) (row_one fun _ => rfl) ?_))
          exact bodyPost_ret (results_cell_row_slot rfl _ _ (w.heap.size + 2) 40 (r64 4 (F4 x)) (0, 0) _ _ rfl ((ht.blk _ m2).row_ _) Tryz.underlying40 rfl (HS.out _) rfl) rfl ⟨by rw [HV.out]; rfl, below_setRow' ht.b (by omega) _⟩
      · have HN' : Hid (∀ j, j < k + 1 → ¬ tsV v (xsV x0 j) = u1) := Lib.hid (fun j hj => by
          by_cases h : j = k
          · subst h; exact c
          · exact HN.out j (by omega))
        have HC := Lib.hid (decide_eq_false c)
        have HX := Lib.hid (show xsV x0 (k + 1) = mulP (xsV x0 k) iR from rfl)
        clear HN c
        go_wp2_with fail
        generalize xsV x0 k = x at HX HC hr hxk
        refine wp_region_anyL (Two 1000 1001 fun _ _ wx => KF w.heap.size w [(g7, F4 x), (w.heap.size + 1, F4 v), (w.heap.size + 2, zF), (g8, F4 iR), (g9, F4 u1)] wx) (by kernel_rfl) hr.drew ?_
        refine anyL_take (i := 0) (v := .agg (r64 4 (F4 v))) rfl (by kernel_rfl) (by kernel_rfl) (by kernel_rfl) (yl_other (by decide) (by decide) rfl (fun f1 f2 wx hT => ?_)) ?_
        · exact lands_fe _ rfl _ rfl _ (hT.blk _ m1) hT
        simp only [pu]
        refine anyL_take (i := 1) (v := .agg (r64 4 (F4 x))) rfl (by kernel_rfl) (by kernel_rfl) (by kernel_rfl) (yl_other (by decide) (by decide) rfl (fun f1 f2 wx hT => ?_)) ?_
        · exact lands_fe _ rfl _ rfl _ (hT.blk _ m0) hT
        simp only [pu]
        refine anyL_take (i := 2) (v := .agg (r64 4 (F4 x))) rfl (by kernel_rfl) (by kernel_rfl) (by kernel_rfl) (yl_other (by decide) (by decide) rfl (fun f1 f2 wx hT => ?_)) ?_
        · exact lands_fe _ rfl _ rfl _ (hT.blk _ m0) hT
        simp only [pu]
        refine anyL_take (i := 3) (v := .agg (r64 4 (F4 (mulP x x)))) rfl (by kernel_rfl) (by kernel_rfl) (by kernel_rfl) (yl_other (by decide) (by decide) rfl (fun f1 f2 wx hT => ?_)) ?_
        · exact lands_calls (w := wx) ((rmulP x x wx hxk hxk).mono fun _ _ ⟨he, hb⟩ => ⟨he, hT.below hb⟩) (by go_simp)
        simp only [pu]
        refine anyL_take (i := 4) (v := .agg (r64 4 (F4 (tsV v x)))) rfl (by kernel_rfl) (by kernel_rfl) (by kernel_rfl) (yl_other (by decide) (by decide) rfl (fun f1 f2 wx hT => ?_)) ?_
        · exact lands_calls (w := wx) ((rmulP v (mulP x x) wx hv (mulP_lt _ _)).mono fun _ _ ⟨he, hb⟩ => ⟨he, hT.below hb⟩) (by go_simp)
        simp only [pu]
        refine anyL_take (i := 5) (v := .agg (r64 4 (F4 u1))) rfl (by kernel_rfl) (by kernel_rfl) (by kernel_rfl) (yl_other (by decide) (by decide) rfl (fun f1 f2 wx hT => ?_)) ?_
        · exact lands_fe _ rfl _ rfl _ (hT.blk _ m4) hT
        simp only [pu]
        refine anyL_take (i := 6) (v := .bool false) rfl (by kernel_rfl) (by kernel_rfl) (by kernel_rfl) (yl_other (by decide) (by decide) rfl (fun f1 f2 wx hT => ?_)) ?_
        · exact lands_eql _ _ rfl (tsV v x) u1 rfl rfl (mod_lt_M _) hu1 false HC.out hT
        simp only [pu]
        refine anyL_done (by kernel_rfl) (fun ws (hs : KF w.heap.size w [(g7, F4 x), (w.heap.size + 1, F4 v), (w.heap.size + 2, zF), (g8, F4 iR), (g9, F4 u1)] ws) => ?_) _
        clear hr HC
        go_wp2_with (first
          | (refine wpList_load_row rfl 40 _ rfl g7 rfl 40 _ (0, 0) _ (hs.blk _ m0) Tryz.underlying40 rfl (HS.out _) ?_)
          | (refine wpList_load_row rfl 40 _ rfl g8 rfl 40 _ (0, 0) _ (hs.blk _ m3) Tryz.underlying40 rfl (HS.out _) ?_))
        refine (rmulP x iR _ hxk (by decide)).mono ?_
        rintro e wm ⟨rfl, hq⟩
        have hm' := hs.below hq
        clear hq hs
        rw [← HX.out]
        go_wp2_with (first
          | (refine wpList_store_row rfl 40 _ _ rfl g7 (r64 4 (F4 (xsV x0 (k + 1)))) rfl rfl 40 _ (hm'.blk _ m0) (HS.out _) (by simp only [row_size]) (row_one fun _ => rfl) ?_; refine wpList_gen (KF w.heap.size w [(g7, F4 (xsV x0 (k + 1))), (w.heap.size + 1, F4 v), (w.heap.size + 2, zF), (g8, F4 iR), (g9, F4 u1)]) (hm'.put0 (by omega) hg7.out _) (fun wz hz => ?_)))
        go_roundw
        case rel => exact ⟨k + 1, by omega, by go_num, HN', hz⟩
        case measure => simp [intOf]; omega
    · obtain rfl : k = 2 := by omega
      have HV := Lib.hid (xs_none HN.out)
      clear HN hlt hk
      go_wp2_with (first
        | (refine wpList_store_row rfl 40 _ _ rfl (w.heap.size + 2) (r64 4 (F4 0)) rfl (congrArg Value.agg zero4F) 40 _ (hr.blk _ m2) (HS.out _) (by simp only [row_size]) (row_one fun _ => rfl) ?_))
      exact bodyPost_ret (results_cell_row_slot rfl _ _ (w.heap.size + 2) 40 (r64 4 (F4 0)) (0, 0) _ _ rfl ((hr.blk _ m2).row_ _) Tryz.underlying40 rfl (HS.out _) rfl) rfl ⟨by rw [HV.out]; rfl, below_setRow' hr.b (by omega) _⟩
end Go.Proofs.YtggalphgnloneaaGreat
