/- Make of the layer field. -/
import Derived.Test.YtjggclhhimccoaaGt
import Derived.Test.YtjggclhhimccoaaGo
import Derived.StillTailTactics
import Derived.IntWalk
namespace Go.Proofs.Ytjggclhhimccoaa
open Go.RowKit
def byteS (s : ByteArray) (j : Nat) : Nat := if h : j < s.size then (s[j]).toNat else 0
theorem byteS_lt (s : ByteArray) (j : Nat) : byteS s j < 256 := by
  unfold byteS; split
  · exact UInt8.toNat_lt _
  · decide
theorem byteS_at (s : ByteArray) (j : Nat) (h : j < s.size) : (s[j]).toNat = byteS s j := by unfold byteS; rw [dif_pos h]
def makeV (s : ByteArray) : Nat × Bool := if s.size = 32 then (if bv (byteS s) 32 % pP = bv (byteS s) 32 then (bv (byteS s) 32, true) else (0, false)) else (0, false)
/-- Within Make: the result, and the number so far. -/
structure MkW (s : ByteArray) (k : Nat) (w wr : World) : Prop where
  r : Blk wr w.heap.size 24 (r64 4 zF)
  o : Blk wr (w.heap.size + 1) 24 (r64 4 (F4 (bv (byteS s) k)))
  l : Below w.heap.size w wr
theorem MkW.drew {s : ByteArray} {k : Nat} {w wr : World} (h : MkW s k w wr) : MkW s k w wr.drew := ⟨h.r, h.o, h.l.drew⟩
theorem MkW.below {s : ByteArray} {k : Nat} {w wr w' : World} (h : MkW s k w wr) (hb : Below wr.heap.size wr w') : MkW s k w w' := ⟨h.r.below hb h.r.lt, h.o.below hb h.o.lt, h.l.trans (hb.mono h.l.size)⟩
theorem MkW.put {s : ByteArray} {k q r : Nat} {w wr : World} (h : MkW s k w wr) (hk : k = 8 * q + r) (hr : r < 8) (hq : q < 4) : MkW s (k + 1) w (wr.setCell ⟨w.heap.size + 1, q, none⟩ (.int .u64 (iw (orw (F4 (bv (byteS s) k) q) (shlw (nw (byteS s k)) (8 * r)))))) :=
  ⟨h.r.far (by simp) _, (h.o.put hq _).cast_ (row_ext fun i hi => by
    subst hk
    by_cases h1 : i = q
    · subst h1; rw [if_pos rfl, bv_word _ (byteS_lt s) _ _ hr]
    · rw [if_neg h1, bv_other _ (byteS_lt s) q r i hr h1]), h.l.setCell (by simp) _⟩
theorem bv_zero (f : Nat → Nat) : r64 4 zF = r64 4 (F4 (bv f 0)) := row_ext fun i _ => by
  show _ = Value.int .u64 (iw (F4 0 i)); rw [F4_zero]; rfl
theorem bv_ltM (s : ByteArray) : bv (byteS s) 32 < M256 := bv_lt _ (byteS_lt s) 32
set_option maxRecDepth 100000 in
set_option maxHeartbeats 2000000 in
theorem fmake_short (s : ByteArray) (w : World) (h : ¬ s.size = 32) :
    Calls Try.prog 20 #[.string s] w fun e w' => e = .returned (.tuple #[.agg (r64 4 (F4 0)), .bool false]) ∧ Below w.heap.size w w' := by
  have HS := Lib.hid fe_size
  have hc : ((s.size : Int) != 32) = true := by rw [bne_iff_ne]; omega
  have hb := builtE
  have Z0 : Blk (w.alloc (.cells #[.int .u64 0, .int .u64 0, .int .u64 0, .int .u64 0] 24)) w.heap.size 24 (r64 4 zF) := (Blk.new w _ _).cast_ zero4'
  go_enter Try.func20, Try.ntmps20
  go_wp2_with (refine wpList_store_row rfl 24 _ _ rfl w.heap.size (r64 4 (F4 0)) rfl (congrArg Value.agg zero4F) 24 _ Z0 (HS.out _) (by simp only [row_size]) (row_one fun _ => rfl) ?_)
  exact bodyPost_ret (results_cell_row_slot rfl _ _ w.heap.size 24 (r64 4 (F4 0)) (0, 0) _ _ rfl (Z0.row_ _) Try.underlying24 rfl (HS.out _) rfl) rfl ⟨rfl, below_setRow' ((Below.refl _ _).alloc (Nat.le_refl _) _) (by omega) _⟩
set_option maxRecDepth 100000 in
set_option maxHeartbeats 4000000 in
theorem fmake_long (s : ByteArray) (w : World) (h : s.size = 32) :
    Calls Try.prog 20 #[.string s] w fun e w' => e = .returned (.tuple #[.agg (r64 4 (F4 (makeV s).1)), .bool (makeV s).2]) ∧ Below w.heap.size w w' := by
  have HS := Lib.hid fe_size
  have hc : ((s.size : Int) != 32) = false := by rw [h]; rfl
  have hb := builtE
  have H := Lib.hid h
  have hal : Try.prog.arrayLen 24 = 4 := by kernel_rfl
  clear h
  go_enter Try.func20, Try.ntmps20
  go_wp2_with fail
  clear hc
  go_loopw [10] (fun i wr => ∃ k : Nat, k ≤ 32 ∧ i = .int .i64 (k : Int) ∧ MkW s k w wr) (fun i _ => 32 - (intOf i).toNat)
  case atStart => exact ⟨0, by omega, rfl, ⟨((Blk.new w _ _).alloc _).cast_ zero4', (Blk.new _ _ _).cast' ⟨by simp, zero4'.trans (bv_zero _)⟩, ((Below.refl _ _).alloc (Nat.le_refl _) _).alloc (by simp) _⟩⟩
  case round =>
    obtain ⟨k, hk, rfl, hr⟩ := hrel
    by_cases hlt : k < 32
    · obtain ⟨q, hqd⟩ : ∃ q, q = k / 8 := ⟨_, rfl⟩
      obtain ⟨r, hrd⟩ : ∃ r, r = k % 8 := ⟨_, rfl⟩
      have hq4 : q < 4 := by omega
      have hr8' : r < 8 := by omega
      have hq : (k : Int).tdiv 8 = (q : Int) := by rw [Int.tdiv_eq_ediv_of_nonneg (by omega)]; omega
      have hr8 : (k : Int).tmod 8 = (r : Int) := by rw [Int.tmod_eq_emod_of_nonneg (by omega)]; omega
      have hks : k < s.size := by rw [H.out]; exact hlt
      have HB := Lib.hid (byteS_at s k hks)
      have hb256 := byteS_lt s k
      have hkq : k = 8 * q + r := by omega
      have HPUT : Hid (∀ wx, MkW s k w wx → MkW s (k + 1) w (wx.setCell ⟨w.heap.size + 1, q, none⟩ (.int .u64 (iw (orw (F4 (bv (byteS s) k) q) (shlw (nw (byteS s k)) (8 * r))))))) := Lib.hid (fun wx hx => hx.put hkq hr8' hq4)
      have hl0 : (q : Int) < 4 := by omega
      have hl1 : (0 : Int) ≤ q := by omega
      clear hqd hrd hkq
      go_wp2_with fail
      refine wp_region_anyL (Two 14 1000 fun f1 _ wx => MkW s (if f1 then k + 1 else k) w wx) (by kernel_rfl) hr.drew ?_
      refine anyL_take (i := 0) (v := ?_) rfl (by kernel_rfl) (by kernel_rfl) (by kernel_rfl) (yl_other (by decide) (by decide) rfl (fun f1 f2 wx hT => ?_)) ?_; rotate_left
      · refine lands_value (w := wx) ?_ hT; go_simp <;> rfl
      simp only [Act.put, List.setIfInBounds_toArray, List.set_cons_zero, List.set_cons_succ]
      refine anyL_take (i := 1) (v := .int .i64 (q : Int)) rfl (by kernel_rfl) (by kernel_rfl) (by kernel_rfl) (yl_other (by decide) (by decide) rfl (fun f1 f2 wx hT => ?_)) ?_
      · refine lands_value (w := wx) ?_ hT; go_simp; exact IntWalk.i64_in _ (by omega)
      simp only [Act.put, List.setIfInBounds_toArray, List.set_cons_zero, List.set_cons_succ]
      refine anyL_take (i := 2) (v := ?_) rfl (by kernel_rfl) (by kernel_rfl) (by kernel_rfl) (yl_other (by decide) (by decide) rfl (fun f1 f2 wx hT => ?_)) ?_; rotate_left
      · refine lands_value (w := wx) ?_ hT; go_simp <;> rfl
      simp only [Act.put, List.setIfInBounds_toArray, List.set_cons_zero, List.set_cons_succ]
      refine anyL_take (i := 3) (v := .int .u64 (iw (F4 (bv (byteS s) k) q))) rfl (by kernel_rfl) (by kernel_rfl) (by kernel_rfl) (yl_ahead (n := 9) (by decide) (by decide) (by kernel_rfl) rfl (fun f2 wx hT => ?_)) ?_
      · have c0 := hT.o.at_ hq4; refine lands_value (w := wx) ?_ hT; go_simp; skip
      simp only [Act.put, List.setIfInBounds_toArray, List.set_cons_zero, List.set_cons_succ]
      refine anyL_take (i := 4) (v := ?_) rfl (by kernel_rfl) (by kernel_rfl) (by kernel_rfl) (yl_other (by decide) (by decide) rfl (fun f1 f2 wx hT => ?_)) ?_; rotate_left
      · refine lands_value (w := wx) ?_ hT; go_simp <;> rfl
      simp only [Act.put, List.setIfInBounds_toArray, List.set_cons_zero, List.set_cons_succ]
      refine anyL_take (i := 5) (v := ?_) rfl (by kernel_rfl) (by kernel_rfl) (by kernel_rfl) (yl_other (by decide) (by decide) rfl (fun f1 f2 wx hT => ?_)) ?_; rotate_left
      · refine lands_value (w := wx) ?_ hT; go_simp <;> rfl
      simp only [Act.put, List.setIfInBounds_toArray, List.set_cons_zero, List.set_cons_succ]
      refine anyL_take (i := 6) (v := .int .u8 (byteS s k : Int)) rfl (by kernel_rfl) (by kernel_rfl) (by kernel_rfl) (yl_other (by decide) (by decide) rfl (fun f1 f2 wx hT => ?_)) ?_
      · refine lands_value (w := wx) ?_ hT; go_simp; rw [HB.out]
      simp only [Act.put, List.setIfInBounds_toArray, List.set_cons_zero, List.set_cons_succ]
      refine anyL_take (i := 7) (v := .int .u64 (iw (nw (byteS s k)))) rfl (by kernel_rfl) (by kernel_rfl) (by kernel_rfl) (yl_other (by decide) (by decide) rfl (fun f1 f2 wx hT => ?_)) ?_
      · refine lands_value (w := wx) ?_ hT; go_simp; unfold iw; rw [nw_nat _ (by unfold W64; omega), IntKind.wrap_u64]; omega
      simp only [Act.put, List.setIfInBounds_toArray, List.set_cons_zero, List.set_cons_succ]
      refine anyL_take (i := 8) (v := ?_) rfl (by kernel_rfl) (by kernel_rfl) (by kernel_rfl) (yl_other (by decide) (by decide) rfl (fun f1 f2 wx hT => ?_)) ?_; rotate_left
      · refine lands_value (w := wx) ?_ hT; go_simp <;> rfl
      simp only [Act.put, List.setIfInBounds_toArray, List.set_cons_zero, List.set_cons_succ]
      refine anyL_take (i := 9) (v := .int .i64 (r : Int)) rfl (by kernel_rfl) (by kernel_rfl) (by kernel_rfl) (yl_other (by decide) (by decide) rfl (fun f1 f2 wx hT => ?_)) ?_
      · refine lands_value (w := wx) ?_ hT; go_simp; skip
      simp only [Act.put, List.setIfInBounds_toArray, List.set_cons_zero, List.set_cons_succ]
      refine anyL_take (i := 10) (v := .int .i64 ((8 * r : Nat) : Int)) rfl (by kernel_rfl) (by kernel_rfl) (by kernel_rfl) (yl_other (by decide) (by decide) rfl (fun f1 f2 wx hT => ?_)) ?_
      · refine lands_value (w := wx) ?_ hT; go_simp; rw [IntWalk.i64_in _ (by omega)]; omega
      simp only [Act.put, List.setIfInBounds_toArray, List.set_cons_zero, List.set_cons_succ]
      refine anyL_take (i := 11) (v := .int .u64 (iw (shlw (nw (byteS s k)) (8 * r)))) rfl (by kernel_rfl) (by kernel_rfl) (by kernel_rfl) (yl_other (by decide) (by decide) rfl (fun f1 f2 wx hT => ?_)) ?_
      · refine lands_value (w := wx) ?_ hT; go_simp; rw [show (8 * (r : Int)).toNat = 8 * r by omega]
      simp only [Act.put, List.setIfInBounds_toArray, List.set_cons_zero, List.set_cons_succ]
      refine anyL_take (i := 12) (v := .int .u64 (iw (orw (F4 (bv (byteS s) k) q) (shlw (nw (byteS s k)) (8 * r))))) rfl (by kernel_rfl) (by kernel_rfl) (by kernel_rfl) (yl_other (by decide) (by decide) rfl (fun f1 f2 wx hT => ?_)) ?_
      · refine lands_value (w := wx) ?_ hT; go_simp; skip
      simp only [Act.put, List.setIfInBounds_toArray, List.set_cons_zero, List.set_cons_succ]
      refine anyL_take (i := 13) (v := ?_) rfl (by kernel_rfl) (by kernel_rfl) (by kernel_rfl) (yl_other (by decide) (by decide) rfl (fun f1 f2 wx hT => ?_)) ?_; rotate_left
      · refine lands_value (w := wx) ?_ hT; go_simp <;> rfl
      simp only [Act.put, List.setIfInBounds_toArray, List.set_cons_zero, List.set_cons_succ]
      refine anyL_take (i := 14) (v := undef) rfl (by kernel_rfl) (by kernel_rfl) (by kernel_rfl) (yl_first (by decide) rfl (fun f2 wx hT => ?_)) ?_
      · have co := hT.o.at_ hq4; have fo := hT.o.frozen q; have K := HPUT.out _ hT; go_simp; exact ⟨rfl, K⟩
      simp only [Act.put]
      refine anyL_done (by kernel_rfl) (fun w3 (K : MkW s (k + 1) w w3) => ?_) _
      clear hr HPUT hq hr8
      go_wp2_with fail
      go_roundw
      case rel => exact ⟨k + 1, by omega, by go_num, K⟩
      case measure => simp [intOf]; omega
    · obtain rfl : k = 32 := by omega
      have hl := bv_ltM s
      have ho := hr.o
      have hz := hr.r
      have hL := hr.l
      clear hr
      by_cases c : bv (byteS s) 32 % pP = bv (byteS s) 32
      · have HV : Hid (makeV s = (bv (byteS s) 32, true)) := Lib.hid (by unfold makeV; rw [if_pos H.out, if_pos c])
        have CR := Lib.hid (fun w => fright_true (bv (byteS s) 32) w hl c)
        clear c hlt hk
        generalize bv (byteS s) 32 = n at HV CR ho hl
        go_wp2_with (refine wpList_load_row rfl 24 _ rfl (w.heap.size + 1) rfl 24 _ (0, 0) _ ho Try.underlying24 rfl (HS.out _) ?_)
        refine (CR.out _).mono ?_
        rintro e w3 ⟨rfl, hq⟩
        have ho3 := ho.below hq ho.lt
        have hz3 := hz.below hq hz.lt
        have hL3 := hL.trans (hq.mono hL.size)
        clear ho hz hL hq CR
        go_wp2_with (first
          | (refine wpList_load_row rfl 24 _ rfl (w.heap.size + 1) rfl 24 _ (0, 0) _ ho3 Try.underlying24 rfl (HS.out _) ?_)
          | (refine wpList_store_row rfl 24 _ _ rfl w.heap.size (r64 4 (F4 n)) rfl rfl 24 _ hz3 (HS.out _) (by simp only [row_size]) (row_one fun _ => rfl) ?_))
        exact bodyPost_ret (results_cell_row_slot rfl _ _ w.heap.size 24 (r64 4 (F4 n)) (0, 0) _ _ rfl (hz3.row_ _) Try.underlying24 rfl (HS.out _) rfl) rfl ⟨by rw [HV.out]; rfl, below_setRow' hL3 (by omega) _⟩
      · have HV : Hid (makeV s = (0, false)) := Lib.hid (by unfold makeV; rw [if_pos H.out, if_neg c])
        have CR := Lib.hid (fun w => fright_false (bv (byteS s) 32) w hl c)
        clear c hlt hk
        generalize bv (byteS s) 32 = n at HV CR ho hl
        go_wp2_with (refine wpList_load_row rfl 24 _ rfl (w.heap.size + 1) rfl 24 _ (0, 0) _ ho Try.underlying24 rfl (HS.out _) ?_)
        refine (CR.out _).mono ?_
        rintro e w3 ⟨rfl, hq⟩
        have hz3 := hz.below hq hz.lt
        have hL3 := hL.trans (hq.mono hL.size)
        clear ho hz hL hq CR
        go_wp2_with (refine wpList_store_row rfl 24 _ _ rfl w.heap.size (r64 4 (F4 0)) rfl (congrArg Value.agg zero4F) 24 _ hz3 (HS.out _) (by simp only [row_size]) (row_one fun _ => rfl) ?_)
        exact bodyPost_ret (results_cell_row_slot rfl _ _ w.heap.size 24 (r64 4 (F4 0)) (0, 0) _ _ rfl (hz3.row_ _) Try.underlying24 rfl (HS.out _) rfl) rfl ⟨by rw [HV.out]; rfl, below_setRow' hL3 (by omega) _⟩
theorem fmake_any (s : ByteArray) (w : World) :
    Calls Try.prog 20 #[.string s] w fun e w' => e = .returned (.tuple #[.agg (r64 4 (F4 (makeV s).1)), .bool (makeV s).2]) ∧ Below w.heap.size w w' := by
  by_cases h : s.size = 32
  · exact fmake_long s w h
  · have hV : makeV s = (0, false) := by unfold makeV; rw [if_neg h]
    rw [hV]; exact fmake_short s w h
end Go.Proofs.Ytjggclhhimccoaa
