/- Reduce of the document's answer, of any text; Right. -/
import Derived.Test.YtnfcgpoafmmioaaKe
namespace Go.Proofs.Ytnfcgpoafmmioaa
open Go.RowKit
set_option maxRecDepth 100000 in
set_option maxHeartbeats 4000000 in
theorem rreduce_long (s t : ByteArray) (n : Nat) (w : World) (hn : t.size = n) (hn64 : n ≤ 64) (hs : ¬ s.size ≤ 64) (ht : s.extract 0 64 = t) :
    Calls Try.prog 11 #[.string s] w fun e w' => e = .returned (.string (bytesV (bv (byteS t) n % qL))) ∧ Below w.heap.size w w' := by
  obtain ⟨i0, hi, hz0, hz1, hz2⟩ := info_parts int_info
  have hmin : min (s.size : Int) 64 = 64 := by omega
  have hs2 : (64 : Int) ≤ s.size := by omega
  have HT := Lib.hid ht
  clear ht
  obtain ⟨N, hN⟩ : ∃ N, N = bv (byteS t) n := ⟨_, rfl⟩
  have H0 : Hid (bK (N / 2 ^ (8 * n) % qL) = bK 0) := Lib.hid (by rw [hN, Nat.div_eq_of_lt (bv_lt _ (byteS_lt t) n), Nat.zero_mod])
  have HS : Hid (∀ j, j < 8 * n → (2 * (N / 2 ^ (j + 1) % qL) + bitS t j) % qL = N / 2 ^ j % qL) := Lib.hid (fun j hj => by
    rw [← bitS_bv t n j hj, ← hN]; exact rest_next N j)
  have hmk : ∀ w, (Instr.makeSlice 44 (.int .i64 33) (.int .i64 33)).run Try.prog w = .ok (.slice (some ⟨w.heap.size, 0, none⟩) 33 33) (w.alloc (.cells (row 33 (bK 0)) 3)) := fun w => by kernel_rfl
  have hmk2 : ∀ w, (Instr.makeSlice 34 (.int .i64 32) (.int .i64 32)).run Try.prog w = .ok (.slice (some ⟨w.heap.size, 0, none⟩) 32 32) (w.alloc (.cells (r8 32 (bF (N / 2 ^ 0 % qL) 0)) 5)) := fun w => by rw [bF_none]; kernel_rfl
  have HBT := Lib.hid (fun j w h => rbit_any t j w h)
  have HR : Hid (bytesV (bv (byteS t) n % qL) = bytesV (N / 2 ^ 0 % qL)) := Lib.hid (by rw [← hN, Nat.pow_zero, Nat.div_one])
  clear hN
  go_enter Try.func11, Try.ntmps11
  go_wp2_with fail
  rw [HT.out]
  clear hs hs2 hmin HT
  refine (rorder_any w).mono ?_
  rintro e w1 ⟨v, rfl, hO⟩
  have hown := hO.own
  have hb := hO.b
  have hbs := hb.size
  clear hO
  go_wp2_with (first
    | (at_builtin; refine wpList_append_own _ rfl _ _ 44 rfl w.heap.size 3 i0 (.int .i64 0) 1 8 Try.underlying44 hi hz0 hz1 hz2 rfl (by decide) _ _ _ rfl (hown.alloc _) ⟨w1.heap.size, 0, none⟩ 1 1 [.int .i64 0] rfl rfl ?c1 ?c2 ?c3 ?c4 ?c5 ?_))
  case c1 =>
    intro j u hu
    rw [addr_add, Nat.zero_add]
    exact (cell_of_row _ _ j _ _ (0, 0) (heap_alloc_new w1 _)).trans (by rw [← hu]; simp)
  case c2 =>
    intro u hu
    simp at hu
    subst hu
    rfl
  case c3 => unfold maxLen; omega
  case c4 => omega
  case c5 => simp; exact Nat.le_succ_of_le hbs
  intro v' w2 hown2 hg2 _
  have hb2 : Below w.heap.size w w2 := (hb.alloc hbs _).grown hg2 (by simp; exact Nat.le_succ_of_le hbs) (own_le hown)
  have hown3 : w2.ownsRow w.heap.size 3 1 v' 33 (lK qL 33) := by rw [lK33]; exact hown2
  obtain ⟨gl, cap, rfl⟩ := own_slice hown3 (by omega)
  obtain ⟨⟨cs, hl, hcs⟩, hgl⟩ := own_blk hown3
  have hd0 : RdW (bK (N / 2 ^ (8 * n) % qL)) w2.heap.size gl w (w2.alloc (.cells (row 33 (bK 0)) 3)) := ⟨(Blk.new w2 _ _).cast_ (by rw [H0.out]), ⟨cs, hl.alloc _, hcs⟩, hb2.alloc hb2.size _, hgl, hl.lt⟩
  clear hown hb hbs hown2 hg2 hb2 hown3 hl hcs hgl H0
  go_wp2_with fail
  clear hmk hi hz0 hz1 hz2
  generalize w2.heap.size = gr at hd0 ⊢
  go_loopw [5] (fun i wr => ∃ k : Nat, k ≤ 8 * n ∧ i = .int .i64 ((k : Int) - 1) ∧ RdW (bK (N / 2 ^ k % qL)) gr gl w wr) (fun i _ => (intOf i + 1).toNat)
  case atStart => exact ⟨8 * n, Nat.le_refl _, by rw [show ((8 * n : Nat) : Int) = 8 * (n : Int) by omega], hd0⟩
  case round =>
    obtain ⟨k, hk, rfl, hr⟩ := hrel
    clear hd0
    cases k with
    | zero =>
      generalize N / 2 ^ 0 % qL = M at hmk2 HR hr
      have hcv : ∀ wx, Blk wx wr.heap.size 5 (r8 32 (bF M 32)) → (convert 34 9 (.slice (some ⟨wr.heap.size, 0, none⟩) 32 32)).run Try.prog wx = .ok (.string (bytesV M)) wx := fun wx hx => by
        rw [← bF_all]; exact run_string_of_blk wx _ _ 5 Try.underlying34 Try.underlying5 Try.underlying9 _ _ _ _ _ hx
      have hy0 : RyW M 0 wr.heap.size gr gl w (wr.alloc (.cells (r8 32 (bF M 0)) 5)) := by
        obtain ⟨cs, hl, hc⟩ := hr.l
        exact ⟨⟨hr.r.alloc _, ⟨cs, hl.alloc _, hc⟩, hr.b.alloc hr.b.size _, hr.lt⟩, Blk.new wr _ _, hr.r.lt⟩
      have HC := Lib.hid hcv
      clear hcv hr HS HBT
      go_wp2_with fail
      clear hmk2
      generalize wr.heap.size = gb at hy0 HC ⊢
      go_loopw [13] (fun i wr => ∃ k : Nat, k ≤ 32 ∧ i = .int .i64 (k : Int) ∧ RyW M k gb gr gl w wr) (fun i _ => 32 - (intOf i).toNat)
      case atStart => exact ⟨0, by omega, rfl, hy0⟩
      case round =>
        obtain ⟨k, hk2, rfl, hr⟩ := hrel
        clear hy0
        by_cases hlt : k < 32
        · have c0 : wr.cell? ⟨gr, k, none⟩ = some (Value.int .i64 (byteK M k : Int)) := hr.d.r.at_ (show k < 33 by omega)
          have c1 := hr.o.at_ hlt
          have fz := hr.o.frozen k
          have hbk := byteK_lt M k
          have hu : IntKind.u8.wrap (byteK M k : Int) = (byteK M k : Int) := IntWalk.u8_in _ (by omega)
          have HP : Hid (∀ wx, RyW M k gb gr gl w wx → RyW M (k + 1) gb gr gl w (wx.setCell ⟨gb, k, none⟩ (.int .u8 (byteK M k : Int)))) := Lib.hid (fun wx hx => hx.put hlt)
          generalize byteK M k = bk at c0 hbk hu HP
          go_wp2_with fail
          go_roundw
          case rel => exact ⟨k + 1, by omega, by go_num, HP.out _ hr⟩
          case measure => simp [intOf]; omega
        · obtain rfl : k = 32 := by omega
          have hcv := HC.out _ hr.o
          have hb := hr.d.b
          generalize bytesV M = OUT at hcv HR
          clear hr HC
          go_wp2_with fail
          go_ret
          exact ⟨by rw [HR.out]; rfl, hb⟩
    | succ j =>
      have hj : ((j + 1 : Nat) : Int) - 1 = (j : Int) := by omega
      rw [hj]
      clear hj
      have HX := Lib.hid (HS.out j (by omega))
      have hRq : N / 2 ^ (j + 1) % qL < qL := Nat.mod_lt _ (by decide)
      have hb1 := bitS_le t j
      have hjb : j < 9223372036854775808 := by omega
      go_wp2_with fail
      refine (HBT.out j _ hjb).mono ?_
      rintro e w3 ⟨rfl, rfl⟩
      clear hjb
      generalize N / 2 ^ (j + 1) % qL = R at HX hRq hr
      generalize bitS t j = b at HX hb1 ⊢
      go_wp2_with fail
      go_loopw [6, 7] (fun c i wr => ∃ k : Nat, k ≤ 33 ∧ i = .int .i64 (k : Int) ∧ c = .int .i64 (dc R b k : Int) ∧ RdW (mK R (2 * R + b) k) gr gl w wr) (fun _ i _ => 33 - (intOf i).toNat)
      case atStart => exact ⟨0, by omega, rfl, by rw [dc_zero], hr.cast (fun j _ => mK_zero _ _ j)⟩
      case round =>
        obtain ⟨k, hk2, rfl, rfl, hr2⟩ := hrel
        by_cases hlt : k < 33
        · have c0 : wr.cell? ⟨gr, k, none⟩ = some (Value.int .i64 (byteK R k : Int)) := (hr2.r.at_ hlt).trans (by unfold mK; rw [if_neg (Nat.lt_irrefl k)]; rfl)
          have fz := hr2.r.frozen k
          have hbk := byteK_lt R k
          have hdk := dc_le R b k hb1
          have hdk2 := dc_le R b (k + 1) hb1
          have e1 := step1 (R := R) (b := b) (k := k)
          have e2 := step2 (R := R) (b := b) (k := k)
          have HP : Hid (∀ wx, RdW (mK R (2 * R + b) k) gr gl w wx → RdW (mK R (2 * R + b) (k + 1)) gr gl w (wx.setCell ⟨gr, k, none⟩ (bK (2 * R + b) k))) := Lib.hid (fun wx hx => hx.put hlt _ (fun j _ => mK_put _ _ _ _))
          generalize byteK R k = bk at c0 hbk e1 e2
          generalize hd : dc R b k = d at hdk e1 e2
          clear hd
          go_wp2_with fail
          go_roundw
          case rel => exact ⟨k + 1, by omega, by go_num, rfl, HP.out _ hr2⟩
          case measure => simp [intOf]; omega
        · obtain rfl : k = 33 := by omega
          have hr3 : RdW (bK (2 * R + b)) gr gl w wr := hr2.cast (fun j h => mK_all _ _ j h)
          clear hr2 hr
          have hXl := rest_lt R b hRq hb1
          generalize 2 * R + b = X at HX hr3 hXl
          go_wp2_with fail
          have hX2 : X < 2 ^ 256 * 256 := Nat.lt_trans hXl (by decide)
          refine (rbelow_any X gr _ hX2 hr3.r).mono ?_
          rintro e w4 ⟨rfl, hq⟩
          have hr4 := hr3.below hq
          clear hr3 hq hX2
          by_cases hc : X < qL
          · have hd : decide (X < qL) = true := decide_eq_true hc
            rw [hd]
            have HY : Hid (X = N / 2 ^ j % qL) := Lib.hid (by rw [← HX.out, rest_below hc])
            clear hd hc hXl hb1 hRq HX
            go_wp2_with fail
            go_roundw
            case rel => exact ⟨j, by omega, rfl, by rw [← HY.out]; exact hr4⟩
            case measure => simp [intOf]
          · have hd : decide (X < qL) = false := decide_eq_false hc
            rw [hd]
            have hle : qL ≤ X := by omega
            have HY : Hid (X - qL = N / 2 ^ j % qL) := Lib.hid (by rw [← HX.out, rest_less hc hXl])
            clear hd hc hXl hb1 hRq HX
            go_wp2_with fail
            go_loopw [9, 10] (fun c i wr => ∃ k : Nat, k ≤ 33 ∧ i = .int .i64 (k : Int) ∧ c = .int .i64 (bo X qL k : Int) ∧ RdW (mK X (X - qL) k) gr gl w wr) (fun _ i _ => 33 - (intOf i).toNat)
            case atStart => exact ⟨0, by omega, rfl, by rw [bo_zero]; rfl, hr4.cast (fun j _ => mK_zero _ _ j)⟩
            case round =>
              obtain ⟨k, hk2, rfl, rfl, hr2⟩ := hrel
              by_cases hlt : k < 33
              · have h1 := byteK_lt X k
                have h2 := byteK_lt qL k
                have h3 := bo_le X qL k
                have h4 := byteK_lt (X - qL) k
                have h5 := bo_le X qL (k + 1)
                have hl0 : (k : Int) < 33 := by omega
                have hl1 : (0 : Int) ≤ k := by omega
                clear hr4
                go_wp2_with fail
                refine wp_region_anyL (Two 1000 1001 fun _ _ wx => RdW (mK X (X - qL) k) gr gl w wx) (by kernel_rfl) hr2.drew ?_
                refine anyL_take (i := 0) (v := ?_) rfl (by kernel_rfl) (by kernel_rfl) (by kernel_rfl) (yl_other (by decide) (by decide) rfl (fun f1 f2 wx hT => ?_)) ?_; rotate_left
                · refine lands_value (w := wx) ?_ hT; go_simp <;> rfl
                simp only [Act.put, List.setIfInBounds_toArray, List.set_cons_zero, List.set_cons_succ]
                refine anyL_take (i := 1) (v := ?_) rfl (by kernel_rfl) (by kernel_rfl) (by kernel_rfl) (yl_other (by decide) (by decide) rfl (fun f1 f2 wx hT => ?_)) ?_; rotate_left
                · refine lands_value (w := wx) ?_ hT; go_simp <;> rfl
                simp only [Act.put, List.setIfInBounds_toArray, List.set_cons_zero, List.set_cons_succ]
                refine anyL_take (i := 2) (v := ?_) rfl (by kernel_rfl) (by kernel_rfl) (by kernel_rfl) (yl_other (by decide) (by decide) rfl (fun f1 f2 wx hT => ?_)) ?_; rotate_left
                · refine lands_value (w := wx) ?_ hT; go_simp <;> rfl
                simp only [Act.put, List.setIfInBounds_toArray, List.set_cons_zero, List.set_cons_succ]
                refine anyL_take (i := 3) (v := .int .i64 (byteK X k : Int)) rfl (by kernel_rfl) (by kernel_rfl) (by kernel_rfl) (yl_other (by decide) (by decide) rfl (fun f1 f2 wx hT => ?_)) ?_
                · have c0 := rdk hT hlt; refine lands_value (w := wx) ?_ hT; go_simp
                simp only [Act.put, List.setIfInBounds_toArray, List.set_cons_zero, List.set_cons_succ]
                refine anyL_take (i := 4) (v := ?_) rfl (by kernel_rfl) (by kernel_rfl) (by kernel_rfl) (yl_other (by decide) (by decide) rfl (fun f1 f2 wx hT => ?_)) ?_; rotate_left
                · refine lands_value (w := wx) ?_ hT; go_simp <;> rfl
                simp only [Act.put, List.setIfInBounds_toArray, List.set_cons_zero, List.set_cons_succ]
                refine anyL_take (i := 5) (v := ?_) rfl (by kernel_rfl) (by kernel_rfl) (by kernel_rfl) (yl_other (by decide) (by decide) rfl (fun f1 f2 wx hT => ?_)) ?_; rotate_left
                · refine lands_value (w := wx) ?_ hT; go_simp <;> rfl
                simp only [Act.put, List.setIfInBounds_toArray, List.set_cons_zero, List.set_cons_succ]
                refine anyL_take (i := 6) (v := ?_) rfl (by kernel_rfl) (by kernel_rfl) (by kernel_rfl) (yl_other (by decide) (by decide) rfl (fun f1 f2 wx hT => ?_)) ?_; rotate_left
                · refine lands_value (w := wx) ?_ hT; go_simp <;> rfl
                simp only [Act.put, List.setIfInBounds_toArray, List.set_cons_zero, List.set_cons_succ]
                refine anyL_take (i := 7) (v := .int .i64 (byteK qL k : Int)) rfl (by kernel_rfl) (by kernel_rfl) (by kernel_rfl) (yl_other (by decide) (by decide) rfl (fun f1 f2 wx hT => ?_)) ?_
                · have c0 := hT.la hlt; refine lands_value (w := wx) ?_ hT; go_simp
                simp only [Act.put, List.setIfInBounds_toArray, List.set_cons_zero, List.set_cons_succ]
                refine anyL_take (i := 8) (v := .int .i64 ((byteK X k : Int) - (byteK qL k : Int))) rfl (by kernel_rfl) (by kernel_rfl) (by kernel_rfl) (yl_other (by decide) (by decide) rfl (fun f1 f2 wx hT => ?_)) ?_
                · refine lands_value (w := wx) ?_ hT; go_simp; exact IntWalk.i64_in _ (by omega)
                simp only [Act.put, List.setIfInBounds_toArray, List.set_cons_zero, List.set_cons_succ]
                refine anyL_take (i := 9) (v := ?_) rfl (by kernel_rfl) (by kernel_rfl) (by kernel_rfl) (yl_other (by decide) (by decide) rfl (fun f1 f2 wx hT => ?_)) ?_; rotate_left
                · refine lands_value (w := wx) ?_ hT; go_simp <;> rfl
                simp only [Act.put, List.setIfInBounds_toArray, List.set_cons_zero, List.set_cons_succ]
                refine anyL_take (i := 10) (v := .int .i64 ((byteK X k : Int) - (byteK qL k : Int) - (bo X qL k : Int))) rfl (by kernel_rfl) (by kernel_rfl) (by kernel_rfl) (yl_other (by decide) (by decide) rfl (fun f1 f2 wx hT => ?_)) ?_
                · refine lands_value (w := wx) ?_ hT; go_simp; exact IntWalk.i64_in _ (by omega)
                simp only [Act.put, List.setIfInBounds_toArray, List.set_cons_zero, List.set_cons_succ]
                refine anyL_take (i := 11) (v := .int .i64 ((byteK X k : Int) - (byteK qL k : Int) - (bo X qL k : Int) + 256)) rfl (by kernel_rfl) (by kernel_rfl) (by kernel_rfl) (yl_other (by decide) (by decide) rfl (fun f1 f2 wx hT => ?_)) ?_
                · refine lands_value (w := wx) ?_ hT; go_simp; exact IntWalk.i64_in _ (by omega)
                simp only [Act.put, List.setIfInBounds_toArray, List.set_cons_zero, List.set_cons_succ]
                refine anyL_take (i := 12) (v := ?_) rfl (by kernel_rfl) (by kernel_rfl) (by kernel_rfl) (yl_other (by decide) (by decide) rfl (fun f1 f2 wx hT => ?_)) ?_; rotate_left
                · refine lands_value (w := wx) ?_ hT; go_simp <;> rfl
                simp only [Act.put, List.setIfInBounds_toArray, List.set_cons_zero, List.set_cons_succ]
                refine anyL_done (by kernel_rfl) (fun w5 (h5w : RdW (mK X (X - qL) k) gr gl w w5) => ?_) _
                clear hr2
                have c0 := rdk h5w hlt
                have fz := h5w.r.frozen k
                have e1 := step3 (k := k) hle
                have e2 := step4 (X := X) (k := k)
                have hx0 : (0 : Int) ≤ (byteK X k : Int) - (byteK qL k : Int) - (bo X qL k : Int) + 256 := by omega
                have hx1 : (byteK X k : Int) - (byteK qL k : Int) - (bo X qL k : Int) + 256 < 512 := by omega
                generalize (byteK X k : Int) - (byteK qL k : Int) - (bo X qL k : Int) + 256 = x at e1 e2 hx0 hx1 ⊢
                have HP : Hid (∀ wx, RdW (mK X (X - qL) k) gr gl w wx → RdW (mK X (X - qL) (k + 1)) gr gl w (wx.setCell ⟨gr, k, none⟩ (.int .i64 (byteK (X - qL) k : Int)))) := Lib.hid (fun wx hx => hx.put hlt _ (fun j _ => mK_put _ _ _ _))
                clear h1 h2 h3
                generalize byteK (X - qL) k = y at e1 h4 HP
                go_wp2_with fail
                go_roundw
                case rel => exact ⟨k + 1, by omega, by go_num, rfl, HP.out _ h5w⟩
                case measure => simp [intOf]; omega
              · obtain rfl : k = 33 := by omega
                have hr5 : RdW (bK (X - qL)) gr gl w wr := hr2.cast (fun j h => mK_all _ _ j h)
                clear hr2 hr4
                go_wp2_with fail
                go_roundw
                case rel => exact ⟨j, by omega, rfl, by rw [← HY.out]; exact hr5⟩
                case measure => simp [intOf]
/-- Reduce: P4.1. -/
def redV (s : ByteArray) : ByteArray := bytesV (numV s 64 % qL)
theorem rreduce_any (s : ByteArray) (w : World) :
    Calls Try.prog 11 #[.string s] w fun e w' => e = .returned (.string (redV s)) ∧ Below w.heap.size w w' := by
  unfold redV numV
  by_cases h : s.size ≤ 64
  · have := rreduce_short s s.size w rfl h
    rwa [show min s.size 64 = s.size by omega]
  · have hsz : (s.extract 0 64).size = 64 := by rw [ByteArray.size_extract]; omega
    have := rreduce_long s (s.extract 0 64) 64 w hsz (Nat.le_refl _) h rfl
    rw [show min s.size 64 = 64 by omega]
    rwa [bv_congr 64 (fun j hj => byteS_extract s 64 j (by omega) hj)] at this
theorem text_eq (r s : ByteArray) : (r.toList == s.toList) = decide (r = s) := by
  rw [Bool.eq_iff_iff, beq_iff_eq, decide_eq_true_eq, ByteArray.toList_eq, ByteArray.toList_eq]
  exact ⟨fun h => ByteArray.ext (Array.toList_inj.mp h), fun h => by rw [h]⟩
set_option maxRecDepth 100000 in
set_option maxHeartbeats 1000000 in
theorem rright_any (s : ByteArray) (w : World) :
    Calls Try.prog 13 #[.string s] w fun e w' => e = .returned (.bool (decide (s.size = 32 ∧ redV s = s))) ∧ Below w.heap.size w w' := by
  by_cases h : s.size = 32
  · have HV : Hid (decide (s.size = 32 ∧ redV s = s) = decide (redV s = s)) := Lib.hid (by rw [decide_eq_decide]; exact ⟨fun h => h.2, fun h2 => ⟨h, h2⟩⟩)
    have hc : ((s.size : Int) == 32) = true := by rw [h]; rfl
    have CR := Lib.hid (fun w => rreduce_any s w)
    generalize redV s = r at HV CR
    clear h
    go_enter Try.func13, Try.ntmps13
    go_wp2_with fail
    refine (CR.out _).mono ?_
    rintro e w1 ⟨rfl, hq⟩
    go_wp2_with fail
    rw [text_eq]
    go_ret
    exact ⟨by rw [HV.out]; rfl, hq⟩
  · have HV : Hid (decide (s.size = 32 ∧ redV s = s) = false) := Lib.hid (decide_eq_false (fun h2 => h h2.1))
    have hc : ((s.size : Int) == 32) = false := by rw [beq_eq_false_iff_ne]; omega
    clear h
    go_enter Try.func13, Try.ntmps13
    go_wp2_with fail
    go_ret
    exact ⟨by rw [HV.out]; rfl, Below.refl _ _⟩
end Go.Proofs.Ytnfcgpoafmmioaa
