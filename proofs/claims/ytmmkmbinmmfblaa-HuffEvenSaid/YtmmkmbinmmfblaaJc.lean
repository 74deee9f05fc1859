/- The developers' firstCodes and Codes of chapter 9. -/
import Derived.Test.YtmmkmbinmmfblaaJb
import Derived.Test.YtmmkmbinmmfblaaMA
import Derived.Test.YtmmkmbinmmfblaaHt
namespace Go.Proofs.Ytmmkmbinmmfblaa
open Go.RowKit
theorem zero16 (w : World) : (zeroValue 58).run Try.prog w = .ok (.agg (rI 16 fun _ => 0)) w := by kernel_rfl
theorem len16 : Try.prog.arrayLen 58 = 16 := by kernel_rfl
theorem cst_small (l : Nat → Nat) (n d : Nat) : cst l n d + 2 * n ≤ 2 ^ (d + 1) * n := by
  induction d with
  | zero => show 0 + 2 * n ≤ _; omega
  | succ d ih =>
    have h1 := cnt_le l (d + 1) n
    show 2 * (cst l n d + cnt l (d + 1) n) + 2 * n ≤ _
    rw [Nat.pow_succ, Nat.mul_comm (2 ^ (d + 1)) 2, Nat.mul_assoc]
    omega
theorem cst_lt (l : Nat → Nat) {n d : Nat} (hn : n ≤ 300) (hd : d ≤ 15) : cst l n d ≤ 19660800 := by
  have h := cst_small l n d
  have h1 : 2 ^ (d + 1) ≤ 2 ^ 16 := Nat.pow_le_pow_right (by decide) (by omega)
  have h2 : 2 ^ (d + 1) * n ≤ 2 ^ 16 * 300 := Nat.mul_le_mul h1 hn
  omega
/-- The first code of a length. -/
def fst9 (l : Nat → Nat) (n d : Nat) : Nat := if d = 0 then 0 else cst l n (d - 1)
def fstF (l : Nat → Nat) (n m d : Nat) : Int := if d < m then (fst9 l n d : Int) else 0
theorem fst_next (l : Nat → Nat) (n m : Nat) (h : 2 ≤ m) : fst9 l n m = 2 * (fst9 l n (m - 1) + cnt l (m - 1) n) := by
  unfold fst9
  rw [if_neg (by omega), if_neg (by omega)]
  obtain ⟨d, rfl⟩ : ∃ d, m = d + 2 := ⟨m - 2, by omega⟩
  rfl
theorem fst_lt (l : Nat → Nat) {n d : Nat} (hn : n ≤ 300) (hd : d ≤ 16) : fst9 l n d ≤ 19660800 := by
  unfold fst9
  split
  · omega
  · exact cst_lt l hn (by omega)
theorem fstF_put (l : Nat → Nat) (n m j : Nat) : (if j = m then Value.int .i64 ((fst9 l n m : Nat) : Int) else Value.int .i64 (fstF l n m j)) = Value.int .i64 (fstF l n (m + 1) j) := by
  unfold fstF
  by_cases h : j = m
  · subst h; rw [if_pos rfl, if_pos (by omega)]
  · rw [if_neg h]
    by_cases h2 : j < m
    · rw [if_pos h2, if_pos (by omega)]
    · rw [if_neg h2, if_neg (by omega)]
theorem cnt_put (l : Nat → Nat) (k j d : Nat) (hd : l k = d) : (if j = d then Value.int .i64 ((cnt l d k + 1 : Nat) : Int) else Value.int .i64 (cnt l j k : Int)) = Value.int .i64 (cnt l j (k + 1) : Int) := by
  show _ = Value.int .i64 ((cnt l j k + (if l k = j then 1 else 0) : Nat) : Int)
  by_cases h : j = d
  · subst h; rw [if_pos rfl, if_pos hd]
  · rw [if_neg h, if_neg (by omega)]; rfl
abbrev FB (B k m : Nat) (l : Nat → Nat) (n : Nat) : List (Nat × TypeId × Array Value) := [(B, 58, rI 16 fun _ => 0), (B + 1, 58, rI 16 fun d => (cnt l d k : Int)), (B + 1 + 1, 58, rI 16 (fstF l n m))]
set_option maxRecDepth 100000 in
set_option maxHeartbeats 4000000 in
theorem firstCodes_any (p : Option Addr) (n cap : Nat) (f : Nat → Int) (w : World) (h : IS p n cap f w) (hn : n ≤ 300) (hok : okB f n = true) :
    Calls Try.prog 28 #[.slice p n cap] w fun e w' => e = .returned (.agg (rI 16 fun d => (fst9 (toL f) n d : Int))) ∧ Below w.heap.size w w' := by
  have HB := Lib.hid (okB_true.1 hok)
  have hz := zero16
  have hal := len16
  clear hok
  go_enter Try.func28, Try.ntmps28
  go_wp2_with fail
  clear hz
  have K0 : Hid (Known w.heap.size w (FB w.heap.size 0 2 (toL f) n) (((w.alloc (.cells (rI 16 fun _ => 0) 58)).alloc (.cells (rI 16 fun _ => 0) 58)).alloc (.cells (rI 16 fun _ => 0) 58))) := Lib.hid (by
    refine ((((Known.begin w).add (rI 16 fun _ => 0) 58).add (rI 16 fun _ => 0) 58).add (rI 16 fun _ => 0) 58).sub fun x hx => ?_
    have e2 : rI 16 (fstF (toL f) n 2) = rI 16 fun _ => 0 := row_ext fun i _ => by
      unfold fstF fst9
      by_cases h0 : i = 0
      · subst h0; rfl
      · by_cases h1 : i = 1
        · subst h1; rfl
        · rw [if_neg (by omega)]
    have e1 : (rI 16 fun d => (cnt (toL f) d 0 : Int)) = rI 16 fun _ => 0 := rfl
    unfold FB at hx
    rw [e2, e1] at hx
    simp only [List.mem_cons, List.not_mem_nil, or_false, World.size_alloc] at hx ⊢
    rcases hx with rfl | rfl | rfl
    · exact .inr (.inr rfl)
    · exact .inr (.inl rfl)
    · exact .inl rfl)
  go_loopw [6, 10] (fun _ i wr => ∃ k : Nat, k ≤ n ∧ i = .int .i64 (k : Int) ∧ Known w.heap.size w (FB w.heap.size k 2 (toL f) n) wr) (fun _ i _ => n - (intOf i).toNat)
  case atStart => exact ⟨0, by omega, rfl, K0.out⟩
  case round =>
    obtain ⟨k, hk, rfl, hK⟩ := hrel
    clear K0
    by_cases hlt : k < n
    · cases p with
      | none => have := (h.nil_ rfl).1; omega
      | some a =>
        have hw := h.below hK.b
        have c0 := hw.cell a rfl k hlt
        have h0 := HB.out k hlt
        obtain ⟨d, hd⟩ := Int.eq_ofNat_of_zero_le h0.1
        have hd15 : d < 16 := by omega
        have hdl : toL f k = d := by unfold toL; omega
        rw [hd] at c0
        have hb1 : Blk wr (w.heap.size + 1) 58 (rI 16 fun d => (cnt (toL f) d k : Int)) := hK.blk _ m1
        have c1 := hb1.at_ hd15
        have f1 := hb1.frozen d
        have hcl := cnt_le (toL f) d k
        have HP := Lib.hid (hK.cell hb1 hd15 (by omega) (.int .i64 ((cnt (toL f) d k + 1 : Nat) : Int)) (FB w.heap.size (k + 1) 2 (toL f) n) (fun x hx => by
          simp only [List.mem_cons, List.not_mem_nil, or_false] at hx
          rcases hx with rfl | rfl | rfl
          · exact .inr ⟨m0, by show w.heap.size ≠ w.heap.size + 1; omega⟩
          · exact .inl (congrArg (fun r => (w.heap.size + 1, 58, r)) (row_ext fun i _ => (cnt_put (toL f) k i d hdl).symm))
          · exact .inr ⟨m2, by show w.heap.size + 1 + 1 ≠ w.heap.size + 1; omega⟩))
        have hW : Hid (wrap64 ((cnt (toL f) d k : Int) + 1) = ((cnt (toL f) d k + 1 : Nat) : Int)) := Lib.hid (by rw [IntWalk.wrap64_in _ (by omega)]; omega)
        clear h0 hd hdl hb1 hcl hw
        have hdi : (d : Int) < 16 := by omega
        go_wp2_with fail
        go_roundw
        case rel => exact ⟨k + 1, by omega, by go_num, by rw [hW.out]; exact HP.out⟩
        case measure => simp [intOf]; omega
    · obtain rfl : k = n := by omega
      go_wp2_with fail
      go_loopw [7] (fun i wr => ∃ m : Nat, 2 ≤ m ∧ m ≤ 16 ∧ i = .int .i64 (m : Int) ∧ Hid (Known w.heap.size w (FB w.heap.size k m (toL f) k) wr)) (fun i _ => 16 - (intOf i).toNat)
      case atStart => exact ⟨2, by omega, by omega, rfl, Lib.hid hK⟩
      case round =>
        obtain ⟨m, hm, hm2, rfl, HK⟩ := hrel
        clear hK
        by_cases hlt2 : m < 16
        · have hmi : (m : Int) ≤ 15 := by omega
          obtain ⟨d, hd⟩ : ∃ d, d = m - 1 := ⟨_, rfl⟩
          have hd16 : d < 16 := by omega
          obtain ⟨X, hX⟩ : ∃ X, X = fst9 (toL f) k d := ⟨_, rfl⟩
          obtain ⟨Y, hY⟩ : ∃ Y, Y = cnt (toL f) d k := ⟨_, rfl⟩
          obtain ⟨Z, hZ⟩ : ∃ Z, Z = fst9 (toL f) k m := ⟨_, rfl⟩
          have hXl : X ≤ 19660800 := by rw [hX]; exact fst_lt _ hn (by omega)
          have hYl : Y ≤ 300 := by rw [hY]; exact Nat.le_trans (cnt_le ..) hn
          have hZe : Z = 2 * (X + Y) := by rw [hZ, hX, hY, hd]; exact fst_next _ _ _ hm
          have HD : Hid (IntKind.i64.wrap ((m : Int) - 1) = (d : Int)) := Lib.hid (by rw [IntWalk.i64_in _ (by omega)]; omega)
          have HA : Hid (IntKind.i64.wrap ((X : Int) + (Y : Int)) = (X : Int) + (Y : Int)) := Lib.hid (IntWalk.i64_in _ (by omega))
          have HZ : Hid (IntKind.i64.wrap (2 * ((X : Int) + (Y : Int))) = (Z : Int)) := Lib.hid (by rw [IntWalk.i64_in _ (by omega)]; omega)
          have HX : Hid (∀ wx, Known w.heap.size w (FB w.heap.size k m (toL f) k) wx → wx.cell? ⟨w.heap.size + 1 + 1, d, none⟩ = some (.int .i64 (X : Int))) := Lib.hid fun wx hT => by
            have hb : Blk wx (w.heap.size + 1 + 1) 58 (rI 16 (fstF (toL f) k m)) := hT.blk _ m2
            rw [hb.at_ hd16, hX]
            unfold fstF
            rw [if_pos (by omega)]
          have HY : Hid (∀ wx, Known w.heap.size w (FB w.heap.size k m (toL f) k) wx → wx.cell? ⟨w.heap.size + 1, d, none⟩ = some (.int .i64 (Y : Int))) := Lib.hid fun wx hT => by
            have hb : Blk wx (w.heap.size + 1) 58 (rI 16 fun d => (cnt (toL f) d k : Int)) := hT.blk _ m1
            rw [hb.at_ hd16, hY]
          have HC : Hid (∀ wx, Known w.heap.size w (FB w.heap.size k m (toL f) k) wx → wx.cell? ⟨w.heap.size + 1 + 1, m, none⟩ = some (.int .i64 (fstF (toL f) k m m))) := Lib.hid fun wx hT => by
            have hb : Blk wx (w.heap.size + 1 + 1) 58 (rI 16 (fstF (toL f) k m)) := hT.blk _ m2
            exact hb.at_ hlt2
          have HF : Hid (∀ wx, Known w.heap.size w (FB w.heap.size k m (toL f) k) wx → wx.frozen? ⟨w.heap.size + 1 + 1, m, none⟩ = false) := Lib.hid fun wx hT => by
            have hb : Blk wx (w.heap.size + 1 + 1) 58 (rI 16 (fstF (toL f) k m)) := hT.blk _ m2
            exact hb.frozen m
          have HPUT : Hid (∀ wx, Known w.heap.size w (FB w.heap.size k m (toL f) k) wx → Known w.heap.size w (FB w.heap.size k (m + 1) (toL f) k) (wx.setCell ⟨w.heap.size + 1 + 1, m, none⟩ (.int .i64 (Z : Int)))) := Lib.hid fun wx hT => by
            have hb : Blk wx (w.heap.size + 1 + 1) 58 (rI 16 (fstF (toL f) k m)) := hT.blk _ m2
            refine hT.cell hb hlt2 (by omega) (.int .i64 (Z : Int)) (FB w.heap.size k (m + 1) (toL f) k) fun x hx => ?_
            simp only [List.mem_cons, List.not_mem_nil, or_false] at hx
            rcases hx with rfl | rfl | rfl
            · exact .inr ⟨m0, by show w.heap.size ≠ w.heap.size + 1 + 1; omega⟩
            · exact .inr ⟨m1, by show w.heap.size + 1 ≠ w.heap.size + 1 + 1; omega⟩
            · exact .inl (congrArg (fun r => (w.heap.size + 1 + 1, 58, r)) (row_ext fun i _ => by rw [hZ]; exact (fstF_put (toL f) k m i).symm))
          clear hX hY hZ hZe hd
          have hmi : (m : Int) ≤ 15 := by omega
          have hdi : (d : Int) < 16 := by omega
          have hmi2 : (m : Int) < 16 := by omega
          go_wp2_with fail
          refine wp_region_anyL (Two 12 1000 fun a _ wx => bif a then Known w.heap.size w (FB w.heap.size k (m + 1) (toL f) k) wx else Known w.heap.size w (FB w.heap.size k m (toL f) k) wx) (by kernel_rfl) HK.out.drew ?_
          refine anyL_take (i := 0) (v := ?_) rfl (by kernel_rfl) (by kernel_rfl) (by kernel_rfl) (yl_other (by decide) (by decide) rfl (fun f1 f2 wx hT => ?_)) ?_; rotate_left
          · refine lands_value (w := wx) ?_ hT; go_simp <;> rfl
          simp only [pu]
          refine anyL_take (i := 1) (v := ?_) rfl (by kernel_rfl) (by kernel_rfl) (by kernel_rfl) (yl_other (by decide) (by decide) rfl (fun f1 f2 wx hT => ?_)) ?_; rotate_left
          · refine lands_value (w := wx) ?_ hT; go_simp <;> rfl
          simp only [pu]
          refine anyL_take (i := 2) (v := .int .i64 (d : Int)) rfl (by kernel_rfl) (by kernel_rfl) (by kernel_rfl) (yl_other (by decide) (by decide) rfl (fun f1 f2 wx hT => ?_)) ?_
          · refine lands_value (w := wx) ?_ hT; go_simp; exact HD.out
          simp only [pu]
          refine anyL_take (i := 3) (v := ?_) rfl (by kernel_rfl) (by kernel_rfl) (by kernel_rfl) (yl_other (by decide) (by decide) rfl (fun f1 f2 wx hT => ?_)) ?_; rotate_left
          · refine lands_value (w := wx) ?_ hT; go_simp <;> rfl
          simp only [pu]
          refine anyL_take (i := 4) (v := .int .i64 (X : Int)) rfl (by kernel_rfl) (by kernel_rfl) (by kernel_rfl) (yl_ahead (n := 12) (by decide) (by decide) (by kernel_rfl) rfl (fun f2 wx hT => ?_)) ?_
          · have c0 := HX.out _ hT; refine lands_value (w := wx) ?_ hT; go_simp; skip
          simp only [pu]
          refine anyL_take (i := 5) (v := ?_) rfl (by kernel_rfl) (by kernel_rfl) (by kernel_rfl) (yl_other (by decide) (by decide) rfl (fun f1 f2 wx hT => ?_)) ?_; rotate_left
          · refine lands_value (w := wx) ?_ hT; go_simp <;> rfl
          simp only [pu]
          refine anyL_take (i := 6) (v := .int .i64 (d : Int)) rfl (by kernel_rfl) (by kernel_rfl) (by kernel_rfl) (yl_other (by decide) (by decide) rfl (fun f1 f2 wx hT => ?_)) ?_
          · refine lands_value (w := wx) ?_ hT; go_simp; exact HD.out
          simp only [pu]
          refine anyL_take (i := 7) (v := ?_) rfl (by kernel_rfl) (by kernel_rfl) (by kernel_rfl) (yl_other (by decide) (by decide) rfl (fun f1 f2 wx hT => ?_)) ?_; rotate_left
          · refine lands_value (w := wx) ?_ hT; go_simp <;> rfl
          simp only [pu]
          refine anyL_take (i := 8) (v := .int .i64 (Y : Int)) rfl (by kernel_rfl) (by kernel_rfl) (by kernel_rfl) (yl_ahead (n := 12) (by decide) (by decide) (by kernel_rfl) rfl (fun f2 wx hT => ?_)) ?_
          · have c0 := HY.out _ hT; refine lands_value (w := wx) ?_ hT; go_simp; skip
          simp only [pu]
          refine anyL_take (i := 9) (v := .int .i64 ((X + Y : Nat) : Int)) rfl (by kernel_rfl) (by kernel_rfl) (by kernel_rfl) (yl_other (by decide) (by decide) rfl (fun f1 f2 wx hT => ?_)) ?_
          · refine lands_value (w := wx) ?_ hT; go_simp; exact HA.out
          simp only [pu]
          refine anyL_take (i := 10) (v := .int .i64 (Z : Int)) rfl (by kernel_rfl) (by kernel_rfl) (by kernel_rfl) (yl_other (by decide) (by decide) rfl (fun f1 f2 wx hT => ?_)) ?_
          · refine lands_value (w := wx) ?_ hT; go_simp; exact HZ.out
          simp only [pu]
          refine anyL_take (i := 11) (v := ?_) rfl (by kernel_rfl) (by kernel_rfl) (by kernel_rfl) (yl_other (by decide) (by decide) rfl (fun f1 f2 wx hT => ?_)) ?_; rotate_left
          · refine lands_value (w := wx) ?_ hT; go_simp <;> rfl
          simp only [pu]
          refine anyL_take (i := 12) (v := undef) rfl (by kernel_rfl) (by kernel_rfl) (by kernel_rfl) (yl_first (by decide) rfl (fun f2 wx hT => ?_)) ?_
          · have co := HC.out _ hT; have fo := HF.out _ hT; have K := HPUT.out _ hT; go_simp; exact ⟨rfl, K⟩
          simp only [Act.put]
          refine anyL_done (by kernel_rfl) (fun wr2 hT => ?_) _
          have HK2 : Hid (Known w.heap.size w (FB w.heap.size k (m + 1) (toL f) k) wr2) := Lib.hid hT
          clear HK
          go_wp2_with fail
          go_roundw
          case rel => exact ⟨m + 1, by omega, by omega, by go_num, HK2⟩
          case measure => simp [intOf]; omega
        · obtain rfl : m = 16 := by omega
          have hb2 : Blk wr (w.heap.size + 1 + 1) 58 (rI 16 (fstF (toL f) k 16)) := HK.out.blk _ m2
          have hb0 : Blk wr w.heap.size 58 (rI 16 fun _ => 0) := HK.out.blk _ m0
          have hb2 := hb2.cast_ (show rI 16 (fstF (toL f) k 16) = rI 16 (fun d => (fst9 (toL f) k d : Int)) from row_ext fun i hi => by unfold fstF; rw [if_pos hi])
          have hsz : (Try.prog.info? 58).map (·.size) = some (rI 16 fun d => (fst9 (toL f) k d : Int)).size := by rw [row_size]; kernel_rfl
          go_wp2_with (first
            | (refine wpList_load_row rfl 58 _ rfl (w.heap.size + 1 + 1) rfl 58 _ (0, 0) _ hb2 Try.underlying58 rfl hsz ?_)
            | (refine wpList_store_row rfl 58 _ _ rfl w.heap.size (rI 16 fun d => (fst9 (toL f) k d : Int)) rfl rfl 58 _ hb0 hsz (by rw [row_size, row_size]) (row_one fun _ => rfl) ?_))
          have hb3 := hb0.row_ (rI 16 fun d => (fst9 (toL f) k d : Int))
          exact bodyPost_ret (results_cell_row rfl _ _ w.heap.size 58 _ (0, 0) _ rfl hb3 Try.underlying58 rfl hsz) rfl ⟨rfl, below_setRow' HK.out.b (Nat.le_refl _) _⟩
end Go.Proofs.Ytmmkmbinmmfblaa
