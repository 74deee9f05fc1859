/- timesAnd of the layer scalar. -/
import Derived.Test.YtnfcgpoafmmioaaLe
namespace Go.Proofs.Ytnfcgpoafmmioaa
open Go.RowKit
/-- c, and the first i words of a times b. -/
def tC (a b c i : Nat) : Nat := c + a % 2 ^ (64 * i) * b
theorem tC_zero (a b c : Nat) : tC a b c 0 = c := by unfold tC; rw [Nat.mul_zero, Nat.pow_zero, Nat.mod_one, Nat.zero_mul, Nat.add_zero]
theorem M256_pow : (2 : Nat) ^ (64 * 4) = M256 := by decide
theorem tC_four (a b c : Nat) (ha : a < M256) : tC a b c 4 = a * b + c := by
  unfold tC; rw [M256_pow, Nat.mod_eq_of_lt ha, Nat.add_comm]
theorem tC_next (a b c i : Nat) : tC a b c (i + 1) = tC a b c i + (F4 a i).toNat * b * 2 ^ (64 * i) := by
  unfold tC
  rw [W64_pow, Nat.mod_mul, F4_nat', Nat.add_mul, ← Nat.add_assoc]
  congr 1
  rw [Nat.mul_comm (2 ^ (64 * i)), Nat.mul_right_comm]
theorem tC_lt (a b c i : Nat) (hb : b < M256) (hc : c < M256) : tC a b c i < 2 ^ (64 * i) * M256 := by
  have hq : 0 < 2 ^ (64 * i) := Nat.pow_pos (by decide)
  have h1 := Nat.mod_lt a hq
  unfold tC
  generalize a % 2 ^ (64 * i) = m at *
  generalize 2 ^ (64 * i) = q at *
  obtain ⟨p, rfl⟩ : ∃ p, q = p + 1 := ⟨q - 1, by omega⟩
  have h2 : m * b ≤ p * (M256 - 1) := Nat.mul_le_mul (by omega) (by omega)
  have h3 : (p + 1) * M256 = p * (M256 - 1) + p + M256 := by
    rw [Nat.succ_mul]
    have : M256 = (M256 - 1) + 1 := by decide
    rw [this, Nat.mul_succ, Nat.add_sub_cancel]
  omega
/-- What stands at word i and behind. -/
def tD (C i : Nat) : Nat := C / 2 ^ (64 * i)
theorem tD_lt (C i : Nat) (h : C < 2 ^ (64 * i) * M256) : tD C i < M256 := Nat.div_lt_of_lt_mul h
theorem F4_tD (C i j : Nat) : F4 (tD C i) j = F4 C (i + j) := by
  unfold F4 tD; rw [Nat.div_div_eq_div_mul, ← Nat.pow_add, ← Nat.mul_add]
theorem tD_next (C y i : Nat) : tD (C + y * 2 ^ (64 * i)) i = y + tD C i := by
  unfold tD; rw [Nat.add_mul_div_right _ _ (Nat.pow_pos (by decide)), Nat.add_comm]
theorem F4_low_next (C y i m : Nat) (h : m < i) : F4 (C + y * 2 ^ (64 * i)) m = F4 C m := by
  apply BitVec.eq_of_toNat_eq
  rw [F4_nat', F4_nat']
  obtain ⟨d, rfl⟩ : ∃ d, i = m + 1 + d := ⟨i - (m + 1), by omega⟩
  have e : (2 : Nat) ^ (64 * (m + 1 + d)) = 2 ^ (64 * m) * (W64 * 2 ^ (64 * d)) := by
    rw [show W64 = 2 ^ 64 from rfl, ← Nat.pow_add, ← Nat.pow_add]; congr 1; omega
  rw [e, Nat.mul_left_comm, Nat.add_mul_div_left _ _ (Nat.pow_pos (by decide)), Nat.mul_left_comm, Nat.add_mul_mod_self_left]
theorem F4_above (C k m : Nat) (h : C < 2 ^ (64 * k)) (hm : k ≤ m) : F4 C m = litw 64 0 := by
  have : C / 2 ^ (64 * m) = 0 := Nat.div_eq_of_lt (Nat.lt_of_lt_of_le h (Nat.pow_le_pow_right (by decide) (by omega)))
  unfold F4; rw [this]; rfl
/-- A row's words so far. -/
def tF (C C' k m : Nat) : BitVec 64 := if m < k then F4 C' m else F4 C m
theorem tF_put (C C' k m : Nat) : (if m = k then Value.int .u64 (iw (F4 C' k)) else Value.int .u64 (iw (tF C C' k m))) = Value.int .u64 (iw (tF C C' (k + 1) m)) := by
  unfold tF
  by_cases h : m = k
  · subst h; rw [if_pos rfl, if_pos (by omega)]
  · rw [if_neg h]
    by_cases h2 : m < k
    · rw [if_pos h2, if_pos (by omega)]
    · rw [if_neg h2, if_neg (by omega)]
theorem tF_at (C C' k : Nat) : tF C C' k k = F4 C k := by unfold tF; rw [if_neg (by omega)]
theorem tF_begin (C y i : Nat) : r64 8 (F4 C) = r64 8 (tF C (C + y * 2 ^ (64 * i)) i) := row_ext fun m _ => by
  unfold tF
  by_cases h : m < i
  · rw [if_pos h, F4_low_next _ _ _ _ h]
  · rw [if_neg h]
theorem pow_M (i : Nat) : 2 ^ (64 * i) * M256 = 2 ^ (64 * (i + 4)) := by rw [← M256_pow, ← Nat.pow_add, ← Nat.mul_add]
theorem tF_all (C C' i : Nat) (h : C < 2 ^ (64 * i) * M256) (h' : C' < 2 ^ (64 * (i + 1)) * M256) : r64 8 (tF C C' (i + 4 + 1)) = r64 8 (F4 C') := row_ext fun m _ => by
  unfold tF
  rw [pow_M] at h h'
  by_cases hm : m < i + 4 + 1
  · rw [if_pos hm]
  · rw [if_neg hm, F4_above C _ m h (by omega), F4_above C' _ m h' (by omega)]
theorem step_word (x : BitVec 64) (b C i j : Nat) (w : World) :
    Calls Try.prog 30 #[.int .u64 (iw x), .int .u64 (iw (F4 b j)), .int .u64 (iw (F4 C (i + j))), .int .u64 (iw (cr64 x.toNat b (tD C i) j))] w fun e w' => e = .returned (.tuple #[.int .u64 (iw (F4 (C + x.toNat * b * 2 ^ (64 * i)) (i + j))), .int .u64 (iw (cr64 x.toNat b (tD C i) (j + 1)))]) ∧ w = w' := by
  have h := qstepF x b (tD C i) j w
  rw [← tD_next, F4_tD, F4_tD] at h
  exact h
theorem cr_word (x : BitVec 64) (b C i : Nat) (hb : b < M256) (hC : C < 2 ^ (64 * i) * M256) : cr64 x.toNat b (tD C i) 4 = F4 (C + x.toNat * b * 2 ^ (64 * i)) (i + 4) := by
  rw [← F4_tD, tD_next]
  unfold cr64; rw [cr_four _ _ _ hb (tD_lt C i hC)]
  unfold F4; rw [M256_pow]
theorem cr64_none (x b W : Nat) : Value.int .u64 0 = .int .u64 (iw (cr64 x b W 0)) := by rw [lit0w]; unfold cr64; rw [cr_zero]; rfl
/-- Within timesAnd. -/
structure TaW (a b : Nat) (f : Nat → BitVec 64) (w wr : World) : Prop where
  da : Blk wr w.heap.size 42 (r64 8 (F4 a))
  db : Blk wr (w.heap.size + 1) 42 (r64 8 (F4 b))
  dc : Blk wr (w.heap.size + 2) 42 (r64 8 f)
  r : Blk wr (w.heap.size + 3) 42 (r64 8 zW)
  l : Below w.heap.size w wr
variable {a b : Nat} {f : Nat → BitVec 64} {w wr w' : World}
theorem TaW.drew (h : TaW a b f w wr) : TaW a b f w wr.drew := ⟨h.da, h.db, h.dc, h.r, h.l.drew⟩
theorem TaW.cast (h : TaW a b f w wr) {f' : Nat → BitVec 64} (e : r64 8 f = r64 8 f') : TaW a b f' w wr := ⟨h.da, h.db, h.dc.cast_ e, h.r, h.l⟩
theorem TaW.put {C C' k : Nat} (h : TaW a b (tF C C' k) w wr) (hk : k < 8) : TaW a b (tF C C' (k + 1)) w (wr.setCell ⟨w.heap.size + 2, k, none⟩ (.int .u64 (iw (F4 C' k)))) :=
  ⟨h.da.far (by simp) _, h.db.far (by simp) _, (h.dc.put hk _).cast_ (row_ext fun m _ => tF_put C C' k m), h.r.far (by simp) _, h.l.setCell (by simp) _⟩
theorem TaW.start (a b c : Nat) (w : World) : TaW a b (F4 c) w ((((w.alloc (.cells (r64 8 (F4 a)) 42)).alloc (.cells (r64 8 (F4 b)) 42)).alloc (.cells (r64 8 (F4 c)) 42)).alloc (.cells #[.int .u64 0, .int .u64 0, .int .u64 0, .int .u64 0, .int .u64 0, .int .u64 0, .int .u64 0, .int .u64 0] 42)) :=
  ⟨(((Blk.new w _ _).alloc _).alloc _).alloc _, (((Blk.new (w.alloc _) _ _).cast' ⟨by simp, rfl⟩).alloc _).alloc _, ((Blk.new ((w.alloc _).alloc _) _ _).cast' ⟨by simp, rfl⟩).alloc _, (Blk.new _ _ _).cast' ⟨by simp, zero8z⟩, ((((Below.refl _ _).alloc (Nat.le_refl _) _).alloc (by simp) _).alloc (by simp; omega) _).alloc (by simp; omega) _⟩
set_option maxRecDepth 100000 in
set_option maxHeartbeats 4000000 in
theorem qtimes_any (a b c : Nat) (ha : a < M256) (hb : b < M256) (hc : c < M256) (w : World) :
    Calls Try.prog 27 #[.agg (r64 8 (F4 a)), .agg (r64 8 (F4 b)), .agg (r64 8 (F4 c))] w fun e w' => e = .returned (.agg (r64 8 (F4 (a * b + c)))) ∧ Below w.heap.size w w' := by
  have HS := Lib.hid wide_size
  have hal : Try.prog.arrayLen 42 = 8 := by kernel_rfl
  have K0 := (TaW.start a b c w).cast (f' := F4 (tC a b c 0)) (by rw [tC_zero])
  have HE := Lib.hid (tC_four a b c ha)
  have HLT := Lib.hid (fun i => tC_lt a b c i hb hc)
  have HNX := Lib.hid (tC_next a b c)
  generalize hC : tC a b c = C at K0 HE HLT HNX
  clear hC ha hc
  have HB := Lib.hid hb
  clear hb
  go_enter Try.func27, Try.ntmps27
  go_wp2_with fail
  go_loopw [10] (fun ii wr => ∃ i : Nat, i ≤ 4 ∧ ii = .int .i64 (i : Int) ∧ TaW a b (F4 (C i)) w wr) (fun ii _ => 4 - (intOf ii).toNat)
  case atStart => exact ⟨0, by omega, rfl, K0⟩
  case round =>
    obtain ⟨i, hi, rfl, hr⟩ := hrel
    clear K0
    by_cases hlt : i < 4
    · have hi8 : i < 8 := by omega
      have hil0 : (i : Int) < 8 := by omega
      have hil1 : (0 : Int) ≤ i := by omega
      have hi4 : ((i + 4 : Nat) : Int) = (i : Int) + 4 := by omega
      have hi48 : (i : Int) + 4 < 8 := by omega
      have hwi4 : IntKind.i64.wrap ((i : Int) + 4) = (i : Int) + 4 := IntWalk.i64_in _ (by omega)
      have HB0 := Lib.hid (tF_begin (C i) ((F4 a i).toNat * b) i)
      have HW := Lib.hid (fun j w => step_word (F4 a i) b (C i) i j w)
      have HCW := Lib.hid (cr_word (F4 a i) b (C i) i HB.out (HLT.out i))
      have HAL := Lib.hid (tF_all (C i) (C (i + 1)) i (HLT.out i) (HLT.out (i + 1)))
      rw [HNX.out i] at HAL
      have HC1 : Hid (C (i + 1) = C i + (F4 a i).toNat * b * 2 ^ (64 * i)) := Lib.hid (HNX.out i)
      have hr0 := hr.cast HB0.out
      have HN0 := Lib.hid (cr64_none (F4 a i).toNat b (tD (C i) i))
      clear hr HB0
      generalize hC2 : C i + (F4 a i).toNat * b * 2 ^ (64 * i) = C2 at HW HCW HAL HC1 hr0
      generalize hcr : cr64 (F4 a i).toNat b (tD (C i) i) = cr at HW HCW HN0
      generalize hCi : C i = Ci at HW HAL hr0
      clear hC2 hcr hCi
      go_wp2_with fail
      go_loopw [8, 13] (fun cc jj wr => ∃ j : Nat, j ≤ 4 ∧ jj = .int .i64 (j : Int) ∧ cc = .int .u64 (iw (cr j)) ∧ TaW a b (tF Ci C2 (i + j)) w wr) (fun _ jj _ => 4 - (intOf jj).toNat)
      case atStart => exact ⟨0, by omega, rfl, HN0.out, hr0⟩
      case round =>
        obtain ⟨j, hj, rfl, rfl, hq⟩ := hrel
        clear hr0 HN0
        by_cases hjlt : j < 4
        · have hjl0 : (j : Int) < 8 := by omega
          have hjl1 : (0 : Int) ≤ j := by omega
          have hj8 : j < 8 := by omega
          obtain ⟨d, hd⟩ : ∃ d, d = i + j := ⟨_, rfl⟩
          have hd8 : d < 8 := by omega
          have hdl0 : (d : Int) < 8 := by omega
          have hdl1 : (0 : Int) ≤ d := by omega
          have HD : Hid ((i : Int) + j = d) := Lib.hid (by omega)
          have CS := Lib.hid (HW.out j)
          have HIJ := Lib.hid (show i + (j + 1) = d + 1 by omega)
          rw [← hd] at hq CS
          clear hd
          have HPUT : Hid (∀ wx, TaW a b (tF Ci C2 d) w wx → TaW a b (tF Ci C2 (d + 1)) w (wx.setCell ⟨w.heap.size + 2, d, none⟩ (.int .u64 (iw (F4 C2 d))))) := Lib.hid (fun wx hx => hx.put hd8)
          go_wp2_with fail
          refine wp_region_anyL (Two 20 1000 fun f1 _ wx => TaW a b (if f1 then tF Ci C2 (d + 1) else tF Ci C2 d) w wx) (by kernel_rfl) hq.drew ?_
          refine anyL_take (i := 0) (v := ?_) rfl (by kernel_rfl) (by kernel_rfl) (by kernel_rfl) (yl_other (by decide) (by decide) rfl (fun f1 f2 wx hT => ?_)) ?_; rotate_left
          · refine lands_value (w := wx) ?_ hT; go_simp <;> rfl
          simp only [Act.put, List.setIfInBounds_toArray, List.set_cons_zero, List.set_cons_succ]
          refine anyL_take (i := 1) (v := ?_) rfl (by kernel_rfl) (by kernel_rfl) (by kernel_rfl) (yl_other (by decide) (by decide) rfl (fun f1 f2 wx hT => ?_)) ?_; rotate_left
          · refine lands_value (w := wx) ?_ hT; go_simp <;> rfl
          simp only [Act.put, List.setIfInBounds_toArray, List.set_cons_zero, List.set_cons_succ]
          refine anyL_take (i := 2) (v := .int .i64 (d : Int)) rfl (by kernel_rfl) (by kernel_rfl) (by kernel_rfl) (yl_other (by decide) (by decide) rfl (fun f1 f2 wx hT => ?_)) ?_
          · refine lands_value (w := wx) ?_ hT; go_simp <;> first | exact HD.out | (rw [HD.out]; exact IntWalk.i64_in _ (by omega)) | (rw [HD.out, IntWalk.i64_in _ (by omega)])
          simp only [Act.put, List.setIfInBounds_toArray, List.set_cons_zero, List.set_cons_succ]
          refine anyL_take (i := 3) (v := ?_) rfl (by kernel_rfl) (by kernel_rfl) (by kernel_rfl) (yl_other (by decide) (by decide) rfl (fun f1 f2 wx hT => ?_)) ?_; rotate_left
          · refine lands_value (w := wx) ?_ hT; go_simp <;> rfl
          simp only [Act.put, List.setIfInBounds_toArray, List.set_cons_zero, List.set_cons_succ]
          refine anyL_take (i := 4) (v := ?_) rfl (by kernel_rfl) (by kernel_rfl) (by kernel_rfl) (yl_other (by decide) (by decide) rfl (fun f1 f2 wx hT => ?_)) ?_; rotate_left
          · refine lands_value (w := wx) ?_ hT; go_simp <;> rfl
          simp only [Act.put, List.setIfInBounds_toArray, List.set_cons_zero, List.set_cons_succ]
          refine anyL_take (i := 5) (v := .int .u64 (iw (F4 a i))) rfl (by kernel_rfl) (by kernel_rfl) (by kernel_rfl) (yl_other (by decide) (by decide) rfl (fun f1 f2 wx hT => ?_)) ?_
          · have c0 := hT.da.at_ hi8; refine lands_value (w := wx) ?_ hT; go_simp
          simp only [Act.put, List.setIfInBounds_toArray, List.set_cons_zero, List.set_cons_succ]
          refine anyL_take (i := 6) (v := ?_) rfl (by kernel_rfl) (by kernel_rfl) (by kernel_rfl) (yl_other (by decide) (by decide) rfl (fun f1 f2 wx hT => ?_)) ?_; rotate_left
          · refine lands_value (w := wx) ?_ hT; go_simp <;> rfl
          simp only [Act.put, List.setIfInBounds_toArray, List.set_cons_zero, List.set_cons_succ]
          refine anyL_take (i := 7) (v := ?_) rfl (by kernel_rfl) (by kernel_rfl) (by kernel_rfl) (yl_other (by decide) (by decide) rfl (fun f1 f2 wx hT => ?_)) ?_; rotate_left
          · refine lands_value (w := wx) ?_ hT; go_simp <;> rfl
          simp only [Act.put, List.setIfInBounds_toArray, List.set_cons_zero, List.set_cons_succ]
          refine anyL_take (i := 8) (v := .int .u64 (iw (F4 b j))) rfl (by kernel_rfl) (by kernel_rfl) (by kernel_rfl) (yl_other (by decide) (by decide) rfl (fun f1 f2 wx hT => ?_)) ?_
          · have c0 := hT.db.at_ hj8; refine lands_value (w := wx) ?_ hT; go_simp
          simp only [Act.put, List.setIfInBounds_toArray, List.set_cons_zero, List.set_cons_succ]
          refine anyL_take (i := 9) (v := ?_) rfl (by kernel_rfl) (by kernel_rfl) (by kernel_rfl) (yl_other (by decide) (by decide) rfl (fun f1 f2 wx hT => ?_)) ?_; rotate_left
          · refine lands_value (w := wx) ?_ hT; go_simp <;> rfl
          simp only [Act.put, List.setIfInBounds_toArray, List.set_cons_zero, List.set_cons_succ]
          refine anyL_take (i := 10) (v := ?_) rfl (by kernel_rfl) (by kernel_rfl) (by kernel_rfl) (yl_other (by decide) (by decide) rfl (fun f1 f2 wx hT => ?_)) ?_; rotate_left
          · refine lands_value (w := wx) ?_ hT; go_simp <;> rfl
          simp only [Act.put, List.setIfInBounds_toArray, List.set_cons_zero, List.set_cons_succ]
          refine anyL_take (i := 11) (v := .int .i64 (d : Int)) rfl (by kernel_rfl) (by kernel_rfl) (by kernel_rfl) (yl_other (by decide) (by decide) rfl (fun f1 f2 wx hT => ?_)) ?_
          · refine lands_value (w := wx) ?_ hT; go_simp <;> first | exact HD.out | (rw [HD.out]; exact IntWalk.i64_in _ (by omega)) | (rw [HD.out, IntWalk.i64_in _ (by omega)])
          simp only [Act.put, List.setIfInBounds_toArray, List.set_cons_zero, List.set_cons_succ]
          refine anyL_take (i := 12) (v := ?_) rfl (by kernel_rfl) (by kernel_rfl) (by kernel_rfl) (yl_other (by decide) (by decide) rfl (fun f1 f2 wx hT => ?_)) ?_; rotate_left
          · refine lands_value (w := wx) ?_ hT; go_simp <;> rfl
          simp only [Act.put, List.setIfInBounds_toArray, List.set_cons_zero, List.set_cons_succ]
          refine anyL_take (i := 13) (v := .int .u64 (iw (F4 Ci d))) rfl (by kernel_rfl) (by kernel_rfl) (by kernel_rfl) (yl_ahead (n := 12) (by decide) (by decide) (by kernel_rfl) rfl (fun f2 wx hT => ?_)) ?_
          · have c0 := hT.dc.at_ hd8; simp only [if_false, Bool.false_eq_true, tF_at] at c0; refine lands_value (w := wx) ?_ hT; go_simp
          simp only [Act.put, List.setIfInBounds_toArray, List.set_cons_zero, List.set_cons_succ]
          refine anyL_take (i := 14) (v := ?_) rfl (by kernel_rfl) (by kernel_rfl) (by kernel_rfl) (yl_other (by decide) (by decide) rfl (fun f1 f2 wx hT => ?_)) ?_; rotate_left
          · refine lands_value (w := wx) ?_ hT; go_simp <;> rfl
          simp only [Act.put, List.setIfInBounds_toArray, List.set_cons_zero, List.set_cons_succ]
          refine anyL_take (i := 15) (v := .tuple #[.int .u64 (iw (F4 C2 d)), .int .u64 (iw (cr (j + 1)))]) rfl (by kernel_rfl) (by kernel_rfl) (by kernel_rfl) (yl_other (by decide) (by decide) rfl (fun f1 f2 wx hT => ?_)) ?_
          · exact lands_calls (w := wx) ((CS.out wx).mono fun _ _ ⟨he, hb⟩ => ⟨he, hb ▸ hT⟩) (by go_simp)
          simp only [Act.put, List.setIfInBounds_toArray, List.set_cons_zero, List.set_cons_succ]
          refine anyL_take (i := 16) (v := ?_) rfl (by kernel_rfl) (by kernel_rfl) (by kernel_rfl) (yl_other (by decide) (by decide) rfl (fun f1 f2 wx hT => ?_)) ?_; rotate_left
          · refine lands_value (w := wx) ?_ hT; go_simp <;> rfl
          simp only [Act.put, List.setIfInBounds_toArray, List.set_cons_zero, List.set_cons_succ]
          refine anyL_take (i := 17) (v := ?_) rfl (by kernel_rfl) (by kernel_rfl) (by kernel_rfl) (yl_other (by decide) (by decide) rfl (fun f1 f2 wx hT => ?_)) ?_; rotate_left
          · refine lands_value (w := wx) ?_ hT; go_simp <;> rfl
          simp only [Act.put, List.setIfInBounds_toArray, List.set_cons_zero, List.set_cons_succ]
          refine anyL_take (i := 18) (v := ?_) rfl (by kernel_rfl) (by kernel_rfl) (by kernel_rfl) (yl_other (by decide) (by decide) rfl (fun f1 f2 wx hT => ?_)) ?_; rotate_left
          · refine lands_value (w := wx) ?_ hT; go_simp <;> rfl
          simp only [Act.put, List.setIfInBounds_toArray, List.set_cons_zero, List.set_cons_succ]
          refine anyL_take (i := 19) (v := ?_) rfl (by kernel_rfl) (by kernel_rfl) (by kernel_rfl) (yl_other (by decide) (by decide) rfl (fun f1 f2 wx hT => ?_)) ?_; rotate_left
          · refine lands_value (w := wx) ?_ hT; go_simp <;> rfl
          simp only [Act.put, List.setIfInBounds_toArray, List.set_cons_zero, List.set_cons_succ]
          refine anyL_take (i := 20) (v := undef) rfl (by kernel_rfl) (by kernel_rfl) (by kernel_rfl) (yl_first (by decide) rfl (fun f2 wx hT => ?_)) ?_
          · have co := hT.dc.at_ hd8; have fo := hT.dc.frozen d; have K := HPUT.out _ hT; go_simp; exact ⟨rfl, K⟩
          simp only [Act.put]
          refine anyL_take (i := 21) (v := ?_) rfl (by kernel_rfl) (by kernel_rfl) (by kernel_rfl) (yl_other (by decide) (by decide) rfl (fun f1 f2 wx hT => ?_)) ?_; rotate_left
          · refine lands_value (w := wx) ?_ hT; go_simp <;> rfl
          simp only [Act.put, List.setIfInBounds_toArray, List.set_cons_zero, List.set_cons_succ]
          refine anyL_done (by kernel_rfl) (fun w3 (K : TaW a b (tF Ci C2 (d + 1)) w w3) => ?_) _
          clear hq HPUT CS
          go_wp2_with fail
          go_roundw
          case rel => exact ⟨j + 1, by omega, by go_num, rfl, by rw [HIJ.out]; exact K⟩
          case measure => simp [intOf]; omega
        · obtain rfl : j = 4 := by omega
          have hi48' : i + 4 < 8 := by omega
          have co := hq.dc.at_ hi48'
          have fo := hq.dc.frozen (i + 4)
          have K := hq.put hi48'
          rw [← HCW.out] at K
          have HK := Lib.hid (K.cast HAL.out)
          clear hq K HW
          go_wp2_with fail
          go_roundw
          case rel => exact ⟨i + 1, by omega, by go_num, by rw [HC1.out]; exact HK.out⟩
          case measure => simp [intOf]; omega
    · obtain rfl : i = 4 := by omega
      have ho := hr.dc
      have hz := hr.r
      have hl := hr.l
      clear hr HLT HNX
      generalize hN : C 4 = n at HE ho
      clear hN
      go_wp2_with (first
        | (refine wpList_load_row rfl 42 _ rfl (w.heap.size + 2) rfl 42 _ (0, 0) _ ho Try.underlying42 rfl (HS.out _) ?_)
        | (refine wpList_store_row rfl 42 _ _ rfl (w.heap.size + 3) (r64 8 (F4 n)) rfl rfl 42 _ hz (HS.out _) (by simp only [row_size]) (row_one fun _ => rfl) ?_))
      exact bodyPost_ret (results_cell_row rfl _ _ (w.heap.size + 3) 42 (r64 8 (F4 n)) (0, 0) _ rfl (hz.row_ _) Try.underlying42 rfl (HS.out _)) rfl ⟨by rw [HE.out], below_setRow' hl (by omega) _⟩
end Go.Proofs.Ytnfcgpoafmmioaa
