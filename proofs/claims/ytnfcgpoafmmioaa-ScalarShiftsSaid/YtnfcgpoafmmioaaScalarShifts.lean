/- ScalarShifts: the walk. -/
import Derived.Test.YtnfcgpoafmmioaaLm
namespace Go.Proofs.Ytnfcgpoafmmioaa
open Go.RowKit
/-- The k bytes of a number as a text. -/
def textN (k n : Nat) : ByteArray := ⟨(asBytes ((List.range k).map fun i => BitVec.ofNat 8 (byteK n i))).toArray⟩
theorem textN_size (k n : Nat) : (textN k n).size = k := by
  unfold textN; show (asBytes _).toArray.size = k; simp [asBytes]
theorem textN_byte (k n j : Nat) (hj : j < k) : byteS (textN k n) j = byteK n j := by
  unfold byteS
  rw [dif_pos (by rw [textN_size]; exact hj)]
  show ((textN k n).data[j]'_).toNat = _
  simp only [textN, asBytes, List.getElem_toArray, List.getElem_map, List.getElem_range]
  show (BitVec.ofNat 8 (byteK n j)).toNat = _
  rw [BitVec.toNat_ofNat]
  exact Nat.mod_eq_of_lt (byteK_lt _ _)
theorem numV_textN (k n m : Nat) (hm : k ≤ m) (h : n < 2 ^ (8 * k)) : numV (textN k n) m = n := by
  unfold numV
  rw [textN_size, show min k m = k by omega, bv_congr k (fun j hj => textN_byte k n j hj), bv_bytes]
  exact Nat.mod_eq_of_lt h
theorem byteS_append (s t : ByteArray) (j : Nat) : byteS (s ++ t) j = if j < s.size then byteS s j else byteS t (j - s.size) := by
  unfold byteS
  by_cases h : j < s.size
  · rw [if_pos h, dif_pos (by rw [ByteArray.size_append]; omega), dif_pos h, ByteArray.getElem_append_left h]
  · rw [if_neg h]
    by_cases h2 : j - s.size < t.size
    · rw [dif_pos (by rw [ByteArray.size_append]; omega), dif_pos h2, ByteArray.getElem_append_right (by omega)]
    · rw [dif_neg (by rw [ByteArray.size_append]; omega), dif_neg h2]
theorem bv_shift (f g : Nat → Nat) (h0 : f 0 = 0) (h : ∀ j, f (j + 1) = g j) : ∀ n, bv f (n + 1) = 256 * bv g n
  | 0 => by show 0 + f 0 * _ = 256 * 0; rw [h0]
  | n + 1 => by
    show bv f (n + 1) + f (n + 1) * 2 ^ (8 * (n + 1)) = 256 * (bv g n + g n * 2 ^ (8 * n))
    rw [bv_shift f g h0 h n, h, pow8, Nat.mul_add, ← Nat.mul_assoc, Nat.mul_comm _ 256]
theorem numV_shift (s : ByteArray) (h : s.size ≤ 31) : numV (⟨#[0]⟩ ++ s) 64 = 256 * numV s 32 := by
  unfold numV
  have hsz : (⟨#[0]⟩ ++ s : ByteArray).size = s.size + 1 := by rw [ByteArray.size_append]; show 1 + _ = _; omega
  rw [hsz, show min (s.size + 1) 64 = s.size + 1 by omega, show min s.size 32 = s.size by omega]
  refine bv_shift _ _ ?_ (fun j => ?_) _
  · rw [byteS_append, if_pos (by show 0 < 1; omega)]; rfl
  · rw [byteS_append, if_neg (by show ¬ j + 1 < 1; omega)]; rfl
theorem numV_256 : numV ⟨#[0, 1]⟩ 32 = 256 := by decide +kernel
theorem maV_shift (a : ByteArray) (h : a.size ≤ 31) : maV a ⟨#[0, 1]⟩ ⟨#[]⟩ = redV (⟨#[0]⟩ ++ a) := by
  unfold maV redV
  rw [numV_shift a h, numV_256, numV_none, Nat.add_zero, Nat.mul_comm]
theorem small_q {x y : Nat} (hx : x < 4294967296) (hy : y < 4294967296) : x * y < 18446744073709551616 := Nat.mul_lt_mul'' hx hy
theorem maV_small (x y : Nat) (hx : x < 4294967296) (hy : y < 4294967296) : maV (textN 4 x) (textN 4 y) ⟨#[]⟩ = bytesV (x * y) := by
  have h := small_q hx hy
  unfold maV
  rw [numV_textN 4 x 32 (by omega) hx, numV_textN 4 y 32 (by omega) hy, numV_none, Nat.add_zero, Nat.mod_eq_of_lt (Nat.lt_trans h (by decide))]
theorem prod_word (x y : BitVec 32) : (mulw (castw 64 x) (castw 64 y)).toNat = x.toNat * y.toNat := by
  have hx := x.isLt
  have hy := y.isLt
  have h := small_q hx hy
  unfold mulw castw
  rw [BitVec.toNat_mul, BitVec.toNat_ofNat, BitVec.toNat_ofNat, Nat.mod_eq_of_lt (show x.toNat < 2 ^ 64 by omega), Nat.mod_eq_of_lt (show y.toNat < 2 ^ 64 by omega)]
  exact Nat.mod_eq_of_lt h
theorem four_byte (x : BitVec 32) (k : Nat) : castw 8 (shrw x (8 * k)) = BitVec.ofNat 8 (byteK x.toNat k) := by
  apply BitVec.eq_of_toNat_eq
  unfold castw shrw byteK
  rw [BitVec.toNat_ofNat, BitVec.toNat_ofNat, BitVec.toNat_ushiftRight, Nat.shiftRight_eq_div_pow]
  omega
theorem word_byte (x : BitVec 64) (k : Nat) : castw 8 (shrw x (8 * k)) = BitVec.ofNat 8 (byteK x.toNat k) := by
  apply BitVec.eq_of_toNat_eq
  unfold castw shrw byteK
  rw [BitVec.toNat_ofNat, BitVec.toNat_ofNat, BitVec.toNat_ushiftRight, Nat.shiftRight_eq_div_pow]
  omega
theorem four_byte0 (x : BitVec 32) : castw 8 x = BitVec.ofNat 8 (byteK x.toNat 0) := by
  have h := four_byte x 0
  rwa [show shrw x (8 * 0) = x from by unfold shrw; simp] at h
def fourF (x : BitVec 32) (i : Nat) : BitVec 8 := BitVec.ofNat 8 (byteK x.toNat i)
theorem four_row (x : BitVec 32) : #[Value.int .u8 (iw (castw 8 x)), .int .u8 (iw (castw 8 (shrw x 8))), .int .u8 (iw (castw 8 (shrw x 16))), .int .u8 (iw (castw 8 (shrw x 24)))] = r8 4 (fourF x) := by
  rw [four_byte0, four_byte x 1, four_byte x 2, four_byte x 3]; rfl
set_option maxRecDepth 100000 in
theorem lfour_any (x : BitVec 32) (w : World) :
    Calls Try.prog 21 #[.int .u32 (iw x)] w fun e w' => e = .returned (.string (textN 4 x.toNat)) ∧ Below w.heap.size w w' := by
  have HR := Lib.hid (four_row x)
  have hst : (convert 34 9 (.slice (some ⟨w.heap.size, 0, none⟩) 4 4)).run Try.prog (w.alloc (.cells (r8 4 (fourF x)) 5)) = .ok (.string (textN 4 x.toNat)) (w.alloc (.cells (r8 4 (fourF x)) 5)) :=
    run_string_of_blk (P := Try.prog) _ 34 9 5 Try.underlying34 Try.underlying5 Try.underlying9 w.heap.size 4 4 _ _ (Blk.new w _ _)
  rw [← HR.out] at hst
  go_enter Try.func21, Try.ntmps21
  go_wp2_with fail
  go_ret
  exact ⟨rfl, (Below.refl _ _).alloc (Nat.le_refl _) _⟩
/-- Within ScalarShifts: the bytes so far. -/
structure ShW (p k g : Nat) (w wr : World) : Prop where
  o : Blk wr g 5 (r8 32 (bF p k))
  l : Below w.heap.size w wr
  ge : w.heap.size ≤ g
theorem ShW.drew {p k g : Nat} {w wr : World} (h : ShW p k g w wr) : ShW p k g w wr.drew := ⟨h.o, h.l.drew, h.ge⟩
theorem ShW.below {p k g : Nat} {w wr w' : World} (h : ShW p k g w wr) (hb : Below wr.heap.size wr w') : ShW p k g w w' := ⟨h.o.below hb h.o.lt, h.l.trans (hb.mono h.l.size), h.ge⟩
theorem ShW.put {p k g : Nat} {w wr : World} (h : ShW p k g w wr) (hk : k < 32) : ShW p (k + 1) g w (wr.setCell ⟨g, k, none⟩ (.int .u8 (iw (BitVec.ofNat 8 (byteK p k))))) :=
  ⟨(h.o.put hk _).cast_ (row_ext fun i _ => bF_put p k i), h.l.setCell h.ge _, h.ge⟩
theorem ShW.all {p g : Nat} {w wr : World} (h : ShW p 8 g w wr) (hp : p < 18446744073709551616) : ShW p 32 g w wr :=
  ⟨h.o.cast_ (row_ext fun i hi => by
    unfold bF
    by_cases h8 : i < 8
    · rw [if_pos h8, if_pos hi]
    · rw [if_neg h8, if_pos hi]
      have h64 : (2 : Nat) ^ (8 * 8) = 18446744073709551616 := by decide
      have hz : p / 2 ^ (8 * i) = 0 := Nat.div_eq_of_lt (Nat.lt_of_lt_of_le hp (by rw [← h64]; exact Nat.pow_le_pow_right (by decide) (by omega)))
      have : byteK p i = 0 := by unfold byteK; rw [hz]
      rw [this]; rfl), h.l, h.ge⟩
set_option maxRecDepth 100000 in
set_option maxHeartbeats 4000000 in
theorem shifts_any (a : ByteArray) (x y : BitVec 32) (w : World) :
    Calls Try.prog 8 #[.string a, .int .u32 (iw x), .int .u32 (iw y)] w fun e w' => e = .returned (.bool true) ∧ Below w.heap.size w w' := by
  have CX := Lib.hid (fun w => examples_any w)
  obtain ⟨na, hna⟩ : ∃ n, n = min a.size 31 := ⟨_, rfl⟩
  have HMa : Hid (na = min a.size 31) := Lib.hid hna
  have hla : (na : Int) ≤ a.size := by omega
  have hsa : (a.extract 0 na).size ≤ 31 := by rw [ByteArray.size_extract]; omega
  generalize hTa : a.extract 0 na = ta at hsa
  clear hna
  have C1 : Hid (∀ w, Calls Try.prog 10 #[.string (⟨#[0]⟩ ++ ta)] w fun e w' => e = .returned (.string (redV (⟨#[0]⟩ ++ ta))) ∧ Below w.heap.size w w') := Lib.hid (fun w => by
    have h := qreduce_any (⟨#[0]⟩ ++ ta) w
    exact h)
  have C2 : Hid (∀ w, Calls Try.prog 14 #[.string ta, .string ⟨#[0, 1]⟩, .string ⟨#[]⟩] w fun e w' => e = .returned (.string (redV (⟨#[0]⟩ ++ ta))) ∧ Below w.heap.size w w') := Lib.hid (fun w => by
    have h := qmuladd_any ta ⟨#[0, 1]⟩ ⟨#[]⟩ w
    rw [maV_shift ta hsa] at h
    exact h)
  have C3 := Lib.hid (fun w => lfour_any x w)
  have C4 := Lib.hid (fun w => lfour_any y w)
  have C5 : Hid (∀ w, Calls Try.prog 14 #[.string (textN 4 x.toNat), .string (textN 4 y.toNat), .string ⟨#[]⟩] w fun e w' => e = .returned (.string (bytesV (x.toNat * y.toNat))) ∧ Below w.heap.size w w') := Lib.hid (fun w => by
    have h := qmuladd_any (textN 4 x.toNat) (textN 4 y.toNat) ⟨#[]⟩ w
    rw [maV_small _ _ x.isLt y.isLt] at h
    exact h)
  have HP := Lib.hid (prod_word x y)
  have HPL := Lib.hid (small_q x.isLt y.isLt)
  have HWB := Lib.hid (word_byte (mulw (castw 64 x) (castw 64 y)))
  rw [HP.out] at HWB
  have HX := Lib.hid (text_self (redV (⟨#[0]⟩ ++ ta)))
  generalize redV (⟨#[0]⟩ ++ ta) = r at C1 C2 HX
  generalize textN 4 x.toNat = fx at C3 C5
  generalize textN 4 y.toNat = fy at C4 C5
  generalize x.toNat * y.toNat = p at C5 HP HPL HWB
  generalize hW : mulw (castw 64 x) (castw 64 y) = W at HP HWB
  have hmk : ∀ w, (Instr.makeSlice 34 (.int .i64 32) (.int .i64 32)).run Try.prog w = .ok (.slice (some ⟨w.heap.size, 0, none⟩) 32 32) (w.alloc (.cells (r8 32 (bF p 0)) 5)) := fun w => by rw [bF_none]; kernel_rfl
  have HMK := Lib.hid hmk
  have HSA := Lib.hid hsa
  clear hmk hsa
  go_enter Try.func8, Try.ntmps8
  go_wp2_with fail
  refine (CX.out _).mono ?_
  rintro e w0 ⟨rfl, h0⟩
  have hmk2 := HMK.out w0
  have K0 : ShW p 0 w0.heap.size w (w0.alloc (.cells (r8 32 (bF p 0)) 5)) := ⟨Blk.new _ _ _, h0.alloc h0.size _, h0.size⟩
  clear h0
  go_wp2_with (first | (refine wpList_valQ (R := fun w' => w' = _) (.int .i64 (na : Int)) rfl (by rw [HMa.out]; exact lands_min (.tmp 16) a.size 31 rfl rfl rfl) ?_; intro w' hw'; rw [hw']; clear hw'))
  generalize w0.heap.size = g at K0 ⊢
  go_loopw [10] (fun ii wr => ∃ k : Nat, k ≤ 8 ∧ ii = .int .i64 (k : Int) ∧ ShW p k g w wr) (fun ii _ => 8 - (intOf ii).toNat)
  case atStart => exact ⟨0, by omega, rfl, K0⟩
  case round =>
    obtain ⟨k, hk, rfl, hr⟩ := hrel
    clear K0
    by_cases hlt : k < 8
    · have hl0 : (k : Int) < 32 := by omega
      have hl1 : (0 : Int) ≤ k := by omega
      have hk32 : k < 32 := by omega
      have co := hr.o.at_ hk32
      have fo := hr.o.frozen k
      have HK := Lib.hid (hr.put hk32)
      have HB := Lib.hid (HWB.out k)
      clear hr
      go_wp2_with fail
      rw [HB.out]
      go_roundw
      case rel => exact ⟨k + 1, by omega, by go_num, HK.out⟩
      case measure => simp [intOf]; omega
    · obtain rfl : k = 8 := by omega
      have h1 := hr.all HPL.out
      clear hr
      go_wp2_with fail
      refine wp_region_anyL (Two 1000 1001 fun _ _ wx => ShW p 32 g w wx) (by kernel_rfl) h1.drew ?_
      refine anyL_take (i := 0) (v := ?_) rfl (by kernel_rfl) (by kernel_rfl) (by kernel_rfl) (yl_other (by decide) (by decide) rfl (fun f1 f2 wx hT => ?_)) ?_; rotate_left
      · refine lands_value (w := wx) ?_ hT; go_simp <;> rfl
      simp only [Act.put, List.setIfInBounds_toArray, List.set_cons_zero, List.set_cons_succ]
      refine anyL_take (i := 1) (v := ?_) rfl (by kernel_rfl) (by kernel_rfl) (by kernel_rfl) (yl_other (by decide) (by decide) rfl (fun f1 f2 wx hT => ?_)) ?_; rotate_left
      · refine lands_value (w := wx) ?_ hT; go_simp <;> rfl
      simp only [Act.put, List.setIfInBounds_toArray, List.set_cons_zero, List.set_cons_succ]
      refine anyL_take (i := 2) (v := ?_) rfl (by kernel_rfl) (by kernel_rfl) (by kernel_rfl) (yl_other (by decide) (by decide) rfl (fun f1 f2 wx hT => ?_)) ?_; rotate_left
      · refine lands_value (w := wx) ?_ hT; go_simp <;> rfl
      simp only [Act.put, List.setIfInBounds_toArray, List.set_cons_zero, List.set_cons_succ]
      refine anyL_take (i := 3) (v := .string (⟨#[0]⟩ ++ ta)) rfl (by kernel_rfl) (by kernel_rfl) (by kernel_rfl) (yl_other (by decide) (by decide) rfl (fun f1 f2 wx hT => ?_)) ?_
      · have hsa := HSA.out; refine lands_value (w := wx) ?_ hT; go_simp; omega
      simp only [Act.put, List.setIfInBounds_toArray, List.set_cons_zero, List.set_cons_succ]
      refine anyL_take (i := 4) (v := .string r) rfl (by kernel_rfl) (by kernel_rfl) (by kernel_rfl) (yl_other (by decide) (by decide) rfl (fun f1 f2 wx hT => ?_)) ?_
      · exact lands_calls (w := wx) ((C1.out wx).mono fun _ _ ⟨he, hb⟩ => ⟨he, hT.below hb⟩) (by go_simp)
      simp only [Act.put, List.setIfInBounds_toArray, List.set_cons_zero, List.set_cons_succ]
      refine anyL_take (i := 5) (v := ?_) rfl (by kernel_rfl) (by kernel_rfl) (by kernel_rfl) (yl_other (by decide) (by decide) rfl (fun f1 f2 wx hT => ?_)) ?_; rotate_left
      · refine lands_value (w := wx) ?_ hT; go_simp <;> rfl
      simp only [Act.put, List.setIfInBounds_toArray, List.set_cons_zero, List.set_cons_succ]
      refine anyL_take (i := 6) (v := .string r) rfl (by kernel_rfl) (by kernel_rfl) (by kernel_rfl) (yl_other (by decide) (by decide) rfl (fun f1 f2 wx hT => ?_)) ?_
      · exact lands_calls (w := wx) ((C2.out wx).mono fun _ _ ⟨he, hb⟩ => ⟨he, hT.below hb⟩) (by go_simp)
      simp only [Act.put, List.setIfInBounds_toArray, List.set_cons_zero, List.set_cons_succ]
      refine anyL_take (i := 7) (v := .bool true) rfl (by kernel_rfl) (by kernel_rfl) (by kernel_rfl) (yl_other (by decide) (by decide) rfl (fun f1 f2 wx hT => ?_)) ?_
      · exact lands_text _ _ rfl r r rfl rfl true (decide_eq_true rfl) hT
      simp only [Act.put, List.setIfInBounds_toArray, List.set_cons_zero, List.set_cons_succ]
      refine anyL_take (i := 8) (v := ?_) rfl (by kernel_rfl) (by kernel_rfl) (by kernel_rfl) (yl_other (by decide) (by decide) rfl (fun f1 f2 wx hT => ?_)) ?_; rotate_left
      · refine lands_value (w := wx) ?_ hT; go_simp <;> rfl
      simp only [Act.put, List.setIfInBounds_toArray, List.set_cons_zero, List.set_cons_succ]
      refine anyL_take (i := 9) (v := ?_) rfl (by kernel_rfl) (by kernel_rfl) (by kernel_rfl) (yl_other (by decide) (by decide) rfl (fun f1 f2 wx hT => ?_)) ?_; rotate_left
      · refine lands_value (w := wx) ?_ hT; go_simp <;> rfl
      simp only [Act.put, List.setIfInBounds_toArray, List.set_cons_zero, List.set_cons_succ]
      refine anyL_take (i := 10) (v := ?_) rfl (by kernel_rfl) (by kernel_rfl) (by kernel_rfl) (yl_other (by decide) (by decide) rfl (fun f1 f2 wx hT => ?_)) ?_; rotate_left
      · refine lands_value (w := wx) ?_ hT; go_simp <;> rfl
      simp only [Act.put, List.setIfInBounds_toArray, List.set_cons_zero, List.set_cons_succ]
      refine anyL_take (i := 11) (v := .string fx) rfl (by kernel_rfl) (by kernel_rfl) (by kernel_rfl) (yl_other (by decide) (by decide) rfl (fun f1 f2 wx hT => ?_)) ?_
      · exact lands_calls (w := wx) ((C3.out wx).mono fun _ _ ⟨he, hb⟩ => ⟨he, hT.below hb⟩) (by go_simp)
      simp only [Act.put, List.setIfInBounds_toArray, List.set_cons_zero, List.set_cons_succ]
      refine anyL_take (i := 12) (v := ?_) rfl (by kernel_rfl) (by kernel_rfl) (by kernel_rfl) (yl_other (by decide) (by decide) rfl (fun f1 f2 wx hT => ?_)) ?_; rotate_left
      · refine lands_value (w := wx) ?_ hT; go_simp <;> rfl
      simp only [Act.put, List.setIfInBounds_toArray, List.set_cons_zero, List.set_cons_succ]
      refine anyL_take (i := 13) (v := .string fy) rfl (by kernel_rfl) (by kernel_rfl) (by kernel_rfl) (yl_other (by decide) (by decide) rfl (fun f1 f2 wx hT => ?_)) ?_
      · exact lands_calls (w := wx) ((C4.out wx).mono fun _ _ ⟨he, hb⟩ => ⟨he, hT.below hb⟩) (by go_simp)
      simp only [Act.put, List.setIfInBounds_toArray, List.set_cons_zero, List.set_cons_succ]
      refine anyL_take (i := 14) (v := .string (bytesV p)) rfl (by kernel_rfl) (by kernel_rfl) (by kernel_rfl) (yl_other (by decide) (by decide) rfl (fun f1 f2 wx hT => ?_)) ?_
      · exact lands_calls (w := wx) ((C5.out wx).mono fun _ _ ⟨he, hb⟩ => ⟨he, hT.below hb⟩) (by go_simp)
      simp only [Act.put, List.setIfInBounds_toArray, List.set_cons_zero, List.set_cons_succ]
      refine anyL_take (i := 15) (v := ?_) rfl (by kernel_rfl) (by kernel_rfl) (by kernel_rfl) (yl_other (by decide) (by decide) rfl (fun f1 f2 wx hT => ?_)) ?_; rotate_left
      · refine lands_value (w := wx) ?_ hT; go_simp <;> rfl
      simp only [Act.put, List.setIfInBounds_toArray, List.set_cons_zero, List.set_cons_succ]
      refine anyL_take (i := 16) (v := .string (bytesV p)) rfl (by kernel_rfl) (by kernel_rfl) (by kernel_rfl) (yl_other (by decide) (by decide) rfl (fun f1 f2 wx hT => ?_)) ?_
      · have hst := run_string_of_blk (P := Try.prog) wx 34 9 5 Try.underlying34 Try.underlying5 Try.underlying9 g 32 32 _ _ hT.o; rw [bF_all] at hst; refine lands_value (w := wx) ?_ hT; go_simp
      simp only [Act.put, List.setIfInBounds_toArray, List.set_cons_zero, List.set_cons_succ]
      refine anyL_take (i := 17) (v := .bool true) rfl (by kernel_rfl) (by kernel_rfl) (by kernel_rfl) (yl_other (by decide) (by decide) rfl (fun f1 f2 wx hT => ?_)) ?_
      · exact lands_text _ _ rfl (bytesV p) (bytesV p) rfl rfl true (decide_eq_true rfl) hT
      simp only [Act.put, List.setIfInBounds_toArray, List.set_cons_zero, List.set_cons_succ]
      refine anyL_take (i := 18) (v := ?_) rfl (by kernel_rfl) (by kernel_rfl) (by kernel_rfl) (yl_other (by decide) (by decide) rfl (fun f1 f2 wx hT => ?_)) ?_; rotate_left
      · refine lands_value (w := wx) ?_ hT; go_simp <;> rfl
      simp only [Act.put, List.setIfInBounds_toArray, List.set_cons_zero, List.set_cons_succ]
      refine anyL_take (i := 19) (v := ?_) rfl (by kernel_rfl) (by kernel_rfl) (by kernel_rfl) (yl_other (by decide) (by decide) rfl (fun f1 f2 wx hT => ?_)) ?_; rotate_left
      · refine lands_value (w := wx) ?_ hT; go_simp <;> rfl
      simp only [Act.put, List.setIfInBounds_toArray, List.set_cons_zero, List.set_cons_succ]
      refine anyL_done (by kernel_rfl) (fun w3 (K : ShW p 32 g w w3) => ?_) _
      clear h1 C1 C2 C3 C4 C5
      go_wp2_with fail
      go_ret
      exact ⟨rfl, K.l⟩
theorem shifts_int (a : ByteArray) (x y : Int) (w : World) (x0 : 0 ≤ x) (x1 : x ≤ 4294967295) (y0 : 0 ≤ y) (y1 : y ≤ 4294967295) :
    Calls Try.prog 8 #[.string a, .int .u32 x, .int .u32 y] w fun e w' => e = .returned (.bool true) ∧ Below w.heap.size w w' := by
  have ex : x = iw (BitVec.ofNat 32 x.toNat) := by unfold iw; rw [BitVec.toNat_ofNat]; omega
  have ey : y = iw (BitVec.ofNat 32 y.toNat) := by unfold iw; rw [BitVec.toNat_ofNat]; omega
  rw [ex, ey]
  exact shifts_any a _ _ w
end Go.Proofs.Ytnfcgpoafmmioaa
