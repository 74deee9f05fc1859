/- below, reduced of the layer field. -/
import Derived.Test.YtjggclhhimccoaaGc
namespace Go.Proofs.Ytjggclhhimccoaa
open Go.RowKit
def P255 : Nat := 57896044618658097711785492504343953926634992332820282019728792003956564819968
theorem and_low (n : Nat) : andw (F4 n 3) (litw 64 9223372036854775807) = F4 (n % P255) 3 := by
  apply BitVec.eq_of_toNat_eq
  unfold andw litw
  rw [BitVec.toNat_and, show (BitVec.ofNat 64 9223372036854775807).toNat = 2 ^ 63 - 1 by rfl, Nat.and_two_pow_sub_one_eq_mod, F4_nat, F4_nat]
  unfold P255
  simp only [Nat.reduceMul, Nat.reducePow]
  omega
theorem F4_low (n k : Nat) (hk : k < 3) : F4 n k = F4 (n % P255) k := by
  apply BitVec.eq_of_toNat_eq
  rw [F4_nat, F4_nat]
  unfold P255
  match k, hk with
  | 0, _ => simp only [Nat.reduceMul, Nat.reducePow]; omega
  | 1, _ => simp only [Nat.reduceMul, Nat.reducePow]; omega
  | 2, _ => simp only [Nat.reduceMul, Nat.reducePow]; omega
theorem row_low (n : Nat) : (row 4 fun j => if j = 3 then Value.int .u64 (iw (andw (F4 n 3) (litw 64 9223372036854775807))) else Value.int .u64 (iw (F4 n j))) = r64 4 (F4 (n % P255)) :=
  row_ext fun i hi => by
    by_cases h : i = 3
    · subst h; rw [if_pos rfl, and_low]
    · rw [if_neg h, F4_low n i (by omega)]
theorem over_q (a o : Nat) (ha : a < M256) (ho : o ≤ 38) : orw (shlw (nw o) 1) (shrw (F4 a 3) 63) = nw (2 * o + a / P255) := by
  apply BitVec.eq_of_toNat_eq
  have h1 : (shrw (F4 a 3) 63).toNat = a / P255 := by
    unfold shrw
    rw [BitVec.toNat_ushiftRight, Nat.shiftRight_eq_div_pow, F4_nat]
    unfold P255; unfold M256 at ha
    simp only [Nat.reduceMul, Nat.reducePow]; omega
  have h0 : a / P255 ≤ 1 := by unfold P255; unfold M256 at ha; omega
  have h2 : (shlw (nw o) 1).toNat = 2 * o := by
    unfold shlw
    rw [BitVec.toNat_shiftLeft, nw_nat _ (by unfold W64; omega), Nat.shiftLeft_eq]
    omega
  unfold orw
  rw [BitVec.toNat_or, h1, h2, nw_nat _ (by unfold W64; omega)]
  generalize a / P255 = c at h0 ⊢
  have : c = 0 ∨ c = 1 := by omega
  rcases this with rfl | rfl
  · simp
  · exact (Nat.two_pow_add_eq_or_of_lt (i := 1) (b := 1) (by decide) o).symm
def bq (a o : Nat) : Nat := 2 * o + a / P255
def bc (a o : Nat) : Nat := a % P255 + 19 * bq a o
theorem bc_mod (a o : Nat) : bc a o % pP = (a + o * M256) % pP := by
  have h : a + o * M256 = bc a o + pP * bq a o := by
    unfold bc bq M256 P255 pP; omega
  rw [h, Nat.add_mul_mod_self_left]
theorem bc_lt (a o : Nat) (ha : a < M256) (ho : o ≤ 38) : bc a o < P255 + 1500 := by
  unfold bc bq P255; unfold M256 at ha; omega
theorem mulw_q (a o : Nat) (ha : a < M256) (ho : o ≤ 38) : (mulw (litw 64 19) (nw (2 * o + a / P255))).toNat = 19 * bq a o := by
  have h0 : a / P255 ≤ 1 := by unfold P255; unfold M256 at ha; omega
  unfold mulw bq
  rw [BitVec.toNat_mul, nw_nat _ (by unfold W64; omega)]
  show 19 * _ % _ = _
  omega
theorem cmp_low (n : Nat) (hn : n < M256) : iw (F4 n 3) ≤ 9223372036854775807 ↔ n < P255 := by
  unfold iw
  rw [F4_nat]
  unfold P255; unfold M256 at hn
  simp only [Nat.reduceMul, Nat.reducePow]
  omega
/-- Within below: the number at the first block, the result at the second. -/
structure LW (a : Nat) (w wr : World) : Prop where
  d : Blk wr w.heap.size 24 (r64 4 (F4 a))
  r : Blk wr (w.heap.size + 1) 24 (r64 4 fun _ => litw 64 0)
  l : Below w.heap.size w wr
theorem LW.below {a : Nat} {w wr w' : World} (h : LW a w wr) (hb : Below wr.heap.size wr w') : LW a w w' := ⟨h.d.below hb h.d.lt, h.r.below hb h.r.lt, h.l.trans (hb.mono h.l.size)⟩
theorem LW.low {a : Nat} {w wr : World} (h : LW a w wr) : LW (a % P255) w (wr.setCell ⟨w.heap.size, 3, none⟩ (.int .u64 (iw (andw (F4 a 3) (litw 64 9223372036854775807))))) :=
  ⟨(h.d.put (by omega) _).cast_ (row_low a), h.r.far (by simp) _, h.l.setCell (by simp) _⟩
theorem LW.row {a : Nat} {w wr : World} (h : LW a w wr) (b : Nat) : LW b w (wr.setRow w.heap.size (r64 4 (F4 b))) :=
  ⟨h.d.row_ _, h.r.row_far (by omega) _, below_setRow' h.l (by omega) _⟩
theorem LW.start (a : Nat) (w : World) : LW (a % P255) w ((w.alloc (.cells ((r64 4 (F4 a)).setIfInBounds 3 (.int .u64 (iw (andw (F4 a 3) (litw 64 9223372036854775807))))) 24)).alloc (.cells #[.int .u64 0, .int .u64 0, .int .u64 0, .int .u64 0] 24)) :=
  ⟨((Blk.new w _ _).alloc _).cast_ ((row_set _ (by omega) _).trans (row_low a)), (Blk.new _ _ _).cast' ⟨by simp, zero4'⟩, ((Below.refl _ _).alloc (Nat.le_refl _) _).alloc (by simp) _⟩
theorem plusSmall19 (a : Nat) (w : World) :
    Calls Try.prog 52 #[.agg (r64 4 (F4 a)), .int .u64 19] w fun e w' => e = .returned (.agg (r64 4 (F4 (a + 19)))) ∧ Below w.heap.size w w' := by
  have h : Value.int .u64 19 = .int .u64 (iw (litw 64 19)) := by kernel_rfl
  have h2 : (litw 64 19).toNat = 19 := by unfold litw; rfl
  have h3 := plusSmall_any a (litw 64 19) w
  rw [h2] at h3
  rw [h]; exact h3
set_option maxRecDepth 100000 in
set_option maxHeartbeats 1000000 in
theorem fbelow_any (a o : Nat) (w : World) (ha : a < M256) (ho : o ≤ 38) :
    Calls Try.prog 37 #[.agg (r64 4 (F4 a)), .int .u64 (iw (nw o))] w fun e w' => e = .returned (.agg (r64 4 (F4 ((a + o * M256) % pP)))) ∧ Below w.heap.size w w' := by
  have HS := Lib.hid fe_size
  have HQ := Lib.hid (over_q a o ha ho)
  have HM := Lib.hid (show a % P255 + (mulw (litw 64 19) (orw (shlw (nw o) 1) (shrw (F4 a 3) 63))).toNat = bc a o by rw [HQ.out, mulw_q a o ha ho]; rfl)
  have HR := Lib.hid (bc_mod a o)
  have HL := Lib.hid (bc_lt a o ha ho)
  have W0 : Blk ((w.alloc (.cells (r64 4 (F4 a)) 24)).alloc (.cells #[.int .u64 0, .int .u64 0, .int .u64 0, .int .u64 0] 24)) w.heap.size 24 (r64 4 (F4 a)) := (Blk.new w _ _).alloc _
  have hand : ∀ x : BitVec 64, bits .and .u64 (iw x) 9223372036854775807 = iw (andw x (litw 64 9223372036854775807)) := fun x => and64_lit x _
  have h19 : ∀ x : BitVec 64, IntKind.u64.wrap (19 * iw x) = iw (mulw (litw 64 19) x) := fun x => by
    have : iw (litw 64 19) = 19 := by kernel_rfl
    rw [← this]; exact wrap64_mul _ _
  have c3 := W0.at_ (i := 3) (by omega)
  have f3 := W0.frozen 3
  go_enter Try.func37, Try.ntmps37
  go_wp2_with (refine wpList_gen (LW (a % P255) w) (LW.start a w) (fun w1 h1 => ?_); refine wpList_load_row rfl 24 _ rfl w.heap.size rfl 24 _ (0, 0) _ h1.d Try.underlying24 rfl (HS.out _) ?_)
  refine (plusSmall_any (a % P255) _ w1).mono ?_
  rw [HM.out]
  rintro e w2 ⟨rfl, hq⟩
  have h2 := h1.below hq
  clear h1 hq c3 f3 W0 h19
  generalize hn : bc a o = n at HR HL ⊢
  clear hn
  go_wp2_with (first
    | (refine wpList_store_row rfl 24 _ _ rfl w.heap.size (r64 4 (F4 n)) rfl rfl 24 _ h2.d (HS.out _) (by rw [row_size, row_size]) (row_one fun _ => rfl) ?_; refine wpList_gen (LW n w) (h2.row n) (fun w3 h3 => ?_))
    | (refine wpList_load_row rfl 24 _ rfl w.heap.size rfl 24 _ (0, 0) _ h3.d Try.underlying24 rfl (HS.out _) ?_))
  refine (plusSmall19 n w3).mono ?_
  rintro e w4 ⟨rfl, hq⟩
  have h4 := h3.below hq
  clear h2 h3 hq
  have hl := HL.out
  have hc := cmp_low (n + 19) (by unfold P255 at hl; unfold M256; omega)
  have hr : n % pP = (a + o * M256) % pP := HR.out
  by_cases hlt : n + 19 < P255
  · have hd : decide (iw (F4 (n + 19) 3) ≤ 9223372036854775807) = true := decide_eq_true (hc.2 hlt)
    have HX := Lib.hid (show n = (a + o * M256) % pP by rw [← hr]; exact (Nat.mod_eq_of_lt (by unfold pP; unfold P255 at hlt; omega)).symm)
    clear hl hc hr hlt
    go_wp2_with (first
      | (refine wpList_store_row rfl 24 _ _ rfl w4.heap.size (r64 4 (F4 (n + 19))) rfl rfl 24 (r64 4 fun _ => litw 64 0) ((Blk.new w4 _ _).cast_ zero4') (HS.out _) (by rw [row_size, row_size]) (row_one fun _ => rfl) ?_; refine wpList_gen (fun wx => LW n w wx ∧ Blk wx w4.heap.size 24 (r64 4 (F4 (n + 19)))) ⟨⟨(h4.d.alloc _).row_far (by have := h4.d.lt; omega) _, (h4.r.alloc _).row_far (by have := h4.r.lt; omega) _, below_setRow' (h4.l.alloc h4.l.size _) h4.l.size _⟩, (Blk.new w4 _ _).row_ _⟩ (fun w5 h5 => ?_); have c5 := h5.2.at_ (i := 3) (by omega))
      | (refine wpList_load_row rfl 24 _ rfl w.heap.size rfl 24 _ (0, 0) _ h5.1.d Try.underlying24 rfl (HS.out _) ?_)
      | (refine wpList_store_row rfl 24 _ _ rfl (w.heap.size + 1) (r64 4 (F4 n)) rfl rfl 24 _ h5.1.r (HS.out _) (by rw [row_size, row_size]) (row_one fun _ => rfl) ?_))
    simp only [Act.put]
    exact bodyPost_ret (results_cell_row rfl _ _ (w.heap.size + 1) 24 (r64 4 (F4 n)) (0, 0) _ rfl (h5.1.r.row_ _) Try.underlying24 rfl (HS.out _)) rfl ⟨by rw [← HX.out], below_setRow' h5.1.l (by omega) _⟩
  · have hd : decide (iw (F4 (n + 19) 3) ≤ 9223372036854775807) = false := decide_eq_false (fun h => hlt (hc.1 h))
    have HX := Lib.hid (show (n + 19) % P255 = (a + o * M256) % pP by
      rw [← hr, show n = (n + 19 - P255) + pP by unfold P255 pP at *; omega, Nat.add_mod_right, Nat.mod_eq_of_lt (show n + 19 - P255 < pP by unfold P255 pP at *; omega)]
      unfold P255 pP at *; omega)
    have hand : ∀ x : BitVec 64, bits .and .u64 (iw x) 9223372036854775807 = iw (andw x (litw 64 9223372036854775807)) := fun x => and64_lit x _
    clear hl hc hr hlt
    go_wp2_with (first
      | (refine wpList_store_row rfl 24 _ _ rfl w4.heap.size (r64 4 (F4 (n + 19))) rfl rfl 24 (r64 4 fun _ => litw 64 0) ((Blk.new w4 _ _).cast_ zero4') (HS.out _) (by rw [row_size, row_size]) (row_one fun _ => rfl) ?_; refine wpList_gen (fun wx => LW n w wx ∧ Blk wx w4.heap.size 24 (r64 4 (F4 (n + 19)))) ⟨⟨(h4.d.alloc _).row_far (by have := h4.d.lt; omega) _, (h4.r.alloc _).row_far (by have := h4.r.lt; omega) _, below_setRow' (h4.l.alloc h4.l.size _) h4.l.size _⟩, (Blk.new w4 _ _).row_ _⟩ (fun w5 h5 => ?_); have c5 := h5.2.at_ (i := 3) (by omega); have f5 := h5.2.frozen 3; have h6 : LW n w (w5.setCell ⟨w4.heap.size, 3, none⟩ (.int .u64 (iw (andw (F4 (n + 19) 3) (litw 64 9223372036854775807))))) ∧ Blk (w5.setCell ⟨w4.heap.size, 3, none⟩ (.int .u64 (iw (andw (F4 (n + 19) 3) (litw 64 9223372036854775807))))) w4.heap.size 24 (r64 4 (F4 ((n + 19) % P255))) := ⟨⟨h5.1.d.far (by have := h4.d.lt; simp; omega) _, h5.1.r.far (by have := h4.r.lt; simp; omega) _, h5.1.l.setCell (by have := h4.d.lt; simp; omega) _⟩, (h5.2.put (by omega) _).cast_ (row_low _)⟩)
      | (refine wpList_load_row rfl 24 _ rfl w4.heap.size rfl 24 _ (0, 0) _ h6.2 Try.underlying24 rfl (HS.out _) ?_)
      | (refine wpList_store_row rfl 24 _ _ rfl (w.heap.size + 1) (r64 4 (F4 ((n + 19) % P255))) rfl rfl 24 _ h6.1.r (HS.out _) (by rw [row_size, row_size]) (row_one fun _ => rfl) ?_))
    simp only [Act.put]
    exact bodyPost_ret (results_cell_row rfl _ _ (w.heap.size + 1) 24 (r64 4 (F4 ((n + 19) % P255))) (0, 0) _ rfl (h6.1.r.row_ _) Try.underlying24 rfl (HS.out _)) rfl ⟨by rw [← HX.out], below_setRow' h6.1.l (by omega) _⟩
theorem reduced_any (a : Nat) (w : World) (ha : a < M256) :
    Calls Try.prog 45 #[.agg (r64 4 (F4 a))] w fun e w' => e = .returned (.agg (r64 4 (F4 (a % pP)))) ∧ Below w.heap.size w w' := by
  have HS := Lib.hid fe_size
  have h0 : Value.int .u64 0 = .int .u64 (iw (nw 0)) := by kernel_rfl
  have H0 := Lib.hid h0
  clear h0
  have HB := Lib.hid (fun w => fbelow_any a 0 w ha (by omega))
  have LW0 : LW a w ((w.alloc (.cells (r64 4 (F4 a)) 24)).alloc (.cells #[.int .u64 0, .int .u64 0, .int .u64 0, .int .u64 0] 24)) := ⟨(Blk.new w _ _).alloc _, (Blk.new _ _ _).cast' ⟨by simp, zero4'⟩, ((Below.refl _ _).alloc (Nat.le_refl _) _).alloc (by simp) _⟩
  go_enter Try.func45, Try.ntmps45
  go_wp2_with (refine wpList_gen (LW a w) LW0 (fun w1 h1 => ?_); refine wpList_load_row rfl 24 _ rfl w.heap.size rfl 24 _ (0, 0) _ h1.d Try.underlying24 rfl (HS.out _) ?_)
  rw [H0.out]
  refine (HB.out w1).mono ?_
  rw [Nat.zero_mul, Nat.add_zero]
  rintro e w2 ⟨rfl, hq⟩
  have h2 := h1.below hq
  clear h1 hq
  go_wp2_with (refine wpList_store_row rfl 24 _ _ rfl (w.heap.size + 1) (r64 4 (F4 (a % pP))) rfl rfl 24 _ h2.r (HS.out _) (by rw [row_size, row_size]) (row_one fun _ => rfl) ?_)
  simp only [Act.put]
  exact bodyPost_ret (results_cell_row rfl _ _ (w.heap.size + 1) 24 (r64 4 (F4 (a % pP))) (0, 0) _ rfl (h2.r.row_ _) Try.underlying24 rfl (HS.out _)) rfl ⟨rfl, below_setRow' h2.l (by omega) _⟩
end Go.Proofs.Ytjggclhhimccoaa
