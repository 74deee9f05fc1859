/- The document's answer to chapter 3: Pow, Invert. -/
import Derived.Test.YtjggclhhimccoaaGq
import Derived.Test.YtjggclhhimccoaaFieldReckons
import Derived.Test.YtjggclhhimccoaaFieldBytes
import Derived.IntWalk
namespace Go.Proofs.Ytjggclhhimccoaa
open Go.RowKit
/-- Within Pow: the number, the power, the product of the upper bits. -/
structure RpW (x e p pb : Nat) (w wr : World) : Prop where
  d : Blk wr w.heap.size 24 (r64 4 (F4 x))
  e : Blk wr (w.heap.size + 1) 23 (r64 4 (F4 e))
  r : Blk wr (w.heap.size + 2) 24 (r64 4 zF)
  p : Blk wr pb 24 (r64 4 (F4 p))
  l : Below w.heap.size w wr
  lt : w.heap.size + 2 < pb
theorem RpW.below {x e p pb : Nat} {w wr w' : World} (h : RpW x e p pb w wr) (hb : Below wr.heap.size wr w') : RpW x e p pb w w' :=
  ⟨h.d.below hb h.d.lt, h.e.below hb h.e.lt, h.r.below hb h.r.lt, h.p.below hb h.p.lt, h.l.trans (hb.mono h.l.size), h.lt⟩
theorem RpW.putp {x e p pb : Nat} {w wr : World} (h : RpW x e p pb w wr) (y : Nat) : RpW x e y pb w (wr.setRow pb (r64 4 (F4 y))) :=
  ⟨h.d.row_far (by have := h.lt; omega) _, h.e.row_far (by have := h.lt; omega) _, h.r.row_far (by have := h.lt; omega) _, h.p.row_ _, below_setRow' h.l (by have := h.lt; omega) _, h.lt⟩
theorem bit_word (e q r : Nat) (hr : r < 64) : andw (shrw (F4 e q) r) (litw 64 1) = nw (e / 2 ^ (64 * q + r) % 2) := by
  apply BitVec.eq_of_toNat_eq
  unfold andw shrw litw
  rw [BitVec.toNat_and, show (BitVec.ofNat 64 1).toNat = 2 ^ 1 - 1 by rfl, Nat.and_two_pow_sub_one_eq_mod, BitVec.toNat_ushiftRight, Nat.shiftRight_eq_div_pow, F4_nat, nw_nat _ (by unfold W64; omega), Nat.pow_add, ← Nat.div_div_eq_div_mul]
  generalize e / 2 ^ (64 * q) = x
  have h : (18446744073709551616 : Nat) = 2 ^ r * 2 ^ (64 - r) := by rw [← Nat.pow_add, show r + (64 - r) = 64 by omega]
  rw [h, Nat.mod_mul_right_div_self, show (2 : Nat) ^ 1 = 2 by rfl, Nat.mod_mod_of_dvd _ (show 2 ∣ 2 ^ (64 - r) from Nat.pow_dvd_pow 2 (show 1 ≤ 64 - r by omega))]
/-- The power of the bits from j on. -/
def topE (e j : Nat) : Nat := e / 2 ^ j
theorem topE_next (e j : Nat) : topE e j = 2 * topE e (j + 1) + topE e j % 2 := by
  unfold topE; rw [Nat.pow_succ, ← Nat.div_div_eq_div_mul]; omega
theorem pow_bit1 {x e j : Nat} (h : topE e j % 2 = 1) : mulP (mulP (powP x (topE e (j + 1))) (powP x (topE e (j + 1)))) x = powP x (topE e j) := by
  unfold mulP powP
  rw [topE_next e j, h, ← Nat.mul_mod, Nat.mod_mul_mod, ← Nat.pow_add, ← Nat.two_mul, ← Nat.pow_succ]
theorem pow_bit0 {x e j : Nat} (h : topE e j % 2 = 0) : mulP (powP x (topE e (j + 1))) (powP x (topE e (j + 1))) = powP x (topE e j) := by
  unfold mulP powP
  rw [topE_next e j, h, Nat.add_zero (2 * topE e (j + 1)), ← Nat.mul_mod, ← Nat.pow_add, ← Nat.two_mul]
theorem rsmall1 (w : World) : Calls Try.prog 29 #[.int .u64 1] w fun e w' => e = .returned (.agg (r64 4 (F4 1))) ∧ Below w.heap.size w w' := by
  have h := rsmall_any (litw 64 1) w
  rw [show (litw 64 1).toNat = 1 by unfold litw; rfl, iw64_one] at h
  exact h
theorem rsmall2 (w : World) : Calls Try.prog 29 #[.int .u64 2] w fun e w' => e = .returned (.agg (r64 4 (F4 2))) ∧ Below w.heap.size w w' := by
  have h := rsmall_any (litw 64 2) w
  have e1 : Value.int .u64 2 = .int .u64 (iw (litw 64 2)) := by kernel_rfl
  rw [show (litw 64 2).toNat = 2 by unfold litw; rfl, ← e1] at h
  exact h
set_option maxRecDepth 100000 in
set_option maxHeartbeats 4000000 in
theorem rpowP (x e : Nat) (w : World) (hx : x < M256) (he : e < M256) :
    Calls Try.prog 33 #[.agg (r64 4 (F4 x)), .agg (r64 4 (F4 e))] w fun e' w' => e' = .returned (.agg (r64 4 (F4 (powP x e)))) ∧ Below w.heap.size w w' := by
  have HS := Lib.hid fe_size
  have hal : Try.prog.arrayLen 23 = 4 := by kernel_rfl
  have H0 : Hid (powP x (topE e 256) = 1) := Lib.hid (by
    unfold topE powP; rw [show e / 2 ^ 256 = 0 from Nat.div_eq_of_lt he, Nat.pow_zero]; decide)
  have H9 : Hid (topE e 0 = e) := Lib.hid (by unfold topE; rw [Nat.pow_zero, Nat.div_one])
  have D0 : Blk (((w.alloc (.cells (r64 4 (F4 x)) 24)).alloc (.cells (r64 4 (F4 e)) 23)).alloc (.cells #[.int .u64 0, .int .u64 0, .int .u64 0, .int .u64 0] 24)) w.heap.size 24 (r64 4 (F4 x)) := ((Blk.new w _ _).alloc _).alloc _
  have E0 : Blk (((w.alloc (.cells (r64 4 (F4 x)) 24)).alloc (.cells (r64 4 (F4 e)) 23)).alloc (.cells #[.int .u64 0, .int .u64 0, .int .u64 0, .int .u64 0] 24)) (w.heap.size + 1) 23 (r64 4 (F4 e)) := ((Blk.new (w.alloc _) _ _).cast' ⟨by simp, rfl⟩).alloc _
  have R0 : Blk (((w.alloc (.cells (r64 4 (F4 x)) 24)).alloc (.cells (r64 4 (F4 e)) 23)).alloc (.cells #[.int .u64 0, .int .u64 0, .int .u64 0, .int .u64 0] 24)) (w.heap.size + 2) 24 (r64 4 zF) := (Blk.new _ _ _).cast' ⟨by simp, zero4'⟩
  have B0 : Below w.heap.size w (((w.alloc (.cells (r64 4 (F4 x)) 24)).alloc (.cells (r64 4 (F4 e)) 23)).alloc (.cells #[.int .u64 0, .int .u64 0, .int .u64 0, .int .u64 0] 24)) := (((Below.refl _ _).alloc (Nat.le_refl _) _).alloc (by simp) _).alloc (by simp; omega) _
  go_enter Try.func33, Try.ntmps33
  go_wp2_with fail
  refine (rsmall1 _).mono ?_
  rintro e' w1 ⟨rfl, hq⟩
  have D1 := D0.below hq D0.lt
  have E1 := E0.below hq E0.lt
  have R1 := R0.below hq R0.lt
  have B1 := B0.trans (hq.mono B0.size)
  have l1 := R1.lt
  clear D0 E0 R0 B0 hq
  go_wp2_with (refine wpList_store_row rfl 24 _ _ rfl w1.heap.size (r64 4 (F4 1)) rfl rfl 24 (r64 4 zF) ((Blk.new w1 _ _).cast_ zero4') (HS.out _) (by simp only [row_size]) (row_one fun _ => rfl) ?_; refine wpList_gen (RpW x e 1 w1.heap.size w) ⟨(D1.alloc _).row_far (by omega) _, (E1.alloc _).row_far (by omega) _, (R1.alloc _).row_far (by omega) _, (Blk.new w1 _ _).row_ _, below_setRow' (B1.alloc B1.size _) B1.size _, l1⟩ (fun w2 h2 => ?_))
  clear D1 E1 R1 B1 l1
  generalize w1.heap.size = pb at h2 ⊢
  go_loopw [6] (fun i wr => ∃ k : Nat, k ≤ 256 ∧ i = .int .i64 ((k : Int) - 1) ∧ RpW x e (powP x (topE e k)) pb w wr) (fun i _ => (intOf i + 1).toNat)
  case atStart => exact ⟨256, by omega, rfl, by rw [H0.out]; exact h2⟩
  case round =>
    obtain ⟨k, hk, rfl, hr⟩ := hrel
    clear h2
    cases k with
    | zero =>
      rw [H9.out] at hr
      go_wp2_with (first
        | (refine wpList_load_row rfl 24 _ rfl pb rfl 24 _ (0, 0) _ hr.p Try.underlying24 rfl (HS.out _) ?_)
        | (refine wpList_store_row rfl 24 _ _ rfl (w.heap.size + 2) (r64 4 (F4 (powP x e))) rfl rfl 24 _ hr.r (HS.out _) (by simp only [row_size]) (row_one fun _ => rfl) ?_))
      simp only [Act.put]
      exact bodyPost_ret (results_cell_row rfl _ _ (w.heap.size + 2) 24 (r64 4 (F4 (powP x e))) (0, 0) _ rfl (hr.r.row_ _) Try.underlying24 rfl (HS.out _)) rfl ⟨rfl, below_setRow' hr.l (by omega) _⟩
    | succ j =>
      have hj : ((j + 1 : Nat) : Int) - 1 = (j : Int) := by omega
      rw [hj]
      clear hj
      go_wp2_with (refine wpList_load_row rfl 24 _ rfl pb rfl 24 _ (0, 0) _ hr.p Try.underlying24 rfl (HS.out _) ?_)
      obtain ⟨q, hqd⟩ : ∃ q, q = j / 64 := ⟨_, rfl⟩
      obtain ⟨r, hrd⟩ : ∃ r, r = j % 64 := ⟨_, rfl⟩
      have hq4 : q < 4 := by omega
      have hr64 : r < 64 := by omega
      have hq : (j : Int).tdiv 64 = (q : Int) := by rw [Int.tdiv_eq_ediv_of_nonneg (by omega)]; omega
      have hr8 : (j : Int).tmod 64 = (r : Int) := by rw [Int.tmod_eq_emod_of_nonneg (by omega)]; omega
      have hl0 : (q : Int) < 4 := by omega
      have hl1 : (0 : Int) ≤ q := by omega
      have hand := and64_lit (shrw (F4 e q) r) 1
      rw [bit_word e q r hr64, show 64 * q + r = j by omega, show e / 2 ^ j = topE e j from rfl] at hand
      have hpm := powP_lt x (topE e (j + 1))
      have hmin : min r 64 = r := by omega
      clear hqd hrd
      by_cases hb : topE e j % 2 = 1
      · have HN := Lib.hid (pow_bit1 (x := x) hb)
        have hmm := mulP_lt (powP x (topE e (j + 1))) (powP x (topE e (j + 1)))
        rw [hb, show iw (nw 1) = 1 by kernel_rfl] at hand
        clear hb
        refine (rmulP _ _ wr hpm hpm).mono ?_
        rintro e' w3 ⟨rfl, hq3⟩
        have h3 := hr.below hq3
        clear hr hq3 hpm
        generalize mulP (powP x (topE e (j + 1))) (powP x (topE e (j + 1))) = m at HN hmm h3 ⊢
        go_wp2_with (first
          | (refine wpList_store_row rfl 24 _ _ rfl pb (r64 4 (F4 m)) rfl rfl 24 _ h3.p (HS.out _) (by simp only [row_size]) (row_one fun _ => rfl) ?_; refine wpList_gen (RpW x e m pb w) (h3.putp _) (fun w4 h4 => ?_); have c0 := h4.e.at_ hq4)
          | (refine wpList_load_row rfl 24 _ rfl pb rfl 24 _ (0, 0) _ h4.p Try.underlying24 rfl (HS.out _) ?_)
          | (refine wpList_load_row rfl 24 _ rfl w.heap.size rfl 24 _ (0, 0) _ h4.d Try.underlying24 rfl (HS.out _) ?_))
        refine (rmulP _ _ _ hmm hx).mono ?_
        rintro e' w5 ⟨rfl, hq5⟩
        have h5 := h4.below hq5
        clear h3 h4 hq5 c0 hand
        rw [HN.out]
        go_wp2_with (first
          | (refine wpList_store_row rfl 24 _ _ rfl pb (r64 4 (F4 (powP x (topE e j)))) rfl rfl 24 _ h5.p (HS.out _) (by simp only [row_size]) (row_one fun _ => rfl) ?_; refine wpList_gen (RpW x e (powP x (topE e j)) pb w) (h5.putp _) (fun w6 h6 => ?_)))
        go_roundw
        case rel => exact ⟨j, by omega, rfl, h6⟩
        case measure => simp [intOf]
      · have hb0 : topE e j % 2 = 0 := by omega
        have HN := Lib.hid (pow_bit0 (x := x) hb0)
        rw [hb0, show iw (nw 0) = 0 by kernel_rfl] at hand
        clear hb hb0
        refine (rmulP _ _ wr hpm hpm).mono ?_
        rintro e' w3 ⟨rfl, hq3⟩
        have h3 := hr.below hq3
        clear hr hq3 hpm
        rw [HN.out]
        go_wp2_with (first
          | (refine wpList_store_row rfl 24 _ _ rfl pb (r64 4 (F4 (powP x (topE e j)))) rfl rfl 24 _ h3.p (HS.out _) (by simp only [row_size]) (row_one fun _ => rfl) ?_; refine wpList_gen (RpW x e (powP x (topE e j)) pb w) (h3.putp _) (fun w4 h4 => ?_); have c0 := h4.e.at_ hq4))
        go_roundw
        case rel => exact ⟨j, by omega, rfl, h4⟩
        case measure => simp [intOf]
set_option maxHeartbeats 1000000 in
theorem rinvP (a : Nat) (w : World) (ha : a < M256) :
    Calls Try.prog 35 #[.agg (r64 4 (F4 a))] w fun e w' => e = .returned (.agg (r64 4 (F4 (powP a (pP - 2))))) ∧ Below w.heap.size w w' := by
  have HS := Lib.hid fe_size
  have hb := inv_built
  have HI := Lib.hid inv_row
  have hlt : pP - 2 < M256 := by decide
  have LW0 : LW a w ((w.alloc (.cells (r64 4 (F4 a)) 24)).alloc (.cells #[.int .u64 0, .int .u64 0, .int .u64 0, .int .u64 0] 24)) := ⟨(Blk.new w _ _).alloc _, (Blk.new _ _ _).cast' ⟨by simp, zero4'⟩, ((Below.refl _ _).alloc (Nat.le_refl _) _).alloc (by simp) _⟩
  generalize hx : pP - 2 = x at HI hlt ⊢
  clear hx
  go_enter Try.func35, Try.ntmps35
  go_wp2_with (refine wpList_gen (LW a w) LW0 (fun w1 h1 => ?_); refine wpList_load_row rfl 24 _ rfl w.heap.size rfl 24 _ (0, 0) _ h1.d Try.underlying24 rfl (HS.out _) ?_)
  rw [HI.out]
  refine (rpowP a x w1 ha hlt).mono ?_
  rintro e w2 ⟨rfl, hq⟩
  have h2 := h1.below hq
  clear h1 hq LW0
  go_wp2_with (refine wpList_store_row rfl 24 _ _ rfl (w.heap.size + 1) (r64 4 (F4 (powP a x))) rfl rfl 24 _ h2.r (HS.out _) (by simp only [row_size]) (row_one fun _ => rfl) ?_)
  simp only [Act.put]
  exact bodyPost_ret (results_cell_row rfl _ _ (w.heap.size + 1) 24 (r64 4 (F4 (powP a x))) (0, 0) _ rfl (h2.r.row_ _) Try.underlying24 rfl (HS.out _)) rfl ⟨rfl, below_setRow' h2.l (by omega) _⟩
end Go.Proofs.Ytjggclhhimccoaa
