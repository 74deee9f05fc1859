/- Pow, Invert of the layer field. -/
import Derived.Test.YtjggclhhimccoaaGj
import Derived.Deep.LoopGhost
namespace Go.Proofs.Ytjggclhhimccoaa
open Go.RowKit
theorem lands_a4 {R : World → Prop} {o : Oper} {a : Act} {w : World} (x : Operand) (ho : o.op = .load 23 x) (g : Nat) (hx : a.eval x = .pointer (some ⟨g, 0, none⟩)) (f : Nat → BitVec 64) (hg : Blk w g 23 (r64 4 f)) (hR : R w) :
    Lands Try.prog R (.agg (r64 4 f)) ((execOp a.eval o).run Try.prog w) := lands_load 23 x ho g hx _ _ _ hg Try.underlying23 rfl (a4_size f) hR
theorem stores_a4 {R : World → Prop} {o : Oper} {a : Act} {w : World} (x y : Operand) (ho : o.op = .store 23 x y) (g : Nat) (f f0 : Nat → BitVec 64) (hx : a.eval x = .pointer (some ⟨g, 0, none⟩)) (hy : a.eval y = .agg (r64 4 f)) (hg : Blk w g 23 (r64 4 f0)) (hR : R (w.setRow g (r64 4 f))) :
    Lands Try.prog R undef ((execOp a.eval o).run Try.prog w) := lands_store 23 x y ho g _ hx hy _ _ hg (a4_size f) (by simp only [row_size]) (row_one fun _ => rfl) hR
/-- Within Pow: the number, the power that is left, the product so far. -/
structure PowW (x k p pb : Nat) (w wr : World) : Prop where
  d : Blk wr w.heap.size 24 (r64 4 (F4 x))
  e : Blk wr (w.heap.size + 1) 23 (r64 4 (F4 k))
  r : Blk wr (w.heap.size + 2) 24 (r64 4 fun _ => litw 64 0)
  p : Blk wr pb 24 (r64 4 (F4 p))
  l : Below w.heap.size w wr
  lt : w.heap.size + 2 < pb
theorem PowW.below {x k p pb : Nat} {w wr w' : World} (h : PowW x k p pb w wr) (hb : Below wr.heap.size wr w') : PowW x k p pb w w' :=
  ⟨h.d.below hb h.d.lt, h.e.below hb h.e.lt, h.r.below hb h.r.lt, h.p.below hb h.p.lt, h.l.trans (hb.mono h.l.size), h.lt⟩
theorem PowW.drew {x k p pb : Nat} {w wr : World} (h : PowW x k p pb w wr) : PowW x k p pb w wr.drew := ⟨h.d, h.e, h.r, h.p, h.l.drew, h.lt⟩
theorem PowW.putd {x k p pb : Nat} {w wr : World} (h : PowW x k p pb w wr) (y : Nat) : PowW y k p pb w (wr.setRow w.heap.size (r64 4 (F4 y))) :=
  ⟨h.d.row_ _, h.e.row_far (by omega) _, h.r.row_far (by omega) _, h.p.row_far (by have := h.lt; omega) _, below_setRow' h.l (by omega) _, h.lt⟩
theorem PowW.pute {x k p pb : Nat} {w wr : World} (h : PowW x k p pb w wr) (y : Nat) : PowW x y p pb w (wr.setRow (w.heap.size + 1) (r64 4 (F4 y))) :=
  ⟨h.d.row_far (by omega) _, h.e.row_ _, h.r.row_far (by omega) _, h.p.row_far (by have := h.lt; omega) _, below_setRow' h.l (by omega) _, h.lt⟩
theorem PowW.putp {x k p pb : Nat} {w wr : World} (h : PowW x k p pb w wr) (y : Nat) : PowW x k y pb w (wr.setRow pb (r64 4 (F4 y))) :=
  ⟨h.d.row_far (by have := h.lt; omega) _, h.e.row_far (by have := h.lt; omega) _, h.r.row_far (by have := h.lt; omega) _, h.p.row_ _, below_setRow' h.l (by have := h.lt; omega) _, h.lt⟩
theorem built0 : Try.prog.built 23 [] = some #[.int .u64 0, .int .u64 0, .int .u64 0, .int .u64 0] := by kernel_rfl
theorem zero4F : #[Value.int .u64 0, .int .u64 0, .int .u64 0, .int .u64 0] = r64 4 (F4 0) := zero4'.trans (row_ext fun i _ => by rw [F4_zero])
theorem run_eq_zero (k : Nat) (hk : k < M256) (w : World) : (Op.equalIn 10000 23 (.agg (r64 4 (F4 k))) (.agg #[.int .u64 0, .int .u64 0, .int .u64 0, .int .u64 0])).run Try.prog w = .ok (decide (k = 0)) w := by
  rw [zero4F, run_eq_fe4, eq4_F4 k 0 hk (by decide)]
theorem pow_odd {k x p v : Nat} (h : p * x ^ k % pP = v) (hk : k % 2 = 1) : (p * x % pP) * (x * x % pP) ^ (k / 2) % pP = v := by
  have e : x ^ k = x * (x * x) ^ (k / 2) := by
    have : k = 2 * (k / 2) + 1 := by omega
    have e1 : x ^ k = x ^ (2 * (k / 2) + 1) := by rw [← this]
    rw [e1, Nat.pow_succ, Nat.pow_mul, Nat.pow_two, Nat.mul_comm]
  rw [e, ← Nat.mul_assoc] at h
  rw [Nat.mul_mod, Nat.mod_mod, Nat.pow_mod (x * x % pP), Nat.mod_mod, ← Nat.pow_mod, ← Nat.mul_mod]
  exact h
theorem pow_even {k x p v : Nat} (h : p * x ^ k % pP = v) (hk : k % 2 = 0) : p * (x * x % pP) ^ (k / 2) % pP = v := by
  have e : x ^ k = (x * x) ^ (k / 2) := by
    have : k = 2 * (k / 2) := by omega
    have e1 : x ^ k = x ^ (2 * (k / 2)) := by rw [← this]
    rw [e1, Nat.pow_mul, Nat.pow_two]
  rw [e] at h
  rw [Nat.mul_mod, Nat.pow_mod (x * x % pP), Nat.mod_mod, ← Nat.pow_mod, ← Nat.mul_mod]
  exact h
set_option maxRecDepth 100000 in
set_option maxHeartbeats 4000000 in
theorem fpow_any (a e : Nat) (w : World) (ha : a < M256) (he : e < M256) :
    Calls Try.prog 32 #[.agg (r64 4 (F4 a)), .agg (r64 4 (F4 e))] w fun e' w' => e' = .returned (.agg (r64 4 (F4 (a ^ e % pP)))) ∧ Below w.heap.size w w' := by
  have HS := Lib.hid fe_size
  have HS4 := Lib.hid a4_size
  have hbu := built0
  have hg := guard_fe4
  have D0 : Blk (((w.alloc (.cells (r64 4 (F4 a)) 24)).alloc (.cells (r64 4 (F4 e)) 23)).alloc (.cells #[.int .u64 0, .int .u64 0, .int .u64 0, .int .u64 0] 24)) w.heap.size 24 (r64 4 (F4 a)) := ((Blk.new w _ _).alloc _).alloc _
  have E0 : Blk (((w.alloc (.cells (r64 4 (F4 a)) 24)).alloc (.cells (r64 4 (F4 e)) 23)).alloc (.cells #[.int .u64 0, .int .u64 0, .int .u64 0, .int .u64 0] 24)) (w.heap.size + 1) 23 (r64 4 (F4 e)) := ((Blk.new (w.alloc _) _ _).cast' ⟨by simp, rfl⟩).alloc _
  have R0 : Blk (((w.alloc (.cells (r64 4 (F4 a)) 24)).alloc (.cells (r64 4 (F4 e)) 23)).alloc (.cells #[.int .u64 0, .int .u64 0, .int .u64 0, .int .u64 0] 24)) (w.heap.size + 2) 24 (r64 4 fun _ => litw 64 0) := (Blk.new _ _ _).cast' ⟨by simp, zero4'⟩
  have B0 : Below w.heap.size w (((w.alloc (.cells (r64 4 (F4 a)) 24)).alloc (.cells (r64 4 (F4 e)) 23)).alloc (.cells #[.int .u64 0, .int .u64 0, .int .u64 0, .int .u64 0] 24)) := (((Below.refl _ _).alloc (Nat.le_refl _) _).alloc (by simp) _).alloc (by simp; omega) _
  go_enter Try.func32, Try.ntmps32
  go_wp2_with fail
  go_step3
  go_wp2_with fail
  refine (fsmall1 _).mono ?_
  rintro e' w1 ⟨rfl, hq⟩
  have D1 := D0.below hq D0.lt
  have E1 := E0.below hq E0.lt
  have R1 := R0.below hq R0.lt
  have B1 := B0.trans (hq.mono B0.size)
  have l1 := R1.lt
  clear D0 E0 R0 B0 hq
  go_wp2_with (refine wpList_store_row rfl 24 _ _ rfl w1.heap.size (r64 4 (F4 1)) rfl rfl 24 (r64 4 fun _ => litw 64 0) ((Blk.new w1 _ _).cast_ zero4') (HS.out _) (by simp only [row_size]) (row_one fun _ => rfl) ?_; refine wpList_gen (PowW a e 1 w1.heap.size w) ⟨(D1.alloc _).row_far (by omega) _, (E1.alloc _).row_far (by omega) _, (R1.alloc _).row_far (by omega) _, (Blk.new w1 _ _).row_ _, below_setRow' (B1.alloc B1.size _) B1.size _, l1⟩ (fun w2 h2 => ?_))
  clear D1 E1 R1 B1 l1
  generalize w1.heap.size = pb at h2 ⊢
  simp only [Act.put]
  go_step3
  go_wp2_with fail
  have HG0 : Hid (1 * a ^ e % pP = a ^ e % pP) := Lib.hid (by rw [Nat.one_mul])
  go_loopg [] e (fun gk wr => ∃ x k p, gk = k ∧ Hid (p * x ^ k % pP = a ^ e % pP) ∧ x < M256 ∧ k < M256 ∧ p < pP ∧ PowW x k p pb w wr)
  case atStart => exact ⟨a, e, 1, rfl, HG0, ha, he, by decide, h2⟩
  case round =>
    obtain ⟨x, k, p, hgk, HP, hx, hk, hp, hr⟩ := hrel
    have HG := Lib.hid hgk
    clear hgk h2 HG0
    have hz := run_eq_zero k hk
    by_cases hk0 : k = 0
    · have hd : decide (k = 0) = true := decide_eq_true hk0
      rw [hd] at hz
      have HR : Hid (p = a ^ e % pP) := Lib.hid (by have := HP.out; rw [hk0, Nat.pow_zero, Nat.mul_one, Nat.mod_eq_of_lt hp] at this; exact this)
      clear hd hk0 HP
      go_wp2_with (first
        | (refine wpList_load_row rfl 23 _ rfl (w.heap.size + 1) rfl 23 _ (0, 0) _ hr.e Try.underlying23 rfl (HS4.out _) ?_)
        | (refine wpList_load_row rfl 24 _ rfl pb rfl 24 _ (0, 0) _ hr.p Try.underlying24 rfl (HS.out _) ?_)
        | (refine wpList_store_row rfl 24 _ _ rfl (w.heap.size + 2) (r64 4 (F4 p)) rfl rfl 24 _ hr.r (HS.out _) (by simp only [row_size]) (row_one fun _ => rfl) ?_))
      simp only [Act.put]
      try rw [Exit.noGoto_ret]
      exact bodyPost_ret (results_cell_row rfl _ _ (w.heap.size + 2) 24 (r64 4 (F4 p)) (0, 0) _ rfl (hr.r.row_ _) Try.underlying24 rfl (HS.out _)) rfl ⟨by rw [HR.out], below_setRow' hr.l (by omega) _⟩
    · have hd : decide (k = 0) = false := decide_eq_false hk0
      rw [hd] at hz
      clear hd
      have c0 := hr.e.at_ (i := 0) (by omega)
      by_cases ho : k % 2 = 1
      · have hand := and_one k
        rw [ho] at hand
        have HP' : Hid ((p * x % pP) * (x * x % pP) ^ (k / 2) % pP = a ^ e % pP) := Lib.hid (pow_odd HP.out ho)
        have hpm : p < M256 := Nat.lt_trans hp pP_lt
        clear HP ho
        go_wp2_with (first
          | (refine wpList_load_row rfl 23 _ rfl (w.heap.size + 1) rfl 23 _ (0, 0) _ hr.e Try.underlying23 rfl (HS4.out _) ?_)
          | (refine wpList_load_row rfl 24 _ rfl pb rfl 24 _ (0, 0) _ hr.p Try.underlying24 rfl (HS.out _) ?_)
          | (refine wpList_load_row rfl 24 _ rfl w.heap.size rfl 24 _ (0, 0) _ hr.d Try.underlying24 rfl (HS.out _) ?_))
        refine (fmul_any p x wr hpm hx).mono ?_
        rintro e' w3 ⟨rfl, hq⟩
        have h3 := hr.below hq
        clear hr hq c0 hz hand hbu hg
        go_wp2_with (refine wpList_store_row rfl 24 _ _ rfl pb (r64 4 (F4 (p * x % pP))) rfl rfl 24 _ h3.p (HS.out _) (by simp only [row_size]) (row_one fun _ => rfl) ?_; refine wpList_gen (PowW x k (p * x % pP) pb w) (h3.putp _) (fun w4 h4 => ?_))
        clear h3
        simp only [Act.put]
        have hp2 : p * x % pP < pP := Nat.mod_lt _ (by decide)
        generalize p * x % pP = p2 at HP' h4 hp2 ⊢
        go_wp2_with fail
        refine wp_region_anyL (Two 5 6 fun f1 f2 wx => PowW (if f1 then x * x % pP else x) (if f2 then k / 2 else k) p2 pb w wx) (by kernel_rfl) h4.drew ?_
        refine anyL_take (i := 0) (v := .agg (r64 4 (F4 x))) rfl (by kernel_rfl) (by kernel_rfl) (by kernel_rfl) (yl_ahead2 (n := 3) (by decide) (by decide) (by kernel_rfl) (by kernel_rfl) rfl (fun wx hT => ?_)) ?_
        · exact lands_fe _ rfl _ rfl _ hT.d hT
        simp only [Act.put, List.setIfInBounds_toArray, List.set_cons_zero, List.set_cons_succ]
        refine anyL_take (i := 1) (v := .agg (r64 4 (F4 x))) rfl (by kernel_rfl) (by kernel_rfl) (by kernel_rfl) (yl_ahead2 (n := 3) (by decide) (by decide) (by kernel_rfl) (by kernel_rfl) rfl (fun wx hT => ?_)) ?_
        · exact lands_fe _ rfl _ rfl _ hT.d hT
        simp only [Act.put, List.setIfInBounds_toArray, List.set_cons_zero, List.set_cons_succ]
        refine anyL_take (i := 2) (v := .agg (r64 4 (F4 (x * x % pP)))) rfl (by kernel_rfl) (by kernel_rfl) (by kernel_rfl) (yl_other (by decide) (by decide) rfl (fun f1 f2 wx hT => ?_)) ?_
        · exact lands_calls (w := wx) ((fmul_any x x wx hx hx).mono fun _ _ ⟨he, hb⟩ => ⟨he, hT.below hb⟩) (by go_simp)
        simp only [Act.put, List.setIfInBounds_toArray, List.set_cons_zero, List.set_cons_succ]
        refine anyL_take (i := 3) (v := .agg (r64 4 (F4 k))) rfl (by kernel_rfl) (by kernel_rfl) (by kernel_rfl) (yl_ahead2 (n := 3) (by decide) (by decide) (by kernel_rfl) (by kernel_rfl) rfl (fun wx hT => ?_)) ?_
        · exact lands_a4 _ rfl _ rfl _ hT.e hT
        simp only [Act.put, List.setIfInBounds_toArray, List.set_cons_zero, List.set_cons_succ]
        refine anyL_take (i := 4) (v := .agg (r64 4 (F4 (k / 2)))) rfl (by kernel_rfl) (by kernel_rfl) (by kernel_rfl) (yl_other (by decide) (by decide) rfl (fun f1 f2 wx hT => ?_)) ?_
        · exact lands_calls (w := wx) ((half_any k wx hk).mono fun _ _ ⟨he, hb⟩ => ⟨he, hT.below hb⟩) (by go_simp)
        simp only [Act.put, List.setIfInBounds_toArray, List.set_cons_zero, List.set_cons_succ]
        refine anyL_take (i := 5) (v := undef) rfl (by kernel_rfl) (by kernel_rfl) (by kernel_rfl) (yl_first (by decide) rfl (fun f2 wx hT => ?_)) ?_
        · exact stores_fe _ _ rfl w.heap.size _ _ rfl rfl hT.d (hT.putd _)
        simp only [Act.put]
        refine anyL_take (i := 6) (v := undef) rfl (by kernel_rfl) (by kernel_rfl) (by kernel_rfl) (yl_second (by decide) rfl (fun f1 wx hT => ?_)) ?_
        · exact stores_a4 _ _ rfl (w.heap.size + 1) _ _ rfl rfl hT.e (hT.pute _)
        simp only [Act.put]
        refine anyL_done (by kernel_rfl) (fun w5 (K : PowW (x * x % pP) (k / 2) p2 pb w w5) => ?_) _
        clear h4
        go_wp2_with fail
        go_roundg (k / 2)
        case measure => have := HG.out; omega
        case rel => exact ⟨_, _, _, rfl, HP', mod_lt_M _, by omega, hp2, K⟩
      · have hand := and_one k
        have ho' : k % 2 = 0 := by omega
        rw [ho'] at hand
        have HP' : Hid (p * (x * x % pP) ^ (k / 2) % pP = a ^ e % pP) := Lib.hid (pow_even HP.out ho')
        clear HP ho ho'
        go_wp2_with (refine wpList_load_row rfl 23 _ rfl (w.heap.size + 1) rfl 23 _ (0, 0) _ hr.e Try.underlying23 rfl (HS4.out _) ?_)
        clear c0 hz hand hbu hg
        refine wp_region_anyL (Two 5 6 fun f1 f2 wx => PowW (if f1 then x * x % pP else x) (if f2 then k / 2 else k) p pb w wx) (by kernel_rfl) hr.drew ?_
        refine anyL_take (i := 0) (v := .agg (r64 4 (F4 x))) rfl (by kernel_rfl) (by kernel_rfl) (by kernel_rfl) (yl_ahead2 (n := 3) (by decide) (by decide) (by kernel_rfl) (by kernel_rfl) rfl (fun wx hT => ?_)) ?_
        · exact lands_fe _ rfl _ rfl _ hT.d hT
        simp only [Act.put, List.setIfInBounds_toArray, List.set_cons_zero, List.set_cons_succ]
        refine anyL_take (i := 1) (v := .agg (r64 4 (F4 x))) rfl (by kernel_rfl) (by kernel_rfl) (by kernel_rfl) (yl_ahead2 (n := 3) (by decide) (by decide) (by kernel_rfl) (by kernel_rfl) rfl (fun wx hT => ?_)) ?_
        · exact lands_fe _ rfl _ rfl _ hT.d hT
        simp only [Act.put, List.setIfInBounds_toArray, List.set_cons_zero, List.set_cons_succ]
        refine anyL_take (i := 2) (v := .agg (r64 4 (F4 (x * x % pP)))) rfl (by kernel_rfl) (by kernel_rfl) (by kernel_rfl) (yl_other (by decide) (by decide) rfl (fun f1 f2 wx hT => ?_)) ?_
        · exact lands_calls (w := wx) ((fmul_any x x wx hx hx).mono fun _ _ ⟨he, hb⟩ => ⟨he, hT.below hb⟩) (by go_simp)
        simp only [Act.put, List.setIfInBounds_toArray, List.set_cons_zero, List.set_cons_succ]
        refine anyL_take (i := 3) (v := .agg (r64 4 (F4 k))) rfl (by kernel_rfl) (by kernel_rfl) (by kernel_rfl) (yl_ahead2 (n := 3) (by decide) (by decide) (by kernel_rfl) (by kernel_rfl) rfl (fun wx hT => ?_)) ?_
        · exact lands_a4 _ rfl _ rfl _ hT.e hT
        simp only [Act.put, List.setIfInBounds_toArray, List.set_cons_zero, List.set_cons_succ]
        refine anyL_take (i := 4) (v := .agg (r64 4 (F4 (k / 2)))) rfl (by kernel_rfl) (by kernel_rfl) (by kernel_rfl) (yl_other (by decide) (by decide) rfl (fun f1 f2 wx hT => ?_)) ?_
        · exact lands_calls (w := wx) ((half_any k wx hk).mono fun _ _ ⟨he, hb⟩ => ⟨he, hT.below hb⟩) (by go_simp)
        simp only [Act.put, List.setIfInBounds_toArray, List.set_cons_zero, List.set_cons_succ]
        refine anyL_take (i := 5) (v := undef) rfl (by kernel_rfl) (by kernel_rfl) (by kernel_rfl) (yl_first (by decide) rfl (fun f2 wx hT => ?_)) ?_
        · exact stores_fe _ _ rfl w.heap.size _ _ rfl rfl hT.d (hT.putd _)
        simp only [Act.put]
        refine anyL_take (i := 6) (v := undef) rfl (by kernel_rfl) (by kernel_rfl) (by kernel_rfl) (yl_second (by decide) rfl (fun f1 wx hT => ?_)) ?_
        · exact stores_a4 _ _ rfl (w.heap.size + 1) _ _ rfl rfl hT.e (hT.pute _)
        simp only [Act.put]
        refine anyL_done (by kernel_rfl) (fun w5 (K : PowW (x * x % pP) (k / 2) p pb w w5) => ?_) _
        clear hr
        go_wp2_with fail
        go_roundg (k / 2)
        case measure => have := HG.out; omega
        case rel => exact ⟨_, _, _, rfl, HP', mod_lt_M _, by omega, hp, K⟩
end Go.Proofs.Ytjggclhhimccoaa
