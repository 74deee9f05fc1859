/- A number of times a point: what Mul answers on both sides. -/
import Derived.Test.YtggalphgnloneaaGreatQk
namespace Go.Proofs.YtggalphgnloneaaGreat
open Go.RowKit
/-- r stands for P. -/
structure Rep4 (r : R4) (P : Pt) : Prop where
  x : D0 ((r.x : Int) - P.x * r.z)
  y : D0 ((r.y : Int) - P.y * r.z)
  t : D0 ((r.t : Int) - P.x * P.y * r.z)
  z : ¬ D0 (r.z : Int)
theorem Rep4.whole {r : R4} {P : Pt} (h : Rep4 r P) (hP : onC P) : r.whole = P :=
  Rep.plain (r := ⟨r.x, r.y, r.z⟩) ⟨h.x, h.y, h.z⟩ hP
theorem rep_part (P : Pt) : Rep4 (partV P) P :=
  ⟨(rep_lift P).x, (rep_lift P).y, D0.lin1 1 (mulP_D P.x P.y) (by show ((mulP P.x P.y : Nat) : Int) - P.x * P.y * ((1 : Nat) : Int) = _; grind), D0_one⟩
theorem Rep4.sum {r q : R4} {P Q : Pt} (h : Rep4 r P) (k : Rep4 q Q) (hP : onC P) (hQ : onC Q) : Rep4 (r.sum q) (padd P Q) := by
  have hz := cM (c0 (r.z : Int)) (c0 (q.z : Int))
  have hk := cM (c0 (dP : Int)) (cM h.t k.t)
  have hx := cA (cM h.x k.y) (cM k.x h.y)
  have hy := cA (cM h.y k.y) (cM h.x k.x)
  have hf := cS hz hk
  have hg := cA hz hk
  have hX := cM hx hf
  have hY := cM hy hg
  have hZ := cM hf hg
  have hT := cM hx hy
  have ex := padd_x hP hQ
  have ey := padd_y hP hQ
  have n1 := hP.plus hQ
  have n2 := hP.minus hQ
  have hzn := D0.mul_ne h.z k.z
  clear hx hy hf hg hz hk
  unfold R4.sum
  refine ⟨?_, ?_, ?_, ?_⟩ <;> dsimp only
  · clear hY hT ey n1 n2 hzn
    generalize ((mulP (addP _ _) (subP _ _) : Nat) : Int) = X at hX ⊢
    generalize ((mulP (subP _ _) (addP _ _) : Nat) : Int) = Z at hZ ⊢
    generalize ((padd P Q).x : Int) = sx at ex ⊢
    exact D0.lin3 1 (-sx) (-((r.z*q.z : Int)^2 * (1 - dP*P.x*Q.x*P.y*Q.y))) hX hZ ex (by grind)
  · clear hX hT ex n1 n2 hzn
    generalize ((mulP (addP _ _) (addP _ _) : Nat) : Int) = Y at hY ⊢
    generalize ((mulP (subP _ _) (addP _ _) : Nat) : Int) = Z at hZ ⊢
    generalize ((padd P Q).y : Int) = sy at ey ⊢
    exact D0.lin3 1 (-sy) (-((r.z*q.z : Int)^2 * (1 + dP*P.x*Q.x*P.y*Q.y))) hY hZ ey (by grind)
  · clear hX hY n1 n2 hzn
    generalize ((mulP (addP _ _) (addP _ _) : Nat) : Int) = T at hT ⊢
    generalize ((mulP (subP _ _) (addP _ _) : Nat) : Int) = Z at hZ ⊢
    generalize ((padd P Q).x : Int) = sx at ex ⊢
    generalize ((padd P Q).y : Int) = sy at ey ⊢
    exact D0.lin4 1 (-(sx*sy)) (-((r.z*q.z : Int)^2 * (sy * (1 - dP*P.x*Q.x*P.y*Q.y)))) (-((r.z*q.z : Int)^2 * (P.x*Q.y + Q.x*P.y))) hT hZ ex ey (by grind)
  · intro h0
    clear hX hY hT ex ey
    generalize ((mulP (subP _ _) (addP _ _) : Nat) : Int) = Z at hZ h0
    exact D0.mul_ne (D0.mul_ne hzn hzn) (D0.mul_ne n1 n2) (D0.lin2 1 (-1) h0 hZ (by grind))
/-- n times P. -/
def pmul (P : Pt) : Nat → Pt
  | 0 => pZ
  | n + 1 => padd P (pmul P n)
theorem pmul_on {P : Pt} (h : onC P) : ∀ n, onC (pmul P n)
  | 0 => pZ_on
  | n + 1 => padd_on h (pmul_on h n)
theorem pmul_add {P : Pt} (h : onC P) (b : Nat) : ∀ a, pmul P (a + b) = padd (pmul P a) (pmul P b)
  | 0 => by rw [Nat.zero_add]; show _ = padd pZ _; rw [padd_turn pZ_on (pmul_on h b), padd_zero (pmul_on h b)]
  | a + 1 => by
    rw [show a + 1 + b = (a + b) + 1 by omega]
    show padd P (pmul P (a + b)) = padd (padd P (pmul P a)) (pmul P b)
    rw [pmul_add h b a, padd_assoc h (pmul_on h a) (pmul_on h b)]
theorem pmul_two {P : Pt} (h : onC P) (n : Nat) : padd (pmul P n) (pmul P n) = pmul P (2 * n) := by
  rw [← pmul_add h, show n + n = 2 * n by omega]
theorem pmul_mul {P : Pt} (h : onC P) (n : Nat) : ∀ m, pmul (pmul P n) m = pmul P (m * n)
  | 0 => by rw [Nat.zero_mul]; rfl
  | m + 1 => by
    show padd (pmul P n) (pmul (pmul P n) m) = _
    rw [pmul_mul h n m, ← pmul_add h, show n + m * n = (m + 1) * n by rw [Nat.succ_mul]; omega]
theorem rep_mulQ {P : Pt} (h : onC P) : ∀ k, Rep (mulQ P k) (pmul P k)
  | 0 => rep_lift pZ
  | k + 1 => (rep_lift P).plus (rep_mulQ h k) h (pmul_on h k)
theorem rep_t16 {r : R3} {P : Pt} (hP : onC P) {n : Nat} (h : Rep r (pmul P n)) : Rep r.t16 (pmul P (16 * n)) := by
  have h1 := h.twice (pmul_on hP n)
  rw [pmul_two hP] at h1
  have h2 := h1.twice (pmul_on hP _)
  rw [pmul_two hP] at h2
  have h3 := h2.twice (pmul_on hP _)
  rw [pmul_two hP] at h3
  have h4 := h3.twice (pmul_on hP _)
  rw [pmul_two hP, show 2 * (2 * (2 * (2 * n))) = 16 * n by omega] at h4
  exact h4
/-- The number of a text's bytes from k on, below n. -/
def topV (f : Nat → Nat) (n k : Nat) : Nat := bv f n / 2 ^ (8 * k)
theorem topV_next (f : Nat → Nat) (hf : ∀ j, f j < 256) (n k : Nat) (h : k < n) : topV f n k = 256 * topV f n (k + 1) + f k := by
  have h1 := bv_byte f hf k n h
  unfold byteK at h1
  unfold topV
  rw [pow8, ← Nat.div_div_eq_div_mul]
  generalize bv f n / 2 ^ (8 * k) = x at *
  omega
theorem topV_end (f : Nat → Nat) (hf : ∀ j, f j < 256) (n : Nat) : topV f n n = 0 := Nat.div_eq_of_lt (bv_lt f hf n)
theorem topV_zero (f : Nat → Nat) (n : Nat) : topV f n 0 = bv f n := by unfold topV; simp
theorem rep_accQ (s : ByteArray) {P : Pt} (h : onC P) (n : Nat) : ∀ j, j ≤ n → Rep (accQ s P n j) (pmul P (topV (byteS s) n (n - j)))
  | 0, _ => by rw [Nat.sub_zero, topV_end _ (byteS_lt s)]; exact rep_mulQ h 0
  | j + 1, hj => by
    have ih := rep_accQ s h n j (by omega)
    have hb := byteS_lt s (n - 1 - j)
    rw [show n - (j + 1) = n - 1 - j by omega, topV_next _ (byteS_lt s) n _ (by omega), show n - 1 - j + 1 = n - j by omega]
    unfold accQ
    generalize topV (byteS s) n (n - j) = N at *
    generalize byteS s (n - 1 - j) = b at *
    have h1 := (rep_t16 h ih).plus (rep_mulQ h (b / 16)) (pmul_on h _) (pmul_on h _)
    rw [← pmul_add h] at h1
    have h2 := (rep_t16 h h1).plus (rep_mulQ h (b % 16)) (pmul_on h _) (pmul_on h _)
    rw [← pmul_add h, show 16 * (16 * N + b / 16) + b % 16 = 256 * N + b by omega] at h2
    exact h2
theorem mulV_is (s : ByteArray) (P : Pt) : mulV s P = pmul (cnt P) (numV s 32) := by
  have h := rep_accQ s (cnt_C P) (min s.size 32) (min s.size 32) (Nat.le_refl _)
  rw [Nat.sub_self, topV_zero] at h
  exact h.plain (pmul_on (cnt_C P) _)
theorem addV_is (P Q : Pt) : addV P Q = padd (cnt P) (cnt Q) :=
  ((rep_lift _).plus (rep_lift _) (cnt_C P) (cnt_C Q)).plain (padd_on (cnt_C P) (cnt_C Q))
theorem raddV_is (P Q : Pt) : raddV P Q = padd (cnt P) (cnt Q) :=
  ((rep_part _).sum (rep_part _) (cnt_C P) (cnt_C Q)).whole (padd_on (cnt_C P) (cnt_C Q))
/-- The number of a text's bits from k on. -/
def topB (N k : Nat) : Nat := N / 2 ^ k
theorem topB_next (N k : Nat) : topB N k = 2 * topB N (k + 1) + N / 2 ^ k % 2 := by
  unfold topB
  rw [Nat.pow_succ, ← Nat.div_div_eq_div_mul]
  omega
theorem rep_accB (s : ByteArray) {P : Pt} (h : onC P) (m : Nat) : ∀ j, j ≤ 8 * m → Rep4 (accB s P (8 * m) j) (pmul P (topB (bv (byteS s) m) (8 * m - j)))
  | 0, _ => by
    rw [Nat.sub_zero, show topB (bv (byteS s) m) (8 * m) = 0 from Nat.div_eq_of_lt (bv_lt _ (byteS_lt s) m)]
    exact rep_part pZ
  | j + 1, hj => by
    have ih := rep_accB s h m j (by omega)
    have hbit := bitS_bv s m (8 * m - 1 - j) (by omega)
    have hle := bitS_le s (8 * m - 1 - j)
    rw [show 8 * m - (j + 1) = 8 * m - 1 - j by omega, topB_next, hbit, show 8 * m - 1 - j + 1 = 8 * m - j by omega]
    unfold accB
    generalize topB (bv (byteS s) m) (8 * m - j) = N at *
    generalize bitS s (8 * m - 1 - j) = b at *
    have h1 := ih.sum ih (pmul_on h _) (pmul_on h _)
    rw [pmul_two h] at h1
    by_cases hb : b = 1
    · rw [if_pos hb, hb]
      have h2 := h1.sum (rep_part P) (pmul_on h _) h
      rw [padd_turn (pmul_on h _) h] at h2
      exact h2
    · rw [if_neg hb, show b = 0 by omega, Nat.add_zero]
      exact h1
theorem rmulV_is (s : ByteArray) (P : Pt) : rmulV s P = pmul (cnt P) (numV s 32) := by
  have h := rep_accB s (cnt_C P) (min s.size 32) (8 * min s.size 32) (Nat.le_refl _)
  rw [Nat.sub_self, show topB (bv (byteS s) (min s.size 32)) 0 = numV s 32 by unfold topB numV; simp] at h
  exact h.whole (pmul_on (cnt_C P) _)
end Go.Proofs.YtggalphgnloneaaGreat
