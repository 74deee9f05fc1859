/- L times the base is Zero. -/
import Derived.Test.YtggalphgnloneaaGreatQt
namespace Go.Proofs.YtggalphgnloneaaGreat
open Go.RowKit
/-- N times P, bit by bit, of n bits. -/
def runP (P : Pt) (N n : Nat) : Nat → R3
  | 0 => ⟨0, 1, 1⟩
  | j + 1 => if N / 2 ^ (n - 1 - j) % 2 = 1 then (runP P N n j).twice.plus ⟨P.x, P.y, 1⟩ else (runP P N n j).twice
theorem rep_runP {P : Pt} (h : onC P) (N n : Nat) (hN : N < 2 ^ n) : ∀ j, j ≤ n → Rep (runP P N n j) (pmul P (topB N (n - j)))
  | 0, _ => by
    rw [Nat.sub_zero, show topB N n = 0 from Nat.div_eq_of_lt hN]
    exact rep_lift pZ
  | j + 1, hj => by
    have ih := rep_runP h N n hN j (by omega)
    rw [show n - (j + 1) = n - 1 - j by omega, topB_next, show n - 1 - j + 1 = n - j by omega]
    unfold runP
    have h1 := ih.twice (pmul_on h _)
    rw [pmul_two h] at h1
    by_cases hb : N / 2 ^ (n - 1 - j) % 2 = 1
    · rw [if_pos hb, hb]
      have h2 := h1.plus (rep_lift P) (pmul_on h _) h
      rw [padd_turn (pmul_on h _) h] at h2
      exact h2
    · rw [if_neg hb, show N / 2 ^ (n - 1 - j) % 2 = 0 by omega, Nat.add_zero]
      exact h1
theorem zero_of {r : R3} {S : Pt} (hS : onC S) (h : Rep r S) (hx : r.x = 0) (hy : r.y = r.z) : S = pZ := by
  have h1 := h.x
  have h2 := h.y
  rw [hx] at h1
  rw [hy] at h2
  refine Pt.same (D0.nat hS.x (by decide) ?_) (D0.nat hS.y (by decide) ?_)
  · exact D0.cancel (u := (r.z : Int)) (D0.lin1 (-1) h1 (by show (r.z : Int) * (S.x - ((0 : Nat) : Int)) = _; grind)) h.z
  · exact D0.cancel (u := (r.z : Int)) (D0.lin1 (-1) h2 (by show (r.z : Int) * (S.y - ((1 : Nat) : Int)) = _; grind)) h.z
theorem order_x : (runP bP qL 253 253).x = 0 := by decide +kernel
theorem order_y : (runP bP qL 253 253).y = (runP bP qL 253 253).z := by decide +kernel
theorem order_base : pmul bP qL = pZ := by
  have h := rep_runP base_on qL 253 (by decide) 253 (Nat.le_refl _)
  rw [Nat.sub_self, show topB qL 0 = qL by unfold topB; simp] at h
  exact zero_of (pmul_on base_on qL) h order_x order_y
end Go.Proofs.YtggalphgnloneaaGreat
