/- Points in reckoning stand for points; a number of times. -/
import Derived.Test.YtggalphgnloneaaGreatQn
namespace Go.Proofs.YtggalphgnloneaaGreat
open Go.RowKit
theorem c0 (a : Int) : D0 (a - a) := by rw [Int.sub_self]; exact D0.zero
theorem cM {a b : Nat} {A B : Int} (ha : D0 ((a : Int) - A)) (hb : D0 ((b : Int) - B)) : D0 ((mulP a b : Int) - A * B) :=
  D0.lin3 1 (b : Int) A (mulP_D a b) ha hb (by grind)
theorem cA {a b : Nat} {A B : Int} (ha : D0 ((a : Int) - A)) (hb : D0 ((b : Int) - B)) : D0 ((addP a b : Int) - (A + B)) :=
  D0.lin3 1 1 1 (addP_D a b) ha hb (by grind)
theorem cS {a b : Nat} {A B : Int} (ha : D0 ((a : Int) - A)) (hb : D0 ((b : Int) - B)) : D0 ((subP a b : Int) - (A - B)) :=
  D0.lin3 1 1 (-1) (subP_D a b) ha hb (by grind)
/-- r stands for P. -/
structure Rep (r : R3) (P : Pt) : Prop where
  x : D0 ((r.x : Int) - P.x * r.z)
  y : D0 ((r.y : Int) - P.y * r.z)
  z : ¬ D0 (r.z : Int)
theorem Rep.plain {r : R3} {P : Pt} (h : Rep r P) (hP : onC P) : r.plain = P := by
  have hz : D0 ((r.z : Int) * vP r.z - 1) := by rw [vP_eq]; exact invP_D h.z
  refine Pt.same (D0.nat (mulP_p _ _) hP.x ?_) (D0.nat (mulP_p _ _) hP.y ?_)
  · exact D0.lin3 1 (vP r.z : Int) (P.x : Int) (mulP_D r.x (vP r.z)) h.x hz (by show ((mulP r.x (vP r.z) : Nat) : Int) - _ = _; generalize ((mulP r.x (vP r.z) : Nat) : Int) = t; grind)
  · exact D0.lin3 1 (vP r.z : Int) (P.y : Int) (mulP_D r.y (vP r.z)) h.y hz (by show ((mulP r.y (vP r.z) : Nat) : Int) - _ = _; generalize ((mulP r.y (vP r.z) : Nat) : Int) = t; grind)
theorem rep_lift (P : Pt) : Rep ⟨P.x, P.y, 1⟩ P :=
  ⟨D0.lin1 0 D0.zero (by show (P.x : Int) - P.x * ((1 : Nat) : Int) = _; grind), D0.lin1 0 D0.zero (by show (P.y : Int) - P.y * ((1 : Nat) : Int) = _; grind), D0_one⟩
theorem Rep.plus {r q : R3} {P Q : Pt} (h : Rep r P) (k : Rep q Q) (hP : onC P) (hQ : onC Q) : Rep (r.plus q) (padd P Q) := by
  have hz := cM (c0 (r.z : Int)) (c0 (q.z : Int))
  have hxx := cM h.x k.x
  have hyy := cM h.y k.y
  have hcross := cS (cS (cM (cA h.x h.y) (cA k.x k.y)) hxx) hyy
  have hzz := cM hz hz
  have hk := cM (c0 (dP : Int)) (cM hxx hyy)
  have hmore := cA hzz hk
  have hless := cS hzz hk
  have hX := cM (cM hcross hz) hless
  have hY := cM (cM (cA hyy hxx) hz) hmore
  have hZ := cM hmore hless
  have ex := padd_x hP hQ
  have ey := padd_y hP hQ
  have n1 := hP.plus hQ
  have n2 := hP.minus hQ
  have hzn := D0.mul_ne h.z k.z
  unfold R3.plus
  refine ⟨?_, ?_, ?_⟩ <;> dsimp only
  · clear hY hcross hmore hless hzz hk hxx hyy hz ey n1 n2 hzn
    generalize ((mulP _ (subP _ _) : Nat) : Int) = X at hX ⊢
    generalize ((mulP (addP _ _) _ : Nat) : Int) = Z at hZ ⊢
    generalize ((padd P Q).x : Int) = sx at ex ⊢
    exact D0.lin3 1 (-sx) (-((r.z*q.z : Int)^4 * (1 - dP*P.x*Q.x*P.y*Q.y))) hX hZ ex (by grind)
  · clear hX hcross hmore hless hzz hk hxx hyy hz ex n1 n2 hzn
    generalize ((mulP (mulP _ _) _ : Nat) : Int) = Y at hY ⊢
    generalize ((mulP (addP _ _) _ : Nat) : Int) = Z at hZ ⊢
    generalize ((padd P Q).y : Int) = sy at ey ⊢
    exact D0.lin3 1 (-sy) (-((r.z*q.z : Int)^4 * (1 + dP*P.x*Q.x*P.y*Q.y))) hY hZ ey (by grind)
  · intro h0
    clear hX hY hcross hmore hless hzz hk hxx hyy hz ex ey
    generalize ((mulP (addP _ _) _ : Nat) : Int) = Z at hZ h0
    exact D0.mul_ne (D0.mul_ne (D0.mul_ne hzn hzn) (D0.mul_ne hzn hzn)) (D0.mul_ne n1 n2) (D0.lin2 1 (-1) h0 hZ (by grind))
theorem Rep.twice {r : R3} {P : Pt} (h : Rep r P) (hP : onC P) : Rep r.twice (padd P P) := by
  have hxx := cM h.x h.x
  have hyy := cM h.y h.y
  have hzz := cM (c0 (r.z : Int)) (c0 (r.z : Int))
  have hmore := cS hyy hxx
  have hless := cS (cA hzz hzz) hmore
  have hX := cM (cM (cA h.x h.x) h.y) hless
  have hY := cM (cA hyy hxx) hmore
  have hZ := cM hmore hless
  have ex := padd_x hP hP
  have ey := padd_y hP hP
  have n1 := hP.plus hP
  have n2 := hP.minus hP
  have he := hP.e
  have hzn := h.z
  unfold R3.twice
  refine ⟨?_, ?_, ?_⟩ <;> dsimp only
  · clear hY hmore hless hzz hxx hyy ey n1 n2 hzn
    generalize ((mulP (mulP _ _) (subP _ _) : Nat) : Int) = X at hX ⊢
    generalize ((mulP (subP _ _) (subP _ _) : Nat) : Int) = Z at hZ ⊢
    generalize ((padd P P).x : Int) = sx at ex ⊢
    exact D0.lin4 1 (-sx) (-((r.z : Int)^4 * (1 - dP*P.x*P.x*P.y*P.y))) ((r.z : Int)^4 * (sx * ((P.y : Int)^2 - (P.x : Int)^2 - 1 + dP*P.x*P.x*P.y*P.y) - 2 * P.x * P.y)) hX hZ ex he (by grind)
  · clear hX hmore hless hzz hxx hyy ex n1 n2 hzn
    generalize ((mulP (addP _ _) (subP _ _) : Nat) : Int) = Y at hY ⊢
    generalize ((mulP (subP _ _) (subP _ _) : Nat) : Int) = Z at hZ ⊢
    generalize ((padd P P).y : Int) = sy at ey ⊢
    exact D0.lin4 1 (-sy) (-((r.z : Int)^4 * ((P.y : Int)^2 - (P.x : Int)^2))) ((r.z : Int)^4 * sy * ((P.y : Int)^2 - (P.x : Int)^2)) hY hZ ey he (by grind)
  · intro h0
    clear hX hY hmore hless hzz hxx hyy ex ey
    generalize ((mulP (subP _ _) (subP _ _) : Nat) : Int) = Z at hZ h0
    exact D0.mul_ne (D0.mul_ne (D0.mul_ne hzn hzn) (D0.mul_ne hzn hzn)) (D0.mul_ne n1 n2) (D0.lin3 1 (-1) ((r.z : Int)^4 * ((P.y : Int)^2 - (P.x : Int)^2 - 1 + dP*P.x*P.x*P.y*P.y)) h0 hZ he (by grind))
end Go.Proofs.YtggalphgnloneaaGreat
