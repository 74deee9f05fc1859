/- Layer 5: a point's blocks, what its functions reckon. -/
import Derived.Test.YtggalphgnloneaaGreatNm
import Derived.Test.YtggalphgnloneaaGreatMR
import Derived.Test.YtggalphgnloneaaGreatMP
namespace Go.Proofs.YtggalphgnloneaaGreat
open Go.RowKit
theorem lands_run2 {P : Program} {R : World → Prop} {o : Oper} {a : Act} {w w1 : World} {v : Value} (h : (execOp a.eval o).run P w = .ok (.value v) w1) (hR : R w1) : Lands P R v ((execOp a.eval o).run P w) := by rw [h]; exact ⟨rfl, hR⟩
theorem lows {B n0 : Nat} {w0 w : World} {lf : Bool → Bool → Blks} (hn : n0 = w.heap.size) (h : KD B w0 (lf false false) w) (he : ∀ b c, (lf b c).map (·.1) = (lf false false).map (·.1)) : ∀ b c, ∀ x ∈ lf b c, x.1 < n0 := fun b c x hx => by
  have h1 : x.1 ∈ (lf b c).map (·.1) := List.mem_map_of_mem hx
  rw [he] at h1
  obtain ⟨y, hy, e⟩ := List.mem_map.1 h1
  rw [hn, ← e]; exact h.lt y hy
theorem zero_fe : ∀ w, (zeroValue 40).run Tryz.prog w = .ok (.agg (r64 4 (F4 0))) w := fun w => by kernel_rfl
theorem zero_pt : ∀ w, (zeroValue 42).run Tryz.prog w = .ok (.agg (nums 2 (two 0 0))) w := fun w => by kernel_rfl
theorem zero_rk : ∀ w, (zeroValue 74).run Tryz.prog w = .ok (.agg (nums 3 (tri 0 0 0))) w := fun w => by kernel_rfl
theorem zero_pa : ∀ w, (zeroValue 84).run Tryz.prog w = .ok (.agg (nums 4 (qua 0 0 0 0))) w := fun w => by kernel_rfl
theorem dP_lt : dP < M256 := by decide
def bxP : Nat := 15112221349535400772501151409588531511454012693041857206046113283949847762202
def byP : Nat := 46316835694926478169428394003475163141307993866256225615783033603165251855960
theorem byP_lt : byP < M256 := by decide
def bP : Pt := ⟨bxP, byP⟩
theorem rsmall_nat (n : Nat) (w : World) (h : n < 18446744073709551616) : Calls Tryz.prog 73 #[.int .u64 (n : Int)] w fun e w' => e = .returned (.agg (r64 4 (F4 n))) ∧ Below w.heap.size w w' := by
  have h1 := small_any n w h
  rw [show iw (BitVec.ofNat 64 n) = (n : Int) by unfold iw; rw [BitVec.toNat_ofNat, Nat.mod_eq_of_lt h]] at h1
  exact h1
/-- What On answers. -/
def onB (P : Pt) : Bool := decide (P.x % pP = P.x) && decide (P.y % pP = P.y) && decide (subP (mulP P.y P.y) (mulP P.x P.x) = addP 1 (mulP dP (mulP (mulP P.x P.x) (mulP P.y P.y))))
def cnt (P : Pt) : Pt := if onB P = true then P else pZ
theorem cnt_on {P : Pt} (h : onB P = true) : cnt P = P := if_pos h
theorem cnt_off {P : Pt} (h : onB P = false) : cnt P = pZ := if_neg (by rw [h]; decide)
theorem lt_M {a : Nat} (h : a < pP) : a < M256 := Nat.lt_trans h pP_lt
/-- On tells the curve's points. -/
theorem onB_C {P : Pt} : onB P = true ↔ onC P := by
  unfold onB
  rw [Bool.and_eq_true, Bool.and_eq_true, decide_eq_true_iff, decide_eq_true_iff, decide_eq_true_iff]
  have e1 := mulP_D P.y P.y
  have e2 := mulP_D P.x P.x
  have e3 := subP_D (mulP P.y P.y) (mulP P.x P.x)
  have e4 := mulP_D (mulP P.x P.x) (mulP P.y P.y)
  have e5 := mulP_D dP (mulP (mulP P.x P.x) (mulP P.y P.y))
  have e6 := addP_D 1 (mulP dP (mulP (mulP P.x P.x) (mulP P.y P.y)))
  have key : D0 (((subP (mulP P.y P.y) (mulP P.x P.x) : Nat) : Int) - (addP 1 (mulP dP (mulP (mulP P.x P.x) (mulP P.y P.y))) : Nat) - ((P.y : Int)^2 - (P.x : Int)^2 - 1 - dP*(P.x : Int)^2*(P.y : Int)^2)) := by
    generalize ((subP (mulP P.y P.y) (mulP P.x P.x) : Nat) : Int) = a at *
    generalize ((addP 1 (mulP dP (mulP (mulP P.x P.x) (mulP P.y P.y))) : Nat) : Int) = b at *
    generalize ((mulP dP (mulP (mulP P.x P.x) (mulP P.y P.y)) : Nat) : Int) = c at *
    generalize ((mulP (mulP P.x P.x) (mulP P.y P.y) : Nat) : Int) = e at *
    generalize ((mulP P.y P.y : Nat) : Int) = f at *
    generalize ((mulP P.x P.x : Nat) : Int) = g at *
    have h1 : D0 (e - (P.x : Int)^2*(P.y : Int)^2) := D0.lin3 1 g ((P.y : Int)^2) e4 e1 e2 (by grind)
    have h2 : D0 (c - dP*(P.x : Int)^2*(P.y : Int)^2) := D0.lin2 1 dP e5 h1 (by grind)
    have h3 : D0 (a - ((P.y : Int)^2 - (P.x : Int)^2)) := D0.lin3 1 1 (-1) e3 e1 e2 (by grind)
    have h4 : D0 (b - (1 + dP*(P.x : Int)^2*(P.y : Int)^2)) := D0.lin2 1 1 e6 h2 (by grind)
    exact D0.lin2 1 (-1) h3 h4 (by grind)
  constructor
  · rintro ⟨⟨h1, h2⟩, h3⟩
    refine ⟨by rw [← h1]; exact Nat.mod_lt _ pP_pos, by rw [← h2]; exact Nat.mod_lt _ pP_pos, ?_⟩
    rw [h3] at key
    exact D0.lin1 (-1) key (by grind)
  · intro h
    refine ⟨⟨Nat.mod_eq_of_lt h.x, Nat.mod_eq_of_lt h.y⟩, D0.nat (subP_p _ _) (addP_p _ _) ?_⟩
    exact D0.lin2 1 1 key h.e (by grind)
theorem cnt_C (P : Pt) : onC (cnt P) := by
  cases h : onB P with
  | true => rw [cnt_on h]; exact onB_C.1 h
  | false => rw [cnt_off h]; exact pZ_on
theorem cnt_x_lt {P : Pt} : (cnt P).x < M256 := lt_M (cnt_C P).x
theorem cnt_y_lt {P : Pt} : (cnt P).y < M256 := lt_M (cnt_C P).y
/-- The inverse, so that no reckoning opens it. -/
theorem vP_there : ∃ f : Nat → Nat, ∀ a, f a = invP a := ⟨invP, fun _ => rfl⟩
noncomputable def vP : Nat → Nat := Classical.choose vP_there
theorem vP_eq (a : Nat) : vP a = invP a := Classical.choose_spec vP_there a
theorem vP_lt (a : Nat) : vP a < M256 := by rw [vP_eq]; exact invP_lt a
theorem finvV (a : Nat) (w : World) (ha : a < M256) : Calls Tryz.prog 96 #[.agg (r64 4 (F4 a))] w fun e w' => e = .returned (.agg (r64 4 (F4 (vP a)))) ∧ Below w.heap.size w w' := by
  rw [vP_eq]; exact finvP a w ha
theorem rinvV (a : Nat) (w : World) (ha : a < M256) : Calls Tryz.prog 74 #[.agg (r64 4 (F4 a))] w fun e w' => e = .returned (.agg (r64 4 (F4 (vP a)))) ∧ Below w.heap.size w w' := by
  rw [vP_eq]; exact rinvI a w ha
/-- A point in reckoning. -/
structure R3 where
  x : Nat
  y : Nat
  z : Nat
structure R3.ok (r : R3) : Prop where
  x : r.x < M256
  y : r.y < M256
  z : r.z < M256
noncomputable def R3.plain (r : R3) : Pt := ⟨mulP r.x (vP r.z), mulP r.y (vP r.z)⟩
def R3.plus (r q : R3) : R3 :=
  ⟨mulP (mulP (subP (subP (mulP (addP r.x r.y) (addP q.x q.y)) (mulP r.x q.x)) (mulP r.y q.y)) (mulP r.z q.z)) (subP (mulP (mulP r.z q.z) (mulP r.z q.z)) (mulP dP (mulP (mulP r.x q.x) (mulP r.y q.y)))),
   mulP (mulP (addP (mulP r.y q.y) (mulP r.x q.x)) (mulP r.z q.z)) (addP (mulP (mulP r.z q.z) (mulP r.z q.z)) (mulP dP (mulP (mulP r.x q.x) (mulP r.y q.y)))),
   mulP (addP (mulP (mulP r.z q.z) (mulP r.z q.z)) (mulP dP (mulP (mulP r.x q.x) (mulP r.y q.y)))) (subP (mulP (mulP r.z q.z) (mulP r.z q.z)) (mulP dP (mulP (mulP r.x q.x) (mulP r.y q.y))))⟩
def R3.twice (r : R3) : R3 :=
  ⟨mulP (mulP (addP r.x r.x) r.y) (subP (addP (mulP r.z r.z) (mulP r.z r.z)) (subP (mulP r.y r.y) (mulP r.x r.x))),
   mulP (addP (mulP r.y r.y) (mulP r.x r.x)) (subP (mulP r.y r.y) (mulP r.x r.x)),
   mulP (subP (mulP r.y r.y) (mulP r.x r.x)) (subP (addP (mulP r.z r.z) (mulP r.z r.z)) (subP (mulP r.y r.y) (mulP r.x r.x)))⟩
def R3.t16 (r : R3) : R3 := r.twice.twice.twice.twice
theorem R3.plus_ok {r q : R3} : (R3.plus r q).ok := ⟨mulP_lt _ _, mulP_lt _ _, mulP_lt _ _⟩
theorem R3.twice_ok {r : R3} : (R3.twice r).ok := ⟨mulP_lt _ _, mulP_lt _ _, mulP_lt _ _⟩
theorem R3.t16_ok {r : R3} : (R3.t16 r).ok := R3.twice_ok
noncomputable def addV (P Q : Pt) : Pt := (R3.plus (R3.mk (cnt P).x (cnt P).y 1) (R3.mk (cnt Q).x (cnt Q).y 1)).plain
/-- A point of fractions. -/
structure R4 where
  x : Nat
  y : Nat
  z : Nat
  t : Nat
structure R4.ok (r : R4) : Prop where
  x : r.x < M256
  y : r.y < M256
  z : r.z < M256
  t : r.t < M256
noncomputable def R4.whole (r : R4) : Pt := ⟨mulP r.x (vP r.z), mulP r.y (vP r.z)⟩
def R4.sum (p q : R4) : R4 :=
  ⟨mulP (addP (mulP p.x q.y) (mulP q.x p.y)) (subP (mulP p.z q.z) (mulP dP (mulP p.t q.t))),
   mulP (addP (mulP p.y q.y) (mulP p.x q.x)) (addP (mulP p.z q.z) (mulP dP (mulP p.t q.t))),
   mulP (subP (mulP p.z q.z) (mulP dP (mulP p.t q.t))) (addP (mulP p.z q.z) (mulP dP (mulP p.t q.t))),
   mulP (addP (mulP p.x q.y) (mulP q.x p.y)) (addP (mulP p.y q.y) (mulP p.x q.x))⟩
theorem R4.sum_ok {p q : R4} : (R4.sum p q).ok := ⟨mulP_lt _ _, mulP_lt _ _, mulP_lt _ _, mulP_lt _ _⟩
noncomputable def raddV (P Q : Pt) : Pt := (R4.sum (R4.mk (cnt P).x (cnt P).y 1 (mulP (cnt P).x (cnt P).y)) (R4.mk (cnt Q).x (cnt Q).y 1 (mulP (cnt Q).x (cnt Q).y))).whole
theorem pow_inv (a : Nat) : invP a = pmod pP a 255 (pP - 2) := (pmod_eq pP a 255 (pP - 2) (by decide)).symm
theorem d_is : mulP (negP 121665) (vP 121666) = dP := by
  rw [vP_eq, pow_inv]; decide +kernel
/-- The root, so that no reckoning opens it. -/
theorem rV_there : ∃ f : Nat → Nat → Nat × Bool, ∀ u v, f u v = rootV u v := ⟨rootV, fun _ _ => rfl⟩
noncomputable def rV : Nat → Nat → Nat × Bool := Classical.choose rV_there
theorem rV_eq (u v : Nat) : rV u v = rootV u v := Classical.choose_spec rV_there u v
theorem rroot_is (u v : Nat) (w : World) (hu : u < M256) (hv : v < M256) (x : Nat) (b : Bool) (hr : rV u v = (x, b)) :
    Calls Tryz.prog 100 #[.agg (r64 4 (F4 u)), .agg (r64 4 (F4 v))] w fun e w' => e = .returned (.tuple #[.agg (r64 4 (F4 x)), .bool b]) ∧ Below w.heap.size w w' := by
  have h := rroot_any u v w hu hv
  rw [show mulP u (invP v) = mulP (u % pP) (invP v) by unfold mulP; rw [Nat.mod_mul_mod], show powP (mulP (u % pP) (invP v)) E3 = tryV (u % pP) v from rfl, root_same, ← rV_eq, hr] at h
  exact h
theorem froot_is (u v : Nat) (w : World) (hu : u < M256) (hv : v < M256) (x : Nat) (b : Bool) (hr : rV u v = (x, b)) :
    Calls Tryz.prog 88 #[.agg (r64 4 (F4 u)), .agg (r64 4 (F4 v))] w fun e w' => e = .returned (.tuple #[.agg (r64 4 (F4 x)), .bool b]) ∧ Below w.heap.size w w' := by
  have h := froot_any u v w hu hv
  rw [← rV_eq, hr] at h
  exact h
theorem rV_lt {u v x : Nat} {b : Bool} (h : rV u v = (x, b)) : x < M256 := by
  rw [rV_eq] at h
  cases b with
  | true => exact lt_M (rootV_ok h).2.1
  | false =>
    have h2 := rootV_no (u := u) (v := v) (by rw [h])
    rw [h] at h2
    injection h2 with h2
    rw [h2]; decide
theorem by_is : mulP 4 (vP 5) = byP := by
  rw [vP_eq, pow_inv]; decide +kernel
theorem root_base : rV (subP (mulP byP byP) 1) (addP (mulP dP (mulP byP byP)) 1) = (bxP, true) := by
  rw [rV_eq, root_pmod]; decide +kernel
theorem base_on : onC bP := by
  apply onB_C.1
  show (decide (bxP % pP = bxP) && decide (byP % pP = byP) && decide (subP (mulP byP byP) (mulP bxP bxP) = addP 1 (mulP dP (mulP (mulP bxP bxP) (mulP byP byP))))) = true
  decide +kernel
end Go.Proofs.YtggalphgnloneaaGreat
