/- Numbers modulo p: names, and what p divides. -/
import Derived.Test.YtggalphgnloneaaGreatMH
import Derived.Test.YtggalphgnloneaaGreatMA
namespace Go.Proofs.YtggalphgnloneaaGreat
theorem pP_pos : 0 < pP := by decide
theorem addP_p (a b : Nat) : addP a b < pP := Nat.mod_lt _ pP_pos
theorem mulP_p (a b : Nat) : mulP a b < pP := Nat.mod_lt _ pP_pos
theorem negP_p (a : Nat) : negP a < pP := Nat.mod_lt _ pP_pos
theorem subP_p (a b : Nat) : subP a b < pP := Nat.mod_lt _ pP_pos
/-- p divides t. -/
def D0 (t : Int) : Prop := ∃ c : Int, t = pP * c
theorem D0.zero : D0 0 := ⟨0, (Int.mul_zero _).symm⟩
theorem D0.add {a b : Int} (ha : D0 a) (hb : D0 b) : D0 (a + b) := by
  obtain ⟨c, rfl⟩ := ha; obtain ⟨d, rfl⟩ := hb; exact ⟨c + d, (Int.mul_add _ _ _).symm⟩
theorem D0.neg {a : Int} (ha : D0 a) : D0 (-a) := by
  obtain ⟨c, rfl⟩ := ha; exact ⟨-c, by rw [Int.mul_neg]⟩
theorem D0.sub {a b : Int} (ha : D0 a) (hb : D0 b) : D0 (a - b) := by rw [Int.sub_eq_add_neg]; exact ha.add hb.neg
theorem D0.mul (m : Int) {a : Int} (ha : D0 a) : D0 (m * a) := by
  obtain ⟨c, rfl⟩ := ha; exact ⟨m * c, by rw [Int.mul_left_comm]⟩
theorem D0.lin1 {t t1 : Int} (m1 : Int) (h1 : D0 t1) (e : t = m1 * t1) : D0 t := e ▸ h1.mul m1
theorem D0.lin2 {t t1 t2 : Int} (m1 m2 : Int) (h1 : D0 t1) (h2 : D0 t2) (e : t = m1 * t1 + m2 * t2) : D0 t := e ▸ (h1.mul m1).add (h2.mul m2)
theorem D0.lin3 {t t1 t2 t3 : Int} (m1 m2 m3 : Int) (h1 : D0 t1) (h2 : D0 t2) (h3 : D0 t3) (e : t = m1 * t1 + m2 * t2 + m3 * t3) : D0 t := e ▸ ((h1.mul m1).add (h2.mul m2)).add (h3.mul m3)
theorem D0.lin4 {t t1 t2 t3 t4 : Int} (m1 m2 m3 m4 : Int) (h1 : D0 t1) (h2 : D0 t2) (h3 : D0 t3) (h4 : D0 t4) (e : t = m1 * t1 + m2 * t2 + m3 * t3 + m4 * t4) : D0 t := e ▸ (((h1.mul m1).add (h2.mul m2)).add (h3.mul m3)).add (h4.mul m4)
theorem D0.dvd {t : Int} : D0 t ↔ pP ∣ t.natAbs := by
  constructor
  · rintro ⟨c, rfl⟩; rw [Int.natAbs_mul]; exact ⟨c.natAbs, rfl⟩
  · rintro ⟨c, hc⟩
    rcases Int.natAbs_eq t with h | h
    · exact ⟨c, by rw [h, hc, Int.natCast_mul]⟩
    · exact ⟨-c, by rw [h, hc, Int.natCast_mul, Int.mul_neg]⟩
theorem prime_p : IsPrime pP := lucasP.1
theorem D0.prime {a b : Int} (h : D0 (a * b)) : D0 a ∨ D0 b := by
  rw [D0.dvd, Int.natAbs_mul] at h
  rcases prime_p.euclid h with h | h
  · exact .inl (D0.dvd.2 h)
  · exact .inr (D0.dvd.2 h)
theorem D0.cancel {u t : Int} (h : D0 (u * t)) (hu : ¬ D0 u) : D0 t := h.prime.resolve_left hu
theorem D0.mul_ne {a b : Int} (ha : ¬ D0 a) (hb : ¬ D0 b) : ¬ D0 (a * b) := fun h => h.prime.elim ha hb
theorem D0.nat {a b : Nat} (ha : a < pP) (hb : b < pP) (h : D0 ((a : Int) - b)) : a = b := by
  rw [D0.dvd] at h
  obtain ⟨c, hc⟩ := h
  have h1 : ((a : Int) - b).natAbs < pP := by omega
  rcases Nat.eq_zero_or_pos c with h0 | h0
  · subst h0; omega
  · have := Nat.mul_le_mul_left pP h0; omega
theorem D0.of_mod {a : Nat} : D0 (a : Int) ↔ a % pP = 0 := by
  rw [D0.dvd]; exact Nat.dvd_iff_mod_eq_zero
theorem mod_D (a : Nat) : D0 (((a % pP : Nat) : Int) - a) := by
  refine ⟨-((a / pP : Nat) : Int), ?_⟩
  have h := Nat.mod_add_div a pP
  have h2 : (a : Int) = ((a % pP : Nat) : Int) + (pP : Int) * ((a / pP : Nat) : Int) := by
    rw [← Int.natCast_mul, ← Int.natCast_add, h]
  rw [h2, Int.mul_neg]; omega
theorem addP_D (a b : Nat) : D0 ((addP a b : Int) - (a + b)) := by
  have h := mod_D (a + b)
  rwa [Int.natCast_add] at h
theorem mulP_D (a b : Nat) : D0 ((mulP a b : Int) - a * b) := by
  have h := mod_D (a * b)
  rwa [Int.natCast_mul] at h
theorem pP_D : D0 (pP : Int) := ⟨1, (Int.mul_one _).symm⟩
theorem negP_D (a : Nat) : D0 ((negP a : Int) + a) := by
  have h := mod_D (pP - a % pP)
  have h1 := mod_D a
  have h2 := Nat.mod_lt a pP_pos
  rw [Int.natCast_sub (Nat.le_of_lt h2)] at h
  refine D0.lin3 1 (-1) 1 h h1 pP_D ?_
  show ((negP a : Nat) : Int) + a = _
  unfold negP
  generalize ((pP - a % pP) % pP : Nat) = z
  generalize a % pP = y
  generalize pP = p
  omega
theorem subP_D (a b : Nat) : D0 ((subP a b : Int) - (a - b)) := by
  have h := mod_D (a + (pP - b % pP))
  have h1 := mod_D b
  have h2 := Nat.mod_lt b pP_pos
  rw [Int.natCast_add, Int.natCast_sub (Nat.le_of_lt h2)] at h
  refine D0.lin3 1 (-1) 1 h h1 pP_D ?_
  show ((subP a b : Nat) : Int) - (a - b) = _
  unfold subP
  generalize ((a + (pP - b % pP)) % pP : Nat) = z
  generalize b % pP = y
  generalize pP = p
  omega
theorem invP_D {a : Nat} (h : ¬ D0 (a : Int)) : D0 ((a : Int) * invP a - 1) := by
  rw [D0.of_mod] at h
  have h1 : a * invP a % pP = 1 := by
    unfold invP
    rw [Nat.mul_mod_mod, Nat.mul_comm, ← Nat.pow_succ, show (pP - 2).succ = pP - 1 by decide]
    exact fermatP a h
  have h2 := mod_D (a * invP a)
  rw [h1, Int.natCast_mul] at h2
  refine D0.lin1 (-1) h2 ?_
  show _ = (-1) * (1 - _)
  omega
/-- Every number that p does not divide has an inverse. -/
theorem exists_inv {u : Int} (h : ¬ D0 u) : ∃ v : Int, D0 (u * v - 1) := by
  obtain ⟨n, hn⟩ : ∃ n : Nat, D0 (u - n) := by
    refine ⟨(u % pP).toNat, u / pP, ?_⟩
    have h1 := Int.emod_nonneg u (show (pP : Int) ≠ 0 by have := pP_pos; omega)
    have h2 := Int.emod_add_mul_ediv u pP
    rw [Int.toNat_of_nonneg h1]; omega
  have hn0 : ¬ D0 (n : Int) := fun h0 => h (D0.lin2 1 1 hn h0 (by omega))
  exact ⟨invP n, D0.lin2 (invP n : Int) 1 hn (invP_D hn0) (by grind)⟩
end Go.Proofs.YtggalphgnloneaaGreat
/- The curve's identities in whole numbers: sums are on the curve, and may be taken in any order. -/
namespace Go.Proofs.YtggalphgnloneaaGreat
set_option maxHeartbeats 4000000 in
theorem assoc_x (x1 y1 x2 y2 x3 y3 d : Int) : ((x1*y2 + x2*y1)*(1 - d*x1*x2*y1*y2)*y3 + x3*(y1*y2 + x1*x2)*(1 + d*x1*x2*y1*y2)) * ((1 + d*x2*x3*y2*y3)*(1 - d*x2*x3*y2*y3) + d*x1*y1*(x2*y3 + x3*y2)*(y2*y3 + x2*x3)) - ((x2*y3 + x3*y2)*(1 - d*x2*x3*y2*y3)*y1 + x1*(y2*y3 + x2*x3)*(1 + d*x2*x3*y2*y3)) * ((1 + d*x1*x2*y1*y2)*(1 - d*x1*x2*y1*y2) + d*x3*y3*(x1*y2 + x2*y1)*(y1*y2 + x1*x2)) = 
    (-d^2*x1*x2^4*x3^2*y2^3*y3 - d^2*x1*x2^3*x3*y2^4*y3^2 + d^2*x2^4*x3*y1*y2^3*y3^2 + d^2*x2^3*x3^2*y1*y2^4*y3 - d*x1*x2^4*x3^2*y2*y3 - d*x1*x2^3*x3^3*y2^2 - d*x1*x2^3*x3*y2^2 + d*x1*x2^2*y2^3*y3^3 - d*x1*x2^2*y2^3*y3 + d*x1*x2*x3*y2^4*y3^2 + d*x2^4*x3*y1*y2*y3^2 + d*x2^3*y1*y2^2*y3^3 - d*x2^3*y1*y2^2*y3 - d*x2^2*x3^3*y1*y2^3 - d*x2^2*x3*y1*y2^3 - d*x2*x3^2*y1*y2^4*y3) * (y1^2 - x1^2 - 1 - d*x1^2*y1^2) + (d^2*x1^2*x2^2*x3^3*y1*y2*y3^2 - d^2*x1^2*x2*x3^2*y1*y2^2*y3^3 - d^2*x1*x2^2*x3^2*y1^2*y2*y3^3 + d^2*x1*x2*x3^3*y1^2*y2^2*y3^2 + d*x1^3*x2^2*x3^2*y2*y3 + d*x1^3*x2*x3^3*y3^2 + d*x1^3*x2*x3*y2^2*y3^2 + d*x1^3*x3^2*y2*y3^3 - d*x1^2*x2^2*x3*y1*y2*y3^2 - d*x1^2*x2*x3^2*y1*y2^2*y3 + d*x1^2*x2*x3^2*y1*y3^3 + d*x1^2*x3^3*y1*y2*y3^2 - d*x1*x2^2*x3^2*y1^2*y2*y3 + d*x1*x2^2*x3^2*y2*y3 - d*x1*x2*x3^3*y1^2*y3^2 + d*x1*x2*x3^3*y3^2 - d*x1*x2*x3*y1^2*y2^2*y3^2 + d*x1*x2*x3*y2^2*y3^2 - d*x1*x3^2*y1^2*y2*y3^3 + d*x1*x3^2*y2*y3^3 + d*x2^2*x3*y1^3*y2*y3^2 - d*x2^2*x3*y1*y2*y3^2 + d*x2*x3^2*y1^3*y2^2*y3 - d*x2*x3^2*y1^3*y3^3 - d*x2*x3^2*y1*y2^2*y3 + d*x2*x3^2*y1*y3^3 - d*x3^3*y1^3*y2*y3^2 + d*x3^3*y1*y2*y3^2 + x1^3*x2*x3^3 - x1^3*x2*x3*y3^2 + x1^3*x2*x3 + x1^3*x3^2*y2*y3 - x1^3*y2*y3^3 + x1^3*y2*y3 + x1^2*x2*x3^2*y1*y3 - x1^2*x2*y1*y3^3 + x1^2*x2*y1*y3 + x1^2*x3^3*y1*y2 - x1^2*x3*y1*y2*y3^2 + x1^2*x3*y1*y2 - x1*x2*x3^3*y1^2 + x1*x2*x3^3 + x1*x2*x3*y1^2*y3^2 - x1*x2*x3*y1^2 - x1*x2*x3*y3^2 + x1*x2*x3 - x1*x3^2*y1^2*y2*y3 + x1*x3^2*y2*y3 + x1*y1^2*y2*y3^3 - x1*y1^2*y2*y3 - x1*y2*y3^3 + x1*y2*y3 - x2*x3^2*y1^3*y3 + x2*x3^2*y1*y3 + x2*y1^3*y3^3 - x2*y1^3*y3 - x2*y1*y3^3 + x2*y1*y3 - x3^3*y1^3*y2 + x3^3*y1*y2 + x3*y1^3*y2*y3^2 - x3*y1^3*y2 - x3*y1*y2*y3^2 + x3*y1*y2) * (y2^2 - x2^2 - 1 - d*x2^2*y2^2) + (-d*x1^2*x2^2*x3*y1*y2 + d*x1^2*x2*y1*y2^2*y3 + d*x1*x2^2*y1^2*y2*y3 - d*x1*x2*x3*y1^2*y2^2 - x1^3*x2^3*x3 - x1^3*x2^2*y2*y3 + x1^3*x2*x3*y2^2 - x1^3*x2*x3 + x1^3*y2^3*y3 - x1^3*y2*y3 - x1^2*x2^3*y1*y3 - x1^2*x2^2*x3*y1*y2 + x1^2*x2*y1*y2^2*y3 - x1^2*x2*y1*y3 + x1^2*x3*y1*y2^3 - x1^2*x3*y1*y2 + x1*x2^3*x3*y1^2 - x1*x2^3*x3 + x1*x2^2*y1^2*y2*y3 - x1*x2^2*y2*y3 - x1*x2*x3*y1^2*y2^2 + x1*x2*x3*y1^2 + x1*x2*x3*y2^2 - x1*x2*x3 - x1*y1^2*y2^3*y3 + x1*y1^2*y2*y3 + x1*y2^3*y3 - x1*y2*y3 + x2^3*y1^3*y3 - x2^3*y1*y3 + x2^2*x3*y1^3*y2 - x2^2*x3*y1*y2 - x2*y1^3*y2^2*y3 + x2*y1^3*y3 + x2*y1*y2^2*y3 - x2*y1*y3 - x3*y1^3*y2^3 + x3*y1^3*y2 + x3*y1*y2^3 - x3*y1*y2) * (y3^2 - x3^2 - 1 - d*x3^2*y3^2) := by grind
set_option maxHeartbeats 4000000 in
theorem assoc_y (x1 y1 x2 y2 x3 y3 d : Int) : ((y1*y2 + x1*x2)*y3*(1 + d*x1*x2*y1*y2) + (x1*y2 + x2*y1)*x3*(1 - d*x1*x2*y1*y2)) * ((1 + d*x2*x3*y2*y3)*(1 - d*x2*x3*y2*y3) - d*x1*y1*(x2*y3 + x3*y2)*(y2*y3 + x2*x3)) - ((y2*y3 + x2*x3)*y1*(1 + d*x2*x3*y2*y3) + (x2*y3 + x3*y2)*x1*(1 - d*x2*x3*y2*y3)) * ((1 + d*x1*x2*y1*y2)*(1 - d*x1*x2*y1*y2) - d*x3*y3*(x1*y2 + x2*y1)*(y1*y2 + x1*x2)) = 
    (d^2*x1*x2^4*x3*y2^3*y3^2 + d^2*x1*x2^3*x3^2*y2^4*y3 - d^2*x2^4*x3^2*y1*y2^3*y3 - d^2*x2^3*x3*y1*y2^4*y3^2 + d*x1*x2^4*x3*y2*y3^2 + d*x1*x2^3*y2^2*y3^3 - d*x1*x2^3*y2^2*y3 - d*x1*x2^2*x3^3*y2^3 - d*x1*x2^2*x3*y2^3 - d*x1*x2*x3^2*y2^4*y3 - d*x2^4*x3^2*y1*y2*y3 - d*x2^3*x3^3*y1*y2^2 - d*x2^3*x3*y1*y2^2 + d*x2^2*y1*y2^3*y3^3 - d*x2^2*y1*y2^3*y3 + d*x2*x3*y1*y2^4*y3^2) * (y1^2 - x1^2 - 1 - d*x1^2*y1^2) + (d^2*x1^2*x2^2*x3^2*y1*y2*y3^3 - d^2*x1^2*x2*x3^3*y1*y2^2*y3^2 - d^2*x1*x2^2*x3^3*y1^2*y2*y3^2 + d^2*x1*x2*x3^2*y1^2*y2^2*y3^3 - d*x1^3*x2^2*x3*y2*y3^2 - d*x1^3*x2*x3^2*y2^2*y3 + d*x1^3*x2*x3^2*y3^3 + d*x1^3*x3^3*y2*y3^2 + d*x1^2*x2^2*x3^2*y1*y2*y3 + d*x1^2*x2*x3^3*y1*y3^2 + d*x1^2*x2*x3*y1*y2^2*y3^2 + d*x1^2*x3^2*y1*y2*y3^3 + d*x1*x2^2*x3*y1^2*y2*y3^2 - d*x1*x2^2*x3*y2*y3^2 + d*x1*x2*x3^2*y1^2*y2^2*y3 - d*x1*x2*x3^2*y1^2*y3^3 - d*x1*x2*x3^2*y2^2*y3 + d*x1*x2*x3^2*y3^3 - d*x1*x3^3*y1^2*y2*y3^2 + d*x1*x3^3*y2*y3^2 - d*x2^2*x3^2*y1^3*y2*y3 + d*x2^2*x3^2*y1*y2*y3 - d*x2*x3^3*y1^3*y3^2 + d*x2*x3^3*y1*y3^2 - d*x2*x3*y1^3*y2^2*y3^2 + d*x2*x3*y1*y2^2*y3^2 - d*x3^2*y1^3*y2*y3^3 + d*x3^2*y1*y2*y3^3 + x1^3*x2*x3^2*y3 - x1^3*x2*y3^3 + x1^3*x2*y3 + x1^3*x3^3*y2 - x1^3*x3*y2*y3^2 + x1^3*x3*y2 + x1^2*x2*x3^3*y1 - x1^2*x2*x3*y1*y3^2 + x1^2*x2*x3*y1 + x1^2*x3^2*y1*y2*y3 - x1^2*y1*y2*y3^3 + x1^2*y1*y2*y3 - x1*x2*x3^2*y1^2*y3 + x1*x2*x3^2*y3 + x1*x2*y1^2*y3^3 - x1*x2*y1^2*y3 - x1*x2*y3^3 + x1*x2*y3 - x1*x3^3*y1^2*y2 + x1*x3^3*y2 + x1*x3*y1^2*y2*y3^2 - x1*x3*y1^2*y2 - x1*x3*y2*y3^2 + x1*x3*y2 - x2*x3^3*y1^3 + x2*x3^3*y1 + x2*x3*y1^3*y3^2 - x2*x3*y1^3 - x2*x3*y1*y3^2 + x2*x3*y1 - x3^2*y1^3*y2*y3 + x3^2*y1*y2*y3 + y1^3*y2*y3^3 - y1^3*y2*y3 - y1*y2*y3^3 + y1*y2*y3) * (y2^2 - x2^2 - 1 - d*x2^2*y2^2) + (-d*x1^2*x2^2*y1*y2*y3 + d*x1^2*x2*x3*y1*y2^2 + d*x1*x2^2*x3*y1^2*y2 - d*x1*x2*y1^2*y2^2*y3 - x1^3*x2^3*y3 - x1^3*x2^2*x3*y2 + x1^3*x2*y2^2*y3 - x1^3*x2*y3 + x1^3*x3*y2^3 - x1^3*x3*y2 - x1^2*x2^3*x3*y1 - x1^2*x2^2*y1*y2*y3 + x1^2*x2*x3*y1*y2^2 - x1^2*x2*x3*y1 + x1^2*y1*y2^3*y3 - x1^2*y1*y2*y3 + x1*x2^3*y1^2*y3 - x1*x2^3*y3 + x1*x2^2*x3*y1^2*y2 - x1*x2^2*x3*y2 - x1*x2*y1^2*y2^2*y3 + x1*x2*y1^2*y3 + x1*x2*y2^2*y3 - x1*x2*y3 - x1*x3*y1^2*y2^3 + x1*x3*y1^2*y2 + x1*x3*y2^3 - x1*x3*y2 + x2^3*x3*y1^3 - x2^3*x3*y1 + x2^2*y1^3*y2*y3 - x2^2*y1*y2*y3 - x2*x3*y1^3*y2^2 + x2*x3*y1^3 + x2*x3*y1*y2^2 - x2*x3*y1 - y1^3*y2^3*y3 + y1^3*y2*y3 + y1*y2^3*y3 - y1*y2*y3) * (y3^2 - x3^2 - 1 - d*x3^2*y3^2) := by grind
set_option maxHeartbeats 4000000 in
theorem closed_ (x1 y1 x2 y2 d : Int) : ((y1*y2 + x1*x2)*(1 + d*x1*x2*y1*y2))^2 - ((x1*y2 + x2*y1)*(1 - d*x1*x2*y1*y2))^2 - ((1 + d*x1*x2*y1*y2)*(1 - d*x1*x2*y1*y2))^2 - d*((x1*y2 + x2*y1)*(y1*y2 + x1*x2))^2 = 
    (d^3*x1^2*x2^4*y1^2*y2^4 - d^2*x1^2*x2^4*y2^4 + d^2*x2^4*y1^2*y2^4 - d^2*x2^4*y2^4 - d*x1^2*x2^4*y2^2 + d*x1^2*x2^2*y2^4 + d*x2^4*y1^2*y2^2 - 2*d*x2^4*y2^4 - d*x2^2*y1^2*y2^4 - 2*d*x2^2*y2^2 - 2*x2^4*y2^2 + x2^4 + 2*x2^2*y2^4 - 4*x2^2*y2^2 + y2^4) * (y1^2 - x1^2 - 1 - d*x1^2*y1^2) + (d*x1^4*x2^2*y2^2 + 2*d*x1^2*x2^2*y2^2 + d*x2^2*y1^4*y2^2 - 2*d*x2^2*y1^2*y2^2 + d*x2^2*y2^2 + 2*x1^2*x2^2*y2^2 - x1^2*x2^2 + x1^2*y2^2 - 2*x2^2*y1^2*y2^2 + x2^2*y1^2 + 2*x2^2*y2^2 - x2^2 - y1^2*y2^2 + y2^2 + 1) * (y2^2 - x2^2 - 1 - d*x2^2*y2^2) := by grind
end Go.Proofs.YtggalphgnloneaaGreat
/- The curve's d is no square modulo p: no sum of two of its points divides by 0. -/
namespace Go.Proofs.YtggalphgnloneaaGreat
def dP : Nat := 37095705934669439343138083508754565189542113879843219016388785533085940283555
def iP : Nat := 19681161376707505956807079304988542015446066515923890162744021073123829784752
def hP : Nat := 28948022309329048855892746252171976963317496166410141009864396001978282409974
theorem dP_p : dP < pP := by decide
theorem d_half : dP ^ hP % pP = pP - 1 := by
  have h : pmod pP dP 255 hP = pP - 1 := by decide +kernel
  rw [← pmod_eq pP dP 255 hP (by decide)]; exact h
theorem i_sq : D0 ((iP : Int) * iP + 1) := by
  have h := mulP_D iP iP
  have e : mulP iP iP = pP - 1 := by unfold mulP; decide +kernel
  rw [e, Int.natCast_sub (show 1 ≤ pP by decide)] at h
  refine D0.lin2 (-1) 1 h pP_D ?_
  generalize (iP : Int) * iP = z
  generalize pP = p
  omega
theorem not_small (n : Nat) (h0 : 0 < n) (h : n < pP) : ¬ D0 (n : Int) := fun hd => by
  rw [D0.of_mod, Nat.mod_eq_of_lt h] at hd; omega
theorem D0_one : ¬ D0 1 := not_small 1 (by decide) (by decide)
theorem D0_two : ¬ D0 2 := not_small 2 (by decide) (by decide)
theorem exists_nat (u : Int) : ∃ n : Nat, D0 (u - n) := by
  refine ⟨(u % pP).toNat, u / pP, ?_⟩
  have h1 := Int.emod_nonneg u (show (pP : Int) ≠ 0 by have := pP_pos; omega)
  have h2 := Int.emod_add_mul_ediv u pP
  rw [Int.toNat_of_nonneg h1]; omega
theorem hP_two : 2 * hP = pP - 1 := by decide
theorem nonsquare (s : Int) : ¬ D0 (s * s - dP) := by
  intro h
  obtain ⟨n, hn⟩ := exists_nat s
  have h1 : D0 ((mulP n n : Int) - dP) := D0.lin3 1 (-(s + n)) 1 (mulP_D n n) hn h (by grind)
  have h2 : mulP n n = dP := D0.nat (mulP_p _ _) dP_p h1
  have hd : ¬ n % pP = 0 := fun h0 => by
    unfold mulP at h2
    rw [Nat.mul_mod, h0] at h2
    exact absurd h2 (by decide)
  have h3 := fermatP n hd
  have h4 : dP ^ hP % pP = 1 := by
    rw [← h2]
    unfold mulP
    rw [← Nat.pow_mod, ← Nat.pow_two, ← Nat.pow_mul, hP_two]
    exact h3
  rw [d_half] at h4
  exact absurd h4 (by decide)
section
variable {d i : Int}
theorem square_up {x1 y1 x2 y2 e : Int} (hi : D0 (i * i + 1)) (h1 : D0 (y1^2 - x1^2 - 1 - d*x1^2*y1^2)) (h2 : D0 (y2^2 - x2^2 - 1 - d*x2^2*y2^2)) (he : e * e = 1) (hk : D0 (d*x1*x2*y1*y2 - e)) :
    D0 ((i*x1 + e*y1)^2 - d*(x1*y1*(i*x2 + y2))^2) :=
  D0.lin4 1 (-d*x1^2*y1^2) (x1^2 - d*x1^2*y1^2*x2^2) (-(d*x1*x2*y1*y2 + e + 2*i*x1*y1)) h1 h2 hi hk (by grind)
theorem square_down {x1 y1 x2 y2 e : Int} (hi : D0 (i * i + 1)) (h1 : D0 (y1^2 - x1^2 - 1 - d*x1^2*y1^2)) (h2 : D0 (y2^2 - x2^2 - 1 - d*x2^2*y2^2)) (he : e * e = 1) (hk : D0 (d*x1*x2*y1*y2 - e)) :
    D0 ((i*x1 - e*y1)^2 - d*(x1*y1*(i*x2 - y2))^2) :=
  D0.lin4 1 (-d*x1^2*y1^2) (x1^2 - d*x1^2*y1^2*x2^2) (-(d*x1*x2*y1*y2 + e - 2*i*x1*y1)) h1 h2 hi hk (by grind)
theorem no_ratio (hns : ∀ s : Int, ¬ D0 (s * s - d)) {n w : Int} (hw : ¬ D0 w) : ¬ D0 (n^2 - d*w^2) := by
  intro h
  obtain ⟨v, hv⟩ := exists_inv hw
  exact hns (n * v) (D0.lin2 (v^2) (d*(w*v + 1)) h hv (by grind))
theorem complete_ (hi : D0 (i * i + 1)) (hns : ∀ s : Int, ¬ D0 (s * s - d)) {x1 y1 x2 y2 e : Int} (h1 : D0 (y1^2 - x1^2 - 1 - d*x1^2*y1^2)) (h2 : D0 (y2^2 - x2^2 - 1 - d*x2^2*y2^2)) (he : e * e = 1) : ¬ D0 (d*x1*x2*y1*y2 - e) := by
  intro hk
  have hne : ¬ D0 (d*x1*x2*y1*y2) := fun h0 => D0_one (by
    have h3 : D0 e := D0.lin2 1 (-1) h0 hk (by grind)
    have h4 := h3.mul e
    rwa [he] at h4)
  have hx1 : ¬ D0 x1 := fun h0 => hne (D0.lin1 (d*x2*y1*y2) h0 (by grind))
  have hy1 : ¬ D0 y1 := fun h0 => hne (D0.lin1 (d*x1*x2*y2) h0 (by grind))
  have hy2 : ¬ D0 y2 := fun h0 => hne (D0.lin1 (d*x1*x2*y1) h0 (by grind))
  have hxy := D0.mul_ne hx1 hy1
  by_cases hu : D0 (i*x2 + y2)
  · by_cases hv : D0 (i*x2 - y2)
    · have h2y : D0 (2 * y2) := D0.lin2 1 (-1) hu hv (by grind)
      exact h2y.prime.elim D0_two hy2
    · exact no_ratio hns (D0.mul_ne hxy hv) (square_down hi h1 h2 he hk)
  · exact no_ratio hns (D0.mul_ne hxy hu) (square_up hi h1 h2 he hk)
end
theorem complete {x1 y1 x2 y2 e : Int} (h1 : D0 (y1^2 - x1^2 - 1 - dP*x1^2*y1^2)) (h2 : D0 (y2^2 - x2^2 - 1 - dP*x2^2*y2^2)) (he : e * e = 1) : ¬ D0 (dP*x1*x2*y1*y2 - e) :=
  complete_ i_sq nonsquare h1 h2 he
theorem complete_plus {x1 y1 x2 y2 : Int} (h1 : D0 (y1^2 - x1^2 - 1 - dP*x1^2*y1^2)) (h2 : D0 (y2^2 - x2^2 - 1 - dP*x2^2*y2^2)) : ¬ D0 (1 + dP*x1*x2*y1*y2) := fun h =>
  complete h1 h2 (e := -1) (by decide) (D0.lin1 1 h (by grind))
theorem complete_minus {x1 y1 x2 y2 : Int} (h1 : D0 (y1^2 - x1^2 - 1 - dP*x1^2*y1^2)) (h2 : D0 (y2^2 - x2^2 - 1 - dP*x2^2*y2^2)) : ¬ D0 (1 - dP*x1*x2*y1*y2) := fun h =>
  complete h1 h2 (e := 1) (by decide) (D0.lin1 (-1) h (by grind))
end Go.Proofs.YtggalphgnloneaaGreat
/- Points are a group. -/
namespace Go.Proofs.YtggalphgnloneaaGreat
theorem frac_D {n u : Nat} {N U : Int} (hn : D0 ((n : Int) - N)) (hu : D0 ((u : Int) - U)) (hU : ¬ D0 U) : D0 ((mulP n (invP u) : Int) * U - N) := by
  have hu0 : ¬ D0 (u : Int) := fun h => hU (D0.lin2 1 (-1) h hu (by omega))
  have h1 := mulP_D n (invP u)
  have h2 := invP_D hu0
  generalize ((mulP n (invP u) : Nat) : Int) = X at *
  generalize ((invP u : Nat) : Int) = v at *
  exact D0.lin4 U (-(n * v)) n 1 h1 hu h2 hn (by grind)
theorem same_D {a b u n : Int} (ha : D0 (a * u - n)) (hb : D0 (b * u - n)) (hu : ¬ D0 u) : D0 (a - b) :=
  D0.cancel (u := u) (D0.lin2 1 (-1) ha hb (by grind)) hu
theorem closed_D {x1 y1 x2 y2 d X Y : Int} (h1 : D0 (y1^2 - x1^2 - 1 - d*x1^2*y1^2)) (h2 : D0 (y2^2 - x2^2 - 1 - d*x2^2*y2^2))
    (hA : ¬ D0 (1 + d*x1*x2*y1*y2)) (hB : ¬ D0 (1 - d*x1*x2*y1*y2)) (hX : D0 (X*(1 + d*x1*x2*y1*y2) - (x1*y2 + x2*y1))) (hY : D0 (Y*(1 - d*x1*x2*y1*y2) - (y1*y2 + x1*x2))) :
    D0 (Y^2 - X^2 - 1 - d*X^2*Y^2) := by
  have h3 := D0.lin2 _ _ h1 h2 (closed_ x1 y1 x2 y2 d)
  generalize 1 + d*x1*x2*y1*y2 = A at *
  generalize 1 - d*x1*x2*y1*y2 = B at *
  generalize x1*y2 + x2*y1 = N at *
  generalize y1*y2 + x1*x2 = M at *
  have h4 : D0 ((Y*B*A)^2 - (X*A*B)^2 - (A*B)^2 - d*(X*A*(Y*B))^2) :=
    D0.lin3 1 ((A^2 - d*(X*A)^2)*(Y*B + M)) (-(B^2 + d*M^2)*(X*A + N)) h3 hY hX (by grind)
  exact D0.cancel (u := (A*B)*(A*B)) (D0.lin1 1 h4 (by grind)) (D0.mul_ne (D0.mul_ne hA hB) (D0.mul_ne hA hB))
theorem lift_D {a d w u v x y A B N M : Int} (hx : D0 (x*A - N)) (hy : D0 (y*B - M)) (ha : D0 (a*(1 + d*w*x*y) - (x*u + y*v))) : D0 (a*(A*B + d*w*N*M) - (N*B*u + M*A*v)) :=
  D0.lin3 (A*B) (B*u - a*d*w*(y*B)) (A*v - a*d*w*N) ha hx hy (by grind)
theorem lift_ne {d w x y A B N M : Int} (hx : D0 (x*A - N)) (hy : D0 (y*B - M)) (hA : ¬ D0 A) (hB : ¬ D0 B) (hS : ¬ D0 (1 + d*w*x*y)) : ¬ D0 (A*B + d*w*N*M) := fun h =>
  D0.mul_ne (D0.mul_ne hA hB) hS (D0.lin3 1 (d*w*(y*B)) (d*w*N) h hx hy (by grind))
theorem join_D {a b LD LN RD RN : Int} (ha : D0 (a*LD - LN)) (hb : D0 (b*RD - RN)) (h : D0 (LN*RD - RN*LD)) (hL : ¬ D0 LD) (hR : ¬ D0 RD) : D0 (a - b) :=
  D0.cancel (u := LD*RD) (D0.lin3 RD (-LD) 1 ha hb h (by grind)) (D0.mul_ne hL hR)
/-- A point. -/
structure Pt where
  x : Nat
  y : Nat
theorem Pt.same {P Q : Pt} (hx : P.x = Q.x) (hy : P.y = Q.y) : P = Q := by
  cases P; cases Q; cases hx; cases hy; rfl
/-- Is it on the curve? -/
structure onC (P : Pt) : Prop where
  x : P.x < pP
  y : P.y < pP
  e : D0 ((P.y : Int)^2 - (P.x : Int)^2 - 1 - dP*(P.x : Int)^2*(P.y : Int)^2)
def kP (P Q : Pt) : Nat := mulP dP (mulP (mulP P.x Q.x) (mulP P.y Q.y))
def padd (P Q : Pt) : Pt := ⟨mulP (addP (mulP P.x Q.y) (mulP Q.x P.y)) (invP (addP 1 (kP P Q))), mulP (addP (mulP P.y Q.y) (mulP P.x Q.x)) (invP (subP 1 (kP P Q)))⟩
theorem kP_D (P Q : Pt) : D0 ((kP P Q : Int) - dP*P.x*Q.x*P.y*Q.y) := by
  have h1 := mulP_D dP (mulP (mulP P.x Q.x) (mulP P.y Q.y))
  have h2 := mulP_D (mulP P.x Q.x) (mulP P.y Q.y)
  have h3 := mulP_D P.x Q.x
  have h4 := mulP_D P.y Q.y
  show D0 ((mulP dP (mulP (mulP P.x Q.x) (mulP P.y Q.y)) : Int) - _)
  generalize ((mulP dP (mulP (mulP P.x Q.x) (mulP P.y Q.y)) : Nat) : Int) = a at *
  generalize ((mulP (mulP P.x Q.x) (mulP P.y Q.y) : Nat) : Int) = b at *
  generalize ((mulP P.x Q.x : Nat) : Int) = c at *
  generalize ((mulP P.y Q.y : Nat) : Int) = e at *
  exact D0.lin4 1 dP (dP*e) (dP*(P.x*Q.x : Int)) h1 h2 h3 h4 (by grind)
theorem sum_D (a b c d : Nat) : D0 ((addP (mulP a b) (mulP c d) : Int) - (a*b + c*d)) := by
  have h1 := addP_D (mulP a b) (mulP c d)
  have h2 := mulP_D a b
  have h3 := mulP_D c d
  exact D0.lin3 1 1 1 h1 h2 h3 (by omega)
theorem one_plus_D (P Q : Pt) : D0 ((addP 1 (kP P Q) : Int) - (1 + dP*P.x*Q.x*P.y*Q.y)) :=
  D0.lin2 1 1 (addP_D 1 (kP P Q)) (kP_D P Q) (by omega)
theorem one_minus_D (P Q : Pt) : D0 ((subP 1 (kP P Q) : Int) - (1 - dP*P.x*Q.x*P.y*Q.y)) :=
  D0.lin2 1 (-1) (subP_D 1 (kP P Q)) (kP_D P Q) (by omega)
variable {P Q R : Pt}
theorem onC.plus (hP : onC P) (hQ : onC Q) : ¬ D0 (1 + dP*P.x*Q.x*P.y*Q.y : Int) := complete_plus hP.e hQ.e
theorem onC.minus (hP : onC P) (hQ : onC Q) : ¬ D0 (1 - dP*P.x*Q.x*P.y*Q.y : Int) := complete_minus hP.e hQ.e
theorem padd_x (hP : onC P) (hQ : onC Q) : D0 (((padd P Q).x : Int)*(1 + dP*P.x*Q.x*P.y*Q.y) - (P.x*Q.y + Q.x*P.y)) :=
  frac_D (sum_D _ _ _ _) (one_plus_D P Q) (hP.plus hQ)
theorem padd_y (hP : onC P) (hQ : onC Q) : D0 (((padd P Q).y : Int)*(1 - dP*P.x*Q.x*P.y*Q.y) - (P.y*Q.y + P.x*Q.x)) :=
  frac_D (sum_D _ _ _ _) (one_minus_D P Q) (hP.minus hQ)
theorem padd_on (hP : onC P) (hQ : onC Q) : onC (padd P Q) :=
  ⟨mulP_p _ _, mulP_p _ _, closed_D hP.e hQ.e (hP.plus hQ) (hP.minus hQ) (padd_x hP hQ) (padd_y hP hQ)⟩
/-- What a sum's numbers are told by. -/
theorem padd_is {S : Pt} (hP : onC P) (hQ : onC Q) (hx : S.x < pP) (hy : S.y < pP) (ex : D0 ((S.x : Int)*(1 + dP*P.x*Q.x*P.y*Q.y) - (P.x*Q.y + Q.x*P.y))) (ey : D0 ((S.y : Int)*(1 - dP*P.x*Q.x*P.y*Q.y) - (P.y*Q.y + P.x*Q.x))) : S = padd P Q :=
  Pt.same (D0.nat hx (padd_on hP hQ).x (same_D ex (padd_x hP hQ) (hP.plus hQ))) (D0.nat hy (padd_on hP hQ).y (same_D ey (padd_y hP hQ) (hP.minus hQ)))
theorem padd_turn (hP : onC P) (hQ : onC Q) : padd P Q = padd Q P :=
  padd_is hQ hP (padd_on hP hQ).x (padd_on hP hQ).y (D0.lin1 1 (padd_x hP hQ) (by grind)) (D0.lin1 1 (padd_y hP hQ) (by grind))
def pZ : Pt := ⟨0, 1⟩
theorem pZ_on : onC pZ := ⟨by decide, by decide, by
  show D0 (((1 : Nat) : Int)^2 - ((0 : Nat) : Int)^2 - 1 - dP*((0 : Nat) : Int)^2*((1 : Nat) : Int)^2)
  exact D0.lin1 0 D0.zero (by grind)⟩
theorem padd_zero (hP : onC P) : padd P pZ = P :=
  (padd_is hP pZ_on hP.x hP.y (by show D0 ((P.x : Int)*(1 + dP*P.x*((0 : Nat) : Int)*P.y*((1 : Nat) : Int)) - (P.x*((1 : Nat) : Int) + ((0 : Nat) : Int)*P.y)); exact D0.lin1 0 D0.zero (by grind)) (by show D0 ((P.y : Int)*(1 - dP*P.x*((0 : Nat) : Int)*P.y*((1 : Nat) : Int)) - (P.y*((1 : Nat) : Int) + P.x*((0 : Nat) : Int))); exact D0.lin1 0 D0.zero (by grind))).symm
def pneg (P : Pt) : Pt := ⟨negP P.x, P.y⟩
theorem pneg_on (hP : onC P) : onC (pneg P) := ⟨negP_p _, hP.y, by
  have h := negP_D P.x
  have e := hP.e
  show D0 ((P.y : Int)^2 - (negP P.x : Int)^2 - 1 - dP*(negP P.x : Int)^2*(P.y : Int)^2)
  generalize ((negP P.x : Nat) : Int) = z at *
  exact D0.lin2 1 ((P.x - z)*(1 + dP*(P.y : Int)^2)) e h (by grind)⟩
theorem padd_neg (hP : onC P) : padd P (pneg P) = pZ := by
  have h := negP_D P.x
  have e := hP.e
  refine (padd_is hP (pneg_on hP) pZ_on.x pZ_on.y ?_ ?_).symm
  · show D0 (((0 : Nat) : Int)*(1 + dP*P.x*(negP P.x : Int)*P.y*P.y) - (P.x*P.y + (negP P.x : Int)*P.y))
    generalize ((negP P.x : Nat) : Int) = z at *
    exact D0.lin1 (-(P.y : Int)) h (by grind)
  · show D0 (((1 : Nat) : Int)*(1 - dP*P.x*(negP P.x : Int)*P.y*P.y) - (P.y*P.y + P.x*(negP P.x : Int)))
    generalize ((negP P.x : Nat) : Int) = z at *
    exact D0.lin2 (-1) (-((P.x : Int) + dP*P.x*P.y^2)) e h (by grind)
theorem padd_assoc (hP : onC P) (hQ : onC Q) (hR : onC R) : padd (padd P Q) R = padd P (padd Q R) := by
  have oPQ := padd_on hP hQ
  have oQR := padd_on hQ hR
  have x12 := padd_x hP hQ
  have y12 := padd_y hP hQ
  have x23 := padd_x hQ hR
  have y23 := padd_y hQ hR
  have xl := padd_x oPQ hR
  have yl := padd_y oPQ hR
  have xr := padd_x hP oQR
  have yr := padd_y hP oQR
  have nA := hP.plus hQ
  have nB := hP.minus hQ
  have mA := hQ.plus hR
  have mB := hQ.minus hR
  have sx := oPQ.plus hR
  have sy := oPQ.minus hR
  have tx := hP.plus oQR
  have ty := hP.minus oQR
  have ol := padd_on oPQ hR
  have or_ := padd_on hP oQR
  have ix := D0.lin3 _ _ _ hP.e hQ.e hR.e (assoc_x P.x P.y Q.x Q.y R.x R.y dP)
  have iy := D0.lin3 _ _ _ hP.e hQ.e hR.e (assoc_y P.x P.y Q.x Q.y R.x R.y dP)
  refine Pt.same (D0.nat ol.x or_.x ?_) (D0.nat ol.y or_.y ?_)
  · have l := lift_D (a := (padd (padd P Q) R).x) (d := dP) (w := R.x*R.y) (u := R.y) (v := R.x) x12 y12 (D0.lin1 1 xl (by grind))
    have r := lift_D (a := (padd P (padd Q R)).x) (d := dP) (w := P.x*P.y) (u := P.y) (v := P.x) x23 y23 (D0.lin1 1 xr (by grind))
    have ln := lift_ne (d := dP) (w := R.x*R.y) x12 y12 nA nB (fun h => sx (D0.lin1 1 h (by grind)))
    have rn := lift_ne (d := dP) (w := P.x*P.y) x23 y23 mA mB (fun h => tx (D0.lin1 1 h (by grind)))
    exact join_D l r (D0.lin1 1 ix (by grind)) ln rn
  · have l := lift_D (a := (padd (padd P Q) R).y) (d := -dP) (w := R.x*R.y) (u := R.x) (v := R.y) x12 y12 (D0.lin1 1 yl (by grind))
    have r := lift_D (a := (padd P (padd Q R)).y) (d := -dP) (w := P.x*P.y) (u := P.x) (v := P.y) x23 y23 (D0.lin1 1 yr (by grind))
    have ln := lift_ne (d := -dP) (w := R.x*R.y) x12 y12 nA nB (fun h => sy (D0.lin1 1 h (by grind)))
    have rn := lift_ne (d := -dP) (w := P.x*P.y) x23 y23 mA mB (fun h => ty (D0.lin1 1 h (by grind)))
    exact join_D l r (D0.lin1 1 iy (by grind)) ln rn
end Go.Proofs.YtggalphgnloneaaGreat
