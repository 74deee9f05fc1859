/- The two ways to a root agree. -/
import Derived.Test.YtjggclhhimccoaaGr
namespace Go.Proofs.Ytjggclhhimccoaa
open Go.RowKit
/-- (p + 3) / 8. -/
def E3 : Nat := 7237005577332262213973186563042994240829374041602535252466099000494570602494
/-- The document's first try. -/
def tryV (u v : Nat) : Nat := powP (mulP u (invP v)) E3
theorem e3_four : E3 + E3 + (E3 + E3) = H2 + 2 := by decide
theorem mul_invP {v : Nat} (h : ¬ v % pP = 0) : v * invP v % pP = 1 := by
  unfold invP
  rw [Nat.mul_mod_mod, Nat.mul_comm, ← Nat.pow_succ, show (pP - 2).succ = pP - 1 by decide]
  exact fermatP v h
theorem tryV_lt (u v : Nat) : tryV u v < pP := Nat.mod_lt _ (by decide)
/-- v divides out. -/
theorem div_invP {v z : Nat} (h : ¬ v % pP = 0) : (v * z % pP) * invP v % pP = z % pP := by
  rw [Nat.mod_mul_mod, Nat.mul_comm v z, Nat.mul_assoc, Nat.mul_mod, mul_invP h, Nat.mul_one, Nat.mod_mod]
theorem try_sq {U v z : Nat} (hv : ¬ v % pP = 0) (h : U = v * (z * z) % pP) : tsV v (tryV U v) = U * (z ^ H2 % pP) % pP := by
  have e1 : mulP U (invP v) = z * z % pP := by rw [h]; exact div_invP hv
  have e2 : tryV U v * tryV U v % pP = z * z * z ^ H2 % pP := by
    unfold tryV powP
    rw [e1, ← Nat.pow_mod, ← Nat.mul_mod, ← Nat.pow_add, ← Nat.pow_two, ← Nat.pow_mul, ← Nat.pow_add, show 2 * (E3 + E3) = 2 + H2 by decide]
  unfold tsV
  rw [e2, h, Nat.mul_mod_mod, ← Nat.mul_mod, Nat.mul_assoc v]
theorem try_found {U v z : Nat} (hU : U < pP) (hv : ¬ v % pP = 0) (h : U = v * (z * z) % pP) : tsV v (tryV U v) = U ∨ tsV v (tryV U v * iR % pP) = U := by
  rw [ts_turn, try_sq hv h]
  by_cases hz : z % pP = 0
  · left
    have h0 : U = 0 := by rw [h, Nat.mul_mod, Nat.mul_mod z, hz, Nat.zero_mul, Nat.zero_mod, Nat.mul_zero, Nat.zero_mod]
    rw [h0, Nat.zero_mul, Nat.zero_mod]
  · rcases half_one hz with h1 | h1
    · left; rw [h1, Nat.mul_one, Nat.mod_eq_of_lt hU]
    · right
      rw [h1, Nat.mod_mul_mod, Nat.mul_assoc, Nat.mul_mod, show (pP - 1) * (pP - 1) % pP = 1 by decide, Nat.mul_one, Nat.mod_mod, Nat.mod_eq_of_lt hU]
theorem even_root {v x y U : Nat} (hv : ¬ v % pP = 0) (hx : tsV v x = U) (hxl : x < pP) (hxo : oddB (x % pP) = false) (hy : tsV v y = U) (hyl : y < pP) (hyo : oddB (y % pP) = false) : x = y := by
  have h : x * x % pP = y * y % pP := by
    have h1 := div_invP (z := x * x % pP) hv
    have h2 := div_invP (z := y * y % pP) hv
    have h3 : v * (x * x % pP) % pP = v * (y * y % pP) % pP := hx.trans hy.symm
    rw [h3, h2, Nat.mod_mod, Nat.mod_mod] at h1
    exact h1.symm
  unfold oddB at hxo hyo
  rw [decide_eq_false_iff_not] at hxo hyo
  rcases sq_eq h with h1 | h1
  · rwa [Nat.mod_eq_of_lt hxl, Nat.mod_eq_of_lt hyl] at h1
  · rw [Nat.mod_eq_of_lt hxl, Nat.mod_eq_of_lt hyl] at h1
    rw [Nat.mod_eq_of_lt hxl] at hxo
    rw [Nat.mod_eq_of_lt hyl] at hyo
    by_cases hy0 : y = 0
    · subst hy0; rw [h1]; decide
    · rw [Nat.mod_eq_of_lt (show pP - y < pP by omega)] at h1
      unfold pP at *; omega
theorem root_same (u v : Nat) : rootW (u % pP) v (tryV (u % pP) v) = rootV u v := by
  have hU := Nat.mod_lt u (show 0 < pP by decide)
  by_cases hv : v % pP = 0
  · have e1 : tryV (u % pP) v = 0 := by
      have : invP v = 0 := by
        unfold invP; rw [Nat.pow_mod, hv, Nat.zero_pow (by decide), Nat.zero_mod]
      unfold tryV powP mulP
      rw [this, Nat.mul_zero, Nat.zero_mod, Nat.zero_pow (by decide), Nat.zero_mod]
    have e2 : nearV (u % pP) v = 0 := by
      have : cuV v = 0 := by
        unfold cuV; rw [Nat.mul_mod, hv, Nat.mul_zero, Nat.zero_mod]
      unfold nearV
      rw [this, Nat.mul_zero, Nat.zero_mod, Nat.zero_mul, Nat.zero_mod]
    unfold rootV
    rw [e1, e2]
  · cases hb : (rootV u v).2 with
    | true =>
      obtain ⟨x, hx⟩ : ∃ x, rootV u v = (x, true) := ⟨(rootV u v).1, by
        generalize rootV u v = p at hb ⊢
        obtain ⟨a, b⟩ := p
        subst hb
        rfl⟩
      obtain ⟨t1, t2, t3⟩ := rootV_ok hx
      have hf := rootW_found (try_found (z := x) hU hv (by rw [← t1]; exact Nat.mul_mod_mod _ _ _))
      obtain ⟨y, hy⟩ : ∃ y, rootW (u % pP) v (tryV (u % pP) v) = (y, true) := ⟨(rootW (u % pP) v (tryV (u % pP) v)).1, by
        generalize rootW (u % pP) v (tryV (u % pP) v) = p at hf ⊢
        obtain ⟨a, b⟩ := p
        subst hf
        rfl⟩
      obtain ⟨s1, s2, s3⟩ := rootW_ok (tryV_lt _ _) hy
      rw [hx, hy, even_root hv t1 t2 t3 s1 s2 s3]
    | false =>
      rw [rootV_no hb]
      cases hf : (rootW (u % pP) v (tryV (u % pP) v)).2 with
      | false => exact rootW_no hf
      | true =>
        obtain ⟨y, hy⟩ : ∃ y, rootW (u % pP) v (tryV (u % pP) v) = (y, true) := ⟨(rootW (u % pP) v (tryV (u % pP) v)).1, by
          generalize rootW (u % pP) v (tryV (u % pP) v) = p at hf ⊢
          obtain ⟨a, b⟩ := p
          subst hf
          rfl⟩
        obtain ⟨s1, _, _⟩ := rootW_ok (tryV_lt _ _) hy
        have := rootV_found (u := u) (v := v) (z := y) (by rw [← s1]; exact Nat.mul_mod_mod _ _ _)
        rw [this] at hb
        cases hb
end Go.Proofs.Ytjggclhhimccoaa
