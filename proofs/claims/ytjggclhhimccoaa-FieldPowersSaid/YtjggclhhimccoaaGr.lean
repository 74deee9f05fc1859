/- Square roots modulo p. -/
import Derived.Test.YtjggclhhimccoaaFieldInverts
import Derived.Test.YtjggclhhimccoaaGq
namespace Go.Proofs.Ytjggclhhimccoaa
open Go.RowKit
theorem prime_pP : IsPrime pP := lucasP.1
theorem prod_zero {a b : Nat} (h : a * b % pP = 0) : a % pP = 0 ∨ b % pP = 0 := by
  rcases prime_pP.euclid (Nat.dvd_of_mod_eq_zero h) with h | h
  · exact .inl (Nat.mod_eq_zero_of_dvd h)
  · exact .inr (Nat.mod_eq_zero_of_dvd h)
theorem mod_cancel {a c : Nat} (h : (a + c) % pP = c % pP) : a % pP = 0 := by
  have := Nat.sub_mod_eq_zero_of_mod_eq h
  rwa [Nat.add_sub_cancel] at this
theorem sq_eq {x y : Nat} (h : x * x % pP = y * y % pP) : x % pP = y % pP ∨ x % pP = (pP - y % pP) % pP := by
  have hy := Nat.mod_lt y (show 0 < pP by decide)
  have h' : x * x % pP = (y % pP) * (y % pP) % pP := by rw [h, Nat.mul_mod]
  generalize y % pP = z at *
  have e : (x + (pP - z)) * (x + z) + z * z = x * x + pP * (x + z) := by
    obtain ⟨d, hd⟩ : ∃ d, pP = z + d := ⟨pP - z, by omega⟩
    rw [hd, Nat.add_sub_cancel_left]
    simp only [Nat.mul_add, Nat.mul_comm]
    omega
  have h2 : ((x + (pP - z)) * (x + z) + z * z) % pP = z * z % pP := by
    rw [e, Nat.add_mul_mod_self_left, h']
  rcases prod_zero (mod_cancel h2) with h3 | h3
  · left; unfold pP at *; omega
  · right
    by_cases hz : z = 0
    · subst hz; rw [Nat.add_zero] at h3; rw [h3]; decide
    · rw [Nat.mod_eq_of_lt (show pP - z < pP by omega)]; unfold pP at *; omega
theorem neg_sq (y : Nat) : (pP - y % pP) % pP * ((pP - y % pP) % pP) % pP = y * y % pP := by
  have hy := Nat.mod_lt y (show 0 < pP by decide)
  rw [Nat.mul_mod y y]
  generalize y % pP = z at *
  rw [Nat.mod_mul_mod, Nat.mul_mod_mod]
  obtain ⟨d, hd⟩ : ∃ d, pP = z + d := ⟨pP - z, by omega⟩
  have e : pP - z = d := by omega
  rw [e]
  have h : d * d + pP * z = z * z + pP * d := by
    rw [hd, Nat.add_mul, Nat.add_mul, Nat.mul_comm d z]; omega
  have h1 : (d * d + pP * z) % pP = (z * z + pP * d) % pP := by rw [h]
  rwa [Nat.add_mul_mod_self_left, Nat.add_mul_mod_self_left] at h1
def H2 : Nat := (pP - 1) / 2
theorem half_one {t : Nat} (h : ¬ t % pP = 0) : t ^ H2 % pP = 1 ∨ t ^ H2 % pP = pP - 1 := by
  have h1 : t ^ H2 * t ^ H2 % pP = 1 * 1 % pP := by
    rw [← Nat.pow_add, show H2 + H2 = pP - 1 by decide]
    exact fermatP t h
  rcases sq_eq h1 with h2 | h2
  · left; rw [h2]; decide
  · right; rw [h2]; decide
theorem e8_twice : 2 * E8 + 1 = (pP - 1) / 4 := by decide
/-- What Root's first try, squared, and times v, is. -/
theorem near_ts (u v : Nat) : tsV v (nearV u v) = u * (u * v ^ 7) ^ (2 * E8 + 1) % pP := by
  have e1 : cuV v = v ^ 3 % pP := by
    unfold cuV sqV; rw [Nat.mod_mul_mod]; congr 1
    simp only [Nat.pow_succ, Nat.pow_zero, Nat.one_mul]
  have e2 : seV v = v ^ 7 % pP := by
    unfold seV; rw [e1]; unfold sqV
    rw [Nat.mul_mod_mod, Nat.mod_mul_mod, Nat.mul_mod (v * v % pP * (v * v % pP)) (v ^ 3), ← Nat.mul_mod (v * v) (v * v), ← Nat.mul_mod]; congr 1
    simp only [Nat.pow_succ, Nat.pow_zero, Nat.one_mul, Nat.mul_assoc]
  have e3 : pwV u v = (u * v ^ 7) ^ E8 % pP := by
    unfold pwV; rw [e2, Nat.mul_mod_mod, ← Nat.pow_mod]
  have e4 : nearV u v = u * v ^ 3 * (u * v ^ 7) ^ E8 % pP := by
    unfold nearV; rw [e1, e3, Nat.mul_mod_mod u, ← Nat.mul_mod]
  unfold tsV
  rw [e4, ← Nat.mul_mod, Nat.mul_mod_mod]
  congr 1
  have hp : (u * v ^ 7) ^ (2 * E8 + 1) = (u * v ^ 7) ^ E8 * (u * v ^ 7) ^ E8 * (u * v ^ 7) := by
    rw [Nat.pow_succ, Nat.two_mul, Nat.pow_add]
  rw [hp]
  generalize (u * v ^ 7) ^ E8 = q
  have h7 : v ^ 7 = v * (v ^ 3 * v ^ 3) := by
    rw [← Nat.pow_add, Nat.mul_comm, ← Nat.pow_succ]
  rw [h7]
  generalize v ^ 3 = c
  simp only [Nat.mul_comm, Nat.mul_left_comm]
theorem iR_sq : iR * iR % pP = pP - 1 := by decide
/-- With the root of -1 the square turns. -/
theorem ts_turn (v x : Nat) : tsV v (x * iR % pP) = tsV v x * (pP - 1) % pP := by
  unfold tsV
  rw [← Nat.mul_mod, Nat.mul_mod_mod, Nat.mul_mod_mod, Nat.mod_mul_mod, ← iR_sq, Nat.mul_mod_mod]
  congr 1
  simp only [Nat.mul_comm, Nat.mul_left_comm]
theorem ts_neg (v y : Nat) : tsV v ((pP - y % pP) % pP) = tsV v y := by
  unfold tsV; rw [neg_sq]
theorem ts_lt (v x : Nat) : tsV v x < pP := Nat.mod_lt _ (by decide)
/-- If u is v times a square, one of the two tries is a root. -/
theorem near_found {u v z : Nat} (h : u % pP = v * (z * z) % pP) : tsV v (nearV (u % pP) v) = u % pP ∨ tsV v (nearV (u % pP) v * iR % pP) = u % pP := by
  rw [ts_turn, near_ts]
  have hu := Nat.mod_lt u (show 0 < pP by decide)
  generalize hU : u % pP = U at *
  have e0 : U * v ^ 7 % pP = (v ^ 4 * z) * (v ^ 4 * z) % pP := by
    rw [h, Nat.mod_mul_mod]; congr 1
    rw [show v ^ 7 = v ^ 4 * (v * v * v) by simp only [Nat.pow_succ, Nat.pow_zero, Nat.one_mul, Nat.mul_assoc], show v ^ 4 = v * (v * v * v) by simp only [Nat.pow_succ, Nat.pow_zero, Nat.one_mul, Nat.mul_assoc]]
    generalize v * v * v = c
    simp only [Nat.mul_comm, Nat.mul_left_comm]
  have e1 : (U * v ^ 7) ^ (2 * E8 + 1) % pP = (v ^ 4 * z) ^ H2 % pP := by
    rw [Nat.pow_mod, e0, ← Nat.pow_mod, ← Nat.pow_two, ← Nat.pow_mul, show 2 * (2 * E8 + 1) = H2 by decide]
  have e2 : U * (U * v ^ 7) ^ (2 * E8 + 1) % pP = U * ((v ^ 4 * z) ^ H2 % pP) % pP := by
    rw [Nat.mul_mod, e1, ← Nat.mul_mod_mod U, Nat.mod_mod, Nat.mod_mul_mod]
  rw [e2]
  by_cases ht : v ^ 4 * z % pP = 0
  · left
    have hU0 : U = 0 := by
      have hv : v * (z * z) % pP = 0 := by
        rcases prod_zero ht with h4 | hz
        · have hv0 : v % pP = 0 := by
            rcases prod_zero (a := v ^ 2) (b := v ^ 2) (by rw [← Nat.pow_add]; exact h4) with h5 | h5 <;>
              (rw [Nat.pow_two] at h5; rcases prod_zero h5 with h6 | h6 <;> exact h6)
          rw [Nat.mul_mod, hv0, Nat.zero_mul, Nat.zero_mod]
        · rw [Nat.mul_mod, Nat.mul_mod z, hz, Nat.zero_mul, Nat.zero_mod, Nat.mul_zero, Nat.zero_mod]
      omega
    rw [hU0, Nat.zero_mul, Nat.zero_mod]
  · rcases half_one ht with h1 | h1
    · left; rw [h1, Nat.mul_one, Nat.mod_eq_of_lt hu]
    · right
      rw [h1, Nat.mod_mul_mod, Nat.mul_assoc]
      rw [Nat.mul_mod, show (pP - 1) * (pP - 1) % pP = 1 by decide, Nat.mul_one, Nat.mod_mod, Nat.mod_eq_of_lt hu]
theorem near_lt (u v : Nat) : nearV u v < pP := Nat.mod_lt _ (by decide)
theorem rootW_fst {u v y x : Nat} (hy : y < pP) (c : tsV v y = u) (h : x = if oddB (y % pP) then (pP - y % pP) % pP else y) : tsV v x = u ∧ x < pP ∧ oddB (x % pP) = false := by
  cases ho : oddB (y % pP) with
  | true =>
    rw [ho, if_pos rfl] at h
    subst h
    refine ⟨by rw [ts_neg]; exact c, Nat.mod_lt _ (by decide), ?_⟩
    unfold oddB at ho ⊢
    rw [Nat.mod_eq_of_lt hy] at ho ⊢
    rw [decide_eq_true_eq] at ho
    rw [Nat.mod_mod, Nat.mod_eq_of_lt (show pP - y < pP by omega), decide_eq_false_iff_not]
    unfold pP at *; omega
  | false =>
    rw [ho, if_neg (by decide)] at h
    subst h
    exact ⟨c, hy, ho⟩
/-- What Root finds is a root, below p, and even. -/
theorem rootW_ok {u v x0 x : Nat} (h0 : x0 < pP) (h : rootW u v x0 = (x, true)) : tsV v x = u ∧ x < pP ∧ oddB (x % pP) = false := by
  by_cases c1 : tsV v x0 = u
  · cases ho : oddB (x0 % pP) with
    | true => rw [rootW_a c1 ho] at h; exact rootW_fst h0 c1 (by rw [ho, if_pos rfl]; exact (congrArg Prod.fst h).symm)
    | false => rw [rootW_b c1 ho] at h; exact rootW_fst h0 c1 (by rw [ho, if_neg (by decide)]; exact (congrArg Prod.fst h).symm)
  · obtain ⟨y, hy⟩ : ∃ y, x0 * iR % pP = y := ⟨_, rfl⟩
    have hyl : y < pP := by rw [← hy]; exact Nat.mod_lt _ (by decide)
    by_cases c2 : tsV v y = u
    · cases ho : oddB (y % pP) with
      | true => rw [rootW_c hy c1 c2 ho] at h; exact rootW_fst hyl c2 (by rw [ho, if_pos rfl]; exact (congrArg Prod.fst h).symm)
      | false => rw [rootW_d hy c1 c2 ho] at h; exact rootW_fst hyl c2 (by rw [ho, if_neg (by decide)]; exact (congrArg Prod.fst h).symm)
    · rw [rootW_e hy c1 c2] at h
      have := congrArg Prod.snd h
      cases this
theorem rootW_no {u v x0 : Nat} (h : (rootW u v x0).2 = false) : rootW u v x0 = (0, false) := by
  by_cases c1 : tsV v x0 = u
  · cases ho : oddB (x0 % pP) with
    | true => rw [rootW_a c1 ho] at h; cases h
    | false => rw [rootW_b c1 ho] at h; cases h
  · obtain ⟨y, hy⟩ : ∃ y, x0 * iR % pP = y := ⟨_, rfl⟩
    by_cases c2 : tsV v y = u
    · cases ho : oddB (y % pP) with
      | true => rw [rootW_c hy c1 c2 ho] at h; cases h
      | false => rw [rootW_d hy c1 c2 ho] at h; cases h
    · exact rootW_e hy c1 c2
theorem rootW_found {u v x0 : Nat} (h : tsV v x0 = u ∨ tsV v (x0 * iR % pP) = u) : (rootW u v x0).2 = true := by
  cases hb : (rootW u v x0).2 with
  | true => rfl
  | false =>
    exfalso
    by_cases c1 : tsV v x0 = u
    · cases ho : oddB (x0 % pP) with
      | true => rw [rootW_a c1 ho] at hb; cases hb
      | false => rw [rootW_b c1 ho] at hb; cases hb
    · have c2 := h.resolve_left c1
      cases ho : oddB (x0 * iR % pP % pP) with
      | true => rw [rootW_c rfl c1 c2 ho] at hb; cases hb
      | false => rw [rootW_d rfl c1 c2 ho] at hb; cases hb
theorem rootV_ok {u v x : Nat} (h : rootV u v = (x, true)) : tsV v x = u % pP ∧ x < pP ∧ oddB (x % pP) = false := rootW_ok (near_lt _ _) h
theorem rootV_no {u v : Nat} (h : (rootV u v).2 = false) : rootV u v = (0, false) := rootW_no h
theorem rootV_found {u v z : Nat} (h : u % pP = v * (z * z) % pP) : (rootV u v).2 = true := rootW_found (near_found h)
end Go.Proofs.Ytjggclhhimccoaa
