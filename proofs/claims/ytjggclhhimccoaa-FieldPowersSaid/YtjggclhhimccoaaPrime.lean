/- Primes by certificates (Lucas): a generator's order tells that n is prime, and that all that is not 0 is a power of it. -/
import Derived.Test.YtjggclhhimccoaaRows
namespace Go.Proofs.Ytjggclhhimccoaa
def IsPrime (p : Nat) : Prop := 2 ≤ p ∧ ∀ d, d ∣ p → d = 1 ∨ d = p
theorem IsPrime.euclid {q a b : Nat} (h : IsPrime q) (hd : q ∣ a * b) : q ∣ a ∨ q ∣ b := by
  by_cases ha : q ∣ a
  · exact .inl ha
  · refine .inr ?_
    have hg : Nat.gcd q a = 1 := by
      rcases h.2 _ (Nat.gcd_dvd_left q a) with h1 | h1
      · exact h1
      · exact absurd (h1 ▸ Nat.gcd_dvd_right q a) ha
    exact Nat.Coprime.dvd_of_dvd_mul_left hg hd
theorem IsPrime.of_pow {q a : Nat} (h : IsPrime q) : ∀ e, q ∣ a ^ e → q ∣ a
  | 0, hd => by
    have := Nat.le_of_dvd (by simp) hd
    have := h.1
    simp at *; omega
  | e + 1, hd => by
    rw [Nat.pow_succ] at hd
    rcases h.euclid hd with h1 | h1
    · exact h.of_pow e h1
    · exact h1
theorem IsPrime.eq_of_dvd {q r : Nat} (h : IsPrime q) (hr : IsPrime r) (hd : q ∣ r) : q = r := by
  rcases hr.2 q hd with h1 | h1
  · have := h.1; omega
  · exact h1
/-- Each number above 1 has a prime that divides it. -/
theorem exists_prime : ∀ m, 2 ≤ m → ∃ q, IsPrime q ∧ q ∣ m := by
  intro m
  induction m using Nat.strongRecOn with
  | ind m ih =>
    intro hm
    by_cases h : ∃ d, d ∣ m ∧ d ≠ 1 ∧ d ≠ m
    · obtain ⟨d, hd, h1, h2⟩ := h
      have hle := Nat.le_of_dvd (by omega) hd
      have h0 : d ≠ 0 := fun e => by subst e; have := Nat.eq_zero_of_zero_dvd hd; omega
      obtain ⟨q, hq, hqd⟩ := ih d (by omega) (by omega)
      exact ⟨q, hq, Nat.dvd_trans hqd hd⟩
    · refine ⟨m, ⟨hm, fun d hd => ?_⟩, Nat.dvd_refl m⟩
      by_cases h1 : d = 1
      · exact .inl h1
      · by_cases h2 : d = m
        · exact .inr h2
        · exact absurd ⟨d, hd, h1, h2⟩ h
def prodPow : List (Nat × Nat) → Nat
  | [] => 1
  | (q, e) :: l => q ^ e * prodPow l
theorem mem_of_dvd {r : Nat} (hr : IsPrime r) : ∀ l : List (Nat × Nat), (∀ x ∈ l, IsPrime x.1) → r ∣ prodPow l → ∃ x ∈ l, x.1 = r
  | [], _, hd => by
    have := Nat.le_of_dvd (by decide) hd
    have := hr.1
    simp [prodPow] at *; omega
  | (q, e) :: l, h, hd => by
    rcases hr.euclid hd with h1 | h1
    · exact ⟨(q, e), by simp, (hr.eq_of_dvd (h (q, e) (by simp)) (hr.of_pow e h1)).symm⟩
    · obtain ⟨x, hx, hxr⟩ := mem_of_dvd hr l (fun x hx => h x (by simp [hx])) h1
      exact ⟨x, by simp [hx], hxr⟩
/-- An injection of the numbers below n into themselves reaches all. -/
theorem onto_of_inj : ∀ (n : Nat) (f : Nat → Nat), (∀ i, i < n → f i < n) → (∀ i j, i < n → j < n → f i = f j → i = j) → ∀ y, y < n → ∃ i, i < n ∧ f i = y := by
  intro n
  induction n with
  | zero => intro f _ _ y hy; omega
  | succ n ih =>
    intro f hf hi y hy
    have hn := hf n (by omega)
    let g : Nat → Nat := fun i => if f i = n then f n else f i
    have hg : ∀ i, i < n → g i < n := fun i h => by
      show (if f i = n then f n else f i) < n
      by_cases h1 : f i = n
      · rw [if_pos h1]
        have : f n ≠ n := fun e => by have := hi i n (by omega) (by omega) (by rw [h1, e]); omega
        omega
      · rw [if_neg h1]; have := hf i (by omega); omega
    have hgi : ∀ i j, i < n → j < n → g i = g j → i = j := fun i j h1 h2 e => by
      have e' : (if f i = n then f n else f i) = (if f j = n then f n else f j) := e
      by_cases c1 : f i = n
      · by_cases c2 : f j = n
        · exact hi i j (by omega) (by omega) (by rw [c1, c2])
        · rw [if_pos c1, if_neg c2] at e'
          have := hi n j (by omega) (by omega) e'; omega
      · by_cases c2 : f j = n
        · rw [if_neg c1, if_pos c2] at e'
          have := hi i n (by omega) (by omega) e'; omega
        · rw [if_neg c1, if_neg c2] at e'
          exact hi i j (by omega) (by omega) e'
    by_cases hyn : y = n
    · subst hyn
      by_cases h1 : f y = y
      · exact ⟨y, by omega, h1⟩
      · obtain ⟨i, hin, hgi'⟩ := ih g hg hgi (f y) (by omega)
        have e' : (if f i = y then f y else f i) = f y := hgi'
        by_cases c : f i = y
        · exact ⟨i, by omega, c⟩
        · rw [if_neg c] at e'
          have := hi i y (by omega) (by omega) e'; omega
    · obtain ⟨i, hin, hgi'⟩ := ih g hg hgi y (by omega)
      have e' : (if f i = n then f n else f i) = y := hgi'
      by_cases c : f i = n
      · rw [if_pos c] at e'; exact ⟨n, by omega, e'⟩
      · rw [if_neg c] at e'; exact ⟨i, by omega, e'⟩
theorem mod_mul_one {n a b : Nat} (ha : a % n = 1) (_hn : 2 ≤ n) : (a * b) % n = b % n := by
  rw [Nat.mul_mod, ha, Nat.one_mul, Nat.mod_mod]
theorem pow_one_mul {n g d : Nat} (hn : 2 ≤ n) (h : g ^ d % n = 1) : ∀ k, g ^ (d * k) % n = 1
  | 0 => by rw [Nat.mul_zero, Nat.pow_zero]; exact Nat.mod_eq_of_lt (by omega)
  | k + 1 => by rw [Nat.mul_succ, Nat.pow_add, Nat.mul_comm, mod_mul_one h hn]; exact pow_one_mul hn h k
/-- g has the order d: so of what is 1 the exponent is a multiple of d. -/
theorem dvd_of_one {n g d : Nat} (hn : 2 ≤ n) (h0 : 0 < d) (h : g ^ d % n = 1) (hmin : ∀ k, 0 < k → k < d → g ^ k % n ≠ 1) (k : Nat) (hk : g ^ k % n = 1) : d ∣ k := by
  have e : g ^ k = g ^ (d * (k / d)) * g ^ (k % d) := by rw [← Nat.pow_add, Nat.div_add_mod]
  rw [e, mod_mul_one (pow_one_mul hn h _) hn] at hk
  by_cases c : k % d = 0
  · exact Nat.dvd_of_mod_eq_zero c
  · exact absurd hk (hmin _ (by omega) (Nat.mod_lt _ h0))
theorem exists_order {n g m : Nat} (h0 : 0 < m) (h : g ^ m % n = 1) : ∃ d, 0 < d ∧ d ≤ m ∧ g ^ d % n = 1 ∧ ∀ k, 0 < k → k < d → g ^ k % n ≠ 1 := by
  induction m using Nat.strongRecOn with
  | ind m ih =>
    by_cases c : ∃ k, 0 < k ∧ k < m ∧ g ^ k % n = 1
    · obtain ⟨k, hk, hkm, hk1⟩ := c
      obtain ⟨d, h1, h2, h3, h4⟩ := ih k hkm hk hk1
      exact ⟨d, h1, by omega, h3, h4⟩
    · exact ⟨m, h0, Nat.le_refl m, h, fun k hk hkm e => c ⟨k, hk, hkm, e⟩⟩
theorem order_full {n g : Nat} (hn : 2 ≤ n) (l : List (Nat × Nat)) (hl : prodPow l = n - 1) (hp : ∀ x ∈ l, IsPrime x.1) (h1 : g ^ (n - 1) % n = 1)
    (h2 : ∀ x ∈ l, g ^ ((n - 1) / x.1) % n ≠ 1) : ∀ k, 0 < k → k < n - 1 → g ^ k % n ≠ 1 := by
  by_cases hn2 : n - 1 = 0
  · intro k _ _; omega
  obtain ⟨d, hd0, hdm, hd1, hmin⟩ := exists_order (by omega) h1
  have hdd := dvd_of_one hn hd0 hd1 hmin _ h1
  obtain ⟨m, hm⟩ := hdd
  by_cases c : m = 1
  · subst c
    rw [Nat.mul_one] at hm
    rw [hm]; exact hmin
  · exfalso
    have hm0 : m ≠ 0 := fun e => by subst e; omega
    obtain ⟨q, hq, hqm⟩ := exists_prime m (by omega)
    obtain ⟨t, ht⟩ := hqm
    have hqn : q ∣ prodPow l := by rw [hl, hm, ht]; exact ⟨d * t, by rw [Nat.mul_left_comm]⟩
    obtain ⟨x, hx, hxq⟩ := mem_of_dvd hq l hp hqn
    have hdiv : (n - 1) / x.1 = d * t := by
      rw [hxq, hm, ht, show d * (q * t) = d * t * q by rw [Nat.mul_comm q t, Nat.mul_assoc]]
      exact Nat.mul_div_cancel _ (by have := hq.1; omega)
    exact h2 x hx (by rw [hdiv]; exact pow_one_mul hn hd1 t)
/-- All that is not 0 is a power of g. -/
theorem all_powers {n g : Nat} (hn : 2 ≤ n) (h1 : g ^ (n - 1) % n = 1) (hmin : ∀ k, 0 < k → k < n - 1 → g ^ k % n ≠ 1) (a : Nat) (ha : a % n ≠ 0) : ∃ k, k < n - 1 ∧ a % n = g ^ k % n := by
  have hpos : ∀ k, g ^ k % n ≠ 0 := fun k e => by
    have e1 : g ^ ((n - 1) * k) % n = 1 := pow_one_mul hn h1 k
    have e2 : (n - 1) * k = k + (n - 2) * k := by rw [show n - 1 = 1 + (n - 2) by omega, Nat.add_mul, Nat.one_mul]
    rw [e2, Nat.pow_add, Nat.mul_mod, e, Nat.zero_mul, Nat.zero_mod] at e1
    cases e1
  have hlt : ∀ k, g ^ k % n < n := fun k => Nat.mod_lt _ (by omega)
  have key := onto_of_inj (n - 1) (fun k => g ^ k % n - 1) (fun i _ => by have := hpos i; have := hlt i; show g ^ i % n - 1 < n - 1; omega)
    (fun i j hi hj e => by
      have e' : g ^ i % n - 1 = g ^ j % n - 1 := e
      have e2 : g ^ i % n = g ^ j % n := by have := hpos i; have := hpos j; omega
      have main : ∀ i j, i ≤ j → j < n - 1 → g ^ i % n = g ^ j % n → i = j := fun i j hij hj e2 => by
        by_cases c : i = j
        · exact c
        · exfalso
          have e3 : g ^ (j - i) % n = 1 := by
            have e4 : (g ^ j * g ^ (n - 1 - i)) % n = 1 := by
              rw [Nat.mul_mod, ← e2, ← Nat.mul_mod, ← Nat.pow_add, show i + (n - 1 - i) = n - 1 by omega]; exact h1
            rw [← Nat.pow_add, show j + (n - 1 - i) = (n - 1) + (j - i) by omega, Nat.pow_add, mod_mul_one h1 hn] at e4
            exact e4
          exact hmin (j - i) (by omega) (by omega) e3
      rcases Nat.le_total i j with h | h
      · exact main i j h hj e2
      · exact (main j i h hi e2.symm).symm)
    (a % n - 1) (by have := Nat.mod_lt a (show 0 < n by omega); omega)
  obtain ⟨k, hk, hka⟩ := key
  have hka' : g ^ k % n - 1 = a % n - 1 := hka
  exact ⟨k, hk, by have := hpos k; omega⟩
theorem prime_of_powers {n g : Nat} (hn : 2 ≤ n) (h1 : g ^ (n - 1) % n = 1) (hall : ∀ a, a % n ≠ 0 → ∃ k, k < n - 1 ∧ a % n = g ^ k % n) : IsPrime n := by
  refine ⟨hn, fun d hd => ?_⟩
  by_cases c : d = n
  · exact .inr c
  · refine .inl ?_
    have hle := Nat.le_of_dvd (by omega) hd
    have hd0 : d ≠ 0 := fun e => by subst e; have := Nat.eq_zero_of_zero_dvd hd; omega
    obtain ⟨k, hk, hdk⟩ := hall d (by rw [Nat.mod_eq_of_lt (by omega)]; exact hd0)
    have e : (d * g ^ (n - 1 - k)) % n = 1 := by
      rw [Nat.mul_mod, hdk, ← Nat.mul_mod, ← Nat.pow_add, show k + (n - 1 - k) = n - 1 by omega]; exact h1
    have : d ∣ 1 := by
      rw [← e]
      exact (Nat.dvd_mod_iff hd).2 ⟨_, rfl⟩
    exact Nat.dvd_one.1 this
/-- a to the power e modulo n, by bits. -/
def pmod (n a : Nat) : Nat → Nat → Nat
  | 0, _ => 1 % n
  | f + 1, e => if e % 2 = 0 then (pmod n a f (e / 2)) ^ 2 % n else ((pmod n a f (e / 2)) ^ 2 % n * a) % n
theorem pmod_eq (n a : Nat) : ∀ f e, e < 2 ^ f → pmod n a f e = a ^ e % n
  | 0, e, h => by
    have : e = 0 := by simpa using h
    subst this; rfl
  | f + 1, e, h => by
    have ih := pmod_eq n a f (e / 2) (by rw [Nat.pow_succ] at h; omega)
    have e2 : (a ^ (e / 2) % n) ^ 2 % n = a ^ (e / 2 * 2) % n := by rw [← Nat.pow_mod, ← Nat.pow_mul]
    unfold pmod
    rw [ih, e2]
    by_cases c : e % 2 = 0
    · rw [if_pos c, show e / 2 * 2 = e by omega]
    · rw [if_neg c, Nat.mod_mul_mod, ← Nat.pow_succ]
      show a ^ (e / 2 * 2 + 1) % n = _
      rw [show e / 2 * 2 + 1 = e by omega]
theorem lucas (n g f : Nat) (l : List (Nat × Nat)) (hn : 2 ≤ n) (hf : n - 1 < 2 ^ f) (hl : prodPow l = n - 1) (hp : ∀ x ∈ l, IsPrime x.1) (h1 : pmod n g f (n - 1) = 1)
    (h2 : ∀ x ∈ l, pmod n g f ((n - 1) / x.1) ≠ 1) : IsPrime n ∧ g ^ (n - 1) % n = 1 ∧ ∀ a, a % n ≠ 0 → ∃ k, k < n - 1 ∧ a % n = g ^ k % n := by
  have e1 : g ^ (n - 1) % n = 1 := by rw [← pmod_eq n g f _ hf]; exact h1
  have e2 : ∀ x ∈ l, g ^ ((n - 1) / x.1) % n ≠ 1 := fun x hx => by
    rw [← pmod_eq n g f _ (Nat.lt_of_le_of_lt (Nat.div_le_self _ _) hf)]; exact h2 x hx
  have hall := all_powers hn e1 (order_full hn l hl hp e1 e2)
  exact ⟨prime_of_powers hn e1 hall, e1, hall⟩
def noDiv (n : Nat) : Nat → Nat → Bool
  | 0, _ => false
  | k + 1, d => if n < d * d then true else if n % d = 0 then false else noDiv n k (d + 1)
theorem noDiv_ok (n : Nat) : ∀ k d0, noDiv n k d0 = true → ∀ d, d0 ≤ d → d * d ≤ n → n % d ≠ 0
  | 0, _, h => by simp [noDiv] at h
  | k + 1, d0, h => by
    intro d hd hdn
    unfold noDiv at h
    by_cases c : n < d0 * d0
    · have := Nat.mul_le_mul hd hd; omega
    · rw [if_neg c] at h
      by_cases c2 : n % d0 = 0
      · rw [if_pos c2] at h; cases h
      · rw [if_neg c2] at h
        by_cases c3 : d = d0
        · subst c3; exact c2
        · exact noDiv_ok n k (d0 + 1) h d (by omega) hdn
theorem prime_small (n : Nat) (hn : 2 ≤ n) (h : noDiv n n 2 = true ∨ ∃ k, noDiv n k 2 = true) : IsPrime n := by
  have h' : ∃ k, noDiv n k 2 = true := by rcases h with h | h; exact ⟨n, h⟩; exact h
  obtain ⟨k, hk⟩ := h'
  refine ⟨hn, fun d hd => ?_⟩
  by_cases c1 : d = 1
  · exact .inl c1
  · by_cases c2 : d = n
    · exact .inr c2
    · exfalso
      obtain ⟨e, he⟩ := hd
      have hd0 : d ≠ 0 := fun z => by subst z; simp at he; omega
      have he0 : e ≠ 0 := fun z => by subst z; simp at he; omega
      have he1 : e ≠ 1 := fun z => by subst z; simp at he; omega
      rcases Nat.le_total d e with c | c
      · exact noDiv_ok n k 2 hk d (by omega) (by rw [he]; exact Nat.mul_le_mul_left d c) (by rw [he]; exact Nat.mul_mod_right d e)
      · exact noDiv_ok n k 2 hk e (by omega) (by rw [he]; exact Nat.mul_le_mul_right e c) (by rw [he]; exact Nat.mul_mod_left d e)
theorem fermat {n g : Nat} (hn : 2 ≤ n) (h1 : g ^ (n - 1) % n = 1) (hall : ∀ a, a % n ≠ 0 → ∃ k, k < n - 1 ∧ a % n = g ^ k % n) (a : Nat) (ha : a % n ≠ 0) : a ^ (n - 1) % n = 1 := by
  obtain ⟨k, _, hk⟩ := hall a ha
  rw [Nat.pow_mod, hk, ← Nat.pow_mod, ← Nat.pow_mul, Nat.mul_comm]
  exact pow_one_mul hn h1 k
theorem prime2 : IsPrime 2 := prime_small _ (by decide) (.inr ⟨4, by decide +kernel⟩)
theorem prime3 : IsPrime 3 := prime_small _ (by decide) (.inr ⟨4, by decide +kernel⟩)
theorem prime5 : IsPrime 5 := prime_small _ (by decide) (.inr ⟨5, by decide +kernel⟩)
theorem prime7 : IsPrime 7 := prime_small _ (by decide) (.inr ⟨5, by decide +kernel⟩)
theorem prime13 : IsPrime 13 := prime_small _ (by decide) (.inr ⟨6, by decide +kernel⟩)
theorem prime19 : IsPrime 19 := prime_small _ (by decide) (.inr ⟨7, by decide +kernel⟩)
theorem prime31 : IsPrime 31 := prime_small _ (by decide) (.inr ⟨8, by decide +kernel⟩)
theorem prime47 : IsPrime 47 := prime_small _ (by decide) (.inr ⟨9, by decide +kernel⟩)
theorem prime107 : IsPrime 107 := prime_small _ (by decide) (.inr ⟨13, by decide +kernel⟩)
theorem prime127 : IsPrime 127 := prime_small _ (by decide) (.inr ⟨14, by decide +kernel⟩)
theorem prime223 : IsPrime 223 := prime_small _ (by decide) (.inr ⟨17, by decide +kernel⟩)
theorem prime353 : IsPrime 353 := prime_small _ (by decide) (.inr ⟨21, by decide +kernel⟩)
theorem prime2437 : IsPrime 2437 := prime_small _ (by decide) (.inr ⟨52, by decide +kernel⟩)
theorem prime4153 : IsPrime 4153 := prime_small _ (by decide) (.inr ⟨67, by decide +kernel⟩)
theorem prime57467 : IsPrime 57467 := prime_small _ (by decide) (.inr ⟨242, by decide +kernel⟩)
theorem prime65147 : IsPrime 65147 := prime_small _ (by decide) (.inr ⟨258, by decide +kernel⟩)
theorem prime75707 : IsPrime 75707 := prime_small _ (by decide) (.inr ⟨278, by decide +kernel⟩)
theorem prime132049 : IsPrime 132049 := prime_small _ (by decide) (.inr ⟨366, by decide +kernel⟩)
theorem prime430751 : IsPrime 430751 := prime_small _ (by decide) (.inr ⟨659, by decide +kernel⟩)
theorem prime569003 : IsPrime 569003 := prime_small _ (by decide) (.inr ⟨757, by decide +kernel⟩)
theorem prime1923133 : IsPrime 1923133 := prime_small _ (by decide) (.inr ⟨1389, by decide +kernel⟩)
theorem prime8574133 : IsPrime 8574133 := prime_small _ (by decide) (.inr ⟨2931, by decide +kernel⟩)
theorem prime2773320623 : IsPrime 2773320623 :=
  (lucas _ 5 256 [(2, 1), (2437, 1), (569003, 1)] (by decide +kernel) (by decide +kernel) (by decide +kernel) (by intro x hx; simp only [List.mem_cons, List.not_mem_nil, or_false] at hx; rcases hx with rfl | rfl | rfl <;> first | exact prime2 | exact prime2437 | exact prime569003)
    (by decide +kernel) (by decide +kernel)).1
theorem prime72106336199 : IsPrime 72106336199 :=
  (lucas _ 7 256 [(2, 1), (13, 1), (2773320623, 1)] (by decide +kernel) (by decide +kernel) (by decide +kernel) (by intro x hx; simp only [List.mem_cons, List.not_mem_nil, or_false] at hx; rcases hx with rfl | rfl | rfl <;> first | exact prime2 | exact prime13 | exact prime2773320623)
    (by decide +kernel) (by decide +kernel)).1
theorem prime1919519569386763 : IsPrime 1919519569386763 :=
  (lucas _ 2 256 [(2, 1), (3, 1), (7, 1), (19, 1), (47, 2), (127, 1), (8574133, 1)] (by decide +kernel) (by decide +kernel) (by decide +kernel) (by intro x hx; simp only [List.mem_cons, List.not_mem_nil, or_false] at hx; rcases hx with rfl | rfl | rfl | rfl | rfl | rfl | rfl <;> first | exact prime2 | exact prime3 | exact prime7 | exact prime19 | exact prime47 | exact prime127 | exact prime8574133)
    (by decide +kernel) (by decide +kernel)).1
theorem prime31757755568855353 : IsPrime 31757755568855353 :=
  (lucas _ 10 256 [(2, 3), (3, 1), (31, 1), (107, 1), (223, 1), (4153, 1), (430751, 1)] (by decide +kernel) (by decide +kernel) (by decide +kernel) (by intro x hx; simp only [List.mem_cons, List.not_mem_nil, or_false] at hx; rcases hx with rfl | rfl | rfl | rfl | rfl | rfl | rfl <;> first | exact prime2 | exact prime3 | exact prime31 | exact prime107 | exact prime223 | exact prime4153 | exact prime430751)
    (by decide +kernel) (by decide +kernel)).1
theorem prime75445702479781427272750846543864801 : IsPrime 75445702479781427272750846543864801 :=
  (lucas _ 7 256 [(2, 5), (3, 2), (5, 2), (75707, 1), (1919519569386763, 1), (72106336199, 1)] (by decide +kernel) (by decide +kernel) (by decide +kernel) (by intro x hx; simp only [List.mem_cons, List.not_mem_nil, or_false] at hx; rcases hx with rfl | rfl | rfl | rfl | rfl | rfl <;> first | exact prime2 | exact prime3 | exact prime5 | exact prime75707 | exact prime1919519569386763 | exact prime72106336199)
    (by decide +kernel) (by decide +kernel)).1
theorem prime74058212732561358302231226437062788676166966415465897661863160754340907 : IsPrime 74058212732561358302231226437062788676166966415465897661863160754340907 :=
  (lucas _ 2 256 [(2, 1), (3, 1), (353, 1), (57467, 1), (132049, 1), (1923133, 1), (31757755568855353, 1), (75445702479781427272750846543864801, 1)] (by decide +kernel) (by decide +kernel) (by decide +kernel) (by intro x hx; simp only [List.mem_cons, List.not_mem_nil, or_false] at hx; rcases hx with rfl | rfl | rfl | rfl | rfl | rfl | rfl | rfl <;> first | exact prime2 | exact prime3 | exact prime353 | exact prime57467 | exact prime132049 | exact prime1923133 | exact prime31757755568855353 | exact prime75445702479781427272750846543864801)
    (by decide +kernel) (by decide +kernel)).1
def P25519 : Nat := 57896044618658097711785492504343953926634992332820282019728792003956564819949
theorem lucasP : IsPrime P25519 ∧ 2 ^ (P25519 - 1) % P25519 = 1 ∧ ∀ a, a % P25519 ≠ 0 → ∃ k, k < P25519 - 1 ∧ a % P25519 = 2 ^ k % P25519 :=
  lucas P25519 2 256 [(2, 2), (3, 1), (65147, 1), (74058212732561358302231226437062788676166966415465897661863160754340907, 1)] (by decide +kernel) (by decide +kernel) (by decide +kernel) (by intro x hx; simp only [List.mem_cons, List.not_mem_nil, or_false] at hx; rcases hx with rfl | rfl | rfl | rfl <;> first | exact prime2 | exact prime3 | exact prime65147 | exact prime74058212732561358302231226437062788676166966415465897661863160754340907)
    (by decide +kernel) (by decide +kernel)
theorem fermatP (a : Nat) (ha : a % P25519 ≠ 0) : a ^ (P25519 - 1) % P25519 = 1 := fermat lucasP.1.1 lucasP.2.1 lucasP.2.2 a ha
end Go.Proofs.Ytjggclhhimccoaa
