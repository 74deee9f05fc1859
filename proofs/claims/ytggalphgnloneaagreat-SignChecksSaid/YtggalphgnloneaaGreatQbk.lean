/- Encode and Decode turn each other back. -/
import Derived.Test.YtggalphgnloneaaGreatQB
import Derived.Test.YtggalphgnloneaaGreatQAd
namespace Go.Proofs.YtggalphgnloneaaGreat
open Go.RowKit
/-- The curve's divisor is never 0. -/
theorem wY_ne (y : Nat) : ¬ addP (mulP dP (mulP y y)) 1 % pP = 0 := by
  intro h0
  have h1 : D0 ((addP (mulP dP (mulP y y)) 1 : Nat) : Int) := D0.of_mod.2 h0
  have h2 := cA (cM (c0 (dP : Int)) (cM (c0 (y : Int)) (c0 (y : Int)))) (c0 ((1 : Nat) : Int))
  have h3 : D0 ((dP : Int) * (y * y) + ((1 : Nat) : Int)) := D0.lin2 1 (-1) h1 h2 (by omega)
  by_cases hy : D0 (y : Int)
  · exact D0_one (D0.lin2 1 (-(dP * y)) h3 hy (by grind))
  · exact no_ratio nonsquare hy (n := (iP : Int)) (D0.lin2 1 (-1) i_sq h3 (by grind))
/-- A point's x is a root. -/
theorem root_of {P : Pt} (h : onC P) : tsV (addP (mulP dP (mulP P.y P.y)) 1) P.x = subP (mulP P.y P.y) 1 % pP := by
  rw [Nat.mod_eq_of_lt (subP_p _ _)]
  have e : tsV (addP (mulP dP (mulP P.y P.y)) 1) P.x = mulP (addP (mulP dP (mulP P.y P.y)) 1) (mulP P.x P.x) := rfl
  rw [e]
  refine D0.nat (mulP_p _ _) (subP_p _ _) ?_
  have hy2 := cM (c0 (P.y : Int)) (c0 (P.y : Int))
  have hu := cS hy2 (c0 ((1 : Nat) : Int))
  have hv := cM (cA (cM (c0 (dP : Int)) hy2) (c0 ((1 : Nat) : Int))) (cM (c0 (P.x : Int)) (c0 (P.x : Int)))
  have he := h.e
  generalize ((subP (mulP P.y P.y) 1 : Nat) : Int) = u at hu ⊢
  generalize ((mulP (addP (mulP dP (mulP P.y P.y)) 1) (mulP P.x P.x) : Nat) : Int) = v at hv ⊢
  exact D0.lin3 1 (-1) (-1) hv hu he (by grind)
theorem root_there {P : Pt} (h : onC P) : ∃ x, rV (subP (mulP P.y P.y) 1) (addP (mulP dP (mulP P.y P.y)) 1) = (x, true) := by
  have h1 : (rootV (subP (mulP P.y P.y) 1) (addP (mulP dP (mulP P.y P.y)) 1)).2 = true := rootV_found (z := P.x) (by
    rw [← root_of h]
    show addP (mulP dP (mulP P.y P.y)) 1 * (P.x * P.x % pP) % pP = _
    rw [Nat.mul_mod_mod])
  rw [rV_eq]
  generalize rootV (subP (mulP P.y P.y) 1) (addP (mulP dP (mulP P.y P.y)) 1) = p at h1 ⊢
  obtain ⟨a, b⟩ := p
  exact ⟨a, by rw [show b = true from h1]⟩
theorem odd_neg {x : Nat} (h : x < pP) (h0 : ¬ x = 0) : oddP (negP x) = !oddP x := by
  have hlt : pP - x < pP := by omega
  have hn : negP x = pP - x := by unfold negP; rw [Nat.mod_eq_of_lt h, Nat.mod_eq_of_lt hlt]
  unfold oddP oddB
  rw [hn, Nat.mod_eq_of_lt hlt, Nat.mod_eq_of_lt h]
  have hp : pP % 2 = 1 := by decide
  generalize pP = p at *
  rcases Nat.mod_two_eq_zero_or_one x with h2 | h2
  · rw [h2, show (p - x) % 2 = 1 by omega]; rfl
  · rw [h2, show (p - x) % 2 = 0 by omega]; rfl
theorem odd_zero : oddP 0 = false := by decide
theorem root_is_even {P : Pt} (h : onC P) (ho : oddP P.x = false) : rV (subP (mulP P.y P.y) 1) (addP (mulP dP (mulP P.y P.y)) 1) = (P.x, true) := by
  obtain ⟨x, hx⟩ := root_there h
  rw [hx]
  rw [rV_eq] at hx
  obtain ⟨h1, h2, h3⟩ := rootV_ok hx
  rw [even_root (wY_ne P.y) h1 h2 h3 (root_of h) h.x ho]
theorem root_is_odd {P : Pt} (h : onC P) (ho : oddP P.x = true) : rV (subP (mulP P.y P.y) 1) (addP (mulP dP (mulP P.y P.y)) 1) = (negP P.x, true) ∧ ¬ P.x = 0 := by
  have h0 : ¬ P.x = 0 := fun e => by rw [e, odd_zero] at ho; cases ho
  have hn : onC (pneg P) := pneg_on h
  exact ⟨root_is_even (P := pneg P) hn (by show oddP (negP P.x) = false; rw [odd_neg h.x h0, ho]; rfl), h0⟩
theorem encN_lt {P : Pt} (h : onC P) : encN P < 2 ^ (8 * 32) := by
  unfold encN
  have h1 := h.y
  have h2 : pP < B255 := by decide
  have h3 : B255 + B255 = 2 ^ (8 * 32) := by decide
  split <;> omega
theorem enc_byte {P : Pt} (h : onC P) (j : Nat) (hj : j < 32) : byteS (bytesV (encN P)) j = if j = 31 then byteK P.y 31 + (if oddP P.x = true then 128 else 0) else byteK P.y j := by
  rw [byteS_bytesV _ _ hj]
  unfold encN
  by_cases ho : oddP P.x = true
  · rw [if_pos ho, if_pos ho, byte_odd h.y j hj]
  · rw [if_neg ho, if_neg ho, Nat.add_zero, Nat.add_zero]
    by_cases h1 : j = 31
    · rw [if_pos h1, h1]
    · rw [if_neg h1]
theorem enc_y {P : Pt} (h : onC P) : yV (bytesV (encN P)) = P.y := by
  have e : bv (byteS (bytesV (encN P))) 32 = encN P := by
    rw [bv_congr 32 (fun j hj => byteS_bytesV _ j hj), bv_bytes]
    exact Nat.mod_eq_of_lt (encN_lt h)
  unfold yV
  rw [e]
  unfold encN
  have h1 := h.y
  have h2 : pP < B255 := by decide
  split
  · rw [Nat.add_mod_right, Nat.mod_eq_of_lt (by omega)]
  · rw [Nat.add_zero, Nat.mod_eq_of_lt (by omega)]
theorem dec_enc {P : Pt} (h : onC P) : decV (bytesV (encN P)) = (P, true) := by
  have hs := bytesV_size (encN P)
  have hy := enc_y h
  have hm : yV (bytesV (encN P)) % pP = yV (bytesV (encN P)) := by rw [hy, Nat.mod_eq_of_lt h.y]
  have hb := enc_byte h 31 (by decide)
  rw [if_pos rfl] at hb
  have h128 := byte_high h.y
  cases ho : oddP P.x with
  | false =>
    rw [ho, if_neg (by decide)] at hb
    have hr := root_is_even h ho
    rw [← hy] at hr
    rw [decV_even hs hm hr (by omega), hy]
  | true =>
    rw [ho, if_pos rfl] at hb
    obtain ⟨hr, h0⟩ := root_is_odd h ho
    rw [← hy] at hr
    rw [decV_odd hs hm hr (by omega) (fun e => h0 (by
      have := negP_twice h.x
      rw [e] at this
      rw [← this]; decide)), hy, negP_twice h.x]
theorem enc_dec {s : ByteArray} {R : Pt} (h : decV s = (R, true)) : onC R ∧ bytesV (encN R) = s := by
  have hno : ∀ {x : Pt}, (x, false) = (R, true) → False := fun e => by injection e with _ e; cases e
  by_cases hs : s.size = 32
  · by_cases hm : yV s % pP = yV s
    · cases hr : rV (subP (mulP (yV s) (yV s)) 1) (addP (mulP dP (mulP (yV s) (yV s))) 1) with
      | mk x b =>
        cases b with
        | false => rw [decV_none hr] at h; exact (hno h).elim
        | true =>
          have hC := root_on (yV_p hm) hr
          have he := root_even hr
          by_cases hb : byteS s 31 < 128
          · rw [decV_even hs hm hr hb] at h
            injection h with h _
            subst h
            refine ⟨hC, ?_⟩
            rw [encN_even he]
            exact (text_is hs fun j hj => by
              rw [yV_byte s j hj]
              by_cases h1 : j = 31
              · rw [if_pos h1, h1, Nat.mod_eq_of_lt hb]
              · rw [if_neg h1]).symm
          · by_cases hx : x = 0
            · rw [decV_same hs hm hr hb hx] at h; exact (hno h).elim
            · rw [decV_odd hs hm hr hb hx] at h
              injection h with h _
              subst h
              refine ⟨pneg_on hC, ?_⟩
              have ho : oddP (negP x) = true := by rw [odd_neg hC.x hx]; rw [he]; rfl
              rw [encN_odd ho]
              have h256 := byteS_lt s 31
              exact (text_is hs fun j hj => by
                rw [byte_odd (yV_p hm) j hj, yV_byte s j hj, yV_byte s 31 (by decide)]
                by_cases h1 : j = 31
                · rw [if_pos h1, if_pos rfl, h1]; omega
                · rw [if_neg h1, if_neg h1]).symm
    · rw [decV_make hm] at h; exact (hno h).elim
  · rw [decV_size hs] at h; exact (hno h).elim
end Go.Proofs.YtggalphgnloneaaGreat
