/- The document's answer to chapter 3: Right, Make, Bytes. -/
import Derived.Test.YtggalphgnloneaaMH
import Derived.Test.YtggalphgnloneaaMF
import Derived.IntWalk
namespace Go.Proofs.Ytggalphgnloneaa
open Go.RowKit
/-- Within Bytes: the number at g, the bytes at gl. -/
structure ByV (n k g gl : Nat) (w wr : World) : Prop where
  d : Blk wr g 38 (r64 4 (F4 n))
  o : Blk wr gl 5 (r8 32 (bF n k))
  l : Below w.heap.size w wr
  lt : w.heap.size ≤ g ∧ g < gl
theorem ByV.put {n k g gl : Nat} {w wr : World} (h : ByV n k g gl w wr) (hk : k < 32) : ByV n (k + 1) g gl w (wr.setCell ⟨gl, k, none⟩ (.int .u8 (iw (BitVec.ofNat 8 (byteK n k))))) :=
  ⟨h.d.far (by have := h.lt; simp; omega) _, (h.o.put hk _).cast_ (row_ext fun i _ => by
    unfold bF
    by_cases h1 : i = k
    · subst h1; rw [if_pos rfl, if_pos (by omega)]
    · rw [if_neg h1]
      by_cases h2 : i < k
      · rw [if_pos h2, if_pos (by omega)]
      · rw [if_neg h2, if_neg (by omega)]), h.l.setCell (by have := h.lt; simp; omega) _, h.lt⟩
end Go.Proofs.Ytggalphgnloneaa
/- The document's answer to chapter 3: sums and products, by names. -/
namespace Go.Proofs.Ytggalphgnloneaa
open Go.RowKit
end Go.Proofs.Ytggalphgnloneaa
/- The document's answer to chapter 3: Odd, Small, by names. -/
namespace Go.Proofs.Ytggalphgnloneaa
open Go.RowKit
theorem makeV_lt (s : ByteArray) : (makeV s).1 < M256 := by
  unfold makeV
  by_cases h1 : s.size = 32
  · rw [if_pos h1]
    by_cases h2 : bv (byteS s) 32 % pP = bv (byteS s) 32
    · rw [if_pos h2]; exact bv_ltM s
    · rw [if_neg h2]; decide
  · rw [if_neg h1]; decide
theorem fright_is (a : Nat) (w : World) (ha : a < M256) (c : Bool) (hc : decide (a % pP = a) = c) :
    Calls Try.prog 48 #[.agg (r64 4 (F4 a))] w fun e w' => e = .returned (.bool c) ∧ Below w.heap.size w w' := by
  subst hc; exact fright_any a w ha
end Go.Proofs.Ytggalphgnloneaa
/- The document's answer to chapter 3: Pow, Invert. -/
namespace Go.Proofs.Ytggalphgnloneaa
open Go.RowKit
/-- Within Pow: the number, the power, the product of the upper bits. -/
structure RpW (x e p pb : Nat) (w wr : World) : Prop where
  d : Blk wr w.heap.size 38 (r64 4 (F4 x))
  e : Blk wr (w.heap.size + 1) 37 (r64 4 (F4 e))
  r : Blk wr (w.heap.size + 2) 38 (r64 4 zF)
  p : Blk wr pb 38 (r64 4 (F4 p))
  l : Below w.heap.size w wr
  lt : w.heap.size + 2 < pb
theorem RpW.below {x e p pb : Nat} {w wr w' : World} (h : RpW x e p pb w wr) (hb : Below wr.heap.size wr w') : RpW x e p pb w w' :=
  ⟨h.d.below hb h.d.lt, h.e.below hb h.e.lt, h.r.below hb h.r.lt, h.p.below hb h.p.lt, h.l.trans (hb.mono h.l.size), h.lt⟩
theorem RpW.putp {x e p pb : Nat} {w wr : World} (h : RpW x e p pb w wr) (y : Nat) : RpW x e y pb w (wr.setRow pb (r64 4 (F4 y))) :=
  ⟨h.d.row_far (by have := h.lt; omega) _, h.e.row_far (by have := h.lt; omega) _, h.r.row_far (by have := h.lt; omega) _, h.p.row_ _, below_setRow' h.l (by have := h.lt; omega) _, h.lt⟩
theorem bit_word (e q r : Nat) (hr : r < 64) : andw (shrw (F4 e q) r) (litw 64 1) = nw (e / 2 ^ (64 * q + r) % 2) := by
  apply BitVec.eq_of_toNat_eq
  unfold andw shrw litw
  rw [BitVec.toNat_and, show (BitVec.ofNat 64 1).toNat = 2 ^ 1 - 1 by rfl, Nat.and_two_pow_sub_one_eq_mod, BitVec.toNat_ushiftRight, Nat.shiftRight_eq_div_pow, F4_nat, nw_nat _ (by unfold W64; omega), Nat.pow_add, ← Nat.div_div_eq_div_mul]
  generalize e / 2 ^ (64 * q) = x
  have h : (18446744073709551616 : Nat) = 2 ^ r * 2 ^ (64 - r) := by rw [← Nat.pow_add, show r + (64 - r) = 64 by omega]
  rw [h, Nat.mod_mul_right_div_self, show (2 : Nat) ^ 1 = 2 by rfl, Nat.mod_mod_of_dvd _ (show 2 ∣ 2 ^ (64 - r) from Nat.pow_dvd_pow 2 (show 1 ≤ 64 - r by omega))]
/-- The power of the bits from j on. -/
def topE (e j : Nat) : Nat := e / 2 ^ j
theorem topE_next (e j : Nat) : topE e j = 2 * topE e (j + 1) + topE e j % 2 := by
  unfold topE; rw [Nat.pow_succ, ← Nat.div_div_eq_div_mul]; omega
theorem pow_bit1 {x e j : Nat} (h : topE e j % 2 = 1) : mulP (mulP (powP x (topE e (j + 1))) (powP x (topE e (j + 1)))) x = powP x (topE e j) := by
  unfold mulP powP
  rw [topE_next e j, h, ← Nat.mul_mod, Nat.mod_mul_mod, ← Nat.pow_add, ← Nat.two_mul, ← Nat.pow_succ]
theorem pow_bit0 {x e j : Nat} (h : topE e j % 2 = 0) : mulP (powP x (topE e (j + 1))) (powP x (topE e (j + 1))) = powP x (topE e j) := by
  unfold mulP powP
  rw [topE_next e j, h, Nat.add_zero (2 * topE e (j + 1)), ← Nat.mul_mod, ← Nat.pow_add, ← Nat.two_mul]
end Go.Proofs.Ytggalphgnloneaa
/- The two ways to a root agree. -/
namespace Go.Proofs.Ytggalphgnloneaa
open Go.RowKit
/-- (p + 3) / 8. -/
def E3 : Nat := 7237005577332262213973186563042994240829374041602535252466099000494570602494
/-- The document's first try. -/
def tryV (u v : Nat) : Nat := powP (mulP u (invP v)) E3
theorem e3_four : E3 + E3 + (E3 + E3) = H2 + 2 := by decide
theorem mul_invP {v : Nat} (h : ¬ v % pP = 0) : v * invP v % pP = 1 := by
  unfold invP
  rw [Nat.mul_mod_mod, Nat.mul_comm, ← Nat.pow_succ, show (pP - 2).succ = pP - 1 by decide]
  exact fermatP v h
theorem tryV_lt (u v : Nat) : tryV u v < pP := Nat.mod_lt _ (by decide)
/-- v divides out. -/
theorem div_invP {v z : Nat} (h : ¬ v % pP = 0) : (v * z % pP) * invP v % pP = z % pP := by
  rw [Nat.mod_mul_mod, Nat.mul_comm v z, Nat.mul_assoc, Nat.mul_mod, mul_invP h, Nat.mul_one, Nat.mod_mod]
theorem try_sq {U v z : Nat} (hv : ¬ v % pP = 0) (h : U = v * (z * z) % pP) : tsV v (tryV U v) = U * (z ^ H2 % pP) % pP := by
  have e1 : mulP U (invP v) = z * z % pP := by rw [h]; exact div_invP hv
  have e2 : tryV U v * tryV U v % pP = z * z * z ^ H2 % pP := by
    unfold tryV powP
    rw [e1, ← Nat.pow_mod, ← Nat.mul_mod, ← Nat.pow_add, ← Nat.pow_two, ← Nat.pow_mul, ← Nat.pow_add, show 2 * (E3 + E3) = 2 + H2 by decide]
  unfold tsV
  rw [e2, h, Nat.mul_mod_mod, ← Nat.mul_mod, Nat.mul_assoc v]
theorem try_found {U v z : Nat} (hU : U < pP) (hv : ¬ v % pP = 0) (h : U = v * (z * z) % pP) : tsV v (tryV U v) = U ∨ tsV v (tryV U v * iR % pP) = U := by
  rw [ts_turn, try_sq hv h]
  by_cases hz : z % pP = 0
  · left
    have h0 : U = 0 := by rw [h, Nat.mul_mod, Nat.mul_mod z, hz, Nat.zero_mul, Nat.zero_mod, Nat.mul_zero, Nat.zero_mod]
    rw [h0, Nat.zero_mul, Nat.zero_mod]
  · rcases half_one hz with h1 | h1
    · left; rw [h1, Nat.mul_one, Nat.mod_eq_of_lt hU]
    · right
      rw [h1, Nat.mod_mul_mod, Nat.mul_assoc, Nat.mul_mod, show (pP - 1) * (pP - 1) % pP = 1 by decide, Nat.mul_one, Nat.mod_mod, Nat.mod_eq_of_lt hU]
theorem even_root {v x y U : Nat} (hv : ¬ v % pP = 0) (hx : tsV v x = U) (hxl : x < pP) (hxo : oddB (x % pP) = false) (hy : tsV v y = U) (hyl : y < pP) (hyo : oddB (y % pP) = false) : x = y := by
  have h : x * x % pP = y * y % pP := by
    have h1 := div_invP (z := x * x % pP) hv
    have h2 := div_invP (z := y * y % pP) hv
    have h3 : v * (x * x % pP) % pP = v * (y * y % pP) % pP := hx.trans hy.symm
    rw [h3, h2, Nat.mod_mod, Nat.mod_mod] at h1
    exact h1.symm
  unfold oddB at hxo hyo
  rw [decide_eq_false_iff_not] at hxo hyo
  rcases sq_eq h with h1 | h1
  · rwa [Nat.mod_eq_of_lt hxl, Nat.mod_eq_of_lt hyl] at h1
  · rw [Nat.mod_eq_of_lt hxl, Nat.mod_eq_of_lt hyl] at h1
    rw [Nat.mod_eq_of_lt hxl] at hxo
    rw [Nat.mod_eq_of_lt hyl] at hyo
    by_cases hy0 : y = 0
    · subst hy0; rw [h1]; decide
    · rw [Nat.mod_eq_of_lt (show pP - y < pP by omega)] at h1
      unfold pP at *; omega
theorem root_same (u v : Nat) : rootW (u % pP) v (tryV (u % pP) v) = rootV u v := by
  have hU := Nat.mod_lt u (show 0 < pP by decide)
  by_cases hv : v % pP = 0
  · have e1 : tryV (u % pP) v = 0 := by
      have : invP v = 0 := by
        unfold invP; rw [Nat.pow_mod, hv, Nat.zero_pow (by decide), Nat.zero_mod]
      unfold tryV powP mulP
      rw [this, Nat.mul_zero, Nat.zero_mod, Nat.zero_pow (by decide), Nat.zero_mod]
    have e2 : nearV (u % pP) v = 0 := by
      have : cuV v = 0 := by
        unfold cuV; rw [Nat.mul_mod, hv, Nat.mul_zero, Nat.zero_mod]
      unfold nearV
      rw [this, Nat.mul_zero, Nat.zero_mod, Nat.zero_mul, Nat.zero_mod]
    unfold rootV
    rw [e1, e2]
  · cases hb : (rootV u v).2 with
    | true =>
      obtain ⟨x, hx⟩ : ∃ x, rootV u v = (x, true) := ⟨(rootV u v).1, by
        generalize rootV u v = p at hb ⊢
        obtain ⟨a, b⟩ := p
        subst hb
        rfl⟩
      obtain ⟨t1, t2, t3⟩ := rootV_ok hx
      have hf := rootW_found (try_found (z := x) hU hv (by rw [← t1]; exact Nat.mul_mod_mod _ _ _))
      obtain ⟨y, hy⟩ : ∃ y, rootW (u % pP) v (tryV (u % pP) v) = (y, true) := ⟨(rootW (u % pP) v (tryV (u % pP) v)).1, by
        generalize rootW (u % pP) v (tryV (u % pP) v) = p at hf ⊢
        obtain ⟨a, b⟩ := p
        subst hf
        rfl⟩
      obtain ⟨s1, s2, s3⟩ := rootW_ok (tryV_lt _ _) hy
      rw [hx, hy, even_root hv t1 t2 t3 s1 s2 s3]
    | false =>
      rw [rootV_no hb]
      cases hf : (rootW (u % pP) v (tryV (u % pP) v)).2 with
      | false => exact rootW_no hf
      | true =>
        obtain ⟨y, hy⟩ : ∃ y, rootW (u % pP) v (tryV (u % pP) v) = (y, true) := ⟨(rootW (u % pP) v (tryV (u % pP) v)).1, by
          generalize rootW (u % pP) v (tryV (u % pP) v) = p at hf ⊢
          obtain ⟨a, b⟩ := p
          subst hf
          rfl⟩
        obtain ⟨s1, _, _⟩ := rootW_ok (tryV_lt _ _) hy
        have := rootV_found (u := u) (v := v) (z := y) (by rw [← s1]; exact Nat.mul_mod_mod _ _ _)
        rw [this] at hb
        cases hb
end Go.Proofs.Ytggalphgnloneaa
/- The document's answer to chapter 3: Root. -/
namespace Go.Proofs.Ytggalphgnloneaa
open Go.RowKit
def E4 : Nat := 14474011154664524427946373126085988481658748083205070504932198000989141204987
theorem e3_row : #[Value.int .u64 18446744073709551614, .int .u64 18446744073709551615, .int .u64 18446744073709551615, .int .u64 1152921504606846975] = r64 4 (F4 E3) := by kernel_rfl
theorem e3_built : Try.prog.built 37 [(0, .int .u64 18446744073709551614), (1, .int .u64 18446744073709551615), (2, .int .u64 18446744073709551615), (3, .int .u64 1152921504606846975)] = some #[.int .u64 18446744073709551614, .int .u64 18446744073709551615, .int .u64 18446744073709551615, .int .u64 1152921504606846975] := by kernel_rfl
theorem e4_row : #[Value.int .u64 18446744073709551611, .int .u64 18446744073709551615, .int .u64 18446744073709551615, .int .u64 2305843009213693951] = r64 4 (F4 E4) := by kernel_rfl
theorem e4_built : Try.prog.built 37 [(0, .int .u64 18446744073709551611), (1, .int .u64 18446744073709551615), (2, .int .u64 18446744073709551615), (3, .int .u64 2305843009213693951)] = some #[.int .u64 18446744073709551611, .int .u64 18446744073709551615, .int .u64 18446744073709551615, .int .u64 2305843009213693951] := by kernel_rfl
theorem pow_E4 (a : Nat) : powP a E4 = pmod pP a 254 E4 := (pmod_eq pP a 254 E4 (by decide)).symm
theorem iR_pow : powP 2 E4 = iR := by
  rw [pow_E4]
  decide +kernel
/-- The tries of the document's Root. -/
def xsV (x : Nat) : Nat → Nat
  | 0 => x
  | k + 1 => mulP (xsV x k) iR
theorem xsV_lt {x : Nat} (hx : x < M256) : ∀ k, xsV x k < M256
  | 0 => hx
  | _ + 1 => mulP_lt _ _
theorem xs_odd {u v x k : Nat} (hk : k < 2) (hn : ∀ j, j < k → ¬ tsV v (xsV x j) = u) (c : tsV v (xsV x k) = u) (ho : oddP (xsV x k) = true) : rootW u v x = (negP (xsV x k), true) := by
  match k, hk with
  | 0, _ => exact rootW_a c ho
  | 1, _ => exact rootW_c (y := xsV x 1) rfl (hn 0 (by omega)) c ho
theorem xs_even {u v x k : Nat} (hk : k < 2) (hn : ∀ j, j < k → ¬ tsV v (xsV x j) = u) (c : tsV v (xsV x k) = u) (ho : oddP (xsV x k) = false) : rootW u v x = (xsV x k, true) := by
  match k, hk with
  | 0, _ => exact rootW_b c ho
  | 1, _ => exact rootW_d (y := xsV x 1) rfl (hn 0 (by omega)) c ho
theorem xs_none {u v x : Nat} (hn : ∀ j, j < 2 → ¬ tsV v (xsV x j) = u) : rootW u v x = (0, false) :=
  rootW_e (y := xsV x 1) rfl (hn 0 (by omega)) (hn 1 (by omega))
end Go.Proofs.Ytggalphgnloneaa
