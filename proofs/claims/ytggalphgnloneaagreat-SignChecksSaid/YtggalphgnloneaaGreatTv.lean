/- Layer 6 in numbers: what Verify answers; what is signed is verified. -/
import Derived.Test.YtggalphgnloneaaGreatTa
import Derived.Test.YtggalphgnloneaaGreatQbk
namespace Go.Proofs.YtggalphgnloneaaGreat
open Go.RowKit
/-- What is held against a signature's first half. -/
noncomputable def wantV (P : Pt) (p t g : ByteArray) : Pt :=
  padd (pmul bP (numV (g.extract 32 64) 32)) (pmul (pneg P) (numV (kS (g.extract 0 32) p t) 32))
/-- What Verify answers. -/
noncomputable def verV (p t g : ByteArray) : Bool :=
  if g.size = 64 ∧ (decV p).2 = true ∧ L4.redV (g.extract 32 64) = g.extract 32 64 then decide (bytesV (encN (wantV (decV p).1 p t g)) = g.extract 0 32) else false
theorem verV_size {p t g : ByteArray} (h : ¬ g.size = 64) : verV p t g = false := by unfold verV; rw [if_neg (fun c => h c.1)]
theorem verV_key {p t g : ByteArray} (h : ¬ (decV p).2 = true) : verV p t g = false := by unfold verV; rw [if_neg (fun c => h c.2.1)]
theorem verV_right {p t g : ByteArray} (h : ¬ L4.redV (g.extract 32 64) = g.extract 32 64) : verV p t g = false := by unfold verV; rw [if_neg (fun c => h c.2.2)]
theorem verV_is {p t g : ByteArray} {P : Pt} (h : g.size = 64) (hd : decV p = (P, true)) (hr : L4.redV (g.extract 32 64) = g.extract 32 64) :
    verV p t g = decide (bytesV (encN (wantV P p t g)) = g.extract 0 32) := by
  unfold verV; rw [hd, if_pos ⟨h, rfl, hr⟩]
theorem verV_short {p t g : ByteArray} (h : ¬ p.size = 32) : verV p t g = false := verV_key (by rw [decV_size h]; decide)
theorem pmul_pZ : ∀ n, pmul pZ n = pZ
  | 0 => rfl
  | n + 1 => by show padd pZ (pmul pZ n) = pZ; rw [pmul_pZ n, padd_zero pZ_on]
theorem pmul_mod (n : Nat) : pmul bP (n % qL) = pmul bP n := by
  have h := pmul_add base_on (n % qL) (n / qL * qL)
  rw [Nat.div_add_mod' n qL, ← pmul_mul base_on, order_base, pmul_pZ, padd_turn pZ_on (pmul_on base_on _), padd_zero (pmul_on base_on _)] at h
  exact h.symm
theorem pmul_neg {P : Pt} (h : onC P) : ∀ n, padd (pmul P n) (pmul (pneg P) n) = pZ
  | 0 => padd_zero pZ_on
  | n + 1 => by
    have hn := pneg_on h
    have ha := pmul_on h n
    have hb := pmul_on hn n
    show padd (padd P (pmul P n)) (padd (pneg P) (pmul (pneg P) n)) = pZ
    rw [padd_turn hn hb, padd_assoc h ha (padd_on hb hn), ← padd_assoc ha hb hn, pmul_neg h n, padd_turn pZ_on hn, padd_zero hn, padd_neg h]
/-- S times the base and k times the turned key: R. -/
theorem back_base (K A R : Nat) : padd (pmul bP ((K * A + R) % qL)) (pmul (pneg (pmul bP A)) K) = pmul bP R := by
  have hA := pmul_on base_on A
  have hR := pmul_on base_on R
  have hK := pmul_on hA K
  have hN := pmul_on (pneg_on hA) K
  rw [pmul_mod, pmul_add base_on, ← pmul_mul base_on, padd_turn hK hR, padd_assoc hR hK hN, pmul_neg hA, padd_zero hR]
theorem public_dec (n : ByteArray) : decV (tbV n) = (pmul bP (numV n 32), true) := dec_enc (pmul_on base_on _)
/-- What is signed is verified. -/
theorem signed (s t : ByteArray) : verV (publicV s) t (signV s t) = true := by
  rw [verV_is (p := publicV s) (P := pmul bP (numV (numS s) 32)) (signV_size s t) (public_dec (numS s)) (by rw [sign_second]; exact ma_right _ _ _)]
  unfold wantV
  rw [sign_first, sign_second]
  rw [show numV (secondS s t) 32 = _ from ma_num _ _ _, back_base]
  exact decide_eq_true rfl
end Go.Proofs.YtggalphgnloneaaGreat
