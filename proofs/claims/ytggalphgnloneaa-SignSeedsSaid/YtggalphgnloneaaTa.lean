/- Layer 6 in numbers: what Public, Sign, Verify answer; what is signed is verified. -/
import Derived.Test.YtggalphgnloneaaM2
import Derived.Test.YtggalphgnloneaaM4
import Derived.Test.YtggalphgnloneaaQbk
import Derived.Test.YtggalphgnloneaaQu
namespace Go.Proofs.Ytggalphgnloneaa
open Go.RowKit
/-- A text's bytes. -/
def lB (s : ByteArray) : List UInt8 := s.data.toList
theorem lB_append (a b : ByteArray) : lB (a ++ b) = lB a ++ lB b := by unfold lB; rw [ByteArray.data_append, Array.toList_append]
theorem lB_length (a : ByteArray) : (lB a).length = a.size := by simp [lB]
/-- The sum of some bytes. -/
def sumV (l : List UInt8) : ByteArray := ⟨(L2.H0.write l).out.toArray⟩
theorem sumV_size (l : List UInt8) : (sumV l).size = 64 := by
  show (L2.Hs.out _).toArray.size = 64
  simp [L2.Hs.out, asBytes, L2.outB_length]
/-- A seed's number, and the other half. -/
def numS (s : ByteArray) : ByteArray := (L4.clampV ((sumV (lB s)).extract 0 32)).1
def preS (s : ByteArray) : ByteArray := (sumV (lB s)).extract 32 64
/-- The bytes of the base, as often as a text's number says. -/
def tbV (n : ByteArray) : ByteArray := bytesV (encN (pmul bP (numV n 32)))
def publicV (s : ByteArray) : ByteArray := tbV (numS s)
def rS (s t : ByteArray) : ByteArray := L4.redV (sumV (lB (preS s) ++ lB t))
def kS (a b t : ByteArray) : ByteArray := L4.redV (sumV (lB a ++ lB b ++ lB t))
def firstS (s t : ByteArray) : ByteArray := tbV (rS s t)
def secondS (s t : ByteArray) : ByteArray := L4.maV (kS (firstS s t) (publicV s) t) (numS s) (rS s t)
def signV (s t : ByteArray) : ByteArray := firstS s t ++ secondS s t
/-- What Public and Sign answer. -/
def pubA (s : ByteArray) : ByteArray × Bool := if s.size = 32 then (publicV s, true) else (⟨#[]⟩, false)
def sigA (s t : ByteArray) : ByteArray × Bool := if s.size = 32 then (signV s t, true) else (⟨#[]⟩, false)
/-- What is held against a signature's first half. -/
noncomputable def wantV (P : Pt) (p t g : ByteArray) : Pt :=
  padd (pmul bP (numV (g.extract 32 64) 32)) (pmul (pneg P) (numV (kS (g.extract 0 32) p t) 32))
/-- What Verify answers. -/
noncomputable def verV (p t g : ByteArray) : Bool :=
  if g.size = 64 ∧ (decV p).2 = true ∧ L4.redV (g.extract 32 64) = g.extract 32 64 then decide (bytesV (encN (wantV (decV p).1 p t g)) = g.extract 0 32) else false
theorem verV_size {p t g : ByteArray} (h : ¬ g.size = 64) : verV p t g = false := by unfold verV; rw [if_neg (fun c => h c.1)]
theorem verV_key {p t g : ByteArray} (h : ¬ (decV p).2 = true) : verV p t g = false := by unfold verV; rw [if_neg (fun c => h c.2.1)]
theorem verV_right {p t g : ByteArray} (h : ¬ L4.redV (g.extract 32 64) = g.extract 32 64) : verV p t g = false := by unfold verV; rw [if_neg (fun c => h c.2.2)]
theorem verV_is {p t g : ByteArray} {P : Pt} (h : g.size = 64) (hd : decV p = (P, true)) (hr : L4.redV (g.extract 32 64) = g.extract 32 64) :
    verV p t g = decide (bytesV (encN (wantV P p t g)) = g.extract 0 32) := by
  unfold verV; rw [hd, if_pos ⟨h, rfl, hr⟩]
theorem verV_short {p t g : ByteArray} (h : ¬ p.size = 32) : verV p t g = false := verV_key (by rw [decV_size h]; decide)
theorem pmul_pZ : ∀ n, pmul pZ n = pZ
  | 0 => rfl
  | n + 1 => by show padd pZ (pmul pZ n) = pZ; rw [pmul_pZ n, padd_zero pZ_on]
theorem pmul_mod (n : Nat) : pmul bP (n % qL) = pmul bP n := by
  have h := pmul_add base_on (n % qL) (n / qL * qL)
  rw [Nat.div_add_mod' n qL, ← pmul_mul base_on, order_base, pmul_pZ, padd_turn pZ_on (pmul_on base_on _), padd_zero (pmul_on base_on _)] at h
  exact h.symm
theorem pmul_neg {P : Pt} (h : onC P) : ∀ n, padd (pmul P n) (pmul (pneg P) n) = pZ
  | 0 => padd_zero pZ_on
  | n + 1 => by
    have hn := pneg_on h
    have ha := pmul_on h n
    have hb := pmul_on hn n
    show padd (padd P (pmul P n)) (padd (pneg P) (pmul (pneg P) n)) = pZ
    rw [padd_turn hn hb, padd_assoc h ha (padd_on hb hn), ← padd_assoc ha hb hn, pmul_neg h n, padd_turn pZ_on hn, padd_zero hn, padd_neg h]
/-- S times the base and k times the turned key: R. -/
theorem back_base (K A R : Nat) : padd (pmul bP ((K * A + R) % qL)) (pmul (pneg (pmul bP A)) K) = pmul bP R := by
  have hA := pmul_on base_on A
  have hR := pmul_on base_on R
  have hK := pmul_on hA K
  have hN := pmul_on (pneg_on hA) K
  rw [pmul_mod, pmul_add base_on, ← pmul_mul base_on, padd_turn hK hR, padd_assoc hR hK hN, pmul_neg hA, padd_zero hR]
theorem numV_bytesV {n m : Nat} (hm : 32 ≤ m) (h : n < 2 ^ (8 * 32)) : numV (bytesV n) m = n := by
  unfold numV
  rw [bytesV_size, Nat.min_eq_left hm, bv_congr 32 (fun j hj => byteS_bytesV n j hj), bv_bytes]
  exact Nat.mod_eq_of_lt h
theorem qL_M : qL < 2 ^ (8 * 32) := by decide
theorem redV_bytesV {n : Nat} (h : n < 2 ^ (8 * 32)) : L4.redV (bytesV n) = bytesV (n % qL) := by
  unfold L4.redV; rw [numV_bytesV (by decide) h]
theorem redV_size (s : ByteArray) : (L4.redV s).size = 32 := bytesV_size _
theorem maV_size (a b c : ByteArray) : (L4.maV a b c).size = 32 := bytesV_size _
theorem tbV_size (n : ByteArray) : (tbV n).size = 32 := bytesV_size _
theorem firstS_size (s t : ByteArray) : (firstS s t).size = 32 := bytesV_size _
theorem secondS_size (s t : ByteArray) : (secondS s t).size = 32 := bytesV_size _
theorem publicV_size (s : ByteArray) : (publicV s).size = 32 := bytesV_size _
theorem signV_size (s t : ByteArray) : (signV s t).size = 64 := by
  unfold signV; rw [size_append, firstS_size, secondS_size]
theorem preS_size (s : ByteArray) : (preS s).size = 32 := by unfold preS; rw [ByteArray.size_extract, sumV_size]; rfl
theorem half_size (s : ByteArray) : ((sumV (lB s)).extract 0 32).size = 32 := by rw [ByteArray.size_extract, sumV_size]; rfl
theorem app_first (a b : ByteArray) (ha : a.size = 32) : (a ++ b).extract 0 32 = a := by
  rw [← ha]; exact ByteArray.extract_append_eq_left rfl
theorem app_second (a b : ByteArray) (ha : a.size = 32) (hb : b.size = 32) : (a ++ b).extract 32 64 = b := by
  have h := @ByteArray.extract_append_eq_right a b (a.size) (a.size + b.size) rfl rfl
  rw [ha, hb] at h; exact h
theorem sign_first (s t : ByteArray) : (signV s t).extract 0 32 = firstS s t := app_first _ _ (firstS_size s t)
theorem sign_second (s t : ByteArray) : (signV s t).extract 32 64 = secondS s t := app_second _ _ (firstS_size s t) (secondS_size s t)
theorem second_lt (a b c : ByteArray) : (numV a 32 * numV b 32 + numV c 32) % qL < qL := Nat.mod_lt _ (by decide)
theorem ma_num (a b c : ByteArray) : numV (L4.maV a b c) 32 = (numV a 32 * numV b 32 + numV c 32) % qL :=
  numV_bytesV (by decide) (Nat.lt_trans (second_lt a b c) qL_M)
theorem ma_right (a b c : ByteArray) : L4.redV (L4.maV a b c) = L4.maV a b c := by
  show L4.redV (bytesV _) = bytesV _
  rw [redV_bytesV (Nat.lt_trans (second_lt a b c) qL_M), Nat.mod_mod]
theorem public_dec (n : ByteArray) : decV (tbV n) = (pmul bP (numV n 32), true) := dec_enc (pmul_on base_on _)
/-- What is signed is verified. -/
theorem signed (s t : ByteArray) : verV (publicV s) t (signV s t) = true := by
  rw [verV_is (p := publicV s) (P := pmul bP (numV (numS s) 32)) (signV_size s t) (public_dec (numS s)) (by rw [sign_second]; exact ma_right _ _ _)]
  unfold wantV
  rw [sign_first, sign_second]
  rw [show numV (secondS s t) 32 = _ from ma_num _ _ _, back_base]
  exact decide_eq_true rfl
end Go.Proofs.Ytggalphgnloneaa
