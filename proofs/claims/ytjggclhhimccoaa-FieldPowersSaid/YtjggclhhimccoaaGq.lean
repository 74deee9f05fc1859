/- The field's calls in words that no step of a walk opens. -/
import Derived.Test.YtjggclhhimccoaaGp
namespace Go.Proofs.Ytjggclhhimccoaa
open Go.RowKit
def addP (a b : Nat) : Nat := (a + b) % pP
def mulP (a b : Nat) : Nat := a * b % pP
def negP (a : Nat) : Nat := (pP - a % pP) % pP
def subP (a b : Nat) : Nat := (a + (pP - b % pP)) % pP
def invP (a : Nat) : Nat := a ^ (pP - 2) % pP
def powP (a e : Nat) : Nat := a ^ e % pP
theorem addP_lt (a b : Nat) : addP a b < M256 := mod_lt_M _
theorem mulP_lt (a b : Nat) : mulP a b < M256 := mod_lt_M _
theorem negP_lt (a : Nat) : negP a < M256 := mod_lt_M _
theorem subP_lt (a b : Nat) : subP a b < M256 := mod_lt_M _
theorem invP_lt (a : Nat) : invP a < M256 := mod_lt_M _
theorem powP_lt (a e : Nat) : powP a e < M256 := mod_lt_M _
theorem faddP (a b : Nat) (w : World) (ha : a < M256) (hb : b < M256) :
    Calls Try.prog 12 #[.agg (r64 4 (F4 a)), .agg (r64 4 (F4 b))] w fun e w' => e = .returned (.agg (r64 4 (F4 (addP a b)))) ∧ Below w.heap.size w w' := fadd_any a b w ha hb
theorem fmulP (a b : Nat) (w : World) (ha : a < M256) (hb : b < M256) :
    Calls Try.prog 16 #[.agg (r64 4 (F4 a)), .agg (r64 4 (F4 b))] w fun e w' => e = .returned (.agg (r64 4 (F4 (mulP a b)))) ∧ Below w.heap.size w w' := fmul_any a b w ha hb
theorem fsubP (a b : Nat) (w : World) (ha : a < M256) (hb : b < M256) :
    Calls Try.prog 14 #[.agg (r64 4 (F4 a)), .agg (r64 4 (F4 b))] w fun e w' => e = .returned (.agg (r64 4 (F4 (subP a b)))) ∧ Below w.heap.size w w' := fsub_any a b w ha hb
theorem fnegP (a : Nat) (w : World) (ha : a < M256) :
    Calls Try.prog 18 #[.agg (r64 4 (F4 a))] w fun e w' => e = .returned (.agg (r64 4 (F4 (negP a)))) ∧ Below w.heap.size w w' := fneg_any a w ha
theorem finvP (a : Nat) (w : World) (ha : a < M256) :
    Calls Try.prog 34 #[.agg (r64 4 (F4 a))] w fun e w' => e = .returned (.agg (r64 4 (F4 (invP a)))) ∧ Below w.heap.size w w' := finv_any a w ha
theorem fpowP (a e : Nat) (w : World) (ha : a < M256) (he : e < M256) :
    Calls Try.prog 32 #[.agg (r64 4 (F4 a)), .agg (r64 4 (F4 e))] w fun e' w' => e' = .returned (.agg (r64 4 (F4 (powP a e)))) ∧ Below w.heap.size w w' := fpow_any a e w ha he
def oddP (a : Nat) : Bool := oddB (a % pP)
theorem foddP (a : Nat) (w : World) (ha : a < M256) :
    Calls Try.prog 24 #[.agg (r64 4 (F4 a))] w fun e w' => e = .returned (.bool (oddP a)) ∧ Below w.heap.size w w' := fodd_any a w ha
theorem foddB (a : Nat) (w : World) (ha : a < M256) (b : Bool) (h : oddP a = b) :
    Calls Try.prog 24 #[.agg (r64 4 (F4 a))] w fun e w' => e = .returned (.bool b) ∧ Below w.heap.size w w' := by
  subst h; exact foddP a w ha
end Go.Proofs.Ytjggclhhimccoaa
