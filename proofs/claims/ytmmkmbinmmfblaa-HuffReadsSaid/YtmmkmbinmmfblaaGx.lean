/- Words of 64 bits by the library's calls; numbers by words; a result in a variable of four words. -/
import Derived.Test.YtmmkmbinmmfblaaRows
import Derived.Test.YtmmkmbinmmfblaaGa
import Derived.Laws.Externs
import Derived.Lib.Mul64
import Derived.Lib.Hide
import Derived.BigQuiet
import Derived.Deep.QuietTactic
import Derived.StillTailTactics
import Derived.IntWalk
namespace Go.Proofs.Ytmmkmbinmmfblaa
open Go.RowKit
/-- A word that is a number. -/
def nw (n : Nat) : BitVec 64 := BitVec.ofNat 64 n
theorem nw_nat (n : Nat) (h : n < W64) : (nw n).toNat = n := by unfold nw; rw [BitVec.toNat_ofNat]; exact Nat.mod_eq_of_lt h
theorem nw_nat' (n : Nat) : (nw n).toNat = n % W64 := by unfold nw; rw [BitVec.toNat_ofNat]; rfl
theorem w_lt (x : BitVec 64) : x.toNat < W64 := x.isLt
theorem nw_eq {n : Nat} {x : BitVec 64} (h : n % W64 = x.toNat) : nw n = x := by
  apply BitVec.eq_of_toNat_eq; rw [nw_nat']; exact h
def mulM : BitVec 64 := litw 64 4294967295
def mulT (x y : BitVec 64) : BitVec 64 :=
  addw (mulw (shrw x 32) (andw y mulM)) (shrw (mulw (andw x mulM) (andw y mulM)) 32)
def mulHi (x y : BitVec 64) : BitVec 64 :=
  addw (addw (mulw (shrw x 32) (shrw y 32)) (shrw (mulT x y) 32)) (shrw (addw (andw (mulT x y) mulM) (mulw (andw x mulM) (shrw y 32))) 32)
theorem mul_lo (x y : BitVec 64) : (mulw x y).toNat = x.toNat * y.toNat % W64 := by unfold mulw; rw [BitVec.toNat_mul]; rfl
theorem mul_hi (x y : BitVec 64) : (mulHi x y).toNat = x.toNat * y.toNat / W64 := by
  obtain ⟨h1, h2, h3, h4⟩ := Lib.mul64_hi x.toNat y.toNat x.isLt y.isLt
  have hx := x.isLt
  have hy := y.isLt
  have ba := Lib.half_mul_le (a := x.toNat / 4294967296) (b := y.toNat / 4294967296) (by omega) (by omega)
  have bb := Lib.half_mul_le (a := x.toNat / 4294967296) (b := y.toNat % 4294967296) (by omega) (by omega)
  have bc := Lib.half_mul_le (a := x.toNat % 4294967296) (b := y.toNat / 4294967296) (by omega) (by omega)
  have bd := Lib.half_mul_le (a := x.toNat % 4294967296) (b := y.toNat % 4294967296) (by omega) (by omega)
  have em : ∀ z : BitVec 64, (andw z mulM).toNat = z.toNat % 4294967296 := fun z => by
    unfold andw mulM litw
    rw [BitVec.toNat_and, show (BitVec.ofNat 64 4294967295).toNat = 2 ^ 32 - 1 by rfl, Nat.and_two_pow_sub_one_eq_mod]
  have es : ∀ z : BitVec 64, (shrw z 32).toNat = z.toNat / 4294967296 := fun z => by
    unfold shrw; rw [BitVec.toNat_ushiftRight, Nat.shiftRight_eq_div_pow]
  have hT : (mulT x y).toNat = x.toNat / 4294967296 * (y.toNat % 4294967296) + x.toNat % 4294967296 * (y.toNat % 4294967296) / 4294967296 := by
    unfold mulT addw mulw
    rw [BitVec.toNat_add, es, BitVec.toNat_mul, BitVec.toNat_mul, em, em, es]
    generalize x.toNat / 4294967296 * (y.toNat % 4294967296) = b at *
    generalize x.toNat % 4294967296 * (y.toNat % 4294967296) = d at *
    omega
  unfold mulHi
  rw [show ∀ a b c : BitVec 64, (addw (addw a b) c).toNat = (a.toNat + b.toNat + c.toNat) % 18446744073709551616 from fun a b c => by unfold addw; rw [BitVec.toNat_add, BitVec.toNat_add]; omega]
  rw [es, es, hT, show (addw (andw (mulT x y) mulM) (mulw (andw x mulM) (shrw y 32))).toNat = ((x.toNat / 4294967296 * (y.toNat % 4294967296) + x.toNat % 4294967296 * (y.toNat % 4294967296) / 4294967296) % 4294967296 + x.toNat % 4294967296 * (y.toNat / 4294967296)) by
    unfold addw mulw
    rw [BitVec.toNat_add, em, hT, BitVec.toNat_mul, em, es]
    generalize x.toNat % 4294967296 * (y.toNat / 4294967296) = c at *
    omega]
  rw [show (mulw (shrw x 32) (shrw y 32)).toNat = x.toNat / 4294967296 * (y.toNat / 4294967296) by unfold mulw; rw [BitVec.toNat_mul, es, es]; omega]
  unfold W64
  rw [← h4]
  generalize x.toNat / 4294967296 * (y.toNat / 4294967296) = a at *
  generalize x.toNat / 4294967296 * (y.toNat % 4294967296) = b at *
  generalize x.toNat % 4294967296 * (y.toNat / 4294967296) = c at *
  generalize x.toNat % 4294967296 * (y.toNat % 4294967296) = d at *
  omega
/-- The model's entry for Sub64. -/
def sub64E : Array Value → Sem Value := fun args => do
  let (x, y, b) ← Extern.MathBitsCarry.three "Sub64" args
  pure (Extern.MathBitsCarry.pair ((x + Extern.MathBitsCarry.m64 - y - b) % Extern.MathBitsCarry.m64) (if x < y + b then 1 else 0))
theorem run_sub64E {P : Program} (x y b : Nat) (hb : b ≤ 1) (w : World) :
    (sub64E #[.int .u64 x, .int .u64 y, .int .u64 b]).run P w =
      .ok (.tuple #[.int .u64 (((x + 18446744073709551616 - y - b) % 18446744073709551616 : Nat) : Int), .int .u64 ((if x < y + b then 1 else 0 : Nat) : Int)]) w := by
  have : b = 0 ∨ b = 1 := by omega
  rcases this with rfl | rfl <;> rfl
/-- step: x times y, there and carry. -/
theorem lit0w : Value.int .u64 0 = .int .u64 (iw (litw 64 0)) := by kernel_rfl
theorem F4_zero (k : Nat) : F4 0 k = litw 64 0 := by unfold F4; rw [Nat.zero_div]; rfl
theorem F4_shift (n k : Nat) : F4 (n / W64) k = F4 n (k + 1) := by
  unfold F4; rw [Nat.div_div_eq_div_mul]
  rw [show 64 * (k + 1) = 64 + 64 * k by omega, Nat.pow_add]; rfl
theorem c64_zero (a n : Nat) : Value.int .u64 0 = .int .u64 (iw (c64 a n 0)) := by
  rw [lit0w]; unfold c64; rw [cn_zero]; rfl
theorem F4_word (v : BitVec 64) : F4 v.toNat 0 = v := by
  unfold F4; rw [Nat.mul_zero, Nat.pow_zero, Nat.div_one]; apply BitVec.eq_of_toNat_eq; rw [BitVec.toNat_ofNat]; exact Nat.mod_eq_of_lt v.isLt
theorem F4_word' (v : BitVec 64) (k : Nat) : F4 v.toNat (k + 1) = litw 64 0 := by
  have : v.toNat / 2 ^ (64 * (k + 1)) = 0 := Nat.div_eq_of_lt (Nat.lt_of_lt_of_le v.isLt (Nat.pow_le_pow_right (by decide) (by omega)))
  unfold F4; rw [this]; rfl
theorem row4 (a b c d : BitVec 64) (f : Nat → BitVec 64) (h0 : a = f 0) (h1 : b = f 1) (h2 : c = f 2) (h3 : d = f 3) : #[Value.int .u64 (iw a), .int .u64 (iw b), .int .u64 (iw c), .int .u64 (iw d)] = r64 4 f := by subst h0 h1 h2 h3; rfl
theorem zero4' : #[Value.int .u64 0, .int .u64 0, .int .u64 0, .int .u64 0] = r64 4 fun _ => litw 64 0 := by simp only [r64, iw_zero]; rfl
theorem results_cell_row_slot {P : Program} {fn : Func} {p q : Tmp} {ty : TypeId} (h : fn.results = #[.cell p ty, .tmp q]) (tmps : Array Value) (w : World) (g : Nat) (t : TypeId) (cs : Array Value) (fr : Nat × Nat) (d : TypeDesc) (v : Value)
    (hp : tmps.getD p undef = .pointer (some ⟨g, 0, none⟩)) (hg : w.heap[g]? = some (.cells cs t fr))
    (hu : P.underlying ty = some d) (hd : (match d with | .struct _ | .array _ _ => true | _ => false) = true) (hi : (P.info? ty).map (·.size) = some cs.size) (hq : tmps.getD q undef = v) :
    (results fn tmps).run P w = .ok (.tuple #[.agg cs, v]) w := by
  have hp' : tmps[p]?.getD undef = .pointer (some ⟨g, 0, none⟩) := by simpa using hp
  have hq' : tmps[q]?.getD undef = v := by simpa using hq
  simp [results, h, hp', hq', asAddr, run_loadVar_row w g t ty cs fr d hg hu hd hi]
def gF (n k i : Nat) : BitVec 64 := if i < k then F4 n i else litw 64 0
theorem gF_put (n k i : Nat) : (if i = k then Value.int .u64 (iw (F4 n k)) else Value.int .u64 (iw (gF n k i))) = Value.int .u64 (iw (gF n (k + 1) i)) := by
  unfold gF
  by_cases h : i = k
  · subst h; rw [if_pos rfl, if_pos (by omega)]
  · rw [if_neg h]
    by_cases h2 : i < k
    · rw [if_pos h2, if_pos (by omega)]
    · rw [if_neg h2, if_neg (by omega)]
theorem gF_all (n : Nat) : r64 4 (gF n 4) = r64 4 (F4 n) := row_ext fun i hi => by unfold gF; rw [if_pos hi]
theorem gF_none (n : Nat) : r64 4 (fun _ => litw 64 0) = r64 4 (gF n 0) := row_ext fun i _ => by unfold gF; rw [if_neg (by omega)]
end Go.Proofs.Ytmmkmbinmmfblaa
