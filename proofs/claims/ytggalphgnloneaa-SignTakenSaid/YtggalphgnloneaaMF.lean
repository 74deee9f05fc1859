/- The document's answer to chapter 3: less. -/
import Derived.Test.YtggalphgnloneaaMA
import Derived.Deep.RegionHeld3
import Derived.Deep.LoopGhost
import Derived.Deep.RegionLaw
import Derived.BigRegion
import Derived.StillTailTactics
namespace Go.Proofs.Ytggalphgnloneaa
open Go.RowKit
theorem div_split (a k : Nat) : a / 2 ^ (32 * (k + 1)) = a / 2 ^ (32 * k) / 4294967296 := by
  rw [Nat.mul_succ, Nat.pow_add, Nat.div_div_eq_div_mul]
theorem less_step (a b k : Nat) (h : a / 2 ^ (32 * (k + 1)) = b / 2 ^ (32 * (k + 1))) (e : N8 a k = N8 b k) : a / 2 ^ (32 * k) = b / 2 ^ (32 * k) := by
  have e' := congrArg BitVec.toNat e
  rw [N8_nat, N8_nat] at e'
  rw [div_split, div_split] at h
  omega
theorem less_diff (a b k : Nat) (h : a / 2 ^ (32 * (k + 1)) = b / 2 ^ (32 * (k + 1))) (e : N8 a k ≠ N8 b k) : (N8 a k).toNat < (N8 b k).toNat ↔ a < b := by
  have e' : (N8 a k).toNat ≠ (N8 b k).toNat := fun z => e (BitVec.eq_of_toNat_eq z)
  rw [N8_nat, N8_nat] at *
  rw [div_split, div_split] at h
  have h1 : a ≤ b → a / 2 ^ (32 * k) ≤ b / 2 ^ (32 * k) := fun z => Nat.div_le_div_right z
  have h2 : b ≤ a → b / 2 ^ (32 * k) ≤ a / 2 ^ (32 * k) := fun z => Nat.div_le_div_right z
  constructor
  · intro z
    rcases Nat.lt_or_ge a b with c | c
    · exact c
    · have := h2 c; omega
  · intro z
    have := h1 (by omega); omega
theorem iw_ltN {n : Nat} (x y : BitVec n) : (iw x < iw y) ↔ (x.toNat < y.toNat) := by
  unfold iw; exact Int.ofNat_lt
theorem iw_inj {n : Nat} {x y : BitVec n} (h : iw x = iw y) : x = y := by
  unfold iw at h; exact BitVec.eq_of_toNat_eq (Int.ofNat.inj h)
end Go.Proofs.Ytggalphgnloneaa
/- The document's answer to chapter 3: below. -/
namespace Go.Proofs.Ytggalphgnloneaa
open Go.RowKit
theorem step_store_row {P : Program} {ops : Array Oper} {o : Oper} {a : Act} {w : World} {K : Act → World → Prop} {Q : Exit → Act → World → Prop} {E : Prop} (hgd : o.guard = none) (ty : TypeId) (x y : Operand) (ho : o.op = .store ty x y)
    (g : Nat) (cs : Array Value) (hx : a.eval x = .pointer (some ⟨g, 0, none⟩)) (hy : a.eval y = .agg cs) (t : TypeId) (old : Array Value) (hg : Blk w g t old) (hold : old.size = cs.size)
    (hi : (P.info? ty).map (·.size) = some cs.size) (h1 : cs.all (·.oneCell') = true)
    (h : K (a.put o.dst undef) (w.setRow g cs)) : if Region.wanted o (yielded ops a.tmps) = true then Oper.wp P o a w K Q else E := by
  rw [if_pos (by simp [Region.wanted, hgd])]
  exact wp_store_row ty x y ho g cs hx hy t old hg hi hold h1 h
theorem N8_turn (x k : Nat) (hk : k < 8) : N8 (x + M256) k = N8 x k := by
  apply BitVec.eq_of_toNat_eq
  rw [N8_nat, N8_nat]
  unfold M256
  match k, hk with
  | 0, _ => simp only [Nat.reduceMul, Nat.reducePow]; omega
  | 1, _ => simp only [Nat.reduceMul, Nat.reducePow]; omega
  | 2, _ => simp only [Nat.reduceMul, Nat.reducePow]; omega
  | 3, _ => simp only [Nat.reduceMul, Nat.reducePow]; omega
  | 4, _ => simp only [Nat.reduceMul, Nat.reducePow]; omega
  | 5, _ => simp only [Nat.reduceMul, Nat.reducePow]; omega
  | 6, _ => simp only [Nat.reduceMul, Nat.reducePow]; omega
  | 7, _ => simp only [Nat.reduceMul, Nat.reducePow]; omega
end Go.Proofs.Ytggalphgnloneaa
/- The document's answer to chapter 3: digits, words. -/
namespace Go.Proofs.Ytggalphgnloneaa
open Go.RowKit
theorem pow_word (k : Nat) : 2 ^ (64 * k) = 2 ^ (32 * (2 * k)) := by rw [show 64 * k = 32 * (2 * k) by omega]
theorem digit_lo (a k : Nat) : castw 32 (F4 a k) = N8 a (2 * k) := by
  apply BitVec.eq_of_toNat_eq
  unfold castw
  rw [BitVec.toNat_ofNat, F4_nat, N8_nat, pow_word]
  omega
theorem digit_hi (a k : Nat) : castw 32 (shrw (F4 a k) 32) = N8 a (2 * k + 1) := by
  apply BitVec.eq_of_toNat_eq
  unfold castw shrw
  rw [BitVec.toNat_ofNat, BitVec.toNat_ushiftRight, Nat.shiftRight_eq_div_pow, F4_nat, N8_nat, pow_word, div_split]
  omega
theorem word_of (a k : Nat) : orw (castw 64 (N8 a (2 * k))) (shlw (castw 64 (N8 a (2 * k + 1))) 32) = F4 a k := by
  apply BitVec.eq_of_toNat_eq
  have h1 : (castw 64 (N8 a (2 * k))).toNat = a / 2 ^ (64 * k) % 4294967296 := by
    unfold castw; rw [BitVec.toNat_ofNat, N8_nat, pow_word]; omega
  have h2 : (castw 64 (N8 a (2 * k + 1))).toNat = a / 2 ^ (64 * k) / 4294967296 % 4294967296 := by
    unfold castw; rw [BitVec.toNat_ofNat, N8_nat, div_split, pow_word]; omega
  unfold orw shlw
  rw [BitVec.toNat_or, BitVec.toNat_shiftLeft, h1, h2, F4_nat, Nat.or_comm, Nat.mod_eq_of_lt (by rw [Nat.shiftLeft_eq]; omega),
    ← Nat.shiftLeft_add_eq_or_of_lt (by omega), Nat.shiftLeft_eq]
  omega
/-- The first m digits, and 0 behind them. -/
def dF (a m i : Nat) : BitVec 32 := if i < m then N8 a i else litw 32 0
theorem dF_put (a m i : Nat) : (if i = m then Value.int .u32 (iw (N8 a m)) else .int .u32 (iw (dF a m i))) = .int .u32 (iw (dF a (m + 1) i)) := by
  unfold dF
  by_cases h1 : i = m
  · subst h1; rw [if_pos rfl, if_pos (by omega)]
  · rw [if_neg h1]
    by_cases h2 : i < m
    · rw [if_pos h2, if_pos (by omega)]
    · rw [if_neg h2, if_neg (by omega)]
end Go.Proofs.Ytggalphgnloneaa
/- The document's answer to chapter 3: words, Small. -/
namespace Go.Proofs.Ytggalphgnloneaa
open Go.RowKit
def wF (a m i : Nat) : BitVec 64 := if i < m then F4 a i else litw 64 0
theorem wF_put (a m i : Nat) : (if i = m then Value.int .u64 (iw (F4 a m)) else .int .u64 (iw (wF a m i))) = .int .u64 (iw (wF a (m + 1) i)) := by
  unfold wF
  by_cases h1 : i = m
  · subst h1; rw [if_pos rfl, if_pos (by omega)]
  · rw [if_neg h1]
    by_cases h2 : i < m
    · rw [if_pos h2, if_pos (by omega)]
    · rw [if_neg h2, if_neg (by omega)]
theorem zero4 : #[Value.int .u64 0, .int .u64 0, .int .u64 0, .int .u64 0] = r64 4 fun _ => litw 64 0 := by simp only [r64, iw_zero]; rfl
end Go.Proofs.Ytggalphgnloneaa
/- The document's answer to chapter 3: Add. -/
namespace Go.Proofs.Ytggalphgnloneaa
open Go.RowKit
/-- What the sum of the first k digits carries. -/
def cy (x y k : Nat) : BitVec 64 := BitVec.ofNat 64 ((x % 2 ^ (32 * k) + y % 2 ^ (32 * k)) / 2 ^ (32 * k))
def sx (x y k : Nat) : BitVec 64 := addw (addw (castw 64 (N8 x k)) (castw 64 (N8 y k))) (cy x y k)
theorem cy_le (q a b : Nat) (hq : 0 < q) : (a % q + b % q) / q ≤ 1 := by
  have h1 := Nat.mod_lt a hq
  have h2 := Nat.mod_lt b hq
  have : (a % q + b % q) / q < 2 := Nat.div_lt_of_lt_mul (by omega)
  omega
theorem sx_nat (x y k : Nat) : (sx x y k).toNat = x / 2 ^ (32 * k) % 4294967296 + y / 2 ^ (32 * k) % 4294967296 + (x % 2 ^ (32 * k) + y % 2 ^ (32 * k)) / 2 ^ (32 * k) := by
  have h0 := cy_le (2 ^ (32 * k)) x y (Nat.pow_pos (by decide))
  have h1 : (castw 64 (N8 x k)).toNat = x / 2 ^ (32 * k) % 4294967296 := by
    unfold castw; rw [BitVec.toNat_ofNat, N8_nat]; omega
  have h2 : (castw 64 (N8 y k)).toNat = y / 2 ^ (32 * k) % 4294967296 := by
    unfold castw; rw [BitVec.toNat_ofNat, N8_nat]; omega
  have h3 : (cy x y k).toNat = (x % 2 ^ (32 * k) + y % 2 ^ (32 * k)) / 2 ^ (32 * k) := by
    unfold cy; rw [BitVec.toNat_ofNat]; exact Nat.mod_eq_of_lt (Nat.lt_of_le_of_lt h0 (by decide))
  unfold sx addw
  rw [BitVec.toNat_add, BitVec.toNat_add, h1, h2, h3]
  generalize (x % 2 ^ (32 * k) + y % 2 ^ (32 * k)) / 2 ^ (32 * k) = c at h0 ⊢
  omega
theorem sum_div (x y q : Nat) (hq : 0 < q) : (x + y) / q = x / q + y / q + (x % q + y % q) / q := by
  have e : x + y = (x % q + y % q) + (x / q + y / q) * q := by
    have h1 := Nat.mod_add_div x q
    have h2 := Nat.mod_add_div y q
    rw [Nat.add_mul, Nat.mul_comm (x / q), Nat.mul_comm (y / q)]; omega
  rw [e, Nat.add_mul_div_right _ _ hq]
  have e1 : ((x % q + y % q) + (x / q + y / q) * q) = x + y := e.symm
  omega
theorem sx_digit (x y k : Nat) : castw 32 (sx x y k) = N8 (x + y) k := by
  apply BitVec.eq_of_toNat_eq
  unfold castw
  rw [BitVec.toNat_ofNat, sx_nat, N8_nat, sum_div x y _ (Nat.pow_pos (by decide))]
  generalize (x % 2 ^ (32 * k) + y % 2 ^ (32 * k)) / 2 ^ (32 * k) = c
  omega
theorem mod_split (a k : Nat) : a % 2 ^ (32 * (k + 1)) = a % 2 ^ (32 * k) + 2 ^ (32 * k) * (a / 2 ^ (32 * k) % 4294967296) := by
  rw [Nat.mul_succ, Nat.pow_add, Nat.mod_mul]
theorem sx_carry (x y k : Nat) : shrw (sx x y k) 32 = cy x y (k + 1) := by
  apply BitVec.eq_of_toNat_eq
  have h0 := cy_le (2 ^ (32 * (k + 1))) x y (Nat.pow_pos (by decide))
  have hq : 0 < 2 ^ (32 * k) := Nat.pow_pos (by decide)
  have h3 : (cy x y (k + 1)).toNat = (x % 2 ^ (32 * (k + 1)) + y % 2 ^ (32 * (k + 1))) / 2 ^ (32 * (k + 1)) := by
    unfold cy; rw [BitVec.toNat_ofNat]; exact Nat.mod_eq_of_lt (Nat.lt_of_le_of_lt h0 (by decide))
  rw [h3, div_split, mod_split, mod_split]
  unfold shrw
  rw [BitVec.toNat_ushiftRight, Nat.shiftRight_eq_div_pow, sx_nat]
  generalize 2 ^ (32 * k) = q at hq ⊢
  have e : x % q + q * (x / q % 4294967296) + (y % q + q * (y / q % 4294967296)) = (x % q + y % q) + (x / q % 4294967296 + y / q % 4294967296) * q := by
    rw [Nat.add_mul, Nat.mul_comm q, Nat.mul_comm q]; omega
  rw [e, Nat.add_mul_div_right _ _ hq]
  generalize (x % q + y % q) / q = c
  rw [show c + (x / q % 4294967296 + y / q % 4294967296) = x / q % 4294967296 + y / q % 4294967296 + c by omega]
theorem cy_zero (x y : Nat) : Value.int .u64 0 = .int .u64 (iw (cy x y 0)) := by
  have : cy x y 0 = litw 64 0 := by unfold cy; simp [Nat.mod_one]; rfl
  rw [this, iw_zero]
end Go.Proofs.Ytggalphgnloneaa
/- The document's answer to chapter 3: Add, the walk. -/
namespace Go.Proofs.Ytggalphgnloneaa
open Go.RowKit
structure A2 (a b : Nat) (w wr : World) : Prop where
  da : Blk wr w.heap.size 38 (r64 4 (F4 a))
  db : Blk wr (w.heap.size + 1) 38 (r64 4 (F4 b))
  r : Blk wr (w.heap.size + 2) 38 (r64 4 fun _ => litw 64 0)
  l : Below w.heap.size w wr
theorem A2.below {a b : Nat} {w wr w' : World} (h : A2 a b w wr) (hb : Below wr.heap.size wr w') : A2 a b w w' := ⟨h.da.below hb h.da.lt, h.db.below hb h.db.lt, h.r.below hb h.r.lt, h.l.trans (hb.mono h.l.size)⟩
end Go.Proofs.Ytggalphgnloneaa
/- The document's answer to chapter 3: Small, Odd. -/
namespace Go.Proofs.Ytggalphgnloneaa
open Go.RowKit
theorem F4_small (n : Nat) (hn : n < 18446744073709551616) (i : Nat) (hi : i < 4) : F4 n i = if i = 0 then BitVec.ofNat 64 n else litw 64 0 := by
  apply BitVec.eq_of_toNat_eq
  rw [F4_nat]
  match i, hi with
  | 0, _ => rw [if_pos rfl, BitVec.toNat_ofNat]; simp only [Nat.reduceMul, Nat.reducePow]; omega
  | 1, _ => rw [if_neg (by omega)]; simp only [Nat.reduceMul, Nat.reducePow]; show _ = 0; omega
  | 2, _ => rw [if_neg (by omega)]; simp only [Nat.reduceMul, Nat.reducePow]; show _ = 0; omega
  | 3, _ => rw [if_neg (by omega)]; simp only [Nat.reduceMul, Nat.reducePow]; show _ = 0; omega
theorem small_row (n : Nat) (hn : n < 18446744073709551616) : #[Value.int .u64 (iw (BitVec.ofNat 64 n)), .int .u64 0, .int .u64 0, .int .u64 0] = r64 4 (F4 n) := by
  have e : r64 4 (F4 n) = r64 4 (fun i => if i = 0 then BitVec.ofNat 64 n else litw 64 0) := row_ext fun i hi => by rw [F4_small n hn i hi]
  rw [e]
  have z : (0 : Int) = iw (litw 64 0) := (iw_zero 64).symm
  rw [z]
  rfl
end Go.Proofs.Ytggalphgnloneaa
/- The document's answer to chapter 3: fold, the arithmetic: 2^256 is 38 modulo p. -/
namespace Go.Proofs.Ytggalphgnloneaa
open Go.RowKit
/-- A number of 512 bits by its digits, as words. -/
def D64 (c i : Nat) : BitVec 64 := BitVec.ofNat 64 (c / 2 ^ (32 * i) % 4294967296)
def foldV (c : Nat) : Nat := c % M256 + 38 * (c / M256)
theorem fold_mod (c : Nat) : foldV c % pP = c % pP := by
  have h := Nat.mod_add_div c M256
  have e : c = foldV c + 2 * pP * (c / M256) := by
    unfold foldV
    have : M256 = 38 + 2 * pP := by unfold M256 pP; rfl
    generalize c / M256 = q at h ⊢
    generalize c % M256 = r at h ⊢
    rw [this] at h
    rw [← h, Nat.add_mul]; omega
  have e2 : c % pP = (foldV c + pP * (2 * (c / M256))) % pP := by
    rw [show pP * (2 * (c / M256)) = 2 * pP * (c / M256) by rw [Nat.mul_left_comm, Nat.mul_assoc]]
    exact congrArg (· % pP) e
  rw [e2, Nat.add_mul_mod_self_left]
/-- The carry behind k digits of A + 38 B. -/
def fc (A B k : Nat) : Nat := (A % 2 ^ (32 * k) + 38 * (B % 2 ^ (32 * k))) / 2 ^ (32 * k)
theorem fc_le (A B k : Nat) : fc A B k ≤ 38 := by
  unfold fc
  have hq : 0 < 2 ^ (32 * k) := Nat.pow_pos (by decide)
  generalize 2 ^ (32 * k) = q at hq ⊢
  have h1 := Nat.mod_lt A hq
  have h2 := Nat.mod_lt B hq
  have : (A % q + 38 * (B % q)) / q < 39 := Nat.div_lt_of_lt_mul (by omega)
  omega
theorem fsum_div (A B q : Nat) (hq : 0 < q) : (A + 38 * B) / q = A / q + 38 * (B / q) + (A % q + 38 * (B % q)) / q := by
  have h1 := Nat.mod_add_div A q
  have h2 := Nat.mod_add_div B q
  have e : A + 38 * B = (A % q + 38 * (B % q)) + (A / q + 38 * (B / q)) * q := by
    rw [Nat.add_mul, Nat.mul_assoc, Nat.mul_comm (A / q), Nat.mul_comm (B / q)]; omega
  have e3 := congrArg (· / q) e
  simp only [Nat.add_mul_div_right _ _ hq] at e3
  omega
theorem f_digit (A B k : Nat) : (A / 2 ^ (32 * k) % 4294967296 + 38 * (B / 2 ^ (32 * k) % 4294967296) + fc A B k) % 4294967296 = (A + 38 * B) / 2 ^ (32 * k) % 4294967296 := by
  rw [fsum_div A B _ (Nat.pow_pos (by decide))]
  unfold fc
  generalize (A % 2 ^ (32 * k) + 38 * (B % 2 ^ (32 * k))) / 2 ^ (32 * k) = c
  omega
theorem f_carry (A B k : Nat) : (A / 2 ^ (32 * k) % 4294967296 + 38 * (B / 2 ^ (32 * k) % 4294967296) + fc A B k) / 4294967296 = fc A B (k + 1) := by
  have hq : 0 < 2 ^ (32 * k) := Nat.pow_pos (by decide)
  unfold fc
  rw [mod_split, mod_split, Nat.mul_succ 32 k, Nat.pow_add, ← Nat.div_div_eq_div_mul]
  generalize 2 ^ (32 * k) = q at hq ⊢
  have e : A % q + q * (A / q % 4294967296) + 38 * (B % q + q * (B / q % 4294967296)) = (A % q + 38 * (B % q)) + (A / q % 4294967296 + 38 * (B / q % 4294967296)) * q := by
    rw [Nat.add_mul, Nat.mul_assoc, Nat.mul_comm (A / q % 4294967296), Nat.mul_comm (B / q % 4294967296)]; omega
  rw [e, Nat.add_mul_div_right _ _ hq]
  show _ = ((A % q + 38 * (B % q)) / q + _) / 4294967296
  congr 1
  omega
end Go.Proofs.Ytggalphgnloneaa
/- The document's answer to chapter 3: fold, the words. -/
namespace Go.Proofs.Ytggalphgnloneaa
open Go.RowKit
def cw (A B k : Nat) : BitVec 64 := BitVec.ofNat 64 (fc A B k)
def fs (c k : Nat) : BitVec 64 := addw (addw (D64 c k) (mulw (D64 c (k + 8)) (litw 64 38))) (cw (c % M256) (c / M256) k)
theorem D64_lo (c k : Nat) (hk : k < 8) : (D64 c k).toNat = c % M256 / 2 ^ (32 * k) % 4294967296 := by
  unfold D64
  rw [BitVec.toNat_ofNat]
  unfold M256
  match k, hk with
  | 0, _ => simp only [Nat.reduceMul, Nat.reducePow]; omega
  | 1, _ => simp only [Nat.reduceMul, Nat.reducePow]; omega
  | 2, _ => simp only [Nat.reduceMul, Nat.reducePow]; omega
  | 3, _ => simp only [Nat.reduceMul, Nat.reducePow]; omega
  | 4, _ => simp only [Nat.reduceMul, Nat.reducePow]; omega
  | 5, _ => simp only [Nat.reduceMul, Nat.reducePow]; omega
  | 6, _ => simp only [Nat.reduceMul, Nat.reducePow]; omega
  | 7, _ => simp only [Nat.reduceMul, Nat.reducePow]; omega
theorem D64_hi (c k : Nat) : (D64 c (k + 8)).toNat = c / M256 / 2 ^ (32 * k) % 4294967296 := by
  have : 2 ^ (32 * (k + 8)) = M256 * 2 ^ (32 * k) := by rw [Nat.mul_add, Nat.pow_add, Nat.mul_comm]; rfl
  unfold D64
  rw [BitVec.toNat_ofNat, this, ← Nat.div_div_eq_div_mul]
  omega
theorem fs_nat (c k : Nat) (hk : k < 8) : (fs c k).toNat = c % M256 / 2 ^ (32 * k) % 4294967296 + 38 * (c / M256 / 2 ^ (32 * k) % 4294967296) + fc (c % M256) (c / M256) k := by
  have h0 := fc_le (c % M256) (c / M256) k
  have h3 : (cw (c % M256) (c / M256) k).toNat = fc (c % M256) (c / M256) k := by
    unfold cw; rw [BitVec.toNat_ofNat]; exact Nat.mod_eq_of_lt (Nat.lt_of_le_of_lt h0 (by decide))
  have h4 : (litw 64 38).toNat = 38 := by unfold litw; rfl
  unfold fs addw mulw
  rw [BitVec.toNat_add, BitVec.toNat_add, BitVec.toNat_mul, D64_lo c k hk, D64_hi, h3, h4]
  generalize fc (c % M256) (c / M256) k = f at h0 ⊢
  have h5 : c % M256 / 2 ^ (32 * k) % 4294967296 < 4294967296 := Nat.mod_lt _ (by decide)
  have h6 : c / M256 / 2 ^ (32 * k) % 4294967296 < 4294967296 := Nat.mod_lt _ (by decide)
  generalize c % M256 / 2 ^ (32 * k) % 4294967296 = u at h5 ⊢
  generalize c / M256 / 2 ^ (32 * k) % 4294967296 = v at h6 ⊢
  omega
theorem fs_digit (c k : Nat) (hk : k < 8) : castw 32 (fs c k) = N8 (foldV c) k := by
  apply BitVec.eq_of_toNat_eq
  unfold castw
  rw [BitVec.toNat_ofNat, fs_nat c k hk, N8_nat]
  exact f_digit _ _ _
theorem fs_carry (c k : Nat) (hk : k < 8) : shrw (fs c k) 32 = cw (c % M256) (c / M256) (k + 1) := by
  apply BitVec.eq_of_toNat_eq
  have h0 := fc_le (c % M256) (c / M256) (k + 1)
  unfold shrw cw
  rw [BitVec.toNat_ushiftRight, Nat.shiftRight_eq_div_pow, fs_nat c k hk, BitVec.toNat_ofNat]
  rw [show (2 : Nat) ^ 32 = 4294967296 by rfl, f_carry]
  exact (Nat.mod_eq_of_lt (Nat.lt_of_le_of_lt h0 (by decide))).symm
theorem cw_zero (A B : Nat) : Value.int .u64 0 = .int .u64 (iw (cw A B 0)) := by
  have : cw A B 0 = litw 64 0 := by unfold cw fc; simp [Nat.mod_one]; rfl
  rw [this, iw_zero]
/-- The carry at the end: what stands above 2^256. -/
theorem cw_end (c : Nat) (hc : c < M256 * M256) : cw (c % M256) (c / M256) 8 = BitVec.ofNat 64 (foldV c / M256) := by
  unfold cw fc foldV
  have h1 : c % M256 < M256 := Nat.mod_lt _ (by decide)
  have h2 : c / M256 < M256 := Nat.div_lt_of_lt_mul hc
  have : 2 ^ (32 * 8) = M256 := by rfl
  rw [this, Nat.mod_eq_of_lt h1, Nat.mod_eq_of_lt h2]
/- The second loop: what is above 2^256 goes in, 38 times. -/
def tc (V k : Nat) : BitVec 64 := BitVec.ofNat 64 ((38 * (V / M256) + V % 2 ^ (32 * k)) / 2 ^ (32 * k))
def ts (V k : Nat) : BitVec 64 := addw (tc V k) (castw 64 (N8 V k))
theorem lo_eq (V k : Nat) (hk : k < 8) : V % M256 / 2 ^ (32 * k) % 4294967296 = V / 2 ^ (32 * k) % 4294967296 := by
  rw [← D64_lo V k hk]
  unfold D64
  rw [BitVec.toNat_ofNat]; omega
theorem mod_lo (V k : Nat) (hk : k ≤ 8) : V % M256 % 2 ^ (32 * k) = V % 2 ^ (32 * k) :=
  Nat.mod_mod_of_dvd _ (by
    have : M256 = 2 ^ 256 := by rfl
    rw [this]; exact Nat.pow_dvd_pow 2 (by omega))
theorem tc_le (V k : Nat) (hV : V < 40 * M256) : (38 * (V / M256) + V % 2 ^ (32 * k)) / 2 ^ (32 * k) ≤ 1482 := by
  have hc : V / M256 < 40 := Nat.div_lt_of_lt_mul (by rw [Nat.mul_comm]; exact hV)
  have hq : 0 < 2 ^ (32 * k) := Nat.pow_pos (by decide)
  generalize 2 ^ (32 * k) = q at hq ⊢
  generalize V / M256 = d at hc ⊢
  have h1 := Nat.mod_lt V hq
  have : (38 * d + V % q) / q < 1483 := Nat.div_lt_of_lt_mul (by
    have : 38 * d + V % q < 1482 + q := by omega
    have h3 : 1482 + q ≤ q * 1483 := by
      have := Nat.mul_le_mul_right 1482 hq
      omega
    omega)
  omega
theorem ts_nat (V k : Nat) (hV : V < 40 * M256) : (ts V k).toNat = (38 * (V / M256) + V % 2 ^ (32 * k)) / 2 ^ (32 * k) + V / 2 ^ (32 * k) % 4294967296 := by
  have h0 := tc_le V k hV
  have h1 : (tc V k).toNat = (38 * (V / M256) + V % 2 ^ (32 * k)) / 2 ^ (32 * k) := by
    unfold tc; rw [BitVec.toNat_ofNat]; exact Nat.mod_eq_of_lt (Nat.lt_of_le_of_lt h0 (by decide))
  have h2 : (castw 64 (N8 V k)).toNat = V / 2 ^ (32 * k) % 4294967296 := by
    unfold castw; rw [BitVec.toNat_ofNat, N8_nat]; omega
  unfold ts addw
  rw [BitVec.toNat_add, h1, h2]
  generalize (38 * (V / M256) + V % 2 ^ (32 * k)) / 2 ^ (32 * k) = d at h0 ⊢
  omega
theorem ts_digit (V k : Nat) (hk : k < 8) (hV : V < 40 * M256) : castw 32 (ts V k) = N8 (foldV V) k := by
  apply BitVec.eq_of_toNat_eq
  unfold castw
  rw [BitVec.toNat_ofNat, ts_nat V k hV, N8_nat]
  have hq : 0 < 2 ^ (32 * k) := Nat.pow_pos (by decide)
  have e1 := lo_eq V k hk
  have e2 := mod_lo V k (by omega)
  unfold foldV
  generalize 2 ^ (32 * k) = q at hq e1 e2 ⊢
  have e3 : V % M256 + 38 * (V / M256) = (38 * (V / M256) + V % q) + (V % M256 / q) * q := by
    have := Nat.mod_add_div (V % M256) q
    rw [e2] at this
    rw [Nat.mul_comm (V % M256 / q)]; omega
  rw [e3, Nat.add_mul_div_right _ _ hq]
  generalize (38 * (V / M256) + V % q) / q = d
  omega
theorem ts_carry (V k : Nat) (_hk : k < 8) (hV : V < 40 * M256) : shrw (ts V k) 32 = tc V (k + 1) := by
  apply BitVec.eq_of_toNat_eq
  have h0 := tc_le V (k + 1) hV
  unfold shrw
  rw [BitVec.toNat_ushiftRight, Nat.shiftRight_eq_div_pow, ts_nat V k hV]
  have h1 : (tc V (k + 1)).toNat = (38 * (V / M256) + V % 2 ^ (32 * (k + 1))) / 2 ^ (32 * (k + 1)) := by
    unfold tc; rw [BitVec.toNat_ofNat]; exact Nat.mod_eq_of_lt (Nat.lt_of_le_of_lt h0 (by decide))
  rw [h1, mod_split, Nat.mul_succ 32 k, Nat.pow_add, ← Nat.div_div_eq_div_mul]
  have hq : 0 < 2 ^ (32 * k) := Nat.pow_pos (by decide)
  generalize 2 ^ (32 * k) = q at hq ⊢
  have e : 38 * (V / M256) + (V % q + q * (V / q % 4294967296)) = (38 * (V / M256) + V % q) + (V / q % 4294967296) * q := by
    rw [Nat.mul_comm (V / q % 4294967296)]; omega
  rw [e, Nat.add_mul_div_right _ _ hq]
theorem tc_start (V : Nat) (hV : V < 40 * M256) : mulw (BitVec.ofNat 64 (V / M256)) (litw 64 38) = tc V 0 := by
  apply BitVec.eq_of_toNat_eq
  have hc : V / M256 < 40 := Nat.div_lt_of_lt_mul (by rw [Nat.mul_comm]; exact hV)
  have h4 : (litw 64 38).toNat = 38 := by unfold litw; rfl
  unfold mulw tc
  rw [BitVec.toNat_mul, h4, BitVec.toNat_ofNat, BitVec.toNat_ofNat]
  simp only [Nat.mul_zero, Nat.pow_zero, Nat.mod_one, Nat.div_one, Nat.add_zero]
  generalize V / M256 = d at hc ⊢
  omega
theorem tc_end (V : Nat) : tc V 8 = BitVec.ofNat 64 (foldV V / M256) := by
  unfold tc foldV
  have : 2 ^ (32 * 8) = M256 := by rfl
  rw [this, Nat.add_comm]
theorem foldV_lt (V : Nat) (h : M256 ≤ V) : foldV V < V := by
  have h1 := Nat.mod_add_div V M256
  have h2 : 0 < V / M256 := Nat.div_pos h (by decide)
  unfold foldV
  have h3 : 38 * (V / M256) < M256 * (V / M256) := Nat.mul_lt_mul_of_pos_right (by decide) h2
  omega
end Go.Proofs.Ytggalphgnloneaa
/- The document's answer to chapter 3: fold, the walk. -/
namespace Go.Proofs.Ytggalphgnloneaa
open Go.RowKit
/-- The digits of T up to k, of V behind. -/
def oFl (V T k i : Nat) : BitVec 32 := if i < k then N8 T i else N8 V i
theorem oFl_put (V T m i : Nat) : (if i = m then Value.int .u32 (iw (N8 T m)) else .int .u32 (iw (oFl V T m i))) = .int .u32 (iw (oFl V T (m + 1) i)) := by
  unfold oFl
  by_cases h1 : i = m
  · subst h1; rw [if_pos rfl, if_pos (by omega)]
  · rw [if_neg h1]
    by_cases h2 : i < m
    · rw [if_pos h2, if_pos (by omega)]
    · rw [if_neg h2, if_neg (by omega)]
theorem foldV_lt40 (c : Nat) (hc : c < M256 * M256) : foldV c < 40 * M256 := by
  have h1 : c % M256 < M256 := Nat.mod_lt _ (by decide)
  have h2 : c / M256 < M256 := Nat.div_lt_of_lt_mul hc
  unfold foldV; omega
end Go.Proofs.Ytggalphgnloneaa
/- The document's answer to chapter 3: Mul, the arithmetic. -/
namespace Go.Proofs.Ytggalphgnloneaa
open Go.RowKit
/-- The carry at place i + k, when to Q, with X times y at place i, k digits of y are in. -/
def mc (Q X y i k : Nat) : Nat := (Q % 2 ^ (32 * (i + k)) + X * (y % 2 ^ (32 * k)) * 2 ^ (32 * i)) / 2 ^ (32 * (i + k))
theorem m_split (a p q : Nat) : a % (p * q) = a % p + p * (a / p % q) := Nat.mod_mul
theorem m_sum (i k : Nat) : ∃ r q p b : Nat, r = 2 ^ (32 * (i + k)) ∧ q = 2 ^ (32 * k) ∧ p = 2 ^ (32 * i) ∧ r = p * q ∧ 0 < r ∧ 0 < q ∧ 0 < p ∧ b = 4294967296 ∧ 2 ^ (32 * (i + k + 1)) = r * b ∧ 2 ^ (32 * (k + 1)) = q * b := by
  refine ⟨_, _, _, _, rfl, rfl, rfl, ?_, Nat.pow_pos (by decide), Nat.pow_pos (by decide), Nat.pow_pos (by decide), rfl, ?_, ?_⟩
  · rw [← Nat.pow_add, ← Nat.mul_add]
  · rw [Nat.mul_succ, Nat.pow_add]
  · rw [Nat.mul_succ, Nat.pow_add]
theorem mc_next (Q X y i k : Nat) : (Q / 2 ^ (32 * (i + k)) % 4294967296 + X * (y / 2 ^ (32 * k) % 4294967296) + mc Q X y i k) / 4294967296 = mc Q X y i (k + 1) := by
  obtain ⟨r, q, p, b, hr, hq, hp, hrpq, hr0, hq0, hp0, hb, h1, h2⟩ := m_sum i k
  unfold mc
  rw [show i + (k + 1) = i + k + 1 by omega, h1, h2, ← hr, ← hq, ← hp, ← hb, m_split Q r b, m_split y q b, ← Nat.div_div_eq_div_mul]
  have e : Q % r + r * (Q / r % b) + X * (y % q + q * (y / q % b)) * p = (Q % r + X * (y % q) * p) + (Q / r % b + X * (y / q % b)) * r := by
    rw [hrpq, Nat.mul_add, Nat.add_mul, Nat.add_mul]
    have e2 : X * (q * (y / q % b)) * p = X * (y / q % b) * (p * q) := by
      rw [Nat.mul_left_comm X q, Nat.mul_comm q, Nat.mul_assoc, Nat.mul_comm q p]
    have e3 : p * q * (Q / (p * q) % b) = Q / (p * q) % b * (p * q) := Nat.mul_comm _ _
    omega
  rw [e, Nat.add_mul_div_right _ _ hr0]
  generalize (Q % r + X * (y % q) * p) / r = c
  generalize Q / r % b + X * (y / q % b) = d
  rw [Nat.add_comm]
theorem mc_digit (Q X y i k : Nat) : (Q / 2 ^ (32 * (i + k)) % 4294967296 + X * (y / 2 ^ (32 * k) % 4294967296) + mc Q X y i k) % 4294967296 = (Q + X * y * 2 ^ (32 * i)) / 2 ^ (32 * (i + k)) % 4294967296 := by
  obtain ⟨r, q, p, b, hr, hq, hp, hrpq, hr0, hq0, hp0, hb, h1, h2⟩ := m_sum i k
  unfold mc
  rw [← hr, ← hq, ← hp, ← hb]
  have e : Q + X * y * p = (Q % r + X * (y % q) * p) + (Q / r + X * (y / q)) * r := by
    have h3 := Nat.mod_add_div Q r
    have h4 := Nat.mod_add_div y q
    have e2 : X * y * p = X * (y % q) * p + X * (y / q) * r := by
      rw [hrpq]
      have : y = y % q + q * (y / q) := h4.symm
      have e5 : X * y * p = X * (y % q + q * (y / q)) * p := by rw [← this]
      rw [e5, Nat.mul_add, Nat.add_mul]
      have : X * (q * (y / q)) * p = X * (y / q) * (p * q) := by
        rw [Nat.mul_left_comm X q, Nat.mul_comm q, Nat.mul_assoc, Nat.mul_comm q p]
      omega
    rw [Nat.add_mul, Nat.mul_comm (Q / r)]
    omega
  rw [e, Nat.add_mul_div_right _ _ hr0]
  generalize (Q % r + X * (y % q) * p) / r = c
  have e6 : X * (y / q) % b = X * (y / q % b) % b := by rw [Nat.mul_mod, Nat.mul_mod X (y / q % b), Nat.mod_mod]
  generalize X * (y / q) = u at e6 ⊢
  generalize X * (y / q % b) = v at e6 ⊢
  subst hb
  omega
end Go.Proofs.Ytggalphgnloneaa
/- The document's answer to chapter 3: Neg. -/
namespace Go.Proofs.Ytggalphgnloneaa
open Go.RowKit
structure NW (a : Nat) (w wr : World) : Prop where
  d : Blk wr w.heap.size 38 (r64 4 (F4 a))
  r : Blk wr (w.heap.size + 1) 38 (r64 4 fun _ => litw 64 0)
  l : Below w.heap.size w wr
theorem NW.below {a : Nat} {w wr w' : World} (h : NW a w wr) (hb : Below wr.heap.size wr w') : NW a w w' := ⟨h.d.below hb h.d.lt, h.r.below hb h.r.lt, h.l.trans (hb.mono h.l.size)⟩
theorem N8_row_turn (x : Nat) : r32 8 (N8 (x + M256)) = r32 8 (N8 x) := row_ext fun i hi => by rw [N8_turn x i hi]
end Go.Proofs.Ytggalphgnloneaa
/- The document's answer to chapter 3: Sub. -/
namespace Go.Proofs.Ytggalphgnloneaa
open Go.RowKit
end Go.Proofs.Ytggalphgnloneaa
/- The document's answer to chapter 3: Mul, the words. -/
namespace Go.Proofs.Ytggalphgnloneaa
open Go.RowKit
def mw (Q X y i k : Nat) : BitVec 64 := BitVec.ofNat 64 (mc Q X y i k)
/-- What is reckoned at place i, k: the word so far, the product of the digits, the carry. -/
def ms (Q x y i k : Nat) : BitVec 64 := addw (addw (D64 Q (i + k)) (mulw (castw 64 (N8 x i)) (castw 64 (N8 y k)))) (mw Q (x / 2 ^ (32 * i) % 4294967296) y i k)
theorem mc_lt (Q X y i k : Nat) (hX : X < 4294967296) : mc Q X y i k < 4294967296 := by
  obtain ⟨r, q, p, b, hr, hq, hp, hrpq, hr0, hq0, hp0, hb, h1, h2⟩ := m_sum i k
  unfold mc
  rw [← hr, ← hq, ← hp, ← hb]
  rw [← hb] at hX
  have h3 : Q % r < r := Nat.mod_lt _ hr0
  have h4 : y % q < q := Nat.mod_lt _ hq0
  refine Nat.div_lt_of_lt_mul ?_
  have h5 : X * (y % q) * p ≤ (b - 1) * (q - 1) * p := Nat.mul_le_mul_right p (Nat.mul_le_mul (by omega) (by omega))
  have h6 : (b - 1) * (q - 1) * p ≤ (b - 1) * r := by
    rw [Nat.mul_assoc, hrpq]
    refine Nat.mul_le_mul_left _ ?_
    rw [Nat.mul_comm p q]
    exact Nat.mul_le_mul_right p (by omega)
  have h7 : r * b = r + (b - 1) * r := by
    obtain ⟨c, hc⟩ : ∃ c, b = c + 1 := ⟨b - 1, by omega⟩
    rw [hc, Nat.add_sub_cancel, Nat.mul_succ, Nat.mul_comm r c, Nat.add_comm]
  omega
theorem ms_nat (Q x y i k : Nat) : (ms Q x y i k).toNat = Q / 2 ^ (32 * (i + k)) % 4294967296 + x / 2 ^ (32 * i) % 4294967296 * (y / 2 ^ (32 * k) % 4294967296) + mc Q (x / 2 ^ (32 * i) % 4294967296) y i k := by
  have hX : x / 2 ^ (32 * i) % 4294967296 < 4294967296 := Nat.mod_lt _ (by decide)
  have hY : y / 2 ^ (32 * k) % 4294967296 < 4294967296 := Nat.mod_lt _ (by decide)
  have hQ : Q / 2 ^ (32 * (i + k)) % 4294967296 < 4294967296 := Nat.mod_lt _ (by decide)
  have h0 := mc_lt Q (x / 2 ^ (32 * i) % 4294967296) y i k hX
  have h1 : (castw 64 (N8 x i)).toNat = x / 2 ^ (32 * i) % 4294967296 := by
    unfold castw; rw [BitVec.toNat_ofNat, N8_nat]; omega
  have h2 : (castw 64 (N8 y k)).toNat = y / 2 ^ (32 * k) % 4294967296 := by
    unfold castw; rw [BitVec.toNat_ofNat, N8_nat]; omega
  have h3 : (D64 Q (i + k)).toNat = Q / 2 ^ (32 * (i + k)) % 4294967296 := by
    unfold D64; rw [BitVec.toNat_ofNat]; omega
  have h4 : (mw Q (x / 2 ^ (32 * i) % 4294967296) y i k).toNat = mc Q (x / 2 ^ (32 * i) % 4294967296) y i k := by
    unfold mw; rw [BitVec.toNat_ofNat]; exact Nat.mod_eq_of_lt (Nat.lt_trans h0 (by decide))
  unfold ms addw mulw
  rw [BitVec.toNat_add, BitVec.toNat_add, BitVec.toNat_mul, h1, h2, h3, h4]
  generalize mc Q (x / 2 ^ (32 * i) % 4294967296) y i k = c at h0 ⊢
  generalize x / 2 ^ (32 * i) % 4294967296 = X at hX ⊢
  generalize y / 2 ^ (32 * k) % 4294967296 = Y at hY ⊢
  generalize Q / 2 ^ (32 * (i + k)) % 4294967296 = d at hQ ⊢
  have hp : X * Y ≤ 4294967295 * 4294967295 := Nat.mul_le_mul (by omega) (by omega)
  generalize X * Y = z at hp ⊢
  omega
theorem ms_digit (Q x y i k : Nat) : andw (ms Q x y i k) (litw 64 4294967295) = D64 (Q + x / 2 ^ (32 * i) % 4294967296 * y * 2 ^ (32 * i)) (i + k) := by
  apply BitVec.eq_of_toNat_eq
  have h4 : (litw 64 4294967295).toNat = 2 ^ 32 - 1 := by unfold litw; rfl
  unfold andw D64
  rw [BitVec.toNat_and, h4, Nat.and_two_pow_sub_one_eq_mod, ms_nat, BitVec.toNat_ofNat, show (2 : Nat) ^ 32 = 4294967296 by rfl, mc_digit]
  omega
theorem ms_carry (Q x y i k : Nat) : shrw (ms Q x y i k) 32 = mw Q (x / 2 ^ (32 * i) % 4294967296) y i (k + 1) := by
  apply BitVec.eq_of_toNat_eq
  have hX : x / 2 ^ (32 * i) % 4294967296 < 4294967296 := Nat.mod_lt _ (by decide)
  have h0 := mc_lt Q (x / 2 ^ (32 * i) % 4294967296) y i (k + 1) hX
  unfold shrw mw
  rw [BitVec.toNat_ushiftRight, Nat.shiftRight_eq_div_pow, ms_nat, BitVec.toNat_ofNat, show (2 : Nat) ^ 32 = 4294967296 by rfl, mc_next]
  exact (Nat.mod_eq_of_lt (Nat.lt_trans h0 (by decide))).symm
theorem mw_zero (Q X y i : Nat) : Value.int .u64 0 = .int .u64 (iw (mw Q X y i 0)) := by
  have h : mc Q X y i 0 = 0 := by
    unfold mc
    rw [Nat.mul_zero, Nat.pow_zero, Nat.mod_one, Nat.mul_zero, Nat.zero_mul, Nat.add_zero, Nat.add_zero]
    exact Nat.div_eq_of_lt (Nat.mod_lt _ (Nat.pow_pos (by decide)))
  have : mw Q X y i 0 = litw 64 0 := by unfold mw; rw [h]; rfl
  rw [this, iw_zero]
end Go.Proofs.Ytggalphgnloneaa
/- The document's answer to chapter 3: Mul, the walk. -/
namespace Go.Proofs.Ytggalphgnloneaa
open Go.RowKit
/-- What the words are when x's first i digits, and of the next one k of y's, are in. -/
def qI (x y i : Nat) : Nat := x % 2 ^ (32 * i) * y
def xI (x i : Nat) : Nat := x / 2 ^ (32 * i) % 4294967296
def uF (x y i m j : Nat) : BitVec 64 := if j < m then D64 (qI x y (i + 1)) j else D64 (qI x y i) j
theorem qI_next (x y i : Nat) : qI x y (i + 1) = qI x y i + xI x i * y * 2 ^ (32 * i) := by
  unfold qI xI
  rw [mod_split, Nat.add_mul]
  congr 1
  rw [Nat.mul_comm (2 ^ (32 * i)), Nat.mul_assoc, Nat.mul_comm (2 ^ (32 * i)), ← Nat.mul_assoc]
theorem qI_lt (x y i : Nat) (hy : y < M256) : qI x y i < 2 ^ (32 * (i + 8)) := by
  unfold qI
  have h := Nat.mod_lt x (show 0 < 2 ^ (32 * i) from Nat.pow_pos (by decide))
  rw [Nat.mul_add, Nat.pow_add]
  exact Nat.mul_lt_mul'' h hy
theorem D64_nat (q j : Nat) : (D64 q j).toNat = q / 2 ^ (32 * j) % 4294967296 := by
  unfold D64; rw [BitVec.toNat_ofNat]; omega
/-- The last word of a row is what is carried. -/
theorem last_word (x y i : Nat) (hy : y < M256) : mw (qI x y i) (xI x i) y i 8 = D64 (qI x y (i + 1)) (i + 8) := by
  have hX : xI x i < 4294967296 := Nat.mod_lt _ (by decide)
  have h0 := mc_lt (qI x y i) (xI x i) y i 8 hX
  apply BitVec.eq_of_toNat_eq
  unfold mw
  rw [BitVec.toNat_ofNat, D64_nat, Nat.mod_eq_of_lt (Nat.lt_trans h0 (by decide)), qI_next]
  have e : mc (qI x y i) (xI x i) y i 8 = (qI x y i + xI x i * y * 2 ^ (32 * i)) / 2 ^ (32 * (i + 8)) := by
    unfold mc
    rw [Nat.mod_eq_of_lt (qI_lt x y i hy), show y % 2 ^ (32 * 8) = y from Nat.mod_eq_of_lt hy]
  rw [← e]
  exact (Nat.mod_eq_of_lt h0).symm
theorem word_zero (q j : Nat) (h : q < 2 ^ (32 * j)) : D64 q j = litw 64 0 := by
  unfold D64; rw [Nat.div_eq_of_lt h]; rfl
theorem uF_done (x y i : Nat) (hy : y < M256) (j : Nat) : (if j = i + 8 then D64 (qI x y (i + 1)) (i + 8) else uF x y i (i + 8) j) = D64 (qI x y (i + 1)) j := by
  by_cases h1 : j = i + 8
  · rw [if_pos h1, h1]
  · rw [if_neg h1]; unfold uF
    by_cases h2 : j < i + 8
    · rw [if_pos h2]
    · rw [if_neg h2, word_zero _ j (Nat.lt_of_lt_of_le (qI_lt x y i hy) (Nat.pow_le_pow_right (by decide) (by omega))), word_zero _ j (Nat.lt_of_lt_of_le (qI_lt x y (i + 1) hy) (Nat.pow_le_pow_right (by decide) (by omega)))]
theorem uF_none (x y i j : Nat) : uF x y i i j = D64 (qI x y i) j := by
  unfold uF
  by_cases h : j < i
  · rw [if_pos h]
    apply BitVec.eq_of_toNat_eq
    rw [D64_nat, D64_nat, qI_next]
    obtain ⟨d, rfl⟩ : ∃ d, i = j + 1 + d := ⟨i - (j + 1), by omega⟩
    have e : (2 : Nat) ^ (32 * (j + 1 + d)) = 2 ^ (32 * j) * (4294967296 * 2 ^ (32 * d)) := by
      rw [show (4294967296 : Nat) = 2 ^ 32 by rfl, ← Nat.pow_add, ← Nat.pow_add]; congr 1; omega
    rw [e, Nat.mul_left_comm, Nat.add_mul_div_left _ _ (Nat.pow_pos (by decide)), Nat.mul_left_comm, Nat.add_mul_mod_self_left]
  · rw [if_neg h]
end Go.Proofs.Ytggalphgnloneaa
