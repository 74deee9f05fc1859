/- What Mul of the layer and of its reference reckon, step by step. -/
import Derived.Test.YtggalphgnloneaaGreatQm
import Derived.Test.YtggalphgnloneaaGreatQr
namespace Go.Proofs.YtggalphgnloneaaGreat
open Go.RowKit
/-- The layer's sum behind j bytes, from the highest of n. -/
noncomputable def accQ (s : ByteArray) (P : Pt) (n : Nat) : Nat → R3
  | 0 => mulQ P 0
  | j + 1 => (((accQ s P n j).t16.plus (mulQ P (byteS s (n - 1 - j) / 16))).t16).plus (mulQ P (byteS s (n - 1 - j) % 16))
theorem accQ_ok (s : ByteArray) (P : Pt) (n : Nat) : ∀ j, (accQ s P n j).ok
  | 0 => mulQ_ok P 0
  | _ + 1 => R3.plus_ok
theorem accQ_next (s : ByteArray) (P : Pt) (n j k : Nat) (hk : k = n - 1 - j) : (((accQ s P n j).t16.plus (mulQ P (byteS s k / 16))).t16).plus (mulQ P (byteS s k % 16)) = accQ s P n (j + 1) := by subst hk; rfl
def partV (P : Pt) : R4 := ⟨P.x, P.y, 1, mulP P.x P.y⟩
theorem partV_ok {P : Pt} (h : P.ok) : (partV P).ok := ⟨h.x, h.y, by show 1 < M256; decide, mulP_lt _ _⟩
/-- The reference's sum behind j bits, from the highest of n. -/
noncomputable def accB (s : ByteArray) (P : Pt) (n : Nat) : Nat → R4
  | 0 => partV pZ
  | j + 1 => if bitS s (n - 1 - j) = 1 then ((accB s P n j).sum (accB s P n j)).sum (partV P) else (accB s P n j).sum (accB s P n j)
theorem accB_ok (s : ByteArray) (P : Pt) (n : Nat) : ∀ j, (accB s P n j).ok
  | 0 => partV_ok pZ_on.ok
  | j + 1 => by unfold accB; split <;> exact R4.sum_ok
theorem accB_one (s : ByteArray) (P : Pt) (n j k : Nat) (hk : k = n - 1 - j) (h : bitS s k = 1) : ((accB s P n j).sum (accB s P n j)).sum (partV P) = accB s P n (j + 1) := by
  subst hk; show _ = (if _ then _ else _); rw [if_pos h]
theorem accB_zero (s : ByteArray) (P : Pt) (n j k : Nat) (hk : k = n - 1 - j) (h : bitS s k = 0) : (accB s P n j).sum (accB s P n j) = accB s P n (j + 1) := by
  subst hk; show _ = (if _ then _ else _); rw [if_neg (by omega)]
theorem and15' : ∀ x : Fin 256, bits .and .u8 (x.val : Int) 15 = ((x.val % 16 : Nat) : Int) := by decide +kernel
theorem and15 (x : Nat) (h : x < 256) : bits .and .u8 (x : Int) 15 = ((x % 16 : Nat) : Int) := and15' ⟨x, h⟩
noncomputable def mulV (s : ByteArray) (P : Pt) : Pt := (accQ s (cnt P) (min s.size 32) (min s.size 32)).plain
noncomputable def rmulV (s : ByteArray) (P : Pt) : Pt := (accB s (cnt P) (8 * min s.size 32) (8 * min s.size 32)).whole
end Go.Proofs.YtggalphgnloneaaGreat
