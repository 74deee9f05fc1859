/- Small numbers as texts of a few bytes. -/
import Derived.Test.YtehcigidjghddaaQCe
import Derived.Test.YtehcigidjghddaaQx
namespace Go.Proofs.Ytehcigidjghddaa
open Go.RowKit
/-- Two, three bytes as a text. -/
def twoB (x y : Nat) : ByteArray := ⟨(asBytes [BitVec.ofNat 8 x, BitVec.ofNat 8 y]).toArray⟩
def threeB (x y z : Nat) : ByteArray := ⟨(asBytes [BitVec.ofNat 8 x, BitVec.ofNat 8 y, BitVec.ofNat 8 z]).toArray⟩
theorem iw8 (z : Nat) (h : z < 256) : iw (BitVec.ofNat 8 z) = (z : Int) := by unfold iw; rw [BitVec.toNat_ofNat, Nat.mod_eq_of_lt (show z < 2 ^ 8 by omega)]
theorem two_back {w : World} {g : Nat} {t : TypeId} (x y : Nat) (hx : x < 256) (hy : y < 256) (hb : Blk w g t #[Value.int .u8 (x : Int), Value.int .u8 (y : Int)]) : (convert 45 9 (.slice (some ⟨g, 0, none⟩) 2 2)).run Try.prog w = .ok (.string (twoB x y)) w := by
  have e : #[Value.int .u8 (x : Int), Value.int .u8 (y : Int)] = r8 2 (fun i => if i = 0 then BitVec.ofNat 8 x else BitVec.ofNat 8 y) := by
    show _ = #[Value.int .u8 (iw (BitVec.ofNat 8 x)), Value.int .u8 (iw (BitVec.ofNat 8 y))]
    rw [iw8 x hx, iw8 y hy]
  exact run_string_of_blk (P := Try.prog) w 45 9 5 Try.underlying45 Try.underlying5 Try.underlying9 g 2 2 t _ (hb.cast_ e)
theorem three_back {w : World} {g : Nat} {t : TypeId} (x y z : Nat) (hx : x < 256) (hy : y < 256) (hz : z < 256) (hb : Blk w g t #[Value.int .u8 (x : Int), Value.int .u8 (y : Int), Value.int .u8 (z : Int)]) : (convert 45 9 (.slice (some ⟨g, 0, none⟩) 3 3)).run Try.prog w = .ok (.string (threeB x y z)) w := by
  have e : #[Value.int .u8 (x : Int), Value.int .u8 (y : Int), Value.int .u8 (z : Int)] = r8 3 (fun i => if i = 0 then BitVec.ofNat 8 x else if i = 1 then BitVec.ofNat 8 y else BitVec.ofNat 8 z) := by
    show _ = #[Value.int .u8 (iw (BitVec.ofNat 8 x)), Value.int .u8 (iw (BitVec.ofNat 8 y)), Value.int .u8 (iw (BitVec.ofNat 8 z))]
    rw [iw8 x hx, iw8 y hy, iw8 z hz]
  exact run_string_of_blk (P := Try.prog) w 45 9 5 Try.underlying45 Try.underlying5 Try.underlying9 g 3 3 t _ (hb.cast_ e)
theorem byte_nat (z : Nat) (h : z < 256) : (BitVec.ofNat 8 z).toNat = z := by rw [BitVec.toNat_ofNat]; exact Nat.mod_eq_of_lt h
theorem num_one (x : Nat) (h : x < 256) : numV (oneB x) 32 = x := by
  show bv (byteS (oneB x)) 1 = x
  show 0 + byteS (oneB x) 0 * 2 ^ (8 * 0) = x
  have : byteS (oneB x) 0 = x := byte_nat x h
  rw [this]; omega
theorem num_two (x y : Nat) (hx : x < 256) (hy : y < 256) : numV (twoB x y) 32 = x + 256 * y := by
  show 0 + byteS (twoB x y) 0 * 2 ^ (8 * 0) + byteS (twoB x y) 1 * 2 ^ (8 * 1) = _
  have h0 : byteS (twoB x y) 0 = x := byte_nat x hx
  have h1 : byteS (twoB x y) 1 = y := byte_nat y hy
  rw [h0, h1]; omega
theorem num_three (x y z : Nat) (hx : x < 256) (hy : y < 256) (hz : z < 256) : numV (threeB x y z) 32 = x + 256 * y + 65536 * z := by
  show 0 + byteS (threeB x y z) 0 * 2 ^ (8 * 0) + byteS (threeB x y z) 1 * 2 ^ (8 * 1) + byteS (threeB x y z) 2 * 2 ^ (8 * 2) = _
  have h0 : byteS (threeB x y z) 0 = x := byte_nat x hx
  have h1 : byteS (threeB x y z) 1 = y := byte_nat y hy
  have h2 : byteS (threeB x y z) 2 = z := byte_nat z hz
  rw [h0, h1, h2]; omega
theorem num_none : numV ⟨#[]⟩ 32 = 0 := rfl
theorem pneg_unique {A B : Pt} (hA : onC A) (hB : onC B) (h : padd A B = pZ) : B = pneg A := by
  have h1 : padd (padd B A) (pneg A) = padd B (padd A (pneg A)) := padd_assoc hB hA (pneg_on hA)
  rw [padd_turn hB hA, h, padd_neg hA, padd_zero hB, padd_turn pZ_on (pneg_on hA), padd_zero (pneg_on hA)] at h1
  exact h1.symm
theorem pneg_add {A B : Pt} (hA : onC A) (hB : onC B) : padd (pneg A) (pneg B) = pneg (padd A B) := by
  have nA := pneg_on hA
  have nB := pneg_on hB
  refine pneg_unique (padd_on hA hB) (padd_on nA nB) ?_
  rw [padd_turn nA nB, padd_assoc hA hB (padd_on nB nA), ← padd_assoc hB nB nA, padd_neg hB, padd_turn pZ_on nA, padd_zero nA, padd_neg hA]
theorem pneg_zero : pneg pZ = pZ := Pt.same (by show negP 0 = 0; decide) rfl
theorem pmul_neg {P : Pt} (h : onC P) : ∀ n, pmul (pneg P) n = pneg (pmul P n)
  | 0 => pneg_zero.symm
  | n + 1 => by
    show padd (pneg P) (pmul (pneg P) n) = _
    rw [pmul_neg h n, pneg_add h (pmul_on h n)]; rfl
theorem of_wf8 {n : Int} (h : (Lit.int .u8 n).wf = true) : ∃ k : Nat, n = (k : Int) ∧ k < 256 := by
  simp [Lit.wf, IntKind.min, IntKind.max, IntKind.bits, IntKind.signed] at h
  exact ⟨n.toNat, by omega, by omega⟩
theorem of_wf16 {n : Int} (h : (Lit.int .u16 n).wf = true) : ∃ k : Nat, n = (k : Int) ∧ k < 65536 := by
  simp [Lit.wf, IntKind.min, IntKind.max, IntKind.bits, IntKind.signed] at h
  exact ⟨n.toNat, by omega, by omega⟩
/-! The order's text. -/
def zero15 : ByteArray := ⟨(asBytes ((List.range 15).map fun _ => (0 : BitVec 8))).toArray⟩
def order16 : ByteArray := ⟨#[237, 211, 245, 92, 26, 99, 18, 88, 214, 156, 247, 162, 222, 249, 222, 20]⟩
def orderT : ByteArray := order16 ++ zero15 ++ ⟨#[16]⟩
theorem order_num : numV orderT 32 = qL := by decide +kernel
end Go.Proofs.Ytehcigidjghddaa
