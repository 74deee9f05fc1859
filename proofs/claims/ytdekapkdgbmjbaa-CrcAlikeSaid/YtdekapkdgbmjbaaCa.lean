/- Layer 8 in numbers: the register as 32 bits, moved bit by bit; what was xor at the start is xor at the end. -/
import Derived.Test.YtdekapkdgbmjbaaTxt
namespace Go.Proofs.Ytdekapkdgbmjbaa
open Go.RowKit
def crcP : BitVec 32 := litw 32 3988292384
/-- One bit further. -/
def cS (c : BitVec 32) : BitVec 32 := if c.toNat % 2 = 1 then xorw (shrw c 1) crcP else shrw c 1
/-- n bits further. -/
def cN : Nat → BitVec 32 → BitVec 32
  | 0, c => c
  | n + 1, c => cS (cN n c)
/-- n bytes further. -/
def cR (F : Nat → BitVec 32) (c : BitVec 32) : Nat → BitVec 32
  | 0 => c
  | n + 1 => cN 8 (xorw (cR F c n) (F n))
theorem odd_xor (x y : BitVec 32) : (xorw x y).toNat % 2 = (x.toNat % 2 + y.toNat % 2) % 2 := by
  unfold xorw
  rw [BitVec.toNat_xor]
  have h : (x.toNat ^^^ y.toNat) % 2 = 1 ↔ ¬ (x.toNat % 2 = 1 ↔ y.toNat % 2 = 1) := Nat.xor_mod_two_eq_one
  have key : ∀ p q r : Nat, p < 2 → q < 2 → r < 2 → (r = 1 ↔ ¬ (p = 1 ↔ q = 1)) → r = (p + q) % 2 := by omega
  exact key _ _ _ (Nat.mod_lt _ (by decide)) (Nat.mod_lt _ (by decide)) (Nat.mod_lt _ (by decide)) h
theorem shr_xor (x y : BitVec 32) : shrw (xorw x y) 1 = xorw (shrw x 1) (shrw y 1) := by
  unfold shrw xorw
  exact BitVec.ushiftRight_xor_distrib ..
theorem xorw_comm (x y : BitVec 32) : xorw x y = xorw y x := by unfold xorw; exact BitVec.xor_comm ..
theorem xorw_assoc (x y z : BitVec 32) : xorw (xorw x y) z = xorw x (xorw y z) := by unfold xorw; exact BitVec.xor_assoc ..
theorem xorw_left (x y z : BitVec 32) : xorw x (xorw y z) = xorw y (xorw x z) := by rw [← xorw_assoc, xorw_comm x y, xorw_assoc]
theorem xorw_self (x : BitVec 32) : xorw x x = 0#32 := by unfold xorw; exact BitVec.xor_self
theorem xorw_zero (x : BitVec 32) : xorw x 0#32 = x := by unfold xorw; exact BitVec.xor_zero
theorem zero_xorw (x : BitVec 32) : xorw 0#32 x = x := by unfold xorw; exact BitVec.zero_xor
theorem xorw_back (x y : BitVec 32) : xorw x (xorw x y) = y := by rw [← xorw_assoc, xorw_self, zero_xorw]
theorem cS_xor (x y : BitVec 32) : cS (xorw x y) = xorw (cS x) (cS y) := by
  unfold cS
  rw [odd_xor, shr_xor]
  have h2 : ∀ a b c d : BitVec 32, xorw (xorw a b) (xorw c d) = xorw (xorw a c) (xorw b d) := fun a b c d => by
    rw [xorw_assoc, xorw_left b c d, ← xorw_assoc]
  by_cases hx : x.toNat % 2 = 1 <;> by_cases hy : y.toNat % 2 = 1
  · rw [if_neg (by omega), if_pos hx, if_pos hy, h2, xorw_self, xorw_zero]
  · rw [if_pos (by omega), if_pos hx, if_neg hy, xorw_assoc, xorw_assoc, xorw_comm crcP]
  · rw [if_pos (by omega), if_neg hx, if_pos hy, xorw_assoc]
  · rw [if_neg (by omega), if_neg hx, if_neg hy]
theorem cN_xor (n : Nat) (x y : BitVec 32) : cN n (xorw x y) = xorw (cN n x) (cN n y) := by
  induction n with
  | zero => rfl
  | succ n ih => show cS _ = _; rw [ih, cS_xor]; rfl
theorem cN_add (m n : Nat) (c : BitVec 32) : cN (m + n) c = cN m (cN n c) := by
  induction m with
  | zero => rw [Nat.zero_add]; rfl
  | succ m ih => rw [Nat.succ_add]; show cS _ = cS _; rw [ih]
theorem cS_zero : cS 0#32 = 0#32 := by decide +kernel
theorem cN_zero (n : Nat) : cN n 0#32 = 0#32 := by
  induction n with
  | zero => rfl
  | succ n ih => show cS _ = _; rw [ih, cS_zero]
theorem cS_ne {x : BitVec 32} (h : x ≠ 0#32) : cS x ≠ 0#32 := by
  intro e
  apply h
  unfold cS at e
  have hx := x.isLt
  by_cases ho : x.toNat % 2 = 1
  · rw [if_pos ho] at e
    have e2 : shrw x 1 = crcP := by
      have e3 := congrArg (fun z => xorw z crcP) e
      simp only [xorw_assoc, xorw_self, xorw_zero, zero_xorw] at e3
      exact e3
    have e4 := congrArg BitVec.toNat e2
    have e5 : crcP.toNat = 3988292384 := by decide +kernel
    rw [e5] at e4
    unfold shrw at e4
    rw [BitVec.toNat_ushiftRight, Nat.shiftRight_eq_div_pow] at e4
    omega
  · rw [if_neg ho] at e
    have e4 := congrArg BitVec.toNat e
    unfold shrw at e4
    rw [BitVec.toNat_ushiftRight, Nat.shiftRight_eq_div_pow] at e4
    apply BitVec.eq_of_toNat_eq
    simp at e4 ⊢
    omega
theorem cN_ne {x : BitVec 32} (h : x ≠ 0#32) (n : Nat) : cN n x ≠ 0#32 := by
  induction n with
  | zero => exact h
  | succ n ih => exact cS_ne ih
/-- What is xor at the start, and at each byte, is xor at the end. -/
theorem cR_xor (F G : Nat → BitVec 32) (x y : BitVec 32) (n : Nat) : cR (fun i => xorw (F i) (G i)) (xorw x y) n = xorw (cR F x n) (cR G y n) := by
  induction n with
  | zero => rfl
  | succ n ih =>
    show cN 8 _ = xorw (cN 8 _) (cN 8 _)
    rw [ih, ← cN_xor]
    congr 1
    rw [xorw_assoc, xorw_left (cR G y n), ← xorw_assoc]
theorem cR_same {F G : Nat → BitVec 32} {n : Nat} (h : ∀ i, i < n → F i = G i) (c : BitVec 32) : cR F c n = cR G c n := by
  induction n with
  | zero => rfl
  | succ n ih => show cN 8 _ = cN 8 _; rw [ih fun i hi => h i (by omega), h n (by omega)]
theorem cR_zeros (c : BitVec 32) (n : Nat) : cR (fun _ => 0#32) c n = cN (8 * n) c := by
  induction n with
  | zero => rfl
  | succ n ih => show cN 8 _ = _; rw [ih, xorw_zero, ← cN_add]; congr 1; omega
/-- Another start. -/
theorem cR_start (F : Nat → BitVec 32) (x y : BitVec 32) (n : Nat) : cR F (xorw x y) n = xorw (cR F x n) (cN (8 * n) y) := by
  rw [← cR_zeros y n, ← cR_xor]
  exact cR_same (fun i _ => (xorw_zero _).symm) _
theorem cR_app (F : Nat → BitVec 32) (c : BitVec 32) (m n : Nat) : cR F c (m + n) = cR (fun i => F (m + i)) (cR F c m) n := by
  induction n with
  | zero => rfl
  | succ n ih => show cN 8 (xorw (cR F c (m + n)) _) = cN 8 _; rw [ih]; rfl
/-- One byte alone. -/
theorem cR_one (q n : Nat) (v : BitVec 32) (h : q < n) : cR (fun i => if i = q then v else 0#32) 0#32 n = cN (8 * (n - q)) v := by
  have h0 : cR (fun i => if i = q then v else 0#32) 0#32 q = 0#32 := by
    rw [cR_same (G := fun _ => 0#32) (fun i hi => if_neg (by omega)), cR_zeros, cN_zero]
  have h1 : cR (fun i => if i = q then v else 0#32) 0#32 (q + 1) = cN 8 v := by
    show cN 8 _ = _
    rw [h0, zero_xorw]; simp only [if_true]
  obtain ⟨m, rfl⟩ : ∃ m, n = q + 1 + m := ⟨n - q - 1, by omega⟩
  rw [cR_app, h1, cR_same (G := fun _ => 0#32) (fun i _ => if_neg (by omega)), cR_zeros, ← cN_add]
  congr 1; omega
/-- The bit i, moved i times, is the first one. -/
theorem cN_bit : ∀ i, i < 32 → cN i (litw 32 (2 ^ i)) = litw 32 1 := by decide +kernel
theorem iw_of32 {x : Int} (h0 : 0 ≤ x) (h1 : x < 4294967296) : ∃ a : BitVec 32, x = iw a := ⟨BitVec.ofNat 32 x.toNat, by unfold iw; rw [BitVec.toNat_ofNat]; omega⟩
/-- The bytes of a text. -/
def byteW (s : ByteArray) (i : Nat) : BitVec 32 := litw 32 (byteS s i)
/-- The sum of a text with the sum a, and s behind it. -/
def moreT (a : BitVec 32) (s : ByteArray) : BitVec 32 := notw (cR (byteW s) (notw a) s.size)
/-- The sum of two texts, of n bytes the second one. -/
def joinT (a b : BitVec 32) (n : Nat) : BitVec 32 := xorw b (cN (8 * n) a)
theorem notw_xor (x : BitVec 32) : notw x = xorw (litw 32 4294967295) x := by
  unfold notw xorw litw
  rw [show BitVec.ofNat 32 4294967295 = BitVec.allOnes 32 from rfl, BitVec.allOnes_xor]
theorem not_not (x : BitVec 32) : notw (notw x) = x := by unfold notw; exact BitVec.not_not
theorem not_xor (x y : BitVec 32) : notw (xorw x y) = xorw (notw x) y := by rw [notw_xor, notw_xor, xorw_assoc]
theorem more_start (x y : BitVec 32) (s : ByteArray) : moreT (xorw x y) s = xorw (moreT x s) (cN (8 * s.size) y) := by
  unfold moreT
  rw [not_xor, cR_start, not_xor]
theorem more_app (a : BitVec 32) (s t : ByteArray) : moreT a (s ++ t) = moreT (moreT a s) t := by
  unfold moreT
  rw [not_not, size_app, cR_app]
  congr 1
  have e1 : cR (byteW (s ++ t)) (notw a) s.size = cR (byteW s) (notw a) s.size := cR_same (fun i hi => by unfold byteW; rw [byteS_app, if_pos hi]) _
  rw [e1]
  exact cR_same (fun i hi => by unfold byteW; rw [byteS_app, if_neg (by omega), Nat.add_sub_cancel_left]) _
theorem more_join (a : BitVec 32) (t : ByteArray) : moreT a t = joinT a (moreT 0#32 t) t.size := by
  have h := more_start 0#32 a t
  rw [zero_xorw] at h
  rw [h]; rfl
theorem join_zero (b : BitVec 32) (n : Nat) : joinT 0#32 b n = b := by unfold joinT; rw [cN_zero, xorw_zero]
theorem join_none (a : BitVec 32) : joinT a 0#32 0 = a := by unfold joinT; exact zero_xorw a
theorem join_join (a b c : BitVec 32) (m n : Nat) : joinT (joinT a b m) c n = joinT a (joinT b c n) (m + n) := by
  unfold joinT
  rw [cN_xor, xorw_assoc, ← cN_add]
  rw [show 8 * n + 8 * m = 8 * (m + n) by omega]
theorem more_none (a : BitVec 32) : moreT a ⟨#[]⟩ = a := by unfold moreT; exact not_not a
/-- Of three texts of one length. -/
theorem more_three {n : Nat} {a b c l : ByteArray} (ha : a.size = n) (hb : b.size = n) (hc : c.size = n) (hl : l.size = n)
    (h : ∀ i, i < n → byteW l i = xorw (xorw (byteW a i) (byteW b i)) (byteW c i)) : moreT 0#32 l = xorw (xorw (moreT 0#32 a) (moreT 0#32 b)) (moreT 0#32 c) := by
  unfold moreT
  rw [ha, hb, hc, hl, cR_same h]
  have e : notw 0#32 = xorw (xorw (notw 0#32) (notw 0#32)) (notw 0#32) := by decide +kernel
  rw [e, cR_xor, cR_xor]
  rw [← e]
  generalize cR (byteW a) (notw 0#32) n = x
  generalize cR (byteW b) (notw 0#32) n = y
  generalize cR (byteW c) (notw 0#32) n = z
  rw [notw_xor, notw_xor x, notw_xor y, notw_xor z]
  generalize litw 32 4294967295 = k
  rw [xorw_assoc k x, xorw_left x k y, xorw_back]
  rw [xorw_left (xorw x y) k z]
/-- The sum of zeros from any start. -/
theorem more_zeros (a : BitVec 32) (z : ByteArray) : moreT a z = xorw (moreT 0#32 z) (cN (8 * z.size) a) := by
  have h := more_start 0#32 a z
  rwa [zero_xorw] at h
end Go.Proofs.Ytdekapkdgbmjbaa
