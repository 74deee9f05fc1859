/- What was written is read as it was (chapter 13, in numbers). -/
import Derived.Test.YtfheedpoaomfeaaIj
namespace Go.Proofs.Ytfheedpoaomfeaa
open Go.RowKit
theorem numP_fits (B : ByteArray) (n s : Nat) (hs : 1 ≤ s ∧ s ≤ 7) (hn : n < 256 ^ s) : numP B 0 (n : Int) (s : Int) = (B ++ beT n s s, 0) := by
  unfold numP
  rw [if_neg (by decide), if_neg (by
    rintro (h | h | h)
    · omega
    · omega
    · rw [Int.toNat_natCast] at h
      exact absurd hn (Nat.not_lt.2 (Int.ofNat_le.1 (by rwa [Int.natCast_pow])))), Int.toNat_natCast, Int.toNat_natCast]
theorem beV_beT (n z : Nat) (R : ByteArray) : ∀ k, k ≤ z → n < 256 ^ z → beV (beT n z z ++ R) k = n / 256 ^ (z - k)
  | 0, _, h => by rw [Nat.sub_zero, Nat.div_eq_of_lt h]; rfl
  | k + 1, hk, h => by
    show beV _ k * 256 + byteS _ k = _
    have hz : (beT n z z).size = z := textN_size _ _
    rw [beV_beT n z R k (by omega) h, byteS_app, if_pos (by omega)]
    have e : byteS (beT n z z) k = n / 256 ^ (z - 1 - k) % 256 := byteS_textN z _ k (by omega) (Nat.mod_lt _ (by decide))
    rw [e, show z - k = (z - 1 - k) + 1 by omega, show z - (k + 1) = z - 1 - k by omega, Nat.pow_succ, ← Nat.div_div_eq_div_mul]
    omega
theorem front_rest (A R : ByteArray) : (A ++ R).extract A.size (A ++ R).size = R := by
  refine text_same (by rw [ByteArray.size_extract, size_app]; omega) fun j hj => ?_
  rw [ByteArray.size_extract, size_app] at hj
  rw [byteS_ext _ _ _ j (Nat.le_refl _) (by rw [size_app]; omega), byteS_app, if_neg (by omega), Nat.add_sub_cancel_left]
theorem front_take (A R : ByteArray) : (A ++ R).extract 0 A.size = A := by
  refine text_same (by rw [ByteArray.size_extract, size_app]; omega) fun j hj => ?_
  rw [ByteArray.size_extract, size_app] at hj
  rw [byteS_ext _ _ _ j (by rw [size_app]; omega) (by omega), byteS_app, Nat.zero_add, if_pos (by omega)]
theorem numW_front (n z : Nat) (R : ByteArray) (hz : 1 ≤ z ∧ z ≤ 7) (hn : n < 256 ^ z) : numW (beT n z z ++ R) 0 (z : Int) = (n, R, 0) := by
  have h : (beT n z z).size = z := textN_size _ _
  unfold numW
  rw [if_neg (by decide), if_neg (by omega), if_neg (by rw [size_app]; omega), Int.toNat_natCast, beV_beT n z R z (Nat.le_refl _) hn, Nat.sub_self, Nat.pow_zero, Nat.div_one]
  have e := front_rest (beT n z z) R
  rw [h] at e
  rw [e]
theorem rawW_front (S R : ByteArray) : rawW (S ++ R) 0 (S.size : Int) = (S, R, 0) := by
  unfold rawW
  rw [if_neg (by decide), if_neg (by omega), if_neg (by rw [size_app]; omega), Int.toNat_natCast, front_take, front_rest]
theorem opqW_front (S R : ByteArray) (z : Nat) (hz : 1 ≤ z ∧ z ≤ 7) (hn : S.size < 256 ^ z) : opqW (beT S.size z z ++ (S ++ R)) 0 (z : Int) = (S, R, 0) := by
  unfold opqW
  rw [numW_front _ z _ hz hn]
  exact rawW_front S R
/-- A part as the law makes it. -/
def nrmP (i : Nat) (x : Pt) : Pt := ⟨(kindN x.k : Int), x.n % 16777216, ((3 + i % 5 : Nat) : Int), x.s.extract 0 (min x.s.size 300)⟩
/-- What a part is written as. -/
def parT (k n z : Nat) (s : ByteArray) : ByteArray := if k = 0 then beT n z z else if k = 1 then s else beT s.size z z ++ s
/-- Parts as the law makes them: kinds 0 to 2, numbers of 24 bits, sizes of 3 to 7, short texts. -/
structure Pt.fit (y : Pt) (k n z : Nat) : Prop where
  ek : y.k = (k : Int)
  en : y.n = (n : Int)
  ez : y.z = (z : Int)
  k : k < 3
  n : n < 16777216
  z : 3 ≤ z ∧ z ≤ 7
  s : y.s.size ≤ 300
theorem nrmP_fit (i : Nat) (x : Pt) : (nrmP i x).fit (kindN x.k) (x.n % 16777216).toNat (3 + i % 5) :=
  ⟨rfl, by show x.n % 16777216 = _; omega, rfl, kindN_lt _, by omega, by omega, by show (x.s.extract 0 _).size ≤ 300; rw [ByteArray.size_extract]; omega⟩
theorem fit_pow {z : Nat} (h : 3 ≤ z ∧ z ≤ 7) : 16777216 ≤ 256 ^ z := by
  have : 256 ^ 3 ≤ 256 ^ z := Nat.pow_le_pow_right (by decide) h.1
  have e : (256 : Nat) ^ 3 = 16777216 := by decide
  omega
theorem opqP_fits (B S : ByteArray) (z : Nat) (hz : 3 ≤ z ∧ z ≤ 7) (hS : S.size ≤ 300) : opqP B 0 S (z : Int) = (B ++ (beT S.size z z ++ S), 0) := by
  unfold opqP
  rw [numP_fits B S.size z (by omega) (by have := fit_pow hz; omega)]
  show rawP (B ++ beT S.size z z) 0 S = _
  unfold rawP
  rw [if_neg (by decide), app_assoc]
theorem rawP_fits (B S : ByteArray) : rawP B 0 S = (B ++ S, 0) := by unfold rawP; rw [if_neg (by decide)]
/-- The text of parts. -/
def allT : List Pt → ByteArray
  | [] => ⟨#[]⟩
  | y :: l => parT y.k.toNat y.n.toNat y.z.toNat y.s ++ allT l
theorem none_appM (B : ByteArray) : (⟨#[]⟩ : ByteArray) ++ B = B := by apply ByteArray.ext; simp
theorem allT_more (l : List Pt) (y : Pt) : allT (l ++ [y]) = allT l ++ parT y.k.toNat y.n.toNat y.z.toNat y.s := by
  induction l with
  | nil => show _ ++ (⟨#[]⟩ : ByteArray) = (⟨#[]⟩ : ByteArray) ++ _; rw [app_none, none_appM]
  | cons x l ih => show _ ++ allT (l ++ [y]) = (_ ++ allT l) ++ _; rw [ih, app_assoc]
theorem parT_size (k n z : Nat) (s : ByteArray) : (parT k n z s).size ≤ z + s.size := by
  have h : ∀ n, (beT n z z).size = z := fun n => textN_size _ _
  unfold parT
  split
  · rw [h]; omega
  · split
    · omega
    · rw [size_app, h]; omega
end Go.Proofs.Ytfheedpoaomfeaa
