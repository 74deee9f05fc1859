/- Chapter 11 in numbers, no walk: numbers that stand in a text's bits are read again. -/
import Derived.Test.YtldkdgimpckpdaaGreatMX
import Derived.Test.YtldkdgimpckpdaaGreatNF
import Derived.Test.YtldkdgimpckpdaaGreatNK
import Derived.Test.YtldkdgimpckpdaaGreatMA
import Derived.Test.YtldkdgimpckpdaaGreatNL
namespace Go.Proofs.YtldkdgimpckpdaaGreat
open Go.RowKit
def St (B : Nat → Nat) : Nat → List (Nat × Nat) → Prop
 | _, [] => True
 | p, x :: r => vb B p x.2 = x.1 ∧ St B (p + x.2) r
theorem St.app {B : Nat → Nat} : ∀ {a b : List (Nat × Nat)} {p : Nat}, St B p (a ++ b) → St B p a ∧ St B (p + bitsN a) b
 | [], _, _, h => ⟨trivial, h⟩
 | x :: a, b, p, h => by
  obtain ⟨h1, h2⟩ := St.app (a := a) h.2
  refine ⟨⟨h.1, h1⟩, ?_⟩
  rw [show p + bitsN (x :: a) = p + x.2 + bitsN a from (Nat.add_assoc _ _ _).symm]; exact h2
theorem cnt_cut {l : Nat → Nat} {d n : Nat} (hd : d ≠ 0) : ∀ {m : Nat}, n ≤ m → (∀ j, n ≤ j → j < m → l j = 0) → cnt l d m = cnt l d n
 | 0, h, _ => by rw [show n = 0 by omega]
 | m + 1, h, hz => by
  by_cases e : n = m + 1
  ·rw [e]
  ·unfold cnt
   rw [cnt_cut hd (m := m) (by omega) (fun j h1 h2 => hz j h1 (by omega)), hz m (by omega) (by omega), if_neg (fun h => hd h.symm)]
   cases n <;> rfl
theorem kr_cut {l : Nat → Nat} {n : Nat} : ∀ {m : Nat}, n ≤ m → (∀ j, n ≤ j → j < m → l j = 0) → kr l m = kr l n
 | 0, h, _ => by rw [show n = 0 by omega]
 | m + 1, h, hz => by
  by_cases e : n = m + 1
  ·rw [e]
  ·have e1 : kr l (m + 1) = kr l m + if l m = 0 then 0 else 2 ^ (15 - l m) := rfl
   rw [e1, kr_cut (m := m) (by omega) (fun j h1 h2 => hz j h1 (by omega)), hz m (by omega) (by omega), if_pos rfl]; rfl
theorem cst_cut {l : Nat → Nat} {n m : Nat} (h : n ≤ m) (hz : ∀ j, n ≤ j → j < m → l j = 0) : ∀ d, cst l m d = cst l n d
 | 0 => rfl
 | d + 1 => by unfold cst; rw [cst_cut h hz d, cnt_cut (Nat.succ_ne_zero d) h hz]
theorem codeN_cut {l : Nat → Nat} {n m i : Nat} (h : n ≤ m) (hz : ∀ j, n ≤ j → j < m → l j = 0) : codeN l m i = codeN l n i := by
 unfold codeN; rw [cst_cut h hz]
end Go.Proofs.YtldkdgimpckpdaaGreat
/- Chapter 11 in numbers, no walk: symbols that say tokens are read as the bytes. -/
namespace Go.Proofs.YtldkdgimpckpdaaGreat
open Go.RowKit
theorem lenW_is {n : Nat} (h1 : 3 ≤ n) (h2 : n ≤ 258) : ∃ i, i < 29 ∧ lenW n = (257 + i, n - lenB i, lenX i) ∧ lenB i ≤ n := by
 refine ⟨stepsV lenB n 29 - 1, ?_, rfl, ?_⟩
 ·have := stepsV_le lenB n 29; omega
 ·have h3 := stepsV_above lenB n 29 0
  have h0 : lenB 0 = 3 := rfl
  exact stepsV_below lenB_up n 29 _ (by
   rcases Nat.eq_zero_or_pos (stepsV lenB n 29) with h | h
   ·have := h3 (by omega) (by decide); omega
   ·omega)
theorem disW_is {n : Nat} (h1 : 1 ≤ n) : ∃ i, i < 30 ∧ disW n = (286 + i, n - dbase i, dbits i) ∧ dbase i ≤ n := by
 refine ⟨stepsV dbase n 30 - 1, ?_, rfl, ?_⟩
 ·have := stepsV_le dbase n 30; omega
 ·have h3 := stepsV_above dbase n 30 0
  have h0 : dbase 0 = 1 := rfl
  exact stepsV_below disB_up n 30 _ (by
   rcases Nat.eq_zero_or_pos (stepsV dbase n 30) with h | h
   ·have := h3 (by omega) (by decide); omega
   ·omega)
structure Cd (C : List (Nat × Nat)) (la : Nat → Nat) (na : Nat) (lb : Nat → Nat) (nb : Nat) : Prop where
 a : ∀ i, i < 286 → la i ≠ 0 → i < na ∧ C.getD i (0, 0) = (revN (la i) (codeN la na i), la i)
 b : ∀ i, i < 30 → lb i ≠ 0 → i < nb ∧ C.getD (286 + i) (0, 0) = (revN (lb i) (codeN lb nb i), lb i)
 la15 : ∀ j, j < na → la j ≤ 15
 lb15 : ∀ j, j < nb → lb j ≤ 15
 ka : kr la na ≤ 2 ^ 15
 kb : kr lb nb ≤ 2 ^ 15
def Usd (la lb : Nat → Nat) (ws : List (Int × Nat × Nat)) : Prop := ∀ x ∈ ws, (∃ i : Nat, x.1 = (i : Int) ∧ i < 286 ∧ la i ≠ 0) ∨ ∃ i : Nat, x.1 = ((286 + i : Nat) : Int) ∧ i < 30 ∧ lb i ≠ 0
theorem Usd.tail {la lb : Nat → Nat} {x : Int × Nat × Nat} {ws : List (Int × Nat × Nat)} (h : Usd la lb (x :: ws)) : Usd la lb ws := fun y hy => h y (.tail _ hy)
end Go.Proofs.YtldkdgimpckpdaaGreat
/- Chapter 11 in numbers, no walk: lengths that are told are read again. -/
namespace Go.Proofs.YtldkdgimpckpdaaGreat
open Go.RowKit
theorem upN_zero (f : Nat → Int) (lo : Nat) : ∀ (n i : Nat), upN f lo n ≤ i → i < n → f i = 0
 | 0, i, _, h => by omega
 | n + 1, i, h1, h2 => by
  unfold upN at h1
  split at h1
  ·next hh =>
   by_cases e : i = n
   ·subst e; exact hh.2
   ·exact upN_zero f lo n i h1 (by omega)
  ·omega
theorem bits_three (F : Nat → Nat) (z : Nat) : ∀ k, bitsN ((List.range k).map fun i => (F i, z)) = z * k
 | 0 => rfl
 | k + 1 => by rw [List.range_succ, List.map_append, bitsN_app, bits_three F z k, Nat.mul_succ]; rfl
theorem runV_cases (g : Nat → Int) (m a : Nat) (h : a < m) : (∃ t, runV g m a = ((18, t - 11, 7), t) ∧ 11 ≤ t ∧ t ≤ 138 ∧ a + t ≤ m ∧ ∀ j, j < t → g (a + j) = 0) ∨ (∃ t, runV g m a = ((17, t - 3, 3), t) ∧ 3 ≤ t ∧ t ≤ 10 ∧ a + t ≤ m ∧ ∀ j, j < t → g (a + j) = 0) ∨
  (∃ t, runV g m a = ((16, t - 3, 2), t) ∧ 0 < a ∧ g (a - 1) = g a ∧ 3 ≤ t ∧ t ≤ 6 ∧ a + t ≤ m ∧ ∀ j, j < t → g (a + j) = g a) ∨ runV g m a = ((g a, 0, 0), 1) := by
 have l1 := ali_le g m a 138
 have l2 := ali_le g m a 10
 have l3 := ali_le g m a 6
 have i1 := @ali_in g m a 138 (by omega)
 have i2 := @ali_in g m a 10 (by omega)
 have i3 := @ali_in g m a 6 (by omega)
 unfold runV
 by_cases h0 : g a = 0
 ·rw [if_pos h0]
  by_cases h1 : 11 ≤ ali g m a 138
  ·rw [if_pos h1]
   exact .inl ⟨_, rfl, h1, l1, i1, fun j hj => by rw [ali_all hj, h0]⟩
  ·rw [if_neg h1]
   by_cases h2 : 3 ≤ ali g m a 10
   ·rw [if_pos h2]
    exact .inr (.inl ⟨_, rfl, h2, l2, i2, fun j hj => by rw [ali_all hj, h0]⟩)
   ·rw [if_neg h2]; exact .inr (.inr (.inr rfl))
 ·rw [if_neg h0]
  by_cases h1 : 0 < a ∧ g (a - 1) = g a ∧ 3 ≤ ali g m a 6
  ·rw [if_pos h1]
   exact .inr (.inr (.inl ⟨_, rfl, h1.1, h1.2.1, h1.2.2, l3, i3, fun j hj => ali_all hj⟩))
  ·rw [if_neg h1]; exact .inr (.inr (.inr rfl))
end Go.Proofs.YtldkdgimpckpdaaGreat
/- Chapter 11 in numbers, no walk: a block of kind 2 tells its codes, and they are read again. -/
namespace Go.Proofs.YtldkdgimpckpdaaGreat
open Go.RowKit
end Go.Proofs.YtldkdgimpckpdaaGreat
/- Chapter 11 in numbers, no walk: what tells a block's codes is read as the codes' lengths. -/
namespace Go.Proofs.YtldkdgimpckpdaaGreat
open Go.RowKit
theorem cntV_pos : ∀ {ws : List (Int × Nat × Nat)} {x : Int × Nat × Nat} {i : Nat}, x ∈ ws → x.1 = (i : Int) → 0 < cntV ws i
 | y :: r, x, i, h, e => by
  unfold cntV
  rcases List.mem_cons.1 h with h | h
  ·rw [← h, if_pos e]; omega
  ·have := cntV_pos h e; omega
end Go.Proofs.YtldkdgimpckpdaaGreat
/- Chapter 11 in numbers, no walk: a block is read as its piece. -/
namespace Go.Proofs.YtldkdgimpckpdaaGreat
open Go.RowKit
theorem txL_a {f g : Nat → Nat} {n m i : Nat} (h : i < 286) (hn : 286 ≤ n) : (txL f n g m).getD i (0, 0) = cdV f n i := by
 unfold txL
 rw [List.getD_eq_getElem?_getD, List.getElem?_append_left (by rw [List.length_take, cdL_len]; omega), List.getElem?_take_of_lt h, cdL_at (by omega)]; rfl
theorem txL_b {f g : Nat → Nat} {n m i : Nat} (h : i < 30) (hn : 286 ≤ n) (hm : 30 ≤ m) : (txL f n g m).getD (286 + i) (0, 0) = cdV g m i := by
 unfold txL
 have e : ((cdL f n).take 286).length = 286 := by rw [List.length_take, cdL_len]; omega
 rw [List.getD_eq_getElem?_getD, List.getElem?_append_right (by omega), e, show 286 + i - 286 = i by omega, List.getElem?_take_of_lt h, cdL_at (by omega)]; rfl
end Go.Proofs.YtldkdgimpckpdaaGreat
/- Chapter 11 in numbers, no walk: what is packed is opened as it was. -/
namespace Go.Proofs.YtldkdgimpckpdaaGreat
open Go.RowKit
theorem fix_cd : Cd fixL (fun i => fixA.getD i 0) fixA.length (fun i => fixB.getD i 0) fixB.length := by
 have e1 : toL (numF fixA) = fun i => fixA.getD i 0 := funext fun i => by unfold toL numF; exact Int.toNat_natCast _
 have e2 : toL (numF fixB) = fun i => fixB.getD i 0 := funext fun i => by unfold toL numF; exact Int.toNat_natCast _
 have l1 : fixA.length = 288 := by decide +kernel
 have l2 : fixB.length = 32 := by decide +kernel
 rw [l1, l2]
 refine ⟨fun i hi _ => ⟨by omega, ?_⟩, fun i hi _ => ⟨by omega, ?_⟩, by decide +kernel, by decide +kernel, by decide +kernel, by decide +kernel⟩
 ·unfold fixL; rw [txL_a hi (by decide), e1]; rfl
 ·unfold fixL; rw [txL_b hi (by decide) (by decide), e2]; rfl
theorem fix_usd {ws : List (Int × Nat × Nat)} (hw : ∀ x ∈ ws, 0 ≤ x.1 ∧ x.1 < 316) : Usd (fun i => fixA.getD i 0) (fun i => fixB.getD i 0) ws := fun x hx => by
 have hx1 := hw x hx
 by_cases h : x.1 < 286
 ·exact .inl ⟨x.1.toNat, by omega, by omega, (by decide +kernel : ∀ i, i < 286 → fixA.getD i 0 ≠ 0) _ (by omega)⟩
 ·exact .inr ⟨x.1.toNat - 286, by omega, by omega, (by decide +kernel : ∀ i, i < 30 → fixB.getD i 0 ≠ 0) _ (by omega)⟩
end Go.Proofs.YtldkdgimpckpdaaGreat
/- Chapter 11 in numbers, no walk: what is packed is opened as it was, all of it; it has not much more bytes. -/
namespace Go.Proofs.YtldkdgimpckpdaaGreat
open Go.RowKit
end Go.Proofs.YtldkdgimpckpdaaGreat
