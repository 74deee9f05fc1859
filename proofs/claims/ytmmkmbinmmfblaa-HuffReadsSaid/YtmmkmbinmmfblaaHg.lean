/- Lists of integers, as they are read; the reference's sum and single of chapter 9. -/
import Derived.Test.YtmmkmbinmmfblaaHa
import Derived.Test.YtmmkmbinmmfblaaRows2
import Derived.Test.YtmmkmbinmmfblaaReg
import Derived.Test.YtmmkmbinmmfblaaMin
import Derived.IntWalk
namespace Go.Proofs.Ytmmkmbinmmfblaa
open Go.RowKit
/-- A slice of integers, read. -/
structure IS (p : Option Addr) (n cap : Nat) (f : Nat → Int) (w : World) : Prop where
  nil_ : p = none → n = 0 ∧ cap = 0
  cell : ∀ a, p = some a → ∀ i, i < n → w.cell? (a.add i) = some (.int .i64 (f i))
  lt : ∀ a, p = some a → a.block < w.heap.size
  lo : ∀ i, i < n → -9223372036854775808 ≤ f i
  hi : ∀ i, i < n → f i < 9223372036854775808
theorem IS.below {p : Option Addr} {n cap : Nat} {f : Nat → Int} {w w' : World} (h : IS p n cap f w) (hb : Below w.heap.size w w') : IS p n cap f w' :=
  ⟨h.nil_, fun a ha i hi => by
    have hl := h.lt a ha
    have : (a.add i).block = a.block := by unfold Addr.add; split <;> rfl
    rw [hb.cell (p := a.add i) (by rw [this]; exact hl)]; exact h.cell a ha i hi, fun a ha => Nat.lt_of_lt_of_le (h.lt a ha) hb.size, h.lo, h.hi⟩
/-- Is each one of the first n from 0 to 15? -/
def okB (f : Nat → Int) : Nat → Bool
  | 0 => true
  | k + 1 => okB f k && decide (0 ≤ f k ∧ f k ≤ 15)
theorem okB_true {f : Nat → Int} {n : Nat} : okB f n = true ↔ ∀ i, i < n → 0 ≤ f i ∧ f i ≤ 15 := by
  induction n with
  | zero => exact ⟨fun _ i hi => by omega, fun _ => rfl⟩
  | succ n ih =>
    unfold okB
    rw [Bool.and_eq_true, ih, decide_eq_true_eq]
    constructor
    · rintro ⟨h1, h2⟩ i hi
      rcases (show i < n ∨ i = n by omega) with h | rfl
      · exact h1 i h
      · exact h2
    · intro h
      exact ⟨fun i hi => h i (by omega), h n (by omega)⟩
theorem okB_false {f : Nat → Int} {n k : Nat} (hk : k < n) (h : ¬ (0 ≤ f k ∧ f k ≤ 15)) : okB f n = false := by
  cases e : okB f n with
  | false => rfl
  | true => exact absurd (okB_true.1 e k hk) h
/-- Lengths as numbers. -/
def toL (f : Nat → Int) (i : Nat) : Nat := (f i).toNat
theorem kr_le (l : Nat → Nat) (n : Nat) : kr l n ≤ n * 32768 := by
  induction n with
  | zero => exact Nat.zero_le _
  | succ n ih =>
    show kr l n + _ ≤ _
    rw [Nat.add_mul]
    refine Nat.add_le_add ih ?_
    split
    · exact Nat.zero_le _
    · rw [Nat.one_mul]
      exact Nat.pow_le_pow_right (by decide) (show 15 - l n ≤ 15 by omega)
/-- What sum answers. -/
def sumV (f : Nat → Int) (n : Nat) : Nat × Bool := if okB f n = true then (kr (toL f) n, decide (n ≤ 300)) else (0, false)
set_option maxRecDepth 100000 in
set_option maxHeartbeats 2000000 in
theorem rsum9_any (p : Option Addr) (n cap : Nat) (f : Nat → Int) (w : World) (h : IS p n cap f w) (hn : n ≤ 17592186044416) :
    Calls Try.prog 29 #[.slice p n cap] w fun e w' => e = .returned (.tuple #[.int .i64 ((sumV f n).1 : Int), .bool (sumV f n).2]) ∧ w' = w := by
  go_enter Try.func29, Try.ntmps29
  go_wp2_with fail
  go_loopw [4, 5] (fun s i wr => ∃ k : Nat, k ≤ n ∧ i = .int .i64 (k : Int) ∧ s = .int .i64 (kr (toL f) k : Int) ∧ okB f k = true ∧ w = wr) (fun _ i _ => n - (intOf i).toNat)
  case atStart => exact ⟨0, by omega, rfl, rfl, rfl, rfl⟩
  case round =>
    obtain ⟨k, hk, rfl, rfl, hok, rfl⟩ := hrel
    have hkr := kr_le (toL f) k
    by_cases hlt : k < n
    · cases p with
      | none => have := (h.nil_ rfl).1; omega
      | some a =>
        have c0 := h.cell a rfl k hlt
        by_cases h0 : 0 ≤ f k ∧ f k ≤ 15
        · have HO : Hid (okB f (k + 1) = true) := Lib.hid (by unfold okB; rw [hok, decide_eq_true h0]; rfl)
          obtain ⟨d, hd⟩ := Int.eq_ofNat_of_zero_le h0.1
          have hd15 : d ≤ 15 := by omega
          have hdl : toL f k = d := by unfold toL; omega
          rw [hd] at c0
          by_cases hz : d = 0
          · have HK : Hid (kr (toL f) (k + 1) = kr (toL f) k) := Lib.hid (by show _ + (if toL f k = 0 then 0 else _) = _; rw [if_pos (by omega)]; rfl)
            generalize kr (toL f) k = S at *
            subst hz
            clear h0 hd hdl hok
            go_wp2_with fail
            go_roundw
            case rel => exact ⟨k + 1, by omega, by go_num, by rw [HK.out], HO.out, by trivial⟩
            case measure => simp [intOf]; omega
          · obtain ⟨q, hq⟩ : ∃ q, q = 15 - d := ⟨_, rfl⟩
            have HK : Hid (kr (toL f) (k + 1) = kr (toL f) k + 2 ^ q) := Lib.hid (by show _ + (if toL f k = 0 then 0 else _) = _; rw [if_neg (by omega), hdl, hq])
            generalize kr (toL f) k = S at *
            have hqi : IntKind.i64.wrap (15 - (d : Int)) = (q : Int) := by rw [IntWalk.i64_in _ (by omega)]; omega
            have hd0 : (0 : Int) < (d : Int) := by omega
            have hdf : (d : Int) ≤ 15 := by omega
            have hq15 : q ≤ 14 := by omega
            clear h0 hd hdl hok hz hq
            have HW : Hid (wrap64 ((S : Int) + wrap64 (2 ^ q)) = ((S + 2 ^ q : Nat) : Int)) := Lib.hid (by
              have hQ : (2 : Int) ^ q = ((2 ^ q : Nat) : Int) := by rw [Int.natCast_pow]; rfl
              have hQl : 2 ^ q ≤ 2 ^ 14 := Nat.pow_le_pow_right (by decide) hq15
              rw [hQ]
              generalize 2 ^ q = Q at *
              have e1 : wrap64 (Q : Int) = (Q : Int) := IntWalk.wrap64_in _ (by omega)
              rw [e1, IntWalk.wrap64_in _ (by omega)]; omega)
            go_wp2_with fail
            go_roundw
            case rel => exact ⟨k + 1, by omega, by go_num, by rw [HK.out, HW.out], HO.out, by trivial⟩
            case measure => simp [intOf]; omega
        · have HV : Hid (sumV f n = (0, false)) := Lib.hid (by unfold sumV; rw [okB_false hlt h0]; rfl)
          have hor : f k < 0 ∨ (¬ f k < 0 ∧ f k > 15) := by omega
          clear h0 hok
          generalize f k = x at *
          rcases hor with hx | ⟨hx1, hx2⟩
          all_goals
            go_wp2_with fail
            go_ret2
            rw [HV.out]
            exact ⟨rfl, rfl⟩
    · obtain rfl : k = n := by omega
      have HV : Hid (sumV f k = (kr (toL f) k, decide (k ≤ 300))) := Lib.hid (by unfold sumV; rw [if_pos hok])
      have hle : decide ((k : Int) ≤ 300) = decide (k ≤ 300) := by rw [decide_eq_decide]; omega
      generalize decide (k ≤ 300) = b at *
      generalize kr (toL f) k = S at *
      clear hok
      go_wp2_with fail
      go_ret2
      rw [HV.out]
      exact ⟨rfl, rfl⟩
end Go.Proofs.Ytmmkmbinmmfblaa
