/- The developers' lists of chapter 9: are all within bounds? how many words begin with a code? halved; may a limit be asked for? -/
import Derived.Test.YtmmkmbinmmfblaaMC
import Derived.Test.YtmmkmbinmmfblaaMA
namespace Go.Proofs.Ytmmkmbinmmfblaa
open Go.RowKit
/-- Is each one of the first n from 0 to m? -/
def allB (f : Nat → Int) (m : Int) : Nat → Bool
  | 0 => true
  | k + 1 => allB f m k && decide (0 ≤ f k ∧ f k ≤ m)
theorem allB_true {f : Nat → Int} {m : Int} {n : Nat} : allB f m n = true ↔ ∀ i, i < n → 0 ≤ f i ∧ f i ≤ m := by
  induction n with
  | zero => exact ⟨fun _ i hi => by omega, fun _ => rfl⟩
  | succ n ih =>
    unfold allB
    rw [Bool.and_eq_true, ih, decide_eq_true_eq]
    constructor
    · rintro ⟨h1, h2⟩ i hi
      rcases (show i < n ∨ i = n by omega) with h | rfl
      · exact h1 i h
      · exact h2
    · intro h
      exact ⟨fun i hi => h i (by omega), h n (by omega)⟩
theorem allB_false {f : Nat → Int} {m : Int} {n k : Nat} (hk : k < n) (h : ¬ (0 ≤ f k ∧ f k ≤ m)) : allB f m n = false := by
  cases e : allB f m n with
  | false => rfl
  | true => exact absurd (allB_true.1 e k hk) h
theorem allB_ok (f : Nat → Int) (n : Nat) : allB f 15 n = okB f n := by
  induction n with
  | zero => rfl
  | succ n ih => unfold allB okB; rw [ih]
theorem out_any (x m : Int) (g : Nat) (w : World) (hb : w.cell? ⟨g, 0, none⟩ = some (.int .i64 m)) :
    Calls Try.prog 32 #[.int .i64 x, .pointer (some ⟨g, 0, none⟩)] w fun e w' => e = .returned (.bool (decide (x < 0 ∨ x > m))) ∧ w' = w := by
  by_cases h0 : x < 0
  · rw [decide_eq_true (.inl h0)]
    go_enter Try.func32, Try.ntmps32
    go_wp2_with fail
    go_ret
    exact ⟨rfl, rfl⟩
  · by_cases h1 : x > m
    · rw [decide_eq_true (.inr h1)]
      go_enter Try.func32, Try.ntmps32
      go_wp2_with fail
      go_ret
      exact ⟨rfl, rfl⟩
    · rw [decide_eq_false (by omega)]
      go_enter Try.func32, Try.ntmps32
      go_wp2_with fail
      go_ret
      exact ⟨rfl, rfl⟩
set_option maxRecDepth 100000 in
set_option maxHeartbeats 2000000 in
theorem indexOut_any (p : Option Addr) (n cap : Nat) (f : Nat → Int) (m : Int) (g : Nat) (w : World) (h : IS p n cap f w) (hn : n ≤ 17592186044416) (hb : w.cell? ⟨g, 0, none⟩ = some (.int .i64 m)) :
    Calls Try.prog 39 #[.slice p n cap, .func (.func 32) #[] #[.pointer (some ⟨g, 0, none⟩)]] w fun e w' => (∃ i : Int, e = .returned (.int .i64 i) ∧ decide (0 ≤ i) = !allB f m n) ∧ w' = w := by
  have C := Lib.hid (fun x => out_any x m g w hb)
  go_enter Try.func39, Try.ntmps39
  go_wp2_with fail
  go_loopw [5, 8] (fun j i wr => ∃ k : Nat, k ≤ n ∧ i = .int .i64 (k : Int) ∧ allB f m k = true ∧ w = wr) (fun _ i _ => n - (intOf i).toNat)
  case atStart => exact ⟨0, by omega, rfl, rfl, rfl⟩
  case round =>
    obtain ⟨k, hk, rfl, hok, rfl⟩ := hrel
    by_cases hlt : k < n
    · cases p with
      | none => have := (h.nil_ rfl).1; omega
      | some a =>
        have c0 := h.cell a rfl k hlt
        have CK := C.out (f k)
        by_cases h0 : 0 ≤ f k ∧ f k ≤ m
        · have HO : Hid (allB f m (k + 1) = true) := Lib.hid (by unfold allB; rw [hok, decide_eq_true h0]; rfl)
          rw [decide_eq_false (by omega)] at CK
          generalize f k = x at *
          clear h0 hok
          go_wp2_with fail
          refine CK.mono ?_
          rintro e w1 ⟨rfl, rfl⟩
          go_wp2_with fail
          go_roundw
          case rel => exact ⟨k + 1, by omega, by go_num, HO.out, by trivial⟩
          case measure => simp [intOf]; omega
        · have HV : Hid (allB f m n = false) := Lib.hid (allB_false hlt h0)
          rw [decide_eq_true (by omega)] at CK
          generalize f k = x at *
          clear h0 hok
          go_wp2_with fail
          refine CK.mono ?_
          rintro e w1 ⟨rfl, rfl⟩
          go_wp2_with fail
          go_ret
          exact ⟨⟨_, rfl, by rw [HV.out]; simp⟩, rfl⟩
    · obtain rfl : k = n := by omega
      go_wp2_with fail
      go_ret
      exact ⟨⟨_, rfl, by rw [hok]; simp⟩, rfl⟩
theorem containsOut_any (p : Option Addr) (n cap : Nat) (f : Nat → Int) (m : Int) (g : Nat) (w : World) (h : IS p n cap f w) (hn : n ≤ 17592186044416) (hb : w.cell? ⟨g, 0, none⟩ = some (.int .i64 m)) :
    Calls Try.prog 31 #[.slice p n cap, .func (.func 32) #[] #[.pointer (some ⟨g, 0, none⟩)]] w fun e w' => e = .returned (.bool (!allB f m n)) ∧ w' = w := by
  have C := indexOut_any p n cap f m g w h hn hb
  generalize allB f m n = b at *
  go_enter Try.func31, Try.ntmps31
  go_wp2_with fail
  refine C.mono ?_
  rintro e w1 ⟨⟨i, rfl, hi⟩, rfl⟩
  have HI := Lib.hid hi
  clear hi
  go_wp2_with fail
  go_ret
  exact ⟨by rw [← HI.out]; rfl, rfl⟩
theorem allWithin_any (p : Option Addr) (n cap : Nat) (f : Nat → Int) (m : Int) (w : World) (h : IS p n cap f w) (hn : n ≤ 17592186044416) :
    Calls Try.prog 22 #[.slice p n cap, .int .i64 m] w fun e w' => e = .returned (.bool (allB f m n)) ∧ Below w.heap.size w w' := by
  have hb := Blk.new w 3 #[.int .i64 m]
  have b1 : Below w.heap.size w (w.alloc (.cells #[.int .i64 m] 3)) := (Below.refl _ _).alloc (Nat.le_refl _) _
  have C := containsOut_any p n cap f m w.heap.size _ (h.below b1) hn (hb.cell 0)
  generalize allB f m n = b at *
  go_enter Try.func22, Try.ntmps22
  go_wp2_with fail
  refine C.mono ?_
  rintro e w1 ⟨rfl, rfl⟩
  go_wp2_with fail
  go_ret
  exact ⟨by simp, b1⟩
end Go.Proofs.Ytmmkmbinmmfblaa
