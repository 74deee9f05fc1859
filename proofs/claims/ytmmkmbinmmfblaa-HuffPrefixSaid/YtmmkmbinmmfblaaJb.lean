/- The developers' lists of chapter 9: may a limit be asked for? a list's clone; how many words begin with a code; halved. -/
import Derived.Test.YtmmkmbinmmfblaaJa
import Derived.Test.YtmmkmbinmmfblaaHs
namespace Go.Proofs.Ytmmkmbinmmfblaa
open Go.RowKit
theorem mayLimit_any (most : Int) (n : Nat) (b : Bool) (w : World) (hb : b = true ↔ n ≤ 300 ∧ okM most n) (hn : n ≤ 17592186044416) :
    Calls Try.prog 21 #[.int .i64 most, .int .i64 (n : Int)] w fun e w' => e = .returned (.bool b) ∧ w' = w := by
  by_cases h7 : most = 7
  · obtain rfl : b = decide ((n : Int) ≤ 19) := by
      rw [Bool.eq_iff_iff, hb, decide_eq_true_eq]; unfold okM; omega
    subst h7
    clear hb
    go_enter Try.func21, Try.ntmps21
    go_wp2_with fail
    go_ret
    exact ⟨rfl, rfl⟩
  · obtain rfl : b = (decide ((9 : Int) ≤ most) && decide (most ≤ 15) && decide ((n : Int) ≤ 300)) := by
      rw [Bool.eq_iff_iff, hb, Bool.and_eq_true, Bool.and_eq_true, decide_eq_true_eq, decide_eq_true_eq, decide_eq_true_eq]; unfold okM; omega
    clear hb
    by_cases h9 : (9 : Int) ≤ most
    · by_cases h15 : most ≤ 15
      · rw [decide_eq_true h9, decide_eq_true h15, Bool.and_self, Bool.true_and]
        go_enter Try.func21, Try.ntmps21
        go_wp2_with fail
        go_ret
        exact ⟨rfl, rfl⟩
      · rw [decide_eq_true h9, decide_eq_false h15, Bool.and_false, Bool.false_and]
        go_enter Try.func21, Try.ntmps21
        go_wp2_with fail
        go_ret
        exact ⟨rfl, rfl⟩
    · rw [decide_eq_false h9, Bool.false_and, Bool.false_and]
      go_enter Try.func21, Try.ntmps21
      go_wp2_with fail
      go_ret
      exact ⟨rfl, rfl⟩
theorem nil_ints (w : World) : (binOp .eql 22 (.slice none 0 0) (.slice none 0 0)).run Try.prog w = .ok (.bool true) w := by kernel_rfl
theorem some_ints (a : Addr) (n c : Nat) (w : World) : (binOp .eql 22 (.slice (some a) n c) (.slice none 0 0)).run Try.prog w = .ok (.bool false) w := by kernel_rfl
set_option maxRecDepth 100000 in
set_option maxHeartbeats 2000000 in
theorem clone_any (p : Option Addr) (n cap : Nat) (f : Nat → Int) (w : World) (h : IS p n cap f w) (hn : n ≤ 17592186044416) :
    Calls Try.prog 23 #[.slice p n cap] w fun e w' => ∃ v, e = .returned v ∧ LI w.heap.size w (firstI f n) v w' := by
  cases p with
  | none =>
    obtain ⟨rfl, rfl⟩ := h.nil_ rfl
    have e0 := nil_ints w
    go_enter Try.func23, Try.ntmps23
    go_wp2_with fail
    go_ret
    exact ⟨_, rfl, LI.nil (Below.refl _ _) (Nat.le_refl _)⟩
  | some ad =>
    obtain ⟨i0, hi, hz0, hz1, hz2⟩ := info_parts int_infoC
    have b1 : Below w.heap.size w (w.alloc (.cells #[] 3)) := (Below.refl _ _).alloc (Nat.le_refl _) _
    have h1 := h.below b1
    have hown : (w.alloc (.cells #[] 3)).ownsRow w.heap.size 3 1 (.slice (some ⟨w.heap.size, 0, none⟩) 0 0) 0 [] :=
      ⟨rfl, .inr ⟨w.heap.size, 0, #[], rfl, Nat.le_refl _, (Blk.new w _ _), Nat.le_refl _, by unfold maxLen; omega, rfl, rfl⟩⟩
    have e0 := some_ints ad n cap w
    have hz : w.heap.size ≤ (w.alloc (.cells #[] 3)).heap.size := by simp
    go_enter Try.func23, Try.ntmps23
    go_wp2_with (refine wpList_append_own _ rfl (.tmp 5) (.tmp 6) 22 rfl w.heap.size 3 i0 (.int .i64 0) 1 8 Try.underlying22 hi hz0 hz1 hz2 rfl (by decide) (.slice (some ⟨w.heap.size, 0, none⟩) 0 0) 0 [] rfl hown ad n cap ((firstI f n).map fun x => .int .i64 x) rfl (by rw [List.length_map, firstI_len, Nat.mul_one]) ?c1 ?c2 ?c3 ?c4 hz ?_)
    case c1 =>
      intro j u hu
      have hj : j < n := by
        rcases Nat.lt_or_ge j n with h1 | h1
        · exact h1
        · rw [List.getElem?_eq_none (by rw [List.length_map, firstI_len]; exact h1)] at hu; cases hu
      rw [h1.cell ad rfl j hj, ← hu, firstI, List.map_map, List.getElem?_map, List.getElem?_range hj]; rfl
    case c2 =>
      intro u hu
      obtain ⟨y, _, rfl⟩ := List.mem_map.1 hu
      rfl
    case c3 => unfold maxLen; omega
    case c4 => omega
    intro v' w2 hown2 hg _
    go_wp2_with fail
    go_ret
    refine ⟨_, rfl, ?_, ?_, Nat.le_trans hz hg.size⟩
    · rw [firstI_len]; simpa using hown2
    · exact b1.grown hg hz (fun k e => by cases e; exact Nat.le_refl _)
set_option maxRecDepth 100000 in
set_option maxHeartbeats 2000000 in
theorem share_any (p : Option Addr) (n cap : Nat) (f : Nat → Int) (w : World) (h : IS p n cap f w) (hn : n ≤ 17592186044416) (hok : okB f n = true) :
    Calls Try.prog 27 #[.slice p n cap] w fun e w' => e = .returned (.int .i64 (kr (toL f) n : Int)) ∧ w' = w := by
  have HB := Lib.hid (okB_true.1 hok)
  clear hok
  go_enter Try.func27, Try.ntmps27
  go_wp2_with fail
  go_loopw [3, 5, 8] (fun s _ i wr => ∃ k : Nat, k ≤ n ∧ i = .int .i64 (k : Int) ∧ s = .int .i64 (kr (toL f) k : Int) ∧ w = wr) (fun _ _ i _ => n - (intOf i).toNat)
  case atStart => exact ⟨0, by omega, rfl, rfl, rfl⟩
  case round =>
    obtain ⟨k, hk, rfl, rfl, rfl⟩ := hrel
    have hkr := kr_le (toL f) k
    by_cases hlt : k < n
    · cases p with
      | none => have := (h.nil_ rfl).1; omega
      | some a =>
        have c0 := h.cell a rfl k hlt
        have h0 := HB.out k hlt
        obtain ⟨d, hd⟩ := Int.eq_ofNat_of_zero_le h0.1
        have hd15 : d ≤ 15 := by omega
        have hdl : toL f k = d := by unfold toL; omega
        rw [hd] at c0
        by_cases hz : d = 0
        · have HK : Hid (kr (toL f) (k + 1) = kr (toL f) k) := Lib.hid (by show _ + (if toL f k = 0 then 0 else _) = _; rw [if_pos (by omega)]; rfl)
          generalize kr (toL f) k = S at *
          subst hz
          clear h0 hd hdl
          go_wp2_with fail
          go_roundw
          case rel => exact ⟨k + 1, by omega, by go_num, by rw [HK.out], by trivial⟩
          case measure => simp [intOf]; omega
        · obtain ⟨q, hq⟩ : ∃ q, q = 15 - d := ⟨_, rfl⟩
          have HK : Hid (kr (toL f) (k + 1) = kr (toL f) k + 2 ^ q) := Lib.hid (by show _ + (if toL f k = 0 then 0 else _) = _; rw [if_neg (by omega), hdl, hq])
          generalize kr (toL f) k = S at *
          have hqi : IntKind.i64.wrap (15 - (d : Int)) = (q : Int) := by rw [IntWalk.i64_in _ (by omega)]; omega
          have hd0 : (0 : Int) < (d : Int) := by omega
          have hdf : (d : Int) ≤ 15 := by omega
          have hq15 : q ≤ 14 := by omega
          clear h0 hd hdl hz hq
          have HW : Hid (wrap64 ((S : Int) + wrap64 (2 ^ q)) = ((S + 2 ^ q : Nat) : Int)) := Lib.hid (by
            have hQ : (2 : Int) ^ q = ((2 ^ q : Nat) : Int) := by rw [Int.natCast_pow]; rfl
            have hQl : 2 ^ q ≤ 2 ^ 14 := Nat.pow_le_pow_right (by decide) hq15
            rw [hQ]
            generalize 2 ^ q = Q at *
            have e1 : wrap64 (Q : Int) = (Q : Int) := IntWalk.wrap64_in _ (by omega)
            rw [e1, IntWalk.wrap64_in _ (by omega)]; omega)
          go_wp2_with fail
          go_roundw
          case rel => exact ⟨k + 1, by omega, by go_num, by rw [HK.out, HW.out], by trivial⟩
          case measure => simp [intOf]; omega
    · obtain rfl : k = n := by omega
      go_wp2_with fail
      go_ret
      exact ⟨rfl, rfl⟩
end Go.Proofs.Ytmmkmbinmmfblaa
