/- The developers' lists of chapter 9: are all within bounds? how many words begin with a code? halved; may a limit be asked for? -/
import Derived.Test.YtldkdgimpckpdaaGreatMC
import Derived.Test.YtldkdgimpckpdaaGreatMA
import Derived.Test.YtldkdgimpckpdaaGreatMD
import Derived.Test.YtldkdgimpckpdaaGreatMB
import Derived.Maps.OwnOps
import Derived.Maps.OwnSet
import Derived.Maps.Views
import Derived.Shelf.SlSortCmp.WholeK
import Derived.IntWalk
import Derived.Laws.OwnMore
namespace Go.Proofs.YtldkdgimpckpdaaGreat
open Go.RowKit
def allB (f : Nat → Int) (m : Int) : Nat → Bool
 | 0 => true
 | k + 1 => allB f m k && decide (0 ≤ f k ∧ f k ≤ m)
theorem allB_true {f : Nat → Int} {m : Int} {n : Nat} : allB f m n = true ↔ ∀ i, i < n → 0 ≤ f i ∧ f i ≤ m := by
 induction n with
 | zero => exact ⟨fun _ i hi => by omega, fun _ => rfl⟩
 | succ n ih =>
  unfold allB
  rw [Bool.and_eq_true, ih, decide_eq_true_eq]
  constructor
  ·rintro ⟨h1, h2⟩ i hi
   rcases (show i < n ∨ i = n by omega) with h | rfl
   ·exact h1 i h
   ·exact h2
  ·intro h
   exact ⟨fun i hi => h i (by omega), h n (by omega)⟩
theorem allB_false {f : Nat → Int} {m : Int} {n k : Nat} (hk : k < n) (h : ¬ (0 ≤ f k ∧ f k ≤ m)) : allB f m n = false := by
 cases e : allB f m n with
 | false => rfl
 | true => exact absurd (allB_true.1 e k hk) h
theorem allB_ok (f : Nat → Int) (n : Nat) : allB f 15 n = okB f n := by
 induction n with
 | zero => rfl
 | succ n ih => unfold allB okB; rw [ih]
theorem out_any (x m : Int) (g : Nat) (w : World) (hb : w.cell? ⟨g, 0, none⟩ = some (.int .i64 m)) :
  Calls Tryz.prog 98 #[.int .i64 x, .pointer (some ⟨g, 0, none⟩)] w fun e w' => e = .returned (.bool (decide (x < 0 ∨ x > m))) ∧ w' = w := by
 by_cases h0 : x < 0
 ·rw [decide_eq_true (.inl h0)]
  go_enter Tryz.func98, Tryz.ntmps98
  go_wp2_with fail
  go_ret
  exact ⟨rfl, rfl⟩
 ·by_cases h1 : x > m
  ·rw [decide_eq_true (.inr h1)]
   go_enter Tryz.func98, Tryz.ntmps98
   go_wp2_with fail
   go_ret
   exact ⟨rfl, rfl⟩
  ·rw [decide_eq_false (by omega)]
   go_enter Tryz.func98, Tryz.ntmps98
   go_wp2_with fail
   go_ret
   exact ⟨rfl, rfl⟩
set_option maxRecDepth 100000 in
set_option maxHeartbeats 2000000 in
theorem indexOut_any (p : Option Addr) (n cap : Nat) (f : Nat → Int) (m : Int) (g : Nat) (w : World) (h : IS p n cap f w) (hn : n ≤ 17592186044416) (hb : w.cell? ⟨g, 0, none⟩ = some (.int .i64 m)) :
  Calls Tryz.prog 110 #[.slice p n cap, .func (.func 98) #[] #[.pointer (some ⟨g, 0, none⟩)]] w fun e w' => (∃ i : Int, e = .returned (.int .i64 i) ∧ decide (0 ≤ i) = !allB f m n) ∧ w' = w := by
 have C := Lib.hid (fun x => out_any x m g w hb)
 go_enter Tryz.func110, Tryz.ntmps110
 go_wp2_with fail
 go_loopw [5, 8] (fun j i wr => ∃ k : Nat, k ≤ n ∧ i = .int .i64 (k : Int) ∧ allB f m k = true ∧ w = wr) (fun _ i _ => n - (intOf i).toNat)
 case atStart => exact ⟨0, by omega, rfl, rfl, rfl⟩
 case round =>
  obtain ⟨k, hk, rfl, hok, rfl⟩ := hrel
  by_cases hlt : k < n
  ·cases p with
   | none => have := (h.nil_ rfl).1; omega
   | some a =>
    have c0 := h.cell a rfl k hlt
    have CK := C.out (f k)
    by_cases h0 : 0 ≤ f k ∧ f k ≤ m
    ·have HO : Hid (allB f m (k + 1) = true) := Lib.hid (by unfold allB; rw [hok, decide_eq_true h0]; rfl)
     rw [decide_eq_false (by omega)] at CK
     generalize f k = x at *
     clear h0 hok
     go_wp2_with fail
     refine CK.mono ?_
     rintro e w1 ⟨rfl, rfl⟩
     go_wp2_with fail
     go_roundw
     case rel => exact ⟨k + 1, by omega, by go_num, HO.out, by trivial⟩
     case measure => simp [intOf]; omega
    ·have HV : Hid (allB f m n = false) := Lib.hid (allB_false hlt h0)
     rw [decide_eq_true (by omega)] at CK
     generalize f k = x at *
     clear h0 hok
     go_wp2_with fail
     refine CK.mono ?_
     rintro e w1 ⟨rfl, rfl⟩
     go_wp2_with fail
     go_ret
     exact ⟨⟨_, rfl, by rw [HV.out]; simp⟩, rfl⟩
  ·obtain rfl : k = n := by omega
   go_wp2_with fail
   go_ret
   exact ⟨⟨_, rfl, by rw [hok]; simp⟩, rfl⟩
theorem containsOut_any (p : Option Addr) (n cap : Nat) (f : Nat → Int) (m : Int) (g : Nat) (w : World) (h : IS p n cap f w) (hn : n ≤ 17592186044416) (hb : w.cell? ⟨g, 0, none⟩ = some (.int .i64 m)) :
  Calls Tryz.prog 97 #[.slice p n cap, .func (.func 98) #[] #[.pointer (some ⟨g, 0, none⟩)]] w fun e w' => e = .returned (.bool (!allB f m n)) ∧ w' = w := by
 have C := indexOut_any p n cap f m g w h hn hb
 generalize allB f m n = b at *
 go_enter Tryz.func97, Tryz.ntmps97
 go_wp2_with fail
 refine C.mono ?_
 rintro e w1 ⟨⟨i, rfl, hi⟩, rfl⟩
 have HI := Lib.hid hi
 clear hi
 go_wp2_with fail
 go_ret
 exact ⟨by rw [← HI.out]; rfl, rfl⟩
theorem allWithin_any (p : Option Addr) (n cap : Nat) (f : Nat → Int) (m : Int) (w : World) (h : IS p n cap f w) (hn : n ≤ 17592186044416) :
  Calls Tryz.prog 74 #[.slice p n cap, .int .i64 m] w fun e w' => e = .returned (.bool (allB f m n)) ∧ Below w.heap.size w w' := by
 have hb := Blk.new w 3 #[.int .i64 m]
 have b1 : Below w.heap.size w (w.alloc (.cells #[.int .i64 m] 3)) := (Below.refl _ _).alloc (Nat.le_refl _) _
 have C := containsOut_any p n cap f m w.heap.size _ (h.below b1) hn (hb.cell 0)
 generalize allB f m n = b at *
 go_enter Tryz.func74, Tryz.ntmps74
 go_wp2_with fail
 refine C.mono ?_
 rintro e w1 ⟨rfl, rfl⟩
 go_wp2_with fail
 go_ret
 exact ⟨by simp, b1⟩
end Go.Proofs.YtldkdgimpckpdaaGreat
/- The developers' lists of chapter 9: may a limit be asked for? a list's clone; how many words begin with a code; halved. -/
namespace Go.Proofs.YtldkdgimpckpdaaGreat
open Go.RowKit
theorem mayLimit_any (most : Int) (n : Nat) (b : Bool) (w : World) (hb : b = true ↔ n ≤ 300 ∧ okM most n) (hn : n ≤ 17592186044416) :
  Calls Tryz.prog 73 #[.int .i64 most, .int .i64 (n : Int)] w fun e w' => e = .returned (.bool b) ∧ w' = w := by
 by_cases h7 : most = 7
 ·obtain rfl : b = decide ((n : Int) ≤ 19) := by
   rw [Bool.eq_iff_iff, hb, decide_eq_true_eq]; unfold okM; omega
  subst h7
  clear hb
  go_enter Tryz.func73, Tryz.ntmps73
  go_wp2_with fail
  go_ret
  exact ⟨rfl, rfl⟩
 ·obtain rfl : b = (decide ((9 : Int) ≤ most) && decide (most ≤ 15) && decide ((n : Int) ≤ 300)) := by
   rw [Bool.eq_iff_iff, hb, Bool.and_eq_true, Bool.and_eq_true, decide_eq_true_eq, decide_eq_true_eq, decide_eq_true_eq]; unfold okM; omega
  clear hb
  by_cases h9 : (9 : Int) ≤ most
  ·by_cases h15 : most ≤ 15
   ·rw [decide_eq_true h9, decide_eq_true h15, Bool.and_self, Bool.true_and]
    go_enter Tryz.func73, Tryz.ntmps73
    go_wp2_with fail
    go_ret
    exact ⟨rfl, rfl⟩
   ·rw [decide_eq_true h9, decide_eq_false h15, Bool.and_false, Bool.false_and]
    go_enter Tryz.func73, Tryz.ntmps73
    go_wp2_with fail
    go_ret
    exact ⟨rfl, rfl⟩
  ·rw [decide_eq_false h9, Bool.false_and, Bool.false_and]
   go_enter Tryz.func73, Tryz.ntmps73
   go_wp2_with fail
   go_ret
   exact ⟨rfl, rfl⟩
theorem nil_ints (w : World) : (binOp .eql 67 (.slice none 0 0) (.slice none 0 0)).run Tryz.prog w = .ok (.bool true) w := by kernel_rfl
theorem some_ints (a : Addr) (n c : Nat) (w : World) : (binOp .eql 67 (.slice (some a) n c) (.slice none 0 0)).run Tryz.prog w = .ok (.bool false) w := by kernel_rfl
set_option maxRecDepth 100000 in
set_option maxHeartbeats 2000000 in
theorem clone_any (p : Option Addr) (n cap : Nat) (f : Nat → Int) (w : World) (h : IS p n cap f w) (hn : n ≤ 17592186044416) :
  Calls Tryz.prog 75 #[.slice p n cap] w fun e w' => ∃ v, e = .returned v ∧ LI w.heap.size w (firstI f n) v w' := by
 cases p with
 | none =>
  obtain ⟨rfl, rfl⟩ := h.nil_ rfl
  have e0 := nil_ints w
  go_enter Tryz.func75, Tryz.ntmps75
  go_wp2_with fail
  go_ret
  exact ⟨_, rfl, LI.nil (Below.refl _ _) (Nat.le_refl _)⟩
 | some ad =>
  obtain ⟨i0, hi, hz0, hz1, hz2⟩ := info_parts int_infoC
  have b1 : Below w.heap.size w (w.alloc (.cells #[] 3)) := (Below.refl _ _).alloc (Nat.le_refl _) _
  have h1 := h.below b1
  have hown : (w.alloc (.cells #[] 3)).ownsRow w.heap.size 3 1 (.slice (some ⟨w.heap.size, 0, none⟩) 0 0) 0 [] :=
   ⟨rfl, .inr ⟨w.heap.size, 0, #[], rfl, Nat.le_refl _, (Blk.new w _ _), Nat.le_refl _, by unfold maxLen; omega, rfl, rfl⟩⟩
  have e0 := some_ints ad n cap w
  have hz : w.heap.size ≤ (w.alloc (.cells #[] 3)).heap.size := by simp
  go_enter Tryz.func75, Tryz.ntmps75
  go_wp2_with (refine wpList_append_own _ rfl (.tmp 5) (.tmp 6) 67 rfl w.heap.size 3 i0 (.int .i64 0) 1 8 Tryz.underlying67 hi hz0 hz1 hz2 rfl (by decide) (.slice (some ⟨w.heap.size, 0, none⟩) 0 0) 0 [] rfl hown ad n cap ((firstI f n).map fun x => .int .i64 x) rfl (by rw [List.length_map, firstI_len, Nat.mul_one]) ?c1 ?c2 ?c3 ?c4 hz ?_)
  case c1 =>
   intro j u hu
   have hj : j < n := by
    rcases Nat.lt_or_ge j n with h1 | h1
    ·exact h1
    ·rw [List.getElem?_eq_none (by rw [List.length_map, firstI_len]; exact h1)] at hu; cases hu
   rw [h1.cell ad rfl j hj, ← hu, firstI, List.map_map, List.getElem?_map, List.getElem?_range hj]; rfl
  case c2 =>
   intro u hu
   obtain ⟨y, _, rfl⟩ := List.mem_map.1 hu
   rfl
  case c3 => unfold maxLen; omega
  case c4 => omega
  intro v' w2 hown2 hg _
  go_wp2_with fail
  go_ret
  refine ⟨_, rfl, ?_, ?_, Nat.le_trans hz hg.size⟩
  ·rw [firstI_len]; simpa using hown2
  ·exact b1.grown hg hz (fun k e => by cases e; exact Nat.le_refl _)
set_option maxRecDepth 100000 in
set_option maxHeartbeats 2000000 in
theorem share_any (p : Option Addr) (n cap : Nat) (f : Nat → Int) (w : World) (h : IS p n cap f w) (hn : n ≤ 17592186044416) (hok : okB f n = true) :
  Calls Tryz.prog 90 #[.slice p n cap] w fun e w' => e = .returned (.int .i64 (kr (toL f) n : Int)) ∧ w' = w := by
 have HB := Lib.hid (okB_true.1 hok)
 clear hok
 go_enter Tryz.func90, Tryz.ntmps90
 go_wp2_with fail
 go_loopw [3, 5, 8] (fun s _ i wr => ∃ k : Nat, k ≤ n ∧ i = .int .i64 (k : Int) ∧ s = .int .i64 (kr (toL f) k : Int) ∧ w = wr) (fun _ _ i _ => n - (intOf i).toNat)
 case atStart => exact ⟨0, by omega, rfl, rfl, rfl⟩
 case round =>
  obtain ⟨k, hk, rfl, rfl, rfl⟩ := hrel
  have hkr := kr_le (toL f) k
  by_cases hlt : k < n
  ·cases p with
   | none => have := (h.nil_ rfl).1; omega
   | some a =>
    have c0 := h.cell a rfl k hlt
    have h0 := HB.out k hlt
    obtain ⟨d, hd⟩ := Int.eq_ofNat_of_zero_le h0.1
    have hd15 : d ≤ 15 := by omega
    have hdl : toL f k = d := by unfold toL; omega
    rw [hd] at c0
    by_cases hz : d = 0
    ·have HK : Hid (kr (toL f) (k + 1) = kr (toL f) k) := Lib.hid (by show _ + (if toL f k = 0 then 0 else _) = _; rw [if_pos (by omega)]; rfl)
     generalize kr (toL f) k = S at *
     subst hz
     clear h0 hd hdl
     go_wp2_with fail
     go_roundw
     case rel => exact ⟨k + 1, by omega, by go_num, by rw [HK.out], by trivial⟩
     case measure => simp [intOf]; omega
    ·obtain ⟨q, hq⟩ : ∃ q, q = 15 - d := ⟨_, rfl⟩
     have HK : Hid (kr (toL f) (k + 1) = kr (toL f) k + 2 ^ q) := Lib.hid (by show _ + (if toL f k = 0 then 0 else _) = _; rw [if_neg (by omega), hdl, hq])
     generalize kr (toL f) k = S at *
     have hqi : IntKind.i64.wrap (15 - (d : Int)) = (q : Int) := by rw [IntWalk.i64_in _ (by omega)]; omega
     have hd0 : (0 : Int) < (d : Int) := by omega
     have hdf : (d : Int) ≤ 15 := by omega
     have hq15 : q ≤ 14 := by omega
     clear h0 hd hdl hz hq
     have HW : Hid (wrap64 ((S : Int) + wrap64 (2 ^ q)) = ((S + 2 ^ q : Nat) : Int)) := Lib.hid (by
      have hQ : (2 : Int) ^ q = ((2 ^ q : Nat) : Int) := by rw [Int.natCast_pow]; rfl
      have hQl : 2 ^ q ≤ 2 ^ 14 := Nat.pow_le_pow_right (by decide) hq15
      rw [hQ]
      generalize 2 ^ q = Q at *
      have e1 : wrap64 (Q : Int) = (Q : Int) := IntWalk.wrap64_in _ (by omega)
      rw [e1, IntWalk.wrap64_in _ (by omega)]; omega)
     go_wp2_with fail
     go_roundw
     case rel => exact ⟨k + 1, by omega, by go_num, by rw [HK.out, HW.out], by trivial⟩
     case measure => simp [intOf]; omega
  ·obtain rfl : k = n := by omega
   go_wp2_with fail
   go_ret
   exact ⟨rfl, rfl⟩
end Go.Proofs.YtldkdgimpckpdaaGreat
/- The developers' firstCodes and Codes of chapter 9. -/
namespace Go.Proofs.YtldkdgimpckpdaaGreat
open Go.RowKit
theorem zero16 (w : World) : (zeroValue 147).run Tryz.prog w = .ok (.agg (rI 16 fun _ => 0)) w := by kernel_rfl
theorem len16 : Tryz.prog.arrayLen 147 = 16 := by kernel_rfl
theorem cst_small (l : Nat → Nat) (n d : Nat) : cst l n d + 2 * n ≤ 2 ^ (d + 1) * n := by
 induction d with
 | zero => show 0 + 2 * n ≤ _; omega
 | succ d ih =>
  have h1 := cnt_le l (d + 1) n
  show 2 * (cst l n d + cnt l (d + 1) n) + 2 * n ≤ _
  rw [Nat.pow_succ, Nat.mul_comm (2 ^ (d + 1)) 2, Nat.mul_assoc]
  omega
theorem cst_lt (l : Nat → Nat) {n d : Nat} (hn : n ≤ 300) (hd : d ≤ 15) : cst l n d ≤ 19660800 := by
 have h := cst_small l n d
 have h1 : 2 ^ (d + 1) ≤ 2 ^ 16 := Nat.pow_le_pow_right (by decide) (by omega)
 have h2 : 2 ^ (d + 1) * n ≤ 2 ^ 16 * 300 := Nat.mul_le_mul h1 hn
 omega
def fst9 (l : Nat → Nat) (n d : Nat) : Nat := if d = 0 then 0 else cst l n (d - 1)
def fstF (l : Nat → Nat) (n m d : Nat) : Int := if d < m then (fst9 l n d : Int) else 0
theorem fst_next (l : Nat → Nat) (n m : Nat) (h : 2 ≤ m) : fst9 l n m = 2 * (fst9 l n (m - 1) + cnt l (m - 1) n) := by
 unfold fst9
 rw [if_neg (by omega), if_neg (by omega)]
 obtain ⟨d, rfl⟩ : ∃ d, m = d + 2 := ⟨m - 2, by omega⟩
 rfl
theorem fst_lt (l : Nat → Nat) {n d : Nat} (hn : n ≤ 300) (hd : d ≤ 16) : fst9 l n d ≤ 19660800 := by
 unfold fst9
 split
 ·omega
 ·exact cst_lt l hn (by omega)
theorem fstF_put (l : Nat → Nat) (n m j : Nat) : (if j = m then Value.int .i64 ((fst9 l n m : Nat) : Int) else Value.int .i64 (fstF l n m j)) = Value.int .i64 (fstF l n (m + 1) j) := by
 unfold fstF
 by_cases h : j = m
 ·subst h; rw [if_pos rfl, if_pos (by omega)]
 ·rw [if_neg h]
  by_cases h2 : j < m
  ·rw [if_pos h2, if_pos (by omega)]
  ·rw [if_neg h2, if_neg (by omega)]
theorem cnt_put (l : Nat → Nat) (k j d : Nat) (hd : l k = d) : (if j = d then Value.int .i64 ((cnt l d k + 1 : Nat) : Int) else Value.int .i64 (cnt l j k : Int)) = Value.int .i64 (cnt l j (k + 1) : Int) := by
 show _ = Value.int .i64 ((cnt l j k + (if l k = j then 1 else 0) : Nat) : Int)
 by_cases h : j = d
 ·subst h; rw [if_pos rfl, if_pos hd]
 ·rw [if_neg h, if_neg (by omega)]; rfl
abbrev FB (B k m : Nat) (l : Nat → Nat) (n : Nat) : List (Nat × TypeId × Array Value) := [(B, 147, rI 16 fun _ => 0), (B + 1, 147, rI 16 fun d => (cnt l d k : Int)), (B + 1 + 1, 147, rI 16 (fstF l n m))]
set_option maxRecDepth 100000 in
set_option maxHeartbeats 4000000 in
theorem firstCodes_any (p : Option Addr) (n cap : Nat) (f : Nat → Int) (w : World) (h : IS p n cap f w) (hn : n ≤ 300) (hok : okB f n = true) :
  Calls Tryz.prog 91 #[.slice p n cap] w fun e w' => e = .returned (.agg (rI 16 fun d => (fst9 (toL f) n d : Int))) ∧ Below w.heap.size w w' := by
 have HB := Lib.hid (okB_true.1 hok)
 have hz := zero16
 have hal := len16
 clear hok
 go_enter Tryz.func91, Tryz.ntmps91
 go_wp2_with fail
 clear hz
 have K0 : Hid (Known w.heap.size w (FB w.heap.size 0 2 (toL f) n) (((w.alloc (.cells (rI 16 fun _ => 0) 147)).alloc (.cells (rI 16 fun _ => 0) 147)).alloc (.cells (rI 16 fun _ => 0) 147))) := Lib.hid (by
  refine ((((Known.begin w).add (rI 16 fun _ => 0) 147).add (rI 16 fun _ => 0) 147).add (rI 16 fun _ => 0) 147).sub fun x hx => ?_
  have e2 : rI 16 (fstF (toL f) n 2) = rI 16 fun _ => 0 := row_ext fun i _ => by
   unfold fstF fst9
   by_cases h0 : i = 0
   ·subst h0; rfl
   ·by_cases h1 : i = 1
    ·subst h1; rfl
    ·rw [if_neg (by omega)]
  have e1 : (rI 16 fun d => (cnt (toL f) d 0 : Int)) = rI 16 fun _ => 0 := rfl
  unfold FB at hx
  rw [e2, e1] at hx
  simp only [List.mem_cons, List.not_mem_nil, or_false, World.size_alloc] at hx ⊢
  rcases hx with rfl | rfl | rfl
  ·exact .inr (.inr rfl)
  ·exact .inr (.inl rfl)
  ·exact .inl rfl)
 go_loopw [6, 10] (fun _ i wr => ∃ k : Nat, k ≤ n ∧ i = .int .i64 (k : Int) ∧ Known w.heap.size w (FB w.heap.size k 2 (toL f) n) wr) (fun _ i _ => n - (intOf i).toNat)
 case atStart => exact ⟨0, by omega, rfl, K0.out⟩
 case round =>
  obtain ⟨k, hk, rfl, hK⟩ := hrel
  clear K0
  by_cases hlt : k < n
  ·cases p with
   | none => have := (h.nil_ rfl).1; omega
   | some a =>
    have hw := h.below hK.b
    have c0 := hw.cell a rfl k hlt
    have h0 := HB.out k hlt
    obtain ⟨d, hd⟩ := Int.eq_ofNat_of_zero_le h0.1
    have hd15 : d < 16 := by omega
    have hdl : toL f k = d := by unfold toL; omega
    rw [hd] at c0
    have hb1 : Blk wr (w.heap.size + 1) 147 (rI 16 fun d => (cnt (toL f) d k : Int)) := hK.blk _ m1
    have c1 := hb1.at_ hd15
    have f1 := hb1.frozen d
    have hcl := cnt_le (toL f) d k
    have HP := Lib.hid (hK.cell hb1 hd15 (by omega) (.int .i64 ((cnt (toL f) d k + 1 : Nat) : Int)) (FB w.heap.size (k + 1) 2 (toL f) n) (fun x hx => by
     simp only [List.mem_cons, List.not_mem_nil, or_false] at hx
     rcases hx with rfl | rfl | rfl
     ·exact .inr ⟨m0, by show w.heap.size ≠ w.heap.size + 1; omega⟩
     ·exact .inl (congrArg (fun r => (w.heap.size + 1, 147, r)) (row_ext fun i _ => (cnt_put (toL f) k i d hdl).symm))
     ·exact .inr ⟨m2, by show w.heap.size + 1 + 1 ≠ w.heap.size + 1; omega⟩))
    have hW : Hid (wrap64 ((cnt (toL f) d k : Int) + 1) = ((cnt (toL f) d k + 1 : Nat) : Int)) := Lib.hid (by rw [IntWalk.wrap64_in _ (by omega)]; omega)
    clear h0 hd hdl hb1 hcl hw
    have hdi : (d : Int) < 16 := by omega
    go_wp2_with fail
    go_roundw
    case rel => exact ⟨k + 1, by omega, by go_num, by rw [hW.out]; exact HP.out⟩
    case measure => simp [intOf]; omega
  ·obtain rfl : k = n := by omega
   go_wp2_with fail
   go_loopw [7] (fun i wr => ∃ m : Nat, 2 ≤ m ∧ m ≤ 16 ∧ i = .int .i64 (m : Int) ∧ Hid (Known w.heap.size w (FB w.heap.size k m (toL f) k) wr)) (fun i _ => 16 - (intOf i).toNat)
   case atStart => exact ⟨2, by omega, by omega, rfl, Lib.hid hK⟩
   case round =>
    obtain ⟨m, hm, hm2, rfl, HK⟩ := hrel
    clear hK
    by_cases hlt2 : m < 16
    ·have hmi : (m : Int) ≤ 15 := by omega
     obtain ⟨d, hd⟩ : ∃ d, d = m - 1 := ⟨_, rfl⟩
     have hd16 : d < 16 := by omega
     obtain ⟨X, hX⟩ : ∃ X, X = fst9 (toL f) k d := ⟨_, rfl⟩
     obtain ⟨Y, hY⟩ : ∃ Y, Y = cnt (toL f) d k := ⟨_, rfl⟩
     obtain ⟨Z, hZ⟩ : ∃ Z, Z = fst9 (toL f) k m := ⟨_, rfl⟩
     have hXl : X ≤ 19660800 := by rw [hX]; exact fst_lt _ hn (by omega)
     have hYl : Y ≤ 300 := by rw [hY]; exact Nat.le_trans (cnt_le ..) hn
     have hZe : Z = 2 * (X + Y) := by rw [hZ, hX, hY, hd]; exact fst_next _ _ _ hm
     have HD : Hid (IntKind.i64.wrap ((m : Int) - 1) = (d : Int)) := Lib.hid (by rw [IntWalk.i64_in _ (by omega)]; omega)
     have HA : Hid (IntKind.i64.wrap ((X : Int) + (Y : Int)) = (X : Int) + (Y : Int)) := Lib.hid (IntWalk.i64_in _ (by omega))
     have HZ : Hid (IntKind.i64.wrap (2 * ((X : Int) + (Y : Int))) = (Z : Int)) := Lib.hid (by rw [IntWalk.i64_in _ (by omega)]; omega)
     have HX : Hid (∀ wx, Known w.heap.size w (FB w.heap.size k m (toL f) k) wx → wx.cell? ⟨w.heap.size + 1 + 1, d, none⟩ = some (.int .i64 (X : Int))) := Lib.hid fun wx hT => by
      have hb : Blk wx (w.heap.size + 1 + 1) 147 (rI 16 (fstF (toL f) k m)) := hT.blk _ m2
      rw [hb.at_ hd16, hX]
      unfold fstF
      rw [if_pos (by omega)]
     have HY : Hid (∀ wx, Known w.heap.size w (FB w.heap.size k m (toL f) k) wx → wx.cell? ⟨w.heap.size + 1, d, none⟩ = some (.int .i64 (Y : Int))) := Lib.hid fun wx hT => by
      have hb : Blk wx (w.heap.size + 1) 147 (rI 16 fun d => (cnt (toL f) d k : Int)) := hT.blk _ m1
      rw [hb.at_ hd16, hY]
     have HC : Hid (∀ wx, Known w.heap.size w (FB w.heap.size k m (toL f) k) wx → wx.cell? ⟨w.heap.size + 1 + 1, m, none⟩ = some (.int .i64 (fstF (toL f) k m m))) := Lib.hid fun wx hT => by
      have hb : Blk wx (w.heap.size + 1 + 1) 147 (rI 16 (fstF (toL f) k m)) := hT.blk _ m2
      exact hb.at_ hlt2
     have HF : Hid (∀ wx, Known w.heap.size w (FB w.heap.size k m (toL f) k) wx → wx.frozen? ⟨w.heap.size + 1 + 1, m, none⟩ = false) := Lib.hid fun wx hT => by
      have hb : Blk wx (w.heap.size + 1 + 1) 147 (rI 16 (fstF (toL f) k m)) := hT.blk _ m2
      exact hb.frozen m
     have HPUT : Hid (∀ wx, Known w.heap.size w (FB w.heap.size k m (toL f) k) wx → Known w.heap.size w (FB w.heap.size k (m + 1) (toL f) k) (wx.setCell ⟨w.heap.size + 1 + 1, m, none⟩ (.int .i64 (Z : Int)))) := Lib.hid fun wx hT => by
      have hb : Blk wx (w.heap.size + 1 + 1) 147 (rI 16 (fstF (toL f) k m)) := hT.blk _ m2
      refine hT.cell hb hlt2 (by omega) (.int .i64 (Z : Int)) (FB w.heap.size k (m + 1) (toL f) k) fun x hx => ?_
      simp only [List.mem_cons, List.not_mem_nil, or_false] at hx
      rcases hx with rfl | rfl | rfl
      ·exact .inr ⟨m0, by show w.heap.size ≠ w.heap.size + 1 + 1; omega⟩
      ·exact .inr ⟨m1, by show w.heap.size + 1 ≠ w.heap.size + 1 + 1; omega⟩
      ·exact .inl (congrArg (fun r => (w.heap.size + 1 + 1, 147, r)) (row_ext fun i _ => by rw [hZ]; exact (fstF_put (toL f) k m i).symm))
     clear hX hY hZ hZe hd
     have hmi : (m : Int) ≤ 15 := by omega
     have hdi : (d : Int) < 16 := by omega
     have hmi2 : (m : Int) < 16 := by omega
     go_wp2_with fail
     refine wp_region_anyL (Two 12 1000 fun a _ wx => bif a then Known w.heap.size w (FB w.heap.size k (m + 1) (toL f) k) wx else Known w.heap.size w (FB w.heap.size k m (toL f) k) wx) (by kernel_rfl) HK.out.drew ?_
     refine anyL_take (i := 0) (v := ?_) rfl (yl_other rfl (fun f1 f2 wx hT => ?_)) ?_; rotate_left
     ·refine lands_value (w := wx) ?_ hT; go_simp <;> rfl
     simp only [pu]
     refine anyL_take (i := 1) (v := ?_) rfl (yl_other rfl (fun f1 f2 wx hT => ?_)) ?_; rotate_left
     ·refine lands_value (w := wx) ?_ hT; go_simp <;> rfl
     simp only [pu]
     refine anyL_take (i := 2) (v := .int .i64 (d : Int)) rfl (yl_other rfl (fun f1 f2 wx hT => ?_)) ?_
     ·refine lands_value (w := wx) ?_ hT; go_simp; exact HD.out
     simp only [pu]
     refine anyL_take (i := 3) (v := ?_) rfl (yl_other rfl (fun f1 f2 wx hT => ?_)) ?_; rotate_left
     ·refine lands_value (w := wx) ?_ hT; go_simp <;> rfl
     simp only [pu]
     refine anyL_take (i := 4) (v := .int .i64 (X : Int)) rfl (yl_ahead (n := 12) rfl (fun f2 wx hT => ?_)) ?_
     ·have c0 := HX.out _ hT; refine lands_value (w := wx) ?_ hT; go_simp; skip
     simp only [pu]
     refine anyL_take (i := 5) (v := ?_) rfl (yl_other rfl (fun f1 f2 wx hT => ?_)) ?_; rotate_left
     ·refine lands_value (w := wx) ?_ hT; go_simp <;> rfl
     simp only [pu]
     refine anyL_take (i := 6) (v := .int .i64 (d : Int)) rfl (yl_other rfl (fun f1 f2 wx hT => ?_)) ?_
     ·refine lands_value (w := wx) ?_ hT; go_simp; exact HD.out
     simp only [pu]
     refine anyL_take (i := 7) (v := ?_) rfl (yl_other rfl (fun f1 f2 wx hT => ?_)) ?_; rotate_left
     ·refine lands_value (w := wx) ?_ hT; go_simp <;> rfl
     simp only [pu]
     refine anyL_take (i := 8) (v := .int .i64 (Y : Int)) rfl (yl_ahead (n := 12) rfl (fun f2 wx hT => ?_)) ?_
     ·have c0 := HY.out _ hT; refine lands_value (w := wx) ?_ hT; go_simp; skip
     simp only [pu]
     refine anyL_take (i := 9) (v := .int .i64 ((X + Y : Nat) : Int)) rfl (yl_other rfl (fun f1 f2 wx hT => ?_)) ?_
     ·refine lands_value (w := wx) ?_ hT; go_simp; exact HA.out
     simp only [pu]
     refine anyL_take (i := 10) (v := .int .i64 (Z : Int)) rfl (yl_other rfl (fun f1 f2 wx hT => ?_)) ?_
     ·refine lands_value (w := wx) ?_ hT; go_simp; exact HZ.out
     simp only [pu]
     refine anyL_take (i := 11) (v := ?_) rfl (yl_other rfl (fun f1 f2 wx hT => ?_)) ?_; rotate_left
     ·refine lands_value (w := wx) ?_ hT; go_simp <;> rfl
     simp only [pu]
     refine anyL_take (i := 12) (v := undef) rfl (yl_first (by decide) rfl (fun f2 wx hT => ?_)) ?_
     ·have co := HC.out _ hT; have fo := HF.out _ hT; have K := HPUT.out _ hT; go_simp; exact ⟨rfl, K⟩
     simp only [Act.put]
     refine anyL_done (by kernel_rfl) (fun wr2 hT => ?_) _
     have HK2 : Hid (Known w.heap.size w (FB w.heap.size k (m + 1) (toL f) k) wr2) := Lib.hid hT
     clear HK
     go_wp2_with fail
     go_roundw
     case rel => exact ⟨m + 1, by omega, by omega, by go_num, HK2⟩
     case measure => simp [intOf]; omega
    ·obtain rfl : m = 16 := by omega
     have hb2 : Blk wr (w.heap.size + 1 + 1) 147 (rI 16 (fstF (toL f) k 16)) := HK.out.blk _ m2
     have hb0 : Blk wr w.heap.size 147 (rI 16 fun _ => 0) := HK.out.blk _ m0
     have hb2 := hb2.cast_ (show rI 16 (fstF (toL f) k 16) = rI 16 (fun d => (fst9 (toL f) k d : Int)) from row_ext fun i hi => by unfold fstF; rw [if_pos hi])
     have hsz : (Tryz.prog.info? 147).map (·.size) = some (rI 16 fun d => (fst9 (toL f) k d : Int)).size := by rw [row_size]; kernel_rfl
     go_wp2_with (first
      | (refine wpList_load_row rfl 147 _ rfl (w.heap.size + 1 + 1) rfl 147 _ (0, 0) _ hb2 Tryz.underlying147 rfl hsz ?_)
      | (refine wpList_store_row rfl 147 _ _ rfl w.heap.size (rI 16 fun d => (fst9 (toL f) k d : Int)) rfl rfl 147 _ hb0 hsz (by rw [row_size, row_size]) (row_one fun _ => rfl) ?_))
     have hb3 := hb0.row_ (rI 16 fun d => (fst9 (toL f) k d : Int))
     exact bodyPost_ret (results_cell_row rfl _ _ w.heap.size 147 _ (0, 0) _ rfl hb3 Tryz.underlying147 rfl hsz) rfl ⟨rfl, below_setRow' HK.out.b (Nat.le_refl _) _⟩
end Go.Proofs.YtldkdgimpckpdaaGreat
/- The developers' Codes of chapter 9. -/
namespace Go.Proofs.YtldkdgimpckpdaaGreat
open Go.RowKit
def nxt9 (l : Nat → Nat) (n k d : Nat) : Nat := if d = 0 then 0 else cst l n (d - 1) + cnt l d k
def codeF (l : Nat → Nat) (n k j : Nat) : Int := if j < k then (codeN l n j : Int) else 0
theorem nxt_skip (l : Nat → Nat) (n k j : Nat) (hd : l k = 0) : nxt9 l n (k + 1) j = nxt9 l n k j := by
 unfold nxt9
 by_cases h : j = 0
 ·rw [if_pos h, if_pos h]
 ·rw [if_neg h, if_neg h]
  show _ + (cnt l j k + (if l k = j then 1 else 0)) = _
  rw [if_neg (by omega)]; rfl
theorem nxt_put (l : Nat → Nat) (n k j d : Nat) (hd : l k = d) (h0 : d ≠ 0) : (if j = d then Value.int .i64 ((nxt9 l n k d + 1 : Nat) : Int) else Value.int .i64 (nxt9 l n k j : Int)) = Value.int .i64 (nxt9 l n (k + 1) j : Int) := by
 have e : nxt9 l n (k + 1) j = if j = d then nxt9 l n k d + 1 else nxt9 l n k j := by
  unfold nxt9
  by_cases h : j = d
  ·subst h
   rw [if_pos rfl, if_neg h0, if_neg h0]
   show _ + (cnt l j k + (if l k = j then 1 else 0)) = _
   rw [if_pos hd]; omega
  ·rw [if_neg h]
   by_cases hj : j = 0
   ·rw [if_pos hj, if_pos hj]
   ·rw [if_neg hj, if_neg hj]
    show _ + (cnt l j k + (if l k = j then 1 else 0)) = _
    rw [if_neg (by omega)]; rfl
 rw [e]
 split <;> rfl
theorem codeF_put (l : Nat → Nat) (n k j v : Nat) (hv : v = codeN l n k) : (if j = k then Value.int .i64 (v : Int) else Value.int .i64 (codeF l n k j)) = Value.int .i64 (codeF l n (k + 1) j) := by
 subst hv
 unfold codeF
 by_cases h : j = k
 ·subst h; rw [if_pos rfl, if_pos (by omega)]
 ·rw [if_neg h]
  by_cases h2 : j < k
  ·rw [if_pos h2, if_pos (by omega)]
  ·rw [if_neg h2, if_neg (by omega)]
theorem codeF_skip (l : Nat → Nat) (n k j : Nat) (hd : l k = 0) : codeF l n (k + 1) j = codeF l n k j := by
 unfold codeF
 by_cases h : j = k
 ·subst h
  rw [if_pos (by omega), if_neg (by omega)]
  unfold codeN
  rw [if_pos hd]; rfl
 ·by_cases h2 : j < k
  ·rw [if_pos h2, if_pos (by omega)]
  ·rw [if_neg h2, if_neg (by omega)]
abbrev CB (g k : Nat) (l : Nat → Nat) (n : Nat) : List (Nat × TypeId × Array Value) := [(g + 1, 3, rI n (codeF l n k)), (g, 147, rI 16 fun d => (nxt9 l n k d : Int))]
set_option maxRecDepth 100000 in
set_option maxHeartbeats 4000000 in
theorem codes_arg (p : Option Addr) (n cap : Nat) (f : Nat → Int) (w : World) (h : IS p n cap f w) (hn : n ≤ 17592186044416) (he : ¬ (okB f n = true ∧ n ≤ 300)) :
  Calls Tryz.prog 65 #[.slice p n cap] w fun e w' => e = .returned (.tuple #[.slice none 0 0, .int .i64 1]) ∧ Below w.heap.size w w' := by
 by_cases h3 : n ≤ 300
 ·have hb : allB f 15 n = false := by
   rw [allB_ok]
   cases e : okB f n with
   | false => rfl
   | true => exact absurd ⟨e, h3⟩ he
  have C := allWithin_any p n cap f 15 w h hn
  rw [hb] at C
  have hni : ¬ (n : Int) > 300 := by omega
  clear he hb
  go_enter Tryz.func65, Tryz.ntmps65
  go_wp2_with fail
  refine C.mono ?_
  rintro e w1 ⟨rfl, b1⟩
  go_wp2_with fail
  go_ret2
  exact ⟨rfl, b1⟩
 ·have hni : (n : Int) > 300 := by omega
  clear he
  go_enter Tryz.func65, Tryz.ntmps65
  go_wp2_with fail
  go_ret2
  exact ⟨rfl, Below.refl _ _⟩
set_option maxRecDepth 100000 in
set_option maxHeartbeats 4000000 in
theorem codes_form (p : Option Addr) (n cap : Nat) (f : Nat → Int) (w : World) (h : IS p n cap f w) (hn : n ≤ 300) (hok : okB f n = true) (hk : ¬ kr (toL f) n ≤ 32768) :
  Calls Tryz.prog 65 #[.slice p n cap] w fun e w' => e = .returned (.tuple #[.slice none 0 0, .int .i64 2]) ∧ Below w.heap.size w w' := by
 have C := allWithin_any p n cap f 15 w h (by omega)
 rw [allB_ok, hok] at C
 have S := Lib.hid (fun w h => share_any p n cap f w h (by omega) hok)
 have hni : ¬ (n : Int) > 300 := by omega
 have hki : (kr (toL f) n : Int) > 32768 := by omega
 generalize kr (toL f) n = K at *
 clear hk
 go_enter Tryz.func65, Tryz.ntmps65
 go_wp2_with fail
 refine C.mono ?_
 rintro e w1 ⟨rfl, b1⟩
 go_wp2_with fail
 refine (S.out _ (h.below b1)).mono ?_
 rintro e w2 ⟨rfl, rfl⟩
 go_wp2_with fail
 go_ret2
 exact ⟨rfl, b1⟩
set_option maxRecDepth 100000 in
set_option maxHeartbeats 4000000 in
theorem codes_ok (p : Option Addr) (n cap : Nat) (f : Nat → Int) (w : World) (h : IS p n cap f w) (hn : n ≤ 300) (hok : okB f n = true) (hk : kr (toL f) n ≤ 32768) :
  Calls Tryz.prog 65 #[.slice p n cap] w fun e w' => ∃ p2 c2, e = .returned (.tuple #[.slice p2 n c2, .int .i64 0]) ∧ IS p2 n c2 (fun i => (codeN (toL f) n i : Int)) w' ∧ Below w.heap.size w w' := by
 have C := allWithin_any p n cap f 15 w h (by omega)
 rw [allB_ok, hok] at C
 have S := Lib.hid (fun w h => share_any p n cap f w h (by omega) hok)
 have F := Lib.hid (fun w h => firstCodes_any p n cap f w h hn hok)
 have HB := Lib.hid (okB_true.1 hok)
 have hni : ¬ (n : Int) > 300 := by omega
 have hki : ¬ (kr (toL f) n : Int) > 32768 := by omega
 have HK := Lib.hid hk
 clear hk hok
 have hm := run_ints n (by omega)
 have hal := len16
 go_enter Tryz.func65, Tryz.ntmps65
 go_wp2_with fail
 refine C.mono ?_
 rintro e w1 ⟨rfl, b1⟩
 have h1 := h.below b1
 go_wp2_with fail
 refine (S.out _ h1).mono ?_
 intro e w2 hw2
 obtain ⟨rfl, e2⟩ := hw2
 obtain rfl := e2.symm
 go_wp2_with fail
 clear hki
 refine (F.out _ h1).mono ?_
 rintro e w3 ⟨rfl, b3⟩
 have hsz : (Tryz.prog.info? 147).map (·.size) = some (rI 16 fun d => (fst9 (toL f) n d : Int)).size := by rw [row_size]; kernel_rfl
 have K3 : Known w.heap.size w [] w3 := ⟨b1.trans (b3.mono b1.size), Nat.le_trans b1.size b3.size, fun x hx => by cases hx⟩
 have K4 := (K3.new (rI 16 fun _ => 0) (rI 16 fun d => (fst9 (toL f) n d : Int)) 147).add (rI n fun _ => 0) 3
 have hz := zero16
 go_wp2_with (refine wpList_store_row rfl 147 _ _ rfl w3.heap.size (rI 16 fun d => (fst9 (toL f) n d : Int)) rfl rfl 147 _ (Blk.new w3 _ _) hsz (by rw [row_size, row_size]) (row_one fun _ => rfl) ?_)
 clear hz hm C S F K3
 obtain ⟨g, hg⟩ : ∃ g, g = w3.heap.size := ⟨_, rfl⟩
 have hgB : w.heap.size ≤ g := by rw [hg]; exact Nat.le_trans b1.size b3.size
 have K5 : Hid (Known w.heap.size w (CB g 0 (toL f) n) (((w3.alloc (.cells (rI 16 fun _ => 0) 147)).setRow w3.heap.size (rI 16 fun d => (fst9 (toL f) n d : Int))).alloc (.cells (rI n fun _ => 0) 3))) := Lib.hid (by
  refine K4.sub fun x hx => ?_
  unfold CB at hx
  rw [hg, show rI n (codeF (toL f) n 0) = rI n fun _ => 0 from row_ext fun i _ => by unfold codeF; rw [if_neg (by omega)]] at hx
  simp only [List.mem_cons, List.not_mem_nil, or_false] at hx ⊢
  rcases hx with rfl | rfl
  ·left; simp
  ·exact .inr rfl)
 clear K4
 simp only [← hg] at *
 go_loopw [6, 7, 26] (fun _ _ i wr => ∃ k : Nat, k ≤ n ∧ i = .int .i64 (k : Int) ∧ Hid (Known w.heap.size w (CB g k (toL f) n) wr)) (fun _ _ i _ => n - (intOf i).toNat)
 case atStart => exact ⟨0, by omega, rfl, K5⟩
 case round =>
  obtain ⟨k, hk, rfl, HKn⟩ := hrel
  clear K5
  by_cases hlt : k < n
  ·cases p with
   | none => have := (h.nil_ rfl).1; omega
   | some a =>
    have c0 := (h.below HKn.out.b).cell a rfl k hlt
    have h0 := HB.out k hlt
    obtain ⟨d, hd⟩ := Int.eq_ofNat_of_zero_le h0.1
    have hd15 : d < 16 := by omega
    have hdl : toL f k = d := by unfold toL; omega
    rw [hd] at c0
    by_cases hz : d = 0
    ·have HP : Hid (Known w.heap.size w (CB g (k + 1) (toL f) n) wr) := Lib.hid (HKn.out.cast (by
      unfold CB
      rw [show rI n (codeF (toL f) n k) = rI n (codeF (toL f) n (k + 1)) from row_ext fun i _ => by rw [codeF_skip _ _ _ _ (by omega)], show (rI 16 fun d => (nxt9 (toL f) n k d : Int)) = rI 16 fun d => (nxt9 (toL f) n (k + 1) d : Int) from row_ext fun i _ => congrArg (fun x : Nat => Value.int .i64 (x : Int)) (nxt_skip (toL f) n k i (by omega)).symm]))
     subst hz
     clear h0 hd hdl
     go_wp2_with fail
     go_roundw
     case rel => exact ⟨k + 1, by omega, by go_num, HP⟩
     case measure => simp [intOf]; omega
    ·have hb1 : Blk wr (g + 1) 3 (rI n (codeF (toL f) n k)) := HKn.out.blk _ m0
     have hb0 : Blk wr g 147 (rI 16 fun d => (nxt9 (toL f) n k d : Int)) := HKn.out.blk _ m1
     obtain ⟨v, hv⟩ : ∃ v, v = nxt9 (toL f) n k d := ⟨_, rfl⟩
     have hvc : v = codeN (toL f) n k := by
      rw [hv]; unfold nxt9 codeN
      rw [if_neg hz, if_neg (by omega), hdl]
     have hvl : v ≤ 19661100 := by
      rw [hv]; unfold nxt9
      rw [if_neg hz]
      have := cst_lt (toL f) (n := n) (d := d - 1) hn (by omega)
      have := cnt_le (toL f) d k
      omega
     have k1 := hb1.at_ hlt
     have f1 := hb1.frozen k
     have k0 : wr.cell? ⟨g, d, none⟩ = some (.int .i64 (nxt9 (toL f) n k d : Int)) := hb0.at_ hd15
     rw [← hv] at k0
     have f0 := hb0.frozen d
     have HQ := HKn.out.cell hb1 hlt (by omega) (.int .i64 (v : Int)) [(g + 1, 3, rI n (codeF (toL f) n (k + 1))), (g, 147, rI 16 fun d => (nxt9 (toL f) n k d : Int))] (fun x hx => by
      simp only [List.mem_cons, List.not_mem_nil, or_false] at hx
      rcases hx with rfl | rfl
      ·exact .inl (congrArg (fun r => (g + 1, 3, r)) (row_ext fun i _ => (codeF_put (toL f) n k i v hvc).symm))
      ·exact .inr ⟨m1, by show g ≠ g + 1; omega⟩)
     have hq0 : Blk _ g 147 (rI 16 fun d => (nxt9 (toL f) n k d : Int)) := HQ.blk _ m1
     have HP : Hid (Known w.heap.size w (CB g (k + 1) (toL f) n) ((wr.setCell ⟨g + 1, k, none⟩ (.int .i64 (v : Int))).setCell ⟨g, d, none⟩ (.int .i64 ((v + 1 : Nat) : Int)))) := Lib.hid (HQ.cell hq0 hd15 hgB (.int .i64 ((v + 1 : Nat) : Int)) (CB g (k + 1) (toL f) n) (fun x hx => by
      simp only [List.mem_cons, List.not_mem_nil, or_false] at hx
      rcases hx with rfl | rfl
      ·exact .inr ⟨m0, by show g + 1 ≠ g; omega⟩
      ·exact .inl (congrArg (fun r => (g, 147, r)) (row_ext fun i _ => by rw [hv]; exact (nxt_put (toL f) n k i d hdl hz).symm))))
     have kq : (wr.setCell ⟨g + 1, k, none⟩ (.int .i64 (v : Int))).cell? ⟨g, d, none⟩ = some (.int .i64 (nxt9 (toL f) n k d : Int)) := hq0.at_ hd15
     rw [← hv] at kq
     have fq := hq0.frozen d
     have hd0 : (0 : Int) < (d : Int) := by omega
     have hdi : (d : Int) < 16 := by omega
     have hki : (k : Int) < (n : Int) := by omega
     clear h0 hd hdl hb1 hb0 hv hvc hz HQ hq0
     go_wp2_with fail
     go_roundw
     case rel => exact ⟨k + 1, by omega, by go_num, HP⟩
     case measure => simp [intOf]; omega
  ·obtain rfl : k = n := by omega
   have hbn : Blk wr (g + 1) 3 (rI k (codeF (toL f) k k)) := HKn.out.blk _ m0
   have hI : IS (some ⟨g + 1, 0, none⟩) k k (fun i => (codeN (toL f) k i : Int)) wr := IS.row (hbn.cast_ (row_ext fun i hi => by unfold codeF; rw [if_pos hi])) (fun i _ => by omega) (fun i hi => by
    by_cases h0 : toL f i = 0
    ·unfold codeN; rw [if_pos h0]; omega
    ·have h15 : ∀ j, j < k → toL f j ≤ 15 := fun j hj => by have := HB.out j hj; unfold toL; omega
     have h1 := code_lt (toL f) k i h15 HK.out hi h0
     have h2 : 2 ^ toL f i ≤ 2 ^ 15 := Nat.pow_le_pow_right (by decide) (h15 i hi)
     omega)
   clear hbn
   go_wp2_with fail
   go_ret2
   exact ⟨_, _, rfl, hI, HKn.out.b⟩
theorem codes_huff (p : Option Addr) (n cap : Nat) (f : Nat → Int) (w : World) (h : IS p n cap f w) (hn : n ≤ 17592186044416) :
  Calls Tryz.prog 65 #[.slice p n cap] w fun e w' => ∃ p2 c2, e = .returned (.tuple #[.slice p2 (codesM f n) c2, .int .i64 (codesE f n : Int)]) ∧ IS p2 (codesM f n) c2 (fun i => (codeN (toL f) n i : Int)) w' ∧ Below w.heap.size w w' := by
 have nil : ∀ w' : World, IS none 0 0 (fun i => (codeN (toL f) n i : Int)) w' := fun w' => ⟨fun _ => ⟨rfl, rfl⟩, (fun a e => by cases e), (fun a e => by cases e), (fun i hi => by omega), (fun i hi => by omega)⟩
 by_cases h1 : okB f n = true ∧ n ≤ 300
 ·by_cases hk : kr (toL f) n ≤ 32768
  ·have e0 := codesE_ok h1 hk
   have em : codesM f n = n := by unfold codesM; rw [if_pos e0]
   rw [e0, em]
   exact codes_ok p n cap f w h h1.2 h1.1 hk
  ·have e0 := codesE_form h1 hk
   have em : codesM f n = 0 := by unfold codesM; rw [if_neg (by omega)]
   rw [e0, em]
   exact (codes_form p n cap f w h h1.2 h1.1 hk).mono fun e w' ⟨h2, h3⟩ => ⟨none, 0, h2, nil w', h3⟩
 ·have e0 := codesE_arg h1
  have em : codesM f n = 0 := by unfold codesM; rw [if_neg (by omega)]
  rw [e0, em]
  exact (codes_arg p n cap f w h hn h1).mono fun e w' ⟨h2, h3⟩ => ⟨none, 0, h2, nil w', h3⟩
end Go.Proofs.YtldkdgimpckpdaaGreat
/- Layer 9 in numbers: words of codes, a 1 ahead of each; the symbols that are known by them. -/
namespace Go.Proofs.YtldkdgimpckpdaaGreat
open Go.RowKit
def keyW (l : Nat → Nat) (n i : Nat) : Nat := 2 ^ l i + codeN l n i
def gkW (l : Nat → Nat) (n : Nat) : Nat → Nat → Option Nat
 | 0, _ => none
 | k + 1, x => if l k ≠ 0 ∧ keyW l n k = x then some k else gkW l n k x
def nzW (l : Nat → Nat) : Nat → Nat
 | 0 => 0
 | k + 1 => nzW l k + if l k = 0 then 0 else 1
end Go.Proofs.YtldkdgimpckpdaaGreat
/- Layer 9: a map of words that the call made: what it holds, as a function; looked up, written, counted. -/
namespace Go.Proofs.YtldkdgimpckpdaaGreat
open Go.RowKit
open Go.Maps (Keyed)
theorem wordKeyed : Keyed Tryz.prog 192 := Maps.int_keyed Tryz.underlying192
theorem zeroInt (w : World) : (zeroValue 3).run Tryz.prog w = .ok (.int .i64 0) w := by kernel_rfl
theorem wordKey (x : Nat) (hx : x < 4294967296) : keyOf Tryz.prog 192 (.int .u32 (x : Int)) = some (.int .u32 (x : Int)) :=
 Maps.keyOf_int_mk Tryz.underlying192 (by simp [Lit.wf, IntKind.min, IntKind.max, IntKind.bits, IntKind.signed]; omega)
def MW (b n : Nat) (g : Nat → Option Nat) (sz : Nat) (w : World) : Prop :=
 ∃ D : DataW Unit, w.ownsMap Tryz.prog 192 (plainElem Tryz.prog 3) b n D ∧ (∀ x : Nat, x < 4294967296 → Maps.has D (.int .u32 (x : Int)) = (g x).isSome ∧ D.atKey (.int .u32 (x : Int)) (.lit (.int .i64 0)) = .lit (.int .i64 (((g x).getD 0 : Nat) : Int))) ∧ Maps.size D = sz
variable {b n sz : Nat} {g : Nat → Option Nat} {w : World}
theorem MW.made (w : World) : MW w.heap.size 0 (fun _ => none) 0 (w.alloc (.map #[] 0)) :=
 ⟨.map [], World.ownsMap_made _ _ _ _, fun _ _ => ⟨rfl, rfl⟩, rfl⟩
theorem MW.lt (h : MW b n g sz w) : b < w.heap.size := by obtain ⟨D, h1, _⟩ := h; exact h1.lt
theorem MW.below {w' : World} (h : MW b n g sz w) (hb : Below w.heap.size w w') : MW b n g sz w' := by
 obtain ⟨D, ⟨es, clock, h1, h2⟩, h3⟩ := h
 have hlt : b < w.heap.size := World.ownsMap.lt (H := Unit) ⟨es, clock, h1, h2⟩
 exact ⟨D, ⟨es, clock, (hb.block b hlt).trans h1, h2⟩, h3⟩
theorem MW.drew (h : MW b n g sz w) : MW b n g sz w.drew := h
theorem MW.alloc (h : MW b n g sz w) (o : Obj) : MW b n g sz (w.alloc o) := by
 obtain ⟨D, h1, h2⟩ := h; exact ⟨D, h1.alloc o, h2⟩
theorem MW.cast {g' : Nat → Option Nat} {sz' : Nat} (h : MW b n g sz w) (hg : ∀ x, g x = g' x) (hs : sz = sz') : MW b n g' sz' w := by
 obtain rfl : g = g' := funext hg
 subst hs; exact h
theorem MW.look (h : MW b n g sz w) {x : Nat} (hx : x < 4294967296) :
  (Instr.lookup 189 (.map (some b)) (.int .u32 (x : Int)) true).run Tryz.prog w = .ok (.tuple #[.int .i64 (((g x).getD 0 : Nat) : Int), .bool (g x).isSome]) w := by
 obtain ⟨D, h1, h2, _⟩ := h
 obtain ⟨v, ps, h3, h4⟩ := h1.look_ok wordKeyed Tryz.underlying189 (zeroInt w) (plainElem_int Tryz.underlying3 (by decide)) (wordKey x hx)
 rw [(h2 x hx).2] at h4
 obtain ⟨a, rfl, ha, _⟩ := plainElem_int_inv Tryz.underlying3 h4
 simp only [Prod.mk.injEq, DataW.lit.injEq, Lit.int.injEq] at ha
 rw [h3, (h2 x hx).1, ← ha.1.2]
theorem MW.len (h : MW b n g sz w) (ty : TypeId) : (Builtin.len_ #[189] ty #[.map (some b)]).run Tryz.prog w = .ok (.int .i64 (sz : Int)) w := by
 obtain ⟨D, h1, _, h3⟩ := h
 rw [← h3]; exact h1.len Tryz.underlying189 ty
theorem MW.put (h : MW b n g sz w) (hn : n < 1000000) {x i : Nat} (hx : x < 4294967296) (hi : i < 9223372036854775808) (hnew : g x = none) :
  ∃ w', (Instr.mapUpdate 189 (.map (some b)) (.int .u32 (x : Int)) (.int .i64 (i : Int))).run Tryz.prog w = .ok () w' ∧ MW b (n + 1) (fun y => if x = y then some i else g y) (sz + 1) w' ∧ w.grownBy w' (some b) := by
 obtain ⟨D, h1, h2, h3⟩ := h
 obtain ⟨w', h4, h5, h6⟩ := h1.update wordKeyed Tryz.underlying189 (by unfold maxLen; omega) (wordKey x hx) (plainElem_int Tryz.underlying3 (a := (i : Int)) (by simp [Lit.wf, IntKind.min, IntKind.max, IntKind.bits, IntKind.signed]; omega))
 refine ⟨w', h4, ⟨_, h5, fun y hy => ?_, ?_⟩, h6⟩
 ·simp only
  by_cases e : x = y
  ·subst e
   rw [if_pos rfl, Maps.has_put_same h1.isMap (by trivial), Maps.atKey_put_same h1.isMap (by trivial)]
   exact ⟨rfl, rfl⟩
  ·have hne : Lit.int .u32 (y : Int) ≠ .int .u32 (x : Int) := fun hh => by
    have := (Lit.int.inj hh).2
    omega
   rw [if_neg e, Maps.has_put_other hne, Maps.atKey_put_other hne]
   exact h2 y hy
 ·rw [Maps.size_put (h1.tidy wordKeyed), (h2 x hx).1, hnew, h3]; rfl
end Go.Proofs.YtldkdgimpckpdaaGreat
/- The developers' New of chapter 9. -/
namespace Go.Proofs.YtldkdgimpckpdaaGreat
open Go.RowKit
structure NW (w w1 : World) (l : Nat → Nat) (n k : Nat) (wx : World) : Prop where
 b : Below w.heap.size w wx
 b1 : Below w1.heap.size w1 wx
 lo : w1.heap.size + 1 < wx.heap.size
 m : MW w1.heap.size k (gkW l n k) (nzW l k) wx
 c : Blk wx (w1.heap.size + 1) 191 #[.map (some w1.heap.size)]
theorem NW.drew {w w1 wx : World} {l : Nat → Nat} {n k : Nat} (h : NW w w1 l n k wx) : NW w w1 l n k wx.drew := ⟨h.b.drew, h.b1.drew, h.lo, h.m.drew, h.c.drew⟩
def CodeV (v : Value) (f : Nat → Int) (n : Nat) (w : World) : Prop :=
 n ≤ 300 ∧ okB f n = true ∧ kr (toL f) n ≤ 32768 ∧ ∃ w1 : World, v = .pointer (some ⟨w1.heap.size + 1, 0, none⟩) ∧ MW w1.heap.size n (gkW (toL f) n n) (nzW (toL f) n) w ∧ Blk w (w1.heap.size + 1) 191 #[.map (some w1.heap.size)]
theorem CodeV.below {v : Value} {f : Nat → Int} {n : Nat} {w w' : World} (h : CodeV v f n w) (hb : Below w.heap.size w w') : CodeV v f n w' := by
 obtain ⟨h1, h2, h3, w1, h4, h5, h6⟩ := h
 exact ⟨h1, h2, h3, w1, h4, h5.below hb, h6.below hb h6.lt⟩
theorem CodeV.some {v : Value} {f : Nat → Int} {n : Nat} {w : World} (h : CodeV v f n w) : ∃ a, v = .pointer (some a) := by
 obtain ⟨_, _, _, w1, h4, _⟩ := h
 exact ⟨_, h4⟩
end Go.Proofs.YtldkdgimpckpdaaGreat
/- The developers' Next of chapter 9. -/
namespace Go.Proofs.YtldkdgimpckpdaaGreat
open Go.RowKit
end Go.Proofs.YtldkdgimpckpdaaGreat
/- The closure by which symbols are sorted: by weight, then by number. -/
namespace Go.Proofs.YtldkdgimpckpdaaGreat
open Go.RowKit
def cmpI (x y : Int) : Int := if x < y then -1 else if x > y then 1 else 0
def cmpK (x y : Kd) : Int := if cmpI x.1 y.1 ≠ 0 then cmpI x.1 y.1 else cmpI x.2 y.2
def encK (x : Kd) : List Value := [.int .i64 (x.1 : Int), .int .i64 (x.2 : Int)]
theorem cmpK_neg (x y : Kd) : cmpK x y < 0 ↔ klt x y := by
 unfold cmpK cmpI klt
 by_cases h1 : x.1 < y.1
 ·have e : (x.1 : Int) < (y.1 : Int) := by omega
  simp only [if_pos e]
  omega
 ·have e : ¬ (x.1 : Int) < (y.1 : Int) := by omega
  by_cases h2 : x.1 > y.1
  ·have e2 : (x.1 : Int) > (y.1 : Int) := by omega
   simp only [if_neg e, if_pos e2]
   omega
  ·have e2 : ¬ (x.1 : Int) > (y.1 : Int) := by omega
   simp only [if_neg e, if_neg e2]
   split
   ·omega
   ·split
    ·omega
    ·split <;> omega
theorem cmpK_lt (x y : Kd) : ltOf cmpK x y = decide (klt x y) := decide_eq_decide.2 (cmpK_neg x y)
theorem compare_any (x y : Int) (w : World) :
  Calls Tryz.prog 114 #[.int .i64 x, .int .i64 y] w fun e w' => e = .returned (.int .i64 (cmpI x y)) ∧ w' = w := by
 unfold cmpI
 by_cases h1 : x < y
 ·rw [if_pos h1]
  go_enter Tryz.func114, Tryz.ntmps114
  go_wp2
  go_ret
  exact ⟨rfl, rfl⟩
 ·rw [if_neg h1]
  by_cases h2 : x > y
  ·rw [if_pos h2]
   go_enter Tryz.func114, Tryz.ntmps114
   go_wp2
   go_ret
   exact ⟨rfl, rfl⟩
  ·rw [if_neg h2]
   go_enter Tryz.func114, Tryz.ntmps114
   go_wp2
   go_ret
   exact ⟨rfl, rfl⟩
theorem or_any (x y : Int) (g : Nat) (w : World) (h0 : w.cell? ⟨g, 0, none⟩ = some (.int .i64 x)) (h1 : w.cell? ⟨g, 1, none⟩ = some (.int .i64 y)) :
  Calls Tryz.prog 113 #[.slice (some ⟨g, 0, none⟩) 2 2] w fun e w' => e = .returned (.int .i64 (if x ≠ 0 then x else y)) ∧ w' = w := by
 have HR : Hid ((x ≠ 0 → (if x ≠ 0 then x else y) = x) ∧ (x = 0 → (if x ≠ 0 then x else y) = y)) := Lib.hid ⟨fun h => if_pos h, fun h => if_neg (by omega)⟩
 generalize (if x ≠ 0 then x else y) = r at *
 go_enter Tryz.func113, Tryz.ntmps113
 go_wp2_with fail
 go_loopw [5, 8] (fun _ i wr => ∃ k : Nat, k ≤ 2 ∧ i = .int .i64 (k : Int) ∧ (1 ≤ k → x = 0) ∧ (2 ≤ k → y = 0) ∧ w = wr) (fun _ i _ => 2 - (intOf i).toNat)
 case atStart => exact ⟨0, by omega, rfl, by omega, by omega, rfl⟩
 case round =>
  obtain ⟨k, hk, rfl, hx, hy, rfl⟩ := hrel
  rcases (show k = 0 ∨ k = 1 ∨ k = 2 by omega) with rfl | rfl | rfl
  ·clear hx hy
   by_cases hx : x = 0
   ·subst hx
    go_wp2_with fail
    go_roundw
    case rel => exact ⟨1, by omega, by go_num, fun _ => by trivial, by omega, by trivial⟩
    case measure => simp [intOf]
   ·have hq : (x != 0) = true := by simpa using hx
    have e := HR.out.1 hx
    subst e
    clear HR
    go_wp2_with fail
    go_ret
    exact ⟨rfl, rfl⟩
  ·obtain rfl := hx (by omega)
   clear hx hy
   have e := HR.out.2 rfl
   subst e
   by_cases hy : r = 0
   ·subst hy
    go_wp2_with fail
    go_roundw
    case rel => exact ⟨2, by omega, by go_num, fun _ => by trivial, fun _ => by trivial, by trivial⟩
    case measure => simp [intOf]
   ·have hq : (r != 0) = true := by simpa using hy
    clear HR
    go_wp2_with fail
    go_ret
    exact ⟨rfl, rfl⟩
  ·obtain rfl := hx (by omega)
   obtain rfl := hy (by omega)
   have e := HR.out.2 rfl
   subst e
   clear HR hx hy
   go_wp2_with fail
   go_ret
   exact ⟨rfl, rfl⟩
set_option maxRecDepth 100000 in
set_option maxHeartbeats 2000000 in
theorem closure_any (x y : Kd) (W : World) :
  Calls Tryz.prog 112 #[.agg #[.int .i64 (x.1 : Int), .int .i64 (x.2 : Int)], .agg #[.int .i64 (y.1 : Int), .int .i64 (y.2 : Int)]] W fun e w' => e = .returned (.int .i64 (cmpK x y)) ∧ ∃ q os', w' = Sort.grow (W.drewN q) os' := by
 go_enter Tryz.func112, Tryz.ntmps112
 go_wp2_with fail
 obtain ⟨W1, hW1⟩ : ∃ W1, W1 = (W.alloc (.cells #[.int .i64 (x.1 : Int), .int .i64 (x.2 : Int)] 163)).alloc (.cells #[.int .i64 (y.1 : Int), .int .i64 (y.2 : Int)] 163) := ⟨_, rfl⟩
 have bA : Blk W1.drew W.heap.size 163 #[.int .i64 (x.1 : Int), .int .i64 (x.2 : Int)] := by rw [hW1]; exact ((Blk.new W _ _).alloc _).drew
 have bB : Blk W1.drew (W.heap.size + 1) 163 #[.int .i64 (y.1 : Int), .int .i64 (y.2 : Int)] := by rw [hW1]; exact ((Blk.new _ _ _).cast' ⟨by simp, rfl⟩).drew
 have HA0 : Hid (W1.drew.cell? ⟨W.heap.size, 0, none⟩ = some (.int .i64 (x.1 : Int))) := Lib.hid (bA.cell 0)
 have HA1 : Hid (W1.drew.cell? ⟨W.heap.size, 1, none⟩ = some (.int .i64 (x.2 : Int))) := Lib.hid (bA.cell 1)
 have HB0 : Hid (W1.drew.cell? ⟨W.heap.size + 1, 0, none⟩ = some (.int .i64 (y.1 : Int))) := Lib.hid (bB.cell 0)
 have HB1 : Hid (W1.drew.cell? ⟨W.heap.size + 1, 1, none⟩ = some (.int .i64 (y.2 : Int))) := Lib.hid (bB.cell 1)
 have bC : Blk (W1.drew.alloc (.cells #[.int .i64 (cmpI x.1 y.1), .int .i64 (cmpI x.2 y.2)] 3)) W1.heap.size 3 #[.int .i64 (cmpI x.1 y.1), .int .i64 (cmpI x.2 y.2)] := Blk.new W1.drew _ _
 have HC0 : Hid ((W1.drew.alloc (.cells #[.int .i64 (cmpI x.1 y.1), .int .i64 (cmpI x.2 y.2)] 3)).cell? ⟨W1.heap.size, 0, none⟩ = some (.int .i64 (cmpI x.1 y.1))) := Lib.hid (bC.cell 0)
 have HC1 : Hid ((W1.drew.alloc (.cells #[.int .i64 (cmpI x.1 y.1), .int .i64 (cmpI x.2 y.2)] 3)).cell? ⟨W1.heap.size, 1, none⟩ = some (.int .i64 (cmpI x.2 y.2))) := Lib.hid (bC.cell 1)
 have HG : Hid (∃ q os', W1.drew.alloc (.cells #[.int .i64 (cmpI x.1 y.1), .int .i64 (cmpI x.2 y.2)] 3) = Sort.grow (W.drewN q) os') := Lib.hid (by
  refine ⟨1, #[.cells #[.int .i64 (x.1 : Int), .int .i64 (x.2 : Int)] 163, .cells #[.int .i64 (y.1 : Int), .int .i64 (y.2 : Int)] 163, .cells #[.int .i64 (cmpI x.1 y.1), .int .i64 (cmpI x.2 y.2)] 3], ?_⟩
  rw [hW1, Sort.alloc_eq_grow, Sort.alloc_eq_grow, Sort.alloc_eq_grow, Sort.drew_grow, Sort.drew_grow, Sort.grow_grow, Sort.grow_grow]
  rfl)
 rw [← hW1]
 clear hW1 bA bB bC
 refine wp_region_anyL (Two 10 11 fun a _ wx => bif a then wx = W1.drew.alloc (.cells #[.int .i64 (cmpI x.1 y.1), .int .i64 (cmpI x.2 y.2)] 3) else wx = W1.drew) (by kernel_rfl) rfl ?_
 refine anyL_take (i := 0) (v := ?_) rfl (yl_other rfl (fun f1 f2 wx hT => ?_)) ?_; rotate_left
 ·refine lands_value (w := wx) ?_ hT; go_simp <;> rfl
 simp only [pu]
 refine anyL_take (i := 1) (v := .int .i64 (x.1 : Int)) rfl (yl_ahead (n := 12) rfl (fun f2 wx hT => ?_)) ?_
 ·have hT : wx = _ := hT; subst hT; have c0 := HA0.out; refine lands_value (w := W1.drew) ?_ rfl; go_simp
 simp only [pu]
 refine anyL_take (i := 2) (v := ?_) rfl (yl_other rfl (fun f1 f2 wx hT => ?_)) ?_; rotate_left
 ·refine lands_value (w := wx) ?_ hT; go_simp <;> rfl
 simp only [pu]
 refine anyL_take (i := 3) (v := .int .i64 (y.1 : Int)) rfl (yl_ahead (n := 12) rfl (fun f2 wx hT => ?_)) ?_
 ·have hT : wx = _ := hT; subst hT; have c0 := HB0.out; refine lands_value (w := W1.drew) ?_ rfl; go_simp
 simp only [pu]
 refine anyL_take (i := 4) (v := .int .i64 (cmpI x.1 y.1)) rfl (yl_ahead (n := 12) rfl (fun f2 wx hT => ?_)) ?_
 ·have hT : wx = _ := hT; subst hT; exact lands_calls ((compare_any (x.1 : Int) (y.1 : Int) _).mono fun _ _ ⟨he, hb⟩ => ⟨he, hb⟩) (by go_simp)
 simp only [pu]
 refine anyL_take (i := 5) (v := ?_) rfl (yl_other rfl (fun f1 f2 wx hT => ?_)) ?_; rotate_left
 ·refine lands_value (w := wx) ?_ hT; go_simp <;> rfl
 simp only [pu]
 refine anyL_take (i := 6) (v := .int .i64 (x.2 : Int)) rfl (yl_ahead (n := 12) rfl (fun f2 wx hT => ?_)) ?_
 ·have hT : wx = _ := hT; subst hT; have c0 := HA1.out; refine lands_value (w := W1.drew) ?_ rfl; go_simp
 simp only [pu]
 refine anyL_take (i := 7) (v := ?_) rfl (yl_other rfl (fun f1 f2 wx hT => ?_)) ?_; rotate_left
 ·refine lands_value (w := wx) ?_ hT; go_simp <;> rfl
 simp only [pu]
 refine anyL_take (i := 8) (v := .int .i64 (y.2 : Int)) rfl (yl_ahead (n := 12) rfl (fun f2 wx hT => ?_)) ?_
 ·have hT : wx = _ := hT; subst hT; have c0 := HB1.out; refine lands_value (w := W1.drew) ?_ rfl; go_simp
 simp only [pu]
 refine anyL_take (i := 9) (v := .int .i64 (cmpI x.2 y.2)) rfl (yl_ahead (n := 12) rfl (fun f2 wx hT => ?_)) ?_
 ·have hT : wx = _ := hT; subst hT; exact lands_calls ((compare_any (x.2 : Int) (y.2 : Int) _).mono fun _ _ ⟨he, hb⟩ => ⟨he, hb⟩) (by go_simp)
 simp only [pu]
 refine anyL_take (i := 10) (v := .slice (some ⟨W1.heap.size, 0, none⟩) 2 2) rfl (yl_first (by decide) rfl (fun f2 wx hT => ?_)) ?_
 ·have hT : wx = _ := hT; subst hT; refine lands_value (w := W1.drew.alloc (.cells #[.int .i64 (cmpI x.1 y.1), .int .i64 (cmpI x.2 y.2)] 3)) ?_ rfl; go_simp
 simp only [pu]
 refine anyL_take (i := 11) (v := .int .i64 (cmpK x y)) rfl (yl_late (by decide) rfl (by kernel_rfl) rfl (fun wx hT => ?_)) ?_
 ·have hT : wx = _ := hT; subst hT; exact lands_calls ((or_any (cmpI x.1 y.1) (cmpI x.2 y.2) W1.heap.size _ HC0.out HC1.out).mono fun _ _ ⟨he, hb⟩ => ⟨he, hb⟩) (by go_simp)
 simp only [pu]
 refine anyL_take (i := 12) (v := ?_) rfl (yl_other rfl (fun f1 f2 wx hT => ?_)) ?_; rotate_left
 ·refine lands_value (w := wx) ?_ hT; go_simp <;> rfl
 simp only [pu]
 refine anyL_done (by kernel_rfl) (fun wr2 hT => ?_) _
 have hT : wr2 = _ := hT
 subst hT
 go_wp2_with fail
 go_ret
 exact ⟨rfl, HG.out⟩
theorem closure_lays (blk off size : Nat) (w : World) : CmpLays Tryz.prog 112 #[] encK 2 cmpK blk off size w :=
 fun _ _ _ _ x y => closure_any x y _
theorem cmpK_swo : Sort.SWO (ltOf cmpK) where
 irrefl x := by rw [cmpK_lt, decide_eq_false (klt_irrefl x)]
 trans x y z h1 h2 := by
  rw [cmpK_lt, decide_eq_true_eq] at *
  exact klt_trans h1 h2
 ntrans x y z h1 h2 := by
  rw [cmpK_lt, decide_eq_false_iff_not] at *
  unfold klt at *
  omega
end Go.Proofs.YtldkdgimpckpdaaGreat
/- Nodes in slices: cut in front, added behind. -/
namespace Go.Proofs.YtldkdgimpckpdaaGreat
open Go.RowKit
def cellsK (l : List Kd) : List Value := l.flatMap encK
theorem cellsK_len (l : List Kd) : (cellsK l).length = l.length * 2 := by
 induction l with
 | nil => rfl
 | cons x l ih => show (_ ++ cellsK l).length = _; rw [List.length_append, ih]; simp [encK]; omega
theorem cellsK_app (l m : List Kd) : cellsK (l ++ m) = cellsK l ++ cellsK m := by simp [cellsK]
theorem cellsK_cons (x : Kd) (l : List Kd) : cellsK (x :: l) = .int .i64 (x.1 : Int) :: .int .i64 (x.2 : Int) :: cellsK l := rfl
structure QN (B : Nat) (l : List Kd) (ao : Option Addr) (cap : Nat) (w : World) : Prop where
 le : l.length ≤ cap
 mx : cap ≤ 9223372036854775807
 nil_ : ao = none → cap = 0
 at_ : 0 < cap → ∃ g off, ao = some ⟨g, off, none⟩ ∧ B ≤ g ∧ g < w.heap.size ∧ (∀ j, j < cap * 2 → (w.cell? ⟨g, off + j, none⟩).isSome = true ∧ w.frozen? ⟨g, off + j, none⟩ = false) ∧ ∀ j u, (cellsK l)[j]? = some u → w.cell? ⟨g, off + j, none⟩ = some u
def noB (ao : Option Addr) (cap g : Nat) : Prop := 0 < cap → ∀ a, ao = some a → a.block ≠ g
theorem QN.none_ (B : Nat) (w : World) : QN B [] none 0 w := ⟨Nat.le_refl _, by omega, fun _ => rfl, fun h => by omega⟩
theorem QN.keep {B : Nat} {l : List Kd} {ao : Option Addr} {cap : Nat} {w w' : World} (h : QN B l ao cap w) (hz : w.heap.size ≤ w'.heap.size) (hk : ∀ a, 0 < cap → ao = some a → a.block < w.heap.size → w'.heap[a.block]? = w.heap[a.block]?) : QN B l ao cap w' :=
 ⟨h.le, h.mx, h.nil_, fun h0 => by
  obtain ⟨g, off, h1, h2, h3, h4, h5⟩ := h.at_ h0
  have hb := hk _ h0 h1 h3
  refine ⟨g, off, h1, h2, Nat.lt_of_lt_of_le h3 hz, fun j hj => ?_, fun j u hu => ?_⟩
  ·rw [World.cell?_of_block (a := ⟨g, off + j, none⟩) hb, World.frozen?_of_block (a := ⟨g, off + j, none⟩) hb]; exact h4 j hj
  ·rw [World.cell?_of_block (a := ⟨g, off + j, none⟩) hb]; exact h5 j u hu⟩
theorem QN.below {B : Nat} {l : List Kd} {ao : Option Addr} {cap : Nat} {w w' : World} (h : QN B l ao cap w) (hb : Below w.heap.size w w') : QN B l ao cap w' :=
 h.keep hb.size fun a _ _ hl => hb.block a.block hl
theorem QN.grown {B : Nat} {l : List Kd} {ao : Option Addr} {cap : Nat} {w w' : World} {g : Nat} (h : QN B l ao cap w) (hg : w.grownBy w' (some g)) (hn : noB ao cap g) : QN B l ao cap w' :=
 h.keep hg.size fun a h0 ha hl => hg.block a.block hl fun e => hn h0 a ha (Option.some.inj e)
theorem QN.mono {B B' : Nat} {l : List Kd} {ao : Option Addr} {cap : Nat} {w : World} (h : QN B l ao cap w) (hb : B' ≤ B) : QN B' l ao cap w :=
 ⟨h.le, h.mx, h.nil_, fun h0 => by
  obtain ⟨g, off, h1, h2, h3⟩ := h.at_ h0
  exact ⟨g, off, h1, Nat.le_trans hb h2, h3⟩⟩
theorem QN.head {B : Nat} {x : Kd} {l : List Kd} {ao : Option Addr} {cap : Nat} {w : World} (h : QN B (x :: l) ao cap w) : ∃ g off, ao = some ⟨g, off, none⟩ ∧ w.cell? ⟨g, off, none⟩ = some (.int .i64 (x.1 : Int)) ∧ w.cell? ⟨g, off + 1, none⟩ = some (.int .i64 (x.2 : Int)) := by
 have := h.le
 obtain ⟨g, off, h1, _, _, _, h5⟩ := h.at_ (by simp at this; omega)
 exact ⟨g, off, h1, h5 0 _ rfl, h5 1 _ rfl⟩
def cutA (ao : Option Addr) (cap : Nat) : Option Addr := if cap = 1 then ao else ao.map fun a => a.add 2
theorem QN.tail {B : Nat} {x : Kd} {l : List Kd} {ao : Option Addr} {cap : Nat} {w : World} (h : QN B (x :: l) ao cap w) : QN B l (cutA ao cap) (cap - 1) w := by
 have hle := h.le
 have hmx := h.mx
 simp only [List.length_cons] at hle
 obtain ⟨g, off, h1, h2, h3, h4, h5⟩ := h.at_ (by omega)
 refine ⟨by omega, by omega, fun e => ?_, fun h0 => ⟨g, off + 2, ?_, h2, h3, fun j hj => ?_, fun j u hu => ?_⟩⟩
 ·unfold cutA at e
  split at e
  ·omega
  ·rw [h1] at e; cases e
 ·unfold cutA
  rw [if_neg (by omega), h1]
  show some (Addr.add _ 2) = _
  rw [addr_add]
 ·rw [Nat.add_assoc]; exact h4 (2 + j) (by omega)
 ·rw [Nat.add_assoc]
  refine h5 (2 + j) u ?_
  rw [cellsK_cons, Nat.add_comm 2 j]
  exact hu
theorem noB.cut {ao : Option Addr} {cap g : Nat} (h : noB ao cap g) : noB (cutA ao cap) (cap - 1) g := fun h0 a ha => by
 unfold cutA at ha
 rw [if_neg (by omega)] at ha
 cases ao with
 | none => cases ha
 | some b =>
  have e : b.add 2 = a := Option.some.inj ha
  rw [← e]
  have : (b.add 2).block = b.block := by unfold Addr.add; split <;> rfl
  rw [this]
  exact h (by omega) b rfl
theorem node_infoK : (Tryz.prog.info? 163).map (fun i => (i.zero, i.size, i.bytes)) = some (some (.agg #[.int .i64 0, .int .i64 0]), 2, 16) := by kernel_rfl
theorem run_oneK {B : Nat} {l : List Kd} {ao : Option Addr} {cap : Nat} {w : World} (h : QN B l ao cap w) (hB : B ≤ w.heap.size) (hn : l.length ≤ 100000) (ty : TypeId) (x : Kd) (ad : Addr) (c : Nat) (hc : ∀ j u, (encK x)[j]? = some u → w.cell? (ad.add j) = some u) :
  ∃ ao' cap' w', (Builtin.append_ #[158, 158] ty #[.slice ao l.length cap, .slice (some ad) 1 c]).run Tryz.prog w = .ok (.slice ao' (l.length + 1) cap') w' ∧ QN B (l ++ [x]) ao' cap' w' ∧
   ((∃ g off, ao = some ⟨g, off, none⟩ ∧ 0 < cap ∧ ao' = ao ∧ cap' = cap ∧ w.grownBy w' (some g)) ∨ (w.grownBy w' none ∧ ∃ g off, ao' = some ⟨g, off, none⟩ ∧ w.heap.size ≤ g)) := by
 obtain ⟨i0, hi, hz0, hz1, hz2⟩ := info_parts node_infoK
 have hle := h.le
 have hmx := h.mx
 have h1c : ∀ u ∈ encK x, u.oneCell' = true := fun u hu => by
  simp only [encK, List.mem_cons, List.not_mem_nil, or_false] at hu
  rcases hu with rfl | rfl <;> rfl
 have ex1 : cellsK [x] = encK x := by simp [cellsK]
 have hnew : ∀ j u, (cellsK (l ++ [x]))[j]? = some u → (j < l.length * 2 ∧ (cellsK l)[j]? = some u) ∨ (l.length * 2 ≤ j ∧ (encK x)[j - l.length * 2]? = some u) := fun j u hu => by
  rw [cellsK_app, ex1] at hu
  rcases Nat.lt_or_ge j (l.length * 2) with hj | hj
  ·rw [List.getElem?_append_left (by rw [cellsK_len]; exact hj)] at hu; exact .inl ⟨hj, hu⟩
  ·rw [List.getElem?_append_right (by rw [cellsK_len]; exact hj), cellsK_len] at hu; exact .inr ⟨hj, hu⟩
 have grow : ∀ v' w', (Builtin.append_ #[158, 158] ty #[.slice ao l.length cap, .slice (some ad) 1 c]).run Tryz.prog w = .ok v' w' → w'.ownsRow w.heap.size 163 2 v' (l.length + 1) (cellsK l ++ encK x) → w.grownBy w' none →
   ∃ ao' cap' w', (Builtin.append_ #[158, 158] ty #[.slice ao l.length cap, .slice (some ad) 1 c]).run Tryz.prog w = .ok (.slice ao' (l.length + 1) cap') w' ∧ QN B (l ++ [x]) ao' cap' w' ∧
   ((∃ g off, ao = some ⟨g, off, none⟩ ∧ 0 < cap ∧ ao' = ao ∧ cap' = cap ∧ w.grownBy w' (some g)) ∨ (w.grownBy w' none ∧ ∃ g off, ao' = some ⟨g, off, none⟩ ∧ w.heap.size ≤ g)) := fun v' w' hr ho hg => by
  rcases ho.2 with ⟨_, h0⟩ | ⟨g, cap', cur, hv, hb, hblk, hlc, hcm, hsz, htk⟩
  ·omega
  ·subst hv
   have hgl : g < w'.heap.size := by
    rcases Nat.lt_or_ge g w'.heap.size with h2 | h2
    ·exact h2
    ·rw [Array.getElem?_eq_none h2] at hblk; cases hblk
   have hcell : ∀ j, w'.cell? ⟨g, 0 + j, none⟩ = cur[j]? := fun j => by rw [Nat.zero_add]; exact cell_of_row w' g j cur _ (0, 0) hblk
   refine ⟨_, cap', w', hr, ⟨by simpa using hlc, by unfold maxLen at hcm; omega, (fun e => by cases e), fun _ => ⟨g, 0, rfl, Nat.le_trans hB hb, hgl, fun j hj => ⟨?_, ?_⟩, fun j u hu => ?_⟩⟩, .inr ⟨hg, g, 0, rfl, hb⟩⟩
   ·rw [hcell, Array.getElem?_eq_getElem (by omega)]; rfl
   ·exact frozen_of_row w' g (0 + j) cur _ hblk
   ·rw [hcell]
    have h3 : (cur.toList.take ((l.length + 1) * 2))[j]? = some u := by rw [htk, ← ex1, ← cellsK_app]; exact hu
    have h4 := (List.getElem?_eq_some_iff.1 h3).1
    rw [List.length_take] at h4
    rw [List.getElem?_take, if_pos (by omega)] at h3
    simpa using h3
 rcases Nat.lt_or_ge l.length cap with hroom | hfull
 ·obtain ⟨g, off, rfl, hBg, hgl, hsp, hcl⟩ := h.at_ (by omega)
  have hrun := run_append_room_cells (P := Tryz.prog) w 158 ty 163 i0 Tryz.underlying158 hi g off l.length cap ad 1 c (encK x) (by rw [hz1]; rfl) hc h1c (by omega)
   (fun j hj => by
    have hj2 : j < 2 := hj
    rw [hz1, Nat.add_assoc]; exact (hsp (l.length * 2 + j) (by omega)).1)
   (fun j hj => by
    have hj2 : j < 2 := hj
    rw [hz1, Nat.add_assoc]; exact (hsp (l.length * 2 + j) (by omega)).2)
  rw [hz1] at hrun
  refine ⟨_, _, _, hrun, ⟨by simp; omega, hmx, (fun e => by cases e), fun _ => ⟨g, off, rfl, hBg, ?_, fun j hj => ⟨?_, ?_⟩, fun j u hu => ?_⟩⟩, .inl ⟨g, off, rfl, by omega, rfl, rfl, ?_⟩⟩
  ·simp [World.setCells, encK, World.setCell]; exact hgl
  ·by_cases h3 : j < l.length * 2
   ·rw [World.cell?_setCells_out _ _ _ _ _ (fun _ _ => .inl (by show off + j < _; omega))]; exact (hsp j hj).1
   ·by_cases h4 : j < l.length * 2 + 2
    ·have := World.cell?_setCells_in g (encK x) (off + l.length * 2) w (fun k hk => by
      have hk2 : k < 2 := hk
      rw [Nat.add_assoc]; exact (hsp (l.length * 2 + k) (by omega)).1) (j - l.length * 2) (by show _ < 2; omega)
     rw [show off + l.length * 2 + (j - l.length * 2) = off + j by omega] at this
     rw [this]; rfl
    ·rw [World.cell?_setCells_out _ _ _ _ _ (fun _ _ => .inr (by show _ + 2 ≤ off + j; omega))]; exact (hsp j hj).1
  ·rw [World.frozen?_setCells]; exact (hsp j hj).2
  ·rcases hnew j u hu with ⟨h3, h4⟩ | ⟨h3, h4⟩
   ·rw [World.cell?_setCells_out _ _ _ _ _ (fun _ _ => .inl (by show off + j < _; omega))]; exact hcl j u h4
   ·have h5 := (List.getElem?_eq_some_iff.1 h4)
    obtain ⟨h6, h7⟩ := h5
    have := World.cell?_setCells_in g (encK x) (off + l.length * 2) w (fun k hk => by
      have hk2 : k < 2 := hk
      rw [Nat.add_assoc]; exact (hsp (l.length * 2 + k) (by omega)).1) (j - l.length * 2) h6
    rw [show off + l.length * 2 + (j - l.length * 2) = off + j by omega, h7] at this
    exact this
  ·show w.grownBy ((w.setCell ⟨g, off + l.length * 2, none⟩ _).setCell ⟨g, off + l.length * 2 + 1, none⟩ _) (some g)
   refine ⟨rfl, rfl, rfl, by simp [World.setCell], fun k hk hne => ?_⟩
   rw [Below.heap_setCell _ _ _ _ (fun e => hne (congrArg some e)), Below.heap_setCell _ _ _ _ (fun e => hne (congrArg some e))]
 ·have hcl : cap = l.length := by omega
  rcases Nat.eq_zero_or_pos cap with h0 | h0
  ·have hl0 : l = [] := List.eq_nil_of_length_eq_zero (by omega)
   cases ao with
   | none =>
    obtain ⟨v', w', hrun, r1, r2, _⟩ := run_append_own (P := Tryz.prog) w w.heap.size 158 ty 163 i0 (.agg #[.int .i64 0, .int .i64 0]) 2 16 Tryz.underlying158 hi hz0 hz1 hz2 rfl (by decide) (.slice none 0 0) 0 [] (World.ownsRow_nil w _ _ 2) ad 1 c (encK x) rfl hc h1c (by unfold maxLen; omega) (by omega) (Nat.le_refl _)
    subst hl0
    obtain rfl := h0
    exact grow v' w' hrun r1 r2
   | some b =>
    subst hl0
    obtain ⟨v', w', hrun, r1, r2⟩ := run_append_arg_grows (P := Tryz.prog) w 158 ty 163 i0 (.agg #[.int .i64 0, .int .i64 0]) 2 16 Tryz.underlying158 hi hz0 hz1 hz2 rfl (by decide) b 0 cap [] rfl (by intro _ _ hh; simp at hh) ad 1 c (encK x) rfl hc (by omega) (by unfold maxLen; omega) (by omega)
    exact grow v' w' hrun r1 r2
  ·obtain ⟨g, off, rfl, hBg, hgl, hsp, hcl2⟩ := h.at_ h0
   obtain ⟨v', w', hrun, r1, r2⟩ := run_append_arg_grows (P := Tryz.prog) w 158 ty 163 i0 (.agg #[.int .i64 0, .int .i64 0]) 2 16 Tryz.underlying158 hi hz0 hz1 hz2 rfl (by decide) ⟨g, off, none⟩ l.length cap (cellsK l) (cellsK_len l) (fun j u hu => by rw [addr_add]; exact hcl2 j u hu) ad 1 c (encK x) rfl hc (by omega) (by unfold maxLen; omega) (by omega)
   exact grow v' w' hrun r1 r2
end Go.Proofs.YtldkdgimpckpdaaGreat
