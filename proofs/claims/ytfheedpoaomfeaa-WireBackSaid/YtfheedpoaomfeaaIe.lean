/- The developers' reader of chapter 13: numbers, and texts with a length ahead. -/
import Derived.Test.YtfheedpoaomfeaaId
import Derived.Laws.BitsAllLaws
namespace Go.Proofs.Ytfheedpoaomfeaa
open Go.RowKit
theorem or_byte (a b : Nat) (ha : a ≤ 281474976710656) (hb : b < 256) : bits .or .i64 (((a * 256 : Nat)) : Int) (b : Int) = ((a * 256 + b : Nat) : Int) := by
  have e : a * 256 ||| b = a * 256 + b := by
    rw [show a * 256 = 2 ^ 8 * a by omega, ← Nat.two_pow_add_eq_or_of_lt (show b < 2 ^ 8 from hb)]
  have key : (BitVec.ofInt 64 ((a * 256 : Nat) : Int) ||| BitVec.ofInt 64 (b : Int)).toNat = a * 256 + b := by
    rw [BitVec.toNat_or, BitVec.ofInt_natCast, BitVec.ofInt_natCast, BitVec.toNat_ofNat, BitVec.toNat_ofNat, Nat.mod_eq_of_lt (by omega), Nat.mod_eq_of_lt (by omega), e]
  show IntKind.i64.wrap ((BitVec.ofInt 64 ((a * 256 : Nat) : Int) ||| BitVec.ofInt 64 (b : Int)).toNat : Nat) = _
  rw [key, IntKind.wrap_i64]
  omega
/-- The number of the first bytes, the greatest first. -/
def beV (B : ByteArray) : Nat → Nat
  | 0 => 0
  | k + 1 => beV B k * 256 + byteS B k
theorem beV_lt (B : ByteArray) : ∀ k, beV B k < 256 ^ k
  | 0 => by show (0 : Nat) < 256 ^ 0; decide
  | k + 1 => by
    have h1 := beV_lt B k
    have h2 := byteS_lt B k
    show beV B k * 256 + byteS B k < 256 ^ (k + 1)
    rw [Nat.pow_succ]
    omega
theorem beV_congr {A B : ByteArray} : ∀ k, (∀ j, j < k → byteS A j = byteS B j) → beV A k = beV B k
  | 0, _ => rfl
  | k + 1, h => by
    show beV A k * 256 + byteS A k = beV B k * 256 + byteS B k
    rw [beV_congr k fun j hj => h j (by omega), h k (by omega)]
/-- A number of so many bytes: it, what is left, the error. -/
def numW (B : ByteArray) (E : Nat) (n : Int) : Nat × ByteArray × Nat :=
  if E ≠ 0 then (0, B, E) else if ¬ (1 ≤ n ∧ n ≤ 7) then (0, B, 1) else if (B.size : Int) < n then (0, B, 2) else (beV B n.toNat, B.extract n.toNat B.size, 0)
set_option maxRecDepth 100000 in
theorem number_no (g : Nat) (B : ByteArray) (E : Nat) (n : Int) (w : World) (h : RW g B E w) (hn : E ≠ 0 ∨ ¬ (1 ≤ n ∧ n ≤ 7)) :
    Calls Try.prog 19 #[.pointer (some ⟨g, 0, none⟩), .int .i64 n] w fun e w' => e = .returned (.int .i64 ((numW B E n).1 : Int)) ∧ Ho g w w' ∧ RW g (numW B E n).2.1 (numW B E n).2.2 w' := by
  have C : Calls Try.prog 29 #[.pointer (some ⟨g, 0, none⟩), .int .i64 n] w fun r w' => r = .returned (.bool false) ∧ Ho g w w' ∧ RW g (numW B E n).2.1 (numW B E n).2.2 w' := by
    have hh := h
    obtain ⟨p, m, cap, hb, _, _⟩ := h
    by_cases hE : E = 0
    · subst hE
      have hs : ¬ (1 ≤ n ∧ n ≤ 7) := hn.resolve_left (by decide)
      have hr : numW B 0 n = (0, B, 1) := by unfold numW; rw [if_neg (by decide), if_pos hs]
      rw [hr]
      refine (size_bad g _ _ n w hb hs).mono ?_
      rintro e w1 ⟨rfl, rfl⟩
      exact ⟨rfl, (Ho.refl g w).row _, none, 0, 0, hb.row_ _, (fun e => by cases e), fun _ => ⟨rfl, rfl, rfl⟩⟩
    · have hr : numW B E n = (0, B, E) := by unfold numW; rw [if_pos hE]
      rw [hr]
      refine (size_err g _ _ (E : Int) n w hb (by omega)).mono ?_
      rintro e w1 ⟨rfl, rfl⟩
      exact ⟨rfl, Ho.refl g _, hh⟩
  have h0 : (numW B E n).1 = 0 := by
    unfold numW
    by_cases hE : E = 0
    · rw [if_neg (by omega), if_pos (hn.resolve_left (by omega))]
    · rw [if_pos hE]
  rw [h0]
  generalize (numW B E n).2 = r at C ⊢
  clear h h0 hn
  go_enter Try.func19, Try.ntmps19
  go_wp2_with fail
  refine C.mono ?_
  rintro e w1 ⟨rfl, h1, h2⟩
  have HF := Lib.hid (⟨h1, h2⟩ : Ho g w w1 ∧ RW g r.1 r.2 w1)
  clear h1 h2 C
  go_wp2_with fail
  go_ret
  exact ⟨rfl, HF.out⟩
set_option maxRecDepth 100000 in
set_option maxHeartbeats 4000000 in
theorem number_yes (g : Nat) (B : ByteArray) (n : Nat) (w : World) (h : RW g B 0 w) (hn : 1 ≤ n ∧ n ≤ 7) :
    Calls Try.prog 19 #[.pointer (some ⟨g, 0, none⟩), .int .i64 (n : Int)] w fun e w' => e = .returned (.int .i64 ((numW B 0 (n : Int)).1 : Int)) ∧ Ho g w w' ∧ RW g (numW B 0 (n : Int)).2.1 (numW B 0 (n : Int)).2.2 w' := by
  have hN : numW B 0 (n : Int) = (beV (rawW B 0 (n : Int)).1 (rawW B 0 (n : Int)).1.size, (rawW B 0 (n : Int)).2) := by
    have e1 : numW B 0 (n : Int) = if (B.size : Int) < (n : Int) then (0, B, 2) else (beV B n, B.extract n B.size, 0) := by unfold numW; rw [if_neg (by decide), if_neg (by omega), Int.toNat_natCast]
    have e2 : rawW B 0 (n : Int) = if (B.size : Int) < (n : Int) then (⟨#[]⟩, B, 2) else (B.extract 0 n, B.extract n B.size, 0) := by unfold rawW; rw [if_neg (by decide), if_neg (by omega), Int.toNat_natCast]
    rw [e1, e2]
    by_cases hm : (B.size : Int) < (n : Int)
    · rw [if_pos hm, if_pos hm]; rfl
    · rw [if_neg hm, if_neg hm]
      have hz : (B.extract 0 n).size = n := by rw [ByteArray.size_extract]; omega
      show (beV B n, _) = (beV (B.extract 0 n) (B.extract 0 n).size, _)
      rw [hz, beV_congr n fun j hj => by rw [byteS_ext B 0 n j (by omega) (by omega), Nat.zero_add]]
  have hz : (rawW B 0 (n : Int)).1.size ≤ 7 := by
    unfold rawW
    rw [if_neg (by decide), if_neg (by omega)]
    by_cases hm : (B.size : Int) < (n : Int)
    · rw [if_pos hm]; show 0 ≤ 7; decide
    · rw [if_neg hm]; show (B.extract 0 _).size ≤ 7; rw [ByteArray.size_extract]; omega
  rw [hN]
  have C : Calls Try.prog 29 #[.pointer (some ⟨g, 0, none⟩), .int .i64 (n : Int)] w fun r w' => r = .returned (.bool true) ∧ w' = w := by
    obtain ⟨p, m, cap, hb, _, _⟩ := h
    exact size_ok g _ _ (n : Int) w hb (by omega)
  have C2 := take_any g B 0 (n : Int) w h
  obtain ⟨T, R, hr⟩ : ∃ T R, rawW B 0 (n : Int) = (T, R) := ⟨_, _, rfl⟩
  rw [hr] at C2 hz ⊢
  have hz : T.size ≤ 7 := hz
  clear h hN hr hn
  go_enter Try.func19, Try.ntmps19
  go_wp2_with fail
  refine C.mono ?_
  rintro e w1 ⟨rfl, rfl⟩
  go_wp2_with fail
  refine C2.mono ?_
  rintro e w2 ⟨h1, p, m, cap, rfl, h2, h3, h4⟩
  have HF := Lib.hid (⟨h1, h4⟩ : Ho g w1 w2 ∧ RW g R.1 R.2 w2)
  have HT := Lib.hid h2
  have hl : T.size = m := h2.len
  have HZ : Hid (m ≤ 7) := Lib.hid (by omega)
  have HL := Lib.hid hl
  clear h1 h2 h3 h4 C C2 hz hl
  go_wp2_with fail
  go_loopw [5, 7, 18] (fun x y u wr => ∃ k : Nat, x = .int .i64 ((beV T k : Nat) : Int) ∧ u = .int .i64 (k : Int) ∧ k ≤ m ∧ wr = w2) (fun _ _ u _ => m - (intOf u).toNat)
  case atStart => exact ⟨0, rfl, rfl, Nat.zero_le _, rfl⟩
  case round =>
    obtain ⟨k, rfl, rfl, hk, rfl⟩ := hrel
    by_cases hlt : k < m
    · have hlti : (k : Int) < (m : Int) := by omega
      obtain ⟨a, rfl⟩ : ∃ a, p = some a := by
        cases p with
        | none => have := (HT.out.nil_ rfl).1; omega
        | some a => exact ⟨a, rfl⟩
      have c0 := HT.out.cell a rfl k hlt
      have hb := byteS_lt T k
      have hv := beV_lt T k
      have hM := HZ.out
      have hp : 256 ^ k ≤ 256 ^ 6 := Nat.pow_le_pow_right (by decide) (by omega)
      have HV : Hid (beV T (k + 1) = beV T k * 256 + byteS T k) := Lib.hid rfl
      generalize byteS T k = b at c0 hb HV
      generalize beV T k = x at hv HV ⊢
      have hx : x ≤ 281474976710656 := by omega
      have hsh : IntKind.i64.wrap ((x : Int) * 256) = ((x * 256 : Nat) : Int) := by rw [IntWalk.i64_in _ (by omega)]; omega
      have hbw : IntKind.i64.wrap (b : Int) = (b : Int) := IntWalk.i64_in _ (by omega)
      have HOR : Hid (bits .or .i64 ((x : Int) * 256) (b : Int) = ((x * 256 + b : Nat) : Int)) := Lib.hid (by have := or_byte x b hx hb; rwa [Int.natCast_mul] at this)
      have hkw : IntKind.i64.wrap ((k : Int) + 1) = ((k + 1 : Nat) : Int) := by rw [IntWalk.i64_in _ (by omega)]; rfl
      have HK := Lib.hid hlt
      clear hp hv hx hb hM hlt
      go_wp2_with fail
      exact ⟨⟨k + 1, by rw [HV.out, HOR.out], by go_num, by have := HK.out; omega, trivial⟩, by simp only [intOf]; have := HK.out; omega⟩
    · obtain rfl : k = m := by omega
      have hlti : ¬ (k : Int) < (k : Int) := by omega
      go_wp2_with fail
      go_ret
      exact ⟨by rw [HL.out]; rfl, HF.out⟩
theorem number_any (g : Nat) (B : ByteArray) (E : Nat) (n : Int) (w : World) (h : RW g B E w) :
    Calls Try.prog 19 #[.pointer (some ⟨g, 0, none⟩), .int .i64 n] w fun e w' => e = .returned (.int .i64 ((numW B E n).1 : Int)) ∧ Ho g w w' ∧ RW g (numW B E n).2.1 (numW B E n).2.2 w' := by
  by_cases hn : E ≠ 0 ∨ ¬ (1 ≤ n ∧ n ≤ 7)
  · exact number_no g B E n w h hn
  · obtain rfl : E = 0 := by omega
    obtain ⟨k, rfl⟩ : ∃ k : Nat, n = (k : Int) := ⟨n.toNat, by omega⟩
    exact number_yes g B k w h (by omega)
/-- A text with its length ahead. -/
def opqW (B : ByteArray) (E : Nat) (n : Int) : ByteArray × ByteArray × Nat := rawW (numW B E n).2.1 (numW B E n).2.2 ((numW B E n).1 : Int)
set_option maxRecDepth 100000 in
theorem opaque_any (g : Nat) (B : ByteArray) (E : Nat) (n : Int) (w : World) (h : RW g B E w) :
    Calls Try.prog 23 #[.pointer (some ⟨g, 0, none⟩), .int .i64 n] w fun e w' => e = .returned (.string (opqW B E n).1) ∧ Ho g w w' ∧ RW g (opqW B E n).2.1 (opqW B E n).2.2 w' := by
  have C := number_any g B E n w h
  unfold opqW
  generalize numW B E n = r at C ⊢
  obtain ⟨x, R, F⟩ := r
  clear h
  go_enter Try.func23, Try.ntmps23
  go_wp2_with fail
  refine C.mono ?_
  rintro e w1 ⟨rfl, h1, h2⟩
  have C2 := raw_any g R F (x : Int) w1 h2
  clear C h2
  go_wp2_with fail
  refine C2.mono ?_
  rintro e w2 ⟨rfl, h3, h4⟩
  have HF := Lib.hid (h1.trans h3)
  clear h1 h3 C2
  go_wp2_with fail
  go_ret
  exact ⟨rfl, HF.out, h4⟩
end Go.Proofs.Ytfheedpoaomfeaa
