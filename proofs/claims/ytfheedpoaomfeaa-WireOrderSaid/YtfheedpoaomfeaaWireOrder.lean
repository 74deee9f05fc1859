/- The law WireOrder of chapter 13. -/
import Derived.Test.YtfheedpoaomfeaaIj
namespace Go.Proofs.Ytfheedpoaomfeaa
open Go.RowKit
theorem numP_fit (B : ByteArray) (n s : Nat) (hs : 1 ≤ s ∧ s ≤ 7) (hn : n < 256 ^ s) : numP B 0 (n : Int) (s : Int) = (B ++ beT n s s, 0) := by
  unfold numP
  rw [if_neg (by decide), if_neg (by
    rintro (h | h | h)
    · omega
    · omega
    · rw [Int.toNat_natCast] at h
      exact absurd hn (Nat.not_lt.2 (Int.ofNat_le.1 (by rwa [Int.natCast_pow])))), Int.toNat_natCast, Int.toNat_natCast]
theorem none_app (B : ByteArray) : (⟨#[]⟩ : ByteArray) ++ B = B := by apply ByteArray.ext; simp
theorem beT_size (n s k : Nat) : (beT n s k).size = k := textN_size _ _
/-- The first bytes of a number, the greatest first, as a list. -/
def digL (n : Nat) : Nat → List UInt8
  | 0 => []
  | k + 1 => UInt8.ofNat (n / 256 ^ k % 256) :: digL n k
theorem digL_len (n : Nat) : ∀ k, (digL n k).length = k
  | 0 => rfl
  | k + 1 => by show (digL n k).length + 1 = k + 1; rw [digL_len n k]
theorem digL_get (n : Nat) : ∀ k i, i < k → (digL n k)[i]? = some (UInt8.ofNat (n / 256 ^ (k - 1 - i) % 256))
  | k + 1, 0, _ => by show some _ = some _; rw [show k + 1 - 1 - 0 = k by omega]
  | k + 1, i + 1, h => by
    show (digL n k)[i]? = _
    rw [digL_get n k i (by omega), show k + 1 - 1 - (i + 1) = k - 1 - i by omega]
theorem beT_list (n k : Nat) : (beT n k k).toList = digL n k := by
  rw [ByteArray.toList_eq]
  apply List.ext_getElem?
  intro i
  show ((asBytes ((List.range k).map fun i => BitVec.ofNat 8 (n / 256 ^ (k - 1 - i) % 256))).toArray.toList)[i]? = _
  by_cases h : i < k
  · rw [digL_get n k i h]
    simp [asBytes, h]
    apply UInt8.toBitVec_inj.1
    simp [UInt8.ofNat]
  · rw [List.getElem?_eq_none (l := digL n k) (by rw [digL_len]; omega), List.getElem?_eq_none (by simp [asBytes]; omega)]
theorem dig_lt (x y : Nat) (hx : x < 256) (hy : y < 256) : (UInt8.ofNat x < UInt8.ofNat y) ↔ x < y := by
  rw [UInt8.lt_iff_toNat_lt, UInt8.toNat_ofNat_of_lt' hx, UInt8.toNat_ofNat_of_lt' hy]
theorem dig_eq (x y : Nat) (hx : x < 256) (hy : y < 256) : (UInt8.ofNat x = UInt8.ofNat y) ↔ x = y := by
  rw [← UInt8.toNat_inj, UInt8.toNat_ofNat_of_lt' hx, UInt8.toNat_ofNat_of_lt' hy]
theorem mod_step (a k : Nat) : a % 256 ^ (k + 1) = a / 256 ^ k % 256 * 256 ^ k + a % 256 ^ k := by
  rw [Nat.pow_succ, Nat.mod_mul, Nat.mul_comm, Nat.add_comm]
theorem digL_eq (a b : Nat) : ∀ k, digL a k = digL b k ↔ a % 256 ^ k = b % 256 ^ k
  | 0 => by simp [digL, Nat.mod_one]
  | k + 1 => by
    rw [mod_step a, mod_step b]
    have ha := Nat.mod_lt a (Nat.pow_pos (n := k) (show 0 < 256 by decide))
    have hb := Nat.mod_lt b (Nat.pow_pos (n := k) (show 0 < 256 by decide))
    have hx := Nat.mod_lt (a / 256 ^ k) (show 0 < 256 by decide)
    have hy := Nat.mod_lt (b / 256 ^ k) (show 0 < 256 by decide)
    have ih := digL_eq a b k
    show (_ :: _ = _ :: _) ↔ _
    rw [List.cons.injEq, dig_eq _ _ hx hy, ih]
    generalize a / 256 ^ k % 256 = x at *
    generalize b / 256 ^ k % 256 = y at *
    generalize a % 256 ^ k = u at *
    generalize b % 256 ^ k = v at *
    generalize 256 ^ k = M at *
    constructor
    · rintro ⟨rfl, rfl⟩; rfl
    · intro h
      rcases Nat.lt_trichotomy x y with hl | rfl | hl
      · have := Nat.mul_le_mul_right M (show x + 1 ≤ y from hl)
        rw [Nat.add_mul] at this; omega
      · exact ⟨rfl, by omega⟩
      · have := Nat.mul_le_mul_right M (show y + 1 ≤ x from hl)
        rw [Nat.add_mul] at this; omega
theorem digL_less (a b : Nat) : ∀ k, Op.bytesLess (digL a k) (digL b k) = decide (a % 256 ^ k < b % 256 ^ k)
  | 0 => by simp [digL, Op.bytesLess, Nat.mod_one]
  | k + 1 => by
    rw [mod_step a, mod_step b]
    have ha := Nat.mod_lt a (Nat.pow_pos (n := k) (show 0 < 256 by decide))
    have hb := Nat.mod_lt b (Nat.pow_pos (n := k) (show 0 < 256 by decide))
    have hx := Nat.mod_lt (a / 256 ^ k) (show 0 < 256 by decide)
    have hy := Nat.mod_lt (b / 256 ^ k) (show 0 < 256 by decide)
    have ih := digL_less a b k
    have dl := dig_lt _ _ hx hy
    have dl2 := dig_lt _ _ hy hx
    have de := dig_eq _ _ hx hy
    simp only [digL, Op.bytesLess]
    rw [ih]
    generalize a / 256 ^ k % 256 = x at *
    generalize b / 256 ^ k % 256 = y at *
    generalize a % 256 ^ k = u at *
    generalize b % 256 ^ k = v at *
    generalize 256 ^ k = M at *
    clear ih
    rcases Nat.lt_trichotomy x y with hl | rfl | hl
    · have := Nat.mul_le_mul_right M (show x + 1 ≤ y from hl)
      rw [Nat.add_mul] at this
      rw [decide_eq_true (dl.2 hl), Bool.true_or, decide_eq_true (by omega)]
    · rw [decide_eq_false (fun h => absurd (dl.1 h) (Nat.lt_irrefl _)), Bool.false_or, beq_self_eq_true, Bool.true_and]
      by_cases h : u < v
      · rw [decide_eq_true h, decide_eq_true (by omega)]
      · rw [decide_eq_false h, decide_eq_false (by omega)]
    · have := Nat.mul_le_mul_right M (show y + 1 ≤ x from hl)
      rw [Nat.add_mul] at this
      rw [decide_eq_false (fun h => by have := dl.1 h; omega), Bool.false_or, beq_eq_false_iff_ne.2 (fun h => by have := de.1 h; omega), Bool.false_and, decide_eq_false (by omega)]
set_option maxRecDepth 100000 in
theorem wireOrder_any (a b c : Nat) (ha : a < 4294967296) (hb : b < 4294967296) (hc : c < 256) (w : World) :
    Calls Try.prog 7 #[.int .u32 (a : Int), .int .u32 (b : Int), .int .u8 (c : Int)] w fun e w' => e = .returned (.bool true) ∧ Below w.heap.size w w' := by
  obtain ⟨k, hk⟩ : ∃ k, k = 4 + c % 4 := ⟨_, rfl⟩
  have hk7 : 1 ≤ k ∧ k ≤ 7 := by omega
  have h4 : 256 ^ 4 ≤ 256 ^ k := Nat.pow_le_pow_right (by decide) (by omega)
  have ea := numP_fit ⟨#[]⟩ a k hk7 (Nat.lt_of_lt_of_le ha h4)
  have eb := numP_fit ⟨#[]⟩ b k hk7 (Nat.lt_of_lt_of_le hb h4)
  rw [none_app] at ea eb
  have CA := fun g v wx h => numP_any g v ⟨#[]⟩ 0 (a : Int) (k : Int) wx h (fun _ => by decide) (fun _ => by omega)
  have CB := fun g v wx h => numP_any g v ⟨#[]⟩ 0 (b : Int) (k : Int) wx h (fun _ => by decide) (fun _ => by omega)
  rw [ea] at CA
  rw [eb] at CB
  have hza := beT_size a k k
  have hzb := beT_size b k k
  have hwa : IntKind.i64.wrap (a : Int) = (a : Int) := IntWalk.i64_in _ (by omega)
  have hwb : IntKind.i64.wrap (b : Int) = (b : Int) := IntWalk.i64_in _ (by omega)
  have hr : IntKind.u8.wrap ((c : Int) % 4) = ((c % 4 : Nat) : Int) := by rw [IntKind.wrap_u8']; omega
  have hr2 : IntKind.i64.wrap ((c : Int) % 4) = (c : Int) % 4 := IntWalk.i64_in _ (by omega)
  have hr3 : IntKind.i64.wrap (4 + (c : Int) % 4) = (k : Int) := by rw [IntWalk.i64_in _ (by omega)]; omega
  have hA := Nat.lt_of_lt_of_le ha h4
  have hB := Nat.lt_of_lt_of_le hb h4
  have hL : Op.bytesLess (beT a k k).toList (beT b k k).toList = decide (a < b) := by
    rw [beT_list, beT_list, digL_less, Nat.mod_eq_of_lt hA, Nat.mod_eq_of_lt hB]
  have HE : Hid (((beT a k k).toList == (beT b k k).toList) = ((a : Int) == (b : Int))) := Lib.hid (by
    rw [beT_list, beT_list]
    have h := digL_eq a b k
    rw [Nat.mod_eq_of_lt hA, Nat.mod_eq_of_lt hB] at h
    by_cases e : a = b
    · subst e; simp
    · rw [beq_eq_false_iff_ne.2 (fun h2 => e (h.1 h2)), beq_eq_false_iff_ne.2 (fun h2 => e (by omega))])
  clear hA hB
  generalize beT a k k = A at *
  generalize beT b k k = B at *
  clear hk ea eb h4 hk7
  go_enter Try.func7, Try.ntmps7
  go_wp2_with fail
  refine (examples13_any w).mono ?_
  rintro e w0 ⟨rfl, b0⟩
  go_wp2_with fail
  refine (newWriter_any w0).mono ?_
  rintro e w1 ⟨gv, rfl, hgv, hv, b1⟩
  have b01 := b0.trans (b1.mono b0.size)
  go_wp2_with fail
  refine (newWriter_any w1).mono ?_
  rintro e w2 ⟨gw, rfl, hgw, hw, b2⟩
  have hvl := hv.blk.lt
  have hv2 := hv.below b2
  have b02 := b01.trans (b2.mono b01.size)
  have hgB : w.heap.size ≤ gv := Nat.le_trans b0.size hgv
  have hz2 : w.heap.size ≤ w2.heap.size := b02.size
  clear hv b0 b1 b2 b01
  go_wp2_with fail
  refine (CA gv _ w2 hv2).mono ?_
  rintro e w3 ⟨rfl, v3, hv3, g3⟩
  have hw3 : WW gw (.slice none 0 0) ⟨#[]⟩ 0 w3 := hw.keep (g3.block gw hw.blk.lt (by omega) (fun e => by cases e)) fun i e => by cases e
  have hv3n : ∀ i, v3.ownBlock = some i → i ≠ gw := fun i e => by
    rcases g3.own i e with h | h
    · cases h
    · have := hw.blk.lt; omega
  have b03 : Below w.heap.size w w3 := b02.trans ⟨g3.os, g3.tape, g3.output, g3.size, fun i hi => g3.block i (by omega) (by omega) (fun e => by cases e)⟩
  clear CA hv2 hw g3 b02
  go_wp2_with fail
  refine (CB gw _ w3 hw3).mono ?_
  rintro e w4 ⟨rfl, v4, hw4, g4⟩
  have hv4 : WW gv v3 A 0 w4 := hv3.keep (g4.block gv hv3.blk.lt (by omega) (fun e => by cases e)) fun i e => g4.block i (hv3.ownB i e).2 (hv3n i e) (fun e => by cases e)
  have b04 : Below w.heap.size w w4 := b03.trans ⟨g4.os, g4.tape, g4.output, g4.size, fun i hi => g4.block i (by have := b03.size; omega) (by omega) (fun e => by cases e)⟩
  clear CB hw3 hv3 hv3n g4 b03
  have C1 := bytesW_any gv _ A 0 w4 hv4
  have C2 := bytesW_any gw _ B 0 w4.drew hw4.drew
  have b05 := b04.drew.drew
  clear b04 hv4 hw4
  go_wp2_with fail
  refine C1.mono ?_
  rintro e w5 ⟨rfl, rfl⟩
  go_wp2_with fail
  refine C2.mono ?_
  rintro e w6 ⟨rfl, rfl⟩
  clear C1 C2
  go_wp2_with fail
  go_ret
  refine ⟨?_, b05⟩
  show Ending.returned (Value.bool ((A.toList == B.toList) == ((a : Int) == (b : Int)))) = _
  rw [HE.out, beq_self_eq_true]
theorem wireOrder_int (a b c : Int) (a0 : 0 ≤ a) (a1 : a < 4294967296) (b0 : 0 ≤ b) (b1 : b < 4294967296) (c0 : 0 ≤ c) (c1 : c < 256) (w : World) :
    Calls Try.prog 7 #[.int .u32 a, .int .u32 b, .int .u8 c] w fun e w' => e = .returned (.bool true) ∧ Below w.heap.size w w' := by
  obtain ⟨x, rfl⟩ : ∃ x : Nat, a = (x : Int) := ⟨a.toNat, by omega⟩
  obtain ⟨y, rfl⟩ : ∃ y : Nat, b = (y : Int) := ⟨b.toNat, by omega⟩
  obtain ⟨z, rfl⟩ : ∃ z : Nat, c = (z : Int) := ⟨c.toNat, by omega⟩
  exact wireOrder_any x y z (by omega) (by omega) (by omega) w
end Go.Proofs.Ytfheedpoaomfeaa
