/- The reference's Decode of chapter 7: the walk. -/
import Derived.Test.YtbipbkancghkfaaDoorUh
namespace Go.Proofs.YtbipbkancghkfaaDoor
open Go.RowKit
theorem toList_ne' {a b : ByteArray} (h : a ≠ b) : (a.toList == b.toList) = false := by
  rw [beq_eq_false_iff_ne]
  intro e
  rw [ByteArray.toList_eq, ByteArray.toList_eq] at e
  exact h (by cases a; cases b; exact congrArg ByteArray.mk (Array.toList_inj.1 e))
set_option maxRecDepth 100000 in
set_option maxHeartbeats 4000000 in
theorem rdec7_any (s r : ByteArray) (b : Bool) (w : World) (hs : s.size ≤ 100000000000) (hr0 : dec64 s = (r, b)) :
    Calls Tryd.prog 11 #[.string s] w fun e w' => e = .returned (.tuple #[.string r, .bool b]) ∧ Below w.heap.size w w' := by
  have HR := Lib.hid hr0
  clear hr0
  go_enter Tryd.func11, Tryd.ntmps11
  go_wp2_with fail
  go_loopw [4, 5, 6, 7, 8, 9, 10, 11] (fun v i _ _ _ _ _ _ wr => ∃ g : Nat, 4 * g ≤ s.size ∧ i = .int .i64 ((4 * g : Nat) : Int) ∧ OL w.heap.size w (raw s g) v wr) (fun _ i _ _ _ _ _ _ _ => s.size + 4 - (intOf i).toNat)
  case atStart => exact ⟨0, by omega, rfl, OL.nil (Below.refl _ _) (Nat.le_refl _)⟩
  case round =>
    obtain ⟨g, hg, rfl, hr⟩ := hrel
    obtain ⟨i, hid⟩ : ∃ i, i = 4 * g := ⟨_, rfl⟩
    have HI := Lib.hid hid
    rw [← hid]
    have hwi : IntKind.i64.wrap ((i : Int) + 4) = (i : Int) + 4 := IntWalk.i64_in _ (by omega)
    by_cases hlt : i + 4 ≤ s.size
    · have hi1 : (i : Int) + 4 ≤ s.size := by omega
      clear hid
      go_wp2_with fail
      go_loopw [6, 7, 8, 9, 10] (fun n m k _ _ wr2 => ∃ j : Nat, j ≤ 4 ∧ k = .int .i64 (j : Int) ∧ n = .int .i64 (nK s g j : Int) ∧ m = .int .i64 (mK s g j : Int) ∧ OL w.heap.size w (raw s g) u4 wr2) (fun _ _ k _ _ _ => 4 - (intOf k).toNat)
      case atStart => exact ⟨0, by omega, rfl, rfl, rfl, hr⟩
      case round =>
        obtain ⟨j, hj, rfl, rfl, rfl, hr2⟩ := hrel
        clear hr
        by_cases hjl : j < 4
        · obtain ⟨m, hm⟩ : ∃ m, m = i + j := ⟨_, rfl⟩
          have hij : (i : Int) + j = (m : Int) := by omega
          have hms : m < s.size := by omega
          have hwm : IntKind.i64.wrap (m : Int) = (m : Int) := IntWalk.i64_in _ (by omega)
          have e8 := byteS_at s m hms
          have hc := (s[m]).toNat_lt
          obtain ⟨x, hx⟩ : ∃ x, x = (vl (s[m]).toNat).1 := ⟨_, rfl⟩
          obtain ⟨ok, hok⟩ : ∃ ok, ok = (vl (s[m]).toNat).2 := ⟨_, rfl⟩
          have CV := Lib.hid (fun w => rvalue7_any (s[m]).toNat x ok w hc (by rw [hx, hok]))
          have hx64 : x < 64 := by rw [hx]; exact vl_lt _ hc
          have hnl : nK s g j < 16777216 := Nat.lt_of_lt_of_le (nK_lt s g j) (Nat.pow_le_pow_right (n := 64) (by decide) hj)
          have hmk := mK_le s g j
          have HN : Hid (nK s g (j + 1) = nK s g j * 64 + x) := Lib.hid (by rw [hx, e8, hm, HI.out]; rfl)
          have HM : Hid (mK s g (j + 1) = if ok = true ∧ mK s g j = j then mK s g j + 1 else mK s g j) := Lib.hid (by rw [hok, e8, hm, HI.out]; rfl)
          generalize nK s g j = n at *
          generalize mK s g j = q at *
          have hw1 : IntKind.i64.wrap ((n : Int) * 64) = (n : Int) * 64 := IntWalk.i64_in _ (by omega)
          clear e8 hm hx hok
          go_wp2_with fail
          refine (CV.out _).mono ?_
          rintro e w3 ⟨rfl, b3⟩
          have hr3 := hr2.below b3
          clear hr2 b3
          cases ok with
          | true =>
            by_cases hq : q = j
            · subst hq
              have HM2 : Hid (mK s g (q + 1) = q + 1) := Lib.hid (by rw [HM.out, if_pos ⟨rfl, rfl⟩])
              clear HM
              go_wp2_with fail
              go_roundw
              case rel => exact ⟨q + 1, by omega, by go_num, by rw [HN.out]; go_num, by rw [HM2.out]; go_num, hr3⟩
              case measure => simp [intOf]; omega
            · have hqi : ¬ (q : Int) = (j : Int) := by omega
              have HM2 : Hid (mK s g (j + 1) = q) := Lib.hid (by rw [HM.out, if_neg (fun c => hq c.2)])
              clear HM
              go_wp2_with fail
              go_roundw
              case rel => exact ⟨j + 1, by omega, by go_num, by rw [HN.out]; go_num, by rw [HM2.out], hr3⟩
              case measure => simp [intOf]; omega
          | false =>
            have HM2 : Hid (mK s g (j + 1) = q) := Lib.hid (by rw [HM.out, if_neg (fun c => by cases c.1)])
            clear HM
            go_wp2_with fail
            go_roundw
            case rel => exact ⟨j + 1, by omega, by go_num, by rw [HN.out]; go_num, by rw [HM2.out], hr3⟩
            case measure => simp [intOf]; omega
        · obtain rfl : j = 4 := by omega
          rw [show ((4 : Nat) : Int) = 4 from rfl]
          have hnl : nK s g 4 < 16777216 := nK_lt s g 4
          have hmk := mK_le s g 4
          have HG : Hid (raw s (g + 1) = raw s g ++ (List.range (mK s g 4 - 1)).map (bK64 (nK s g 4))) := Lib.hid rfl
          have hlen := raw_len s g
          generalize nK s g 4 = n at *
          generalize mK s g 4 = q at *
          go_wp2_with fail
          go_loopw [4, 11] (fun v k wr2 => ∃ j : Nat, j ≤ q - 1 ∧ k = .int .i64 (j : Int) ∧ OL w.heap.size w (raw s g ++ (List.range j).map (bK64 n)) v wr2) (fun _ k _ => 4 - (intOf k).toNat)
          case atStart => exact ⟨0, by omega, rfl, by rw [show (List.range 0).map (bK64 n) = [] from rfl, List.append_nil]; exact hr2⟩
          case round =>
            obtain ⟨j, hj2, rfl, hr4⟩ := hrel
            clear hr2
            by_cases hjl : j < q - 1
            · have hji : (j : Int) < (q : Int) - 1 := by omega
              have hw1 : IntKind.i64.wrap (8 * (j : Int)) = 8 * (j : Int) := IntWalk.i64_in _ (by omega)
              have hw2 : IntKind.i64.wrap (16 - 8 * (j : Int)) = ((16 - 8 * j : Nat) : Int) := by rw [IntWalk.i64_in _ (by omega)]; omega
              obtain ⟨y, hy⟩ : ∃ y, y = n / 2 ^ (16 - 8 * j) := ⟨_, rfl⟩
              have hsh : (n : Int) / 2 ^ (16 - 8 * j) = (y : Int) := by rw [hy, Int.natCast_ediv, Int.natCast_pow]; rfl
              have HF : Hid ((bK64 n j : Int) = IntKind.u8.wrap (y : Int)) := Lib.hid (by rw [IntKind.wrap_u8, hy]; unfold bK64; omega)
              have HL : Hid (raw s g ++ (List.range (j + 1)).map (bK64 n) = raw s g ++ (List.range j).map (bK64 n) ++ [bK64 n j]) := Lib.hid (by rw [List.range_succ, List.map_append, List.append_assoc]; rfl)
              have hll : (raw s g ++ (List.range j).map (bK64 n)).length ≤ 1099511627776 := by rw [List.length_append, List.length_map, List.length_range]; have := HI.out; omega
              clear hy
              go_wp2_with (at_builtin; refine wpList_pushL rfl (.tmp 51) (.tmp 58) rfl rfl hr4 hll rfl _ _ HF.out ?_; intro v' w2 hr5)
              go_roundw
              case rel => exact ⟨j + 1, by omega, by go_num, by rw [HL.out]; exact hr5⟩
              case measure => simp [intOf]; omega
            · have hji : ¬ (j : Int) < (q : Int) - 1 := by omega
              have hjq : j = q - 1 := by omega
              have HK : Hid (((4 * (g + 1) : Nat) : Int) = (i : Int) + 4) := Lib.hid (by have := HI.out; omega)
              have hg2 : 4 * (g + 1) ≤ s.size := by have := HI.out; omega
              have hr6 : OL w.heap.size w (raw s (g + 1)) u4 wr := by rw [HG.out, ← hjq]; exact hr4
              clear hr4 HG
              go_wp2_with fail
              go_roundw
              case rel => exact ⟨g + 1, hg2, by rw [HK.out], hr6⟩
              case measure => simp [intOf]; omega
    · have hi1 : ¬ (i : Int) + 4 ≤ s.size := by omega
      have hcv := hr.text (raw_byte s g)
      have hb := hr.b
      have hlen := raw_len s g
      have hsz := textL_size (raw s g)
      have HGo : Hid (e64 (textL (raw s g)) = s → dec64 s = (textL (raw s g), true)) := Lib.hid (by rw [show g = s.size / 4 by omega]; exact dec_good)
      have HBa : Hid (e64 (textL (raw s g)) ≠ s → dec64 s = (⟨#[]⟩, false)) := Lib.hid (by rw [show g = s.size / 4 by omega]; exact dec_bad)
      have CE := Lib.hid (fun w => renc7_any (textL (raw s g)) w (by omega))
      generalize textL (raw s g) = t at *
      clear hr hid hlen
      go_wp2_with fail
      refine (CE.out _).mono ?_
      rintro e w3 ⟨rfl, b3⟩
      have hb3 := hb.trans (b3.mono hb.size)
      by_cases hE : e64 t = s
      · have hB := HGo.out hE
        rw [HR.out] at hB
        injection hB with hB1 hB2
        subst hB1 hB2
        rw [hE]
        clear HGo HBa CE hE
        go_wp2_with fail
        go_ret2
        exact ⟨rfl, hb3⟩
      · have hB := HBa.out hE
        rw [HR.out] at hB
        injection hB with hB1 hB2
        subst hB1 hB2
        have hne := toList_ne' hE
        generalize e64 t = x at *
        clear HGo HBa CE hE
        go_wp2_with fail
        go_ret2
        exact ⟨rfl, hb3⟩
end Go.Proofs.YtbipbkancghkfaaDoor
