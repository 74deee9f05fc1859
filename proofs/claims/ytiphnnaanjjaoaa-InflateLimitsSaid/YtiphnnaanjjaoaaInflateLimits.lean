/- InflateLimits: the law's walk. -/
import Derived.Test.YtiphnnaanjjaoaaMZ
namespace Go.Proofs.Ytiphnnaanjjaoaa
open Go.RowKit
/-- How many of the first k symbols say a length. -/
def metL (n : Nat) : Nat → Nat
  | 0 => 0
  | k + 1 => metL n k + (if (lengthV ((257 + k : Nat) : Int)).1 ≤ n ∧ n < (lengthV ((257 + k : Nat) : Int)).1 + 2 ^ (lengthV ((257 + k : Nat) : Int)).2.1 then 1 else 0)
def metD (n : Nat) : Nat → Nat
  | 0 => 0
  | k + 1 => metD n k + (if (distV (k : Int)).1 ≤ n ∧ n < (distV (k : Int)).1 + 2 ^ (distV (k : Int)).2.1 then 1 else 0)
theorem metL_all : ∀ n, 3 ≤ n → n ≤ 258 → metL n 29 = 1 ∨ (n = 258 ∧ metL n 29 = 2) := by
  have : ∀ i : Fin 256, metL (3 + i.val) 29 = 1 ∨ (3 + i.val = 258 ∧ metL (3 + i.val) 29 = 2) := by decide +kernel
  intro n h1 h2
  have := this ⟨n - 3, by omega⟩
  rwa [show 3 + (n - 3) = n by omega] at this
theorem dbase_mono {i j : Nat} (h : i ≤ j) : dbase i ≤ dbase j := by
  induction j with
  | zero => rw [show i = 0 by omega]; exact Nat.le_refl _
  | succ j ih =>
    rcases Nat.lt_or_ge j i with h1 | h1
    · rw [show i = j + 1 by omega]; exact Nat.le_refl _
    · exact Nat.le_trans (ih h1) (Nat.le_add_right _ _)
theorem distV_nat {k : Nat} (h : k < 30) : distV (k : Int) = (dbase k, dbits k, true) := by
  unfold distV
  rw [if_pos (by omega)]
  simp
/-- So far as k the distances below dbase k are met once. -/
theorem metD_all (n : Nat) (h1 : 1 ≤ n) : ∀ k, k ≤ 30 → metD n k = if n < dbase k then 1 else 0
  | 0, _ => by rw [show dbase 0 = 1 from rfl, if_neg (show ¬ n < 1 by omega)]; rfl
  | k + 1, h => by
    show metD n k + _ = _
    rw [metD_all n h1 k (by omega), distV_nat (by omega)]
    dsimp only
    have e : dbase (k + 1) = dbase k + 2 ^ dbits k := rfl
    rw [e]
    have := Nat.two_pow_pos (dbits k)
    generalize 2 ^ dbits k = X at *
    generalize dbase k = Y at *
    by_cases c1 : n < Y
    · rw [if_pos c1, if_neg (by omega), if_pos (by omega)]
    · rw [if_neg c1]
      by_cases c2 : n < Y + X
      · rw [if_pos (by omega), if_pos c2]
      · rw [if_neg (by omega), if_neg c2]
theorem metL_le (n k : Nat) : metL n k ≤ k := by
  induction k with
  | zero => exact Nat.le_refl 0
  | succ k ih => show metL n k + _ ≤ _; split <;> omega
theorem metD_le (n k : Nat) : metD n k ≤ k := by
  induction k with
  | zero => exact Nat.le_refl 0
  | succ k ih => show metD n k + _ ≤ _; split <;> omega
theorem dlen_lim (k : Nat) (h : k < 29) : (lengthV ((257 + k : Nat) : Int)).2.2 = true ∧ (lengthV ((257 + k : Nat) : Int)).1 ≤ 300 ∧ (lengthV ((257 + k : Nat) : Int)).2.1 ≤ 5 := by
  have : ∀ i : Fin 29, (lengthV ((257 + i.val : Nat) : Int)).2.2 = true ∧ (lengthV ((257 + i.val : Nat) : Int)).1 ≤ 300 ∧ (lengthV ((257 + i.val : Nat) : Int)).2.1 ≤ 5 := by decide +kernel
  exact this ⟨k, h⟩
theorem ddist_lim (k : Nat) (h : k < 30) : (distV (k : Int)).2.2 = true ∧ (distV (k : Int)).1 ≤ 40000 ∧ (distV (k : Int)).2.1 ≤ 13 := by
  have : ∀ i : Fin 30, (distV (i.val : Int)).2.2 = true ∧ (distV (i.val : Int)).1 ≤ 40000 ∧ (distV (i.val : Int)).2.1 ≤ 13 := by decide +kernel
  exact this ⟨k, h⟩
set_option maxRecDepth 100000 in
set_option maxHeartbeats 8000000 in
theorem inflateLimits_any (a b : Nat) (ha : a < 65536) (hb : b < 65536) (w : World) (hT : TB w) : Calls Try.prog 6 #[.int .u16 (a : Int), .int .u16 (b : Int)] w fun e w' => e = .returned (.bool true) ∧ Below w.heap.size w w' := by
  have C := ex10_any w hT
  clear hT
  obtain ⟨n, hn⟩ : ∃ n, n = 3 + a % 256 := ⟨_, rfl⟩
  obtain ⟨d, hd⟩ : ∃ d, d = 1 + b % 32768 := ⟨_, rfl⟩
  have hna : 3 ≤ n ∧ n ≤ 258 := by omega
  have hda : 1 ≤ d ∧ d ≤ 32768 := by omega
  have hm1 : (a : Int).tmod 256 = ((a % 256 : Nat) : Int) := by rw [Int.tmod_eq_emod_of_nonneg (by omega)]; omega
  have hm2 : (a : Int) % 256 = ((a % 256 : Nat) : Int) := by omega
  have hm3 : (b : Int).tmod 32768 = ((b % 32768 : Nat) : Int) := by rw [Int.tmod_eq_emod_of_nonneg (by omega)]; omega
  have hm4 : (b : Int) % 32768 = ((b % 32768 : Nat) : Int) := by omega
  obtain ⟨a', ha'⟩ : ∃ x, x = a % 256 := ⟨_, rfl⟩
  obtain ⟨b', hb'⟩ : ∃ x, x = b % 32768 := ⟨_, rfl⟩
  rw [← ha'] at hm1 hm2 hn
  rw [← hb'] at hm3 hm4 hd
  have hw1 : IntKind.u16.wrap (a' : Int) = (a' : Int) := by rw [IntKind.wrap_u16]; omega
  have hw2 : IntKind.u16.wrap (b' : Int) = (b' : Int) := by rw [IntKind.wrap_u16]; omega
  have hw3 : IntKind.i64.wrap (a' : Int) = (a' : Int) := IntWalk.i64_in _ (by omega)
  have hw4 : IntKind.i64.wrap (b' : Int) = (b' : Int) := IntWalk.i64_in _ (by omega)
  have hw5 : IntKind.i64.wrap (3 + (a' : Int)) = (n : Int) := by rw [IntWalk.i64_in _ (by omega)]; omega
  have hw6 : IntKind.i64.wrap (1 + (b' : Int)) = (d : Int) := by rw [IntWalk.i64_in _ (by omega)]; omega
  have hu1 : (a' : Int) % 65536 = (a' : Int) := by omega
  have hu2 : (b' : Int) % 65536 = (b' : Int) := by omega
  have HN := Lib.hid hna
  have HDD := Lib.hid hda
  clear hn hd hna hda ha' hb' ha hb
  go_enter Try.func6, Try.ntmps6
  go_wp2_with fail
  refine C.mono ?_
  rintro e w1 ⟨rfl, b1⟩
  have HB := Lib.hid b1
  clear C b1
  go_wp2_with fail
  go_loopw [4, 8, 9] (fun s4 m i wr => ∃ k : Nat, k ≤ 29 ∧ s4 = .bool false ∧ m = .int .i64 (metL n k : Int) ∧ i = .int .i64 ((257 + k : Nat) : Int) ∧ w1 = wr) (fun _ _ i _ => 400 - (intOf i).toNat)
  case atStart => exact ⟨0, by omega, rfl, rfl, rfl, rfl⟩
  case round =>
    obtain ⟨k, hk, rfl, rfl, rfl, rfl⟩ := hrel
    by_cases hlt : k < 29
    · obtain ⟨hl3, hl1, hl2⟩ := dlen_lim k hlt
      have L := dlength_any ((257 + k : Nat) : Int) w1
      have HS : Hid (metL n (k + 1) = metL n k + (if (lengthV ((257 + k : Nat) : Int)).1 ≤ n ∧ n < (lengthV ((257 + k : Nat) : Int)).1 + 2 ^ (lengthV ((257 + k : Nat) : Int)).2.1 then 1 else 0)) := Lib.hid rfl
      have hml := metL_le n k
      generalize lengthV ((257 + k : Nat) : Int) = x at *
      obtain ⟨x1, x2, x3⟩ := x
      have hl3 : x3 = true := hl3
      subst hl3
      replace hl1 : x1 ≤ 300 := hl1
      replace hl2 : x2 ≤ 5 := hl2
      obtain ⟨P, hP⟩ : ∃ P, P = 2 ^ x2 := ⟨_, rfl⟩
      have hPl : P ≤ 2 ^ 5 := by rw [hP]; exact Nat.pow_le_pow_right (by decide) hl2
      have hPi : (2 : Int) ^ x2 = (P : Int) := by rw [hP, Int.natCast_pow]; rfl
      have hPw : IntKind.i64.wrap (P : Int) = (P : Int) := IntWalk.i64_in _ (by omega)
      have hxw : IntKind.i64.wrap ((x1 : Int) + (P : Int)) = (x1 : Int) + (P : Int) := IntWalk.i64_in _ (by omega)
      have hmin : min x2 64 = x2 := by omega
      have hxn : ¬ (x2 : Int) < 0 := by omega
      have hxg : ¬ (x2 : Int) > 5 := by omega
      have hki : ((257 + k : Nat) : Int) < 286 := by omega
      rw [← hP] at HS
      have HKL := Lib.hid hlt
      have hkb : k < 40 := by omega
      have hm40 : metL n k < 40 := by omega
      clear hP hlt hml hl1 hl2
      by_cases hc : x1 ≤ n ∧ n < x1 + P
      · have HM := Lib.hid (HS.out.trans (by rw [if_pos hc]))
        have hc1 : (n : Int) ≥ (x1 : Int) := by omega
        have hc2 : (n : Int) < (x1 : Int) + (P : Int) := by omega
        clear HS hc
        generalize metL n k = Z at HM hm40 ⊢
        have hzw : IntKind.i64.wrap ((Z : Int) + 1) = ((Z + 1 : Nat) : Int) := by rw [IntWalk.i64_in _ (by omega)]; rfl
        go_wp2_with fail
        refine L.mono ?_
        rintro e w2 ⟨rfl, rfl⟩
        go_wp2_with fail
        go_roundw
        case rel => exact ⟨k + 1, by have := HKL.out; omega, rfl, by rw [HM.out]; rfl, by go_num, by trivial⟩
        case measure => simp only [intOf]; omega
      · have HM := Lib.hid (HS.out.trans (by rw [if_neg hc]))
        by_cases hc1 : x1 ≤ n
        · have hc2 : (n : Int) ≥ (x1 : Int) := by omega
          have hc3 : ¬ (n : Int) < (x1 : Int) + (P : Int) := by omega
          clear HS hc hc1
          go_wp2_with fail
          refine L.mono ?_
          rintro e w2 ⟨rfl, rfl⟩
          go_wp2_with fail
          go_roundw
          case rel => exact ⟨k + 1, by have := HKL.out; omega, rfl, by rw [HM.out]; rfl, by go_num, by trivial⟩
          case measure => simp only [intOf]; omega
        · have hc2 : ¬ (n : Int) ≥ (x1 : Int) := by omega
          clear HS hc hc1
          go_wp2_with fail
          refine L.mono ?_
          rintro e w2 ⟨rfl, rfl⟩
          go_wp2_with fail
          go_roundw
          case rel => exact ⟨k + 1, by have := HKL.out; omega, rfl, by rw [HM.out]; rfl, by go_num, by trivial⟩
          case measure => simp only [intOf]; omega
    · have hki : ¬ ((257 + k : Nat) : Int) < 286 := by omega
      have HK29 : Hid (k = 29) := Lib.hid (by omega)
      obtain ⟨Z29, hZ29⟩ : ∃ Z, Z = metL n k := ⟨_, rfl⟩
      have HZ29 : Hid (Z29 = metL n 29) := Lib.hid (by rw [hZ29, HK29.out])
      rw [← hZ29]
      clear hlt hk hZ29
      go_wp2_with fail
      clear hki
      go_loopw [4, 13, 14] (fun s4 m i wr => ∃ k : Nat, k ≤ 30 ∧ s4 = .bool false ∧ m = .int .i64 (metD d k : Int) ∧ i = .int .i64 (k : Int) ∧ w1 = wr) (fun _ _ i _ => 400 - (intOf i).toNat)
      case atStart => exact ⟨0, by omega, rfl, rfl, rfl, rfl⟩
      case round =>
        obtain ⟨k, hk, rfl, rfl, rfl, rfl⟩ := hrel
        by_cases hlt : k < 30
        · obtain ⟨hl3, hl1, hl2⟩ := ddist_lim k hlt
          have L := ddist_any (k : Int) w1
          have HS : Hid (metD d (k + 1) = metD d k + (if (distV (k : Int)).1 ≤ d ∧ d < (distV (k : Int)).1 + 2 ^ (distV (k : Int)).2.1 then 1 else 0)) := Lib.hid rfl
          have hml := metD_le d k
          generalize distV (k : Int) = x at *
          obtain ⟨x1, x2, x3⟩ := x
          have hl3 : x3 = true := hl3
          subst hl3
          replace hl1 : x1 ≤ 40000 := hl1
          replace hl2 : x2 ≤ 13 := hl2
          obtain ⟨P, hP⟩ : ∃ P, P = 2 ^ x2 := ⟨_, rfl⟩
          have hPl : P ≤ 2 ^ 13 := by rw [hP]; exact Nat.pow_le_pow_right (by decide) hl2
          have hPi : (2 : Int) ^ x2 = (P : Int) := by rw [hP, Int.natCast_pow]; rfl
          have hPw : IntKind.i64.wrap (P : Int) = (P : Int) := IntWalk.i64_in _ (by omega)
          have hxw : IntKind.i64.wrap ((x1 : Int) + (P : Int)) = (x1 : Int) + (P : Int) := IntWalk.i64_in _ (by omega)
          have hmin : min x2 64 = x2 := by omega
          have hxn : ¬ (x2 : Int) < 0 := by omega
          have hxg : ¬ (x2 : Int) > 13 := by omega
          have hki : (k : Int) < 30 := by omega
          rw [← hP] at HS
          have HKL := Lib.hid hlt
          have hkb : k < 40 := by omega
          have hm40 : metD d k < 40 := by omega
          clear hP hlt hml hl1 hl2
          by_cases hc : x1 ≤ d ∧ d < x1 + P
          · have HM := Lib.hid (HS.out.trans (by rw [if_pos hc]))
            have hc1 : (d : Int) ≥ (x1 : Int) := by omega
            have hc2 : (d : Int) < (x1 : Int) + (P : Int) := by omega
            clear HS hc
            generalize metD d k = Z at HM hm40 ⊢
            have hzw : IntKind.i64.wrap ((Z : Int) + 1) = ((Z + 1 : Nat) : Int) := by rw [IntWalk.i64_in _ (by omega)]; rfl
            go_wp2_with fail
            refine L.mono ?_
            rintro e w2 ⟨rfl, rfl⟩
            go_wp2_with fail
            go_roundw
            case rel => exact ⟨k + 1, by have := HKL.out; omega, rfl, by rw [HM.out]; rfl, by go_num, by trivial⟩
            case measure => simp only [intOf]; omega
          · have HM := Lib.hid (HS.out.trans (by rw [if_neg hc]))
            by_cases hc1 : x1 ≤ d
            · have hc2 : (d : Int) ≥ (x1 : Int) := by omega
              have hc3 : ¬ (d : Int) < (x1 : Int) + (P : Int) := by omega
              clear HS hc hc1
              go_wp2_with fail
              refine L.mono ?_
              rintro e w2 ⟨rfl, rfl⟩
              go_wp2_with fail
              go_roundw
              case rel => exact ⟨k + 1, by have := HKL.out; omega, rfl, by rw [HM.out]; rfl, by go_num, by trivial⟩
              case measure => simp only [intOf]; omega
            · have hc2 : ¬ (d : Int) ≥ (x1 : Int) := by omega
              clear HS hc hc1
              go_wp2_with fail
              refine L.mono ?_
              rintro e w2 ⟨rfl, rfl⟩
              go_wp2_with fail
              go_roundw
              case rel => exact ⟨k + 1, by have := HKL.out; omega, rfl, by rw [HM.out]; rfl, by go_num, by trivial⟩
              case measure => simp only [intOf]; omega
        · have hki : ¬ (k : Int) < 30 := by omega
          have HK30 : Hid (k = 30) := Lib.hid (by omega)
          obtain ⟨Z30, hZ30⟩ : ∃ Z, Z = metD d k := ⟨_, rfl⟩
          have HZ30 : Hid (Z30 = metD d 30) := Lib.hid (by rw [hZ30, HK30.out])
          rw [← hZ30]
          clear hlt hk hZ30
          have hD1 : Z30 = 1 := by
            have h30 : dbase 30 = 32769 := by decide +kernel
            rw [HZ30.out, metD_all d HDD.out.1 30 (Nat.le_refl _), if_pos (show d < dbase 30 by have := HDD.out; omega)]
          rcases metL_all n HN.out.1 HN.out.2 with hL1 | ⟨hn258, hL1⟩
          · have hL2 : Z29 = 1 := by rw [HZ29.out, hL1]
            subst hD1 hL2
            clear hm1 hm2 hm3 hm4 hw1 hw2 hw3 hw4 hw5 hw6 hu1 hu2
            go_wp2_with fail
            go_ret
            exact ⟨rfl, HB.out⟩
          · have hL2 : Z29 = 2 := by rw [HZ29.out, hL1]
            have hni : (n : Int) = 258 := by omega
            have hnb : ((n : Int) == 258) = true := by simp; omega
            subst hD1 hL2
            clear hm1 hm2 hm3 hm4 hw1 hw2 hw3 hw4 hw5 hw6 hu1 hu2 hn258
            go_wp2_with fail
            go_ret
            exact ⟨rfl, HB.out⟩
theorem inflateLimits_int (a b : Int) (ha : 0 ≤ a) (ha2 : a < 65536) (hb : 0 ≤ b) (hb2 : b < 65536) (w : World) (hT : TB w) : Calls Try.prog 6 #[.int .u16 a, .int .u16 b] w fun e w' => e = .returned (.bool true) ∧ Below w.heap.size w w' := by
  obtain ⟨x, rfl⟩ := Int.eq_ofNat_of_zero_le ha
  obtain ⟨y, rfl⟩ := Int.eq_ofNat_of_zero_le hb
  exact inflateLimits_any x y (by omega) (by omega) w hT
end Go.Proofs.Ytiphnnaanjjaoaa
