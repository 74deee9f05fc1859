/- The reference's digits, Encode of chapter 7. -/
import Derived.Test.YtbipbkancghkfaaDoorUa
import Derived.Test.YtbipbkancghkfaaDoorOb
import Derived.Test.YtbipbkancghkfaaDoorMin
import Derived.IntWalk
import Derived.Lib.Hide
namespace Go.Proofs.YtbipbkancghkfaaDoor
open Go.RowKit
def digT : ByteArray := ⟨#[65, 66, 67, 68, 69, 70, 71, 72, 73, 74, 75, 76, 77, 78, 79, 80, 81, 82, 83, 84, 85, 86, 87, 88, 89, 90, 97, 98, 99, 100, 101, 102, 103, 104, 105, 106, 107, 108, 109, 110, 111, 112, 113, 114, 115, 116, 117, 118, 119, 120, 121, 122, 48, 49, 50, 51, 52, 53, 54, 55, 56, 57, 43, 47]⟩
theorem digT_size : digT.size = 64 := rfl
theorem digT_at' : ∀ i : Fin 64, byteS digT i.val = d64 i.val := by decide +kernel
theorem digT_at (i : Nat) (h : i < 64) : byteS digT i = d64 i := digT_at' ⟨i, h⟩
theorem rdigits_any (w : World) :
    Calls Tryd.prog 26 #[] w fun e w' => e = .returned (.string digT) ∧ Below w.heap.size w w' := by
  go_enter Tryd.func26, Tryd.ntmps26
  go_wp2_with fail
  go_ret
  exact ⟨rfl, Below.refl _ _⟩
/-- k bytes' number. -/
def pt3 (s : ByteArray) (g : Nat) : Nat → Nat
  | 0 => 0
  | k + 1 => pt3 s g k * 256 + byteS s (3 * g + k)
theorem pt3_three (s : ByteArray) (g : Nat) : pt3 s g 3 = tri3 s g := by
  show ((0 * 256 + byteS s (3 * g + 0)) * 256 + byteS s (3 * g + 1)) * 256 + byteS s (3 * g + 2) = _
  unfold tri3
  rw [Nat.add_zero]; omega
theorem pt3_lt (s : ByteArray) (g : Nat) : ∀ k, k ≤ 3 → pt3 s g k < 16777216
  | 0, _ => by show 0 < _; omega
  | 1, _ => by have := byteS_lt s (3 * g + 0); simp only [pt3]; omega
  | 2, _ => by have := byteS_lt s (3 * g + 0); have := byteS_lt s (3 * g + 1); simp only [pt3]; omega
  | 3, _ => by rw [pt3_three]; unfold tri3; have := byteS_lt s (3 * g); have := byteS_lt s (3 * g + 1); have := byteS_lt s (3 * g + 2); omega
set_option maxRecDepth 100000 in
set_option maxHeartbeats 2000000 in
theorem renc7_any (s : ByteArray) (w : World) (hs : s.size ≤ 100000000000) :
    Calls Tryd.prog 15 #[.string s] w fun e w' => e = .returned (.string (e64 s)) ∧ Below w.heap.size w w' := by
  go_enter Tryd.func15, Tryd.ntmps15
  go_wp2_with fail
  refine (rdigits_any _).mono ?_
  rintro e w1 ⟨rfl, b1⟩
  have hDs := digT_size
  have HD := Lib.hid digT_at
  generalize digT = D at *
  go_wp2_with fail
  go_loopw [4, 5, 6, 7, 8, 9, 10] (fun v i _ _ _ _ _ wr => ∃ g : Nat, g ≤ (s.size + 2) / 3 ∧ i = .int .i64 ((3 * g : Nat) : Int) ∧ OB w.heap.size w (4 * g) (e64B s) v wr) (fun _ i _ _ _ _ _ _ => s.size + 3 - (intOf i).toNat)
  case atStart => exact ⟨0, by omega, rfl, OB.nil b1 b1.size _⟩
  case round =>
    obtain ⟨g, hg, rfl, hr⟩ := hrel
    clear b1
    obtain ⟨i, hid⟩ : ∃ i, i = 3 * g := ⟨_, rfl⟩
    have HI := Lib.hid hid
    rw [← hid]
    by_cases hlt : i < s.size
    · clear hid
      have hlti : (i : Int) < s.size := by omega
      go_wp2_with fail
      go_loopw [6, 7] (fun n k wr2 => ∃ j : Nat, j ≤ 3 ∧ k = .int .i64 (j : Int) ∧ n = .int .i64 (pt3 s g j : Int) ∧ wr2 = wr) (fun _ k _ => 3 - (intOf k).toNat)
      case atStart => exact ⟨0, by omega, rfl, rfl, rfl⟩
      case round =>
        obtain ⟨j, hj, rfl, rfl, rfl⟩ := hrel
        by_cases hjl : j < 3
        · obtain ⟨m, hm⟩ : ∃ m, m = i + j := ⟨_, rfl⟩
          have hij : (i : Int) + j = (m : Int) := by omega
          have hp := pt3_lt s g j hj
          have HP : Hid (pt3 s g (j + 1) = pt3 s g j * 256 + byteS s m) := Lib.hid (by rw [hm, HI.out]; rfl)
          have hwm : IntKind.i64.wrap (m : Int) = (m : Int) := IntWalk.i64_in _ (by omega)
          generalize pt3 s g j = p at hp HP ⊢
          have hwp : IntKind.i64.wrap ((p : Int) * 256) = (p : Int) * 256 := IntWalk.i64_in _ (by omega)
          by_cases hms : m < s.size
          · have hmi : (m : Int) < s.size := by omega
            have hb := byteS_lt s m
            have HB : Hid (pt3 s g (j + 1) = p * 256 + (s[m]).toNat) := Lib.hid (by rw [HP.out, byteS_at s m hms])
            have hb2 : (s[m]).toNat < 256 := by rw [byteS_at s m hms]; exact hb
            clear HP hm
            go_wp2_with fail
            go_roundw
            case rel => exact ⟨j + 1, by omega, by go_num, by rw [HB.out]; go_num, trivial⟩
            case measure => simp [intOf]; omega
          · have hmi : ¬ (m : Int) < s.size := by omega
            have HB : Hid (pt3 s g (j + 1) = p * 256) := Lib.hid (by rw [HP.out, byteS_out s m hms]; rfl)
            clear HP hm
            go_wp2_with fail
            go_roundw
            case rel => exact ⟨j + 1, by omega, by go_num, by rw [HB.out]; go_num, trivial⟩
            case measure => simp [intOf]; omega
        · obtain rfl : j = 3 := by omega
          have hp := pt3_lt s g 3 (Nat.le_refl _)
          rw [pt3_three] at hp ⊢
          obtain ⟨q, hq⟩ : ∃ q, q = s.size - i := ⟨_, rfl⟩
          have hqi : (s.size : Int) - i = (q : Int) := by omega
          obtain ⟨M, hM⟩ : ∃ M, M = min q 3 := ⟨_, rfl⟩
          have HM := Lib.hid hM
          have hM3 : M ≤ 3 := by omega
          have HE : Hid (∀ j, j < 4 → e64B s (4 * g + j) = if j < M + 1 then d64 (six (tri3 s g) j) else 61) := Lib.hid (fun j hj => by
            unfold e64B
            rw [show (4 * g + j) % 4 = j by omega, show (4 * g + j) / 4 = g by omega, hM, hq, HI.out])
          generalize tri3 s g = N at hp HE ⊢
          clear hM hq
          go_wp2_with (refine wpList_valK (R := fun w' => w' = _) (.int .i64 (M : Int)) rfl (by rw [HM.out]; exact lands_min (.tmp 41) q 3 rfl rfl rfl) ?_; intro w' hw'; rw [hw']; clear hw')
          go_loopw [4, 9, 10] (fun v k _ wr2 => ∃ j : Nat, j ≤ 4 ∧ k = .int .i64 (j : Int) ∧ OB w.heap.size w (4 * g + j) (e64B s) v wr2) (fun _ k _ _ => 4 - (intOf k).toNat)
          case atStart => exact ⟨0, by omega, rfl, hr⟩
          case round =>
            obtain ⟨j, hj, rfl, hr2⟩ := hrel
            clear hr
            by_cases hjl : j < 4
            · have hji : (j : Int) < 4 := by omega
              have hw1 : IntKind.i64.wrap (6 * (j : Int)) = 6 * (j : Int) := IntWalk.i64_in _ (by omega)
              have hw2 : IntKind.i64.wrap (18 - 6 * (j : Int)) = ((18 - 6 * j : Nat) : Int) := by rw [IntWalk.i64_in _ (by omega)]; omega
              obtain ⟨y, hy⟩ : ∃ y, y = N / 2 ^ (18 - 6 * j) := ⟨_, rfl⟩
              have hsh : (N : Int) / 2 ^ (18 - 6 * j) = (y : Int) := by rw [hy, Int.natCast_ediv, Int.natCast_pow]; rfl
              obtain ⟨z, hz⟩ : ∃ z, z = y % 64 := ⟨_, rfl⟩
              have hand : bits .and .i64 (y : Int) 63 = (z : Int) := by rw [i64_and63]; omega
              have hzD : z < D.size := by omega
              have hzi : (z : Int) < 64 := by omega
              have HZ : Hid ((D[z]).toNat = d64 (six N j)) := Lib.hid (by rw [byteS_at D z hzD, HD.out z (by omega), hz, hy]; rfl)
              clear hy hz
              by_cases hjM : j < M + 1
              · have hjMi : ¬ (j : Int) ≥ (M : Int) + 1 := by omega
                have HF : Hid ((e64B s (4 * g + j) : Int) = ((D[z]).toNat : Int)) := Lib.hid (by rw [HE.out j hjl, if_pos hjM, HZ.out])
                go_wp2_with (at_builtin; refine wpList_push rfl (.tmp 59) (.tmp 61) rfl rfl hr2 (by omega) rfl _ HF.out ?_; intro v' w2 hr3)
                go_roundw
                case rel => exact ⟨j + 1, by omega, by go_num, hr3.cast (by omega)⟩
                case measure => simp [intOf]; omega
              · have hjMi : (j : Int) ≥ (M : Int) + 1 := by omega
                have HF : Hid ((e64B s (4 * g + j) : Int) = 61) := Lib.hid (by rw [HE.out j hjl, if_neg hjM]; rfl)
                go_wp2_with (at_builtin; refine wpList_push rfl (.tmp 59) (.tmp 61) rfl rfl hr2 (by omega) rfl _ HF.out ?_; intro v' w2 hr3)
                go_roundw
                case rel => exact ⟨j + 1, by omega, by go_num, hr3.cast (by omega)⟩
                case measure => simp [intOf]; omega
            · obtain rfl : j = 4 := by omega
              have HG : Hid (((3 * (g + 1) : Nat) : Int) = (i : Int) + 3) := Lib.hid (by have := HI.out; omega)
              have hg2 : g + 1 ≤ (s.size + 2) / 3 := by have := HI.out; omega
              go_wp2_with fail
              go_roundw
              case rel => exact ⟨g + 1, hg2, by rw [HG.out], hr2.cast (by omega)⟩
              case measure => simp [intOf]; omega
    · have hgG : g = (s.size + 2) / 3 := by omega
      have hlti : ¬ (i : Int) < s.size := by omega
      have hcv := hr.text (fun j => e64B_lt s j)
      have hb := hr.b
      have HO : Hid (textN (4 * g) (e64B s) = e64 s) := Lib.hid (by unfold e64; rw [hgG, Nat.mul_comm])
      generalize textN (4 * g) (e64B s) = t at hcv HO
      clear hr hid hgG
      go_wp2_with fail
      go_ret
      exact ⟨by rw [← HO.out]; rfl, hb⟩
end Go.Proofs.YtbipbkancghkfaaDoor
