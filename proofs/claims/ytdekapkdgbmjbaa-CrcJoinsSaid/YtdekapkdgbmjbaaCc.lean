/- The reference's More and Sum of chapter 8. -/
import Derived.Test.YtdekapkdgbmjbaaCa
import Derived.IntWalk
namespace Go.Proofs.Ytdekapkdgbmjbaa
open Go.RowKit
set_option maxRecDepth 100000 in
set_option maxHeartbeats 2000000 in
theorem rmore8_any (a : BitVec 32) (s : ByteArray) (w : World) (hs : s.size ≤ 140737488351232) :
    Calls Try.prog 12 #[.int .u32 (iw a), .string s] w fun e w' => e = .returned (.int .u32 (iw (moreT a s))) ∧ w' = w := by
  have hnot : bits .xor .u32 4294967295 (iw a) = iw (notw a) := not32 a
  go_enter Try.func12, Try.ntmps12
  go_wp2_with fail
  go_loopw [5, 6] (fun c i wr => ∃ k : Nat, k ≤ s.size ∧ i = .int .i64 k ∧ c = .int .u32 (iw (cR (byteW s) (notw a) k)) ∧ w = wr) (fun _ i _ => s.size - (intOf i).toNat)
  case atStart => exact ⟨0, by omega, rfl, rfl, rfl⟩
  case round =>
    obtain ⟨k, hk, rfl, rfl, rfl⟩ := hrel
    by_cases hlt : k < s.size
    · have e8 := byteS_at s k hlt
      have h8 : s[k].toNat < 256 := s[k].toNat_lt
      have hx : ((s[k].toNat : Nat) : Int) = iw (byteW s k) := by
        unfold byteW iw litw
        rw [BitVec.toNat_ofNat, e8, Nat.mod_eq_of_lt (by omega)]
      have HC : Hid (cR (byteW s) (notw a) (k + 1) = cN 8 (xorw (cR (byteW s) (notw a) k) (byteW s k))) := Lib.hid rfl
      generalize cR (byteW s) (notw a) k = c at *
      have hx2 : IntKind.u32.wrap ((s[k].toNat : Nat) : Int) = iw (byteW s k) := by rw [← hx, IntKind.wrap_u32']; omega
      generalize byteW s k = y at *
      clear hx e8 h8
      go_wp2_with fail
      generalize xorw c y = x at *
      go_loopw [5, 7] (fun c j wr => ∃ m : Nat, m ≤ 8 ∧ j = .int .i64 m ∧ c = .int .u32 (iw (cN m x)) ∧ w = wr) (fun _ j _ => 8 - (intOf j).toNat)
      case atStart => exact ⟨0, by omega, rfl, rfl, rfl⟩
      case round =>
        obtain ⟨m, hm, rfl, rfl, rfl⟩ := hrel
        by_cases hm8 : m < 8
        · have hm8i : (m : Int) < 8 := by omega
          have HS : Hid (cN (m + 1) x = cS (cN m x)) := Lib.hid rfl
          generalize cN m x = z at *
          by_cases ho : z.toNat % 2 = 1
          · have hot : (iw z).tmod 2 = 1 := by rw [Int.tmod_eq_emod_of_nonneg (iw_lo _)]; unfold iw; omega
            have hcs : cS z = xorw (shrw z 1) crcP := if_pos ho
            have hP : bits .xor .u32 (iw (shrw z 1)) 3988292384 = iw (xorw (shrw z 1) crcP) := xor32_lit _ _
            go_wp2_with fail
            go_roundw
            case rel => exact ⟨m + 1, by omega, by go_num, by rw [HS.out, hcs], by trivial⟩
            case measure => simp [intOf]; omega
          · have hot : (iw z).tmod 2 = 0 := by rw [Int.tmod_eq_emod_of_nonneg (iw_lo _)]; unfold iw; omega
            have hcs : cS z = shrw z 1 := if_neg ho
            go_wp2_with fail
            go_roundw
            case rel => exact ⟨m + 1, by omega, by go_num, by rw [HS.out, hcs], by trivial⟩
            case measure => simp [intOf]; omega
        · obtain rfl : m = 8 := by omega
          go_wp2_with fail
          go_roundw
          case rel => exact ⟨k + 1, by omega, by go_num, by rw [HC.out], by trivial⟩
          case measure => simp [intOf]; omega
    · obtain rfl : k = s.size := by omega
      have HM : Hid (moreT a s = notw (cR (byteW s) (notw a) s.size)) := Lib.hid rfl
      generalize cR (byteW s) (notw a) s.size = c at *
      have hnot2 : bits .xor .u32 4294967295 (iw c) = iw (notw c) := not32 c
      go_wp2_with fail
      go_ret
      exact ⟨by rw [HM.out]; rfl, rfl⟩
theorem rsum8_any (s : ByteArray) (w : World) (hs : s.size ≤ 140737488351232) :
    Calls Try.prog 10 #[.string s] w fun e w' => e = .returned (.int .u32 (iw (moreT 0#32 s))) ∧ w' = w := by
  go_enter Try.func10, Try.ntmps10
  have hc := rmore8_any 0#32 s w hs
  have h0 : iw (0#32) = 0 := by unfold iw; rfl
  rw [h0] at hc
  go_wp2_with fail
  refine hc.mono ?_
  rintro e w' ⟨rfl, rfl⟩
  go_wp2_with fail
  go_ret
  exact ⟨rfl, rfl⟩
end Go.Proofs.Ytdekapkdgbmjbaa
