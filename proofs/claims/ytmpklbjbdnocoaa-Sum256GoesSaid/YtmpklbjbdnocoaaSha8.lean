/- putEnd, Sum. -/
import Derived.Test.YtmpklbjbdnocoaaSha7
import Derived.Deep.LoopGhost
namespace Go.Proofs.Ytmpklbjbdnocoaa
open Go.RowKit
theorem put_int (g : Nat) (H : Hs) (v : Int) (w : World) (hg : g < w.heap.size) (hb : HB w g H) (hn : H.size < 4611686018427387904) (h0 : 0 ≤ v) (h8 : v < 256) :
    Calls Try.prog 20 #[.pointer (some ⟨g, 0, none⟩), .int .u8 v] w fun e w' => e = .returned (.tuple #[]) ∧ HB w' g (H.put (BitVec.ofNat 8 v.toNat)) ∧ Chg g w w' := by
  obtain ⟨n, rfl⟩ := Int.eq_ofNat_of_zero_le h0
  exact put_nat g H n w hg hb hn (by omega)
def zeros (n : Nat) : Nat := (119 - n % 64) % 64
def lenByte (n i : Nat) : UInt8 := UInt8.ofNat (n * 8 / 2 ^ (56 - 8 * i))
def lenBytes (n : Nat) : Nat → List UInt8
  | 0 => []
  | i + 1 => lenBytes n i ++ [lenByte n i]
def padding (n : Nat) : List UInt8 := 128 :: (List.replicate (zeros n) 0 ++ lenBytes n 8)
def Hs.ended (H : Hs) : Hs := H.write (padding H.size)
theorem Hs.write_zero (H : Hs) (j : Nat) : H.write (List.replicate (j + 1) 0) = (H.write (List.replicate j 0)).put (BitVec.ofNat 8 (Int.toNat 0)) := by
  rw [List.replicate_succ', Hs.write_append]; rfl
theorem Hs.write_len (H : Hs) (n i : Nat) : H.write (lenBytes n (i + 1)) = (H.write (lenBytes n i)).put (BitVec.ofNat 8 (lenByte n i).toNat) := by
  show H.write (lenBytes n i ++ [lenByte n i]) = _
  rw [Hs.write_append]
  show (H.write (lenBytes n i)).put (lenByte n i).toBitVec = _
  congr 1
  exact BitVec.eq_of_toNat_eq (by rw [BitVec.toNat_ofNat]; exact (Nat.mod_eq_of_lt (lenByte n i).toNat_lt).symm)
theorem lenBytes_length (n : Nat) : ∀ i, (lenBytes n i).length = i
  | 0 => rfl
  | i + 1 => by simp [lenBytes, lenBytes_length n i]
theorem lenByte_val (n k : Nat) : IntKind.u8.wrap ((n : Int) * 8 / 2 ^ (56 - 8 * k)) = ((lenByte n k).toNat : Int) := by
  unfold lenByte
  rw [IntKind.wrap_u8', UInt8.toNat_ofNat', Int.natCast_emod, Int.natCast_ediv, Int.natCast_mul, Int.natCast_pow]; rfl
set_option maxRecDepth 100000 in
set_option maxHeartbeats 1000000 in
theorem putEnd_any (g : Nat) (H : Hs) (w : World) (hg : g < w.heap.size) (hb : HB w g H) (hn : H.size < 576460752303423488) :
    Calls Try.prog 21 #[.pointer (some ⟨g, 0, none⟩)] w fun e w' => e = .returned (.tuple #[]) ∧ HB w' g H.ended ∧ Chg g w w' := by
  have cs := hb.sz
  go_enter Try.func21, Try.ntmps21
  go_wp2_with (go_at_call 20; refine (put_int g H _ _ hg hb (by omega) (by omega) (by omega)).mono ?_; rintro e w1 ⟨rfl, hm, hcm⟩)
  have hg1 : g < w1.heap.size := Nat.lt_of_lt_of_le hg hcm.size
  have hs1 : (H.put (BitVec.ofNat 8 (Int.toNat 128))).size = H.size + 1 := Hs.size_put _ _
  have HE : Hid (H.ended = ((H.put (BitVec.ofNat 8 (Int.toNat 128))).write (List.replicate (zeros H.size) 0)).write (lenBytes H.size 8)) := by
    refine Lib.hid ?_
    rw [← Hs.write_append]; rfl
  generalize H.put (BitVec.ofNat 8 (Int.toNat 128)) = H1 at hm hs1 HE ⊢
  clear hb cs
  generalize H.size = n at hs1 hn HE ⊢
  go_loopg [] (zeros n) (fun gk wr => ∃ j : Nat, gk = zeros n - j ∧ j ≤ zeros n ∧ HB wr g (H1.write (List.replicate j 0)) ∧ Chg g w wr)
  case atStart => exact ⟨0, rfl, Nat.zero_le _, hm, hcm⟩
  case round =>
    obtain ⟨j, hgk, hj, hh, hc⟩ := hrel
    have hN := Hs.size_write (List.replicate j 0) H1
    rw [List.length_replicate, hs1] at hN
    have cs := hh.sz
    generalize (H1.write (List.replicate j 0)).size = N at hN cs
    have HN := Lib.hid hN
    have HG := Lib.hid hgk
    have HS := Lib.hid hs1
    clear hN hgk hs1
    by_cases hlt : j < zeros n
    · have t1 : ((N : Int) % 64 != 56) = true := by
        have := HN.out; unfold zeros at hlt; rw [bne_iff_ne]; omega
      have hsz : (H1.write (List.replicate j 0)).size < 4611686018427387904 := by
        rw [Hs.size_write, List.length_replicate, HS.out]; unfold zeros at hlt; omega
      have hgr : g < wr.heap.size := Nat.lt_of_lt_of_le hg hc.size
      have HW := Lib.hid (Hs.write_zero H1 j)
      clear hm
      go_wp2_with (go_at_call 20; refine (put_int g _ _ _ hgr hh hsz (by omega) (by omega)).mono ?_; rintro e w2 ⟨rfl, hm, hcm2⟩)
      go_roundg (zeros n - (j + 1))
      case measure => rw [HG.out]; omega
      case rel => exact ⟨j + 1, rfl, by omega, by rw [HW.out]; exact hm, hc.trans hcm2⟩
    · obtain rfl : j = zeros n := by omega
      have t1 : ((N : Int) % 64 != 56) = false := by
        have := HN.out; unfold zeros at this; rw [bne_eq_false_iff_eq]; omega
      clear hlt
      have hsz : (H1.write (List.replicate (zeros n) 0)).size < 576460752303423488 + 128 := by
        rw [Hs.size_write, List.length_replicate, HS.out]; unfold zeros; omega
      generalize H1.write (List.replicate (zeros n) 0) = H2 at hh hsz HE
      clear hm
      go_wp2_with fail
      obtain ⟨wo, rfl⟩ : ∃ wo : World, wo = wr := ⟨_, rfl⟩
      go_loopw [20] (fun i wr => ∃ k : Nat, k ≤ 8 ∧ i = .int .i64 k ∧ HB wr g (H2.write (lenBytes n k)) ∧ Chg g w wr) (fun i _ => 8 - (intOf i).toNat)
      case atStart => exact ⟨0, by omega, rfl, hh, hc⟩
      case round =>
        obtain ⟨k, hk, rfl, hh3, hc3⟩ := hrel
        by_cases hlt : k < 8
        · have hsz3 : (H2.write (lenBytes n k)).size < 4611686018427387904 := by
            rw [Hs.size_write, lenBytes_length]; omega
          have hgr : g < wr.heap.size := Nat.lt_of_lt_of_le hg hc3.size
          have HW := Lib.hid (Hs.write_len H2 n k)
          have hv := lenByte_val n k
          have h8 : (lenByte n k).toNat < 256 := (lenByte n k).toNat_lt
          clear hh hc
          go_wp2_with (go_at_call 20; refine (put_nat g _ _ _ hgr hh3 hsz3 h8).mono ?_; rintro e w2 ⟨rfl, hm, hcm2⟩)
          go_roundw
          case rel => exact ⟨k + 1, by omega, by go_num, by rw [HW.out]; exact hm, hc3.trans hcm2⟩
          case measure => simp [intOf]; omega
        · obtain rfl : k = 8 := by omega
          clear hlt hk
          go_wp2_with fail
          go_end0
          exact ⟨rfl, by rw [HE.out]; exact hh3, hc3⟩
end Go.Proofs.Ytmpklbjbdnocoaa
