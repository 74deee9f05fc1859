/- put, Write, putEnd, Len. -/
import Derived.Test.YtmpklbjbdnocoaaSha6
namespace Go.Proofs.Ytmpklbjbdnocoaa
open Go.RowKit
def Hs.put1 (H : Hs) (b : BitVec 8) : Hs := { H with block := fun i => if i = H.size % 64 then b else H.block i, size := H.size + 1 }
def Hs.put (H : Hs) (b : BitVec 8) : Hs := if H.size % 64 = 63 then (H.put1 b).mix else H.put1 b
theorem Hs.f_byte (H : Hs) {j : Nat} (hj : j < 64) (b : BitVec 8) (i : Nat) :
    ({ H with block := fun i => if i = j then b else H.block i } : Hs).f i = if i = 80 + j then .int .u8 (iw b) else H.f i := by
  by_cases h1 : i < 8
  · simp [Hs.f, h1, show ¬ i = 80 + j by omega]
  · by_cases h2 : i < 72
    · simp [Hs.f, h1, h2, show ¬ i = 80 + j by omega]
    · by_cases h3 : i < 80
      · simp [Hs.f, h1, h2, h3, show ¬ i = 80 + j by omega]
      · by_cases h4 : i < 144
        · by_cases h5 : i = 80 + j
          · subst h5; simp [Hs.f, show ¬ 80 + j < 8 by omega, show ¬ 80 + j < 72 by omega, show 80 + j < 144 by omega]
          · simp [Hs.f, h1, h2, h3, h4, h5, show ¬ i - 80 = j by omega]
        · simp [Hs.f, h1, h2, h3, h4, show ¬ i = 80 + j by omega]
theorem Hs.f_len (H : Hs) (n i : Nat) : ({ H with size := n } : Hs).f i = if 144 ≤ i then .int .i64 n else H.f i := by
  by_cases h1 : i < 8
  · simp [Hs.f, h1, show ¬ 144 ≤ i by omega]
  · by_cases h2 : i < 72
    · simp [Hs.f, h1, h2, show ¬ 144 ≤ i by omega]
    · by_cases h3 : i < 80
      · simp [Hs.f, h1, h2, h3, show ¬ 144 ≤ i by omega]
      · by_cases h4 : i < 144
        · simp [Hs.f, h1, h2, h3, h4, show ¬ 144 ≤ i by omega]
        · simp [Hs.f, h1, h2, h3, h4, show 144 ≤ i by omega]
section
variable {g : Nat} {H : Hs} {w : World}
theorem HB.putByte (k : HB w g H) {j : Nat} (hj : j < 64) (b : BitVec 8) :
    HB (w.setCell ⟨g, 80 + j, none⟩ (.int .u8 (iw b))) g { H with block := fun i => if i = j then b else H.block i } :=
  (Blk.put k (i := 80 + j) (by omega) _).cast_ (row_ext fun i _ => (H.f_byte hj b i).symm)
theorem HB.putLen (k : HB w g H) (n : Nat) : HB (w.setCell ⟨g, 144, none⟩ (.int .i64 n)) g { H with size := n } :=
  (Blk.put k (i := 144) (by omega) _).cast_ (row_ext fun i hi => by
    rw [H.f_len n i]
    by_cases h : i = 144
    · subst h; simp
    · simp [h, show ¬ 144 ≤ i by omega])
theorem HB.put1 (k : HB w g H) (b : BitVec 8) :
    HB ((w.setCell ⟨g, 80 + H.size % 64, none⟩ (.int .u8 (iw b))).setCell ⟨g, 144, none⟩ (.int .i64 ((H.size + 1 : Nat) : Int))) g (H.put1 b) :=
  (k.putByte (Nat.mod_lt _ (by omega)) b).putLen (H.size + 1)
end
set_option maxRecDepth 100000 in
set_option maxHeartbeats 1000000 in
theorem put_any (g : Nat) (H : Hs) (b : BitVec 8) (w : World) (hg : g < w.heap.size) (hb : HB w g H) (hn : H.size < 4611686018427387904) :
    Calls Try.prog 20 #[.pointer (some ⟨g, 0, none⟩), .int .u8 (iw b)] w fun e w' => e = .returned (.tuple #[]) ∧ HB w' g (H.put b) ∧ Chg g w w' := by
  have cs := hb.sz
  have cd := hb.byte (i := H.size % 64) (j := 80 + H.size % 64) (Nat.mod_lt _ (by omega)) rfl
  have fd := hb.frozen (80 + H.size % 64)
  have h1 := hb.putByte (j := H.size % 64) (Nat.mod_lt _ (by omega)) b
  have cs1 := h1.sz
  have fs1 := h1.frozen 144
  have h2 := hb.put1 b
  have hc2 : Chg g w ((w.setCell ⟨g, 80 + H.size % 64, none⟩ (.int .u8 (iw b))).setCell ⟨g, 144, none⟩ (.int .i64 ((H.size + 1 : Nat) : Int))) := ((Chg.refl g w).setCell _ _).setCell _ _
  have e1 : ((H.size + 1 : Nat) : Int) = (H.size : Int) + 1 := by omega
  rw [e1] at h2 hc2
  have hg2 : g < ((w.setCell ⟨g, 80 + H.size % 64, none⟩ (.int .u8 (iw b))).setCell ⟨g, 144, none⟩ (.int .i64 ((H.size : Int) + 1))).heap.size := Nat.lt_of_lt_of_le hg hc2.size
  have hal : Try.prog.arrayLen 44 = 64 := by kernel_rfl
  clear hb h1 e1
  by_cases h63 : H.size % 64 = 63
  · have t63 : ((H.size : Int) % 64 == 63) = true := by rw [beq_iff_eq]; omega
    have HP : Hid (H.put b = (H.put1 b).mix) := by unfold Hs.put; rw [if_pos h63]; exact Lib.hid rfl
    clear h63
    go_enter Try.func20, Try.ntmps20
    go_wp2_with (go_at_call 29; refine (mix_any g (H.put1 b) _ hg2 h2).mono ?_; rintro e w' ⟨rfl, hm, hcm⟩)
    go_end0
    exact ⟨rfl, by rw [HP.out]; exact hm, hc2.trans hcm⟩
  · have t63 : ((H.size : Int) % 64 == 63) = false := by rw [beq_eq_false_iff_ne]; omega
    have HP : Hid (H.put b = H.put1 b) := by unfold Hs.put; rw [if_neg h63]; exact Lib.hid rfl
    clear h63
    go_enter Try.func20, Try.ntmps20
    go_wp2_with fail
    go_end0
    exact ⟨rfl, by rw [HP.out]; exact h2, hc2⟩
theorem put_nat (g : Nat) (H : Hs) (n : Nat) (w : World) (hg : g < w.heap.size) (hb : HB w g H) (hn : H.size < 4611686018427387904) (h8 : n < 256) :
    Calls Try.prog 20 #[.pointer (some ⟨g, 0, none⟩), .int .u8 (n : Int)] w fun e w' => e = .returned (.tuple #[]) ∧ HB w' g (H.put (BitVec.ofNat 8 n)) ∧ Chg g w w' := by
  have e : (n : Int) = iw (BitVec.ofNat 8 n) := by unfold iw; rw [BitVec.toNat_ofNat, Nat.mod_eq_of_lt (by omega)]
  rw [e]
  exact put_any g H _ w hg hb hn
def Hs.write (H : Hs) (l : List UInt8) : Hs := l.foldl (fun H c => H.put c.toBitVec) H
theorem Hs.size_put (H : Hs) (b : BitVec 8) : (H.put b).size = H.size + 1 := by
  unfold Hs.put; split <;> rfl
theorem Hs.size_write (l : List UInt8) : ∀ H : Hs, (H.write l).size = H.size + l.length := by
  induction l with
  | nil => intro H; rfl
  | cons c l ih => intro H; show ((H.put c.toBitVec).write l).size = _; rw [ih, Hs.size_put, List.length_cons]; omega
theorem Hs.write_append (H : Hs) (a b : List UInt8) : H.write (a ++ b) = (H.write a).write b := List.foldl_append
theorem take_snoc (s : ByteArray) (k : Nat) (h : k < s.size) : s.data.toList.take (k + 1) = s.data.toList.take k ++ [s[k]] := by
  rw [List.take_succ_eq_append_getElem (by simpa using h)]; rfl
theorem Hs.write_snoc (H : Hs) (s : ByteArray) (k : Nat) (h : k < s.size) : H.write (s.data.toList.take (k + 1)) = (H.write (s.data.toList.take k)).put (BitVec.ofNat 8 s[k].toNat) := by
  rw [take_snoc s k h, Hs.write_append]
  show (H.write (s.data.toList.take k)).put s[k].toBitVec = _
  congr 1
  exact BitVec.eq_of_toNat_eq (by rw [BitVec.toNat_ofNat]; exact (Nat.mod_eq_of_lt s[k].toNat_lt).symm)
theorem size_take (s : ByteArray) (k : Nat) (h : k ≤ s.size) : (s.data.toList.take k).length = k := by
  rw [List.length_take, Nat.min_eq_left (by simpa using h)]
set_option maxRecDepth 100000 in
set_option maxHeartbeats 1000000 in
theorem write_any (g : Nat) (H : Hs) (s : ByteArray) (w : World) (hg : g < w.heap.size) (hb : HB w g H) (hn : H.size + s.size < 4611686018427387904) :
    Calls Try.prog 12 #[.pointer (some ⟨g, 0, none⟩), .string s] w fun e w' => e = .returned (.tuple #[]) ∧ HB w' g (H.write s.data.toList) ∧ Chg g w w' := by
  go_enter Try.func12, Try.ntmps12
  go_wp2_with fail
  go_loopw [7] (fun i wr => ∃ k : Nat, k ≤ s.size ∧ i = .int .i64 k ∧ HB wr g (H.write (s.data.toList.take k)) ∧ Chg g w wr) (fun i _ => s.size - (intOf i).toNat)
  case atStart => exact ⟨0, by omega, rfl, hb, Chg.refl g w⟩
  case round =>
    obtain ⟨k, hk, rfl, hh, hc⟩ := hrel
    by_cases hlt : k < s.size
    · have hs : (H.write (s.data.toList.take k)).size < 4611686018427387904 := by rw [Hs.size_write, size_take s k hk]; omega
      have HP := Lib.hid (H.write_snoc s k hlt)
      have hgr : g < wr.heap.size := Nat.lt_of_lt_of_le hg hc.size
      have h8 : s[k].toNat < 256 := s[k].toNat_lt
      go_wp2_with (go_at_call 20; refine (put_nat g _ _ _ hgr hh hs h8).mono ?_; rintro e w' ⟨rfl, hm, hcm⟩)
      go_roundw
      case rel => exact ⟨k + 1, by omega, by go_num, by rw [HP.out]; exact hm, hc.trans hcm⟩
      case measure => simp [intOf]; omega
    · obtain rfl : k = s.size := by omega
      clear hlt
      go_wp2_with fail
      go_end0
      exact ⟨rfl, by rw [List.take_of_length_le (by simp)] at hh; exact hh, hc⟩
set_option maxRecDepth 100000 in
set_option maxHeartbeats 1000000 in
theorem len_any (g : Nat) (H : Hs) (w : World) (hb : HB w g H) :
    Calls Try.prog 14 #[.pointer (some ⟨g, 0, none⟩)] w fun e w' => e = .returned (.int .i64 H.size) ∧ w = w' := by
  have cs := hb.sz
  go_enter Try.func14, Try.ntmps14
  go_wp2
  go_ret
  exact ⟨rfl, rfl⟩
end Go.Proofs.Ytmpklbjbdnocoaa
