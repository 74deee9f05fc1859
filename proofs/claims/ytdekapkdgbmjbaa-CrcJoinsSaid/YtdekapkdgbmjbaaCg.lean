/- Layer 8: the developers' functions: the table of a byte's sums, in a closure; More, Sum, Join. -/
import Derived.Test.YtdekapkdgbmjbaaCf
import Derived.IntWalk
namespace Go.Proofs.Ytdekapkdgbmjbaa
open Go.RowKit
attribute [local go_sem] Oper.semAt_some
def sumsC (k i : Nat) : BitVec 32 := if i < k then cN 8 (litw 32 i) else litw 32 0
theorem zeroSums (w : World) : (zeroValue 40).run Try.prog w = .ok (.agg (r32 256 fun _ => litw 32 0)) w := by kernel_rfl
theorem sums_none : r32 256 (fun _ => litw 32 0) = r32 256 (sumsC 0) := row_ext fun i _ => by unfold sumsC; rw [if_neg (by omega)]
theorem sums_put (k j : Nat) : (if j = k then Value.int .u32 (iw (cN 8 (litw 32 k))) else Value.int .u32 (iw (sumsC k j))) = Value.int .u32 (iw (sumsC (k + 1) j)) := by
  unfold sumsC
  by_cases h : j = k
  · subst h; rw [if_pos rfl, if_pos (by omega)]
  · rw [if_neg h]
    by_cases h2 : j < k
    · rw [if_pos h2, if_pos (by omega)]
    · rw [if_neg h2, if_neg (by omega)]
structure TB (m : Nat) (w wr : World) : Prop where
  t : Blk wr w.heap.size 40 (r32 256 (sumsC m))
  b : Below w.heap.size w wr
set_option maxRecDepth 100000 in
theorem overBytes_any (w : World) :
    Calls Try.prog 15 #[] w fun e w' => e = .returned (.func (.func 19) #[] #[.pointer (some ⟨w.heap.size, 0, none⟩)]) ∧ TB 256 w w' := by
  have hz := zeroSums w
  go_enter Try.func15, Try.ntmps15
  go_wp2_with fail
  clear hz
  go_loopw [3] (fun j wr => ∃ m : Nat, m ≤ 256 ∧ j = .int .i64 m ∧ TB m w wr) (fun j _ => 256 - (intOf j).toNat)
  case atStart => exact ⟨0, by omega, rfl, (Blk.new _ _ _).cast_ sums_none, (Below.refl _ _).alloc (by omega) _⟩
  case round =>
    obtain ⟨m, hm, rfl, ht⟩ := hrel
    by_cases hlt : m < 256
    · have hlti : (m : Int) < 256 := by omega
      have hal : Try.prog.arrayLen 40 = 256 := by kernel_rfl
      have hc := ht.t.at_ (i := m) hlt
      have hf := ht.t.frozen m
      have hu : (m : Int) = iw (litw 32 m) := by rw [iw_lit]; omega
      have K : TB (m + 1) w (wr.setCell ⟨w.heap.size, m, none⟩ (.int .u32 (iw (cN 8 (litw 32 m))))) := ⟨(ht.t.put hlt _).cast_ (row_ext fun i _ => sums_put m i), ht.b.setCell (by simp) _⟩
      have C := overByte_any (litw 32 m)
      rw [← hu] at C
      clear hu
      go_wp2_with fail
      refine (C _).mono ?_
      rintro e w1 ⟨rfl, rfl⟩
      generalize cN 8 (litw 32 m) = v at *
      go_wp2_with fail
      go_roundw
      case rel => exact ⟨m + 1, by omega, by go_num, K⟩
      case measure => simp [intOf]; omega
    · obtain rfl : m = 256 := by omega
      go_wp2_with fail
      go_ret
      exact ⟨rfl, ht⟩
theorem cN_low (x : BitVec 32) (k : Nat) (h : x.toNat % 2 ^ k = 0) : cN k x = shrw x k := by
  induction k with
  | zero => show x = _; apply BitVec.eq_of_toNat_eq; unfold shrw; simp
  | succ k ih =>
    have h0 : x.toNat % 2 ^ k = 0 := by
      have := Nat.mod_mod_of_dvd x.toNat (show 2 ^ k ∣ 2 ^ (k + 1) from ⟨2, by rw [Nat.pow_succ]⟩)
      rw [h] at this; simpa using this.symm
    show cS (cN k x) = _
    rw [ih h0]
    have hs : (shrw x k).toNat = x.toNat / 2 ^ k := by unfold shrw; rw [BitVec.toNat_ushiftRight, Nat.shiftRight_eq_div_pow]
    have h2 : (shrw x k).toNat % 2 = 0 := by
      rw [hs]
      obtain ⟨q, hq⟩ := Nat.dvd_of_mod_eq_zero h
      rw [hq, Nat.pow_succ, Nat.mul_assoc, Nat.mul_div_cancel_left _ (Nat.two_pow_pos k)]
      omega
    unfold cS
    rw [if_neg (by omega)]
    apply BitVec.eq_of_toNat_eq
    unfold shrw
    simp only [BitVec.toNat_ushiftRight, Nat.shiftRight_eq_div_pow]
    rw [Nat.div_div_eq_div_mul, ← Nat.pow_succ]
theorem lo_hi (c : BitVec 32) : xorw (shlw (shrw c 8) 8) (BitVec.setWidth 32 (BitVec.setWidth 8 c)) = c := by
  apply BitVec.eq_of_getLsbD_eq
  intro j hj
  unfold xorw shlw shrw
  rw [BitVec.getLsbD_xor, BitVec.getLsbD_shiftLeft, BitVec.getLsbD_setWidth, BitVec.getLsbD_setWidth, BitVec.getLsbD_ushiftRight]
  by_cases h : j < 8
  · simp [h, hj]
  · simp [h, hj, show 8 + (j - 8) = j by omega]
/-- A byte further, by the table. -/
theorem cN_table (c : BitVec 32) (b : BitVec 8) : cN 8 (xorw c (BitVec.setWidth 32 b)) = xorw (shrw c 8) (cN 8 (BitVec.setWidth 32 (xorw (BitVec.setWidth 8 c) b))) := by
  have e : xorw c (BitVec.setWidth 32 b) = xorw (shlw (shrw c 8) 8) (BitVec.setWidth 32 (xorw (BitVec.setWidth 8 c) b)) := by
    rw [show BitVec.setWidth 32 (xorw (BitVec.setWidth 8 c) b) = xorw (BitVec.setWidth 32 (BitVec.setWidth 8 c)) (BitVec.setWidth 32 b) by unfold xorw; exact BitVec.setWidth_xor .., ← xorw_assoc, lo_hi]
  rw [e, cN_xor]
  congr 1
  have h := c.isLt
  have hn : (shlw (shrw c 8) 8).toNat = c.toNat / 256 * 256 := by
    unfold shlw shrw
    rw [BitVec.toNat_shiftLeft, BitVec.toNat_ushiftRight, Nat.shiftLeft_eq, Nat.shiftRight_eq_div_pow]
    omega
  rw [cN_low _ 8 (by rw [hn]; omega)]
  apply BitVec.eq_of_toNat_eq
  unfold shrw at hn ⊢
  rw [BitVec.toNat_ushiftRight, hn, BitVec.toNat_ushiftRight, Nat.shiftRight_eq_div_pow, Nat.shiftRight_eq_div_pow]
  omega
set_option maxRecDepth 100000 in
theorem moved_any (g : Nat) (c : BitVec 32) (b : Nat) (hb8 : b < 256) (y : BitVec 32) (hy : y = litw 32 b) (w : World) (hb : Blk w g 40 (r32 256 (sumsC 256))) :
    Calls Try.prog 19 #[.int .u32 (iw c), .int .u8 (b : Int), .pointer (some ⟨g, 0, none⟩)] w fun e w' => e = .returned (.int .u32 (iw (cN 8 (xorw c y)))) ∧ w' = w := by
  have hy2 : y = BitVec.setWidth 32 (litw 8 b) := by
    subst hy
    apply BitVec.eq_of_toNat_eq
    unfold litw
    rw [BitVec.toNat_setWidth, BitVec.toNat_ofNat, BitVec.toNat_ofNat]; omega
  have hbi : (b : Int) = iw (litw 8 b) := by rw [iw_lit]; omega
  rw [hy2, cN_table, hbi]
  have hc8 : castw 8 c = BitVec.setWidth 8 c := by apply BitVec.eq_of_toNat_eq; unfold castw; rw [BitVec.toNat_ofNat, BitVec.toNat_setWidth]
  rw [← hc8]
  obtain ⟨i, hi⟩ : ∃ i, i = (xorw (castw 8 c) (litw 8 b)).toNat := ⟨_, rfl⟩
  have hi2 : i < 256 := by rw [hi]; exact BitVec.isLt _
  have he : BitVec.setWidth 32 (xorw (castw 8 c) (litw 8 b)) = litw 32 i := by
    apply BitVec.eq_of_toNat_eq
    rw [BitVec.toNat_setWidth, ← hi]; unfold litw; rw [BitVec.toNat_ofNat]
  have hiw : bits .xor .u8 (iw (castw 8 c)) (iw (litw 8 b)) = (i : Int) := by
    rw [hi]; unfold iw xorw; rw [BitVec.toNat_xor]; exact u8_xor_nat _ _ (BitVec.isLt _) (BitVec.isLt _)
  rw [he]
  have hcell := hb.at_ (i := i) hi2
  rw [show sumsC 256 i = cN 8 (litw 32 i) by unfold sumsC; rw [if_pos hi2]] at hcell
  generalize cN 8 (litw 32 i) = v at *
  have hal : Try.prog.arrayLen 40 = 256 := by kernel_rfl
  have hii : (i : Int) < 256 := by omega
  clear hy hy2 hbi hc8 hi he
  generalize litw 8 b = b8 at *
  go_enter Try.func19, Try.ntmps19
  go_wp2_with fail
  go_ret
  exact ⟨rfl, rfl⟩
set_option maxRecDepth 100000 in
theorem more8_any (a : BitVec 32) (s : ByteArray) (w : World) (hs : s.size ≤ 140737488351232) :
    Calls Try.prog 11 #[.int .u32 (iw a), .string s] w fun e w' => e = .returned (.int .u32 (iw (moreT a s))) ∧ Below w.heap.size w w' := by
  have hnot : bits .xor .u32 4294967295 (iw a) = iw (notw a) := not32 a
  go_enter Try.func11, Try.ntmps11
  go_wp2_with fail
  refine (overBytes_any _).mono ?_
  rintro e w1 ⟨rfl, ht⟩
  go_wp2_with fail
  go_loopw [0, 12] (fun c i wr => ∃ k : Nat, k ≤ s.size ∧ i = .int .i64 k ∧ c = .int .u32 (iw (cR (byteW s) (notw a) k)) ∧ w1 = wr) (fun _ i _ => s.size - (intOf i).toNat)
  case atStart => exact ⟨0, by omega, rfl, rfl, rfl⟩
  case round =>
    obtain ⟨k, hk, rfl, rfl, rfl⟩ := hrel
    by_cases hlt : k < s.size
    · have e8 := byteS_at s k hlt
      have HC : Hid (cR (byteW s) (notw a) (k + 1) = cN 8 (xorw (cR (byteW s) (notw a) k) (byteW s k))) := Lib.hid rfl
      generalize cR (byteW s) (notw a) k = c at *
      have C := moved_any w.heap.size c (byteS s k) (byteS_lt s k) (byteW s k) rfl w1 ht.t
      generalize byteW s k = y at *
      go_wp2_with fail
      refine C.mono ?_
      rintro e w2 ⟨rfl, rfl⟩
      go_wp2_with fail
      go_roundw
      case rel => exact ⟨k + 1, by omega, by go_num, by rw [HC.out], by trivial⟩
      case measure => simp [intOf]; omega
    · obtain rfl : k = s.size := by omega
      have HM : Hid (moreT a s = notw (cR (byteW s) (notw a) s.size)) := Lib.hid rfl
      generalize cR (byteW s) (notw a) s.size = c at *
      have hnot2 : bits .xor .u32 4294967295 (iw c) = iw (notw c) := not32 c
      go_wp2_with fail
      go_ret
      exact ⟨by rw [HM.out]; rfl, ht.b⟩
end Go.Proofs.Ytdekapkdgbmjbaa
