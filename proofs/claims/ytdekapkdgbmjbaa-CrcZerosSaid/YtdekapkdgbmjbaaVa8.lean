/- Layer 8: the contracts of the developers' functions. -/
import Derived.Test.YtdekapkdgbmjbaaCg
namespace Go.Proofs.Ytdekapkdgbmjbaa
open Go.RowKit
theorem sum_crc (s : ByteArray) (hs : s.size ≤ 140737488351232) (t : BitVec 32) (ht : moreT 0#32 s = t) (w : World) :
    Calls Try.prog 9 #[.string s] w fun e w' => e = .returned (.int .u32 (iw t)) ∧ Below w.heap.size w w' := by
  subst ht
  have hc := more8_any 0#32 s w hs
  rw [show iw (0#32) = 0 by unfold iw; rfl] at hc
  go_enter Try.func9, Try.ntmps9
  go_wp2_with fail
  refine hc.mono ?_
  rintro e w1 ⟨rfl, h1⟩
  go_wp2_with fail
  go_ret
  exact ⟨rfl, h1⟩
theorem more_crc (a : BitVec 32) (s : ByteArray) (hs : s.size ≤ 140737488351232) (t : BitVec 32) (ht : moreT a s = t) (w : World) :
    Calls Try.prog 11 #[.int .u32 (iw a), .string s] w fun e w' => e = .returned (.int .u32 (iw t)) ∧ Below w.heap.size w w' := by
  subst ht
  exact more8_any a s w hs
theorem join_crc (a b : BitVec 32) (size : Int) (t : BitVec 32) (ht : joinT a b (sizeJ size) = t) (w : World) :
    Calls Try.prog 13 #[.int .u32 (iw a), .int .u32 (iw b), .int .i64 size] w fun e w' => e = .returned (.int .u32 (iw t)) ∧ Below w.heap.size w w' := by
  subst ht
  obtain ⟨n, hn⟩ : ∃ n, n = sizeJ size := ⟨_, rfl⟩
  have hle := sizeJ_le size
  rw [← hn] at hle ⊢
  have hmm : min (max size 0) 1000000 = (n : Int) := by rw [hn]; unfold sizeJ; omega
  have h1 : iw oneC = 2147483648 := by unfold iw oneC litw; rfl
  have C1 := overByte_any oneC
  rw [h1] at C1
  have C2 := power_any 8 n hle
  have C3 := product_any a (cN (n * 8) oneC)
  rw [mul_pow] at C3
  have HJ : Hid (xorw (cN (n * 8) a) b = joinT a b n) := Lib.hid (by unfold joinT; rw [xorw_comm, Nat.mul_comm])
  generalize cN (n * 8) a = z at *
  generalize cN (n * 8) oneC = y at *
  generalize cN 8 oneC = x at *
  clear hn h1
  go_enter Try.func13, Try.ntmps13
  go_wp2_with (first | (refine wpList_valK (.int .i64 (max size 0)) rfl (lands_maxI (.tmp 7) size 0 rfl rfl rfl) ?_; rintro _ rfl) | (refine wpList_valK (.int .i64 (min (max size 0) 1000000)) rfl (lands_minI (.tmp 8) (max size 0) 1000000 rfl rfl rfl) ?_; rintro _ rfl; rw [hmm]))
  refine (C1 _).mono ?_
  rintro e w1 ⟨rfl, rfl⟩
  go_wp2_with fail
  refine (C2 _).mono ?_
  rintro e w1 ⟨rfl, rfl⟩
  go_wp2_with fail
  refine (C3 _).mono ?_
  rintro e w1 ⟨rfl, rfl⟩
  go_wp2_with fail
  go_ret
  exact ⟨by rw [← HJ.out]; rfl, Below.refl _ _⟩
end Go.Proofs.Ytdekapkdgbmjbaa
