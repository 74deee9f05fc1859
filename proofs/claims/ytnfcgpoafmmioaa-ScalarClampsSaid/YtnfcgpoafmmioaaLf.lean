/- written of the layer scalar. -/
import Derived.Test.YtnfcgpoafmmioaaLc
namespace Go.Proofs.Ytnfcgpoafmmioaa
open Go.RowKit
/-- Within written: the number, the bytes so far. -/
structure WrW (n k : Nat) (w wr : World) : Prop where
  d : Blk wr w.heap.size 39 (r64 4 (F4 n))
  o : Blk wr (w.heap.size + 1) 49 (r8 32 (bF n k))
  l : Below w.heap.size w wr
theorem WrW.put {n k : Nat} {w wr : World} (h : WrW n k w wr) (hk : k < 32) : WrW n (k + 1) w (wr.setCell ⟨w.heap.size + 1, k, none⟩ (.int .u8 (iw (BitVec.ofNat 8 (byteK n k))))) :=
  ⟨h.d.far (by simp) _, (h.o.put hk _).cast_ (row_ext fun i _ => bF_put n k i), h.l.setCell (by simp) _⟩
theorem byte_wordQ (n q r : Nat) (hr : r < 8) : castw 8 (shrw (F4 n q) (r * 8)) = BitVec.ofNat 8 (byteK n (8 * q + r)) := by
  rw [Nat.mul_comm]; exact byte_word n q r hr
theorem zero32 : #[Value.int .u8 0, .int .u8 0, .int .u8 0, .int .u8 0, .int .u8 0, .int .u8 0, .int .u8 0, .int .u8 0, .int .u8 0, .int .u8 0, .int .u8 0, .int .u8 0, .int .u8 0, .int .u8 0, .int .u8 0, .int .u8 0, .int .u8 0, .int .u8 0, .int .u8 0, .int .u8 0, .int .u8 0, .int .u8 0, .int .u8 0, .int .u8 0, .int .u8 0, .int .u8 0, .int .u8 0, .int .u8 0, .int .u8 0, .int .u8 0, .int .u8 0, .int .u8 0] = row 32 (fun _ => Value.int .u8 0) := by kernel_rfl
set_option maxRecDepth 100000 in
set_option maxHeartbeats 2000000 in
theorem qwritten_any (n : Nat) (w : World) :
    Calls Try.prog 22 #[.agg (r64 4 (F4 n))] w fun e w' => e = .returned (.string (bytesV n)) ∧ Below w.heap.size w w' := by
  have hal : Try.prog.arrayLen 39 = 4 := by kernel_rfl
  have hal2 : Try.prog.arrayLen 49 = 32 := by kernel_rfl
  have Z := Lib.hid (zero32.trans (bF_none n).symm)
  go_enter Try.func22, Try.ntmps22
  go_wp2_with fail
  go_loopw [5] (fun i wr => ∃ k : Nat, k ≤ 32 ∧ i = .int .i64 (k : Int) ∧ WrW n k w wr) (fun i _ => 32 - (intOf i).toNat)
  case atStart => exact ⟨0, by omega, rfl, ⟨(Blk.new w _ _).alloc _, (Blk.new (w.alloc _) _ _).cast' ⟨by simp, Z.out⟩, ((Below.refl _ _).alloc (Nat.le_refl _) _).alloc (by simp) _⟩⟩
  case round =>
    obtain ⟨k, hk, rfl, hr⟩ := hrel
    by_cases hlt : k < 32
    · obtain ⟨q, hqd⟩ : ∃ q, q = k / 8 := ⟨_, rfl⟩
      obtain ⟨r, hrd⟩ : ∃ r, r = k % 8 := ⟨_, rfl⟩
      have hq4 : q < 4 := by omega
      have hr8' : r < 8 := by omega
      have hq : (k : Int).tdiv 8 = (q : Int) := by rw [Int.tdiv_eq_ediv_of_nonneg (by omega)]; omega
      have hr8 : (k : Int).tmod 8 = (r : Int) := by rw [Int.tmod_eq_emod_of_nonneg (by omega)]; omega
      have hl0 : (q : Int) < 4 := by omega
      have hl1 : (0 : Int) ≤ q := by omega
      have c0 := hr.d.at_ hq4
      have co := hr.o.at_ hlt
      have fo := hr.o.frozen k
      have HK := Lib.hid (hr.put hlt)
      have HW := Lib.hid (show castw 8 (shrw (F4 n q) (r * 8)) = BitVec.ofNat 8 (byteK n k) by rw [byte_wordQ n q r hr8', show 8 * q + r = k by omega])
      clear hqd hrd hr
      go_wp2_with fail
      rw [HW.out]
      go_roundw
      case rel => exact ⟨k + 1, by omega, by go_num, HK.out⟩
      case measure => simp [intOf]; omega
    · obtain rfl : k = 32 := by omega
      have hst := run_string_of_blk (P := Try.prog) wr 34 9 5 Try.underlying34 Try.underlying5 Try.underlying9 (w.heap.size + 1) 32 32 _ _ hr.o
      rw [bF_all] at hst
      have hl := hr.l
      clear hr Z
      go_wp2_with fail
      go_ret
      exact ⟨rfl, hl⟩
end Go.Proofs.Ytnfcgpoafmmioaa
