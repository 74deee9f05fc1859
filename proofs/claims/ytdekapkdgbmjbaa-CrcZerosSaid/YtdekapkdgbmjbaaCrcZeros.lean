/- CrcZeros: the walk. -/
import Derived.Test.YtdekapkdgbmjbaaCe
namespace Go.Proofs.Ytdekapkdgbmjbaa
open Go.RowKit
theorem sizeJ_at (n : Nat) (h : n ≤ 1000000) : sizeJ (n : Int) = n := by unfold sizeJ; omega
set_option maxRecDepth 100000 in
set_option maxHeartbeats 1000000 in
theorem crcZeros_any (a b c : BitVec 32) (m n : Nat) (hm : m < 65536) (hn : n < 65536) (w : World) :
    Calls Try.prog 7 #[.int .u32 (iw a), .int .u16 (m : Int), .int .u16 (n : Int), .int .u32 (iw b), .int .u32 (iw c)] w fun e w' => e = .returned (.bool true) ∧ Below w.heap.size w w' := by
  obtain ⟨x, hx⟩ : ∃ x, x = m % 301 := ⟨_, rfl⟩
  obtain ⟨y, hy⟩ : ∃ y, y = n % 301 := ⟨_, rfl⟩
  have hxi : (m : Int).tmod 301 = (x : Int) := by rw [Int.tmod_eq_emod_of_nonneg (by omega)]; omega
  have hyi : (n : Int).tmod 301 = (y : Int) := by rw [Int.tmod_eq_emod_of_nonneg (by omega)]; omega
  have hx3 : x ≤ 300 := by omega
  have hy3 : y ≤ 300 := by omega
  have hxw : IntKind.i64.wrap (x : Int) = (x : Int) := IntWalk.i64_in _ (by omega)
  have hyw : IntKind.i64.wrap (y : Int) = (y : Int) := IntWalk.i64_in _ (by omega)
  have hxy : IntKind.i64.wrap ((x : Int) + (y : Int)) = ((x + y : Nat) : Int) := by rw [IntWalk.i64_in _ (by omega)]; omega
  have hmk : ∀ w, (Instr.makeSlice 29 (.int .i64 (x : Int)) (.int .i64 (x : Int))).run Try.prog w = .ok (.slice (some ⟨w.heap.size, 0, none⟩) x x) (w.alloc (.cells (r8 x fun _ => 0#8) 5)) := run_zeros x (by omega)
  have hcv := fun w => conv_zeros x (w.alloc (.cells (r8 x fun _ => 0#8) 5)) w.heap.size (Blk.new w _ _)
  have hz := textN_size x fun _ => 0
  generalize textN x (fun _ => 0) = z at *
  have C1 := Lib.hid (sum_crc z (by omega) _ rfl)
  have C2 := Lib.hid (join_crc a (moreT 0#32 z) x (moreT a z) (by rw [sizeJ_at _ (by omega), ← hz, ← more_join]))
  have C3 := Lib.hid (more_crc a z (by omega) _ rfl)
  have C4 := Lib.hid (join_crc a b x (joinT a b x) (by rw [sizeJ_at _ (by omega)]))
  have C5 := Lib.hid (join_crc (joinT a b x) c y (joinT a (joinT b c y) (x + y)) (by rw [sizeJ_at _ (by omega), join_join]))
  have C6 := Lib.hid (join_crc b c y (joinT b c y) (by rw [sizeJ_at _ (by omega)]))
  have C7 := Lib.hid (join_crc a (joinT b c y) ((x + y : Nat) : Int) (joinT a (joinT b c y) (x + y)) (by rw [sizeJ_at _ (by omega)]))
  have C8 := join_crc 0#32 b x b (by rw [join_zero])
  rw [show iw (0#32) = 0 by unfold iw; rfl] at C8
  have C8 := Lib.hid C8
  generalize moreT 0#32 z = x1 at *
  generalize moreT a z = x2 at *
  generalize joinT a b x = x3 at *
  generalize joinT b c y = x4 at *
  generalize joinT a x4 (x + y) = x5 at *
  generalize hs : x + y = s at *
  clear hx hy hs
  go_enter Try.func7, Try.ntmps7
  go_wp2_with fail
  refine (examples8_any _).mono ?_
  rintro e w1 ⟨rfl, b1⟩
  have hcv1 := hcv w1
  have a1 := b1.alloc b1.size (.cells (r8 x fun _ => 0#8) 5)
  clear b1 hcv
  go_wp2_with fail
  refine (C1.out _).mono ?_
  rintro e w2 ⟨rfl, b2⟩
  have c2 := a1.trans (b2.mono a1.size)
  clear a1 b2
  go_wp2_with fail
  refine (C2.out _).mono ?_
  rintro e w3 ⟨rfl, b3⟩
  have c3 := c2.trans (b3.mono c2.size)
  clear c2 b3
  go_wp2_with fail
  refine (C3.out _).mono ?_
  rintro e w4 ⟨rfl, b4⟩
  have c4 := c3.trans (b4.mono c3.size)
  clear c3 b4
  go_wp2_with fail
  refine (C4.out _).mono ?_
  rintro e w5 ⟨rfl, b5⟩
  have c5 := c4.trans (b5.mono c4.size)
  clear c4 b5
  go_wp2_with fail
  refine (C5.out _).mono ?_
  rintro e w6 ⟨rfl, b6⟩
  have c6 := c5.trans (b6.mono c5.size)
  clear c5 b6
  go_wp2_with fail
  refine (C6.out _).mono ?_
  rintro e w7 ⟨rfl, b7⟩
  have c7 := c6.trans (b7.mono c6.size)
  clear c6 b7
  go_wp2_with fail
  refine (C7.out _).mono ?_
  rintro e w8 ⟨rfl, b8⟩
  have c8 := c7.trans (b8.mono c7.size)
  clear c7 b8
  go_wp2_with fail
  refine (C8.out _).mono ?_
  rintro e w9 ⟨rfl, b9⟩
  have c9 := c8.trans (b9.mono c8.size)
  clear c8 b9
  go_wp2_with fail
  go_ret
  exact ⟨rfl, c9⟩
theorem crcZeros_int (x m n y z : Int) (w : World) (x0 : 0 ≤ x) (x1 : x < 4294967296) (m0 : 0 ≤ m) (m1 : m < 65536) (n0 : 0 ≤ n) (n1 : n < 65536) (y0 : 0 ≤ y) (y1 : y < 4294967296) (z0 : 0 ≤ z) (z1 : z < 4294967296) :
    Calls Try.prog 7 #[.int .u32 x, .int .u16 m, .int .u16 n, .int .u32 y, .int .u32 z] w fun e w' => e = .returned (.bool true) ∧ Below w.heap.size w w' := by
  obtain ⟨a, rfl⟩ := iw_of32 x0 x1
  obtain ⟨b, rfl⟩ := iw_of32 y0 y1
  obtain ⟨c, rfl⟩ := iw_of32 z0 z1
  obtain ⟨k, rfl⟩ := Int.eq_ofNat_of_zero_le m0
  obtain ⟨l, rfl⟩ := Int.eq_ofNat_of_zero_le n0
  exact crcZeros_any a b c k l (by omega) (by omega) w
end Go.Proofs.Ytdekapkdgbmjbaa
