/- SignChecks: the walk. (written by mkTl.py) -/
import Derived.Test.YtggalphgnloneaaGreatTf
import Derived.Test.YtggalphgnloneaaGreatTx
import Derived.Test.YtggalphgnloneaaGreatTh
namespace Go.Proofs.YtggalphgnloneaaGreat
open Go.RowKit
theorem xor_byte (a b : Int) : ∃ z : Nat, z < 256 ∧ bits .xor .u8 a b = (z : Int) :=
  ⟨(BitVec.ofInt 8 a ^^^ BitVec.ofInt 8 b).toNat, (BitVec.ofInt 8 a ^^^ BitVec.ofInt 8 b).isLt, by
    show IntKind.u8.wrap ((BitVec.ofInt 8 a ^^^ BitVec.ofInt 8 b).toNat : Int) = _
    have := (BitVec.ofInt 8 a ^^^ BitVec.ofInt 8 b).isLt
    rw [IntKind.wrap_u8]; omega⟩
set_option maxRecDepth 100000 in
set_option maxHeartbeats 1000000 in
theorem checks_4 (s t : ByteArray) (c : Nat) (hc : (c : Int) % 5 = 4) (i : Int) (y : Int)(p a : ByteArray) (w : World) :
    Calls Tryz.prog 4 #[.string s, .string t, .int .u8 (c : Int), .int .i64 i, .int .u8 y, .string p, .string a] w fun e w' => e = .returned (.bool true) ∧ Below w.heap.size w w' := by
  obtain ⟨n, hn⟩ : ∃ n, n = min t.size 300 := ⟨_, rfl⟩
  have hm : (min (t.size : Int) 300).toNat = n := by omega
  have hns : n ≤ t.size := by omega
  obtain ⟨u, hu⟩ : ∃ u, t.extract 0 n = u := ⟨_, rfl⟩
  have hu3 : u.size ≤ 300 := by rw [← hu, ByteArray.size_extract]; omega
  clear hn
  have HT : Hid (u.size ≤ 1000) := Lib.hid (by omega)
  have CV := Lib.hid (verify_is p u a _ HT.out rfl)
  have RV := Lib.hid (rverify_is p u a _ HT.out rfl)
  generalize verV p u a = v at *
  go_enter Tryz.func4, Tryz.ntmps4
  go_wp2_with fail
  refine (examples6_any _).mono ?_
  rintro e w1 ⟨rfl, b1⟩
  go_wp2_with fail
  refine (CV.out _).mono ?_
  rintro e w2 ⟨rfl, b2⟩
  have c2 := b1.trans (b2.mono b1.size)
  clear b1 b2
  go_wp2_with fail
  refine (RV.out _).mono ?_
  rintro e w3 ⟨rfl, b3⟩
  have c3 := c2.trans (b3.mono c2.size)
  clear c2 b3
  go_wp2_with fail
  go_ret
  exact ⟨rfl, c3⟩
set_option maxRecDepth 100000 in
set_option maxHeartbeats 1000000 in
theorem checks_0 (s t : ByteArray) (c : Nat) (hc : (c : Int) % 5 = 0) (i : Int) (y : Int) (p0 a0 : ByteArray) (w : World) :
    Calls Tryz.prog 4 #[.string s, .string t, .int .u8 (c : Int), .int .i64 i, .int .u8 y, .string p0, .string a0] w fun e w' => e = .returned (.bool true) ∧ Below w.heap.size w w' := by
  obtain ⟨n, hn⟩ : ∃ n, n = min t.size 300 := ⟨_, rfl⟩
  have hm : (min (t.size : Int) 300).toNat = n := by omega
  have hns : n ≤ t.size := by omega
  obtain ⟨u, hu⟩ : ∃ u, t.extract 0 n = u := ⟨_, rfl⟩
  have hu3 : u.size ≤ 300 := by rw [← hu, ByteArray.size_extract]; omega
  clear hn
  have h := seedV_size s
  have CD := Lib.hid (fun w => seed_is s (seedV s) rfl w)
  generalize seedV s = z at *
  have RP := Lib.hid (rpublic_t z h (publicV z) rfl)
  have RS := Lib.hid (rsign_t z u h (by omega) (signV z u) rfl)
  have hps := publicV_size z
  have has := signV_size z u
  generalize signV z u = a at *
  generalize publicV z = p at *
  have HT : Hid (u.size ≤ 1000) := Lib.hid (by omega)
  have CV := Lib.hid (verify_is p u a _ HT.out rfl)
  have RV := Lib.hid (rverify_is p u a _ HT.out rfl)
  generalize verV p u a = v at *
  go_enter Tryz.func4, Tryz.ntmps4
  go_wp2_with fail
  refine (examples6_any _).mono ?_
  rintro e w1 ⟨rfl, b1⟩
  go_wp2_with fail
  refine (CD.out _).mono ?_
  rintro e w2 ⟨rfl, b2⟩
  have c2 := b1.trans (b2.mono b1.size)
  clear b1 b2
  go_wp2_with fail
  refine (RP.out _).mono ?_
  rintro e w3 ⟨rfl, b3⟩
  have c3 := c2.trans (b3.mono c2.size)
  clear c2 b3
  go_wp2_with fail
  refine (CD.out _).mono ?_
  rintro e w4 ⟨rfl, b4⟩
  have c4 := c3.trans (b4.mono c3.size)
  clear c3 b4
  go_wp2_with fail
  refine (RS.out _).mono ?_
  rintro e w5 ⟨rfl, b5⟩
  have c5 := c4.trans (b5.mono c4.size)
  clear c4 b5
  go_wp2_with fail
  refine (CV.out _).mono ?_
  rintro e w6 ⟨rfl, b6⟩
  have c6 := (c5.alloc c5.size _).trans (b6.mono (by have := c5.size; simp; omega))
  clear c5 b6
  go_wp2_with fail
  refine (RV.out _).mono ?_
  rintro e w7 ⟨rfl, b7⟩
  have c7 := c6.trans (b7.mono c6.size)
  clear c6 b7
  go_wp2_with fail
  go_ret
  exact ⟨rfl, c7⟩
set_option maxRecDepth 100000 in
set_option maxHeartbeats 1000000 in
theorem checks_3 (s t : ByteArray) (c : Nat) (hc : (c : Int) % 5 = 3) (b : Nat) (hb : b < 256) (i : Int) (p0 a0 : ByteArray) (w : World) :
    Calls Tryz.prog 4 #[.string s, .string t, .int .u8 (c : Int), .int .i64 i, .int .u8 (b : Int), .string p0, .string a0] w fun e w' => e = .returned (.bool true) ∧ Below w.heap.size w w' := by
  obtain ⟨n, hn⟩ : ∃ n, n = min t.size 300 := ⟨_, rfl⟩
  have hm : (min (t.size : Int) 300).toNat = n := by omega
  have hns : n ≤ t.size := by omega
  obtain ⟨u, hu⟩ : ∃ u, t.extract 0 n = u := ⟨_, rfl⟩
  have hu3 : u.size ≤ 300 := by rw [← hu, ByteArray.size_extract]; omega
  clear hn
  have h := seedV_size s
  have CD := Lib.hid (fun w => seed_is s (seedV s) rfl w)
  generalize seedV s = z at *
  have RP := Lib.hid (rpublic_t z h (publicV z) rfl)
  have RS := Lib.hid (rsign_t z u h (by omega) (signV z u) rfl)
  have hps := publicV_size z
  have has := signV_size z u
  generalize signV z u = a at *
  generalize publicV z = p at *
  have HT : Hid ((u ++ oneB b).size ≤ 1000) := Lib.hid (by rw [size_append, oneB_size]; omega)
  have CV := Lib.hid (verify_is p (u ++ oneB b) a _ HT.out rfl)
  have RV := Lib.hid (rverify_is p (u ++ oneB b) a _ HT.out rfl)
  generalize verV p (u ++ oneB b) a = v at *
  go_enter Tryz.func4, Tryz.ntmps4
  go_wp2_with fail
  refine (examples6_any _).mono ?_
  rintro e w1 ⟨rfl, b1⟩
  go_wp2_with fail
  refine (CD.out _).mono ?_
  rintro e w2 ⟨rfl, b2⟩
  have c2 := b1.trans (b2.mono b1.size)
  clear b1 b2
  go_wp2_with fail
  refine (RP.out _).mono ?_
  rintro e w3 ⟨rfl, b3⟩
  have c3 := c2.trans (b3.mono c2.size)
  clear c2 b3
  go_wp2_with fail
  refine (CD.out _).mono ?_
  rintro e w4 ⟨rfl, b4⟩
  have c4 := c3.trans (b4.mono c3.size)
  clear c3 b4
  go_wp2_with fail
  refine (RS.out _).mono ?_
  rintro e w5 ⟨rfl, b5⟩
  have c5 := c4.trans (b5.mono c4.size)
  clear c4 b5
  have hk1 := one_back (w := (w5.alloc (.cells #[.string p, .string a] 9)).alloc (.cells #[.int .u8 (b : Int)] 5)) b hb ((Blk.new (w5.alloc (.cells #[.string p, .string a] 9)) 5 #[.int .u8 (b : Int)]).cast' (g' := w5.heap.size + 1) ⟨by simp, rfl⟩)
  have ho1 := oneB_size b
  generalize oneB b = ob at *
  go_wp2_with fail
  refine (CV.out _).mono ?_
  rintro e w6 ⟨rfl, b6⟩
  have c6 := ((c5.alloc c5.size _).alloc (by simp; exact Nat.le_succ_of_le c5.size) _).trans (b6.mono (by have := c5.size; simp; omega))
  clear c5 b6
  go_wp2_with fail
  refine (RV.out _).mono ?_
  rintro e w7 ⟨rfl, b7⟩
  have c7 := c6.trans (b7.mono c6.size)
  clear c6 b7
  go_wp2_with fail
  go_ret
  exact ⟨rfl, c7⟩
set_option maxRecDepth 100000 in
set_option maxHeartbeats 1000000 in
theorem checks_1 (s t : ByteArray) (c : Nat) (hc : (c : Int) % 5 = 1) (i : Int) (p0 a0 : ByteArray) (b : Nat) (hi0 : -9223372036854775808 ≤ i) (hi1 : i ≤ 9223372036854775807) (w : World) :
    Calls Tryz.prog 4 #[.string s, .string t, .int .u8 (c : Int), .int .i64 i, .int .u8 (b : Int), .string p0, .string a0] w fun e w' => e = .returned (.bool true) ∧ Below w.heap.size w w' := by
  obtain ⟨n, hn⟩ : ∃ n, n = min t.size 300 := ⟨_, rfl⟩
  have hm : (min (t.size : Int) 300).toNat = n := by omega
  have hns : n ≤ t.size := by omega
  obtain ⟨u, hu⟩ : ∃ u, t.extract 0 n = u := ⟨_, rfl⟩
  have hu3 : u.size ≤ 300 := by rw [← hu, ByteArray.size_extract]; omega
  clear hn
  have h := seedV_size s
  have CD := Lib.hid (fun w => seed_is s (seedV s) rfl w)
  generalize seedV s = z at *
  have RP := Lib.hid (rpublic_t z h (publicV z) rfl)
  have RS := Lib.hid (rsign_t z u h (by omega) (signV z u) rfl)
  have hps := publicV_size z
  have has := signV_size z u
  generalize signV z u = a at *
  generalize publicV z = p at *
  go_enter Tryz.func4, Tryz.ntmps4
  go_wp2_with fail
  refine (examples6_any _).mono ?_
  rintro e w1 ⟨rfl, b1⟩
  go_wp2_with fail
  refine (CD.out _).mono ?_
  rintro e w2 ⟨rfl, b2⟩
  have c2 := b1.trans (b2.mono b1.size)
  clear b1 b2
  go_wp2_with fail
  refine (RP.out _).mono ?_
  rintro e w3 ⟨rfl, b3⟩
  have c3 := c2.trans (b3.mono c2.size)
  clear c2 b3
  go_wp2_with fail
  refine (CD.out _).mono ?_
  rintro e w4 ⟨rfl, b4⟩
  have c4 := c3.trans (b4.mono c3.size)
  clear c3 b4
  go_wp2_with fail
  refine (RS.out _).mono ?_
  rintro e w5 ⟨rfl, b5⟩
  have c5 := c4.trans (b5.mono c4.size)
  clear c4 b5
  have hB := Blk.new w5 9 #[.string p, .string a]
  have hW := c5.alloc c5.size (.cells #[.string p, .string a] 9)
  obtain ⟨cap, W1, hcv, hX, hB1⟩ := bytesN_start p (w5.alloc (.cells #[.string p, .string a] 9)) hps
  have hL := hB.below hB1 (by simp)
  have hb1 := hW.trans (hB1.mono hW.size)
  have hg1 : w5.heap.size < (w5.alloc (.cells #[.string p, .string a] 9)).heap.size := by simp
  generalize (w5.alloc (.cells #[.string p, .string a] 9)).heap.size = g at hcv hX hB1 hg1
  clear hB hB1 hW
  rcases Int.lt_or_le i 0 with h0 | h0
  · go_wp2_with fail
    obtain ⟨j, hj⟩ : ∃ j : Nat, -(i + 1) = (j : Int) := ⟨(-(i + 1)).toNat, by omega⟩
    rw [hj]
    clear hj
    clear h0 hcv
    obtain ⟨q, hq⟩ : ∃ q, q = j % 32 := ⟨_, rfl⟩
    have hq2 : (j : Int) % 32 = (q : Int) := by omega
    have hq3 : (j : Int).tmod 32 = (q : Int) := by rw [Int.tmod_eq_emod_of_nonneg (by omega)]; exact hq2
    have hqN : q < 32 := by omega
    have hqi : (q : Int) < 32 := by omega
    clear hq
    have x0 := hX.c q hqN
    have f0 := hX.fz q hqN
    obtain ⟨y, hy, hx⟩ := xor_byte (byteS p q) b
    have hX2 := (hX.put q y).drew
    obtain ⟨f, hf⟩ : ∃ f : Nat → Nat, f = fun j => if j = q then y else byteS p j := ⟨_, rfl⟩
    rw [← hf] at hX2
    have HF : Hid (∀ j, f j < 256) := Lib.hid (fun j => by rw [hf]; dsimp only; split; exact hy; exact byteS_lt _ _)
    have hL2 := (hL.far (p := ⟨g, q, none⟩) (Nat.ne_of_lt hg1) (.int .u8 (y : Int))).drew
    have hb2 := hb1.setCell (p := ⟨g, q, none⟩) (show w.heap.size ≤ g by have := c5.size; omega) (.int .u8 (y : Int))
    clear hf
    generalize byteS p q = x at *
    have hcv2 := bytesN_end hX2 HF.out cap
    generalize textN 32 f = v8 at *
    have x1 : _ = some (Value.string p) := hL2.cell 0
    have x2 := hL2.frozen 0
    have hL3 := ((hL.far (p := ⟨g, q, none⟩) (Nat.ne_of_lt hg1) (.int .u8 (y : Int))).set_ 0 (.string v8)).drew
    have hb3 := (hb2.setCell (p := ⟨w5.heap.size, 0, none⟩) (show w.heap.size ≤ w5.heap.size from c5.size) (.string v8)).drew
    have y0 : _ = some (Value.string v8) := hL3.cell 0
    have y1 : _ = some (Value.string a) := hL3.cell 1
    have HT : Hid (u.size ≤ 1000) := Lib.hid (by omega)
    have CV := Lib.hid (verify_is v8 u a _ HT.out rfl)
    have RV := Lib.hid (rverify_is v8 u a _ HT.out rfl)
    generalize verV v8 u a = v at *
    clear hL hL2 hX hX2 hb1 hb2 hL3 hy
    go_region
    clear x0 f0 hx
    go_wp2_with fail
    refine (CV.out _).mono ?_
    rintro e w6 ⟨rfl, b6⟩
    have c6 := hb3.trans (b6.mono hb3.size)
    clear hb3 b6
    go_wp2_with fail
    refine (RV.out _).mono ?_
    rintro e w7 ⟨rfl, b7⟩
    have c7 := c6.trans (b7.mono c6.size)
    clear c6 b7
    go_wp2_with fail
    go_ret
    exact ⟨rfl, c7⟩
  · obtain ⟨j, rfl⟩ := Int.eq_ofNat_of_zero_le h0
    go_wp2_with fail
    clear h0 hcv
    obtain ⟨q, hq⟩ : ∃ q, q = j % 32 := ⟨_, rfl⟩
    have hq2 : (j : Int) % 32 = (q : Int) := by omega
    have hq3 : (j : Int).tmod 32 = (q : Int) := by rw [Int.tmod_eq_emod_of_nonneg (by omega)]; exact hq2
    have hqN : q < 32 := by omega
    have hqi : (q : Int) < 32 := by omega
    clear hq
    have x0 := hX.c q hqN
    have f0 := hX.fz q hqN
    obtain ⟨y, hy, hx⟩ := xor_byte (byteS p q) b
    have hX2 := (hX.put q y).drew
    obtain ⟨f, hf⟩ : ∃ f : Nat → Nat, f = fun j => if j = q then y else byteS p j := ⟨_, rfl⟩
    rw [← hf] at hX2
    have HF : Hid (∀ j, f j < 256) := Lib.hid (fun j => by rw [hf]; dsimp only; split; exact hy; exact byteS_lt _ _)
    have hL2 := (hL.far (p := ⟨g, q, none⟩) (Nat.ne_of_lt hg1) (.int .u8 (y : Int))).drew
    have hb2 := hb1.setCell (p := ⟨g, q, none⟩) (show w.heap.size ≤ g by have := c5.size; omega) (.int .u8 (y : Int))
    clear hf
    generalize byteS p q = x at *
    have hcv2 := bytesN_end hX2 HF.out cap
    generalize textN 32 f = v8 at *
    have x1 : _ = some (Value.string p) := hL2.cell 0
    have x2 := hL2.frozen 0
    have hL3 := ((hL.far (p := ⟨g, q, none⟩) (Nat.ne_of_lt hg1) (.int .u8 (y : Int))).set_ 0 (.string v8)).drew
    have hb3 := (hb2.setCell (p := ⟨w5.heap.size, 0, none⟩) (show w.heap.size ≤ w5.heap.size from c5.size) (.string v8)).drew
    have y0 : _ = some (Value.string v8) := hL3.cell 0
    have y1 : _ = some (Value.string a) := hL3.cell 1
    have HT : Hid (u.size ≤ 1000) := Lib.hid (by omega)
    have CV := Lib.hid (verify_is v8 u a _ HT.out rfl)
    have RV := Lib.hid (rverify_is v8 u a _ HT.out rfl)
    generalize verV v8 u a = v at *
    clear hL hL2 hX hX2 hb1 hb2 hL3 hy
    go_region
    clear x0 f0 hx
    go_wp2_with fail
    refine (CV.out _).mono ?_
    rintro e w6 ⟨rfl, b6⟩
    have c6 := hb3.trans (b6.mono hb3.size)
    clear hb3 b6
    go_wp2_with fail
    refine (RV.out _).mono ?_
    rintro e w7 ⟨rfl, b7⟩
    have c7 := c6.trans (b7.mono c6.size)
    clear c6 b7
    go_wp2_with fail
    go_ret
    exact ⟨rfl, c7⟩
set_option maxRecDepth 100000 in
set_option maxHeartbeats 1000000 in
theorem checks_2 (s t : ByteArray) (c : Nat) (hc : (c : Int) % 5 = 2) (i : Int) (p0 a0 : ByteArray) (b : Nat) (hi0 : -9223372036854775808 ≤ i) (hi1 : i ≤ 9223372036854775807) (w : World) :
    Calls Tryz.prog 4 #[.string s, .string t, .int .u8 (c : Int), .int .i64 i, .int .u8 (b : Int), .string p0, .string a0] w fun e w' => e = .returned (.bool true) ∧ Below w.heap.size w w' := by
  obtain ⟨n, hn⟩ : ∃ n, n = min t.size 300 := ⟨_, rfl⟩
  have hm : (min (t.size : Int) 300).toNat = n := by omega
  have hns : n ≤ t.size := by omega
  obtain ⟨u, hu⟩ : ∃ u, t.extract 0 n = u := ⟨_, rfl⟩
  have hu3 : u.size ≤ 300 := by rw [← hu, ByteArray.size_extract]; omega
  clear hn
  have h := seedV_size s
  have CD := Lib.hid (fun w => seed_is s (seedV s) rfl w)
  generalize seedV s = z at *
  have RP := Lib.hid (rpublic_t z h (publicV z) rfl)
  have RS := Lib.hid (rsign_t z u h (by omega) (signV z u) rfl)
  have hps := publicV_size z
  have has := signV_size z u
  generalize signV z u = a at *
  generalize publicV z = p at *
  go_enter Tryz.func4, Tryz.ntmps4
  go_wp2_with fail
  refine (examples6_any _).mono ?_
  rintro e w1 ⟨rfl, b1⟩
  go_wp2_with fail
  refine (CD.out _).mono ?_
  rintro e w2 ⟨rfl, b2⟩
  have c2 := b1.trans (b2.mono b1.size)
  clear b1 b2
  go_wp2_with fail
  refine (RP.out _).mono ?_
  rintro e w3 ⟨rfl, b3⟩
  have c3 := c2.trans (b3.mono c2.size)
  clear c2 b3
  go_wp2_with fail
  refine (CD.out _).mono ?_
  rintro e w4 ⟨rfl, b4⟩
  have c4 := c3.trans (b4.mono c3.size)
  clear c3 b4
  go_wp2_with fail
  refine (RS.out _).mono ?_
  rintro e w5 ⟨rfl, b5⟩
  have c5 := c4.trans (b5.mono c4.size)
  clear c4 b5
  have hB := Blk.new w5 9 #[.string p, .string a]
  have hW := c5.alloc c5.size (.cells #[.string p, .string a] 9)
  obtain ⟨cap, W1, hcv, hX, hB1⟩ := bytesN_start a (w5.alloc (.cells #[.string p, .string a] 9)) has
  have hL := hB.below hB1 (by simp)
  have hb1 := hW.trans (hB1.mono hW.size)
  have hg1 : w5.heap.size < (w5.alloc (.cells #[.string p, .string a] 9)).heap.size := by simp
  generalize (w5.alloc (.cells #[.string p, .string a] 9)).heap.size = g at hcv hX hB1 hg1
  clear hB hB1 hW
  rcases Int.lt_or_le i 0 with h0 | h0
  · go_wp2_with fail
    obtain ⟨j, hj⟩ : ∃ j : Nat, -(i + 1) = (j : Int) := ⟨(-(i + 1)).toNat, by omega⟩
    rw [hj]
    clear hj
    clear h0 hcv
    obtain ⟨q, hq⟩ : ∃ q, q = j % 64 := ⟨_, rfl⟩
    have hq2 : (j : Int) % 64 = (q : Int) := by omega
    have hq3 : (j : Int).tmod 64 = (q : Int) := by rw [Int.tmod_eq_emod_of_nonneg (by omega)]; exact hq2
    have hqN : q < 64 := by omega
    have hqi : (q : Int) < 64 := by omega
    clear hq
    have x0 := hX.c q hqN
    have f0 := hX.fz q hqN
    obtain ⟨y, hy, hx⟩ := xor_byte (byteS a q) b
    have hX2 := (hX.put q y).drew
    obtain ⟨f, hf⟩ : ∃ f : Nat → Nat, f = fun j => if j = q then y else byteS a j := ⟨_, rfl⟩
    rw [← hf] at hX2
    have HF : Hid (∀ j, f j < 256) := Lib.hid (fun j => by rw [hf]; dsimp only; split; exact hy; exact byteS_lt _ _)
    have hL2 := (hL.far (p := ⟨g, q, none⟩) (Nat.ne_of_lt hg1) (.int .u8 (y : Int))).drew
    have hb2 := hb1.setCell (p := ⟨g, q, none⟩) (show w.heap.size ≤ g by have := c5.size; omega) (.int .u8 (y : Int))
    clear hf
    generalize byteS a q = x at *
    have hcv2 := bytesN_end hX2 HF.out cap
    generalize textN 64 f = v8 at *
    have x1 : _ = some (Value.string a) := hL2.cell 1
    have x2 := hL2.frozen 1
    have hL3 := ((hL.far (p := ⟨g, q, none⟩) (Nat.ne_of_lt hg1) (.int .u8 (y : Int))).set_ 1 (.string v8)).drew
    have hb3 := (hb2.setCell (p := ⟨w5.heap.size, 1, none⟩) (show w.heap.size ≤ w5.heap.size from c5.size) (.string v8)).drew
    have y0 : _ = some (Value.string p) := hL3.cell 0
    have y1 : _ = some (Value.string v8) := hL3.cell 1
    have HT : Hid (u.size ≤ 1000) := Lib.hid (by omega)
    have CV := Lib.hid (verify_is p u v8 _ HT.out rfl)
    have RV := Lib.hid (rverify_is p u v8 _ HT.out rfl)
    generalize verV p u v8 = v at *
    clear hL hL2 hX hX2 hb1 hb2 hL3 hy
    go_region
    clear x0 f0 hx
    go_wp2_with fail
    refine (CV.out _).mono ?_
    rintro e w6 ⟨rfl, b6⟩
    have c6 := hb3.trans (b6.mono hb3.size)
    clear hb3 b6
    go_wp2_with fail
    refine (RV.out _).mono ?_
    rintro e w7 ⟨rfl, b7⟩
    have c7 := c6.trans (b7.mono c6.size)
    clear c6 b7
    go_wp2_with fail
    go_ret
    exact ⟨rfl, c7⟩
  · obtain ⟨j, rfl⟩ := Int.eq_ofNat_of_zero_le h0
    go_wp2_with fail
    clear h0 hcv
    obtain ⟨q, hq⟩ : ∃ q, q = j % 64 := ⟨_, rfl⟩
    have hq2 : (j : Int) % 64 = (q : Int) := by omega
    have hq3 : (j : Int).tmod 64 = (q : Int) := by rw [Int.tmod_eq_emod_of_nonneg (by omega)]; exact hq2
    have hqN : q < 64 := by omega
    have hqi : (q : Int) < 64 := by omega
    clear hq
    have x0 := hX.c q hqN
    have f0 := hX.fz q hqN
    obtain ⟨y, hy, hx⟩ := xor_byte (byteS a q) b
    have hX2 := (hX.put q y).drew
    obtain ⟨f, hf⟩ : ∃ f : Nat → Nat, f = fun j => if j = q then y else byteS a j := ⟨_, rfl⟩
    rw [← hf] at hX2
    have HF : Hid (∀ j, f j < 256) := Lib.hid (fun j => by rw [hf]; dsimp only; split; exact hy; exact byteS_lt _ _)
    have hL2 := (hL.far (p := ⟨g, q, none⟩) (Nat.ne_of_lt hg1) (.int .u8 (y : Int))).drew
    have hb2 := hb1.setCell (p := ⟨g, q, none⟩) (show w.heap.size ≤ g by have := c5.size; omega) (.int .u8 (y : Int))
    clear hf
    generalize byteS a q = x at *
    have hcv2 := bytesN_end hX2 HF.out cap
    generalize textN 64 f = v8 at *
    have x1 : _ = some (Value.string a) := hL2.cell 1
    have x2 := hL2.frozen 1
    have hL3 := ((hL.far (p := ⟨g, q, none⟩) (Nat.ne_of_lt hg1) (.int .u8 (y : Int))).set_ 1 (.string v8)).drew
    have hb3 := (hb2.setCell (p := ⟨w5.heap.size, 1, none⟩) (show w.heap.size ≤ w5.heap.size from c5.size) (.string v8)).drew
    have y0 : _ = some (Value.string p) := hL3.cell 0
    have y1 : _ = some (Value.string v8) := hL3.cell 1
    have HT : Hid (u.size ≤ 1000) := Lib.hid (by omega)
    have CV := Lib.hid (verify_is p u v8 _ HT.out rfl)
    have RV := Lib.hid (rverify_is p u v8 _ HT.out rfl)
    generalize verV p u v8 = v at *
    clear hL hL2 hX hX2 hb1 hb2 hL3 hy
    go_region
    clear x0 f0 hx
    go_wp2_with fail
    refine (CV.out _).mono ?_
    rintro e w6 ⟨rfl, b6⟩
    have c6 := hb3.trans (b6.mono hb3.size)
    clear hb3 b6
    go_wp2_with fail
    refine (RV.out _).mono ?_
    rintro e w7 ⟨rfl, b7⟩
    have c7 := c6.trans (b7.mono c6.size)
    clear c6 b7
    go_wp2_with fail
    go_ret
    exact ⟨rfl, c7⟩
theorem checks_any (s t : ByteArray) (c i y : Int) (p a : ByteArray) (w : World) (h0 : 0 ≤ c) (hi0 : -9223372036854775808 ≤ i) (hi1 : i ≤ 9223372036854775807) (hy0 : 0 ≤ y) (hy1 : y ≤ 255) :
    Calls Tryz.prog 4 #[.string s, .string t, .int .u8 c, .int .i64 i, .int .u8 y, .string p, .string a] w fun e w' => e = .returned (.bool true) ∧ Below w.heap.size w w' := by
  obtain ⟨n, rfl⟩ := Int.eq_ofNat_of_zero_le h0
  obtain ⟨b, rfl⟩ := Int.eq_ofNat_of_zero_le hy0
  rcases (show (n : Int) % 5 = 0 ∨ (n : Int) % 5 = 1 ∨ (n : Int) % 5 = 2 ∨ (n : Int) % 5 = 3 ∨ (n : Int) % 5 = 4 by omega) with h | h | h | h | h
  · exact checks_0 s t n h i b p a w
  · exact checks_1 s t n h i p a b hi0 hi1 w
  · exact checks_2 s t n h i p a b hi0 hi1 w
  · exact checks_3 s t n h b (by omega) i p a w
  · exact checks_4 s t n h i b p a w
end Go.Proofs.YtggalphgnloneaaGreat
