/- InflateEnds: the law's walk. -/
import Derived.Test.YtiphnnaanjjaoaaMW
import Derived.Test.YtiphnnaanjjaoaaMZ
namespace Go.Proofs.Ytiphnnaanjjaoaa
open Go.RowKit
set_option maxRecDepth 100000 in
set_option maxHeartbeats 8000000 in
theorem inflateEnds_any (s more : ByteArray) (c : Nat) (hs : s.size ≤ 140737488351232) (hm : more.size ≤ 140737488351232) (hc : c < 65536) (w : World) (hT : TB w) : Calls Try.prog 7 #[.string s, .string more, .int .u16 (c : Int)] w fun e w' => e = .returned (.bool true) ∧ Below w.heap.size w w' := by
  have C := ex10_any w hT
  obtain ⟨k, hk⟩ : ∃ k, k = c % 2001 := ⟨_, rfl⟩
  have hk1 : k ≤ 2000 := by omega
  have hm1 : (c : Int).tmod 2001 = (k : Int) := by rw [Int.tmod_eq_emod_of_nonneg (by omega)]; omega
  have hm2 : (c : Int) % 2001 = (k : Int) := by omega
  have hw1 : IntKind.u16.wrap (k : Int) = (k : Int) := by rw [IntKind.wrap_u16]; omega
  have hw3 : IntKind.i64.wrap (k : Int) = (k : Int) := IntWalk.i64_in _ (by omega)
  have hu1 : (k : Int) % 65536 = (k : Int) := by omega
  have C1 : Hid (∀ (x : ByteArray) wx, TB wx → x.size ≤ 281474976710656 → Calls Try.prog 10 #[.string x, .int .i64 (k : Int)] wx fun e w' => e = .returned (.tuple #[.string (txtL (openS x (k : Int)).1), .int .i64 ((openS x (k : Int)).2.1 : Int), .int .i64 ((openS x (k : Int)).2.2 : Int)]) ∧ Below wx.heap.size wx w') := Lib.hid fun x wx h1 h2 => dopen_any x (k : Int) wx h1 h2
  have HK := Lib.hid hk1
  have HTB := Lib.hid hT
  have HS := Lib.hid hs
  have HMM := Lib.hid hm
  clear hT hk hk1 hc hs hm
  go_enter Try.func7, Try.ntmps7
  go_wp2_with fail
  refine C.mono ?_
  rintro e w1 ⟨rfl, b1⟩
  have HB := Lib.hid b1
  clear C b1
  go_wp2_with fail
  have O1 := C1.out s w1 (HTB.out.below HB.out) (by have := HS.out; omega)
  rw [openS_end s k (by have := HK.out; omega)] at O1
  by_cases he : (endS s k).e = 0
  · rw [if_neg (fun h => h he)] at O1
    dsimp only at O1
    have hp := endS_p he
    have hl := endS_len (s := s) (M := k)
    obtain ⟨n, hn⟩ : ∃ n, n = ((endS s k).p + 7) / 8 := ⟨_, rfl⟩
    have hns : n ≤ s.size := by omega
    have hn1 : 1 ≤ n := by omega
    have hsz1 : (s.extract 0 n).size = n := by rw [ByteArray.size_extract]; omega
    have e1 : endS (s.extract 0 n ++ more) k = endS s k := endS_same he (Nat.le_of_eq hn.symm) (by rw [ByteArray.size_append, hsz1]; omega) (fun j hj => by
      rw [byteS_app, if_pos (by rw [hsz1]; exact hj), byteS_ext s 0 n j hns (by omega), Nat.zero_add])
    have hsz2 : (s.extract 0 (n - 1)).size = n - 1 := by rw [ByteArray.size_extract]; omega
    have e2 : (endS (s.extract 0 (n - 1)) k).e = 2 := endS_short he (by rw [hsz2]; omega) (fun j hj => by
      rw [hsz2] at hj
      rw [byteS_ext s 0 (n - 1) j (by omega) (by omega), Nat.zero_add])
    have HO2 : Hid (∀ wx, TB wx → Calls Try.prog 10 #[.string (s.extract 0 n ++ more), .int .i64 (k : Int)] wx fun e w' => e = .returned (.tuple #[.string (txtL (endS s k).o), .int .i64 (n : Int), .int .i64 0]) ∧ Below wx.heap.size wx w') := Lib.hid fun wx h => by
      have := C1.out (s.extract 0 n ++ more) wx h (by rw [ByteArray.size_append, hsz1]; have := HS.out; have := HMM.out; omega)
      rw [openS_end _ k (by have := HK.out; omega), e1, if_neg (fun h => h he), ← hn] at this
      exact this
    have HO3 : Hid (∀ wx, TB wx → Calls Try.prog 10 #[.string (s.extract 0 (n - 1)), .int .i64 (k : Int)] wx fun e w' => e = .returned (.tuple #[.string (txtL []), .int .i64 0, .int .i64 2]) ∧ Below wx.heap.size wx w') := Lib.hid fun wx h => by
      have := C1.out (s.extract 0 (n - 1)) wx h (by rw [hsz2]; have := HS.out; omega)
      rw [openS_end _ k (by have := HK.out; omega), e2, if_pos (show (2 : Nat) ≠ 0 by decide)] at this
      exact this
    rw [← hn] at O1
    have hts := txtL_size (endS s k).o
    generalize txtL (endS s k).o = A at *
    have hal : (A.size : Int) ≤ (k : Int) := by omega
    obtain ⟨m, hm⟩ : ∃ m, m = n - 1 := ⟨_, rfl⟩
    rw [← hm] at HO3
    have hmw : IntKind.i64.wrap ((n : Int) - 1) = (m : Int) := by rw [IntWalk.i64_in _ (by have := HS.out; omega)]; omega
    have hnneg : ¬ (n : Int) < 0 := by omega
    have hnle : ¬ (n : Int) > (s.size : Int) := by omega
    have hn2 : (n : Int) ≤ (s.size : Int) := by omega
    have hm2' : (m : Int) ≤ (s.size : Int) := by omega
    have hmax : max (m : Int) 0 = (m : Int) := by omega
    clear he hp hl hn hns hn1 hsz1 e1 hsz2 e2 hts hm
    refine O1.mono ?_
    rintro e w2 ⟨rfl, b2⟩
    have HB2 := Lib.hid (HB.out.trans (b2.mono HB.out.size))
    clear O1 b2
    go_wp2_with fail
    · exfalso
      have h1 := HS.out
      have h2 := HMM.out
      omega
    refine (HO2.out w2 (HTB.out.below HB2.out)).mono ?_
    rintro e w3 ⟨rfl, b3⟩
    have HB3 := Lib.hid (HB2.out.trans (b3.mono HB2.out.size))
    clear b3
    go_wp2_with (refine wpList_valK (.int .i64 (m : Int)) rfl (by rw [← hmax]; exact lands_maxR (.tmp 64) (m : Int) 0 rfl rfl rfl) ?_; rintro _ rfl; simp only [pu])
    refine (HO3.out w3 (HTB.out.below HB3.out)).mono ?_
    rintro e w4 ⟨rfl, b4⟩
    have HB4 := Lib.hid (HB3.out.trans (b4.mono HB3.out.size))
    have hself : (A.data.toList == A.data.toList) = true := by simp
    clear b4
    go_wp2_with fail
    go_ret
    exact ⟨rfl, HB4.out⟩
  · rw [if_pos he] at O1
    dsimp only at O1
    rw [txt0] at O1
    have hei : ¬ ((endS s k).e : Int) = 0 := by omega
    have hneb : (((endS s k).e : Int) != 0) = true := by simp; omega
    generalize (endS s k).e = E at *
    clear he
    refine O1.mono ?_
    rintro e w2 ⟨rfl, b2⟩
    have HB2 := Lib.hid (HB.out.trans (b2.mono HB.out.size))
    clear O1 b2
    go_wp2_with fail
    go_ret
    exact ⟨rfl, HB2.out⟩
theorem inflateEnds_int (s more : ByteArray) (c : Int) (hs : s.size ≤ 140737488351232) (hm : more.size ≤ 140737488351232) (h0 : 0 ≤ c) (hc : c < 65536) (w : World) (hT : TB w) : Calls Try.prog 7 #[.string s, .string more, .int .u16 c] w fun e w' => e = .returned (.bool true) ∧ Below w.heap.size w w' := by
  obtain ⟨x, rfl⟩ := Int.eq_ofNat_of_zero_le h0
  exact inflateEnds_any s more x hs hm (by omega) w hT
end Go.Proofs.Ytiphnnaanjjaoaa
