/- GzNamed: with a name, a comment, more bytes, and a sum of all that ahead, it is opened as well; with a bit of that sum turned it is not. -/
import Derived.Test.YtmhoejmgjbgddaaGreatOF
import Derived.Test.YtmhoejmgjbgddaaGreatMX
namespace Go.Proofs.YtmhoejmgjbgddaaGreat
open Go.RowKit
theorem run_2b (a b : Nat) (ha : a < 256) (hb : b < 256) (w : World) :
  (convert 25 9 (.slice (some ⟨w.heap.size, 0, none⟩) 2 2)).run Tryz.prog (w.alloc (.cells #[.int .u8 (a : Int), .int .u8 (b : Int)] 5)) = .ok (.string (txtL [a, b])) (w.alloc (.cells #[.int .u8 (a : Int), .int .u8 (b : Int)] 5)) := by
 have hk := Blk.new w 5 #[.int .u8 (a : Int), .int .u8 (b : Int)]
 have e : #[Value.int .u8 (a : Int), .int .u8 (b : Int)] = r8 2 fun i => BitVec.ofNat 8 ([a, b].getD i 0) := by
  have k : ∀ x : Nat, x < 256 → iw (BitVec.ofNat 8 x) = (x : Int) := fun x hx => by unfold iw; rw [BitVec.toNat_ofNat, Nat.mod_eq_of_lt (by omega)]
  show _ = #[Value.int .u8 (iw (BitVec.ofNat 8 a)), .int .u8 (iw (BitVec.ofNat 8 b))]
  rw [k a ha, k b hb]
 rw [e] at hk
 have := run_string_of_blk (P := Tryz.prog) (w.alloc (.cells (r8 2 fun i => BitVec.ofNat 8 ([a, b].getD i 0)) 5)) 25 9 5 Tryz.underlying25 Tryz.underlying5 Tryz.underlying9 w.heap.size 2 2 5 (fun i => BitVec.ofNat 8 ([a, b].getD i 0)) hk
 rw [e, this]
 rfl
def TwW (wz : World) (lo hi : Nat) (b : Bool) (wx : World) : Prop := wx = if b = true then wz.alloc (.cells #[.int .u8 (lo : Int), .int .u8 (hi : Int)] 5) else wz
theorem i64_xor_small (a b : Nat) (ha : a < 4294967296) (hb : b < 4294967296) : bits .xor .i64 (a : Int) (b : Int) = ((a ^^^ b : Nat) : Int) := by
 have hx : a ^^^ b < 2 ^ 32 := Nat.xor_lt_two_pow ha hb
 have k : ∀ x : Nat, x < 4294967296 → (BitVec.ofInt 64 (x : Int)).toNat = x := fun x h => by
  rw [BitVec.toNat_ofInt]
  show ((x : Int) % (18446744073709551616 : Int)).toNat = x
  omega
 show IntKind.i64.wrap ((BitVec.ofInt 64 (a : Int) ^^^ BitVec.ofInt 64 (b : Int)).toNat : Int) = _
 rw [BitVec.toNat_xor, k a ha, k b hb]
 exact IntWalk.i64_in _ (by omega)
set_option maxRecDepth 100000 in
set_option maxHeartbeats 8000000 in
theorem gzNamed_any (s nm cm ex : ByteArray) (b : Nat) (hb : b < 256) (hs : s.size ≤ 140737488351232) (hn : nm.size ≤ 140737488351232) (hc : cm.size ≤ 140737488351232) (he : ex.size ≤ 140737488351232) (w : World) :
  Calls Tryz.prog 7 #[.string s, .string nm, .string cm, .string ex, .int .u8 (b : Int)] w fun e w' => e = .returned (.bool true) ∧ Below w.heap.size w w' := by
 obtain ⟨M, hM⟩ : ∃ M, M = min s.size 300 := ⟨_, rfl⟩
 obtain ⟨U, hU⟩ : ∃ U, U = s.extract 0 M := ⟨_, rfl⟩
 obtain ⟨K, hK⟩ : ∃ K, K = min ex.size 300 := ⟨_, rfl⟩
 obtain ⟨E, hE⟩ : ∃ E, E = ex.extract 0 K := ⟨_, rfl⟩
 have hUz : U.size ≤ 300 := by rw [hU, ByteArray.size_extract]; omega
 have hEz : E.size ≤ 300 := by rw [hE, ByteArray.size_extract]; omega
 have HM := Lib.hid hM
 have HU := Lib.hid hU
 have HK := Lib.hid hK
 have HE := Lib.hid hE
 have hM1 : (M : Int) ≤ (s.size : Int) := by omega
 have hM2 : (0 : Int) ≤ (M : Int) := by omega
 have hM3 : M ≤ s.size := by omega
 have hK1 : (K : Int) ≤ (ex.size : Int) := by omega
 have hK2 : (0 : Int) ≤ (K : Int) := by omega
 have hK3 : K ≤ ex.size := by omega
 clear hM hU hK hE
 obtain ⟨P, hP, hP1, hP18, HP⟩ := gz_both U (by omega)
 obtain ⟨N, hN, hN0, HN⟩ := upto_any nm hn
 obtain ⟨C, hC, hC0, HC⟩ := upto_any cm hc
 -- the parts, one behind the other
 obtain ⟨B0, hB0⟩ : ∃ x, x = P.extract 0 3 := ⟨_, rfl⟩
 obtain ⟨B1, hB1⟩ : ∃ x, x = B0 ++ ⟨#[30]⟩ := ⟨_, rfl⟩
 obtain ⟨B2, hB2⟩ : ∃ x, x = P.extract 4 10 := ⟨_, rfl⟩
 obtain ⟨B3, hB3⟩ : ∃ x, x = B1 ++ B2 := ⟨_, rfl⟩
 obtain ⟨B4, hB4⟩ : ∃ x, x = B3 ++ twoB E.size := ⟨_, rfl⟩
 obtain ⟨B5, hB5⟩ : ∃ x, x = B4 ++ E := ⟨_, rfl⟩
 obtain ⟨B6, hB6⟩ : ∃ x, x = B5 ++ N := ⟨_, rfl⟩
 obtain ⟨B7, hB7⟩ : ∃ x, x = B6 ++ ⟨#[0]⟩ := ⟨_, rfl⟩
 obtain ⟨B8, hB8⟩ : ∃ x, x = B7 ++ C := ⟨_, rfl⟩
 obtain ⟨H, hH⟩ : ∃ x, x = B8 ++ ⟨#[0]⟩ := ⟨_, rfl⟩
 obtain ⟨B9, hB9⟩ : ∃ x, x = P.extract 10 P.size := ⟨_, rfl⟩
 have h30 : (⟨#[30]⟩ : ByteArray).size = 1 := rfl
 have h00 : (⟨#[0]⟩ : ByteArray).size = 1 := rfl
 have z0 : B0.size = 3 := by rw [hB0, ByteArray.size_extract]; omega
 have z1 : B1.size = 4 := by rw [hB1, size_app, z0, h30]
 have z2 : B2.size = 6 := by rw [hB2, ByteArray.size_extract]; omega
 have z3 : B3.size = 10 := by rw [hB3, size_app, z1, z2]
 have z4 : B4.size = 12 := by rw [hB4, size_app, z3, twoB_size]
 have z5 : B5.size = 12 + E.size := by rw [hB5, size_app, z4]
 have z6 : B6.size = 12 + E.size + N.size := by rw [hB6, size_app, z5]
 have z7 : B7.size = 12 + E.size + N.size + 1 := by rw [hB7, size_app, z6, h00]
 have z8 : B8.size = 12 + E.size + N.size + 1 + C.size := by rw [hB8, size_app, z7]
 have z9 : H.size = 12 + E.size + N.size + 1 + C.size + 1 := by rw [hH, size_app, z8, h00]
 have zb9 : B9.size = P.size - 10 := by rw [hB9, ByteArray.size_extract]; omega
 have hHead : H = headN E N C := by
  have hp10 : plainT.size = 10 := rfl
  have e3 : B3 = startN := by
   refine text_same (by rw [z3]; rfl) fun j hj => ?_
   rw [z3] at hj
   have hq : ∀ j, j < 10 → byteS P j = byteS plainT j := fun j hj => by rw [hP, gzT_eq, byteS_front _ _ j (by omega)]
   rw [hB3, byteS_app, hB1, byteS_app, hB0, hB2, size_app, h30, show (P.extract 0 3).size = 3 by rw [← hB0]; exact z0]
   by_cases h3 : j < 3
   ·rw [if_pos (by omega), if_pos h3, byteS_ext _ 0 3 j (by omega) (by omega), Nat.zero_add, hq j hj]
    have : j = 0 ∨ j = 1 ∨ j = 2 := by omega
    rcases this with rfl | rfl | rfl <;> rfl
   ·by_cases h4 : j < 4
    ·obtain rfl : j = 3 := by omega
     rw [if_pos (by decide), if_neg (by decide)]; rfl
    ·rw [if_neg (by omega), byteS_ext _ 4 10 _ (by omega) (by omega), show 4 + (j - (3 + 1)) = j by omega, hq j hj]
     have : j = 4 ∨ j = 5 ∨ j = 6 ∨ j = 7 ∨ j = 8 ∨ j = 9 := by omega
     rcases this with rfl | rfl | rfl | rfl | rfl | rfl <;> rfl
  rw [hH, hB8, hB7, hB6, hB5, hB4, e3]
  unfold headN zeroB
  simp only [ByteArray.append_assoc]
 have hTail : B9 = packT U ++ sealT U := by
  rw [hB9, hP, gzT_eq]
  exact ByteArray.extract_append_eq_right rfl (by rw [size_app])
 obtain ⟨c, hc0⟩ : ∃ c, c = (moreT 0#32 H).toNat := ⟨_, rfl⟩
 have hc32 : c < 4294967296 := by rw [hc0]; exact (moreT 0#32 H).isLt
 have CS : Hid (∀ wx, Calls Tryz.prog 15 #[.string H] wx fun e w' => e = .returned (.int .u32 (c : Int)) ∧ Below wx.heap.size wx w') := Lib.hid fun wx => by
  have := sum_crc H (by omega) _ rfl wx
  rw [show iw (moreT 0#32 H) = (c : Int) by rw [hc0]; unfold iw; rfl] at this
  exact this
 obtain ⟨r, hr⟩ : ∃ r, r = b % 16 := ⟨_, rfl⟩
 have hr1 : (b : Int).tmod 16 = (r : Int) := by rw [Int.tmod_eq_emod_of_nonneg (by omega)]; omega
 have hr2 : (b : Int) % 16 = (r : Int) := by omega
 have hr16 : r < 16 := by omega
 have hrw : IntKind.u8.wrap (r : Int) = (r : Int) := by rw [IntKind.wrap_u8']; omega
 obtain ⟨Z, hZ⟩ : ∃ Z, Z = 2 ^ r := ⟨_, rfl⟩
 have hZ16 : Z < 65536 := by rw [hZ]; exact Nat.pow_lt_pow_right (a := 2) (m := r) (n := 16) (by decide) hr16
 have hZ32 : Z < 4294967296 := Nat.lt_trans hZ16 (by decide)
 have hsh : IntKind.i64.wrap (2 ^ r) = (Z : Int) := by
  rw [show (2 : Int) ^ r = (Z : Int) by rw [hZ]; exact (Int.natCast_pow 2 r).symm]
  clear hZ
  exact IntWalk.i64_in _ (by omega)
 obtain ⟨d, hd⟩ : ∃ d, d = c ^^^ Z := ⟨_, rfl⟩
 have hd32 : d < 4294967296 := by rw [hd]; exact Nat.xor_lt_two_pow (n := 32) hc32 hZ32
 have hx : bits .xor .i64 (c : Int) (Z : Int) = (d : Int) := by rw [hd]; exact i64_xor_small c Z hc32 hZ32
 have hcd : twoB d ≠ twoB c := by rw [hd, hZ]; exact two_ne c r hr16
 obtain ⟨X1, hX1⟩ : ∃ x, x = H ++ twoB c := ⟨_, rfl⟩
 obtain ⟨Y1, hY1⟩ : ∃ x, x = X1 ++ B9 := ⟨_, rfl⟩
 obtain ⟨X2, hX2⟩ : ∃ x, x = H ++ twoB d := ⟨_, rfl⟩
 obtain ⟨Y2, hY2⟩ : ∃ x, x = X2 ++ B9 := ⟨_, rfl⟩
 have zx1 : X1.size = H.size + 2 := by rw [hX1, size_app, twoB_size]
 have zx2 : X2.size = H.size + 2 := by rw [hX2, size_app, twoB_size]
 have zy1 : Y1.size = H.size + 2 + (P.size - 10) := by rw [hY1, size_app, zx1, zb9]
 have zy2 : Y2.size = H.size + 2 + (P.size - 10) := by rw [hY2, size_app, zx2, zb9]
 have O1 := gz_ans Y1 300 (by omega) U 0 (by
  have hbo : bodyS (X1 ++ (packT U ++ sealT U)) = (X1.size, 0) := by
   have := body_named E N C (packT U ++ sealT U) c hEz hN0 hC0
   rw [← hHead, ← hc0, if_pos rfl] at this
   rw [hX1, ByteArray.append_assoc, this, size_app, twoB_size]
  rw [hY1, hTail]
  have := gz_open X1 U (sealT U) 300 hUz (by decide) hbo
  rw [if_neg (by rw [sealT_size]; decide), if_pos rfl] at this
  exact this)
 have O2 := gz_ans Y2 300 (by omega) ⟨#[]⟩ 8 (by
  have := body_named E N C (packT U ++ sealT U) d hEz hN0 hC0
  rw [← hHead, ← hc0, if_neg hcd] at this
  rw [hY2, hTail, hX2, ByteArray.append_assoc]
  unfold gzOpen
  rw [if_neg (by decide), this]
  exact if_pos (fun h => by cases h))
 -- numbers of two bytes
 obtain ⟨lo, hlo⟩ : ∃ x, x = E.size % 256 := ⟨_, rfl⟩
 obtain ⟨hi, hhi⟩ : ∃ x, x = E.size / 256 := ⟨_, rfl⟩
 have hlo1 : IntKind.u8.wrap (E.size : Int) = (lo : Int) := by rw [IntKind.wrap_u8']; omega
 have hhi1 : (E.size : Int) / 256 = (hi : Int) := by omega
 have hhi2 : IntKind.u8.wrap (hi : Int) = (hi : Int) := by rw [IntKind.wrap_u8']; omega
 have hT2 : txtL [lo, hi] = twoB E.size := by unfold twoB; rw [hlo, hhi, Nat.mod_eq_of_lt (show E.size / 256 < 256 by omega)]
 obtain ⟨clo, hclo⟩ : ∃ x, x = c % 256 := ⟨_, rfl⟩
 obtain ⟨csh, hcsh⟩ : ∃ x, x = c / 256 := ⟨_, rfl⟩
 obtain ⟨chi, hchi⟩ : ∃ x, x = c / 256 % 256 := ⟨_, rfl⟩
 have hc1 : IntKind.u8.wrap (c : Int) = (clo : Int) := by rw [IntKind.wrap_u8']; omega
 have hc2 : (c : Int) / 256 = (csh : Int) := by omega
 have hc3 : IntKind.u8.wrap (csh : Int) = (chi : Int) := by rw [IntKind.wrap_u8']; omega
 have hcw : IntKind.i64.wrap (c : Int) = (c : Int) := IntWalk.i64_in _ (by omega)
 have hTc : txtL [clo, chi] = twoB c := by unfold twoB; rw [hclo, hchi]
 obtain ⟨dlo, hdlo⟩ : ∃ x, x = d % 256 := ⟨_, rfl⟩
 obtain ⟨dsh, hdsh⟩ : ∃ x, x = d / 256 := ⟨_, rfl⟩
 obtain ⟨dhi, hdhi⟩ : ∃ x, x = d / 256 % 256 := ⟨_, rfl⟩
 have hd1 : IntKind.u8.wrap (d : Int) = (dlo : Int) := by rw [IntKind.wrap_u8']; omega
 have hd2 : (d : Int) / 256 = (dsh : Int) := by omega
 have hd3 : IntKind.u8.wrap (dsh : Int) = (dhi : Int) := by rw [IntKind.wrap_u8']; omega
 have hTd : txtL [dlo, dhi] = twoB d := by unfold twoB; rw [hdlo, hdhi]
 have HB2 : Hid (lo < 256 ∧ hi < 256 ∧ clo < 256 ∧ chi < 256 ∧ dlo < 256 ∧ dhi < 256) := Lib.hid (by omega)
 have HTX : Hid (txtL [lo, hi] = twoB E.size ∧ txtL [clo, chi] = twoB c ∧ txtL [dlo, dhi] = twoB d) := Lib.hid ⟨hT2, hTc, hTd⟩
 -- lengths
 have q1 : B0.size ≤ 2000 := by omega
 have q3 : B1.size ≤ 2000 ∧ B2.size ≤ 2000 := by omega
 have q4 : B3.size ≤ 2000 := by omega
 have q5 : B4.size ≤ 2000 := by omega
 have q6 : B5.size ≤ 2000 := by omega
 have q7 : B6.size ≤ 2000 := by omega
 have q8 : B7.size ≤ 2000 := by omega
 have q9 : B8.size ≤ 2000 ∧ (twoB E.size).size ≤ 2 := ⟨by omega, by rw [twoB_size]; decide⟩
 have qx1 : H.size ≤ 2000 ∧ (twoB c).size ≤ 2 := ⟨by omega, by rw [twoB_size]; decide⟩
 have qy1 : X1.size ≤ 3000 := by omega
 have qx2 : X2.size ≤ 3000 ∧ (twoB d).size ≤ 2 := ⟨by omega, by rw [twoB_size]; decide⟩
 have qy2 : B9.size ≤ 2000 := by omega
 have p3 : (3 : Int) ≤ (P.size : Int) := by omega
 have p10 : (10 : Int) ≤ (P.size : Int) := by omega
 have hl18 : ¬ (P.size : Int) < 18 := by omega
 replace hB0 := hB0.symm
 replace hB1 := hB1.symm
 replace hB2 := hB2.symm
 replace hB3 := hB3.symm
 replace hB4 := hB4.symm
 replace hB5 := hB5.symm
 replace hB6 := hB6.symm
 replace hB7 := hB7.symm
 replace hB8 := hB8.symm
 replace hH := hH.symm
 replace hB9 := hB9.symm
 replace hX1 := hX1.symm
 replace hX2 := hX2.symm
 replace hY1 := hY1.symm
 replace hY2 := hY2.symm
 have HHP := Lib.hid (⟨hb, hd⟩ : b < 256 ∧ d = c ^^^ Z)
 clear hP hHead hTail hc0 hd hZ hZ32 hZ16 hcd hd32 hc32 hlo hhi hclo hcsh hchi hdlo hdsh hdhi hT2 hTc hTd z0 z1 z2 z3 z4 z5 z6 z7 z8 z9 zb9 zx1 zx2 zy1 zy2 h30 h00 hN0 hC0 hr hP1 hP18 hb
 have HQ1 := Lib.hid (And.intro hB0 (And.intro hB1 (And.intro hB2 (And.intro hB3 (And.intro hB4 (And.intro hB5 (And.intro hB6 (And.intro hB7 (And.intro hB8 (And.intro hH (And.intro q1 (And.intro q3 (And.intro q4 (And.intro q5 (And.intro q6 (And.intro q7 (And.intro q8 q9)))))))))))))))))
 have HQ2 := Lib.hid (And.intro hX1 (And.intro hY1 (And.intro hX2 (And.intro hY2 (And.intro hB9 (And.intro qx1 (And.intro qy1 (And.intro qx2 (And.intro qy2 (And.intro hc1 (And.intro hc2 (And.intro hc3 (And.intro hcw (And.intro hd1 (And.intro hd2 (And.intro hd3 (And.intro hx hsh)))))))))))))))))
 have HQ3 := Lib.hid (And.intro hlo1 (And.intro hhi1 (And.intro hhi2 (And.intro p3 p10))))
 clear hB0 hB1 hB2 hB3 hB4 hB5 hB6 hB7 hB8 hH q1 q3 q4 q5 q6 q7 q8 q9 hX1 hY1 hX2 hY2 hB9 qx1 qy1 qx2 qy2 hc1 hc2 hc3 hcw hd1 hd2 hd3 hx hsh hlo1 hhi1 hhi2 p3 p10
 go_enter Tryz.func7, Tryz.ntmps7
 go_wp2_with fail
 refine (examples12_any w).mono ?_
 rintro e w1 ⟨rfl, b1⟩
 have HB1 := Lib.hid b1
 clear b1
 go_wp2_with (first | (refine wpList_valK (.int .i64 ((min s.size 300 : Nat) : Int)) rfl (lands_min (.tmp 24) s.size 300 rfl rfl rfl) ?_; intro w8 h8; obtain rfl : w1 = w8 := h8.symm; rw [← HM.out]) | (refine wpList_valK (.int .i64 ((min ex.size 300 : Nat) : Int)) rfl (lands_min (.tmp 29) ex.size 300 rfl rfl rfl) ?_; intro w8 h8; obtain rfl : w1 = w8 := h8.symm; rw [← HK.out]))
 rw [← HU.out, ← HE.out]
 refine (HP.out w1).mono ?_
 rintro e w2 ⟨rfl, b2⟩
 have HB2w := Lib.hid (HB1.out.trans (b2.mono HB1.out.size))
 clear b2 HB1
 go_wp2_with fail
 obtain ⟨hB0, hB1, hB2, hB3, hB4, hB5, hB6, hB7, hB8, hH, q1, q3, q4, q5, q6, q7, q8, q9⟩ := HQ1.out
 obtain ⟨hlo1, hhi1, hhi2, p3, p10⟩ := HQ3.out
 have HB2d := Lib.hid HB2w.out.drew
 generalize hwz : w2.drew = wz at HB2d
 have HT0 : Hid (∀ wx, TwW wz lo hi false wx → wx = wz) := Lib.hid fun wx h => h
 have HT1 : Hid (∀ wx, TwW wz lo hi true wx → wx = wz.alloc (.cells #[.int .u8 (lo : Int), .int .u8 (hi : Int)] 5)) := Lib.hid fun wx h => h
 have HCV := Lib.hid (run_2b lo hi HB2.out.1 HB2.out.2.1 wz)
 rw [HTX.out.1] at HCV
 refine wp_region_anyL (Two 13 1000 fun f1 _ wx => TwW wz lo hi f1 wx) (by kernel_rfl) hwz ?_
 refine anyL_take (i := 0) (v := .string P) rfl (yl_other rfl (fun f1 f2 wx hT => ?_)) ?_
 ·refine lands_value (w := wx) ?_ hT; go_simp; skip
 simp only [pu]
 refine anyL_take (i := 1) (v := .string B0) rfl (yl_other rfl (fun f1 f2 wx hT => ?_)) ?_
 ·refine lands_value (w := wx) ?_ hT; go_simp; skip
 simp only [pu]
 refine anyL_take (i := 2) (v := .string B1) rfl (yl_other rfl (fun f1 f2 wx hT => ?_)) ?_
 ·refine lands_value (w := wx) ?_ hT; go_simp; omega
 simp only [pu]
 refine anyL_take (i := 3) (v := .string P) rfl (yl_other rfl (fun f1 f2 wx hT => ?_)) ?_
 ·refine lands_value (w := wx) ?_ hT; go_simp; skip
 simp only [pu]
 refine anyL_take (i := 4) (v := .string B2) rfl (yl_other rfl (fun f1 f2 wx hT => ?_)) ?_
 ·refine lands_value (w := wx) ?_ hT; go_simp; skip
 simp only [pu]
 refine anyL_take (i := 5) (v := .string B3) rfl (yl_other rfl (fun f1 f2 wx hT => ?_)) ?_
 ·refine lands_value (w := wx) ?_ hT; go_simp; omega
 simp only [pu]
 refine anyL_take (i := 6) (v := .string E) rfl (yl_other rfl (fun f1 f2 wx hT => ?_)) ?_
 ·refine lands_value (w := wx) ?_ hT; go_simp; skip
 simp only [pu]
 refine anyL_take (i := 7) (v := .int .i64 (E.size : Int)) rfl (yl_other rfl (fun f1 f2 wx hT => ?_)) ?_
 ·refine lands_value (w := wx) ?_ hT; go_simp; skip
 simp only [pu]
 refine anyL_take (i := 8) (v := .int .u8 (lo : Int)) rfl (yl_other rfl (fun f1 f2 wx hT => ?_)) ?_
 ·refine lands_value (w := wx) ?_ hT; go_simp; skip
 simp only [pu]
 refine anyL_take (i := 9) (v := .string E) rfl (yl_other rfl (fun f1 f2 wx hT => ?_)) ?_
 ·refine lands_value (w := wx) ?_ hT; go_simp; skip
 simp only [pu]
 refine anyL_take (i := 10) (v := .int .i64 (E.size : Int)) rfl (yl_other rfl (fun f1 f2 wx hT => ?_)) ?_
 ·refine lands_value (w := wx) ?_ hT; go_simp; skip
 simp only [pu]
 refine anyL_take (i := 11) (v := .int .i64 (hi : Int)) rfl (yl_other rfl (fun f1 f2 wx hT => ?_)) ?_
 ·refine lands_value (w := wx) ?_ hT; go_simp; skip
 simp only [pu]
 refine anyL_take (i := 12) (v := .int .u8 (hi : Int)) rfl (yl_other rfl (fun f1 f2 wx hT => ?_)) ?_
 ·refine lands_value (w := wx) ?_ hT; go_simp; skip
 simp only [pu]
 refine anyL_take (i := 13) (v := .slice (some ⟨wz.heap.size, 0, none⟩) 2 2) rfl (yl_first (by decide) rfl (fun f2 wx hT => ?_)) ?_
 ·rw [HT0.out wx hT]; go_simp; exact ⟨rfl, rfl⟩
 simp only [pu]
 refine anyL_take (i := 14) (v := .string (twoB E.size)) rfl (yl_behind (n := 3) (by decide) (by decide) (by kernel_rfl) rfl (fun f2 wx hT => ?_)) ?_
 ·refine lands_value (w := wx) ?_ hT; rw [HT1.out wx hT]; have cc := HCV.out; go_simp; skip
 simp only [pu]
 refine anyL_take (i := 15) (v := .string B4) rfl (yl_other rfl (fun f1 f2 wx hT => ?_)) ?_
 ·refine lands_value (w := wx) ?_ hT; go_simp; omega
 simp only [pu]
 refine anyL_take (i := 16) (v := .string E) rfl (yl_other rfl (fun f1 f2 wx hT => ?_)) ?_
 ·refine lands_value (w := wx) ?_ hT; go_simp; skip
 simp only [pu]
 refine anyL_take (i := 17) (v := .string B5) rfl (yl_other rfl (fun f1 f2 wx hT => ?_)) ?_
 ·refine lands_value (w := wx) ?_ hT; go_simp; omega
 simp only [pu]
 refine anyL_take (i := 18) (v := .string nm) rfl (yl_other rfl (fun f1 f2 wx hT => ?_)) ?_
 ·refine lands_value (w := wx) ?_ hT; go_simp; skip
 simp only [pu]
 refine anyL_take (i := 19) (v := .string N) rfl (yl_other rfl (fun f1 f2 wx hT => ?_)) ?_
 ·refine lands_calls (f := 14) ((HN.out wx).mono fun e w' ⟨h1, h2⟩ => ⟨h1, by rw [h2]; exact hT⟩) ?_; go_simp; skip
 simp only [pu]
 refine anyL_take (i := 20) (v := .string B6) rfl (yl_other rfl (fun f1 f2 wx hT => ?_)) ?_
 ·refine lands_value (w := wx) ?_ hT; go_simp; omega
 simp only [pu]
 refine anyL_take (i := 21) (v := .string B7) rfl (yl_other rfl (fun f1 f2 wx hT => ?_)) ?_
 ·refine lands_value (w := wx) ?_ hT; go_simp; omega
 simp only [pu]
 refine anyL_take (i := 22) (v := .string cm) rfl (yl_other rfl (fun f1 f2 wx hT => ?_)) ?_
 ·refine lands_value (w := wx) ?_ hT; go_simp; skip
 simp only [pu]
 refine anyL_take (i := 23) (v := .string C) rfl (yl_other rfl (fun f1 f2 wx hT => ?_)) ?_
 ·refine lands_calls (f := 14) ((HC.out wx).mono fun e w' ⟨h1, h2⟩ => ⟨h1, by rw [h2]; exact hT⟩) ?_; go_simp; skip
 simp only [pu]
 refine anyL_take (i := 24) (v := .string B8) rfl (yl_other rfl (fun f1 f2 wx hT => ?_)) ?_
 ·refine lands_value (w := wx) ?_ hT; go_simp; omega
 simp only [pu]
 refine anyL_take (i := 25) (v := .string H) rfl (yl_other rfl (fun f1 f2 wx hT => ?_)) ?_
 ·refine lands_value (w := wx) ?_ hT; go_simp; omega
 simp only [pu]
 refine anyL_take (i := 26) (v := .string H) rfl (yl_other rfl (fun f1 f2 wx hT => ?_)) ?_
 ·refine lands_value (w := wx) ?_ hT; go_simp; skip
 simp only [pu]
 refine anyL_done (by kernel_rfl) (fun w3 (hw3 : w3 = wz.alloc (.cells #[.int .u8 (lo : Int), .int .u8 (hi : Int)] 5)) => ?_) _
 have HB3 : Hid (Below w.heap.size w w3) := Lib.hid (by rw [hw3]; exact HB2d.out.trans (((Below.refl _ wz).alloc (Nat.le_refl _) _).mono HB2d.out.size))
 clear hw3 HT0 HT1 HCV hwz HB2d HB2w hB0 hB1 hB2 hB3 hB4 hB5 hB6 hB7 hB8 hH q1 q3 q4 q5 q6 q7 q8 q9 hlo1 hhi1 hhi2 p3
 go_wp2_with fail
 refine (CS.out w3).mono ?_
 rintro e w4 ⟨rfl, b4⟩
 have HB4 := Lib.hid (HB3.out.trans (b4.mono HB3.out.size))
 clear b4 HB3
 obtain ⟨hX1, hY1, hX2, hY2, hB9, qx1, qy1, qx2, qy2, hc1, hc2, hc3, hcw, hd1, hd2, hd3, hx, hsh⟩ := HQ2.out
 go_wp2_with fail
 have HB4d := Lib.hid HB4.out.drew
 clear HB4
 refine heldT_start (by kernel_rfl) ?_
 change wpAnyH _ _ _ _ _ _ _ _ w4.drew
 generalize w4.drew = w5 at HB4d ⊢
 have HCV := Lib.hid (run_2b clo chi HB2.out.2.2.1 HB2.out.2.2.2.1 w5)
 rw [HTX.out.2.1] at HCV
 refine heldT_take (i := 0) (v := .string H) rfl rfl (fun wx => ?_) ?_
 ·go_simp; skip
 simp only [pu]
 refine heldT_take (i := 1) (v := .int .i64 (c : Int)) rfl rfl (fun wx => ?_) ?_
 ·go_simp; skip
 simp only [pu]
 refine heldT_take (i := 2) (v := .int .u8 (clo : Int)) rfl rfl (fun wx => ?_) ?_
 ·go_simp; skip
 simp only [pu]
 refine heldT_take (i := 3) (v := .int .i64 (c : Int)) rfl rfl (fun wx => ?_) ?_
 ·go_simp; skip
 simp only [pu]
 refine heldT_take (i := 4) (v := .int .i64 (csh : Int)) rfl rfl (fun wx => ?_) ?_
 ·go_simp; skip
 simp only [pu]
 refine heldT_take (i := 5) (v := .int .u8 (chi : Int)) rfl rfl (fun wx => ?_) ?_
 ·go_simp; skip
 simp only [pu]
 refine heldT_take (i := 9) (v := .string P) rfl rfl (fun wx => ?_) ?_
 ·go_simp; skip
 simp only [pu]
 refine heldT_take (i := 10) (v := .string B9) rfl rfl (fun wx => ?_) ?_
 ·go_simp; skip
 simp only [pu]
 refine heldT_lands (i := 6) (v := .slice (some ⟨w5.heap.size, 0, none⟩) 2 2) (R := fun wx => wx = w5.alloc (.cells #[.int .u8 (clo : Int), .int .u8 (chi : Int)] 5)) (by kernel_rfl) rfl rfl (by go_simp; exact ⟨rfl, rfl⟩) ?_
 rintro wy rfl
 simp only [pu]
 refine heldT_lands (i := 7) (v := .string (twoB c)) (R := fun wx => wx = w5.alloc (.cells #[.int .u8 (clo : Int), .int .u8 (chi : Int)] 5)) (by kernel_rfl) rfl rfl (by refine lands_value (w := w5.alloc (.cells #[.int .u8 (clo : Int), .int .u8 (chi : Int)] 5)) ?_ rfl; have cc := HCV.out; go_simp; skip) ?_
 rintro wy rfl
 simp only [pu]
 refine heldT_take (i := 8) (v := .string X1) rfl rfl (fun wx => ?_) ?_
 ·go_simp; omega
 simp only [pu]
 refine heldT_take (i := 11) (v := .string Y1) rfl rfl (fun wx => ?_) ?_
 ·go_simp; omega
 simp only [pu]
 have HB5 : Hid (Below w.heap.size w (w5.alloc (.cells #[.int .u8 (clo : Int), .int .u8 (chi : Int)] 5))) := Lib.hid (HB4d.out.trans (((Below.refl _ w5).alloc (Nat.le_refl _) _).mono HB4d.out.size))
 refine heldT_call (i := 12) (f := 12) (by kernel_rfl) rfl rfl (by go_simp; skip) ((O1.out _).mono ?_)
 rintro e w6 ⟨rfl, b6⟩
 have HB6 := Lib.hid (HB5.out.trans (b6.mono HB5.out.size))
 clear b6 HB5 HB4d HCV
 refine ⟨_, rfl, ?_⟩
 simp only [pu]
 refine heldT_take (i := 13) (v := .tuple #[.string U, .int .i64 0]) rfl rfl (fun wx => ?_) ?_
 ·go_simp; skip
 simp only [pu]
 refine heldT_take (i := 14) (v := .string U) rfl rfl (fun wx => ?_) ?_
 ·go_simp; skip
 simp only [pu]
 refine heldT_take (i := 15) (v := .int .i64 0) rfl rfl (fun wx => ?_) ?_
 ·go_simp; skip
 simp only [pu]
 refine heldT_take (i := 16) (v := .string U) rfl rfl (fun wx => ?_) ?_
 ·go_simp; skip
 simp only [pu]
 refine heldT_take (i := 17) (v := .int .i64 0) rfl rfl (fun wx => ?_) ?_
 ·go_simp; skip
 simp only [pu]
 refine wpAnyH_done (by kernel_rfl) ?_ _
 go_wp2_with fail
 have HB6d := Lib.hid HB6.out.drew
 clear HB6
 refine heldT_start (by kernel_rfl) ?_
 change wpAnyH _ _ _ _ _ _ _ _ w6.drew
 generalize w6.drew = w7 at HB6d ⊢
 have HCV := Lib.hid (run_2b dlo dhi HB2.out.2.2.2.2.1 HB2.out.2.2.2.2.2 w7)
 rw [HTX.out.2.2] at HCV
 refine heldT_take (i := 0) (v := .string H) rfl rfl (fun wx => ?_) ?_
 ·go_simp; skip
 simp only [pu]
 refine heldT_take (i := 1) (v := .int .i64 (d : Int)) rfl rfl (fun wx => ?_) ?_
 ·go_simp; skip
 simp only [pu]
 refine heldT_take (i := 2) (v := .int .u8 (dlo : Int)) rfl rfl (fun wx => ?_) ?_
 ·go_simp; skip
 simp only [pu]
 refine heldT_take (i := 3) (v := .int .i64 (d : Int)) rfl rfl (fun wx => ?_) ?_
 ·go_simp; skip
 simp only [pu]
 refine heldT_take (i := 4) (v := .int .i64 (dsh : Int)) rfl rfl (fun wx => ?_) ?_
 ·go_simp; skip
 simp only [pu]
 refine heldT_take (i := 5) (v := .int .u8 (dhi : Int)) rfl rfl (fun wx => ?_) ?_
 ·go_simp; skip
 simp only [pu]
 refine heldT_take (i := 9) (v := .string P) rfl rfl (fun wx => ?_) ?_
 ·go_simp; skip
 simp only [pu]
 refine heldT_take (i := 10) (v := .string B9) rfl rfl (fun wx => ?_) ?_
 ·go_simp; skip
 simp only [pu]
 refine heldT_lands (i := 6) (v := .slice (some ⟨w7.heap.size, 0, none⟩) 2 2) (R := fun wx => wx = w7.alloc (.cells #[.int .u8 (dlo : Int), .int .u8 (dhi : Int)] 5)) (by kernel_rfl) rfl rfl (by go_simp; exact ⟨rfl, rfl⟩) ?_
 rintro wy rfl
 simp only [pu]
 refine heldT_lands (i := 7) (v := .string (twoB d)) (R := fun wx => wx = w7.alloc (.cells #[.int .u8 (dlo : Int), .int .u8 (dhi : Int)] 5)) (by kernel_rfl) rfl rfl (by refine lands_value (w := w7.alloc (.cells #[.int .u8 (dlo : Int), .int .u8 (dhi : Int)] 5)) ?_ rfl; have cc := HCV.out; go_simp; skip) ?_
 rintro wy rfl
 simp only [pu]
 refine heldT_take (i := 8) (v := .string X2) rfl rfl (fun wx => ?_) ?_
 ·go_simp; omega
 simp only [pu]
 refine heldT_take (i := 11) (v := .string Y2) rfl rfl (fun wx => ?_) ?_
 ·go_simp; omega
 simp only [pu]
 have HB7 : Hid (Below w.heap.size w (w7.alloc (.cells #[.int .u8 (dlo : Int), .int .u8 (dhi : Int)] 5))) := Lib.hid (HB6d.out.trans (((Below.refl _ w7).alloc (Nat.le_refl _) _).mono HB6d.out.size))
 refine heldT_call (i := 12) (f := 12) (by kernel_rfl) rfl rfl (by go_simp; skip) ((O2.out _).mono ?_)
 rintro e w8 ⟨rfl, b8⟩
 have HB8 := Lib.hid (HB7.out.trans (b8.mono HB7.out.size))
 clear b8 HB7 HB6d HCV
 refine ⟨_, rfl, ?_⟩
 simp only [pu]
 refine heldT_take (i := 13) (v := .tuple #[.string ⟨#[]⟩, .int .i64 8]) rfl rfl (fun wx => ?_) ?_
 ·go_simp; skip
 simp only [pu]
 refine heldT_take (i := 14) (v := .string ⟨#[]⟩) rfl rfl (fun wx => ?_) ?_
 ·go_simp; skip
 simp only [pu]
 refine heldT_take (i := 15) (v := .int .i64 8) rfl rfl (fun wx => ?_) ?_
 ·go_simp; skip
 simp only [pu]
 refine heldT_take (i := 16) (v := .string ⟨#[]⟩) rfl rfl (fun wx => ?_) ?_
 ·go_simp; skip
 simp only [pu]
 refine heldT_take (i := 17) (v := .int .i64 8) rfl rfl (fun wx => ?_) ?_
 ·go_simp; skip
 simp only [pu]
 refine wpAnyH_done (by kernel_rfl) ?_ _
 go_wp2_with fail
 go_ret
 exact ⟨rfl, HB8.out⟩
theorem gzNamed_int (s nm cm ex : ByteArray) (b : Int) (h0 : 0 ≤ b) (h1 : b < 256) (hs : s.size ≤ 140737488351232) (hn : nm.size ≤ 140737488351232) (hc : cm.size ≤ 140737488351232) (he : ex.size ≤ 140737488351232) (w : World) :
  Calls Tryz.prog 7 #[.string s, .string nm, .string cm, .string ex, .int .u8 b] w fun e w' => e = .returned (.bool true) ∧ Below w.heap.size w w' := by
 obtain ⟨n, rfl⟩ : ∃ n : Nat, b = (n : Int) := ⟨b.toNat, by omega⟩
 exact gzNamed_any s nm cm ex n (by omega) hs hn hc he w
end Go.Proofs.YtmhoejmgjbgddaaGreat
