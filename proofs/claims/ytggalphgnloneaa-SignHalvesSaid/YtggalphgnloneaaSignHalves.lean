/- SignHalves: the walk. (written by mkTl.py) -/
import Derived.Test.YtggalphgnloneaaTh
namespace Go.Proofs.Ytggalphgnloneaa
open Go.RowKit
theorem ord_ok : okD ⟨#[101, 100, 100, 51, 102, 53, 53, 99, 49, 97, 54, 51, 49, 50, 53, 56, 100, 54, 57, 99, 102, 55, 97, 50, 100, 101, 102, 57, 100, 101, 49, 52, 48, 48, 48, 48, 48, 48, 48, 48, 48, 48, 48, 48, 48, 48, 48, 48, 48, 48, 48, 48, 48, 48, 48, 48, 48, 48, 48, 48, 48, 48, 49, 48]⟩ 32 (bytesV qL) = true := by decide +kernel
set_option maxRecDepth 100000 in
set_option maxHeartbeats 2000000 in
theorem halves_s (s t : ByteArray) (ht : t.size ≤ 100) (w : World) :
    Calls Try.prog 5 #[.string s, .string t] w fun e w' => e = .returned (.bool true) ∧ Below w.heap.size w w' := by
  have hz := seedV_size s
  have CD := Lib.hid (fun w => seed_is s (seedV s) rfl w)
  generalize seedV s = z at *
  have hu3 : t.size ≤ 1000 := by omega
  have has := signV_size z t
  have CP := Lib.hid (fun w => public_t z w hz (publicV z) rfl)
  have CS := Lib.hid (fun w => sign_t z t w hz hu3 (signV z t) rfl)
  have CV := Lib.hid (verify_is (publicV z) t (signV z t) true hu3 (signed z t))
  obtain ⟨S, hS, hb⟩ := second_byte z t
  have CW := Lib.hid (verify_is (publicV z) t (textN 64 (haF (signV z t) S qL 32)) false hu3 (verV_right (half_wrong _ hS)))
  generalize signV z t = a at *
  generalize publicV z = p at *
  have CO : Hid (∀ d, okD d 32 (bytesV qL) = true → ∀ w, Calls Try.prog 11 #[.string d] w fun e w' => e = .returned (.string (bytesV qL)) ∧ Below w.heap.size w w') := Lib.hid (fun d h w => bytes_is d (bytesV qL) 32 (by decide) h w)
  have OB : Hid (∀ j, j < 32 → byteS (bytesV qL) j = byteK qL j) := Lib.hid (fun j hj => byteS_bytesV qL j hj)
  have hos := bytesV_size qL
  have HB := Lib.hid hb
  have HE := Lib.hid (caK_end hS)
  have OK : Hid (okD _ 32 (bytesV qL) = true) := Lib.hid ord_ok
  clear hb hS
  generalize bytesV qL = o at *
  generalize qL = Q at *
  go_enter Try.func5, Try.ntmps5
  go_wp2_with fail
  refine (examples6_any _).mono ?_
  rintro e w1 ⟨rfl, b1⟩
  go_wp2_with fail
  refine (CD.out _).mono ?_
  rintro e w2 ⟨rfl, b2⟩
  have c2 := b1.trans (b2.mono b1.size)
  clear b1 b2
  go_wp2_with fail
  refine (CP.out _).mono ?_
  rintro e w3 ⟨rfl, b3⟩
  have c3 := c2.trans (b3.mono c2.size)
  clear c2 b3
  go_wp2_with fail
  refine (CS.out _).mono ?_
  rintro e w4 ⟨rfl, b4⟩
  have c4 := c3.trans (b4.mono c3.size)
  clear c3 b4
  go_wp2_with fail
  refine (CO.out _ OK.out _).mono ?_
  rintro e w5 ⟨rfl, b5⟩
  have c5 := c4.trans (b5.mono c4.size)
  clear c4 b5
  obtain ⟨cap, W1, hcv, hX, hB⟩ := bytes64_start a w5 has
  have hB1 := c5.trans (hB.mono c5.size)
  have hge := c5.size
  generalize w5.heap.size = g at hcv hX hge
  clear hB c5
  go_wp2_with fail
  go_loopw [12, 13, 14] (fun cv i _ wr => ∃ k : Nat, k ≤ 32 ∧ i = .int .i64 (k : Int) ∧ cv = .int .i64 (caK S Q k : Int) ∧ ClY (haF a S Q k) g wr ∧ Below w.heap.size w wr) (fun _ i _ _ => 32 - (intOf i).toNat)
  case atStart => exact ⟨0, by omega, rfl, by rw [caK_zero]; rfl, by rw [haF_zero]; exact hX, hB1⟩
  case round =>
    obtain ⟨k, hk, rfl, rfl, hr, hb⟩ := hrel
    clear hX hB1 hcv
    by_cases hlt : k < 32
    · have c0 := hr.c (32 + k) (by omega)
      rw [haF_at _ _ _ _ (HB.out k hlt)] at c0
      have f0 := hr.fz (32 + k) (by omega)
      have hko : k < o.size := by omega
      have e8 := byteS_at o k hko
      rw [OB.out k hlt] at e8
      have HPT := Lib.hid ((hr.drew.put (32 + k) (byteK (S + Q) k)).cast (haF_put a S Q k))
      have HBT := Lib.hid (hb.drew.setCell (p := ⟨g, 32 + k, none⟩) hge (.int .u8 (byteK (S + Q) k : Int)))
      have E1 := caK_byte S Q k
      have E2 := caK_next S Q k
      have x1 := byteK_lt S k
      have x2 := byteK_lt Q k
      have x3 := caK_le S Q k
      generalize byteK (S + Q) k = r at *
      obtain ⟨d, hd⟩ : ∃ d, d = caK S Q (k + 1) := ⟨_, rfl⟩
      rw [← hd] at E2
      have HDD := Lib.hid hd
      clear hd
      generalize byteK S k = x at *
      generalize byteK Q k = y at *
      generalize caK S Q k = c at *
      clear hr hb
      have hlti : (k : Int) < 32 := by omega
      go_wp2_with fail
      go_region
      obtain ⟨n, hn⟩ : ∃ n : Nat, n = x + y + c := ⟨_, rfl⟩
      rw [show (x : Int) + y + c = (n : Int) by omega]
      rw [← hn] at E1 E2
      have hw : IntKind.u8.wrap (n : Int) = (r : Int) := by rw [IntKind.wrap_u8]; omega
      have hq : (n : Int) / 256 = (d : Int) := by omega
      have hq2 : (n : Int).tdiv 256 = (d : Int) := by rw [Int.tdiv_eq_ediv_of_nonneg (by omega)]; omega
      have hn6 : n < 600 := by omega
      clear hn E1 E2 x1 x2 x3 e8
      go_wp2_with fail
      go_roundw
      case rel => exact ⟨k + 1, by omega, by go_num, by rw [HDD.out], HPT.out, HBT.out⟩
      case measure => simp [intOf]; omega
    · obtain rfl : k = 32 := by omega
      have hcv2 := bytes64_end hr (fun j => haF_lt a S Q 32 j) cap
      rw [HE.out]
      generalize textN 64 (haF a S Q 32) = v at *
      clear hr
      go_wp2_with fail
      refine (CW.out _).mono ?_
      rintro e w7 ⟨rfl, b7⟩
      have c7 := hb.trans (b7.mono hb.size)
      clear hb b7
      go_wp2_with fail
      refine (CV.out _).mono ?_
      rintro e w8 ⟨rfl, b8⟩
      have c8 := c7.trans (b8.mono c7.size)
      clear c7 b8
      go_wp2_with fail
      go_ret
      exact ⟨rfl, c8⟩
set_option maxRecDepth 100000 in
set_option maxHeartbeats 2000000 in
theorem halves_l (s t : ByteArray) (ht : 100 < t.size) (w : World) :
    Calls Try.prog 5 #[.string s, .string t] w fun e w' => e = .returned (.bool true) ∧ Below w.heap.size w w' := by
  have hz := seedV_size s
  have CD := Lib.hid (fun w => seed_is s (seedV s) rfl w)
  generalize seedV s = z at *
  obtain ⟨u, hu⟩ : ∃ u, t.extract 0 100 = u := ⟨_, rfl⟩
  have hu3 : u.size ≤ 1000 := by rw [← hu, ByteArray.size_extract]; omega
  have has := signV_size z u
  have CP := Lib.hid (fun w => public_t z w hz (publicV z) rfl)
  have CS := Lib.hid (fun w => sign_t z u w hz hu3 (signV z u) rfl)
  have CV := Lib.hid (verify_is (publicV z) u (signV z u) true hu3 (signed z u))
  obtain ⟨S, hS, hb⟩ := second_byte z u
  have CW := Lib.hid (verify_is (publicV z) u (textN 64 (haF (signV z u) S qL 32)) false hu3 (verV_right (half_wrong _ hS)))
  generalize signV z u = a at *
  generalize publicV z = p at *
  have CO : Hid (∀ d, okD d 32 (bytesV qL) = true → ∀ w, Calls Try.prog 11 #[.string d] w fun e w' => e = .returned (.string (bytesV qL)) ∧ Below w.heap.size w w') := Lib.hid (fun d h w => bytes_is d (bytesV qL) 32 (by decide) h w)
  have OB : Hid (∀ j, j < 32 → byteS (bytesV qL) j = byteK qL j) := Lib.hid (fun j hj => byteS_bytesV qL j hj)
  have hos := bytesV_size qL
  have HB := Lib.hid hb
  have HE := Lib.hid (caK_end hS)
  have OK : Hid (okD _ 32 (bytesV qL) = true) := Lib.hid ord_ok
  clear hb hS
  generalize bytesV qL = o at *
  generalize qL = Q at *
  go_enter Try.func5, Try.ntmps5
  go_wp2_with fail
  refine (examples6_any _).mono ?_
  rintro e w1 ⟨rfl, b1⟩
  go_wp2_with fail
  refine (CD.out _).mono ?_
  rintro e w2 ⟨rfl, b2⟩
  have c2 := b1.trans (b2.mono b1.size)
  clear b1 b2
  go_wp2_with fail
  refine (CP.out _).mono ?_
  rintro e w3 ⟨rfl, b3⟩
  have c3 := c2.trans (b3.mono c2.size)
  clear c2 b3
  go_wp2_with fail
  refine (CS.out _).mono ?_
  rintro e w4 ⟨rfl, b4⟩
  have c4 := c3.trans (b4.mono c3.size)
  clear c3 b4
  go_wp2_with fail
  refine (CO.out _ OK.out _).mono ?_
  rintro e w5 ⟨rfl, b5⟩
  have c5 := c4.trans (b5.mono c4.size)
  clear c4 b5
  obtain ⟨cap, W1, hcv, hX, hB⟩ := bytes64_start a w5 has
  have hB1 := c5.trans (hB.mono c5.size)
  have hge := c5.size
  generalize w5.heap.size = g at hcv hX hge
  clear hB c5
  go_wp2_with fail
  go_loopw [12, 13, 14] (fun cv i _ wr => ∃ k : Nat, k ≤ 32 ∧ i = .int .i64 (k : Int) ∧ cv = .int .i64 (caK S Q k : Int) ∧ ClY (haF a S Q k) g wr ∧ Below w.heap.size w wr) (fun _ i _ _ => 32 - (intOf i).toNat)
  case atStart => exact ⟨0, by omega, rfl, by rw [caK_zero]; rfl, by rw [haF_zero]; exact hX, hB1⟩
  case round =>
    obtain ⟨k, hk, rfl, rfl, hr, hb⟩ := hrel
    clear hX hB1 hcv
    by_cases hlt : k < 32
    · have c0 := hr.c (32 + k) (by omega)
      rw [haF_at _ _ _ _ (HB.out k hlt)] at c0
      have f0 := hr.fz (32 + k) (by omega)
      have hko : k < o.size := by omega
      have e8 := byteS_at o k hko
      rw [OB.out k hlt] at e8
      have HPT := Lib.hid ((hr.drew.put (32 + k) (byteK (S + Q) k)).cast (haF_put a S Q k))
      have HBT := Lib.hid (hb.drew.setCell (p := ⟨g, 32 + k, none⟩) hge (.int .u8 (byteK (S + Q) k : Int)))
      have E1 := caK_byte S Q k
      have E2 := caK_next S Q k
      have x1 := byteK_lt S k
      have x2 := byteK_lt Q k
      have x3 := caK_le S Q k
      generalize byteK (S + Q) k = r at *
      obtain ⟨d, hd⟩ : ∃ d, d = caK S Q (k + 1) := ⟨_, rfl⟩
      rw [← hd] at E2
      have HDD := Lib.hid hd
      clear hd
      generalize byteK S k = x at *
      generalize byteK Q k = y at *
      generalize caK S Q k = c at *
      clear hr hb
      have hlti : (k : Int) < 32 := by omega
      go_wp2_with fail
      go_region
      obtain ⟨n, hn⟩ : ∃ n : Nat, n = x + y + c := ⟨_, rfl⟩
      rw [show (x : Int) + y + c = (n : Int) by omega]
      rw [← hn] at E1 E2
      have hw : IntKind.u8.wrap (n : Int) = (r : Int) := by rw [IntKind.wrap_u8]; omega
      have hq : (n : Int) / 256 = (d : Int) := by omega
      have hq2 : (n : Int).tdiv 256 = (d : Int) := by rw [Int.tdiv_eq_ediv_of_nonneg (by omega)]; omega
      have hn6 : n < 600 := by omega
      clear hn E1 E2 x1 x2 x3 e8
      go_wp2_with fail
      go_roundw
      case rel => exact ⟨k + 1, by omega, by go_num, by rw [HDD.out], HPT.out, HBT.out⟩
      case measure => simp [intOf]; omega
    · obtain rfl : k = 32 := by omega
      have hcv2 := bytes64_end hr (fun j => haF_lt a S Q 32 j) cap
      rw [HE.out]
      generalize textN 64 (haF a S Q 32) = v at *
      clear hr
      go_wp2_with fail
      refine (CW.out _).mono ?_
      rintro e w7 ⟨rfl, b7⟩
      have c7 := hb.trans (b7.mono hb.size)
      clear hb b7
      go_wp2_with fail
      refine (CV.out _).mono ?_
      rintro e w8 ⟨rfl, b8⟩
      have c8 := c7.trans (b8.mono c7.size)
      clear c7 b8
      go_wp2_with fail
      go_ret
      exact ⟨rfl, c8⟩
theorem halves_any (s t : ByteArray) (w : World) :
    Calls Try.prog 5 #[.string s, .string t] w fun e w' => e = .returned (.bool true) ∧ Below w.heap.size w w' := by
  rcases Nat.lt_or_ge 100 t.size with ht | ht
  · exact halves_l s t ht w
  · exact halves_s s t ht w
end Go.Proofs.Ytggalphgnloneaa
