/- InflateStored: the law's walk. -/
import Derived.Test.YtiphnnaanjjaoaaMU
import Derived.Laws.BitsLemmas
namespace Go.Proofs.Ytiphnnaanjjaoaa
open Go.RowKit
set_option maxRecDepth 100000 in
set_option maxHeartbeats 8000000 in
theorem inflateStored_sl (p : Option Addr) (n cap : Nat) (f : Nat → ByteArray) (which : Int) (by_ : Nat) (w : World) (hn : n ≤ 9223372036854775807) (hcap : n ≤ cap) (hp : ∀ i, i < n → ∃ a, p = some a ∧ a.block < w.heap.size ∧ w.cell? (a.add i) = some (.string (f i)))
    (hf : ∀ i, (f i).size ≤ 9223372036854775807) (hw1 : -9223372036854775808 ≤ which) (hw2 : which < 9223372036854775808) (hby : by_ < 65536) :
    Calls Try.prog 5 #[.slice p n cap, .int .i64 which, .int .u16 (by_ : Int)] w fun e w' => e = .returned (.bool true) ∧ Below w.heap.size w w' := by
  have C := ex10_any w trivial
  obtain ⟨N, hN⟩ : ∃ N, N = min n 10 := ⟨_, rfl⟩
  obtain ⟨t, ht⟩ : ∃ t : Nat → List Nat, t = fun i => lstB ((f i).extract 0 (min (f i).size 300)) := ⟨_, rfl⟩
  have HT : Hid (∀ i, lstB ((f i).extract 0 (min (f i).size 300)) = t i) := Lib.hid fun i => by rw [ht]
  have HTL : Hid (∀ i, (t i).length = min (f i).size 300) := Lib.hid fun i => by rw [ht]; dsimp only; rw [lstB_len, ByteArray.size_extract]; omega
  have HT3 : Hid (∀ i, (t i).length ≤ 300) := Lib.hid fun i => by rw [HTL.out i]; omega
  have HTB : Hid (∀ i, ∀ x ∈ t i, x < 256) := Lib.hid fun i x hx => by rw [ht] at hx; exact lstB_lt _ x hx
  have HN := Lib.hid hN
  have HP := Lib.hid hp
  have HF := Lib.hid hf
  have HNN := Lib.hid (⟨hn, hcap⟩ : n ≤ 9223372036854775807 ∧ n ≤ cap)
  have HWH := Lib.hid (⟨hw1, hw2⟩ : -9223372036854775808 ≤ which ∧ which < 9223372036854775808)
  have HBY := Lib.hid hby
  clear hN ht hp hf hcap hw1 hw2 hby
  go_enter Try.func5, Try.ntmps5
  go_wp2_with fail
  refine C.mono ?_
  rintro e w1 ⟨rfl, b1⟩
  have HB := Lib.hid b1
  clear C b1
  go_wp2_with fail
  have hL0 : LI w.heap.size w (firstI (fun i => (((stoL t N i).length + 3 : Nat) : Int)) 0) (.slice none 0 0) w1 := LI.nil HB.out HB.out.size
  have HL0 := Lib.hid hL0
  clear hL0
  rw [show (ByteArray.mk #[] : ByteArray) = txtL [] from txt0.symm]
  go_loopw [8, 9, 10, 11] (fun s8 s9 s10 s11 wr => ∃ (k : Nat) (v10 : Value), k ≤ N ∧ s8 = .string (txtL (stoL t N k)) ∧ s9 = .string (txtL (allL t k)) ∧ v10 = s10 ∧ s11 = .int .i64 (k : Int) ∧ Hid (LI w.heap.size w (firstI (fun i => (((stoL t N i).length + 3 : Nat) : Int)) k) v10 wr)) (fun _ _ _ i _ => N - (intOf i).toNat)
  case atStart => exact ⟨0, _, by omega, rfl, rfl, rfl, rfl, HL0⟩
  case round =>
    obtain ⟨k, v10, hk, rfl, rfl, rfl, rfl, HL⟩ := hrel
    clear HL0
    have hN10 : N ≤ 10 := by have := HN.out; omega
    by_cases hlt : k < N
    · have hlt1 : (k : Int) < (n : Int) := by have := HN.out; omega
      have hlt2 : (k : Int) < 10 := by omega
      obtain ⟨a, ha, hab, hac⟩ := HP.out k (by omega)
      subst ha
      have hab2 : (a.add k).block < w.heap.size := by rw [show (a.add k).block = a.block by unfold Addr.add; split <;> rfl]; exact hab
      have hac2 : wr.cell? (a.add k) = some (.string (f k)) := (HL.out.b.cell hab2).trans hac
      have HKN := Lib.hid (⟨hlt, hk⟩ : k < N ∧ k ≤ N)
      obtain ⟨m, hm⟩ : ∃ m, m = min (f k).size 300 := ⟨_, rfl⟩
      have hm3 : m ≤ 300 := by omega
      have hmi : (m : Int) ≤ ((f k).size : Int) := by omega
      have HM := Lib.hid hm
      have hsz := HF.out k
      have HAC := Lib.hid hac2
      clear hm hab hac hab2 hlt hk hac2
      go_wp2_with fail
      refine wp_region_anyL (Two 1000 1001 fun _ _ wx => wx = wr.drew) (by kernel_rfl) rfl ?_
      refine anyL_take (i := 0) (v := ?_) rfl (by kernel_rfl) (by kernel_rfl) (by kernel_rfl) (yl_other (by decide) (by decide) rfl (fun f1 f2 wx hT => ?_)) ?_; rotate_left
      · refine lands_value (w := wx) ?_ hT; go_simp <;> rfl
      simp only [pu]
      refine anyL_take (i := 1) (v := ?_) rfl (by kernel_rfl) (by kernel_rfl) (by kernel_rfl) (yl_other (by decide) (by decide) rfl (fun f1 f2 wx hT => ?_)) ?_; rotate_left
      · refine lands_value (w := wx) ?_ hT; go_simp <;> rfl
      simp only [pu]
      refine anyL_take (i := 2) (v := .pointer (some (a.add k))) rfl (by kernel_rfl) (by kernel_rfl) (by kernel_rfl) (yl_other (by decide) (by decide) rfl (fun f1 f2 wx hT => ?_)) ?_
      · have h5 := hT; refine lands_value (w := wx) ?_ hT; go_simp; skip
      simp only [pu]
      refine anyL_take (i := 3) (v := .string (f k)) rfl (by kernel_rfl) (by kernel_rfl) (by kernel_rfl) (yl_other (by decide) (by decide) rfl (fun f1 f2 wx hT => ?_)) ?_
      · have cc := HAC.out
        refine lands_value (w := wx) ?_ hT; go_simp; skip
      simp only [pu]
      refine anyL_take (i := 4) (v := ?_) rfl (by kernel_rfl) (by kernel_rfl) (by kernel_rfl) (yl_other (by decide) (by decide) rfl (fun f1 f2 wx hT => ?_)) ?_; rotate_left
      · refine lands_value (w := wx) ?_ hT; go_simp <;> rfl
      simp only [pu]
      refine anyL_take (i := 5) (v := ?_) rfl (by kernel_rfl) (by kernel_rfl) (by kernel_rfl) (yl_other (by decide) (by decide) rfl (fun f1 f2 wx hT => ?_)) ?_; rotate_left
      · refine lands_value (w := wx) ?_ hT; go_simp <;> rfl
      simp only [pu]
      refine anyL_take (i := 6) (v := .pointer (some (a.add k))) rfl (by kernel_rfl) (by kernel_rfl) (by kernel_rfl) (yl_other (by decide) (by decide) rfl (fun f1 f2 wx hT => ?_)) ?_
      · have h5 := hT; refine lands_value (w := wx) ?_ hT; go_simp; skip
      simp only [pu]
      refine anyL_take (i := 7) (v := .string (f k)) rfl (by kernel_rfl) (by kernel_rfl) (by kernel_rfl) (yl_other (by decide) (by decide) rfl (fun f1 f2 wx hT => ?_)) ?_
      · have cc := HAC.out
        refine lands_value (w := wx) ?_ hT; go_simp; skip
      simp only [pu]
      refine anyL_take (i := 8) (v := ?_) rfl (by kernel_rfl) (by kernel_rfl) (by kernel_rfl) (yl_other (by decide) (by decide) rfl (fun f1 f2 wx hT => ?_)) ?_; rotate_left
      · refine lands_value (w := wx) ?_ hT; go_simp <;> rfl
      simp only [pu]
      refine anyL_take (i := 9) (v := .int .i64 (m : Int)) rfl (by kernel_rfl) (by kernel_rfl) (by kernel_rfl) (yl_other (by decide) (by decide) rfl (fun f1 f2 wx hT => ?_)) ?_
      · have hm := HM.out; rw [hm]; exact (lands_min (w := wx) (.tmp 49) (f k).size 300 rfl rfl rfl).mono fun _ e => e ▸ hT
      simp only [pu]
      refine anyL_take (i := 10) (v := .string ((f k).extract 0 m)) rfl (by kernel_rfl) (by kernel_rfl) (by kernel_rfl) (yl_other (by decide) (by decide) rfl (fun f1 f2 wx hT => ?_)) ?_
      · refine lands_value (w := wx) ?_ hT; go_simp; skip
      simp only [pu]
      refine anyL_take (i := 11) (v := ?_) rfl (by kernel_rfl) (by kernel_rfl) (by kernel_rfl) (yl_other (by decide) (by decide) rfl (fun f1 f2 wx hT => ?_)) ?_; rotate_left
      · refine lands_value (w := wx) ?_ hT; go_simp <;> rfl
      simp only [pu]
      refine anyL_done rfl ?_ _
      intro w2 hT2
      subst hT2
      have hLd : LI w.heap.size w (firstI (fun i => (((stoL t N i).length + 3 : Nat) : Int)) k) v10 wr.drew := ⟨HL.out.own.drew, HL.out.b.drew, HL.out.lo⟩
      have HLd := Lib.hid hLd
      clear hLd HL HAC
      generalize wr.drew = wz at HLd ⊢
      have hlen := stoL_le t N HT3.out k
      obtain ⟨Q, hQ⟩ : ∃ Q, Q = (stoL t N k).length := ⟨_, rfl⟩
      have hQ3 : Q ≤ 3050 := by have := HKN.out; omega
      obtain ⟨S, hS⟩ : ∃ S, S = txtL (stoL t N k) := ⟨_, rfl⟩
      have hSz : S.size = Q := by rw [hS, txtL_size, hQ]
      obtain ⟨A, hA⟩ : ∃ A, A = txtL (allL t k) := ⟨_, rfl⟩
      obtain ⟨X, hX⟩ : ∃ X, X = (f k).extract 0 m := ⟨_, rfl⟩
      have hXz : X.size = m := by rw [hX, ByteArray.size_extract]; omega
      have HXT : Hid (lstB X = t k ∧ (t k).length = m) := Lib.hid ⟨by rw [hX, HM.out]; exact HT.out k, by rw [HTL.out k, HM.out]⟩
      rw [← hS, ← hA, ← hX]
      have HSQ := Lib.hid hQ
      have HSS := Lib.hid hS
      have HAA := Lib.hid hA
      have hw3 : IntKind.i64.wrap ((Q : Int) + 3) = ((Q + 3 : Nat) : Int) := by rw [IntWalk.i64_in _ (by omega)]; rfl
      have HLN : Hid ((firstI (fun i => (((stoL t N i).length + 3 : Nat) : Int)) k).length ≤ 1000) := Lib.hid (by rw [firstI_len]; omega)
      obtain ⟨R, hR⟩ : ∃ R, R = (allL t k).length := ⟨_, rfl⟩
      have hR3 : R ≤ 3000 := by omega
      have hAz : A.size = R := by rw [hA, txtL_size, hR]
      clear hlen hQ hS hA hX hmi hsz hR
      obtain ⟨M1, hM1⟩ : ∃ M1, N = M1 + 1 := ⟨N - 1, by have := HKN.out; omega⟩
      have hNw : IntKind.i64.wrap ((N : Int) - 1) = (M1 : Int) := by rw [IntWalk.i64_in _ (by omega)]; omega
      have HM1 := Lib.hid hM1
      clear hM1
      have hx := xor_small m hm3
      have ha0 : (m : Int) % 256 = ((m % 256 : Nat) : Int) := by omega
      have ha1 : (m : Int) / 256 = ((m / 256 : Nat) : Int) := by omega
      have ha2 : bits .xor .i64 (-1) (m : Int) % 256 = ((255 - m % 256 : Nat) : Int) := by rw [hx]; omega
      have ha3 : bits .xor .i64 (-1) (m : Int) / 256 % 256 = ((255 - m / 256 : Nat) : Int) := by rw [hx]; omega
      have c0 : m % 256 < 256 := by omega
      have c1 : m / 256 < 256 := by omega
      have c2 : 255 - m % 256 < 256 := by omega
      have c3 : 255 - m / 256 < 256 := by omega
      have HFR : Hid (∀ last, frL last (t k) = last :: (m % 256) :: (m / 256) :: (255 - m % 256) :: (255 - m / 256) :: t k) := Lib.hid fun last => by unfold frL; rw [HXT.out.2]
      generalize m % 256 = A0 at *
      generalize m / 256 = A1 at *
      generalize 255 - A0 = A2 at *
      generalize 255 - A1 = A3 at *
      have cv := run_four A0 A1 A2 A3 c0 c1 c2 c3
      obtain ⟨Y, hY⟩ : ∃ Y, Y = txtL [A0, A1, A2, A3] := ⟨_, rfl⟩
      have hYz : Y.size = 4 := by rw [hY, txtL_size]; rfl
      rw [← hY] at cv
      have HY := Lib.hid hY
      have hO0 : (ByteArray.mk #[0]).size = 1 := rfl
      have hO1 : (ByteArray.mk #[1]).size = 1 := rfl
      clear hY
      have HCL : Hid (A0 < 256 ∧ A1 < 256 ∧ A2 < 256 ∧ A3 < 256) := Lib.hid ⟨c0, c1, c2, c3⟩
      clear hx c0 c1 c2 c3
      have HE1 : Hid (∀ b : UInt8, b.toNat = (if k + 1 = N then 1 else 0) → S ++ ⟨#[b]⟩ ++ Y ++ X = txtL (stoL t N (k + 1))) := Lib.hid fun b hb => by
        have h1 := (stoL_lt HT3.out HTB.out N k).1
        have h2 := HTB.out k
        have h3 : ∀ x ∈ [A0, A1, A2, A3], x < 256 := fun x hx => by
          have := HCL.out
          simp only [List.mem_cons, List.not_mem_nil, or_false] at hx
          rcases hx with rfl | rfl | rfl | rfl <;> omega
        have h4 : ∀ x ∈ [b.toNat], x < 256 := fun x hx => by rw [List.mem_singleton.1 hx]; exact b.toNat_lt
        have h5 : ∀ x ∈ stoL t N k ++ [b.toNat], x < 256 := fun x hx => by
          rcases List.mem_append.1 hx with hx | hx
          · exact h1 x hx
          · exact h4 x hx
        have h6 : ∀ x ∈ stoL t N k ++ [b.toNat] ++ [A0, A1, A2, A3], x < 256 := fun x hx => by
          rcases List.mem_append.1 hx with hx | hx
          · exact h5 x hx
          · exact h3 x hx
        rw [HSS.out, txtL_one, HY.out, ← txtL_lstB X, HXT.out.1, txtL_app _ _ h1 h4, txtL_app _ _ h5 h3, txtL_app _ _ h6 h2]
        show _ = txtL (stoL t N k ++ frL (if k + 1 = N then 1 else 0) (t k))
        rw [HFR.out, ← hb]
        simp
      have HE2 : Hid (A ++ X = txtL (allL t (k + 1))) := Lib.hid (by
        rw [HAA.out, ← txtL_lstB X, HXT.out.1, txtL_app _ _ (stoL_lt HT3.out HTB.out N k).2 (HTB.out k)]
        rfl)
      have HL3 : Hid (∀ (v2 : Value) (w2 w3 : World), LI w.heap.size w (firstI (fun i => (((stoL t N i).length + 3 : Nat) : Int)) k ++ [((Q + 3 : Nat) : Int)]) v2 w2 → Below w2.heap.size w2 w3 → LI w.heap.size w (firstI (fun i => (((stoL t N i).length + 3 : Nat) : Int)) (k + 1)) v2 w3) := Lib.hid fun v2 w2 w3 h hb => by
        have e : firstI (fun i => (((stoL t N i).length + 3 : Nat) : Int)) (k + 1) = firstI (fun i => (((stoL t N i).length + 3 : Nat) : Int)) k ++ [((Q + 3 : Nat) : Int)] := by
          unfold firstI
          rw [List.range_succ, List.map_append, HSQ.out]; rfl
        rw [e]
        exact h.below hb
      by_cases hk1 : k = M1
      · subst hk1
        have HE3 : Hid (S ++ ⟨#[1]⟩ ++ Y ++ X = txtL (stoL t N (k + 1))) := Lib.hid (HE1.out 1 (by rw [if_pos HM1.out.symm]; rfl))
        clear HE1
        go_wp2_with (first | (at_builtin; refine wpList_oneS rfl (.tmp 52) (.tmp 56) rfl rfl HLd.out ((Q + 3 : Nat) : Int) rfl HLN.out ?_; intro v2 w2 hL2) | (refine wpList_valK (.int .i64 ((min n 10 : Nat) : Int)) rfl (lands_min (.tmp 60) n 10 rfl rfl rfl) ?_; intro w8 h8; obtain rfl := h8; simp only [pu]; rw [← HN.out]))
        exact ⟨⟨k + 1, v2, by have := HKN.out; omega, congrArg Value.string HE3.out, congrArg Value.string HE2.out, rfl, by go_num, Lib.hid (HL3.out v2 w8 _ hL2 ((Below.refl _ _).alloc (Nat.le_refl _) _))⟩, by simp only [intOf]; have := HKN.out; omega⟩
      · have HE3 : Hid (S ++ ⟨#[0]⟩ ++ Y ++ X = txtL (stoL t N (k + 1))) := Lib.hid (HE1.out 0 (by rw [if_neg (by have := HM1.out; omega)]; rfl))
        have hk2 : ¬ (k : Int) = (M1 : Int) := by omega
        clear HE1
        have hk3 : ((k : Int) == (M1 : Int)) = false := by simpa using hk2
        go_wp2_with (first | (at_builtin; refine wpList_oneS rfl (.tmp 52) (.tmp 56) rfl rfl HLd.out ((Q + 3 : Nat) : Int) rfl HLN.out ?_; intro v2 w2 hL2) | (refine wpList_valK (.int .i64 ((min n 10 : Nat) : Int)) rfl (lands_min (.tmp 60) n 10 rfl rfl rfl) ?_; intro w8 h8; obtain rfl := h8; simp only [pu]; rw [← HN.out]))
        exact ⟨⟨k + 1, v2, by have := HKN.out; omega, congrArg Value.string HE3.out, congrArg Value.string HE2.out, rfl, by go_num, Lib.hid (HL3.out v2 w8 _ hL2 ((Below.refl _ _).alloc (Nat.le_refl _) _))⟩, by simp only [intOf]; have := HKN.out; omega⟩
    · obtain rfl : k = N := by omega
      have hbr : (¬ (k : Int) < (n : Int)) ∨ ((k : Int) < (n : Int) ∧ ¬ (k : Int) < 10) := by have := HN.out; omega
      by_cases hk0 : k = 0
      · subst hk0
        have hz : ¬ (((0 : Nat) : Int)) < (n : Int) := by have := HN.out; omega
        have O0 := dopen_any ⟨#[]⟩ 0 wr trivial (by decide)
        rw [show openS ⟨#[]⟩ 0 = ([], 0, 2) by decide +kernel] at O0
        dsimp only at O0
        rw [txt0] at O0
        rw [show txtL (stoL t 0 0) = ⟨#[]⟩ from txt0]
        clear hbr
        go_wp2_with fail
        refine O0.mono ?_
        rintro e w2 ⟨rfl, b2⟩
        have HB2 := Lib.hid (HL.out.b.trans (b2.mono HL.out.lo))
        clear O0 b2
        go_wp2_with fail
        go_ret
        exact ⟨rfl, HB2.out⟩
      · have hlen := stoL_le t k HT3.out k
        have hpos : 5 ≤ (stoL t k k).length := by omega
        have hby3 := (stoL_lt HT3.out HTB.out k k).1
        have HBL : Hid (BL (txtL (stoL t k k)) 0 (stoL t k k)) := Lib.hid fun i hi => by rw [Nat.zero_add]; exact byteS_txtL _ hby3 i hi
        obtain ⟨S, hS⟩ : ∃ S, S = txtL (stoL t k k) := ⟨_, rfl⟩
        obtain ⟨A, hA⟩ : ∃ A, A = txtL (allL t k) := ⟨_, rfl⟩
        obtain ⟨Q, hQ⟩ : ∃ Q, Q = (stoL t k k).length := ⟨_, rfl⟩
        obtain ⟨R, hR⟩ : ∃ R, R = (allL t k).length := ⟨_, rfl⟩
        have hSz : S.size = Q := by rw [hS, txtL_size, hQ]
        have hAz : A.size = R := by rw [hA, txtL_size, hR]
        have hQ3 : Q ≤ 3050 := by omega
        have hR3 : R ≤ 3000 := by omega
        have hSe := text_some S (by omega)
        have hM4 : (ByteArray.mk #[109, 111, 114, 101]).size = 4 := rfl
        rw [← hS] at HBL
        have HO1 : Hid (∀ wx, Calls Try.prog 10 #[.string (S ++ ⟨#[109, 111, 114, 101]⟩), .int .i64 (R : Int)] wx fun e w' => e = .returned (.tuple #[.string A, .int .i64 (Q : Int), .int .i64 0]) ∧ Below wx.heap.size wx w') := Lib.hid fun wx => by
          have O := dopen_any (S ++ ⟨#[109, 111, 114, 101]⟩) (R : Int) wx trivial (by rw [ByteArray.size_append, hSz, hM4]; omega)
          rw [hR, open_sto _ t k HT3.out (by omega) (by omega) (fun i hi => by rw [Nat.zero_add, byteS_app, if_pos (by omega)]; have := HBL.out i hi; rw [Nat.zero_add] at this; exact this) (by rw [ByteArray.size_append, hSz]; omega)] at O
          dsimp only at O
          rw [← hA, ← hQ, ← hR] at O
          exact O
        obtain ⟨M3, hM3⟩ : ∃ M3, M3 = R - 1 := ⟨_, rfl⟩
        obtain ⟨E3, hE3⟩ : ∃ E3 : Nat, E3 = if R = 0 then 0 else 9 := ⟨_, rfl⟩
        have HO3 : Hid (∀ wx, Calls Try.prog 10 #[.string S, .int .i64 (M3 : Int)] wx fun e w' => (∃ u v, e = .returned (.tuple #[.string u, .int .i64 v, .int .i64 (E3 : Int)])) ∧ Below wx.heap.size wx w') := Lib.hid fun wx => by
          have O := dopen_any S (M3 : Int) wx trivial (by omega)
          by_cases h0 : R = 0
          · have e : M3 = (allL t k).length := by omega
            rw [e, open_sto S t k HT3.out (by omega) (by omega) HBL.out (by omega)] at O
            dsimp only at O
            rw [← e] at O
            rw [hE3, if_pos h0]
            exact O.mono fun e w' h => ⟨⟨_, _, h.1⟩, h.2⟩
          · rw [open_less S t k M3 HT3.out (by omega) HBL.out (by omega) (by omega)] at O
            dsimp only at O
            rw [hE3, if_neg h0]
            exact O.mono fun e w' h => ⟨⟨_, _, h.1⟩, h.2⟩
        have HR0 : Hid (A.toList.isEmpty = decide (R = 0)) := Lib.hid (by
          by_cases h0 : R = 0
          · rw [decide_eq_true h0]
            have : allL t k = [] := List.eq_nil_of_length_eq_zero (by omega)
            rw [hA, this, txt0, ByteArray.toList_eq]; rfl
          · rw [decide_eq_false h0]; exact text_some A (by omega))
        have hm3 : max ((R : Int) - 1) 0 = (M3 : Int) := by omega
        have HM3 := Lib.hid hm3
        have HE3 := Lib.hid hE3
        have HQ := Lib.hid hQ
        have HSK := Lib.hid hS
        have HK0 : Hid (0 < k ∧ k ≤ 10) := Lib.hid ⟨by omega, hN10⟩
        rw [← hS, ← hA]
        clear hS hA hR hlen hpos hby3 hQ hM3 hE3 hm3
        obtain ⟨by2, hb2⟩ : ∃ by2, by2 = max by_ 1 := ⟨_, rfl⟩
        have hby := HBY.out
        have hb2n : 1 ≤ by2 ∧ by2 < 65536 := by omega
        have hmx : max (by_ : Int) 1 = (by2 : Int) := by omega
        have HMX := Lib.hid hmx
        have y1 : (by2 : Int) % 256 = ((by2 % 256 : Nat) : Int) := by omega
        have y2 : (by2 : Int) / 256 = ((by2 / 256 : Nat) : Int) := by omega
        have HYN : Hid (by2 % 256 < 256 ∧ by2 / 256 < 256 ∧ (by2 % 256 ≠ 0 ∨ by2 / 256 ≠ 0)) := Lib.hid (by omega)
        generalize by2 % 256 = z1 at y1 HYN
        generalize by2 / 256 = z2 at y2 HYN
        have y3 : ((z1 : Nat) : Int) % 256 = (z1 : Int) := by have := HYN.out; omega
        have y4 : ((z2 : Nat) : Int) % 256 = (z2 : Int) := by have := HYN.out; omega
        clear hmx hb2 hby
        rcases hbr with h1 | ⟨h1, h2⟩
        all_goals
          go_wp2_with fail
          refine (HO1.out _).mono ?_
          rintro e w3 ⟨rfl, b3⟩
          have HL3 := Lib.hid (HL.out.below b3)
          clear b3
          obtain ⟨V, hV⟩ : ∃ V : Nat, (which < 0 → -(which + 1) = (V : Int)) ∧ (¬ which < 0 → which = (V : Int)) := by
            have := HWH.out
            by_cases h : which < 0
            · exact ⟨(-(which + 1)).toNat, fun _ => by omega, fun h2 => absurd h h2⟩
            · exact ⟨which.toNat, fun h2 => absurd h2 h, fun _ => by omega⟩
          obtain ⟨j, hj⟩ : ∃ j, j = V % k := ⟨_, rfl⟩
          have hjk : j < k := by rw [hj]; exact Nat.mod_lt _ (by have := HK0.out; omega)
          have hj1 : (V : Int).tmod (k : Int) = (j : Int) := by rw [Int.tmod_eq_emod_of_nonneg (by omega), hj]; rfl
          have hj2 : (V : Int) % (k : Int) = (j : Int) := by rw [hj]; rfl
          obtain ⟨p2, cap2, hv2, hIS, hpB⟩ := HL3.out.is (fun i hi => by omega) (fun i hi => by have := (stoL_le t k HT3.out i).2.2.1; omega)
          subst hv2
          obtain ⟨a2, ha2⟩ : ∃ a2, p2 = some a2 := by
            cases p2 with
            | none => have := (hIS.nil_ rfl).1; omega
            | some a => exact ⟨a, rfl⟩
          subst ha2
          obtain ⟨P, hP⟩ : ∃ P, P = (stoL t k j).length + 3 := ⟨_, rfl⟩
          obtain ⟨capb, W1, hcv, hcl, bW⟩ := bytesN_start S w3 hSz
          have hc2 : W1.cell? (a2.add j) = some (.int .i64 (P : Int)) := by rw [(hIS.below bW).cell a2 rfl j hjk, hP]
          have HPb : Hid (P + 1 < Q ∧ 3 ≤ P ∧ P = (stoL t k j).length + 3 ∧ (stoL t k j).length + 5 ≤ Q ∧ (stoL t k (j + 1)).length ≤ Q ∧ ∀ i, i < (stoL t k (j + 1)).length → byteS S i = (stoL t k (j + 1)).getD i 0) := Lib.hid (by
            have hm := stoL_mono t k (show j + 1 ≤ k by omega)
            have hl := stoL_len t k j
            have hq := HQ.out
            refine ⟨by omega, by omega, hP, by omega, by omega, fun i hi => ?_⟩
            have := HBL.out i (by omega)
            rw [Nat.zero_add] at this
            rw [this, hm.2.2 i hi])
          have hpq := HPb.out.1
          have hP1 : (P : Int) < (Q : Int) := by omega
          have hP2 : ((P + 1 : Nat) : Int) < (Q : Int) := by omega
          have hPw : IntKind.i64.wrap ((P : Int) + 1) = ((P + 1 : Nat) : Int) := by rw [IntWalk.i64_in _ (by omega)]; rfl
          have hk00 : ¬ k = 0 := by omega
          obtain ⟨x1, hx1⟩ : ∃ x1, x1 = byteS S P := ⟨_, rfl⟩
          obtain ⟨x2, hx2⟩ : ∃ x2, x2 = byteS S (P + 1) := ⟨_, rfl⟩
          have hx1l : x1 < 256 := by rw [hx1]; exact byteS_lt _ _
          have hx2l : x2 < 256 := by rw [hx2]; exact byteS_lt _ _
          have q1 := hcl.c P (by omega)
          have q2 := hcl.c (P + 1) (by omega)
          have q3 := hcl.fz P (by omega)
          have q4 := hcl.fz (P + 1) (by omega)
          rw [← hx1] at q1
          rw [← hx2] at q2
          have hX1 := xor8n x1 z1 hx1l HYN.out.1
          have hX2 := xor8n x2 z2 hx2l HYN.out.2.1
          have hcl2 := (hcl.put P (x1 ^^^ z1)).put (P + 1) (x2 ^^^ z2)
          have hlt256 : ∀ i, (if i = P + 1 then x2 ^^^ z2 else if i = P then x1 ^^^ z1 else byteS S i) < 256 := fun i => by
            split
            · exact xor_lt8 _ _ hx2l HYN.out.2.1
            · split
              · exact xor_lt8 _ _ hx1l HYN.out.1
              · exact byteS_lt _ _
          have hcv2 := bytesN_end hcl2 hlt256 capb
          have O2 := dopen_any (textN Q fun i => if i = P + 1 then x2 ^^^ z2 else if i = P then x1 ^^^ z1 else byteS S i) 1048576 ((W1.setCell ⟨w3.heap.size, P, none⟩ (.int .u8 ((x1 ^^^ z1 : Nat) : Int))).setCell ⟨w3.heap.size, P + 1, none⟩ (.int .u8 ((x2 ^^^ z2 : Nat) : Int))) trivial (by rw [textN_size]; omega)
          have HBAD : Hid (openS (textN Q fun i => if i = P + 1 then x2 ^^^ z2 else if i = P then x1 ^^^ z1 else byteS S i) 1048576 = ([], 0, 2)) := Lib.hid (by
            have hpb := HPb.out
            have hl := stoL_len t k j
            have gb : ∀ i, i < Q → byteS (textN Q fun i => if i = P + 1 then x2 ^^^ z2 else if i = P then x1 ^^^ z1 else byteS S i) i = if i = P + 1 then x2 ^^^ z2 else if i = P then x1 ^^^ z1 else byteS S i := fun i hi => byteS_textN _ _ _ hi (hlt256 i)
            have gs : ∀ i, i < (stoL t k (j + 1)).length → byteS S i = (stoL t k (j + 1)).getD i 0 := hpb.2.2.2.2.2
            have gf : ∀ i, i < 5 + (t j).length → byteS S ((stoL t k j).length + i) = (frL (if j + 1 = k then 1 else 0) (t j)).getD i 0 := fun i hi => by
              rw [gs _ (by omega)]
              show (stoL t k j ++ frL (if j + 1 = k then 1 else 0) (t j)).getD _ 0 = _
              simp only [List.getD]
              rw [List.getElem?_append_right (by omega), Nat.add_sub_cancel_left]
            have f0 := gf 0 (by omega)
            have f1 := gf 1 (by omega)
            have f2 := gf 2 (by omega)
            have f3 := gf 3 (by omega)
            have f4 := gf 4 (by omega)
            have f0 : byteS S (stoL t k j).length = (if j + 1 = k then 1 else 0) := f0
            have f1 : byteS S ((stoL t k j).length + 1) = (t j).length % 256 := f1
            have f2 : byteS S ((stoL t k j).length + 2) = (t j).length / 256 := f2
            have f3 : byteS S ((stoL t k j).length + 3) = 255 - (t j).length % 256 := f3
            have f4 : byteS S ((stoL t k j).length + 4) = 255 - (t j).length / 256 := f4
            have t3 := HT3.out j
            rw [← hpb.2.2.1] at f3
            rw [show (stoL t k j).length + 4 = P + 1 by omega] at f4
            rw [← hx1] at f3
            rw [← hx2] at f4
            have ho := HYN.out.2.2
            have hxx1 := xor_lt8 x1 z1 hx1l HYN.out.1
            have hxx2 := xor_lt8 x2 z2 hx2l HYN.out.2.1
            refine open_bad _ t k j (if j + 1 = k then 1 else 0) ((t j).length) ((x1 ^^^ z1) + 256 * (x2 ^^^ z2)) HT3.out hjk HK0.out.2 (fun i hi => ?_) (by rw [textN_size]; omega) ?_ (by split <;> omega) ?_ ?_ ?_
            · rw [Nat.zero_add, gb i (by omega), if_neg (by omega), if_neg (by omega), gs i (by omega)]
              show (stoL t k j ++ frL (if j + 1 = k then 1 else 0) (t j)).getD i 0 = _
              simp only [List.getD]
              rw [List.getElem?_append_left hi]
            · rw [gb _ (by omega), if_neg (by omega), if_neg (by omega), f0]
            · rw [gb _ (by omega), gb _ (by omega), if_neg (by omega), if_neg (by omega), if_neg (by omega), if_neg (by omega), f1, f2]; omega
            · rw [gb _ (by omega), gb _ (by omega), if_neg (by omega), if_pos (by omega), if_pos (by omega)]
            · rcases ho with ho | ho
              · have := xor_ne (x := x1) ho
                omega
              · have := xor_ne (x := x2) ho
                omega)
          rw [HBAD.out] at O2
          dsimp only at O2
          have b4 : Below w.heap.size w ((W1.setCell ⟨w3.heap.size, P, none⟩ (.int .u8 ((x1 ^^^ z1 : Nat) : Int))).setCell ⟨w3.heap.size, P + 1, none⟩ (.int .u8 ((x2 ^^^ z2 : Nat) : Int))) := ((HL3.out.b.trans (bW.mono HL3.out.lo)).setCell (p := ⟨w3.heap.size, P, none⟩) HL3.out.lo _).setCell (p := ⟨w3.heap.size, P + 1, none⟩) HL3.out.lo _
          have HB4 := Lib.hid b4
          have HHX := Lib.hid (⟨hx1, hx2⟩ : x1 = byteS S P ∧ x2 = byteS S (P + 1))
          have HV := Lib.hid hV
          have HWW := HWH.out
          clear hx1 hx2 hlt256 hcl hcl2 hIS hpB bW b4 hP hj hV HBAD HPb hpq
          generalize hT9 : (textN Q fun i => if i = P + 1 then x2 ^^^ z2 else if i = P then x1 ^^^ z1 else byteS S i) = Z at *
          clear hT9
          generalize x1 ^^^ z1 = v1 at *
          generalize x2 ^^^ z2 = v2 at *
          by_cases hneg : which < 0
          case pos => have hv := HV.out.1 hneg
                      clear HV
                      go_wp2_with (first | (refine wpList_valK (.int .u16 (max (by_ : Int) 1)) rfl (lands_max16 (.tmp 126) (by_ : Int) 1 rfl rfl rfl) ?_; intro w8 h8; obtain rfl := h8; simp only [pu]; rw [HMX.out]))
                      refine O2.mono ?_
                      rintro e w5 ⟨rfl, b5⟩
                      have HB5 := Lib.hid (HB4.out.trans (b5.mono HB4.out.size))
                      clear O2 b5 hcv2 hcv q1 q2 q3 q4 hc2 HB4
                      go_wp2_with (refine wpList_valK (.int .i64 (max ((R : Int) - 1) 0)) rfl (lands_maxR (.tmp 162) ((R : Int) - 1) 0 rfl rfl rfl) ?_; intro w8 h8; obtain rfl := h8; simp only [pu]; rw [HM3.out])
                      refine (HO3.out _).mono ?_
                      rintro e w6 ⟨⟨u6, v6, rfl⟩, b6⟩
                      have HB6 := Lib.hid (HB5.out.trans (b6.mono HB5.out.size))
                      clear b6
                      by_cases hr0 : R = 0
                      · obtain rfl : E3 = 0 := by rw [HE3.out, if_pos hr0]
                        have hAe : A.toList.isEmpty = true := by rw [HR0.out]; exact decide_eq_true hr0
                        go_wp2_with fail
                        go_ret
                        exact ⟨rfl, HB6.out⟩
                      · obtain rfl : E3 = 9 := by rw [HE3.out, if_neg hr0]
                        have hAe : A.toList.isEmpty = false := by rw [HR0.out]; exact decide_eq_false hr0
                        go_wp2_with fail
                        go_ret
                        exact ⟨rfl, HB6.out⟩
          case neg => have hv := HV.out.2 hneg
                      clear HV
                      subst hv
                      go_wp2_with (first | (refine wpList_valK (.int .u16 (max (by_ : Int) 1)) rfl (lands_max16 (.tmp 126) (by_ : Int) 1 rfl rfl rfl) ?_; intro w8 h8; obtain rfl := h8; simp only [pu]; rw [HMX.out]))
                      refine O2.mono ?_
                      rintro e w5 ⟨rfl, b5⟩
                      have HB5 := Lib.hid (HB4.out.trans (b5.mono HB4.out.size))
                      clear O2 b5 hcv2 hcv q1 q2 q3 q4 hc2 HB4
                      go_wp2_with (refine wpList_valK (.int .i64 (max ((R : Int) - 1) 0)) rfl (lands_maxR (.tmp 162) ((R : Int) - 1) 0 rfl rfl rfl) ?_; intro w8 h8; obtain rfl := h8; simp only [pu]; rw [HM3.out])
                      refine (HO3.out _).mono ?_
                      rintro e w6 ⟨⟨u6, v6, rfl⟩, b6⟩
                      have HB6 := Lib.hid (HB5.out.trans (b6.mono HB5.out.size))
                      clear b6
                      by_cases hr0 : R = 0
                      · obtain rfl : E3 = 0 := by rw [HE3.out, if_pos hr0]
                        have hAe : A.toList.isEmpty = true := by rw [HR0.out]; exact decide_eq_true hr0
                        go_wp2_with fail
                        go_ret
                        exact ⟨rfl, HB6.out⟩
                      · obtain rfl : E3 = 9 := by rw [HE3.out, if_neg hr0]
                        have hAe : A.toList.isEmpty = false := by rw [HR0.out]; exact decide_eq_false hr0
                        go_wp2_with fail
                        go_ret
                        exact ⟨rfl, HB6.out⟩
theorem cell_lt {w : World} {a : Addr} {v : Value} (h : w.cell? a = some v) : a.block < w.heap.size := by
  rcases Nat.lt_or_ge a.block w.heap.size with hlt | hge
  · exact hlt
  · unfold World.cell? at h
    rw [Array.getElem?_eq_none hge] at h
    cases h
theorem inflateStored_any (v : Value) (which by_ : Int) (w : World) (h : Strs w v) (hw1 : -9223372036854775808 ≤ which) (hw2 : which < 9223372036854775808) (hb0 : 0 ≤ by_) (hb : by_ < 65536) :
    Calls Try.prog 5 #[v, .int .i64 which, .int .u16 by_] w fun e w' => e = .returned (.bool true) ∧ Below w.heap.size w w' := by
  obtain ⟨b, rfl⟩ := Int.eq_ofNat_of_zero_le hb0
  rcases h with rfl | ⟨a, len, cap, f, rfl, h1, h2, h3, h4⟩
  · exact inflateStored_sl none 0 0 (fun _ => ByteArray.empty) which b w (by decide) (by decide) (fun i hi => absurd hi (Nat.not_lt_zero i)) (fun _ => by decide) hw1 hw2 (by omega)
  · refine inflateStored_sl (some a) len cap f which b w h1 h2 (fun i hi => ⟨a, rfl, ?_, h3 i hi⟩) h4 hw1 hw2 (by omega)
    have := cell_lt (h3 i hi)
    rwa [show (a.add i).block = a.block by unfold Addr.add; split <;> rfl] at this
end Go.Proofs.Ytiphnnaanjjaoaa
