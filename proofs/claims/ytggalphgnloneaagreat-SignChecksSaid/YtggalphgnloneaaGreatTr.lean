/- The reference's halves, times, Public, Sign of chapter 6. -/
import Derived.Test.YtggalphgnloneaaGreatTc
import Derived.Test.YtggalphgnloneaaGreatM2r
import Derived.Test.YtggalphgnloneaaGreatM4r
import Derived.Test.YtggalphgnloneaaGreatQAr
import Derived.Test.YtggalphgnloneaaGreatQAp
namespace Go.Proofs.YtggalphgnloneaaGreat
open Go.RowKit
theorem clamp_size (s : ByteArray) (h : s.size = 32) : (L4.clampV s).1.size = 32 := by
  unfold L4.clampV
  rw [if_pos h]
  show (L4.clampL s).toArray.size = 32
  simp [L4.clampL]
theorem numS_size (s : ByteArray) : (numS s).size = 32 := clamp_size _ (half_size s)
theorem ma_red (a b c : ByteArray) (h : b.size = 32) : L4.maV a (L4.redV b) c = L4.maV a b c := by
  have e : numV b 64 = numV b 32 := by unfold numV; rw [h]; rfl
  unfold L4.maV L4.redV
  rw [numV_bytesV (by decide) (Nat.lt_trans (Nat.mod_lt _ (by decide)) qL_M), e, Nat.add_mod, Nat.mul_mod_mod, ← Nat.add_mod]
theorem rone_is (s o : ByteArray) (l : List UInt8) (hs : s.size ≤ 100000) (hl : lB s = l) (ho : sumV l = o) (w : World) :
    Calls Tryz.prog 21 #[.string s] w fun e w' => e = .returned (.string o) ∧ Below w.heap.size w w' := by
  subst hl ho
  have := L2.rone_any s w hs
  rw [← L2.out_eq] at this
  exact this
theorem rhalves_is (s num pre : ByteArray) (h : s.size = 32) (hn : numS s = num) (hp : preS s = pre) (w : World) :
    Calls Tryz.prog 16 #[.string s] w fun e w' => e = .returned (.tuple #[.string num, .string pre]) ∧ Below w.heap.size w w' := by
  have hz := sumV_size (lB s)
  have CC := Lib.hid (fun w => L4.rclamp_any ((sumV (lB s)).extract 0 32) w)
  rw [show (L4.clampV ((sumV (lB s)).extract 0 32)).1 = num from hn] at CC
  have HP : Hid ((sumV (lB s)).extract 32 64 = pre) := Lib.hid hp
  have CS := Lib.hid (rone_is s _ _ (by omega) rfl (rfl : sumV (lB s) = _))
  clear hn hp
  generalize (L4.clampV ((sumV (lB s)).extract 0 32)).2 = c2 at *
  generalize sumV (lB s) = z at *
  go_enter Tryz.func16, Tryz.ntmps16
  go_wp2_with fail
  refine (CS.out _).mono ?_
  rintro e w1 ⟨rfl, b1⟩
  go_wp2_with fail
  refine (CC.out _).mono ?_
  rintro e w2 ⟨rfl, b2⟩
  have b := b1.trans (b2.mono b1.size)
  clear b1 b2
  go_wp2_with fail
  go_region
  go_wp2_with fail
  go_ret2
  exact ⟨by rw [← HP.out, ← hz]; rfl, b.drew⟩
theorem rtimes_is (s o : ByteArray) (ho : tbV s = o) (w : World) :
    Calls Tryz.prog 17 #[.string s] w fun e w' => e = .returned (.string o) ∧ Below w.heap.size w w' := by
  have CM := Lib.hid (fun w => rmul5_is s bP (pmul bP (numV s 32)) base_on.ok (by rw [cnt_base]) w)
  have hon := pmul_on base_on (numV s 32)
  have CE := Lib.hid (fun w => renc_is (pmul bP (numV s 32)) _ _ hon.ok (encV_on (onB_C.2 hon)) w)
  rw [show bytesV (encN (pmul bP (numV s 32))) = o from ho] at CE
  clear ho hon
  generalize pmul bP (numV s 32) = P at *
  go_enter Tryz.func17, Tryz.ntmps17
  go_wp2_with fail
  refine (rbase_any _).mono ?_
  rintro e w1 ⟨rfl, b1⟩
  go_wp2_with fail
  refine (CM.out _).mono ?_
  rintro e w2 ⟨rfl, b2⟩
  go_wp2_with fail
  refine (CE.out _).mono ?_
  rintro e w3 ⟨rfl, b3⟩
  have b := (b1.trans (b2.mono b1.size)).trans (b3.mono (Nat.le_trans b1.size b2.size))
  clear b1 b2 b3
  go_wp2_with fail
  go_ret
  exact ⟨rfl, b⟩
theorem rpublic_f (s : ByteArray) (h : ¬ s.size = 32) (w : World) :
    Calls Tryz.prog 8 #[.string s] w fun e w' => e = .returned (.tuple #[.string ⟨#[]⟩, .bool false]) ∧ Below w.heap.size w w' := by
  go_enter Tryz.func8, Tryz.ntmps8
  go_wp2_with fail
  go_ret2
  exact ⟨rfl, Below.refl _ _⟩
theorem rpublic_t (s : ByteArray) (h : s.size = 32) (p : ByteArray) (hp : publicV s = p) (w : World) :
    Calls Tryz.prog 8 #[.string s] w fun e w' => e = .returned (.tuple #[.string p, .bool true]) ∧ Below w.heap.size w w' := by
  have C1 := Lib.hid (rhalves_is s _ _ h rfl rfl)
  have C2 := Lib.hid (rtimes_is (numS s) p hp)
  clear hp
  generalize numS s = n at *
  generalize preS s = q at *
  go_enter Tryz.func8, Tryz.ntmps8
  go_wp2_with fail
  refine (C1.out _).mono ?_
  rintro e w1 ⟨rfl, b1⟩
  go_wp2_with fail
  refine (C2.out _).mono ?_
  rintro e w2 ⟨rfl, b2⟩
  have b := b1.trans (b2.mono b1.size)
  clear b1 b2
  go_wp2_with fail
  go_ret2
  exact ⟨rfl, b⟩
theorem rsign_f (s t : ByteArray) (h : ¬ s.size = 32) (w : World) :
    Calls Tryz.prog 10 #[.string s, .string t] w fun e w' => e = .returned (.tuple #[.string ⟨#[]⟩, .bool false]) ∧ Below w.heap.size w w' := by
  go_enter Tryz.func10, Tryz.ntmps10
  go_wp2_with fail
  go_ret2
  exact ⟨rfl, Below.refl _ _⟩
set_option maxHeartbeats 1000000 in
theorem rsign_t (s t : ByteArray) (h : s.size = 32) (ht : t.size ≤ 1000) (g : ByteArray) (hg : signV s t = g) (w : World) :
    Calls Tryz.prog 10 #[.string s, .string t] w fun e w' => e = .returned (.tuple #[.string g, .bool true]) ∧ Below w.heap.size w w' := by
  have C1 := Lib.hid (rhalves_is s _ _ h rfl rfl)
  have C2 := Lib.hid (rone_is (preS s ++ t) _ _ (by rw [size_append, preS_size]; omega) (lB_append _ _) rfl)
  have R2 := Lib.hid (fun w => L4.rreduce_any (sumV (lB (preS s) ++ lB t)) w)
  have C3 := Lib.hid (rtimes_is (rS s t) (firstS s t) rfl)
  have C4 := Lib.hid (rtimes_is (numS s) (publicV s) rfl)
  have C5 := Lib.hid (rone_is (firstS s t ++ publicV s ++ t) (sumV (lB (firstS s t) ++ lB (publicV s) ++ lB t)) _ (by rw [size_append, size_append, firstS_size, publicV_size]; omega) (by rw [lB_append, lB_append]) rfl)
  have R5 := Lib.hid (fun w => L4.rreduce_any (sumV (lB (firstS s t) ++ lB (publicV s) ++ lB t)) w)
  have R6 := Lib.hid (fun w => L4.rreduce_any (numS s) w)
  have C6 := Lib.hid (fun w => L4.rmuladd_any (kS (firstS s t) (publicV s) t) (L4.redV (numS s)) (rS s t) w)
  rw [ma_red _ _ _ (numS_size s)] at C6
  rw [show L4.redV (sumV (lB (preS s) ++ lB t)) = rS s t from rfl] at R2
  rw [show L4.redV (sumV (lB (firstS s t) ++ lB (publicV s) ++ lB t)) = kS (firstS s t) (publicV s) t from rfl] at R5
  have HG : Hid (firstS s t ++ L4.maV (kS (firstS s t) (publicV s) t) (numS s) (rS s t) = g) := Lib.hid hg
  have h0 := preS_size s
  have h1 := firstS_size s t
  have h2 := maV_size (kS (firstS s t) (publicV s) t) (numS s) (rS s t)
  have h3 := publicV_size s
  clear hg
  generalize L4.maV (kS (firstS s t) (publicV s) t) (numS s) (rS s t) = sd at *
  generalize kS (firstS s t) (publicV s) t = k at *
  generalize sumV (lB (firstS s t) ++ lB (publicV s) ++ lB t) = z5 at *
  generalize sumV (lB (preS s) ++ lB t) = z2 at *
  generalize firstS s t = f at *
  generalize publicV s = p at *
  generalize rS s t = r at *
  generalize L4.redV (numS s) = n6 at *
  generalize numS s = n at *
  generalize preS s = q at *
  go_enter Tryz.func10, Tryz.ntmps10
  go_wp2_with fail
  refine (C1.out _).mono ?_
  rintro e w1 ⟨rfl, b1⟩
  go_wp2_with fail
  refine (C4.out _).mono ?_
  rintro e w2 ⟨rfl, b2⟩
  have c2 := b1.trans (b2.mono b1.size)
  clear b1 b2
  go_wp2_with fail
  refine (C2.out _).mono ?_
  rintro e w3 ⟨rfl, b3⟩
  have c3 := c2.trans (b3.mono c2.size)
  clear c2 b3
  go_wp2_with fail
  refine (R2.out _).mono ?_
  rintro e w4 ⟨rfl, b4⟩
  have c4 := c3.trans (b4.mono c3.size)
  clear c3 b4
  go_wp2_with fail
  refine (C3.out _).mono ?_
  rintro e w5 ⟨rfl, b5⟩
  have c5 := c4.trans (b5.mono c4.size)
  clear c4 b5
  go_wp2_with fail
  refine (C5.out _).mono ?_
  rintro e w6 ⟨rfl, b6⟩
  have c6 := c5.trans (b6.mono c5.size)
  clear c5 b6
  go_wp2_with fail
  refine (R5.out _).mono ?_
  rintro e w7 ⟨rfl, b7⟩
  have c7 := c6.trans (b7.mono c6.size)
  clear c6 b7
  go_wp2_with fail
  refine (R6.out _).mono ?_
  rintro e w8 ⟨rfl, b8⟩
  have c8 := c7.trans (b8.mono c7.size)
  clear c7 b8
  go_wp2_with fail
  refine (C6.out _).mono ?_
  rintro e w9 ⟨rfl, b9⟩
  have c9 := c8.trans (b9.mono c8.size)
  clear c8 b9
  go_wp2_with fail
  go_ret2
  exact ⟨by rw [← HG.out]; rfl, c9⟩
end Go.Proofs.YtggalphgnloneaaGreat
