/- The developers' parts, Public, Sign. -/
import Derived.Test.YtggalphgnloneaaGreatTc
import Derived.OwnWalk
namespace Go.Proofs.YtggalphgnloneaaGreat
open Go.RowKit
theorem parts_t (s : ByteArray) (w : World) (h : s.size = 32) (num pre : ByteArray) (hn : numS s = num) (hp : preS s = pre) :
    Calls Tryz.prog 14 #[.string s] w fun e w' => e = .returned (.tuple #[.string num, .string pre, .bool true]) ∧ Below w.heap.size w w' := by
  have hz := sumV_size (lB s)
  have hc2 : (L4.clampV ((sumV (lB s)).extract 0 32)).2 = true := by unfold L4.clampV; rw [if_pos (half_size s)]
  have CC := Lib.hid (fun w => L4.qclamp_any ((sumV (lB s)).extract 0 32) w)
  rw [hc2, show (L4.clampV ((sumV (lB s)).extract 0 32)).1 = num from hn] at CC
  have HP : Hid ((sumV (lB s)).extract 32 64 = pre) := Lib.hid hp
  have CS := Lib.hid (fun g w (hb : Blk w g 9 (row 1 (sT fun _ => s))) => sum_is g 1 (fun _ => s) (lB s) w hb (by decide) (fun _ => by rw [h]; decide) rfl)
  clear hn hp hc2
  generalize sumV (lB s) = z at *
  go_enter Tryz.func14, Tryz.ntmps14
  go_wp2_with fail
  refine (CS.out _ _ (Blk.new _ _ _)).mono ?_
  rintro e w1 ⟨rfl, b1⟩
  go_wp2_with fail
  refine (CC.out _).mono ?_
  rintro e w2 ⟨rfl, b2⟩
  have b := (((Below.refl _ _).alloc (Nat.le_refl _) _).trans (b1.mono (by simp))).trans (b2.mono (Nat.le_trans (by simp) b1.size))
  clear b1 b2
  go_wp2_with fail
  go_region
  go_wp2_with fail
  go_ret3
  exact ⟨by rw [← HP.out, ← hz]; rfl, b.drew⟩
theorem parts_f (s : ByteArray) (w : World) (h : ¬ s.size = 32) :
    Calls Tryz.prog 14 #[.string s] w fun e w' => e = .returned (.tuple #[.string ⟨#[]⟩, .string ⟨#[]⟩, .bool false]) ∧ Below w.heap.size w w' := by
  go_enter Tryz.func14, Tryz.ntmps14
  go_wp2_with fail
  go_ret3
  exact ⟨rfl, Below.refl _ _⟩
theorem public_t (s : ByteArray) (w : World) (h : s.size = 32) (p : ByteArray) (hp : publicV s = p) :
    Calls Tryz.prog 7 #[.string s] w fun e w' => e = .returned (.tuple #[.string p, .bool true]) ∧ Below w.heap.size w w' := by
  have C1 := Lib.hid (fun w => parts_t s w h _ _ rfl rfl)
  have C2 := Lib.hid (fun w => timesBase_is (numS s) p w hp)
  clear hp h
  generalize numS s = n at *
  generalize preS s = q at *
  go_enter Tryz.func7, Tryz.ntmps7
  go_wp2_with fail
  refine (C1.out _).mono ?_
  rintro e w1 ⟨rfl, b1⟩
  go_wp2_with fail
  refine (C2.out _).mono ?_
  rintro e w2 ⟨rfl, b2⟩
  have b := b1.trans (b2.mono b1.size)
  clear b1 b2
  go_wp2_with fail
  go_ret2
  exact ⟨rfl, b⟩
theorem public_f (s : ByteArray) (w : World) (h : ¬ s.size = 32) :
    Calls Tryz.prog 7 #[.string s] w fun e w' => e = .returned (.tuple #[.string ⟨#[]⟩, .bool false]) ∧ Below w.heap.size w w' := by
  go_enter Tryz.func7, Tryz.ntmps7
  go_wp2_with fail
  refine (parts_f s _ h).mono ?_
  rintro e w1 ⟨rfl, b1⟩
  go_wp2_with fail
  go_ret2
  exact ⟨rfl, b1⟩
/-- Two, three texts by their number. -/
def t2 (a b : ByteArray) (k : Nat) : ByteArray := if k = 0 then a else b
def t3 (a b c : ByteArray) (k : Nat) : ByteArray := if k = 0 then a else if k = 1 then b else c
theorem t2_le {a b : ByteArray} (ha : a.size ≤ 1000000) (hb : b.size ≤ 1000000) (k : Nat) : (t2 a b k).size ≤ 1000000 := by unfold t2; split <;> assumption
theorem t3_le {a b c : ByteArray} (ha : a.size ≤ 1000000) (hb : b.size ≤ 1000000) (hc : c.size ≤ 1000000) (k : Nat) : (t3 a b c k).size ≤ 1000000 := by
  unfold t3; split
  · exact ha
  · split <;> assumption
theorem red2_is (a b o : ByteArray) (ha : a.size ≤ 1000000) (hb : b.size ≤ 1000000) (ho : L4.redV (sumV (lB a ++ lB b)) = o) (g : Nat) (w : World) (hk : Blk w g 9 #[.string a, .string b]) :
    Calls Tryz.prog 18 #[.slice (some ⟨g, 0, none⟩) 2 2] w fun e w' => e = .returned (.string o) ∧ Below w.heap.size w w' :=
  reduced_is g 2 (t2 a b) o w hk (by decide) (t2_le ha hb) ho
theorem red3_is (a b c o : ByteArray) (ha : a.size ≤ 1000000) (hb : b.size ≤ 1000000) (hc : c.size ≤ 1000000) (ho : kS a b c = o) (g : Nat) (w : World) (hk : Blk w g 9 #[.string a, .string b, .string c]) :
    Calls Tryz.prog 18 #[.slice (some ⟨g, 0, none⟩) 3 3] w fun e w' => e = .returned (.string o) ∧ Below w.heap.size w w' :=
  reduced_is g 3 (t3 a b c) o w hk (by decide) (t3_le ha hb hc) ho
theorem sign_f (s t : ByteArray) (w : World) (h : ¬ s.size = 32) :
    Calls Tryz.prog 9 #[.string s, .string t] w fun e w' => e = .returned (.tuple #[.string ⟨#[]⟩, .bool false]) ∧ Below w.heap.size w w' := by
  go_enter Tryz.func9, Tryz.ntmps9
  go_wp2_with fail
  refine (parts_f s _ h).mono ?_
  rintro e w1 ⟨rfl, b1⟩
  go_wp2_with fail
  go_ret2
  exact ⟨rfl, b1⟩
set_option maxHeartbeats 1000000 in
theorem sign_t (s t : ByteArray) (w : World) (h : s.size = 32) (ht : t.size ≤ 1000) (g : ByteArray) (hg : signV s t = g) :
    Calls Tryz.prog 9 #[.string s, .string t] w fun e w' => e = .returned (.tuple #[.string g, .bool true]) ∧ Below w.heap.size w w' := by
  have ht' : t.size ≤ 1000000 := Nat.le_trans ht (by decide)
  have C1 := Lib.hid (fun w => parts_t s w h _ _ rfl rfl)
  have C2 := Lib.hid (red2_is (preS s) t (rS s t) (by rw [preS_size]; decide) ht' rfl)
  have C3 := Lib.hid (fun w => timesBase_is (rS s t) (firstS s t) w rfl)
  have C4 := Lib.hid (fun w => timesBase_is (numS s) (publicV s) w rfl)
  have C5 := Lib.hid (red3_is (firstS s t) (publicV s) t (kS (firstS s t) (publicV s) t) (by rw [firstS_size]; decide) (by rw [publicV_size]; decide) ht' rfl)
  have C6 := Lib.hid (fun w => L4.qmuladd_any (kS (firstS s t) (publicV s) t) (numS s) (rS s t) w)
  have HG : Hid (firstS s t ++ L4.maV (kS (firstS s t) (publicV s) t) (numS s) (rS s t) = g) := Lib.hid hg
  have h1 := firstS_size s t
  have h2 := maV_size (kS (firstS s t) (publicV s) t) (numS s) (rS s t)
  clear hg h ht ht'
  generalize L4.maV (kS (firstS s t) (publicV s) t) (numS s) (rS s t) = sd at *
  generalize kS (firstS s t) (publicV s) t = k at *
  generalize firstS s t = f at *
  generalize publicV s = p at *
  generalize rS s t = r at *
  generalize numS s = n at *
  generalize preS s = q at *
  go_enter Tryz.func9, Tryz.ntmps9
  go_wp2_with fail
  refine (C1.out _).mono ?_
  rintro e w1 ⟨rfl, b1⟩
  go_wp2_with fail
  refine (C2.out _ _ (Blk.new _ _ _)).mono ?_
  rintro e w2 ⟨rfl, b2⟩
  have c2 := (b1.alloc b1.size _).trans (b2.mono (by have := b1.size; simp; omega))
  clear b1 b2
  go_wp2_with fail
  refine (C3.out _).mono ?_
  rintro e w3 ⟨rfl, b3⟩
  have c3 := c2.trans (b3.mono c2.size)
  clear c2 b3
  go_wp2_with fail
  refine (C4.out _).mono ?_
  rintro e w4 ⟨rfl, b4⟩
  have c4 := c3.trans (b4.mono c3.size)
  clear c3 b4
  go_wp2_with fail
  refine (C5.out _ _ (Blk.new _ _ _)).mono ?_
  rintro e w5 ⟨rfl, b5⟩
  have c5 := (c4.alloc c4.size _).trans (b5.mono (by have := c4.size; simp; omega))
  clear c4 b5
  go_wp2_with fail
  refine (C6.out _).mono ?_
  rintro e w6 ⟨rfl, b6⟩
  have c6 := c5.trans (b6.mono c5.size)
  clear c5 b6
  go_wp2_with fail
  go_ret2
  exact ⟨by rw [← HG.out]; rfl, c6⟩
end Go.Proofs.YtggalphgnloneaaGreat
