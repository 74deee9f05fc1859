/- DeflateSmall: a text of one byte, many times, is packed to few bytes; packed twice it is the same. -/
import Derived.Test.YtjdfdiejlmeeoaaEp
import Derived.Test.YtjdfdiejlmeeoaaNL
import Derived.Test.YtjdfdiejlmeeoaaMA
import Derived.Laws.MakeOwn
namespace Go.Proofs.Ytjdfdiejlmeeoaa
open Go.RowKit
theorem u8_infoS : (Try.prog.info? 5).map (fun i => (i.zero, i.size, i.bytes)) = some (some (.int .u8 0), 1, 1) := by kernel_rfl
theorem made_zerosS (n : Nat) : madeCells #[Value.int .u8 0] n = r8 n fun _ => 0#8 := by
  apply Array.ext
  · rw [size_madeCells, row_size]
  · intro i h1 h2
    have h : i < n := by rw [size_madeCells] at h1; exact h1
    have e := row_get (fun i => Value.int .u8 (iw ((fun _ => 0#8) i : BitVec 8))) h
    rw [Array.getElem?_eq_getElem h2] at e
    rw [Option.some.inj e]
    simp only [madeCells, Array.getElem_map, Array.getElem_range]
    show _ = Value.int .u8 (iw (0#8))
    rw [show iw (0#8) = 0 by unfold iw; rfl]
    simp [Nat.mod_one]
theorem run_zerosS (n : Nat) (hn : n ≤ 281474976710656) (w : World) :
    (Instr.makeSlice 37 (.int .i64 (n : Int)) (.int .i64 (n : Int))).run Try.prog w = .ok (.slice (some ⟨w.heap.size, 0, none⟩) n n) (w.alloc (.cells (r8 n fun _ => 0#8) 5)) := by
  obtain ⟨i0, hi, hz0, hz1, hz2⟩ := info_parts u8_infoS
  have h := run_make (P := Try.prog) w 37 5 i0 (.int .u8 0) Try.underlying37 hi hz0 .i64 .i64 n n (by omega) (Int.le_refl _) (by rw [hz2]; omega) (by omega)
  rw [hz1, Int.toNat_natCast, Nat.mul_one, show Value.cells (.int .u8 0) = #[Value.int .u8 0] from rfl, made_zerosS] at h
  exact h
theorem cly_zeros (n : Nat) (w : World) : ClY n (fun _ => 0) w.heap.size (w.alloc (.cells (r8 n fun _ => 0#8) 5)) := by
  have h := Blk.new w 5 (r8 n fun _ => 0#8)
  refine ⟨fun j hj => ?_, fun j hj => ?_, h.lt⟩
  · have := h.cell j
    rw [this, row_get (fun i => Value.int .u8 (iw ((fun _ => 0#8) i : BitVec 8))) hj]
    rw [show iw (0#8) = 0 by unfold iw; rfl]
    rfl
  · exact h.frozen j
set_option maxRecDepth 100000 in
set_option maxHeartbeats 8000000 in
theorem deflateSmall_any (c n : Nat) (hc : c < 256) (hn : n < 65536) (w : World) :
    Calls Try.prog 7 #[.int .u8 (c : Int), .int .u16 (n : Int)] w fun e w' => e = .returned (.bool true) ∧ Below w.heap.size w w' := by
  obtain ⟨x, hx⟩ : ∃ x, x = n % 2001 := ⟨_, rfl⟩
  have hxi : (n : Int).tmod 2001 = (x : Int) := by rw [Int.tmod_eq_emod_of_nonneg (by omega)]; omega
  have hx3 : x ≤ 2000 := by omega
  have hxw : IntKind.i64.wrap (x : Int) = (x : Int) := IntWalk.i64_in _ (by omega)
  have hxu : IntKind.u16.wrap (x : Int) = (x : Int) := IntWalk.u16_in _ (by omega)
  have hmk : ∀ w, (Instr.makeSlice 37 (.int .i64 (x : Int)) (.int .i64 (x : Int))).run Try.prog w = .ok (.slice (some ⟨w.heap.size, 0, none⟩) x x) (w.alloc (.cells (r8 x fun _ => 0#8) 5)) := run_zerosS x (by omega)
  obtain ⟨F, hF⟩ : ∃ F : Nat → Nat → Nat, ∀ i j, F i j = if j < i then c else 0 := ⟨_, fun _ _ => rfl⟩
  have HF := Lib.hid hF
  obtain ⟨T, hT⟩ : ∃ T, T = textN x (F x) := ⟨_, rfl⟩
  have hTs : T.size = x := by rw [hT, textN_size]
  have hTb : ∀ j, j < T.size → byteS T j = c := fun j hj => by
    rw [hTs] at hj
    rw [hT, byteS_textN _ _ _ hj (by rw [hF, if_pos hj]; exact hc), hF, if_pos hj]
  have hsm := small_bits T c (by omega) hTb
  have HP : Hid (∀ wx, Calls Try.prog 14 #[.string T] wx fun e w' => e = .returned (.string (packT T)) ∧ Below wx.heap.size wx w') := Lib.hid fun wx => Pack_any T wx (by omega)
  obtain ⟨R, hR⟩ : ∃ R, R = packT T := ⟨_, rfl⟩
  rw [← hR] at hsm HP
  have hsmi : (R.size : Int) ≤ 30 := by omega
  have HX := Lib.hid (⟨hc, hx3⟩ : c < 256 ∧ x ≤ 2000)
  have HT := Lib.hid hT
  clear hx hF hT hTs hTb hR hsm hc hn
  go_enter Try.func7, Try.ntmps7
  go_wp2_with fail
  refine (examples11_any w).mono ?_
  rintro e w1 ⟨rfl, b1⟩
  obtain ⟨W1, hW1⟩ : ∃ W1, W1 = w1.alloc (.cells (r8 x fun _ => 0#8) 5) := ⟨_, rfl⟩
  obtain ⟨q, hq⟩ : ∃ q, q = w1.heap.size := ⟨_, rfl⟩
  have hz := cly_zeros x w1
  have ha := b1.alloc b1.size (.cells (r8 x fun _ => 0#8) 5)
  have hmk1 := hmk w1
  rw [← hW1] at hz ha hmk1
  rw [← hq] at hz hmk1
  have HL0 : Hid (ClY x (F 0) q W1 ∧ Below w.heap.size w W1) := Lib.hid ⟨hz.cast (funext fun j => by rw [HF.out]; simp), ha⟩
  have HQ : Hid (w.heap.size ≤ q) := Lib.hid (by rw [hq]; exact b1.size)
  clear hz ha hmk hW1 b1 hq
  go_wp2_with fail
  go_loopw [7] (fun u wr => ∃ i : Nat, u = .int .i64 (i : Int) ∧ i ≤ x ∧ Hid (ClY x (F i) q wr ∧ Below w.heap.size w wr)) (fun u _ => x - (intOf u).toNat)
  case atStart => exact ⟨0, rfl, Nat.zero_le _, HL0⟩
  case round =>
    obtain ⟨i, rfl, hi, HL⟩ := hrel
    clear HL0 hmk1
    by_cases hlt : i < x
    · have hlti : (i : Int) < (x : Int) := by omega
      have hw : IntKind.i64.wrap ((i : Int) + 1) = ((i + 1 : Nat) : Int) := by rw [IntWalk.i64_in _ (by omega)]; rfl
      have c0 := HL.out.1.c i hlt
      have f0 := HL.out.1.fz i hlt
      have HN : Hid (ClY x (F (i + 1)) q (wr.setCell ⟨q, i, none⟩ (.int .u8 (c : Int))) ∧ Below w.heap.size w (wr.setCell ⟨q, i, none⟩ (.int .u8 (c : Int)))) := Lib.hid ⟨(HL.out.1.put i c).cast (funext fun j => by
        rw [HF.out, HF.out]
        by_cases h1 : j = i
        · subst h1; rw [if_pos rfl, if_pos (by omega)]
        · rw [if_neg h1]
          by_cases h2 : j < i
          · rw [if_pos h2, if_pos (by omega)]
          · rw [if_neg h2, if_neg (by omega)]), HL.out.2.setCell (p := ⟨q, i, none⟩) HQ.out _⟩
      have HLT := Lib.hid hlt
      clear hlt HL
      go_wp2_with fail
      exact ⟨⟨i + 1, by go_num, by have := HLT.out; omega, HN⟩, by simp only [intOf]; have := HLT.out; omega⟩
    · obtain rfl : x = i := by omega
      have hlti : ¬ (x : Int) < (x : Int) := by omega
      have hcv := bytesN_end HL.out.1 (fun j => by rw [HF.out]; have := HX.out; split <;> omega) x
      rw [← HT.out] at hcv
      go_wp2_with fail
      refine (HP.out wr).mono ?_
      rintro e w2 ⟨rfl, b2⟩
      have hcv2 := bytesN_end (HL.out.1.below b2) (fun j => by rw [HF.out]; have := HX.out; split <;> omega) x
      rw [← HT.out] at hcv2
      have HB2 := Lib.hid (HL.out.2.trans (b2.mono HL.out.2.size))
      clear hcv b2
      go_wp2_with fail
      refine (HP.out w2).mono ?_
      rintro e w3 ⟨rfl, b3⟩
      have HB3 := Lib.hid (HB2.out.trans (b3.mono HB2.out.size))
      clear b3
      go_wp2_with fail
      go_ret
      exact ⟨rfl, HB3.out⟩
theorem deflateSmall_int (x y : Int) (h1 : 0 ≤ x) (h2 : x < 256) (h3 : 0 ≤ y) (h4 : y < 65536) (w : World) :
    Calls Try.prog 7 #[.int .u8 x, .int .u16 y] w fun e w' => e = .returned (.bool true) ∧ Below w.heap.size w w' := by
  obtain ⟨c, rfl⟩ : ∃ c : Nat, x = (c : Int) := ⟨x.toNat, by omega⟩
  obtain ⟨n, rfl⟩ : ∃ n : Nat, y = (n : Int) := ⟨y.toNat, by omega⟩
  exact deflateSmall_any c n (by omega) (by omega) w
end Go.Proofs.Ytjdfdiejlmeeoaa
