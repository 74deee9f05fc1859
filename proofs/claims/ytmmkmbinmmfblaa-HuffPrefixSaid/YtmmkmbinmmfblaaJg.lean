/- The developers' New of chapter 9. -/
import Derived.Test.YtmmkmbinmmfblaaJd
import Derived.Test.YtmmkmbinmmfblaaJf
namespace Go.Proofs.Ytmmkmbinmmfblaa
open Go.RowKit
theorem run_words (k : Int) (w : World) : (Instr.makeMap 62 (some (.int .i64 k))).run Try.prog w = .ok (.map (some w.heap.size)) (w.alloc (.map #[] 0)) := by kernel_rfl
/-- The world when the first k symbols are in the map. -/
structure NW (w w1 : World) (l : Nat → Nat) (n k : Nat) (wx : World) : Prop where
  b : Below w.heap.size w wx
  b1 : Below w1.heap.size w1 wx
  lo : w1.heap.size + 1 < wx.heap.size
  m : MW w1.heap.size k (gkW l n k) (nzW l k) wx
  c : Blk wx (w1.heap.size + 1) 64 #[.map (some w1.heap.size)]
theorem NW.drew {w w1 wx : World} {l : Nat → Nat} {n k : Nat} (h : NW w w1 l n k wx) : NW w w1 l n k wx.drew := ⟨h.b.drew, h.b1.drew, h.lo, h.m.drew, h.c.drew⟩
theorem or_word {d c : Nat} (hc : c < 2 ^ d) : 2 ^ d ||| c = 2 ^ d + c := by
  have h := Nat.two_pow_add_eq_or_of_lt hc 1
  rw [Nat.mul_one] at h
  exact h.symm
set_option maxRecDepth 100000 in
set_option maxHeartbeats 8000000 in
theorem new_any (p : Option Addr) (n cap : Nat) (f : Nat → Int) (w : World) (h : IS p n cap f w) (hn : n ≤ 300) (hok : okB f n = true) (hk : kr (toL f) n ≤ 32768) :
    Calls Try.prog 16 #[.slice p n cap] w fun e w' => Below w.heap.size w w' ∧ ((newE f n = 0 ∧ ∃ w1, e = .returned (.tuple #[.pointer (some ⟨w1.heap.size + 1, 0, none⟩), .int .i64 0]) ∧ NW w w1 (toL f) n n w') ∨ (newE f n = 2 ∧ e = .returned (.tuple #[.pointer none, .int .i64 2]))) := by
  have C := codes_ok p n cap f w h hn hok hk
  have S := Lib.hid (fun w h => share_any p n cap f w h (by omega) hok)
  have HB := Lib.hid (okB_true.1 hok)
  have H15 : Hid (∀ j, j < n → toL f j ≤ 15) := Lib.hid fun j hj => by have := HB.out j hj; unfold toL; omega
  have HK := Lib.hid hk
  clear hk hok
  have hmm := run_words
  go_enter Try.func16, Try.ntmps16
  go_wp2_with fail
  refine C.mono ?_
  rintro e w1 ⟨p2, c2, rfl, i2, b1⟩
  have hlt2 : ∀ a, p2 = some a → a.block < w1.heap.size := i2.lt
  go_wp2_with fail
  have HN0 : Hid (NW w w1 (toL f) n 0 ((w1.alloc (.map #[] 0)).alloc (.cells #[.map (some w1.heap.size)] 64))) := Lib.hid (by
    have a1 : Below w1.heap.size w1 ((w1.alloc (.map #[] 0)).alloc (.cells #[.map (some w1.heap.size)] 64)) := ((Below.refl _ _).alloc (Nat.le_refl _) _).alloc (by simp) _
    refine ⟨b1.trans (a1.mono b1.size), a1, by simp, (MW.made w1).alloc _, ?_⟩
    exact (Blk.new _ _ _).cast' ⟨by simp, rfl⟩)
  have b1s := b1.size
  clear b1 C hmm
  go_loopw [7, 8, 26] (fun _ _ i wr => ∃ k : Nat, k ≤ n ∧ i = .int .i64 (k : Int) ∧ Hid (NW w w1 (toL f) n k wr)) (fun _ _ i _ => n - (intOf i).toNat)
  case atStart => exact ⟨0, by omega, rfl, HN0⟩
  case round =>
    obtain ⟨k, hk, rfl, HN⟩ := hrel
    clear HN0
    by_cases hlt : k < n
    · cases p with
      | none => have := (h.nil_ rfl).1; omega
      | some a =>
        have c0 := (h.below HN.out.b).cell a rfl k hlt
        have h0 := HB.out k hlt
        obtain ⟨d, hd⟩ := Int.eq_ofNat_of_zero_le h0.1
        have hd15 : d ≤ 15 := by omega
        have hdl : toL f k = d := by unfold toL; omega
        rw [hd] at c0
        by_cases hz : d = 0
        · have HP : Hid (NW w w1 (toL f) n (k + 1) wr) := Lib.hid (by
            obtain ⟨x1, x2, x3, x4, x5⟩ := HN.out
            refine ⟨x1, x2, x3, ?_, x5⟩
            obtain ⟨D, hD⟩ := x4
            refine MW.cast (g := gkW (toL f) n k) ⟨D, hD.1.mono (by omega), hD.2⟩ (fun x => ?_) ?_
            · show _ = if _ then _ else _; rw [if_neg (by omega)]
            · show _ = _ + _; rw [if_pos (by omega)]; rfl)
          subst hz
          clear h0 hd hdl
          go_wp2_with fail
          go_roundw
          case rel => exact ⟨k + 1, by omega, by go_num, HP⟩
          case measure => simp [intOf]; omega
        · cases p2 with
          | none => have := (i2.nil_ rfl).1; omega
          | some a2 =>
          obtain ⟨c, hc⟩ : ∃ c, c = codeN (toL f) n k := ⟨_, rfl⟩
          have hcl : c < 2 ^ d := by rw [hc, ← hdl]; exact code_lt (toL f) n k H15.out HK.out hlt (by omega)
          have hp15 : 2 ^ d ≤ 2 ^ 15 := Nat.pow_le_pow_right (by decide) hd15
          have hkw : keyW (toL f) n k = 2 ^ d + c := by unfold keyW; rw [hdl, hc]
          have HC : Hid (∀ wx, NW w w1 (toL f) n k wx → wx.cell? ⟨w1.heap.size + 1, 0, none⟩ = some (.map (some w1.heap.size))) := Lib.hid fun wx hT => hT.c.cell 0
          have HQ : Hid (∀ wx, NW w w1 (toL f) n k wx → wx.cell? (a2.add k) = some (.int .i64 (c : Int))) := Lib.hid fun wx hT => by
            rw [hc]; exact (i2.below hT.b1).cell a2 rfl k hlt
          have HS : Hid (IntKind.u32.wrap (2 ^ d) = 2 ^ d) := Lib.hid (by
            rw [show ((2 : Int) ^ d) = ((2 ^ d : Nat) : Int) by push_cast; rfl]
            exact IntWalk.u32_in _ (by omega))
          have HV : Hid (IntKind.u32.wrap (c : Int) = (c : Int)) := Lib.hid (IntWalk.u32_in _ (by omega))
          have HO : Hid (bits .or .u32 (2 ^ d) (c : Int) = ((keyW (toL f) n k : Nat) : Int)) := Lib.hid (by
            rw [show ((2 : Int) ^ d) = ((2 ^ d : Nat) : Int) by push_cast; rfl, u32_or_nat _ _ (by omega) (by omega), or_word hcl, hkw])
          have HPUT : Hid (∀ wx, NW w w1 (toL f) n k wx → ∃ w', (Instr.mapUpdate 62 (.map (some w1.heap.size)) (.int .u32 ((keyW (toL f) n k : Nat) : Int)) (.int .i64 (k : Int))).run Try.prog wx = .ok () w' ∧ NW w w1 (toL f) n (k + 1) w') := Lib.hid fun wx hT => by
            obtain ⟨w', h1, h2, h3⟩ := hT.m.put (by omega) (x := keyW (toL f) n k) (i := k) (by rw [hkw]; omega) (by omega) (gk_new H15.out HK.out hlt (by omega))
            refine ⟨w', h1, hT.b.grown h3 hT.b.size (fun j hj => by cases hj; exact b1s), hT.b1.grown h3 hT.b1.size (fun j hj => by cases hj; exact Nat.le_refl _), Nat.lt_of_lt_of_le hT.lo h3.size, ?_, ?_⟩
            · refine h2.cast (fun x => ?_) ?_
              · show (if keyW (toL f) n k = x then _ else _) = if _ then _ else _
                by_cases e : keyW (toL f) n k = x
                · rw [if_pos e, if_pos ⟨by omega, e⟩]
                · rw [if_neg e, if_neg (fun hh => e hh.2)]
              · show _ = _ + _; rw [if_neg (by omega)]
            · exact (h3.block (w1.heap.size + 1) hT.c.lt (by simp)).trans hT.c
          have hki : (k : Int) < (n : Int) := by omega
          clear h0 hd hdl hc hcl hp15 hkw
          go_wp2_with fail
          refine wp_region_anyL (Two 13 1000 fun a _ wx => bif a then NW w w1 (toL f) n (k + 1) wx else NW w w1 (toL f) n k wx) (by kernel_rfl) HN.out.drew ?_
          refine anyL_take (i := 0) (v := ?_) rfl (by kernel_rfl) (by kernel_rfl) (by kernel_rfl) (yl_other (by decide) (by decide) rfl (fun f1 f2 wx hT => ?_)) ?_; rotate_left
          · refine lands_value (w := wx) ?_ hT; go_simp <;> rfl
          simp only [pu]
          refine anyL_take (i := 1) (v := ?_) rfl (by kernel_rfl) (by kernel_rfl) (by kernel_rfl) (yl_other (by decide) (by decide) rfl (fun f1 f2 wx hT => ?_)) ?_; rotate_left
          · refine lands_value (w := wx) ?_ hT; go_simp <;> rfl
          simp only [pu]
          refine anyL_take (i := 2) (v := ?_) rfl (by kernel_rfl) (by kernel_rfl) (by kernel_rfl) (yl_other (by decide) (by decide) rfl (fun f1 f2 wx hT => ?_)) ?_; rotate_left
          · refine lands_value (w := wx) ?_ hT; go_simp <;> rfl
          simp only [pu]
          refine anyL_take (i := 3) (v := .map (some w1.heap.size)) rfl (by kernel_rfl) (by kernel_rfl) (by kernel_rfl) (yl_ahead (n := 12) (by decide) (by decide) (by kernel_rfl) rfl (fun f2 wx hT => ?_)) ?_
          · have c0 := HC.out _ hT; refine lands_value (w := wx) ?_ hT; go_simp; skip
          simp only [pu]
          refine anyL_take (i := 4) (v := ?_) rfl (by kernel_rfl) (by kernel_rfl) (by kernel_rfl) (yl_other (by decide) (by decide) rfl (fun f1 f2 wx hT => ?_)) ?_; rotate_left
          · refine lands_value (w := wx) ?_ hT; go_simp <;> rfl
          simp only [pu]
          refine anyL_take (i := 5) (v := .int .u32 ((2 ^ d : Nat) : Int)) rfl (by kernel_rfl) (by kernel_rfl) (by kernel_rfl) (yl_other (by decide) (by decide) rfl (fun f1 f2 wx hT => ?_)) ?_
          · refine lands_value (w := wx) ?_ hT; go_simp; exact HS.out
          simp only [pu]
          refine anyL_take (i := 6) (v := ?_) rfl (by kernel_rfl) (by kernel_rfl) (by kernel_rfl) (yl_other (by decide) (by decide) rfl (fun f1 f2 wx hT => ?_)) ?_; rotate_left
          · refine lands_value (w := wx) ?_ hT; go_simp <;> rfl
          simp only [pu]
          refine anyL_take (i := 7) (v := ?_) rfl (by kernel_rfl) (by kernel_rfl) (by kernel_rfl) (yl_other (by decide) (by decide) rfl (fun f1 f2 wx hT => ?_)) ?_; rotate_left
          · refine lands_value (w := wx) ?_ hT; go_simp <;> rfl
          simp only [pu]
          refine anyL_take (i := 8) (v := ?_) rfl (by kernel_rfl) (by kernel_rfl) (by kernel_rfl) (yl_other (by decide) (by decide) rfl (fun f1 f2 wx hT => ?_)) ?_; rotate_left
          · refine lands_value (w := wx) ?_ hT; go_simp <;> rfl
          simp only [pu]
          refine anyL_take (i := 9) (v := .int .i64 (c : Int)) rfl (by kernel_rfl) (by kernel_rfl) (by kernel_rfl) (yl_ahead (n := 12) (by decide) (by decide) (by kernel_rfl) rfl (fun f2 wx hT => ?_)) ?_
          · have c1 := HQ.out _ hT; refine lands_value (w := wx) ?_ hT; go_simp; skip
          simp only [pu]
          refine anyL_take (i := 10) (v := .int .u32 (c : Int)) rfl (by kernel_rfl) (by kernel_rfl) (by kernel_rfl) (yl_other (by decide) (by decide) rfl (fun f1 f2 wx hT => ?_)) ?_
          · refine lands_value (w := wx) ?_ hT; go_simp; exact HV.out
          simp only [pu]
          refine anyL_take (i := 11) (v := .int .u32 ((keyW (toL f) n k : Nat) : Int)) rfl (by kernel_rfl) (by kernel_rfl) (by kernel_rfl) (yl_other (by decide) (by decide) rfl (fun f1 f2 wx hT => ?_)) ?_
          · refine lands_value (w := wx) ?_ hT; go_simp; exact HO.out
          simp only [pu]
          refine anyL_take (i := 12) (v := ?_) rfl (by kernel_rfl) (by kernel_rfl) (by kernel_rfl) (yl_other (by decide) (by decide) rfl (fun f1 f2 wx hT => ?_)) ?_; rotate_left
          · refine lands_value (w := wx) ?_ hT; go_simp <;> rfl
          simp only [pu]
          refine anyL_take (i := 13) (v := undef) rfl (by kernel_rfl) (by kernel_rfl) (by kernel_rfl) (yl_first (by decide) rfl (fun f2 wx hT => ?_)) ?_
          · obtain ⟨w5, hrun, h5⟩ := HPUT.out _ hT; go_simp; exact ⟨rfl, h5⟩
          simp only [Act.put]
          refine anyL_done (by kernel_rfl) (fun wr2 hT => ?_) _
          have HK2 : Hid (NW w w1 (toL f) n (k + 1) wr2) := Lib.hid hT
          clear HN
          go_wp2_with fail
          go_roundw
          case rel => exact ⟨k + 1, by omega, by go_num, HK2⟩
          case measure => simp [intOf]; omega
    · obtain rfl : k = n := by omega
      have CS := S.out wr (h.below HN.out.b)
      have c0 : wr.cell? ⟨w1.heap.size + 1, 0, none⟩ = some (.map (some w1.heap.size)) := HN.out.c.cell 0
      have hl : (Instr.lookup 62 (.map (some w1.heap.size)) (.int .u32 2) true).run Try.prog wr = .ok (.tuple #[.int .i64 (((gkW (toL f) k k 2).getD 0 : Nat) : Int), .bool (gkW (toL f) k k 2).isSome]) wr := HN.out.m.look (x := 2) (by decide)
      have hlen : (Builtin.len_ #[62] 3 #[.map (some w1.heap.size)]).run Try.prog wr = .ok (.int .i64 ((nzW (toL f) k : Nat) : Int)) wr := HN.out.m.len _
      have hsk := single_key H15.out HK.out
      have hnk := @nz_kr (toL f) k
      have hE0 : (kr (toL f) k = 32768 ∨ nzW (toL f) k = 0 ∨ (nzW (toL f) k = 1 ∧ (gkW (toL f) k k 2).isSome = true)) → newE f k = 0 := fun hh => by
        unfold newE
        rw [if_pos (codesE_ok ⟨okB_true.2 HB.out, hn⟩ HK.out), if_pos]
        rcases hh with h1 | h1 | h1
        · exact .inl h1
        · exact .inr (.inl (hnk.1 h1))
        · exact .inr (.inr (hsk.2 h1))
      have hE2 : kr (toL f) k ≠ 32768 → nzW (toL f) k ≠ 0 → ¬ (nzW (toL f) k = 1 ∧ (gkW (toL f) k k 2).isSome = true) → newE f k = 2 := fun h1 h2 h3 => by
        unfold newE
        rw [if_pos (codesE_ok ⟨okB_true.2 HB.out, hn⟩ HK.out), if_neg]
        rintro (h4 | h4 | h4)
        · exact h1 h4
        · exact h2 (hnk.2 h4)
        · exact h3 (hsk.1 h4)
      generalize hb : (gkW (toL f) k k 2).isSome = b at *
      generalize (gkW (toL f) k k 2).getD 0 = gd at *
      generalize hKr : kr (toL f) k = K at *
      generalize hNz : nzW (toL f) k = Z at *
      clear hsk hnk hb hKr hNz
      have HE0 := Lib.hid hE0
      have HE2 := Lib.hid hE2
      clear hE0 hE2
      by_cases h1 : K = 32768
      · have HF : Hid (newE f k = 0) := Lib.hid (HE0.out (.inl h1))
        subst h1
        go_wp2_with fail
        refine CS.mono ?_
        intro e w2 hw2
        obtain ⟨rfl, e2⟩ := hw2
        obtain rfl := e2.symm
        go_wp2_with fail
        go_ret2
        exact ⟨HN.out.b, .inl ⟨HF.out, w1, rfl, HN.out⟩⟩
      · have hk1 : ¬ (K : Int) = 32768 := by omega
        have hkq : ((K : Int) == 32768) = false := by simpa using hk1
        by_cases h2 : Z = 0
        · have HF : Hid (newE f k = 0) := Lib.hid (HE0.out (.inr (.inl h2)))
          subst h2
          go_wp2_with fail
          refine CS.mono ?_
          intro e w2 hw2
          obtain ⟨rfl, e2⟩ := hw2
          obtain rfl := e2.symm
          go_wp2_with fail
          go_ret2
          exact ⟨HN.out.b, .inl ⟨HF.out, w1, rfl, HN.out⟩⟩
        · have hz0 : ¬ (Z : Int) = 0 := by omega
          have hzq : ((Z : Int) == 0) = false := by simpa using hz0
          by_cases h3 : Z = 1
          · subst h3
            cases b with
            | true =>
              have HF : Hid (newE f k = 0) := Lib.hid (HE0.out (.inr (.inr ⟨rfl, rfl⟩)))
              go_wp2_with fail
              refine CS.mono ?_
              intro e w2 hw2
              obtain ⟨rfl, e2⟩ := hw2
              obtain rfl := e2.symm
              go_wp2_with fail
              go_ret2
              exact ⟨HN.out.b, .inl ⟨HF.out, w1, rfl, HN.out⟩⟩
            | false =>
              have HF : Hid (newE f k = 2) := Lib.hid (HE2.out h1 (by decide) (by simp))
              go_wp2_with fail
              refine CS.mono ?_
              intro e w2 hw2
              obtain ⟨rfl, e2⟩ := hw2
              obtain rfl := e2.symm
              go_wp2_with fail
              go_ret2
              exact ⟨HN.out.b, .inr ⟨HF.out, rfl⟩⟩
          · have HF : Hid (newE f k = 2) := Lib.hid (HE2.out h1 h2 (fun hh => h3 hh.1))
            have hz1 : ¬ (Z : Int) = 1 := by omega
            have hq1 : ((Z : Int) == 1) = false := by simpa using hz1
            go_wp2_with fail
            refine CS.mono ?_
            intro e w2 hw2
            obtain ⟨rfl, e2⟩ := hw2
            obtain rfl := e2.symm
            go_wp2_with fail
            go_ret2
            exact ⟨HN.out.b, .inr ⟨HF.out, rfl⟩⟩
theorem new_bad (p : Option Addr) (n cap : Nat) (f : Nat → Int) (w : World) (h : IS p n cap f w) (hn : n ≤ 17592186044416) (he : codesE f n ≠ 0) :
    Calls Try.prog 16 #[.slice p n cap] w fun e w' => e = .returned (.tuple #[.pointer none, .int .i64 (codesE f n : Int)]) ∧ Below w.heap.size w w' := by
  have C := codes_huff p n cap f w h hn
  have hei : ¬ (codesE f n : Int) = 0 := by omega
  generalize codesM f n = M at *
  generalize codesE f n = E at *
  clear he
  go_enter Try.func16, Try.ntmps16
  go_wp2_with fail
  refine C.mono ?_
  rintro e w1 ⟨p2, c2, rfl, _, b1⟩
  go_wp2_with fail
  go_ret2
  exact ⟨rfl, b1⟩
/-- A code that New made of the lengths f. -/
def CodeV (v : Value) (f : Nat → Int) (n : Nat) (w : World) : Prop :=
  n ≤ 300 ∧ okB f n = true ∧ kr (toL f) n ≤ 32768 ∧ ∃ w1 : World, v = .pointer (some ⟨w1.heap.size + 1, 0, none⟩) ∧ MW w1.heap.size n (gkW (toL f) n n) (nzW (toL f) n) w ∧ Blk w (w1.heap.size + 1) 64 #[.map (some w1.heap.size)]
theorem CodeV.below {v : Value} {f : Nat → Int} {n : Nat} {w w' : World} (h : CodeV v f n w) (hb : Below w.heap.size w w') : CodeV v f n w' := by
  obtain ⟨h1, h2, h3, w1, h4, h5, h6⟩ := h
  exact ⟨h1, h2, h3, w1, h4, h5.below hb, h6.below hb h6.lt⟩
/-- It is not nil. -/
theorem CodeV.some {v : Value} {f : Nat → Int} {n : Nat} {w : World} (h : CodeV v f n w) : ∃ a, v = .pointer (some a) := by
  obtain ⟨_, _, _, w1, h4, _⟩ := h
  exact ⟨_, h4⟩
theorem new_huff_not (p : Option Addr) (n cap : Nat) (f : Nat → Int) (w : World) (h : IS p n cap f w) (hn : n ≤ 17592186044416) (he : newE f n ≠ 0) :
    Calls Try.prog 16 #[.slice p n cap] w fun e w' => e = .returned (.tuple #[.pointer none, .int .i64 (newE f n : Int)]) ∧ Below w.heap.size w w' := by
  by_cases hc : codesE f n = 0
  · obtain ⟨⟨h1, h2⟩, h3⟩ := codesE_zero hc
    refine (new_any p n cap f w h h2 h1 h3).mono fun e w' ⟨hb, hh⟩ => ?_
    rcases hh with ⟨h4, _⟩ | ⟨h4, h5⟩
    · exact absurd h4 he
    · rw [h4]; exact ⟨h5, hb⟩
  · have e : newE f n = codesE f n := if_neg hc
    rw [e]
    exact new_bad p n cap f w h hn hc
theorem new_huff (p : Option Addr) (n cap : Nat) (f : Nat → Int) (w : World) (h : IS p n cap f w) (_ : n ≤ 17592186044416) (he : newE f n = 0) :
    Calls Try.prog 16 #[.slice p n cap] w fun e w' => ∃ v, e = .returned (.tuple #[v, .int .i64 0]) ∧ CodeV v f n w' ∧ Below w.heap.size w w' := by
  have hc : codesE f n = 0 := by
    unfold newE at he
    by_cases h0 : codesE f n = 0
    · exact h0
    · rw [if_neg h0] at he; exact absurd he h0
  obtain ⟨⟨h1, h2⟩, h3⟩ := codesE_zero hc
  refine (new_any p n cap f w h h2 h1 h3).mono fun e w' ⟨hb, hh⟩ => ?_
  rcases hh with ⟨_, w1, h4, h5⟩ | ⟨h4, _⟩
  · exact ⟨_, h4, ⟨h2, h1, h3, w1, rfl, h5.m, h5.c⟩, hb⟩
  · omega
end Go.Proofs.Ytmmkmbinmmfblaa
