/- The developers' state of chapter 10: six cells, what was said in a slice of one's own; numbers. -/
import Derived.Test.YtiphnnaanjjaoaaMX
import Derived.Test.YtiphnnaanjjaoaaME
import Derived.Test.YtiphnnaanjjaoaaMA
import Derived.BigQuiet
import Derived.Deep.LoopGhost
import Derived.Test.YtiphnnaanjjaoaaMD
import Derived.Laws.CopyRow
import Derived.Lib.AppendZerosOnto
import Derived.Laws.AppendOwn
import Derived.OrdersHeld
namespace Go.Proofs.Ytiphnnaanjjaoaa
open Go.RowKit
/-- The developers' state in block g: v holds what was said; the fixed codes. -/
structure UW (g : Nat) (s : ByteArray) (M p : Nat) (o : List Nat) (v k1 k2 : Value) (w : World) : Prop where
  blk : Blk w g 49 #[.string s, .int .i64 (p : Int), .int .i64 (M : Int), v, k1, k2]
  own : w.ownsRow (g + 1) 5 1 v o.length (bys o)
section
variable {g : Nat} {s : ByteArray} {M p : Nat} {o : List Nat} {v k1 k2 : Value} {w w' : World}
theorem UW.lt (h : UW g s M p o v k1 k2 w) : g < w.heap.size := h.blk.lt
theorem UW.c0 (h : UW g s M p o v k1 k2 w) : w.cell? ⟨g, 0, none⟩ = some (.string s) := h.blk.cell 0
theorem UW.c1 (h : UW g s M p o v k1 k2 w) : w.cell? ⟨g, 1, none⟩ = some (.int .i64 (p : Int)) := h.blk.cell 1
theorem UW.c2 (h : UW g s M p o v k1 k2 w) : w.cell? ⟨g, 2, none⟩ = some (.int .i64 (M : Int)) := h.blk.cell 2
theorem UW.c3 (h : UW g s M p o v k1 k2 w) : w.cell? ⟨g, 3, none⟩ = some v := h.blk.cell 3
theorem UW.c4 (h : UW g s M p o v k1 k2 w) : w.cell? ⟨g, 4, none⟩ = some k1 := h.blk.cell 4
theorem UW.c5 (h : UW g s M p o v k1 k2 w) : w.cell? ⟨g, 5, none⟩ = some k2 := h.blk.cell 5
theorem UW.fz (h : UW g s M p o v k1 k2 w) (j : Nat) : w.frozen? ⟨g, j, none⟩ = false := h.blk.frozen j
theorem UW.setP (h : UW g s M p o v k1 k2 w) (q : Nat) : UW g s M q o v k1 k2 (w.setCell ⟨g, 1, none⟩ (.int .i64 (q : Int))) :=
  ⟨h.blk.set_ 1 _, ownsRow_setCell_below h.own (a := ⟨g, 1, none⟩) (Nat.lt_succ_self g) _⟩
theorem UW.drew (h : UW g s M p o v k1 k2 w) : UW g s M p o v k1 k2 w.drew := ⟨h.blk.drew, h.own.drew⟩
theorem UW.drewN (h : UW g s M p o v k1 k2 w) (n : Nat) : UW g s M p o v k1 k2 (w.drewN n) := ⟨h.blk.drewN n, h.own⟩
theorem UW.below (h : UW g s M p o v k1 k2 w) (hb : Below w.heap.size w w') : UW g s M p o v k1 k2 w' := by
  refine ⟨h.blk.below hb h.lt, h.own.1, ?_⟩
  rcases h.own.2 with h1 | ⟨q, cap, cur, h1, h2, h3, h4⟩
  · exact .inl h1
  · refine .inr ⟨q, cap, cur, h1, h2, ?_, h4⟩
    rw [hb.block q (by
      rcases Nat.lt_or_ge q w.heap.size with hlt | hge
      · exact hlt
      · rw [Array.getElem?_eq_none hge] at h3; cases h3)]
    exact h3
theorem UW.ownB (h : UW g s M p o v k1 k2 w) : ∀ k, v.ownBlock = some k → g + 1 ≤ k ∧ k < w.heap.size := World.ownsRow.lt h.own
end
/-- What number answers: a number, is it there, the next bit. -/
def numS (B : Nat → Nat) (T p least n : Nat) : Nat × Bool × Nat := if p + n ≤ T then (least + vb B p n, true, p + n) else (0, false, p)
theorem numS_in {B : Nat → Nat} {T p least n : Nat} (h : p + n ≤ T) : numS B T p least n = (least + vb B p n, true, p + n) := if_pos h
theorem numS_out {B : Nat → Nat} {T p least n : Nat} (h : ¬ p + n ≤ T) : numS B T p least n = (0, false, p) := if_neg h
set_option maxRecDepth 100000 in
set_option maxHeartbeats 8000000 in
theorem dnum_any (g : Nat) (s : ByteArray) (M p : Nat) (o : List Nat) (v k1 k2 : Value) (least n : Nat) (w : World) (h : UW g s M p o v k1 k2 w) (hs : s.size ≤ 281474976710656) (hp : p ≤ 8 * s.size) (hn : n ≤ 16) (hl : least ≤ 100000) :
    Calls Try.prog 25 #[.pointer (some ⟨g, 0, none⟩), .int .i64 (least : Int), .int .i64 (n : Int)] w fun e w' => e = .returned (.tuple #[.int .i64 ((numS (bitH s) (8 * s.size) p least n).1 : Int), .bool (numS (bitH s) (8 * s.size) p least n).2.1]) ∧ UW g s M (numS (bitH s) (8 * s.size) p least n).2.2 o v k1 k2 w' ∧ Mv g v w v w' := by
  have c0 := h.c0
  have c1 := h.c1
  obtain ⟨T, hT⟩ : ∃ T, T = 8 * s.size := ⟨_, rfl⟩
  have hw1 : IntKind.i64.wrap (8 * (s.size : Int)) = (T : Int) := by rw [IntWalk.i64_in _ (by omega)]; omega
  have hw2 : IntKind.i64.wrap ((T : Int) - (p : Int)) = (T : Int) - (p : Int) := IntWalk.i64_in _ (by omega)
  by_cases hin : p + n ≤ 8 * s.size
  · rw [numS_in hin]
    have hgt : ¬ (n : Int) > (T : Int) - (p : Int) := by omega
    have HT := Lib.hid hT
    have HIN := Lib.hid hin
    clear hT hin
    go_enter Try.func25, Try.ntmps25
    go_wp2_with fail
    go_quiet (fail)
    have h2 := h.drewN nq
    have m2 := (Mv.refl g v w).drewN nq
    clear h c0 c1
    generalize w.drewN nq = w0 at h2 m2 ⊢
    go_wp2_with fail
    go_loopw [8, 24] (fun u i wr => ∃ k : Nat, k ≤ n ∧ i = .int .i64 (k : Int) ∧ u = .int .i64 (vb (bitH s) p k : Int) ∧ UW g s M (p + k) o v k1 k2 wr ∧ Mv g v w v wr) (fun _ i _ => n - (intOf i).toNat)
    case atStart => exact ⟨0, by omega, rfl, rfl, h2, m2⟩
    case round =>
      obtain ⟨k, hk, rfl, rfl, hr, hm⟩ := hrel
      clear h2 m2
      have c0 := hr.c0
      have c1 := hr.c1
      have f1 := hr.fz 1
      by_cases hlt : k < n
      · obtain ⟨P, hP⟩ : ∃ P, P = p + k := ⟨_, rfl⟩
        obtain ⟨Q, hQ⟩ : ∃ Q, Q = P / 8 := ⟨_, rfl⟩
        obtain ⟨R, hR⟩ : ∃ R, R = P % 8 := ⟨_, rfl⟩
        rw [← hP] at c1 hr
        have hin := HIN.out
        have hq : Q < s.size := by omega
        have hz1 : (P : Int).tdiv 8 = (Q : Int) := by rw [Int.tdiv_eq_ediv_of_nonneg (by omega)]; omega
        have hz2 : (P : Int) / 8 = (Q : Int) := by omega
        have hR1 : (P : Int).tmod 8 = (R : Int) := by rw [Int.tmod_eq_emod_of_nonneg (by omega)]; omega
        have hR2 : (P : Int) % 8 = (R : Int) := by omega
        have hQw : IntKind.i64.wrap (Q : Int) = (Q : Int) := IntWalk.i64_in _ (by omega)
        have hlti : (k : Int) < (n : Int) := by omega
        have hR8 : R < 8 := by omega
        have hmin : min R 8 = R := by omega
        have HBS : Hid (bitH s P = byteS s Q / 2 ^ R % 2) := Lib.hid (by unfold bitH; rw [← hQ, ← hR])
        have HP1 := Lib.hid hP
        have HPT : Hid (P < 8 * s.size ∧ k < n) := Lib.hid ⟨by omega, hlt⟩
        clear hP hQ hR hp hlt hin
        go_wp2_with fail
        go_quiet (fail)
        have HV : Hid (bits .or .i64 (vb (bitH s) p k : Int) (wrap64 (wrap64 (bits .and .u8 (((s[Q]).toNat : Int) / 2 ^ R) 1) * 2 ^ k)) = (vb (bitH s) p (k + 1) : Int)) := Lib.hid (vb_more _ (bitH_lt s) p k (by have := HPT.out; omega) _ (by
          rw [byteS_at s Q hq, bit_out8 _ _ (byteS_lt _ _), ← HBS.out, HP1.out]))
        rw [HV.out]
        have h3 := hr.drewN nq
        have m3 := hm.drewN nq
        clear hr hm c0 c1 f1
        generalize wr.drewN nq = wz at h3 m3 ⊢
        have c1 := h3.c1
        have f1 := h3.fz 1
        have hPw : IntKind.i64.wrap ((P : Int) + 1) = ((P + 1 : Nat) : Int) := by have := HPT.out; rw [IntWalk.i64_in _ (by omega)]; rfl
        have HPT2 : Hid ((P : Int) + 1 < 9000000000000000000) := Lib.hid (by have := HPT.out; omega)
        go_wp2_with fail
        have hP1 := HP1.out
        have hPT := HPT.out
        have h4 := h3.setP (P + 1)
        rw [show P + 1 = p + (k + 1) by omega] at h4
        rw [show (P : Int) + 1 = ((p + (k + 1) : Nat) : Int) by omega]
        exact ⟨⟨k + 1, by omega, rfl, rfl, h4, m3.set 1 _⟩, by simp only [intOf]; omega⟩
      · obtain rfl : k = n := by omega
        have hlti : ¬ (k : Int) < (k : Int) := by omega
        have hvl := vb_lt (bitH_lt s) p k
        have h16 : 2 ^ k ≤ 2 ^ 16 := Nat.pow_le_pow_right (by decide) hn
        have HW : IntKind.i64.wrap ((least : Int) + (vb (bitH s) p k : Int)) = (least : Int) + (vb (bitH s) p k : Int) := IntWalk.i64_in _ (by omega)
        clear hvl h16
        go_wp2_with fail
        go_ret2
        exact ⟨rfl, hr, hm⟩
  · rw [numS_out hin]
    have hgt : (n : Int) > (T : Int) - (p : Int) := by omega
    clear hT hin
    go_enter Try.func25, Try.ntmps25
    go_wp2_with fail
    go_quiet (fail)
    have h2 := h.drewN nq
    have m2 := (Mv.refl g v w).drewN nq
    clear h c0 c1
    generalize w.drewN nq = w0 at h2 m2 ⊢
    go_wp2_with fail
    go_ret2
    exact ⟨rfl, h2, m2⟩
end Go.Proofs.Ytiphnnaanjjaoaa
/- The developers' bytesRead, toWholeByte and symbol of chapter 10; a code stays. -/
namespace Go.Proofs.Ytiphnnaanjjaoaa
open Go.RowKit
section
variable {g : Nat} {s : ByteArray} {M p : Nat} {o : List Nat} {v k1 k2 : Value} {w w' : World}
theorem UW.own_cells (h : UW g s M p o v k1 k2 w) {k : Nat} (e : v.ownBlock = some k) : ∃ cs, w.heap[k]? = some (.cells cs 5 (0, 0)) := by
  rcases h.own.2 with ⟨h1, _⟩ | ⟨q, cap, cur, h1, _, h3, _⟩
  · subst h1; cases e
  · subst h1
    have e : q = k := by injection e
    subst e; exact ⟨_, h3⟩
/-- A code stays, whatever becomes of the state. -/
theorem CodeV.mv {c : Value} {f : Nat → Int} {n : Nat} {v' : Value} (h : CodeV c f n w) (hu : UW g s M p o v k1 k2 w) (m : Mv g v w v' w') : CodeV c f n w' := by
  obtain ⟨h1, h2, h3, w1, h4, ⟨D, ⟨es, clock, e1, e2⟩, h5⟩, h6⟩ := h
  have hb := hu.blk
  unfold Blk at hb
  refine ⟨h1, h2, h3, w1, h4, ⟨D, ⟨es, clock, (m.block _ ?_ ?_ ?_).trans e1, e2⟩, h5⟩, (m.block _ h6.lt ?_ ?_).trans h6⟩
  · exact World.ownsMap.lt (H := Unit) ⟨es, clock, e1, e2⟩
  · rintro rfl
    rw [e1] at hb; cases hb
  · intro e
    obtain ⟨cs, h7⟩ := hu.own_cells e
    rw [e1] at h7; cases h7
  · rintro rfl
    unfold Blk at h6
    rw [h6] at hb
    injection hb with hb
    injection hb with _ hb
    exact absurd hb (by decide)
  · intro e
    obtain ⟨cs, h7⟩ := hu.own_cells e
    unfold Blk at h6
    rw [h6] at h7
    injection h7 with h7
    injection h7 with _ h7
    exact absurd h7 (by decide)
end
/-- What symbol answers: a symbol, is it there, the next bit. -/
def symR (B : Nat → Nat) (T : Nat) (l : Nat → Nat) (n p : Nat) : Nat × Bool × Nat :=
  match nextV l n B T p 0 15 with
  | (k, q, 0) => (k, true, q)
  | _ => (0, false, p)
theorem symR_in {B : Nat → Nat} {T : Nat} {l : Nat → Nat} {n p k q : Nat} (h : nextV l n B T p 0 15 = (k, q, 0)) : symR B T l n p = (k, true, q) := by unfold symR; rw [h]; rfl
theorem symR_out {B : Nat → Nat} {T : Nat} {l : Nat → Nat} {n p k q e : Nat} (h : nextV l n B T p 0 15 = (k, q, e + 1)) : symR B T l n p = (0, false, p) := by unfold symR; rw [h]; rfl
set_option maxRecDepth 100000 in
set_option maxHeartbeats 8000000 in
theorem dbytes_any (g : Nat) (s : ByteArray) (M p : Nat) (o : List Nat) (v k1 k2 : Value) (w : World) (h : UW g s M p o v k1 k2 w) (hp : p ≤ 2251799813685248) :
    Calls Try.prog 18 #[.pointer (some ⟨g, 0, none⟩)] w fun e w' => e = .returned (.int .i64 (((p + 7) / 8 : Nat) : Int)) ∧ w = w' := by
  have c1 := h.c1
  obtain ⟨Q, hQ⟩ : ∃ Q, Q = (p + 7) / 8 := ⟨_, rfl⟩
  rw [← hQ]
  have hw : IntKind.i64.wrap ((p : Int) + 7) = (p : Int) + 7 := IntWalk.i64_in _ (by omega)
  have hq1 : ((p : Int) + 7).tdiv 8 = (Q : Int) := by rw [Int.tdiv_eq_ediv_of_nonneg (by omega)]; omega
  have hq2 : ((p : Int) + 7) / 8 = (Q : Int) := by omega
  have hqw : IntKind.i64.wrap (Q : Int) = (Q : Int) := IntWalk.i64_in _ (by omega)
  clear hQ
  go_enter Try.func18, Try.ntmps18
  go_wp2_with fail
  go_ret
  exact ⟨rfl, rfl⟩
set_option maxRecDepth 100000 in
set_option maxHeartbeats 8000000 in
theorem dwhole_any (g : Nat) (s : ByteArray) (M p : Nat) (o : List Nat) (v k1 k2 : Value) (w : World) (h : UW g s M p o v k1 k2 w) (hp : p ≤ 2251799813685248) :
    Calls Try.prog 35 #[.pointer (some ⟨g, 0, none⟩)] w fun e w' => e = .returned (.tuple #[]) ∧ UW g s M ((p + 7) / 8 * 8) o v k1 k2 w' ∧ Mv g v w v w' := by
  have C := dbytes_any g s M p o v k1 k2 w h hp
  have f1 := h.fz 1
  have c1 := h.c1
  obtain ⟨Q, hQ⟩ : ∃ Q, Q = (p + 7) / 8 := ⟨_, rfl⟩
  rw [← hQ] at C ⊢
  have hw : IntKind.i64.wrap (8 * (Q : Int)) = ((Q * 8 : Nat) : Int) := by rw [IntWalk.i64_in _ (by omega)]; omega
  have H := Lib.hid (⟨h.setP (Q * 8), (Mv.refl g v w).set 1 (.int .i64 ((Q * 8 : Nat) : Int))⟩ : UW g s M (Q * 8) o v k1 k2 (w.setCell ⟨g, 1, none⟩ (.int .i64 ((Q * 8 : Nat) : Int))) ∧ Mv g v w v (w.setCell ⟨g, 1, none⟩ (.int .i64 ((Q * 8 : Nat) : Int))))
  clear hQ
  go_enter Try.func35, Try.ntmps35
  go_wp2_with fail
  refine C.mono ?_
  rintro e w1 ⟨rfl, rfl⟩
  go_wp2_with fail
  exact bodyPost_end (results_none rfl _ _ _) rfl ⟨rfl, H.out⟩
set_option maxRecDepth 100000 in
set_option maxHeartbeats 8000000 in
theorem dsym_any (g : Nat) (s : ByteArray) (M p : Nat) (o : List Nat) (v k1 k2 c : Value) (f : Nat → Int) (n : Nat) (w : World) (h : UW g s M p o v k1 k2 w) (hc : CodeV c f n w) (hs : s.size ≤ 281474976710656) (hp : p ≤ 2251799813685248) :
    Calls Try.prog 44 #[.pointer (some ⟨g, 0, none⟩), c] w fun e w' => e = .returned (.tuple #[.int .i64 ((symR (bitH s) (8 * s.size) (toL f) n p).1 : Int), .bool (symR (bitH s) (8 * s.size) (toL f) n p).2.1]) ∧ UW g s M (symR (bitH s) (8 * s.size) (toL f) n p).2.2 o v k1 k2 w' ∧ Mv g v w v w' := by
  obtain ⟨r, hr⟩ : ∃ r, nextV (toL f) n (bitH s) (8 * s.size) p 0 15 = r := ⟨_, rfl⟩
  have HR := Lib.hid hr
  have H0 := Lib.hid (⟨h.drew, (Mv.refl g v w).drew, hc⟩ : UW g s M p o v k1 k2 w.drew ∧ Mv g v w v w.drew ∧ CodeV c f n w.drew)
  clear hr h hc
  go_enter Try.func44, Try.ntmps44
  go_wp2_with fail
  refine wp_region_anyL (Two 1000 1001 fun _ _ wx => UW g s M p o v k1 k2 wx ∧ Mv g v w v wx ∧ CodeV c f n wx) (by kernel_rfl) H0.out ?_
  refine anyL_take (i := 0) (v := c) rfl (by kernel_rfl) (by kernel_rfl) (by kernel_rfl) (yl_other (by decide) (by decide) rfl (fun f1 f2 wx hT => ?_)) ?_
  · refine lands_value (w := wx) ?_ hT; go_simp; skip
  simp only [pu]
  refine anyL_take (i := 1) (v := ?_) rfl (by kernel_rfl) (by kernel_rfl) (by kernel_rfl) (yl_other (by decide) (by decide) rfl (fun f1 f2 wx hT => ?_)) ?_; rotate_left
  · refine lands_value (w := wx) ?_ hT; go_simp <;> rfl
  simp only [pu]
  refine anyL_take (i := 2) (v := ?_) rfl (by kernel_rfl) (by kernel_rfl) (by kernel_rfl) (yl_other (by decide) (by decide) rfl (fun f1 f2 wx hT => ?_)) ?_; rotate_left
  · refine lands_value (w := wx) ?_ hT; go_simp <;> rfl
  simp only [pu]
  refine anyL_take (i := 3) (v := ?_) rfl (by kernel_rfl) (by kernel_rfl) (by kernel_rfl) (yl_other (by decide) (by decide) rfl (fun f1 f2 wx hT => ?_)) ?_; rotate_left
  · refine lands_value (w := wx) ?_ hT; go_simp <;> rfl
  simp only [pu]
  refine anyL_take (i := 4) (v := .string s) rfl (by kernel_rfl) (by kernel_rfl) (by kernel_rfl) (yl_other (by decide) (by decide) rfl (fun f1 f2 wx hT => ?_)) ?_
  · have cc := hT.1.c0; refine lands_value (w := wx) ?_ hT; go_simp; skip
  simp only [pu]
  refine anyL_take (i := 5) (v := ?_) rfl (by kernel_rfl) (by kernel_rfl) (by kernel_rfl) (yl_other (by decide) (by decide) rfl (fun f1 f2 wx hT => ?_)) ?_; rotate_left
  · refine lands_value (w := wx) ?_ hT; go_simp <;> rfl
  simp only [pu]
  refine anyL_take (i := 6) (v := ?_) rfl (by kernel_rfl) (by kernel_rfl) (by kernel_rfl) (yl_other (by decide) (by decide) rfl (fun f1 f2 wx hT => ?_)) ?_; rotate_left
  · refine lands_value (w := wx) ?_ hT; go_simp <;> rfl
  simp only [pu]
  refine anyL_take (i := 7) (v := ?_) rfl (by kernel_rfl) (by kernel_rfl) (by kernel_rfl) (yl_other (by decide) (by decide) rfl (fun f1 f2 wx hT => ?_)) ?_; rotate_left
  · refine lands_value (w := wx) ?_ hT; go_simp <;> rfl
  simp only [pu]
  refine anyL_take (i := 8) (v := .int .i64 (p : Int)) rfl (by kernel_rfl) (by kernel_rfl) (by kernel_rfl) (yl_other (by decide) (by decide) rfl (fun f1 f2 wx hT => ?_)) ?_
  · have cc := hT.1.c1; refine lands_value (w := wx) ?_ hT; go_simp; skip
  simp only [pu]
  refine anyL_take (i := 9) (v := .tuple #[.int .i64 (r.1 : Int), .int .i64 (r.2.1 : Int), .int .i64 (r.2.2 : Int)]) rfl (by kernel_rfl) (by kernel_rfl) (by kernel_rfl) (yl_other (by decide) (by decide) rfl (fun f1 f2 wx hT => ?_)) ?_
  · refine lands_calls (f := 54) ((next_huff c f n s p wx hT.2.2 hs (by omega) r HR.out).mono fun e w' ⟨he, hb⟩ => ⟨he, hT.1.below hb, hT.2.1.below hb, hT.2.2.below hb⟩) ?_; go_simp; skip
  simp only [pu]
  refine anyL_take (i := 10) (v := ?_) rfl (by kernel_rfl) (by kernel_rfl) (by kernel_rfl) (yl_other (by decide) (by decide) rfl (fun f1 f2 wx hT => ?_)) ?_; rotate_left
  · refine lands_value (w := wx) ?_ hT; go_simp <;> rfl
  simp only [pu]
  refine anyL_take (i := 11) (v := ?_) rfl (by kernel_rfl) (by kernel_rfl) (by kernel_rfl) (yl_other (by decide) (by decide) rfl (fun f1 f2 wx hT => ?_)) ?_; rotate_left
  · refine lands_value (w := wx) ?_ hT; go_simp <;> rfl
  simp only [pu]
  refine anyL_take (i := 12) (v := ?_) rfl (by kernel_rfl) (by kernel_rfl) (by kernel_rfl) (yl_other (by decide) (by decide) rfl (fun f1 f2 wx hT => ?_)) ?_; rotate_left
  · refine lands_value (w := wx) ?_ hT; go_simp <;> rfl
  simp only [pu]
  refine anyL_take (i := 13) (v := ?_) rfl (by kernel_rfl) (by kernel_rfl) (by kernel_rfl) (yl_other (by decide) (by decide) rfl (fun f1 f2 wx hT => ?_)) ?_; rotate_left
  · refine lands_value (w := wx) ?_ hT; go_simp <;> rfl
  simp only [pu]
  refine anyL_take (i := 14) (v := ?_) rfl (by kernel_rfl) (by kernel_rfl) (by kernel_rfl) (yl_other (by decide) (by decide) rfl (fun f1 f2 wx hT => ?_)) ?_; rotate_left
  · refine lands_value (w := wx) ?_ hT; go_simp <;> rfl
  simp only [pu]
  refine anyL_take (i := 15) (v := ?_) rfl (by kernel_rfl) (by kernel_rfl) (by kernel_rfl) (yl_other (by decide) (by decide) rfl (fun f1 f2 wx hT => ?_)) ?_; rotate_left
  · refine lands_value (w := wx) ?_ hT; go_simp <;> rfl
  simp only [pu]
  refine anyL_take (i := 16) (v := ?_) rfl (by kernel_rfl) (by kernel_rfl) (by kernel_rfl) (yl_other (by decide) (by decide) rfl (fun f1 f2 wx hT => ?_)) ?_; rotate_left
  · refine lands_value (w := wx) ?_ hT; go_simp <;> rfl
  simp only [pu]
  refine anyL_done rfl ?_ _
  intro wx hT
  replace hT : UW g s M p o v k1 k2 wx ∧ Mv g v w v wx ∧ CodeV c f n wx := hT
  obtain ⟨h1, m1, _⟩ := hT
  obtain ⟨k, z, e⟩ := r
  cases e with
  | zero =>
    have HS := Lib.hid (symR_in HR.out)
    have fz := h1.fz 1
    have c1 := h1.c1
    go_wp2_with fail
    go_ret2
    rw [HS.out]
    exact ⟨rfl, h1.setP z, m1.set 1 _⟩
  | succ e =>
    have HS := Lib.hid (symR_out HR.out)
    have hen : (((e + 1 : Nat) : Int) != 0) = true := by simp; omega
    have hen0 : ¬ ((e + 1 : Nat) : Int) = 0 := by omega
    generalize ((e + 1 : Nat) : Int) = E at hen hen0 ⊢
    go_wp2_with fail
    go_ret2
    rw [HS.out]
    exact ⟨rfl, h1, m1⟩
end Go.Proofs.Ytiphnnaanjjaoaa
/- The developers' say and toldBy of chapter 10. -/
namespace Go.Proofs.Ytiphnnaanjjaoaa
open Go.RowKit
theorem UW.shape {g : Nat} {s : ByteArray} {M p : Nat} {o : List Nat} {v k1 k2 : Value} {w : World} (h : UW g s M p o v k1 k2 w) : ∃ q cap, v = .slice q o.length cap := by
  rcases h.own.2 with ⟨h1, h2⟩ | ⟨q, cap, cur, h1, _⟩
  · exact ⟨none, 0, by rw [h1, h2]⟩
  · exact ⟨_, cap, h1⟩
/-- One byte more. -/
theorem wpList_sayU {ops : Array Oper} {rest : List Oper} {z : Oper} {a : Act} {Q : Exit → Act → World → Prop} {g : Nat} {s : ByteArray} {M p : Nat} {o : List Nat} {v k1 k2 : Value} {w : World} (hgd : z.guard = none) (sl xx : Operand)
    (ho : z.op = .call { callee := .builtin .append, args := #[sl, xx], argTypes := #[36, 36] }) (hs : a.eval sl = v) (h : UW g s M p o v k1 k2 w) (hn : o.length ≤ 2097152)
    (hx : a.eval xx = .slice (some ⟨w.heap.size, 0, none⟩) 1 1) (b : Nat)
    (k : ∀ q cap w', w'.cell? ⟨g, 3, none⟩ = some v → w'.frozen? ⟨g, 3, none⟩ = false → UW g s M p (o ++ [b]) (.slice (some ⟨q, 0, none⟩) (o.length + 1) cap) k1 k2 (w'.setCell ⟨g, 3, none⟩ (.slice (some ⟨q, 0, none⟩) (o.length + 1) cap)) →
      Mv g v w (.slice (some ⟨q, 0, none⟩) (o.length + 1) cap) (w'.setCell ⟨g, 3, none⟩ (.slice (some ⟨q, 0, none⟩) (o.length + 1) cap)) → wpList Try.prog ops Q rest (a.put z.dst (.slice (some ⟨q, 0, none⟩) (o.length + 1) cap)) w') :
    wpList Try.prog ops Q (z :: rest) a (w.alloc (.cells #[.int .u8 (b : Int)] 5)) := by
  have hb : Below w.heap.size w (w.alloc (.cells #[.int .u8 (b : Int)] 5)) := (Below.refl _ _).alloc (Nat.le_refl _) _
  have h2 := h.below hb
  obtain ⟨i0, hi, hz0, hz1, hz2⟩ := info_parts u8_infoO
  have hbn := Blk.new w 5 #[.int .u8 (b : Int)]
  refine wpList_append_lies _ hgd sl xx 36 ho (g + 1) 5 i0 (.int .u8 0) 1 1 Try.underlying36 hi hz0 hz1 hz2 rfl (by decide) v o.length _ hs h2.own ⟨w.heap.size, 0, none⟩ 1 1 [.int .u8 (b : Int)] hx rfl
    (World.news_of_block hbn) (by intro u hu; rw [List.mem_singleton.1 hu]; rfl) (by decide) (by unfold maxLen; omega) (by omega) (by have := h2.lt; omega) _ rfl ?_
  intro q cap w' hown hgr hat hlt
  have hgB := h.lt
  have hne : v.ownBlock ≠ some g := fun e => by have := (h.ownB g e).1; omega
  have hblk : w'.heap[g]? = _ := hgr.block g (by have := hb.size; omega) (fun e => hne e.symm)
  have hbw : Blk w' g 49 #[.string s, .int .i64 (p : Int), .int .i64 (M : Int), v, k1, k2] := hblk.trans h2.blk
  have hq : g + 1 ≤ q := (World.ownsRow.lt hown q rfl).1
  refine k q cap w' (hbw.cell 3) (hbw.frozen 3) ⟨hbw.set_ 3 _, ?_⟩ (Mv.set ?_ 3 _)
  · have := ownsRow_setCell_below hown (a := ⟨g, 3, none⟩) (Nat.lt_succ_self g) (.slice (some ⟨q, 0, none⟩) (o.length + 1) cap)
    show World.ownsRow _ _ _ _ _ (o ++ [b]).length (bys (o ++ [b]))
    rw [bys_one, List.length_append]
    exact this
  · refine ⟨hgr.os.trans hb.os, hgr.tape.trans hb.tape, hgr.output.trans hb.output, Nat.le_trans hb.size hgr.size, fun i hi2 _ hv => (hgr.block i (Nat.lt_of_lt_of_le hi2 hb.size) (fun e => hv e.symm)).trans (hb.block i hi2), fun i e => ?_⟩
    have e : q = i := by injection e
    rcases hat with h1 | h1
    · exact .inl (by rw [h1, e])
    · right
      have := hb.size
      omega
set_option maxRecDepth 100000 in
set_option maxHeartbeats 8000000 in
theorem dsay_any (g : Nat) (s : ByteArray) (M p : Nat) (o : List Nat) (v k1 k2 : Value) (b : Nat) (w : World) (h : UW g s M p o v k1 k2 w) (hM : M ≤ 1048576) (hn : o.length ≤ M) :
    Calls Try.prog 36 #[.pointer (some ⟨g, 0, none⟩), .int .u8 (b : Int)] w fun e w' => ∃ v', e = .returned (.bool (decide (o.length < M))) ∧ UW g s M p (if o.length < M then o ++ [b] else o) v' k1 k2 w' ∧ Mv g v w v' w' := by
  have k2' := h.c2
  have k3 := h.c3
  obtain ⟨q, cap, hv⟩ := h.shape
  subst hv
  by_cases hl : o.length < M
  · rw [if_pos hl, decide_eq_true hl]
    have hli : ((o.length : Int) == (M : Int)) = false := by simp; omega
    have hli2 : ¬ (o.length : Int) = (M : Int) := by omega
    have HN : Hid (o.length ≤ 2097152) := Lib.hid (by omega)
    clear hl hn
    go_enter Try.func36, Try.ntmps36
    go_wp2_with fail
    go_quiet (fail)
    have h2 := h.drewN nq
    have m2 := (Mv.refl g (.slice q o.length cap) w).drewN nq
    clear h k2' k3
    generalize w.drewN nq = wq at h2 m2 ⊢
    have c3 := h2.c3
    go_wp2_with (at_builtin; refine wpList_sayU rfl (.tmp 19) (.tmp 21) rfl rfl h2 HN.out rfl b ?_; intro q2 cap2 w3 d3 e3 h3 m3)
    go_ret
    exact ⟨_, rfl, h3, m2.trans m3⟩
  · rw [if_neg hl, decide_eq_false hl]
    have hli : ((o.length : Int) == (M : Int)) = true := by simp; omega
    have hli2 : (o.length : Int) = (M : Int) := by omega
    clear hl hn
    rw [hli2] at *
    go_enter Try.func36, Try.ntmps36
    go_wp2_with fail
    go_quiet (fail)
    have h2 := h.drewN nq
    have m2 := (Mv.refl g (.slice q o.length cap) w).drewN nq
    clear h k2' k3
    generalize w.drewN nq = wq at h2 m2 ⊢
    go_wp2_with fail
    go_ret
    exact ⟨_, rfl, h2, m2⟩
/-- What toldBy answers. -/
def byS (B : Nat → Nat) (T p least n : Nat) (ok : Bool) : Nat × Bool × Nat := if ok then numS B T p least n else (0, false, p)
set_option maxRecDepth 100000 in
set_option maxHeartbeats 8000000 in
theorem dby_any (g : Nat) (s : ByteArray) (M p : Nat) (o : List Nat) (v k1 k2 : Value) (least n : Nat) (ok : Bool) (w : World) (h : UW g s M p o v k1 k2 w) (hs : s.size ≤ 281474976710656) (hp : p ≤ 8 * s.size) (hn : n ≤ 16) (hl : least ≤ 100000) :
    Calls Try.prog 55 #[.pointer (some ⟨g, 0, none⟩), .int .i64 (least : Int), .int .i64 (n : Int), .bool ok] w fun e w' => e = .returned (.tuple #[.int .i64 ((byS (bitH s) (8 * s.size) p least n ok).1 : Int), .bool (byS (bitH s) (8 * s.size) p least n ok).2.1]) ∧ UW g s M (byS (bitH s) (8 * s.size) p least n ok).2.2 o v k1 k2 w' ∧ Mv g v w v w' := by
  cases ok with
  | true =>
    have C := dnum_any g s M p o v k1 k2 least n w h hs hp hn hl
    show Calls _ _ _ _ fun e w' => e = .returned (.tuple #[.int .i64 ((numS (bitH s) (8 * s.size) p least n).1 : Int), .bool (numS (bitH s) (8 * s.size) p least n).2.1]) ∧ UW g s M (numS (bitH s) (8 * s.size) p least n).2.2 o v k1 k2 w' ∧ Mv g v w v w'
    generalize numS (bitH s) (8 * s.size) p least n = r at C ⊢
    clear h
    go_enter Try.func55, Try.ntmps55
    go_wp2_with fail
    refine C.mono ?_
    rintro e w1 ⟨rfl, h1, m1⟩
    go_wp2_with fail
    go_ret2
    exact ⟨rfl, h1, m1⟩
  | false =>
    show Calls _ _ _ _ fun e w' => e = .returned (.tuple #[.int .i64 0, .bool false]) ∧ UW g s M p o v k1 k2 w' ∧ Mv g v w v w'
    have H := Lib.hid (⟨h, Mv.refl g v w⟩ : UW g s M p o v k1 k2 w ∧ Mv g v w v w)
    clear h
    go_enter Try.func55, Try.ntmps55
    go_wp2_with fail
    go_ret2
    exact ⟨rfl, H.out⟩
end Go.Proofs.Ytiphnnaanjjaoaa
/- The developers' Length and Distance of chapter 10. -/
namespace Go.Proofs.Ytiphnnaanjjaoaa
open Go.RowKit
/-- How far above the first one, how many bits more. -/
def riseV (n row : Nat) : Nat × Nat := if n < row then (n, 0) else ((row + n % row) * 2 ^ (n / row - 1), n / row - 1)
theorem rise_l : ∀ k, k ≤ 27 → 3 + (riseV k 4).1 = lbase k ∧ (riseV k 4).2 = lbits k := by
  have : ∀ k : Fin 28, 3 + (riseV k.val 4).1 = lbase k.val ∧ (riseV k.val 4).2 = lbits k.val := by decide +kernel
  exact fun k hk => this ⟨k, by omega⟩
theorem rise_d : ∀ k, k ≤ 29 → 1 + (riseV k 2).1 = dbase k ∧ (riseV k 2).2 = dbits k := by
  have : ∀ k : Fin 30, 1 + (riseV k.val 2).1 = dbase k.val ∧ (riseV k.val 2).2 = dbits k.val := by decide +kernel
  exact fun k hk => this ⟨k, by omega⟩
set_option maxRecDepth 100000 in
set_option maxHeartbeats 2000000 in
theorem drise_any (n row : Nat) (h0 : 2 ≤ row) (h4 : row ≤ 4) (hn : n ≤ 29) (w : World) :
    Calls Try.prog 24 #[.int .i64 (n : Int), .int .i64 (row : Int)] w fun e w' => e = .returned (.tuple #[.int .i64 ((riseV n row).1 : Int), .int .i64 ((riseV n row).2 : Int)]) ∧ w' = w := by
  by_cases hlt : n < row
  · have e : riseV n row = (n, 0) := if_pos hlt
    rw [e]
    have hi : (n : Int) < (row : Int) := by omega
    clear e
    go_enter Try.func24, Try.ntmps24
    go_wp2_with fail
    go_ret2
    exact ⟨rfl, rfl⟩
  · have e : riseV n row = ((row + n % row) * 2 ^ (n / row - 1), n / row - 1) := if_neg hlt
    rw [e]
    have hi : ¬ (n : Int) < (row : Int) := by omega
    have h5 : ¬ (row : Int) = 0 := by omega
    have hq : n / row ≤ 29 := Nat.le_trans (Nat.div_le_self _ _) hn
    have hq1 : 1 ≤ n / row := (Nat.le_div_iff_mul_le (by omega)).2 (by omega)
    have hr : n % row < row := Nat.mod_lt _ (by omega)
    have ed : ((n : Int)).tdiv (row : Int) = ((n / row : Nat) : Int) := by rw [Int.tdiv_eq_ediv_of_nonneg (by omega)]; exact (Int.natCast_ediv _ _).symm
    have ed2 : ((n : Int)) / (row : Int) = ((n / row : Nat) : Int) := (Int.natCast_ediv _ _).symm
    have em : ((n : Int)).tmod (row : Int) = ((n % row : Nat) : Int) := by rw [Int.tmod_eq_emod_of_nonneg (by omega)]; exact (Int.natCast_emod _ _).symm
    have em2 : ((n : Int)) % (row : Int) = ((n % row : Nat) : Int) := (Int.natCast_emod _ _).symm
    generalize n / row = q at *
    generalize n % row = r at *
    obtain ⟨d, rfl⟩ : ∃ d, q = d + 1 := ⟨q - 1, by omega⟩
    have hd : d ≤ 28 := by omega
    have e1 : IntKind.i64.wrap ((d + 1 : Nat) : Int) = ((d + 1 : Nat) : Int) := IntWalk.i64_in _ (by omega)
    have e2 : IntKind.i64.wrap (((d + 1 : Nat) : Int) - 1) = (d : Int) := by rw [IntWalk.i64_in _ (by omega)]; omega
    have e3 : IntKind.i64.wrap ((row : Int) + (r : Int)) = ((row + r : Nat) : Int) := by rw [IntWalk.i64_in _ (by omega)]; omega
    have hmin : min d 64 = d := by omega
    have HW : Hid (wrap64 (((row : Int) + (r : Int)) * 2 ^ d) = ((row : Int) + (r : Int)) * 2 ^ d) := Lib.hid (by
      have hp : 2 ^ d ≤ 2 ^ 28 := Nat.pow_le_pow_right (by decide) hd
      have hm : (row + r) * 2 ^ d ≤ 8 * 2 ^ 28 := Nat.mul_le_mul (by omega) hp
      have e : ((row : Int) + (r : Int)) * 2 ^ d = (((row + r) * 2 ^ d : Nat) : Int) := by rw [Int.natCast_mul, Int.natCast_pow, Int.natCast_add]; rfl
      rw [e]
      exact IntWalk.wrap64_in _ (by omega))
    rw [show d + 1 - 1 = d by omega]
    clear e hlt hn hq hq1 hr ed2 em2
    go_enter Try.func24, Try.ntmps24
    go_wp2_with fail
    go_ret2
    rw [HW.out]
    exact ⟨rfl, rfl⟩
set_option maxRecDepth 100000 in
set_option maxHeartbeats 2000000 in
theorem dlength_any (x : Int) (w : World) :
    Calls Try.prog 12 #[.int .i64 x] w fun e w' => e = .returned (.tuple #[.int .i64 ((lengthV x).1 : Int), .int .i64 ((lengthV x).2.1 : Int), .bool (lengthV x).2.2]) ∧ w' = w := by
  by_cases h5 : x = 285
  · have e : lengthV x = (258, 0, true) := if_pos h5
    rw [e]
    subst h5
    go_enter Try.func12, Try.ntmps12
    go_wp2_with fail
    go_ret3
    exact ⟨rfl, rfl⟩
  · by_cases hr : 257 ≤ x ∧ x ≤ 284
    · obtain ⟨n, hn⟩ : ∃ n : Nat, x - 257 = n := ⟨(x - 257).toNat, by omega⟩
      have hn27 : n ≤ 27 := by omega
      have e : lengthV x = (3 + (riseV n 4).1, (riseV n 4).2, true) := by
        unfold lengthV
        rw [if_neg h5, if_pos hr, show (x - 257).toNat = n by omega, (rise_l n hn27).1, (rise_l n hn27).2]
      rw [e]
      have C := drise_any n 4 (by decide) (by decide) (by omega) w
      have hl := lbase_le n (by omega)
      rw [← (rise_l n hn27).1] at hl
      have hlo : ¬ x < 257 := by omega
      have hhi : ¬ x > 285 := by omega
      have hw : IntKind.i64.wrap (x - 257) = (n : Int) := by rw [IntWalk.i64_in _ (by omega)]; exact hn
      have hb : (riseV n 4).2 ≤ 1000 := by rw [(rise_l n hn27).2]; unfold lbits; omega
      generalize riseV n 4 = z at *
      obtain ⟨z1, z2⟩ := z
      replace hl : 3 + z1 ≤ 300 := hl
      replace hb : z2 ≤ 1000 := hb
      have hw2 : IntKind.i64.wrap (3 + (z1 : Int)) = 3 + (z1 : Int) := IntWalk.i64_in _ (by omega)
      clear e hr hn hl hb
      go_enter Try.func12, Try.ntmps12
      go_wp2_with fail
      refine C.mono ?_
      rintro e w1 ⟨rfl, rfl⟩
      go_wp2_with fail
      go_ret3
      exact ⟨rfl, rfl⟩
    · have e : lengthV x = (0, 0, false) := by unfold lengthV; rw [if_neg h5, if_neg hr]
      rw [e]
      have hor : x < 257 ∨ (¬ x < 257 ∧ x > 285) := by omega
      clear e hr
      rcases hor with h1 | ⟨h1, h2⟩
      all_goals
        go_enter Try.func12, Try.ntmps12
        go_wp2_with fail
        go_ret3
        exact ⟨rfl, rfl⟩
set_option maxRecDepth 100000 in
set_option maxHeartbeats 2000000 in
theorem ddist_any (x : Int) (w : World) :
    Calls Try.prog 14 #[.int .i64 x] w fun e w' => e = .returned (.tuple #[.int .i64 ((distV x).1 : Int), .int .i64 ((distV x).2.1 : Int), .bool (distV x).2.2]) ∧ w' = w := by
  by_cases hr : 0 ≤ x ∧ x ≤ 29
  · obtain ⟨n, rfl⟩ : ∃ n : Nat, x = n := ⟨x.toNat, by omega⟩
    have hn29 : n ≤ 29 := by omega
    have e : distV (n : Int) = (1 + (riseV n 2).1, (riseV n 2).2, true) := by
      unfold distV
      rw [if_pos hr, show (n : Int).toNat = n by omega, (rise_d n hn29).1, (rise_d n hn29).2]
    rw [e]
    have C := drise_any n 2 (by decide) (by decide) (by omega) w
    have hl := dbase_le n (by omega)
    rw [← (rise_d n hn29).1] at hl
    have hlo : ¬ (n : Int) < 0 := by omega
    have hhi : ¬ (n : Int) ≥ 30 := by omega
    have hb : (riseV n 2).2 ≤ 1000 := by rw [(rise_d n hn29).2]; unfold dbits; omega
    generalize riseV n 2 = z at *
    obtain ⟨z1, z2⟩ := z
    replace hl : 1 + z1 ≤ 40000 := hl
    replace hb : z2 ≤ 1000 := hb
    have hw2 : IntKind.i64.wrap (1 + (z1 : Int)) = 1 + (z1 : Int) := IntWalk.i64_in _ (by omega)
    clear e hr hl hb
    go_enter Try.func14, Try.ntmps14
    go_wp2_with fail
    refine C.mono ?_
    rintro e w1 ⟨rfl, rfl⟩
    go_wp2_with fail
    go_ret3
    exact ⟨rfl, rfl⟩
  · have e : distV x = (0, 0, false) := by unfold distV; rw [if_neg hr]
    rw [e]
    have hor : x < 0 ∨ (¬ x < 0 ∧ x ≥ 30) := by omega
    clear e hr
    rcases hor with h1 | ⟨h1, h2⟩
    all_goals
      go_enter Try.func14, Try.ntmps14
      go_wp2_with fail
      go_ret3
      exact ⟨rfl, rfl⟩
end Go.Proofs.Ytiphnnaanjjaoaa
/- The developers' sayStored of chapter 10. -/
namespace Go.Proofs.Ytiphnnaanjjaoaa
open Go.RowKit
theorem numS_le {B : Nat → Nat} {T p least n : Nat} (h : p ≤ T) : (numS B T p least n).2.2 ≤ T := by unfold numS; split <;> assumption
theorem numS_lt (s : ByteArray) (T p least n : Nat) : (numS (bitH s) T p least n).1 < least + 2 ^ n := by
  unfold numS
  have := Nat.two_pow_pos n
  split
  · have := vb_lt (bitH_lt s) p n; show least + vb (bitH s) p n < _; omega
  · show 0 < _; omega
/-- The bits of a state by what number answers. -/
theorem bitsS_num (B : Nat → Nat) (T p n : Nat) (o : List Nat) : ((numS B T p 0 n).2.1 = true ∧ bitsS B T n ⟨p, 0, o⟩ = ((numS B T p 0 n).1, ⟨(numS B T p 0 n).2.2, 0, o⟩)) ∨ ((numS B T p 0 n).2.1 = false ∧ (numS B T p 0 n).1 = 0 ∧ bitsS B T n ⟨p, 0, o⟩ = (0, ⟨T, 2, o⟩)) := by
  by_cases h : p + n ≤ T
  · exact .inl ⟨by rw [numS_in h], by rw [numS_in h, bitsS_in rfl h]; simp⟩
  · exact .inr ⟨by rw [numS_out h], by rw [numS_out h], bitsS_out rfl h⟩
theorem storedS_dev (B : Nat → Nat) (T M p : Nat) (o : List Nat) (r1 r2 : Nat × Bool × Nat) (h1 : r1 = numS B T ((p + 7) / 8 * 8) 0 16) (h2 : r2 = numS B T r1.2.2 0 16) :
    ((r1.2.1 = false ∨ r2.2.1 = false ∨ r1.1 + r2.1 ≠ 65535) → (storedS B T M ⟨p, 0, o⟩).e = 2) ∧
    (r1.2.1 = true → r2.2.1 = true → r1.1 + r2.1 = 65535 → storedS B T M ⟨p, 0, o⟩ = copyS B T M r1.1 ⟨r2.2.2, 0, o⟩) := by
  have k1 := bitsS_num B T ((p + 7) / 8 * 8) 16 o
  rw [← h1] at k1
  have k2 := bitsS_num B T r1.2.2 16 o
  rw [← h2] at k2
  clear h1 h2
  obtain ⟨a, b1, p1⟩ := r1
  obtain ⟨d, b2, p2⟩ := r2
  have hE : ∀ n (x : Fl), x.e ≠ 0 → (copyS B T M n x).e = x.e := fun n x hx => by rw [copyS_err hx]
  rcases k1 with ⟨e1, k1⟩ | ⟨e1, e1', k1⟩
  · dsimp only at e1 k1 k2
    subst e1
    rcases k2 with ⟨e2, k2⟩ | ⟨e2, e2', k2⟩
    · try dsimp only at e2 k2
      subst e2
      unfold storedS
      simp only [k1, k2]
      refine ⟨fun h => ?_, fun _ _ h => ?_⟩
      · rcases h with h | h | h
        · cases h
        · cases h
        · rw [if_pos ⟨trivial, by show d + a ≠ 65535; omega⟩, hE _ _ (show (2 : Nat) ≠ 0 by decide)]
      · rw [if_neg (by rintro ⟨_, h2⟩; have : d + a ≠ 65535 := h2; have : a + d = 65535 := h; omega)]
    · try dsimp only at e2 k2
      subst e2
      unfold storedS
      simp only [k1, k2]
      refine ⟨fun _ => ?_, fun _ h => by cases h⟩
      rw [if_neg (by rintro ⟨h, _⟩; exact absurd (show 2 = 0 from h) (by decide)), hE _ _ (show (2 : Nat) ≠ 0 by decide)]
  · dsimp only at e1 k1
    subst e1
    refine ⟨fun _ => ?_, fun h => by cases h⟩
    unfold storedS
    simp only [k1]
    rw [bitsS_err (show (2 : Nat) ≠ 0 by decide)]
    rw [if_neg (by rintro ⟨h, _⟩; exact absurd (show 2 = 0 from h) (by decide)), hE _ _ (show (2 : Nat) ≠ 0 by decide)]
/-- One byte of a stored block. -/
theorem copyS_dev (B : Nat → Nat) (T M n p : Nat) (o : List Nat) (r : Nat × Bool × Nat) (h : r = numS B T p 0 8) :
    (r.2.1 = false → (copyS B T M (n + 1) ⟨p, 0, o⟩).e = 2) ∧ (r.2.1 = true → ¬ o.length < M → (copyS B T M (n + 1) ⟨p, 0, o⟩).e = 9) ∧
    (r.2.1 = true → o.length < M → copyS B T M (n + 1) ⟨p, 0, o⟩ = copyS B T M n ⟨r.2.2, 0, o ++ [r.1]⟩) := by
  have k := bitsS_num B T p 8 o
  rw [← h] at k
  clear h
  obtain ⟨a, b, q⟩ := r
  rw [copyS_one rfl]
  rcases k with ⟨e, k⟩ | ⟨e, e', k⟩
  · dsimp only at e k
    subst e
    rw [k]
    refine ⟨fun h => (by cases h), fun _ hl => ?_, fun _ hl => ?_⟩
    · have hs : sayS M a ⟨q, 0, o⟩ = ⟨q, 9, o⟩ := by unfold sayS; rw [if_neg (fun h => h rfl), if_pos (show o.length ≥ M by omega)]
      show (copyS B T M n (sayS M a ⟨q, 0, o⟩)).e = 9
      rw [hs, copyS_err (show (9 : Nat) ≠ 0 by decide)]
    · have hs : sayS M a ⟨q, 0, o⟩ = ⟨q, 0, o ++ [a]⟩ := by unfold sayS; rw [if_neg (fun h => h rfl), if_neg (show ¬ o.length ≥ M by omega)]
      show copyS B T M n (sayS M a ⟨q, 0, o⟩) = _
      rw [hs]
  · dsimp only at e k
    subst e
    rw [k]
    refine ⟨fun _ => ?_, fun h => (by cases h), fun h => (by cases h)⟩
    have hs : sayS M 0 ⟨T, 2, o⟩ = ⟨T, 2, o⟩ := if_pos (show (2 : Nat) ≠ 0 by decide)
    show (copyS B T M n (sayS M 0 ⟨T, 2, o⟩)).e = 2
    rw [hs, copyS_err (show (2 : Nat) ≠ 0 by decide)]
/-- What a block's method leaves: the state, if all went well. -/
def Dn (g : Nat) (s : ByteArray) (M : Nat) (x : Fl) (v k1 k2 : Value) (w w' : World) : Prop := ∃ v', Mv g v w v' w' ∧ (x.e = 0 → UW g s M x.p x.o v' k1 k2 w')
theorem Dn.bad {g : Nat} {s : ByteArray} {M : Nat} {x : Fl} {v k1 k2 v' : Value} {w w' : World} (m : Mv g v w v' w') (h : x.e ≠ 0) : Dn g s M x v k1 k2 w w' := ⟨v', m, fun e => absurd e h⟩
set_option maxRecDepth 100000 in
set_option maxHeartbeats 8000000 in
theorem dstored_any (g : Nat) (s : ByteArray) (M p : Nat) (o : List Nat) (v k1 k2 : Value) (w : World) (h : UW g s M p o v k1 k2 w) (hs : s.size ≤ 281474976710656) (hp : p ≤ 8 * s.size) (hM : M ≤ 1048576) (ho : o.length ≤ M) :
    Calls Try.prog 26 #[.pointer (some ⟨g, 0, none⟩)] w fun e w' => e = .returned (.int .i64 ((storedS (bitH s) (8 * s.size) M ⟨p, 0, o⟩).e : Int)) ∧ Dn g s M (storedS (bitH s) (8 * s.size) M ⟨p, 0, o⟩) v k1 k2 w w' := by
  obtain ⟨S, hS⟩ : ∃ S, S = storedS (bitH s) (8 * s.size) M ⟨p, 0, o⟩ := ⟨_, rfl⟩
  rw [← hS]
  have C0 := dwhole_any g s M p o v k1 k2 w h (by omega)
  clear h
  go_enter Try.func26, Try.ntmps26
  go_wp2_with fail
  refine C0.mono ?_
  rintro e w1 ⟨rfl, h1, m1⟩
  have C1 := dnum_any g s M _ o v k1 k2 0 16 w1 h1 hs (by omega) (by omega) (by omega)
  obtain ⟨r1, hr1⟩ : ∃ r, r = numS (bitH s) (8 * s.size) ((p + 7) / 8 * 8) 0 16 := ⟨_, rfl⟩
  have hp1 : r1.2.2 ≤ 8 * s.size := by rw [hr1]; exact numS_le (by omega)
  have ha : r1.1 < 65536 := by rw [hr1]; exact numS_lt s _ _ _ _
  rw [← hr1] at C1
  clear h1
  go_wp2_with fail
  refine C1.mono ?_
  rintro e w2 ⟨rfl, h2, m2⟩
  replace m2 := m1.trans m2
  clear m1 C1
  have C2 := dnum_any g s M _ o v k1 k2 0 16 w2 h2 hs hp1 (by omega) (by omega)
  obtain ⟨r2, hr2⟩ : ∃ r, r = numS (bitH s) (8 * s.size) r1.2.2 0 16 := ⟨_, rfl⟩
  have hp2 : r2.2.2 ≤ 8 * s.size := by rw [hr2]; exact numS_le hp1
  have hd : r2.1 < 65536 := by rw [hr2]; exact numS_lt s _ _ _ _
  have D := storedS_dev (bitH s) (8 * s.size) M p o r1 r2 hr1 hr2
  rw [← hS] at D
  rw [← hr2] at C2
  clear h2 hr1 hr2 hp1 hS
  go_wp2_with fail
  refine C2.mono ?_
  rintro e w3 ⟨rfl, h3, m3⟩
  replace m3 := m2.trans m3
  clear m2 C2
  obtain ⟨a, b1, q1⟩ := r1
  obtain ⟨d, b2, q2⟩ := r2
  dsimp only at h3 hp2 ha hd D ⊢
  have hw : IntKind.i64.wrap ((a : Int) + (d : Int)) = (a : Int) + (d : Int) := IntWalk.i64_in _ (by omega)
  cases b1 with
  | false =>
    have HE := Lib.hid (D.1 (.inl rfl))
    clear D
    go_wp2_with fail
    go_ret
    rw [HE.out]
    exact ⟨rfl, .bad m3 (by rw [HE.out]; decide)⟩
  | true =>
    cases b2 with
    | false =>
      have HE := Lib.hid (D.1 (.inr (.inl rfl)))
      clear D
      go_wp2_with fail
      go_ret
      rw [HE.out]
      exact ⟨rfl, .bad m3 (by rw [HE.out]; decide)⟩
    | true =>
      by_cases hsum : a + d = 65535
      · have hsb : ((a : Int) + (d : Int) != 65535) = false := by simp; omega
        have hsi : (a : Int) + (d : Int) = 65535 := by omega
        have HS := Lib.hid (D.2 rfl rfl hsum)
        have HA : Hid (a < 65536) := Lib.hid ha
        have HM : Hid (M ≤ 1048576) := Lib.hid hM
        clear D hsum ha hd
        go_wp2_with fail
        go_loopw [2, 40] (fun r i wr => ∃ (k q : Nat) (O : List Nat) (u : Value), k ≤ a ∧ r = .int .i64 0 ∧ i = .int .i64 (k : Int) ∧ Hid (S = copyS (bitH s) (8 * s.size) M (a - k) ⟨q, 0, O⟩) ∧ q ≤ 8 * s.size ∧ Hid (O.length ≤ M) ∧ UW g s M q O u k1 k2 wr ∧ Mv g v w u wr) (fun _ i _ => a - (intOf i).toNat)
        case atStart => exact ⟨0, q2, o, v, by omega, rfl, rfl, HS, hp2, Lib.hid ho, h3, m3⟩
        case round =>
          obtain ⟨k, q, O, u, hk, rfl, rfl, HK, hq, HO, hr, hm⟩ := hrel
          clear h3 m3
          by_cases hlt : k < a
          · have hlti : (k : Int) < (a : Int) := by omega
            have HKL := Lib.hid hlt
            obtain ⟨t, ht⟩ : ∃ t, a - k = t + 1 := ⟨a - k - 1, by omega⟩
            have C := dnum_any g s M q O u k1 k2 0 8 wr hr hs hq (by omega) (by omega)
            obtain ⟨z, hz⟩ : ∃ r, r = numS (bitH s) (8 * s.size) q 0 8 := ⟨_, rfl⟩
            have hz2 : z.2.2 ≤ 8 * s.size := by rw [hz]; exact numS_le hq
            have hzl : z.1 < 256 := by rw [hz]; exact numS_lt s _ _ _ _
            have D := copyS_dev (bitH s) (8 * s.size) M t q O z hz
            rw [← ht, ← HK.out] at D
            rw [← hz] at C
            have HTT := Lib.hid ht
            clear hz hr hq HK hlt ht
            go_wp2_with fail
            refine C.mono ?_
            rintro e w4 ⟨rfl, h4, m4⟩
            replace m4 := hm.trans m4
            clear hm C
            obtain ⟨b, ok, z2⟩ := z
            dsimp only at h4 hz2 hzl D ⊢
            cases ok with
            | false =>
              have HE := Lib.hid (D.1 rfl)
              clear D
              go_wp2_with fail
              go_ret
              rw [HE.out]
              exact ⟨rfl, .bad m4 (by rw [HE.out]; decide)⟩
            | true =>
              have hbw : IntKind.u8.wrap (b : Int) = (b : Int) := by rw [IntKind.wrap_u8]; omega
              have hbm : (b : Int) % 256 = (b : Int) := by omega
              have C := dsay_any g s M z2 O u k1 k2 b w4 h4 HM.out HO.out
              by_cases hl : O.length < M
              · have HN := Lib.hid (D.2.2 rfl hl)
                have HL := Lib.hid hl
                rw [decide_eq_true hl, if_pos hl] at C
                clear D h4 hl
                go_wp2_with fail
                refine C.mono ?_
                rintro e w5 ⟨u5, rfl, h5, m5⟩
                replace m5 := m4.trans m5
                clear m4 C
                go_wp2_with fail
                go_roundw
                case rel => exact ⟨k + 1, z2, O ++ [b], u5, by have := HKL.out; omega, rfl, by go_num, Lib.hid (by rw [HN.out, show a - (k + 1) = t by have := HTT.out; omega]), hz2, Lib.hid (by rw [List.length_append]; have := HL.out; simp only [List.length_cons, List.length_nil]; omega), h5, m5⟩
                case measure => simp only [intOf]; omega
              · have HE := Lib.hid (D.2.1 rfl hl)
                rw [decide_eq_false hl, if_neg hl] at C
                clear D h4 hl
                go_wp2_with fail
                refine C.mono ?_
                rintro e w5 ⟨u5, rfl, h5, m5⟩
                replace m5 := m4.trans m5
                clear m4 C
                go_wp2_with fail
                go_ret
                rw [HE.out]
                exact ⟨rfl, .bad m5 (by rw [HE.out]; decide)⟩
          · obtain rfl : k = a := by omega
            have hlti : ¬ (k : Int) < (k : Int) := by omega
            have HE : Hid (S = ⟨q, 0, O⟩) := Lib.hid (by rw [HK.out, Nat.sub_self]; rfl)
            clear HK
            go_wp2_with fail
            go_ret
            rw [HE.out]
            exact ⟨rfl, u, hm, fun _ => hr⟩
      · have hsb : ((a : Int) + (d : Int) != 65535) = true := by simp; omega
        have hsi : ¬ (a : Int) + (d : Int) = 65535 := by omega
        have HE := Lib.hid (D.1 (.inr (.inr hsum)))
        clear D hsum
        go_wp2_with fail
        go_ret
        rw [HE.out]
        exact ⟨rfl, .bad m3 (by rw [HE.out]; decide)⟩
end Go.Proofs.Ytiphnnaanjjaoaa
/- The developers' sayAgain of chapter 10. -/
namespace Go.Proofs.Ytiphnnaanjjaoaa
open Go.RowKit
section
variable {g : Nat} {s : ByteArray} {M p : Nat} {o : List Nat} {v k1 k2 : Value} {w w' : World}
/-- A block of another type stays, whatever becomes of the state. -/
theorem Blk.mv {k : Nat} {t : TypeId} {cs : Array Value} {v' : Value} (h : Blk w k t cs) (h1 : t ≠ 49) (h2 : t ≠ 5) (hu : UW g s M p o v k1 k2 w) (m : Mv g v w v' w') : Blk w' k t cs := by
  have hb := hu.blk
  unfold Blk at hb h
  refine (m.block _ (Blk.lt h) ?_ ?_).trans h
  · rintro rfl
    rw [h] at hb
    injection hb with hb
    injection hb with _ hb
    exact h1 hb
  · intro e
    obtain ⟨c, h7⟩ := hu.own_cells e
    rw [h] at h7
    injection h7 with h7
    injection h7 with _ h7
    exact h2 h7
/-- A byte that was said. -/
theorem UW.at_ (h : UW g s M p o v k1 k2 w) {j : Nat} (hj : j < o.length) : ∃ q cap, v = .slice (some ⟨q, 0, none⟩) o.length cap ∧ ∀ wx, UW g s M p o v k1 k2 wx → wx.cell? ⟨q, j, none⟩ = some (.int .u8 (o.getD j 0 : Int)) := by
  rcases h.own.2 with ⟨_, h2⟩ | ⟨q, cap, cur, h1, _⟩
  · omega
  · refine ⟨q, cap, h1, fun wx hx => ?_⟩
    rcases hx.own.2 with ⟨_, h2⟩ | ⟨q2, cap2, cur2, e1, e2, e3, e4, e5, e6, e7⟩
    · omega
    · rw [h1] at e1
      obtain rfl : q = q2 := by injection e1 with e1; injection e1 with e1; injection e1
      rw [cell_of_row wx q j cur2 5 (0, 0) e3]
      have h8 : (cur2.toList.take (o.length * 1))[j]? = (bys o)[j]? := by rw [e7]
      rw [List.getElem?_take_of_lt (by omega)] at h8
      rw [← Array.getElem?_toList, h8]
      unfold bys
      rw [List.getElem?_map, List.getElem?_eq_getElem hj]
      simp [List.getD, List.getElem?_eq_getElem hj]
end
theorem lengthV_le (x : Int) : (lengthV x).1 ≤ 300 ∧ (lengthV x).2.1 ≤ 6 := by
  unfold lengthV
  split
  · exact ⟨by decide, by decide⟩
  · split
    · exact ⟨lbase_le _ (by omega), lbits_le _ (by omega)⟩
    · exact ⟨by decide, by decide⟩
theorem distV_le (x : Int) : (distV x).1 ≤ 40000 ∧ (distV x).2.1 ≤ 14 := by
  unfold distV
  split
  · exact ⟨dbase_le _ (by omega), dbits_le _ (by omega)⟩
  · exact ⟨by decide, by decide⟩
theorem byS_le {B : Nat → Nat} {T p least n : Nat} {ok : Bool} (h : p ≤ T) : (byS B T p least n ok).2.2 ≤ T := by
  unfold byS
  split
  · exact numS_le h
  · exact h
theorem byS_lt (s : ByteArray) (T p least n : Nat) (ok : Bool) : (byS (bitH s) T p least n ok).1 < least + 2 ^ n := by
  unfold byS
  have := Nat.two_pow_pos n
  split
  · exact numS_lt s _ _ _ _
  · show 0 < _; omega
/-- The bits of a state by what toldBy answers. -/
theorem bitsS_by (B : Nat → Nat) (T p least n : Nat) (o : List Nat) (ok : Bool) : ((byS B T p least n ok).2.1 = true ∧ ok = true ∧ ∃ b, bitsS B T n ⟨p, 0, o⟩ = (b, ⟨(byS B T p least n ok).2.2, 0, o⟩) ∧ (byS B T p least n ok).1 = least + b) ∨
    ((byS B T p least n ok).2.1 = false ∧ (ok = false ∨ (bitsS B T n ⟨p, 0, o⟩).2.e = 2)) := by
  cases ok with
  | false => exact .inr ⟨rfl, .inl rfl⟩
  | true =>
    show ((numS B T p least n).2.1 = true ∧ true = true ∧ ∃ b, bitsS B T n ⟨p, 0, o⟩ = (b, ⟨(numS B T p least n).2.2, 0, o⟩) ∧ (numS B T p least n).1 = least + b) ∨ ((numS B T p least n).2.1 = false ∧ (true = false ∨ (bitsS B T n ⟨p, 0, o⟩).2.e = 2))
    by_cases h : p + n ≤ T
    · exact .inl ⟨by rw [numS_in h], rfl, vb B p n, by rw [numS_in h, bitsS_in rfl h], by rw [numS_in h]⟩
    · exact .inr ⟨by rw [numS_out h], .inr (by rw [bitsS_out rfl h])⟩
theorem symS_R (B : Nat → Nat) (T : Nat) (l : Nat → Nat) (n p : Nat) (o : List Nat) : ((symR B T l n p).2.1 = true ∧ symS B T l n ⟨p, 0, o⟩ = ((symR B T l n p).1, ⟨(symR B T l n p).2.2, 0, o⟩)) ∨ ((symR B T l n p).2.1 = false ∧ symS B T l n ⟨p, 0, o⟩ = (0, ⟨p, 2, o⟩)) := by
  obtain ⟨k, q, e0, e⟩ : ∃ k q e, nextV l n B T p 0 15 = (k, q, e) := ⟨_, _, _, rfl⟩
  cases e0 with
  | zero => exact .inl ⟨by rw [symR_in e], by rw [symR_in e, symS_in rfl e]⟩
  | succ z => exact .inr ⟨by rw [symR_out e], by rw [symS_out rfl e]⟩
theorem nextV_in {l : Nat → Nat} {n : Nat} {B : Nat → Nat} {T at_ : Nat} : ∀ (f d : Nat) {k q : Nat}, nextV l n B T at_ d f = (k, q, 0) → at_ + d < q ∧ q ≤ T
  | 0, _, _, _, h => by cases h
  | f + 1, d, k, q, h => by
    by_cases hT : T ≤ at_ + d
    · rw [nextV_end _ _ _ _ _ _ _ hT] at h; cases h
    · cases hf : fnd l n (d + 1) (rv B at_ (d + 1)) n with
      | some j => rw [nextV_found hT hf] at h; cases h; omega
      | none => rw [nextV_not hT hf] at h; have := nextV_in f (d + 1) h; omega
theorem symR_pos {B : Nat → Nat} {T : Nat} {l : Nat → Nat} {n p : Nat} (h : (symR B T l n p).2.1 = true) : p < (symR B T l n p).2.2 ∧ (symR B T l n p).2.2 ≤ T := by
  obtain ⟨k, q, e0, e⟩ : ∃ k q e, nextV l n B T p 0 15 = (k, q, e) := ⟨_, _, _, rfl⟩
  cases e0 with
  | zero => rw [symR_in e]; exact nextV_in 15 0 e
  | succ z => rw [symR_out e] at h; cases h
theorem symR_le {B : Nat → Nat} {T : Nat} (l : Nat → Nat) (n p : Nat) (hp : p ≤ T) : (symR B T l n p).2.2 ≤ T := by
  obtain ⟨k, q, e0, e⟩ : ∃ k q e, nextV l n B T p 0 15 = (k, q, e) := ⟨_, _, _, rfl⟩
  cases e0 with
  | zero => rw [symR_in e]; exact (nextV_in 15 0 e).2
  | succ z => rw [symR_out e]; exact hp
theorem dbase_pos (k : Nat) : 1 ≤ dbase k := by
  induction k with
  | zero => exact Nat.le_refl 1
  | succ k ih => exact Nat.le_trans ih (Nat.le_add_right _ _)
theorem dist_pos {B : Nat → Nat} {T p : Nat} {x : Int} {z : Nat × Bool × Nat} (hz : z = byS B T p (distV x).1 (distV x).2.1 (distV x).2.2) (h : z.2.1 = true) : 1 ≤ z.1 := by
  have hd : (distV x).2.2 = true ∧ p + (distV x).2.1 ≤ T := by
    rw [hz] at h
    unfold byS at h
    split at h
    · next ho =>
      refine ⟨ho, ?_⟩
      unfold numS at h
      split at h
      · assumption
      · cases h
    · cases h
  rw [hz, hd.1]
  show 1 ≤ (numS B T p (distV x).1 (distV x).2.1).1
  rw [numS_in hd.2]
  show 1 ≤ (distV x).1 + _
  have h1 : 1 ≤ (distV x).1 := by
    have h2 := hd.1
    unfold distV at h2 ⊢
    split
    · exact dbase_pos _
    · next hn => rw [if_neg hn] at h2; cases h2
  omega
theorem backS_err {M d n : Nat} {x : Fl} (h : x.e ≠ 0) : backS M d n x = x := by
  cases n with
  | zero => rfl
  | succ n => exact if_pos h
theorem backS_dev (M d n p : Nat) (o : List Nat) : (¬ o.length < M → (backS M d (n + 1) ⟨p, 0, o⟩).e = 9) ∧ (o.length < M → backS M d (n + 1) ⟨p, 0, o⟩ = backS M d n ⟨p, 0, o ++ [o.getD (o.length - d) 0]⟩) := by
  have h0 : backS M d (n + 1) ⟨p, 0, o⟩ = backS M d n (sayS M (o.getD (o.length - d) 0) ⟨p, 0, o⟩) := if_neg (fun h => h rfl)
  rw [h0]
  refine ⟨fun hl => ?_, fun hl => ?_⟩
  · have hs : sayS M (o.getD (o.length - d) 0) ⟨p, 0, o⟩ = ⟨p, 9, o⟩ := by unfold sayS; rw [if_neg (fun h => h rfl), if_pos (show o.length ≥ M by omega)]
    rw [hs, backS_err (show (9 : Nat) ≠ 0 by decide)]
  · have hs : sayS M (o.getD (o.length - d) 0) ⟨p, 0, o⟩ = ⟨p, 0, o ++ [o.getD (o.length - d) 0]⟩ := by unfold sayS; rw [if_neg (fun h => h rfl), if_neg (show ¬ o.length ≥ M by omega)]
    rw [hs]
/-- What copiedS comes to, in the developers' steps. -/
theorem copiedS_dev (B : Nat → Nat) (T M k p : Nat) (l : Nat → Nat) (n : Nat) (o : List Nat) (x y z : Nat × Bool × Nat) (hx : x = byS B T p (lengthV (k : Int)).1 (lengthV (k : Int)).2.1 (lengthV (k : Int)).2.2)
    (hy : y = symR B T l n x.2.2) (hz : z = byS B T y.2.2 (distV (y.1 : Int)).1 (distV (y.1 : Int)).2.1 (distV (y.1 : Int)).2.2) :
    ((x.2.1 = false ∨ y.2.1 = false ∨ z.2.1 = false ∨ z.1 > o.length) → (copiedS B T M k l n ⟨p, 0, o⟩).e = 2) ∧
    (x.2.1 = true → y.2.1 = true → z.2.1 = true → ¬ z.1 > o.length → copiedS B T M k l n ⟨p, 0, o⟩ = backS M z.1 x.1 ⟨z.2.2, 0, o⟩) := by
  have X := bitsS_by B T p (lengthV (k : Int)).1 (lengthV (k : Int)).2.1 o (lengthV (k : Int)).2.2
  rw [← hx] at X
  have Y := symS_R B T l n x.2.2 o
  rw [← hy] at Y
  have Z := bitsS_by B T y.2.2 (distV (y.1 : Int)).1 (distV (y.1 : Int)).2.1 o (distV (y.1 : Int)).2.2
  rw [← hz] at Z
  clear hx hy hz
  have hE : ∀ n d (x : Fl), x.e ≠ 0 → (backS M d n x).e = x.e := fun n d x hx => by rw [backS_err hx]
  have s2 : ∀ x : Fl, x.e = 2 → symS B T l n x = (0, x) := fun x hx => symS_err (by rw [hx]; decide)
  rcases X with ⟨x1, xok, b, xb, xv⟩ | ⟨x1, x2⟩
  · rcases Y with ⟨y1, ys⟩ | ⟨y1, ys⟩
    · rcases Z with ⟨z1, zok, d, zb, zv⟩ | ⟨z1, z2⟩
      · unfold copiedS
        simp only [xok, xb, ys, zok, zb]
        rw [← zv, ← xv]
        refine ⟨fun h => ?_, fun _ _ _ h => ?_⟩
        · have h4 : z.1 > o.length := by
            rcases h with h | h | h | h
            · rw [x1] at h; cases h
            · rw [y1] at h; cases h
            · rw [z1] at h; cases h
            · exact h
          rw [if_neg (by decide), if_neg (by decide), if_pos ⟨trivial, h4⟩, hE _ _ _ (show (2 : Nat) ≠ 0 by decide)]
        · rw [if_neg (by decide), if_neg (by decide), if_neg (fun h2 => h h2.2)]
      · refine ⟨fun _ => ?_, fun _ _ h => by rw [z1] at h; cases h⟩
        unfold copiedS
        simp only [xok, xb, ys]
        rw [if_neg (by decide)]
        rcases z2 with z2 | z2
        · rw [if_pos (.inr z2)]
        · by_cases hd : (distV (y.1 : Int)).2.2 = false
          · rw [if_pos (.inr hd)]
          · rw [if_neg (by rintro (h | h); exact h rfl; exact hd h)]
            have h0 : ¬ ((bitsS B T (distV (y.1 : Int)).2.1 ⟨y.2.2, 0, o⟩).2.e = 0 ∧ (distV (y.1 : Int)).1 + (bitsS B T (distV (y.1 : Int)).2.1 ⟨y.2.2, 0, o⟩).1 > (bitsS B T (distV (y.1 : Int)).2.1 ⟨y.2.2, 0, o⟩).2.o.length) := by rw [z2]; rintro ⟨h, _⟩; exact absurd h (by decide)
            rw [if_neg h0, hE _ _ _ (by rw [z2]; decide), z2]
    · refine ⟨fun _ => ?_, fun _ h => by rw [y1] at h; cases h⟩
      unfold copiedS
      simp only [xok, xb, ys]
      rw [if_neg (by decide), if_pos (.inl (by decide))]
  · refine ⟨fun _ => ?_, fun h => by rw [x1] at h; cases h⟩
    unfold copiedS
    rcases x2 with x2 | x2
    · rw [if_pos x2]
    · by_cases hd : (lengthV (k : Int)).2.2 = false
      · rw [if_pos hd]
      · rw [if_neg hd]
        simp only [s2 _ x2]
        rw [if_pos (.inl (by rw [x2]; decide))]
set_option maxRecDepth 100000 in
set_option maxHeartbeats 8000000 in
theorem dagain_any (g : Nat) (s : ByteArray) (M p : Nat) (o : List Nat) (v k1 k2 c1 c2 : Value) (f : Nat → Int) (n k : Nat) (w : World) (h : UW g s M p o v k1 k2 w) (hc : CodeV c2 f n w) (hs : s.size ≤ 281474976710656) (hp : p ≤ 8 * s.size) (hM : M ≤ 1048576) (ho : o.length ≤ M) :
    Calls Try.prog 45 #[.pointer (some ⟨g, 0, none⟩), .int .i64 (k : Int), .agg #[c1, c2]] w fun e w' => e = .returned (.int .i64 ((copiedS (bitH s) (8 * s.size) M k (toL f) n ⟨p, 0, o⟩).e : Int)) ∧ Dn g s M (copiedS (bitH s) (8 * s.size) M k (toL f) n ⟨p, 0, o⟩) v k1 k2 w w' := by
  obtain ⟨S, hS⟩ : ∃ S, S = copiedS (bitH s) (8 * s.size) M k (toL f) n ⟨p, 0, o⟩ := ⟨_, rfl⟩
  rw [← hS]
  have hb0 := (Below.refl _ w).alloc (Nat.le_refl _) (.cells #[c1, c2] 47)
  have H0 := Lib.hid (⟨h.below hb0, (Mv.refl g v w).below hb0, hc.below hb0, Blk.new w _ _⟩ : UW g s M p o v k1 k2 (w.alloc (.cells #[c1, c2] 47)) ∧ Mv g v w v (w.alloc (.cells #[c1, c2] 47)) ∧ CodeV c2 f n (w.alloc (.cells #[c1, c2] 47)) ∧ Blk (w.alloc (.cells #[c1, c2] 47)) w.heap.size 47 #[c1, c2])
  obtain ⟨q0, hq0⟩ : ∃ q0, q0 = w.heap.size := ⟨_, rfl⟩
  obtain ⟨x, hx⟩ : ∃ x, x = byS (bitH s) (8 * s.size) p (lengthV (k : Int)).1 (lengthV (k : Int)).2.1 (lengthV (k : Int)).2.2 := ⟨_, rfl⟩
  obtain ⟨y, hy⟩ : ∃ y, y = symR (bitH s) (8 * s.size) (toL f) n x.2.2 := ⟨_, rfl⟩
  obtain ⟨z, hz⟩ : ∃ z, z = byS (bitH s) (8 * s.size) y.2.2 (distV (y.1 : Int)).1 (distV (y.1 : Int)).2.1 (distV (y.1 : Int)).2.2 := ⟨_, rfl⟩
  have HD := Lib.hid (copiedS_dev (bitH s) (8 * s.size) M k p (toL f) n o x y z hx hy hz)
  rw [← hS] at HD
  clear h hc hb0 hS
  go_enter Try.func45, Try.ntmps45
  go_wp2_with fail
  refine (dlength_any (k : Int) _).mono ?_
  rintro e w0 ⟨rfl, rfl⟩
  rw [← hq0] at H0 ⊢
  clear hq0
  generalize w.alloc (.cells #[c1, c2] 47) = wa at H0 ⊢
  have hL := lengthV_le (k : Int)
  have C1 := dby_any g s M p o v k1 k2 (lengthV (k : Int)).1 (lengthV (k : Int)).2.1 (lengthV (k : Int)).2.2 wa H0.out.1 hs hp (by omega) (by omega)
  have hxl := byS_lt s (8 * s.size) p (lengthV (k : Int)).1 (lengthV (k : Int)).2.1 (lengthV (k : Int)).2.2
  have hxp : x.2.2 ≤ 8 * s.size := by rw [hx]; exact byS_le hp
  rw [← hx] at C1 hxl
  have hpw : 2 ^ (lengthV (k : Int)).2.1 ≤ 2 ^ 6 := Nat.pow_le_pow_right (by decide) hL.2
  have hx9 : x.1 ≤ 400 := by omega
  clear hx hxl hpw
  generalize lengthV (k : Int) = L at *
  obtain ⟨L1, L2, L3⟩ := L
  clear hL
  go_wp2_with fail
  refine C1.mono ?_
  rintro e w1 ⟨rfl, h1, m1⟩
  have H1 := Lib.hid (⟨h1, H0.out.2.1.trans m1, H0.out.2.2.1.mv H0.out.1 m1, Blk.mv H0.out.2.2.2 (by decide) (by decide) H0.out.1 m1⟩ : UW g s M x.2.2 o v k1 k2 w1 ∧ Mv g v w v w1 ∧ CodeV c2 f n w1 ∧ Blk w1 q0 47 #[c1, c2])
  clear h1 m1 H0 C1
  have hyp : y.2.2 ≤ 8 * s.size ∧ y.2.2 ≤ 2251799813685248 := by
    have : y.2.2 ≤ 8 * s.size := by rw [hy]; exact symR_le _ _ _ hxp
    omega
  have HC5 : Hid (∀ wx, UW g s M x.2.2 o v k1 k2 wx → CodeV c2 f n wx → Calls Try.prog 44 #[.pointer (some ⟨g, 0, none⟩), c2] wx fun e w' => e = .returned (.tuple #[.int .i64 (y.1 : Int), .bool y.2.1]) ∧ UW g s M y.2.2 o v k1 k2 w' ∧ Mv g v wx v w') := Lib.hid fun wx h2 h3 => by
    rw [hy]; exact dsym_any g s M x.2.2 o v k1 k2 c2 f n wx h2 h3 hs (by omega)
  clear hy
  obtain ⟨x1, x2, x3⟩ := x
  cases x2 with
  | false =>
    have HE := Lib.hid (HD.out.1 (.inl rfl))
    clear HD HC5 hz
    go_wp2_with fail
    go_ret
    rw [HE.out]
    exact ⟨rfl, .bad H1.out.2.1 (by rw [HE.out]; decide)⟩
  | true =>
  go_wp2_with fail
  refine wp_region_anyL (Two 5 1001 fun b _ wx => (b = false → UW g s M x3 o v k1 k2 wx ∧ Mv g v w v wx ∧ CodeV c2 f n wx ∧ Blk wx q0 47 #[c1, c2]) ∧ (b = true → UW g s M y.2.2 o v k1 k2 wx ∧ Mv g v w v wx)) (by kernel_rfl) ⟨fun _ => ⟨H1.out.1.drew, H1.out.2.1.drew, H1.out.2.2.1, H1.out.2.2.2.drew⟩, fun h => by (cases h)⟩ ?_
  refine anyL_take (i := 0) (v := ?_) rfl (by kernel_rfl) (by kernel_rfl) (by kernel_rfl) (yl_other (by decide) (by decide) rfl (fun f1 f2 wx hT => ?_)) ?_; rotate_left
  · refine lands_value (w := wx) ?_ hT; go_simp <;> rfl
  simp only [pu]
  refine anyL_take (i := 1) (v := ?_) rfl (by kernel_rfl) (by kernel_rfl) (by kernel_rfl) (yl_other (by decide) (by decide) rfl (fun f1 f2 wx hT => ?_)) ?_; rotate_left
  · refine lands_value (w := wx) ?_ hT; go_simp <;> rfl
  simp only [pu]
  refine anyL_take (i := 2) (v := ?_) rfl (by kernel_rfl) (by kernel_rfl) (by kernel_rfl) (yl_other (by decide) (by decide) rfl (fun f1 f2 wx hT => ?_)) ?_; rotate_left
  · refine lands_value (w := wx) ?_ hT; go_simp <;> rfl
  simp only [pu]
  refine anyL_take (i := 3) (v := ?_) rfl (by kernel_rfl) (by kernel_rfl) (by kernel_rfl) (yl_other (by decide) (by decide) rfl (fun f1 f2 wx hT => ?_)) ?_; rotate_left
  · refine lands_value (w := wx) ?_ hT; go_simp <;> rfl
  simp only [pu]
  refine anyL_take (i := 4) (v := c2) rfl (by kernel_rfl) (by kernel_rfl) (by kernel_rfl) (yl_ahead (n := 9) (by decide) (by decide) (by kernel_rfl) rfl (fun f2 wx hT => ?_)) ?_
  · have cc := (hT.1 rfl).2.2.2.cell 1; refine lands_value (w := wx) ?_ hT; go_simp; skip
  simp only [pu]
  refine anyL_take (i := 5) (v := .tuple #[.int .i64 (y.1 : Int), .bool y.2.1]) rfl (by kernel_rfl) (by kernel_rfl) (by kernel_rfl) (yl_first (by decide) rfl (fun f2 wx hT => ?_)) ?_
  · have h5 := hT.1 rfl; refine lands_calls (f := 44) ((HC5.out wx h5.1 h5.2.2.1).mono fun e w' ⟨he, hq, hm⟩ => ⟨he, ⟨fun h => by (cases h), fun _ => ⟨hq, h5.2.1.trans hm⟩⟩⟩) ?_; go_simp; skip
  simp only [pu]
  refine anyL_take (i := 6) (v := ?_) rfl (by kernel_rfl) (by kernel_rfl) (by kernel_rfl) (yl_other (by decide) (by decide) rfl (fun f1 f2 wx hT => ?_)) ?_; rotate_left
  · refine lands_value (w := wx) ?_ hT; go_simp <;> rfl
  simp only [pu]
  refine anyL_take (i := 7) (v := ?_) rfl (by kernel_rfl) (by kernel_rfl) (by kernel_rfl) (yl_other (by decide) (by decide) rfl (fun f1 f2 wx hT => ?_)) ?_; rotate_left
  · refine lands_value (w := wx) ?_ hT; go_simp <;> rfl
  simp only [pu]
  refine anyL_take (i := 8) (v := ?_) rfl (by kernel_rfl) (by kernel_rfl) (by kernel_rfl) (yl_other (by decide) (by decide) rfl (fun f1 f2 wx hT => ?_)) ?_; rotate_left
  · refine lands_value (w := wx) ?_ hT; go_simp <;> rfl
  simp only [pu]
  refine anyL_take (i := 9) (v := ?_) rfl (by kernel_rfl) (by kernel_rfl) (by kernel_rfl) (yl_other (by decide) (by decide) rfl (fun f1 f2 wx hT => ?_)) ?_; rotate_left
  · refine lands_value (w := wx) ?_ hT; go_simp <;> rfl
  simp only [pu]
  refine anyL_take (i := 10) (v := ?_) rfl (by kernel_rfl) (by kernel_rfl) (by kernel_rfl) (yl_other (by decide) (by decide) rfl (fun f1 f2 wx hT => ?_)) ?_; rotate_left
  · refine lands_value (w := wx) ?_ hT; go_simp <;> rfl
  simp only [pu]
  refine anyL_done rfl ?_ _
  intro w2 hT
  have H2 := Lib.hid (hT.2 rfl : UW g s M y.2.2 o v k1 k2 w2 ∧ Mv g v w v w2)
  clear hT H1 HC5
  obtain ⟨y1, y2, y3⟩ := y
  cases y2 with
  | false =>
    have HE := Lib.hid (HD.out.1 (.inr (.inl rfl)))
    clear HD hz
    go_wp2_with fail
    go_ret
    rw [HE.out]
    exact ⟨rfl, .bad H2.out.2 (by rw [HE.out]; decide)⟩
  | true =>
  go_wp2_with fail
  refine (ddist_any (y1 : Int) _).mono ?_
  rintro e w0 ⟨rfl, rfl⟩
  have hL := distV_le (y1 : Int)
  try dsimp only at hz hyp
  have C1 := dby_any g s M y3 o v k1 k2 (distV (y1 : Int)).1 (distV (y1 : Int)).2.1 (distV (y1 : Int)).2.2 w0 H2.out.1 hs hyp.1 (by omega) (by omega)
  have hxl := byS_lt s (8 * s.size) y3 (distV (y1 : Int)).1 (distV (y1 : Int)).2.1 (distV (y1 : Int)).2.2
  have hzp : z.2.2 ≤ 8 * s.size := by rw [hz]; exact byS_le hyp.1
  rw [← hz] at C1 hxl
  have hpw : 2 ^ (distV (y1 : Int)).2.1 ≤ 2 ^ 14 := Nat.pow_le_pow_right (by decide) hL.2
  have hz9 : z.1 ≤ 60000 := by omega
  have HZP := Lib.hid (dist_pos hz)
  clear hz hxl hpw
  generalize distV (y1 : Int) = L at *
  obtain ⟨L1, L2, L3⟩ := L
  clear hL
  go_wp2_with fail
  refine C1.mono ?_
  rintro e w1 ⟨rfl, h1, m1⟩
  replace m1 := H2.out.2.trans m1
  clear H2 C1
  obtain ⟨z1, z2, z3⟩ := z
  cases z2 with
  | false =>
    have HE := Lib.hid (HD.out.1 (.inr (.inr (.inl rfl))))
    clear HD
    go_wp2_with fail
    go_ret
    rw [HE.out]
    exact ⟨rfl, .bad m1 (by rw [HE.out]; decide)⟩
  | true =>
  have c3 := h1.c3
  obtain ⟨qv, cap, hv⟩ := h1.shape
  rw [hv] at c3
  by_cases hfar : z1 > o.length
  · have HE := Lib.hid (HD.out.1 (.inr (.inr (.inr hfar))))
    have hfi : (z1 : Int) > (o.length : Int) := by omega
    clear HD hfar hv
    go_wp2_with fail
    go_ret
    rw [HE.out]
    exact ⟨rfl, .bad m1 (by rw [HE.out]; decide)⟩
  · have hfi : ¬ (z1 : Int) > (o.length : Int) := by omega
    have HK := Lib.hid (HD.out.2 (by trivial) (by trivial) (by trivial) hfar)
    have HF := Lib.hid hfar
    have HM := Lib.hid hM
    have HO := Lib.hid ho
    clear HD hfar hv
    go_wp2_with fail
    go_loopw [6, 55] (fun r i wr => ∃ (j q : Nat) (O : List Nat) (u : Value), j ≤ x1 ∧ r = .int .i64 0 ∧ i = .int .i64 (j : Int) ∧ Hid (S = backS M z1 (x1 - j) ⟨q, 0, O⟩) ∧ Hid (z1 ≤ O.length) ∧ Hid (O.length ≤ M) ∧ UW g s M q O u k1 k2 wr ∧ Mv g v w u wr) (fun _ i _ => x1 - (intOf i).toNat)
    case atStart => exact ⟨0, z3, o, v, by omega, rfl, rfl, HK, Lib.hid (by have := HF.out; omega), HO, h1, m1⟩
    case round =>
      obtain ⟨j, q, O, u, hj, rfl, rfl, HK, HZ, HO, hr, hm⟩ := hrel
      clear h1 m1 c3 hfi
      by_cases hlt : j < x1
      · have hlti : (j : Int) < (x1 : Int) := by omega
        have HJL := Lib.hid hlt
        obtain ⟨t, ht⟩ : ∃ t, x1 - j = t + 1 := ⟨x1 - j - 1, by omega⟩
        have HTT := Lib.hid ht
        have D := backS_dev M z1 t q O
        rw [← ht, ← HK.out] at D
        obtain ⟨J, hJ⟩ : ∃ J, J = O.length - z1 := ⟨_, rfl⟩
        have hz0 : 1 ≤ z1 := HZP.out (by trivial)
        have hZl := HZ.out
        rw [← hJ] at D
        have hJl : J < O.length := by omega
        · have hOl := HO.out
          have hw : IntKind.i64.wrap ((O.length : Int) - (z1 : Int)) = (J : Int) := by rw [IntWalk.i64_in _ (by omega)]; omega
          obtain ⟨qb, qc, hu, hB⟩ := hr.at_ hJl
          obtain ⟨b, hb⟩ : ∃ b, b = O.getD J 0 := ⟨_, rfl⟩
          rw [← hb] at hB D
          subst hu
          have HB := Lib.hid hB
          have HD := Lib.hid D
          have HR := Lib.hid (⟨hr, hm⟩ : UW g s M q O (.slice (some ⟨qb, 0, none⟩) O.length qc) k1 k2 wr ∧ Mv g v w (.slice (some ⟨qb, 0, none⟩) O.length qc) wr)
          have hJi : (J : Int) < (O.length : Int) := by omega
          clear hB D hr hm hb hJ hz0 hZl hlt ht HK hJl hOl
          go_wp2_with fail
          refine wp_region_anyL (Two 14 1001 fun b' _ wx => (b' = false → UW g s M q O (.slice (some ⟨qb, 0, none⟩) O.length qc) k1 k2 wx ∧ Mv g v w (.slice (some ⟨qb, 0, none⟩) O.length qc) wx) ∧ (b' = true → ∃ u', UW g s M q (if O.length < M then O ++ [b] else O) u' k1 k2 wx ∧ Mv g v w u' wx)) (by kernel_rfl) ⟨fun _ => ⟨HR.out.1.drew, HR.out.2.drew⟩, fun h => by (cases h)⟩ ?_
          refine anyL_take (i := 0) (v := ?_) rfl (by kernel_rfl) (by kernel_rfl) (by kernel_rfl) (yl_other (by decide) (by decide) rfl (fun f1 f2 wx hT => ?_)) ?_; rotate_left
          · refine lands_value (w := wx) ?_ hT; go_simp <;> rfl
          simp only [pu]
          refine anyL_take (i := 1) (v := ?_) rfl (by kernel_rfl) (by kernel_rfl) (by kernel_rfl) (yl_other (by decide) (by decide) rfl (fun f1 f2 wx hT => ?_)) ?_; rotate_left
          · refine lands_value (w := wx) ?_ hT; go_simp <;> rfl
          simp only [pu]
          refine anyL_take (i := 2) (v := ?_) rfl (by kernel_rfl) (by kernel_rfl) (by kernel_rfl) (yl_other (by decide) (by decide) rfl (fun f1 f2 wx hT => ?_)) ?_; rotate_left
          · refine lands_value (w := wx) ?_ hT; go_simp <;> rfl
          simp only [pu]
          refine anyL_take (i := 3) (v := ?_) rfl (by kernel_rfl) (by kernel_rfl) (by kernel_rfl) (yl_other (by decide) (by decide) rfl (fun f1 f2 wx hT => ?_)) ?_; rotate_left
          · refine lands_value (w := wx) ?_ hT; go_simp <;> rfl
          simp only [pu]
          refine anyL_take (i := 4) (v := .slice (some ⟨qb, 0, none⟩) O.length qc) rfl (by kernel_rfl) (by kernel_rfl) (by kernel_rfl) (yl_ahead (n := 9) (by decide) (by decide) (by kernel_rfl) rfl (fun f2 wx hT => ?_)) ?_
          · have cc := (hT.1 rfl).1.c3; refine lands_value (w := wx) ?_ hT; go_simp; skip
          simp only [pu]
          refine anyL_take (i := 5) (v := ?_) rfl (by kernel_rfl) (by kernel_rfl) (by kernel_rfl) (yl_other (by decide) (by decide) rfl (fun f1 f2 wx hT => ?_)) ?_; rotate_left
          · refine lands_value (w := wx) ?_ hT; go_simp <;> rfl
          simp only [pu]
          refine anyL_take (i := 6) (v := ?_) rfl (by kernel_rfl) (by kernel_rfl) (by kernel_rfl) (yl_other (by decide) (by decide) rfl (fun f1 f2 wx hT => ?_)) ?_; rotate_left
          · refine lands_value (w := wx) ?_ hT; go_simp <;> rfl
          simp only [pu]
          refine anyL_take (i := 7) (v := ?_) rfl (by kernel_rfl) (by kernel_rfl) (by kernel_rfl) (yl_other (by decide) (by decide) rfl (fun f1 f2 wx hT => ?_)) ?_; rotate_left
          · refine lands_value (w := wx) ?_ hT; go_simp <;> rfl
          simp only [pu]
          refine anyL_take (i := 8) (v := .slice (some ⟨qb, 0, none⟩) O.length qc) rfl (by kernel_rfl) (by kernel_rfl) (by kernel_rfl) (yl_ahead (n := 9) (by decide) (by decide) (by kernel_rfl) rfl (fun f2 wx hT => ?_)) ?_
          · have cc := (hT.1 rfl).1.c3; refine lands_value (w := wx) ?_ hT; go_simp; skip
          simp only [pu]
          refine anyL_take (i := 9) (v := ?_) rfl (by kernel_rfl) (by kernel_rfl) (by kernel_rfl) (yl_other (by decide) (by decide) rfl (fun f1 f2 wx hT => ?_)) ?_; rotate_left
          · refine lands_value (w := wx) ?_ hT; go_simp <;> rfl
          simp only [pu]
          refine anyL_take (i := 10) (v := ?_) rfl (by kernel_rfl) (by kernel_rfl) (by kernel_rfl) (yl_other (by decide) (by decide) rfl (fun f1 f2 wx hT => ?_)) ?_; rotate_left
          · refine lands_value (w := wx) ?_ hT; go_simp <;> rfl
          simp only [pu]
          refine anyL_take (i := 11) (v := .int .i64 (J : Int)) rfl (by kernel_rfl) (by kernel_rfl) (by kernel_rfl) (yl_other (by decide) (by decide) rfl (fun f1 f2 wx hT => ?_)) ?_
          · refine lands_value (w := wx) ?_ hT; go_simp; skip
          simp only [pu]
          refine anyL_take (i := 12) (v := .pointer (some ⟨qb, J, none⟩)) rfl (by kernel_rfl) (by kernel_rfl) (by kernel_rfl) (yl_other (by decide) (by decide) rfl (fun f1 f2 wx hT => ?_)) ?_
          · refine lands_value (w := wx) ?_ hT; go_simp; skip
          simp only [pu]
          refine anyL_take (i := 13) (v := .int .u8 (b : Int)) rfl (by kernel_rfl) (by kernel_rfl) (by kernel_rfl) (yl_ahead (n := 9) (by decide) (by decide) (by kernel_rfl) rfl (fun f2 wx hT => ?_)) ?_
          · have cc := HB.out wx (hT.1 rfl).1; refine lands_value (w := wx) ?_ hT; go_simp; skip
          simp only [pu]
          refine anyL_take (i := 14) (v := .bool (decide (O.length < M))) rfl (by kernel_rfl) (by kernel_rfl) (by kernel_rfl) (yl_first (by decide) rfl (fun f2 wx hT => ?_)) ?_
          · have h5 := hT.1 rfl; refine lands_calls (f := 36) ((dsay_any g s M q O _ k1 k2 b wx h5.1 HM.out HO.out).mono fun e w' ⟨u', he, hq, hm⟩ => ⟨he, ⟨fun h => by (cases h), fun _ => ⟨u', hq, h5.2.trans hm⟩⟩⟩) ?_; go_simp; skip
          simp only [pu]
          refine anyL_take (i := 15) (v := ?_) rfl (by kernel_rfl) (by kernel_rfl) (by kernel_rfl) (yl_other (by decide) (by decide) rfl (fun f1 f2 wx hT => ?_)) ?_; rotate_left
          · refine lands_value (w := wx) ?_ hT; go_simp <;> rfl
          simp only [pu]
          refine anyL_done rfl ?_ _
          intro w2 hT
          obtain ⟨u', h2, m2⟩ := hT.2 rfl
          clear hT HR
          by_cases hl : O.length < M
          · have HN := Lib.hid (HD.out.2 hl)
            have HL := Lib.hid hl
            rw [if_pos hl] at h2
            rw [decide_eq_true hl]
            clear HD hl
            go_wp2_with fail
            go_roundw
            case rel => exact ⟨j + 1, q, O ++ [b], u', by have := HJL.out; omega, rfl, by go_num, Lib.hid (by rw [HN.out, show x1 - (j + 1) = t by have := HTT.out; omega]), Lib.hid (by rw [List.length_append]; have := HZ.out; omega), Lib.hid (by rw [List.length_append]; have := HL.out; simp only [List.length_cons, List.length_nil]; omega), h2, m2⟩
            case measure => simp only [intOf]; omega
          · have HE := Lib.hid (HD.out.1 hl)
            rw [decide_eq_false hl]
            clear HD hl h2
            go_wp2_with fail
            go_ret
            rw [HE.out]
            exact ⟨rfl, .bad m2 (by rw [HE.out]; decide)⟩
      · obtain rfl : j = x1 := by omega
        have hlti : ¬ (j : Int) < (j : Int) := by omega
        have HE : Hid (S = ⟨q, 0, O⟩) := Lib.hid (by rw [HK.out, Nat.sub_self]; rfl)
        clear HK
        go_wp2_with fail
        go_ret
        rw [HE.out]
        exact ⟨rfl, u, hm, fun _ => hr⟩
end Go.Proofs.Ytiphnnaanjjaoaa
/- The developers' sayBy of chapter 10. -/
namespace Go.Proofs.Ytiphnnaanjjaoaa
open Go.RowKit
theorem symbolsS_err {B : Nat → Nat} {T M : Nat} {l : Nat → Nat} {n : Nat} {g : Nat → Nat} {m t : Nat} {x : Fl} (h : x.e ≠ 0) : symbolsS B T M l n g m t x = x := by
  cases t with
  | zero => rfl
  | succ t => exact if_pos h
theorem symbolsS_dev (B : Nat → Nat) (T M : Nat) (l : Nat → Nat) (n : Nat) (g : Nat → Nat) (m t p : Nat) (o : List Nat) (x : Nat × Bool × Nat) (hx : x = symR B T l n p) :
    (x.2.1 = false → (symbolsS B T M l n g m (t + 1) ⟨p, 0, o⟩).e = 2) ∧ (x.2.1 = true → x.1 = 256 → symbolsS B T M l n g m (t + 1) ⟨p, 0, o⟩ = ⟨x.2.2, 0, o⟩) ∧
    (x.2.1 = true → x.1 < 256 → ¬ o.length < M → (symbolsS B T M l n g m (t + 1) ⟨p, 0, o⟩).e = 9) ∧
    (x.2.1 = true → x.1 < 256 → o.length < M → symbolsS B T M l n g m (t + 1) ⟨p, 0, o⟩ = symbolsS B T M l n g m t ⟨x.2.2, 0, o ++ [x.1]⟩) ∧
    (x.2.1 = true → 256 < x.1 → symbolsS B T M l n g m (t + 1) ⟨p, 0, o⟩ = symbolsS B T M l n g m t (copiedS B T M x.1 g m ⟨x.2.2, 0, o⟩)) := by
  have X := symS_R B T l n p o
  rw [← hx] at X
  clear hx
  obtain ⟨a, b, q⟩ := x
  have h0 : symbolsS B T M l n g m (t + 1) ⟨p, 0, o⟩ = (let s := symS B T l n ⟨p, 0, o⟩
    if s.2.e ≠ 0 ∨ s.1 = 256 then s.2 else
      if s.1 < 256 then symbolsS B T M l n g m t (sayS M s.1 s.2) else symbolsS B T M l n g m t (copiedS B T M s.1 g m s.2)) := if_neg (fun h => h rfl)
  rw [h0]
  rcases X with ⟨x1, xs⟩ | ⟨x1, xs⟩
  · have x1 : b = true := x1
    subst x1
    simp only [xs]
    refine ⟨fun h => (by cases h), fun _ h => ?_, fun _ h hl => ?_, fun _ h hl => ?_, fun _ h => ?_⟩
    · rw [if_pos (.inr h)]
    · rw [if_neg (by rintro (h2 | h2); exact h2 rfl; omega), if_pos h]
      have hs : sayS M a ⟨q, 0, o⟩ = ⟨q, 9, o⟩ := by unfold sayS; rw [if_neg (fun h => h rfl), if_pos (show o.length ≥ M by omega)]
      rw [hs, symbolsS_err (show (9 : Nat) ≠ 0 by decide)]
    · rw [if_neg (by rintro (h2 | h2); exact h2 rfl; omega), if_pos h]
      have hs : sayS M a ⟨q, 0, o⟩ = ⟨q, 0, o ++ [a]⟩ := by unfold sayS; rw [if_neg (fun h => h rfl), if_neg (show ¬ o.length ≥ M by omega)]
      rw [hs]
    · rw [if_neg (by rintro (h2 | h2); exact h2 rfl; omega), if_neg (by omega)]
  · have x1 : b = false := x1
    subst x1
    simp only [xs]
    refine ⟨fun _ => ?_, fun h => (by cases h), fun h => (by cases h), fun h => (by cases h), fun h => (by cases h)⟩
    rw [if_pos (.inl (by decide))]
theorem sayS_p (M b : Nat) (x : Fl) : (sayS M b x).p = x.p := by unfold sayS; split; rfl; split <;> rfl
theorem backS_p (M d : Nat) : ∀ (n : Nat) (x : Fl), (backS M d n x).p = x.p
  | 0, _ => rfl
  | n + 1, x => by
    by_cases h : x.e ≠ 0
    · rw [backS_err h]
    · have e : backS M d (n + 1) x = backS M d n (sayS M (x.o.getD (x.o.length - d) 0) x) := if_neg h
      rw [e, backS_p M d n, sayS_p]
theorem sayS_len {M b : Nat} {x : Fl} (h : x.o.length ≤ M) : (sayS M b x).o.length ≤ M := by
  unfold sayS
  split
  · exact h
  · split
    · exact h
    · show (x.o ++ [b]).length ≤ M; rw [List.length_append]; simp only [List.length_cons, List.length_nil]; omega
theorem backS_len {M d : Nat} : ∀ (n : Nat) {x : Fl}, x.o.length ≤ M → (backS M d n x).o.length ≤ M
  | 0, _, h => h
  | n + 1, x, h => by
    by_cases he : x.e ≠ 0
    · rw [backS_err he]; exact h
    · have e : backS M d (n + 1) x = backS M d n (sayS M (x.o.getD (x.o.length - d) 0) x) := if_neg he
      rw [e]; exact backS_len n (sayS_len h)
theorem byS_ge {B : Nat → Nat} {T p least n : Nat} {ok : Bool} : p ≤ (byS B T p least n ok).2.2 := by
  unfold byS
  split
  · unfold numS
    split
    · exact Nat.le_add_right _ _
    · exact Nat.le_refl _
  · exact Nat.le_refl _
theorem symR_ge {B : Nat → Nat} {T : Nat} {l : Nat → Nat} {n p : Nat} : p ≤ (symR B T l n p).2.2 := by
  cases h : (symR B T l n p).2.1 with
  | true => exact Nat.le_of_lt (symR_pos h).1
  | false =>
    obtain ⟨k, q, e0, e⟩ : ∃ k q e, nextV l n B T p 0 15 = (k, q, e) := ⟨_, _, _, rfl⟩
    cases e0 with
    | zero => rw [symR_in e] at h; cases h
    | succ z => rw [symR_out e]; exact Nat.le_refl _
theorem copiedS_ok {B : Nat → Nat} {T M k p : Nat} {l : Nat → Nat} {n : Nat} {o : List Nat} (h : (copiedS B T M k l n ⟨p, 0, o⟩).e = 0) (hp : p ≤ T) (ho : o.length ≤ M) :
    p ≤ (copiedS B T M k l n ⟨p, 0, o⟩).p ∧ (copiedS B T M k l n ⟨p, 0, o⟩).p ≤ T ∧ (copiedS B T M k l n ⟨p, 0, o⟩).o.length ≤ M := by
  obtain ⟨x, hx⟩ : ∃ x, x = byS B T p (lengthV (k : Int)).1 (lengthV (k : Int)).2.1 (lengthV (k : Int)).2.2 := ⟨_, rfl⟩
  obtain ⟨y, hy⟩ : ∃ y, y = symR B T l n x.2.2 := ⟨_, rfl⟩
  obtain ⟨z, hz⟩ : ∃ z, z = byS B T y.2.2 (distV (y.1 : Int)).1 (distV (y.1 : Int)).2.1 (distV (y.1 : Int)).2.2 := ⟨_, rfl⟩
  have D := copiedS_dev B T M k p l n o x y z hx hy hz
  have h1 : p ≤ x.2.2 ∧ x.2.2 ≤ T := by rw [hx]; exact ⟨byS_ge, byS_le hp⟩
  have h2 : x.2.2 ≤ y.2.2 ∧ y.2.2 ≤ T := by rw [hy]; exact ⟨symR_ge, symR_le _ _ _ h1.2⟩
  have h3 : y.2.2 ≤ z.2.2 ∧ z.2.2 ≤ T := by rw [hz]; exact ⟨byS_ge, byS_le h2.2⟩
  clear hx hy hz
  have no : ∀ {P : Prop}, (P → (copiedS B T M k l n ⟨p, 0, o⟩).e = 2) → ¬ P := fun hP hq => by rw [hP hq] at h; cases h
  have n1 := no D.1
  have e : copiedS B T M k l n ⟨p, 0, o⟩ = backS M z.1 x.1 ⟨z.2.2, 0, o⟩ := D.2 (by
    cases h : x.2.1 with
    | true => rfl
    | false => exact absurd (.inl h) n1) (by
    cases h : y.2.1 with
    | true => rfl
    | false => exact absurd (.inr (.inl h)) n1) (by
    cases h : z.2.1 with
    | true => rfl
    | false => exact absurd (.inr (.inr (.inl h))) n1) (fun h => n1 (.inr (.inr (.inr h))))
  rw [e, backS_p]
  exact ⟨by show p ≤ z.2.2; omega, h3.2, backS_len _ ho⟩
set_option maxRecDepth 100000 in
set_option maxHeartbeats 8000000 in
theorem dsayBy_any (g : Nat) (s : ByteArray) (M p : Nat) (o : List Nat) (v k1 k2 c1 c2 : Value) (f1 : Nat → Int) (n1 : Nat) (f2 : Nat → Int) (n2 : Nat) (w : World) (h : UW g s M p o v k1 k2 w) (hc1 : CodeV c1 f1 n1 w) (hc2 : CodeV c2 f2 n2 w) (hs : s.size ≤ 281474976710656) (hp : p ≤ 8 * s.size) (hM : M ≤ 1048576) (ho : o.length ≤ M) :
    Calls Try.prog 38 #[.pointer (some ⟨g, 0, none⟩), .agg #[c1, c2]] w fun e w' => e = .returned (.int .i64 ((symbolsS (bitH s) (8 * s.size) M (toL f1) n1 (toL f2) n2 (8 * s.size + 1) ⟨p, 0, o⟩).e : Int)) ∧ Dn g s M (symbolsS (bitH s) (8 * s.size) M (toL f1) n1 (toL f2) n2 (8 * s.size + 1) ⟨p, 0, o⟩) v k1 k2 w w' := by
  obtain ⟨S, hS⟩ : ∃ S, S = symbolsS (bitH s) (8 * s.size) M (toL f1) n1 (toL f2) n2 (8 * s.size + 1) ⟨p, 0, o⟩ := ⟨_, rfl⟩
  rw [← hS]
  have hb0 := (Below.refl _ w).alloc (Nat.le_refl _) (.cells #[c1, c2] 47)
  have H0 := Lib.hid (⟨h.below hb0, (Mv.refl g v w).below hb0, hc1.below hb0, hc2.below hb0, Blk.new w _ _⟩ : UW g s M p o v k1 k2 (w.alloc (.cells #[c1, c2] 47)) ∧ Mv g v w v (w.alloc (.cells #[c1, c2] 47)) ∧ CodeV c1 f1 n1 (w.alloc (.cells #[c1, c2] 47)) ∧ CodeV c2 f2 n2 (w.alloc (.cells #[c1, c2] 47)) ∧ Blk (w.alloc (.cells #[c1, c2] 47)) w.heap.size 47 #[c1, c2])
  obtain ⟨q0, hq0⟩ : ∃ q0, q0 = w.heap.size := ⟨_, rfl⟩
  rw [← hq0] at H0
  have HS := Lib.hid hS
  have HM := Lib.hid hM
  have HO := Lib.hid ho
  have HSZ := Lib.hid hs
  clear h hc1 hc2 hb0 hS hM ho hs
  go_enter Try.func38, Try.ntmps38
  go_wp2_with fail
  rw [← hq0]
  clear hq0
  generalize w.alloc (.cells #[c1, c2] 47) = wa at H0 ⊢
  go_loopg [4] (8 * s.size + 1) (fun gk r wr => ∃ (t q : Nat) (O : List Nat) (u : Value), gk = t ∧ r = .int .i64 0 ∧ Hid (S = symbolsS (bitH s) (8 * s.size) M (toL f1) n1 (toL f2) n2 t ⟨q, 0, O⟩) ∧ q ≤ 8 * s.size ∧ 8 * s.size - q < t ∧ Hid (O.length ≤ M) ∧ Hid (UW g s M q O u k1 k2 wr ∧ Mv g v w u wr ∧ CodeV c1 f1 n1 wr ∧ CodeV c2 f2 n2 wr ∧ Blk wr q0 47 #[c1, c2]))
  case atStart => exact ⟨_, p, o, v, rfl, rfl, HS, hp, by omega, HO, H0⟩
  case round =>
    obtain ⟨t, q, O, u, hgk, rfl, HK, hq, hqt, HOl, HR⟩ := hrel
    clear H0 HS HO hp
    cases t with
    | zero => omega
    | succ t =>
      obtain ⟨y, hy⟩ : ∃ y, y = symR (bitH s) (8 * s.size) (toL f1) n1 q := ⟨_, rfl⟩
      have D := symbolsS_dev (bitH s) (8 * s.size) M (toL f1) n1 (toL f2) n2 t q O y hy
      rw [← HK.out] at D
      have HD := Lib.hid D
      have HYP : Hid (y.2.1 = true → q < y.2.2 ∧ y.2.2 ≤ 8 * s.size) := Lib.hid fun h => by rw [hy] at h ⊢; exact symR_pos h
      have HC5 : Hid (∀ wx, UW g s M q O u k1 k2 wx → CodeV c1 f1 n1 wx → Calls Try.prog 44 #[.pointer (some ⟨g, 0, none⟩), c1] wx fun e w' => e = .returned (.tuple #[.int .i64 (y.1 : Int), .bool y.2.1]) ∧ UW g s M y.2.2 O u k1 k2 w' ∧ Mv g u wx u w') := Lib.hid fun wx h2 h3 => by
        have := HSZ.out
        rw [hy]; exact dsym_any g s M q O u k1 k2 c1 f1 n1 wx h2 h3 HSZ.out (by omega)
      have HQT := Lib.hid hqt
      have HGK := Lib.hid hgk
      clear hy D HK hqt hgk hq
      go_wp2_with fail
      refine wp_region_anyL (Two 5 1001 fun b _ wx => (b = false → UW g s M q O u k1 k2 wx ∧ Mv g v w u wx ∧ CodeV c1 f1 n1 wx ∧ CodeV c2 f2 n2 wx ∧ Blk wx q0 47 #[c1, c2]) ∧ (b = true → UW g s M y.2.2 O u k1 k2 wx ∧ Mv g v w u wx ∧ CodeV c1 f1 n1 wx ∧ CodeV c2 f2 n2 wx ∧ Blk wx q0 47 #[c1, c2])) (by kernel_rfl) ⟨fun _ => ⟨HR.out.1.drew, HR.out.2.1.drew, HR.out.2.2.1, HR.out.2.2.2.1, HR.out.2.2.2.2.drew⟩, fun h => by (cases h)⟩ ?_
      refine anyL_take (i := 0) (v := ?_) rfl (by kernel_rfl) (by kernel_rfl) (by kernel_rfl) (yl_other (by decide) (by decide) rfl (fun f1 f2 wx hT => ?_)) ?_; rotate_left
      · refine lands_value (w := wx) ?_ hT; go_simp <;> rfl
      simp only [pu]
      refine anyL_take (i := 1) (v := ?_) rfl (by kernel_rfl) (by kernel_rfl) (by kernel_rfl) (yl_other (by decide) (by decide) rfl (fun f1 f2 wx hT => ?_)) ?_; rotate_left
      · refine lands_value (w := wx) ?_ hT; go_simp <;> rfl
      simp only [pu]
      refine anyL_take (i := 2) (v := ?_) rfl (by kernel_rfl) (by kernel_rfl) (by kernel_rfl) (yl_other (by decide) (by decide) rfl (fun f1 f2 wx hT => ?_)) ?_; rotate_left
      · refine lands_value (w := wx) ?_ hT; go_simp <;> rfl
      simp only [pu]
      refine anyL_take (i := 3) (v := ?_) rfl (by kernel_rfl) (by kernel_rfl) (by kernel_rfl) (yl_other (by decide) (by decide) rfl (fun f1 f2 wx hT => ?_)) ?_; rotate_left
      · refine lands_value (w := wx) ?_ hT; go_simp <;> rfl
      simp only [pu]
      refine anyL_take (i := 4) (v := c1) rfl (by kernel_rfl) (by kernel_rfl) (by kernel_rfl) (yl_ahead (n := 9) (by decide) (by decide) (by kernel_rfl) rfl (fun f2 wx hT => ?_)) ?_
      · have cc := (hT.1 rfl).2.2.2.2.cell 0; refine lands_value (w := wx) ?_ hT; go_simp; skip
      simp only [pu]
      refine anyL_take (i := 5) (v := .tuple #[.int .i64 (y.1 : Int), .bool y.2.1]) rfl (by kernel_rfl) (by kernel_rfl) (by kernel_rfl) (yl_first (by decide) rfl (fun f2 wx hT => ?_)) ?_
      · have h5 := hT.1 rfl; refine lands_calls (f := 44) ((HC5.out wx h5.1 h5.2.2.1).mono fun e w' ⟨he, hq, hm⟩ => ⟨he, ⟨fun h => by (cases h), fun _ => ⟨hq, h5.2.1.trans hm, h5.2.2.1.mv h5.1 hm, h5.2.2.2.1.mv h5.1 hm, Blk.mv h5.2.2.2.2 (by decide) (by decide) h5.1 hm⟩⟩⟩) ?_; go_simp; skip
      simp only [pu]
      refine anyL_take (i := 6) (v := ?_) rfl (by kernel_rfl) (by kernel_rfl) (by kernel_rfl) (yl_other (by decide) (by decide) rfl (fun f1 f2 wx hT => ?_)) ?_; rotate_left
      · refine lands_value (w := wx) ?_ hT; go_simp <;> rfl
      simp only [pu]
      refine anyL_take (i := 7) (v := ?_) rfl (by kernel_rfl) (by kernel_rfl) (by kernel_rfl) (yl_other (by decide) (by decide) rfl (fun f1 f2 wx hT => ?_)) ?_; rotate_left
      · refine lands_value (w := wx) ?_ hT; go_simp <;> rfl
      simp only [pu]
      refine anyL_take (i := 8) (v := ?_) rfl (by kernel_rfl) (by kernel_rfl) (by kernel_rfl) (yl_other (by decide) (by decide) rfl (fun f1 f2 wx hT => ?_)) ?_; rotate_left
      · refine lands_value (w := wx) ?_ hT; go_simp <;> rfl
      simp only [pu]
      refine anyL_take (i := 9) (v := ?_) rfl (by kernel_rfl) (by kernel_rfl) (by kernel_rfl) (yl_other (by decide) (by decide) rfl (fun f1 f2 wx hT => ?_)) ?_; rotate_left
      · refine lands_value (w := wx) ?_ hT; go_simp <;> rfl
      simp only [pu]
      refine anyL_take (i := 10) (v := ?_) rfl (by kernel_rfl) (by kernel_rfl) (by kernel_rfl) (yl_other (by decide) (by decide) rfl (fun f1 f2 wx hT => ?_)) ?_; rotate_left
      · refine lands_value (w := wx) ?_ hT; go_simp <;> rfl
      simp only [pu]
      refine anyL_done rfl ?_ _
      intro w2 hT
      have H2 := Lib.hid (hT.2 rfl : UW g s M y.2.2 O u k1 k2 w2 ∧ Mv g v w u w2 ∧ CodeV c1 f1 n1 w2 ∧ CodeV c2 f2 n2 w2 ∧ Blk w2 q0 47 #[c1, c2])
      clear hT HR HC5
      obtain ⟨y1, y2, y3⟩ := y
      cases y2 with
      | false =>
        have HE := Lib.hid (HD.out.1 rfl)
        clear HD
        go_wp2_with fail
        go_ret
        rw [HE.out]
        exact ⟨rfl, .bad H2.out.2.1 (by rw [HE.out]; decide)⟩
      | true =>
      by_cases h256 : y1 = 256
      · have HE := Lib.hid (HD.out.2.1 rfl h256)
        have hi : (y1 : Int) = 256 := by omega
        have hib : ((y1 : Int) == 256) = true := by simp; omega
        clear HD h256
        go_wp2_with fail
        go_ret
        rw [HE.out]
        exact ⟨rfl, u, H2.out.2.1, fun _ => H2.out.1⟩
      · have hi : ¬ (y1 : Int) = 256 := by omega
        have hib : ((y1 : Int) == 256) = false := by simp; omega
        by_cases hgt : 256 < y1
        · have hgi : (y1 : Int) > 256 := by omega
          have HN := Lib.hid (HD.out.2.2.2.2 rfl hgt)
          have hyp := HYP.out rfl
          have C := dagain_any g s M y3 O u k1 k2 c1 c2 f2 n2 y1 w2 H2.out.1 H2.out.2.2.2.1 HSZ.out hyp.2 HM.out HOl.out
          have HOK : Hid ((copiedS (bitH s) (8 * s.size) M y1 (toL f2) n2 ⟨y3, 0, O⟩).e = 0 → y3 ≤ (copiedS (bitH s) (8 * s.size) M y1 (toL f2) n2 ⟨y3, 0, O⟩).p ∧ (copiedS (bitH s) (8 * s.size) M y1 (toL f2) n2 ⟨y3, 0, O⟩).p ≤ 8 * s.size ∧ (copiedS (bitH s) (8 * s.size) M y1 (toL f2) n2 ⟨y3, 0, O⟩).o.length ≤ M) := Lib.hid fun h => copiedS_ok h hyp.2 HOl.out
          dsimp only at HN
          generalize copiedS (bitH s) (8 * s.size) M y1 (toL f2) n2 ⟨y3, 0, O⟩ = X at C HN HOK
          have cc0 := H2.out.2.2.2.2.cell 0
          have cc1 := H2.out.2.2.2.2.cell 1
          have HYPP := Lib.hid hyp
          clear HD h256 hgt hyp HYP
          go_wp2_with (refine wpList_val (.agg #[c1, c2]) rfl (by exact lands_load (R := fun wx => wx = w2) _ _ rfl _ rfl _ _ _ H2.out.2.2.2.2 Try.underlying47 rfl (by kernel_rfl) rfl) ?_; rintro _ rfl; simp only [pu])
          refine C.mono ?_
          rintro e w3 ⟨rfl, hdn⟩
          obtain ⟨Xp, Xe, Xo⟩ := X
          by_cases he : Xe = 0
          · subst he
            obtain ⟨u3, m3, h3⟩ := hdn
            have h3 := h3 rfl
            have H3 := Lib.hid (⟨h3, H2.out.2.1.trans m3, H2.out.2.2.1.mv H2.out.1 m3, H2.out.2.2.2.1.mv H2.out.1 m3, Blk.mv H2.out.2.2.2.2 (by decide) (by decide) H2.out.1 m3⟩ : UW g s M Xp Xo u3 k1 k2 w3 ∧ Mv g v w u3 w3 ∧ CodeV c1 f1 n1 w3 ∧ CodeV c2 f2 n2 w3 ∧ Blk w3 q0 47 #[c1, c2])
            have hok := HOK.out rfl
            clear h3 m3 cc0 cc1
            go_wp2_with fail
            go_roundg t
            case measure => have := HGK.out; omega
            case rel => exact ⟨t, Xp, Xo, u3, rfl, rfl, HN, hok.2.1, by have := HYPP.out; have := HQT.out; have := hok.1; omega, Lib.hid hok.2.2, H3⟩
          · have HE : Hid (S.e = Xe ∧ S.e ≠ 0) := Lib.hid (by rw [HN.out, symbolsS_err he]; exact ⟨rfl, he⟩)
            obtain ⟨u3, m3, _⟩ := hdn
            have hei : ¬ (Xe : Int) = 0 := by omega
            have hneb : ((Xe : Int) != 0) = true := by simp; omega
            clear he cc0 cc1 HN HOK
            go_wp2_with fail
            go_ret
            rw [HE.out.1]
            exact ⟨rfl, .bad (H2.out.2.1.trans m3) HE.out.2⟩
        · have hlt : y1 < 256 := by omega
          have hgi : ¬ (y1 : Int) > 256 := by omega
          have hbw : IntKind.u8.wrap (y1 : Int) = (y1 : Int) := by rw [IntKind.wrap_u8]; omega
          have hbm : (y1 : Int) % 256 = (y1 : Int) := by omega
          have C := dsay_any g s M y3 O u k1 k2 y1 w2 H2.out.1 HM.out HOl.out
          have hyp := HYP.out rfl
          have HYPP := Lib.hid hyp
          by_cases hl : O.length < M
          · have HN := Lib.hid (HD.out.2.2.2.1 rfl hlt hl)
            have HL := Lib.hid hl
            rw [decide_eq_true hl, if_pos hl] at C
            clear HD h256 hgt hyp HYP hl hlt
            go_wp2_with fail
            refine C.mono ?_
            rintro e w3 ⟨u3, rfl, h3, m3⟩
            have H3 := Lib.hid (⟨h3, H2.out.2.1.trans m3, H2.out.2.2.1.mv H2.out.1 m3, H2.out.2.2.2.1.mv H2.out.1 m3, Blk.mv H2.out.2.2.2.2 (by decide) (by decide) H2.out.1 m3⟩ : UW g s M y3 (O ++ [y1]) u3 k1 k2 w3 ∧ Mv g v w u3 w3 ∧ CodeV c1 f1 n1 w3 ∧ CodeV c2 f2 n2 w3 ∧ Blk w3 q0 47 #[c1, c2])
            clear h3 m3 C
            go_wp2_with fail
            go_roundg t
            case measure => have := HGK.out; omega
            case rel => exact ⟨t, y3, O ++ [y1], u3, rfl, rfl, HN, HYPP.out.2, by have := HYPP.out; have := HQT.out; omega, Lib.hid (by rw [List.length_append]; have := HL.out; simp only [List.length_cons, List.length_nil]; omega), H3⟩
          · have HE := Lib.hid (HD.out.2.2.1 rfl hlt hl)
            rw [decide_eq_false hl, if_neg hl] at C
            clear HD h256 hgt hyp HYP hl hlt
            go_wp2_with fail
            refine C.mono ?_
            rintro e w3 ⟨u3, rfl, h3, m3⟩
            clear C
            go_wp2_with fail
            go_ret
            rw [HE.out]
            exact ⟨rfl, .bad (H2.out.2.1.trans m3) (by rw [HE.out]; decide)⟩
end Go.Proofs.Ytiphnnaanjjaoaa
/- The developers' newCodes of chapter 10. -/
namespace Go.Proofs.Ytiphnnaanjjaoaa
open Go.RowKit
theorem two_one (a b : Option Addr) : (#[Value.pointer a, Value.pointer b] : Array Value).all (·.oneCell') = true := by kernel_rfl
/-- A code stays where another block's row is written. -/
theorem CodeV.setRow {c : Value} {f : Nat → Int} {n : Nat} {w : World} (h : CodeV c f n w) {q : Nat} {t : TypeId} {cs : Array Value} (hq : Blk w q t cs) (ht : t ≠ 105) (cs' : Array Value) : CodeV c f n (w.setRow q cs') := by
  obtain ⟨h1, h2, h3, w1, h4, ⟨D, ⟨es, clock, e1, e2⟩, h5⟩, h6⟩ := h
  refine ⟨h1, h2, h3, w1, h4, ⟨D, ⟨es, clock, (setRow_other w q _ cs' ?_).trans e1, e2⟩, h5⟩, (setRow_other w q _ cs' ?_).trans h6⟩
  · intro e
    unfold Blk at hq
    rw [e, hq] at e1; cases e1
  · intro e
    unfold Blk at hq h6
    rw [e, hq] at h6
    injection h6 with h6
    injection h6 with _ h6
    exact ht h6
set_option maxRecDepth 100000 in
set_option maxHeartbeats 8000000 in
theorem dnew_any (p1 : Option Addr) (n1 cap1 : Nat) (f1 : Nat → Int) (p2 : Option Addr) (n2 cap2 : Nat) (f2 : Nat → Int) (w : World) (h1 : IS p1 n1 cap1 f1 w) (h2 : IS p2 n2 cap2 f2 w) (hn1 : n1 ≤ 17592186044416) (hn2 : n2 ≤ 17592186044416) :
    Calls Try.prog 42 #[.slice p1 n1 cap1, .slice p2 n2 cap2] w fun e w' => ∃ v1 v2, e = .returned (.tuple #[.agg #[.pointer v1, .pointer v2], .bool (decide (newE f1 n1 = 0 ∧ newE f2 n2 = 0))]) ∧ Below w.heap.size w w' ∧ (newE f1 n1 = 0 → CodeV (.pointer v1) f1 n1 w') ∧ (newE f2 n2 = 0 → CodeV (.pointer v2) f2 n2 w') := by
  have C1 : Hid (∀ wx, Below w.heap.size w wx → Calls Try.prog 51 #[.slice p1 n1 cap1] wx fun e w' => ∃ v, e = .returned (.tuple #[.pointer v, .int .i64 (newE f1 n1 : Int)]) ∧ (newE f1 n1 = 0 → CodeV (.pointer v) f1 n1 w') ∧ Below wx.heap.size wx w') := Lib.hid fun wx hb => by
    by_cases he : newE f1 n1 = 0
    · refine (new_huff p1 n1 cap1 f1 wx (h1.below hb) hn1 he).mono ?_
      rintro e w' ⟨v, h3, h4, h5⟩
      obtain ⟨a, rfl⟩ := h4.some
      exact ⟨some a, by rw [h3, he]; rfl, fun _ => h4, h5⟩
    · refine (new_huff_not p1 n1 cap1 f1 wx (h1.below hb) hn1 he).mono ?_
      rintro e w' ⟨h3, h5⟩
      exact ⟨_, h3, fun h => absurd h he, h5⟩
  have C2 : Hid (∀ wx, Below w.heap.size w wx → Calls Try.prog 51 #[.slice p2 n2 cap2] wx fun e w' => ∃ v, e = .returned (.tuple #[.pointer v, .int .i64 (newE f2 n2 : Int)]) ∧ (newE f2 n2 = 0 → CodeV (.pointer v) f2 n2 w') ∧ Below wx.heap.size wx w') := Lib.hid fun wx hb => by
    by_cases he : newE f2 n2 = 0
    · refine (new_huff p2 n2 cap2 f2 wx (h2.below hb) hn2 he).mono ?_
      rintro e w' ⟨v, h3, h4, h5⟩
      obtain ⟨a, rfl⟩ := h4.some
      exact ⟨some a, by rw [h3, he]; rfl, fun _ => h4, h5⟩
    · refine (new_huff_not p2 n2 cap2 f2 wx (h2.below hb) hn2 he).mono ?_
      rintro e w' ⟨h3, h5⟩
      exact ⟨_, h3, fun h => absurd h he, h5⟩
  clear h1 h2
  generalize newE f1 n1 = E1 at *
  generalize newE f2 n2 = E2 at *
  go_enter Try.func42, Try.ntmps42
  go_wp2_with fail
  have b0 : Below w.heap.size w (w.alloc (.cells #[.pointer none, .pointer none] 47)) := (Below.refl _ _).alloc (Nat.le_refl _) _
  have hB := Blk.new w 47 #[.pointer none, .pointer none]
  refine (C1.out _ b0).mono ?_
  rintro e w1 ⟨v1, rfl, k1, b1⟩
  replace hB := hB.below b1 hB.lt
  replace b1 := b0.trans (b1.mono b0.size)
  clear b0
  go_wp2_with fail
  refine (C2.out _ b1).mono ?_
  rintro e w2 ⟨v2, rfl, k2, b2⟩
  replace hB := hB.below b2 hB.lt
  have K1 := Lib.hid fun h => (k1 h).below b2
  have K2 := Lib.hid k2
  replace b1 := b1.trans (b2.mono b1.size)
  clear b2 k1 k2
  have HB := Lib.hid hB
  have H1 := Lib.hid b1
  have hsz : (Try.prog.info? 47).map (·.size) = some 2 := by kernel_rfl
  have HSZ := Lib.hid hsz
  obtain ⟨q, hq⟩ : ∃ q, q = w.heap.size := ⟨_, rfl⟩
  rw [← hq] at HB ⊢
  have HQ := Lib.hid hq
  clear hB b1 hsz hq C1 C2
  by_cases he1 : E1 = 0
  · have i1 : ((E1 : Int) == 0) = true := by simp; omega
    by_cases he2 : E2 = 0
    · have i2 : ((E2 : Int) == 0) = true := by simp; omega
      have HE : Hid (decide (E1 = 0 ∧ E2 = 0) = true) := Lib.hid (decide_eq_true ⟨he1, he2⟩)
      clear he1 he2
      go_wp2_with (refine wpList_store_row rfl 47 _ _ rfl q #[.pointer v1, .pointer v2] rfl rfl 47 _ HB.out HSZ.out rfl (two_one _ _) ?_)
      refine bodyPost_ret (results_cell_row_slot rfl _ _ q 47 #[.pointer v1, .pointer v2] (0, 0) _ _ rfl (HB.out.row_ _) Try.underlying47 rfl HSZ.out rfl) rfl ⟨_, _, ?_, below_setRow' H1.out (by have := HQ.out; omega) _, fun h => (K1.out h).setRow HB.out (by decide) _, fun h => (K2.out h).setRow HB.out (by decide) _⟩
      rw [HE.out]; rfl
    · have i2 : ((E2 : Int) == 0) = false := by simp; omega
      have HE : Hid (decide (E1 = 0 ∧ E2 = 0) = false) := Lib.hid (decide_eq_false fun h => he2 h.2)
      clear he1 he2
      go_wp2_with (refine wpList_store_row rfl 47 _ _ rfl q #[.pointer v1, .pointer v2] rfl rfl 47 _ HB.out HSZ.out rfl (two_one _ _) ?_)
      refine bodyPost_ret (results_cell_row_slot rfl _ _ q 47 #[.pointer v1, .pointer v2] (0, 0) _ _ rfl (HB.out.row_ _) Try.underlying47 rfl HSZ.out rfl) rfl ⟨_, _, ?_, below_setRow' H1.out (by have := HQ.out; omega) _, fun h => (K1.out h).setRow HB.out (by decide) _, fun h => (K2.out h).setRow HB.out (by decide) _⟩
      rw [HE.out]; rfl
  · have i1 : ((E1 : Int) == 0) = false := by simp; omega
    have HE : Hid (decide (E1 = 0 ∧ E2 = 0) = false) := Lib.hid (decide_eq_false fun h => he1 h.1)
    clear he1
    go_wp2_with (refine wpList_store_row rfl 47 _ _ rfl q #[.pointer v1, .pointer v2] rfl rfl 47 _ HB.out HSZ.out rfl (two_one _ _) ?_)
    refine bodyPost_ret (results_cell_row_slot rfl _ _ q 47 #[.pointer v1, .pointer v2] (0, 0) _ _ rfl (HB.out.row_ _) Try.underlying47 rfl HSZ.out rfl) rfl ⟨_, _, ?_, below_setRow' H1.out (by have := HQ.out; omega) _, fun h => (K1.out h).setRow HB.out (by decide) _, fun h => (K2.out h).setRow HB.out (by decide) _⟩
    rw [HE.out]; rfl
end Go.Proofs.Ytiphnnaanjjaoaa
/- The library's Repeat over one number. -/
namespace Go.Proofs.Ytiphnnaanjjaoaa
open Go.RowKit
set_option maxRecDepth 100000 in
set_option maxHeartbeats 2000000 in
theorem lmul_any (n : Nat) (hn : n ≤ 1000) (w : World) :
    Calls Try.prog 61 #[.int .u64 1, .int .u64 (n : Int)] w fun e w' => e = .returned (.tuple #[.int .u64 0, .int .u64 (n : Int)]) ∧ w = w' := by
  have C := mul64_any 1#64 (BitVec.ofNat 64 n) w
  have e1 : iw (1#64) = 1 := by unfold iw; rfl
  have e2 : iw (BitVec.ofNat 64 n) = (n : Int) := by unfold iw; rw [BitVec.toNat_ofNat, Nat.mod_eq_of_lt (by omega)]
  have e3 : iw (mulw 1#64 (BitVec.ofNat 64 n)) = (n : Int) := by
    unfold iw; rw [mul_lo, BitVec.toNat_ofNat, BitVec.toNat_ofNat, Nat.mod_eq_of_lt (show n < 2 ^ 64 by omega)]
    show (((1 * n) % W64 : Nat) : Int) = _
    rw [Nat.one_mul, Nat.mod_eq_of_lt (by unfold W64; omega)]
  have e4 : iw (mulHi 1#64 (BitVec.ofNat 64 n)) = 0 := by
    unfold iw; rw [mul_hi, BitVec.toNat_ofNat, BitVec.toNat_ofNat, Nat.mod_eq_of_lt (show n < 2 ^ 64 by omega)]
    show (((1 * n) / W64 : Nat) : Int) = _
    rw [Nat.one_mul, Nat.div_eq_of_lt (by unfold W64; omega)]; rfl
  rw [e1, e2, e3, e4] at C
  clear e1 e2 e3 e4
  go_enter Try.func61, Try.ntmps61
  go_wp2_with fail
  refine C.mono ?_
  rintro e w1 ⟨rfl, rfl⟩
  go_wp2_with fail
  go_ret2
  exact ⟨rfl, rfl⟩
end Go.Proofs.Ytiphnnaanjjaoaa
/- The library's Repeat over one number. -/
namespace Go.Proofs.Ytiphnnaanjjaoaa
open Go.RowKit
theorem Lands.mono {P : Program} {R R' : World → Prop} {v : Value} {r : Result Next} (h : Lands P R v r) (k : ∀ w, R w → R' w) : Lands P R' v r := by
  cases r with
  | ok n w' =>
    cases n with
    | value u => exact ⟨h.1, k _ h.2⟩
    | skip => exact ⟨h.1, k _ h.2⟩
    | enter f args =>
      have h : Calls P f args w' _ := h
      exact h.mono fun e w'' ⟨h1, h2⟩ => ⟨h1, k _ h2⟩
    | _ => exact h.elim
  | halt x w' => exact h.elim
theorem int_one : (Try.prog.info? 3).map (·.size) = some 1 := by kernel_rfl
theorem lands_copyI {o : Oper} {a : Act} {w : World} (d s : Operand) (ho : o.op = .call { callee := .builtin .copy, args := #[d, s], argTypes := #[34, 34] })
    (g off dl dc : Nat) (hd : a.eval d = .slice (some ⟨g, off, none⟩) dl dc) (ad : Addr) (sl sc : Nat) (hs : a.eval s = .slice (some ad) sl sc) (N : Nat) (F : Nat → Int) (hg : Blk w g 3 (rI N F)) {b : Int} (m : Nat) (hm : m = Nat.min sl dl) (hfit : off + m ≤ N)
    (hsrc : ∀ j, j < m → w.cell? (ad.add j) = some (.int .i64 ((fun _ => b) j))) :
    Lands Try.prog (fun w' => w' = w.setRow g (rI N fun i => if off ≤ i ∧ i < off + m then b else F i)) (.int .i64 (m : Int)) ((execOp a.eval o).run Try.prog w) := by
  have hl : (List.replicate m (Value.int .i64 b)).length = m := List.length_replicate
  have h := run_copy_row (P := Try.prog) w 34 34 o.type 3 g off dl dc ad sl sc (rI N F) 3 (List.replicate m (.int .i64 b)) Try.underlying34 int_one hg (by rw [hl]; exact hm) (fun j v hv => by
    rw [List.getElem?_replicate] at hv
    split at hv
    · next hj => injection hv with hv; rw [← hv]; exact hsrc j hj
    · cases hv) (by rw [hl, row_size]; exact hfit) (fun v hv => by rw [List.eq_of_mem_replicate hv]; rfl)
  have e : ((rI N F).toList.take off ++ List.replicate m (Value.int .i64 b) ++ (rI N F).toList.drop (off + (List.replicate m (Value.int .i64 b)).length)).toArray = rI N fun i => if off ≤ i ∧ i < off + m then b else F i := by
    apply Array.ext_getElem?
    intro i
    rw [List.getElem?_toArray, hl]
    by_cases hi : i < N
    · have e2 := row_get (fun i => Value.int .i64 (if off ≤ i ∧ i < off + m then b else F i)) hi
      have e3 := row_get (fun i => Value.int .i64 (F i)) hi
      rw [e2]
      by_cases h1 : i < off
      · rw [List.append_assoc, List.getElem?_append_left (by rw [List.length_take, Array.length_toList, row_size]; omega), List.getElem?_take_of_lt h1, Array.getElem?_toList, e3, if_neg (by omega)]
      · by_cases h2 : i < off + m
        · rw [List.append_assoc, List.getElem?_append_right (by rw [List.length_take, Array.length_toList, row_size]; omega), List.length_take, Array.length_toList, row_size, List.getElem?_append_left (by rw [hl]; omega), List.getElem?_replicate, if_pos (by omega), if_pos (by omega)]
        · have hlen : (List.take off (rI N F).toList ++ List.replicate m (Value.int .i64 b)).length = off + m := by rw [List.length_append, List.length_take, Array.length_toList, row_size, hl]; omega
          rw [List.getElem?_append_right (by rw [hlen]; omega), hlen, List.getElem?_drop, show off + m + (i - (off + m)) = i by omega, Array.getElem?_toList, e3, if_neg (by omega)]
    · rw [List.getElem?_eq_none, Array.getElem?_eq_none (by rw [row_size]; omega)]
      rw [List.length_append, List.length_append, List.length_take, List.length_drop, Array.length_toList, row_size, hl]; omega
  rw [e, hl] at h
  have : (execOp a.eval o).run Try.prog w = .ok (.value (.int .i64 (m : Int))) (w.setRow g (rI N fun i => if off ≤ i ∧ i < off + m then b else F i)) := by
    unfold execOp
    simp only [ho, resolve, invoke, builtin, Sem.run_bind, Sem.run_pure, Result.andThen_ok, List.map_toArray, List.map_cons, List.map_nil, hd, hs, h]
    rfl
  rw [this]; exact ⟨rfl, rfl⟩
theorem run_intsN (n : Nat) (hn : n ≤ 1000000) (w : World) :
    (Instr.makeSlice 34 (.int .i64 (n : Int)) (.int .i64 (n : Int))).run Try.prog w = .ok (.slice (some ⟨w.heap.size, 0, none⟩) n n) (w.alloc (.cells (rI n fun _ => 0) 3)) := by
  obtain ⟨i0, hi, hz0, hz1, hz2⟩ := info_parts int_infoC
  have h := run_make (P := Try.prog) w 34 3 i0 (.int .i64 0) Try.underlying34 hi hz0 .i64 .i64 (n : Int) n (by omega) (by omega) (by rw [hz2]; omega) (by omega)
  rw [hz1, Int.toNat_natCast, Nat.mul_one, show Value.cells (.int .i64 0) = #[Value.int .i64 0] from rfl, made_ints] at h
  exact h
set_option maxRecDepth 100000 in
set_option maxHeartbeats 8000000 in
theorem lrep_any (b : Int) (N q : Nat) (w : World) (h : Blk w q 3 #[.int .i64 b]) (h1 : 1 ≤ N) (hN : N ≤ 400) :
    Calls Try.prog 53 #[.slice (some ⟨q, 0, none⟩) 1 1, .int .i64 (N : Int)] w fun e w' => ∃ z, e = .returned (.slice (some ⟨z, 0, none⟩) N N) ∧ Blk w' z 3 (rI N fun _ => b) ∧ w.heap.size ≤ z ∧ Below w.heap.size w w' := by
  have C := lmul_any N (by omega) w
  have hmk : ∀ w, (Instr.makeSlice 34 (.int .i64 (N : Int)) (.int .i64 (N : Int))).run Try.prog w = .ok (.slice (some ⟨w.heap.size, 0, none⟩) N N) (w.alloc (.cells (rI N fun _ => 0) 3)) := run_intsN N (by omega)
  have hneg : ¬ (N : Int) < 0 := by omega
  have hu : IntKind.u64.wrap (N : Int) = (N : Int) := by rw [IntKind.wrap_u64]; omega
  have hi : IntKind.i64.wrap (N : Int) = (N : Int) := IntWalk.i64_in _ (by omega)
  have hum : (N : Int) % 18446744073709551616 = (N : Int) := by omega
  have hbig : ¬ (N : Int) > 9223372036854775807 := by omega
  have b0 := (Below.refl _ w).alloc (Nat.le_refl _) (.cells (rI N fun _ => 0) 3)
  have hq := h.lt
  have hz0 := Blk.new w 3 (rI N fun _ => 0)
  have hqa : Blk (w.alloc (.cells (rI N fun _ => 0) 3)) q 3 #[.int .i64 b] := h.alloc _
  have HB := Lib.hid (⟨hz0, hqa, b0⟩ : Blk (w.alloc (.cells (rI N fun _ => 0) 3)) w.heap.size 3 (rI N fun _ => 0) ∧ Blk (w.alloc (.cells (rI N fun _ => 0) 3)) q 3 #[.int .i64 b] ∧ Below w.heap.size w (w.alloc (.cells (rI N fun _ => 0) 3)))
  have HBN : Hid (1 ≤ N ∧ N ≤ 400) := Lib.hid ⟨h1, hN⟩
  clear h hz0 hqa b0 hN h1
  have HC : Hid (∀ (o : Oper) (a : Act), o.op = .call { callee := .builtin .copy, args := #[.tmp 31, .tmp 32], argTypes := #[34, 34] } → a.eval (.tmp 31) = .slice (some ⟨w.heap.size, 0, none⟩) N N → a.eval (.tmp 32) = .slice (some ⟨q, 0, none⟩) 1 1 →
      Lands Try.prog (fun w' => w' = (w.alloc (.cells (rI N fun _ => 0) 3)).setRow w.heap.size (rI N fun i => if 0 ≤ i ∧ i < 0 + 1 then b else 0)) (.int .i64 ((1 : Nat) : Int)) ((execOp a.eval o).run Try.prog (w.alloc (.cells (rI N fun _ => 0) 3)))) := Lib.hid fun o a ho hd hs =>
    lands_copyI (.tmp 31) (.tmp 32) ho w.heap.size 0 N N hd ⟨q, 0, none⟩ 1 1 hs N (fun _ => 0) HB.out.1 1 (by have := HBN.out; simp only [Nat.min_def]; split <;> omega) (by have := HBN.out; omega) (fun j hj => by
      obtain rfl : j = 0 := by omega
      exact HB.out.2.1.cell 0)
  have H1 : Hid (Blk ((w.alloc (.cells (rI N fun _ => 0) 3)).setRow w.heap.size (rI N fun i => if 0 ≤ i ∧ i < 0 + 1 then b else 0)) w.heap.size 3 (rI N fun i => if i < 1 then b else 0) ∧ Below w.heap.size w ((w.alloc (.cells (rI N fun _ => 0) 3)).setRow w.heap.size (rI N fun i => if 0 ≤ i ∧ i < 0 + 1 then b else 0))) := Lib.hid ⟨(HB.out.1.row_ _).cast_ (row_ext fun i _ => by
    dsimp only
    by_cases h : i < 1
    · rw [if_pos h, if_pos (show 0 ≤ i ∧ i < 0 + 1 by omega)]
    · rw [if_neg h, if_neg (show ¬ (0 ≤ i ∧ i < 0 + 1) by omega)]), below_setRow' HB.out.2.2 (Nat.le_refl _) _⟩
  have HZ : Hid (w.heap.size ≤ w.heap.size) := Lib.hid (Nat.le_refl _)
  go_enter Try.func53, Try.ntmps53
  go_wp2_with fail
  refine C.mono ?_
  rintro e w1 ⟨rfl, rfl⟩
  go_wp2_with (refine wpList_valK (.int .i64 ((1 : Nat) : Int)) rfl (HC.out _ _ rfl rfl rfl) ?_; rintro _ rfl; simp only [pu])
  generalize (w.alloc (.cells (rI N fun _ => 0) 3)).setRow w.heap.size (rI N fun i => if 0 ≤ i ∧ i < 0 + 1 then b else 0) = wa at H1 ⊢
  obtain ⟨z, hz⟩ : ∃ z, z = w.heap.size := ⟨_, rfl⟩
  have H1b := Lib.hid H1.out.2
  have H1a := Lib.hid H1.out.1
  rw [← hz] at H1a ⊢
  have HZ2 := Lib.hid hz
  clear H1
  have HON : Hid (1 ≤ N) := Lib.hid HBN.out.1
  clear hz hmk HC HB C hneg hu hum hbig HZ
  go_loopg [8] (N - 1) (fun gk c wr => ∃ n : Nat, gk = N - n ∧ c = .int .i64 (n : Int) ∧ 1 ≤ n ∧ n ≤ N ∧ Hid (Blk wr z 3 (rI N fun i => if i < n then b else 0) ∧ Below w.heap.size w wr))
  case atStart => exact ⟨1, rfl, rfl, Nat.le_refl 1, HON.out, Lib.hid ⟨H1a.out, H1b.out⟩⟩
  case round =>
    obtain ⟨n, hgk, rfl, hn1, hnN, HW⟩ := hrel
    by_cases hlt : n < N
    · obtain ⟨m, hm⟩ : ∃ m, m = Nat.min n (N - n) := ⟨_, rfl⟩
      have hmle : m ≤ n ∧ m ≤ N - n ∧ 1 ≤ m := by
        rw [hm]; simp only [Nat.min_def]; split <;> omega
      have HMN : Hid (m ≤ n ∧ m ≤ N - n ∧ 1 ≤ m ∧ n < N ∧ gk = N - n) := Lib.hid ⟨hmle.1, hmle.2.1, hmle.2.2, hlt, hgk⟩
      have HMM := Lib.hid hm
      have hlti : (n : Int) < (N : Int) := by omega
      have hnle : (n : Int) ≤ (N : Int) := by omega
      have hne : ¬ N = n := by omega
      have hbN := HBN.out
      have hw : IntKind.i64.wrap ((n : Int) + (m : Int)) = ((n + m : Nat) : Int) := by rw [IntWalk.i64_in _ (by omega)]; omega
      have HST : Hid (∀ wx, (Blk wx z 3 (rI N fun i => if i < n then b else 0) ∧ Below w.heap.size w wx) → Blk (wx.setRow z (rI N fun i => if n ≤ i ∧ i < n + m then b else if i < n then b else 0)) z 3 (rI N fun i => if i < n + m then b else 0) ∧ Below w.heap.size w (wx.setRow z (rI N fun i => if n ≤ i ∧ i < n + m then b else if i < n then b else 0))) := Lib.hid fun wx h => ⟨(h.1.row_ _).cast_ (row_ext fun i _ => by
        dsimp only
        by_cases h1 : n ≤ i ∧ i < n + m
        · rw [if_pos h1, if_pos h1.2]
        · rw [if_neg h1]
          by_cases h2 : i < n
          · rw [if_pos h2, if_pos (by omega)]
          · rw [if_neg h2, if_neg (by omega)]), below_setRow' h.2 (by have := HZ2.out; omega) _⟩
      clear hm hmle hgk hlt hbN
      go_wp2_with fail
      refine wp_region_anyL (Two 7 1001 fun b' _ wx => (b' = false → Blk wx z 3 (rI N fun i => if i < n then b else 0) ∧ Below w.heap.size w wx) ∧ (b' = true → Blk wx z 3 (rI N fun i => if i < n + m then b else 0) ∧ Below w.heap.size w wx)) (by kernel_rfl) ⟨fun _ => ⟨HW.out.1.drew, HW.out.2.drew⟩, fun h => by (cases h)⟩ ?_
      refine anyL_take (i := 0) (v := ?_) rfl (by kernel_rfl) (by kernel_rfl) (by kernel_rfl) (yl_other (by decide) (by decide) rfl (fun f1 f2 wx hT => ?_)) ?_; rotate_left
      · refine lands_value (w := wx) ?_ hT; go_simp <;> rfl
      simp only [pu]
      refine anyL_take (i := 1) (v := ?_) rfl (by kernel_rfl) (by kernel_rfl) (by kernel_rfl) (yl_other (by decide) (by decide) rfl (fun f1 f2 wx hT => ?_)) ?_; rotate_left
      · refine lands_value (w := wx) ?_ hT; go_simp <;> rfl
      simp only [pu]
      refine anyL_take (i := 2) (v := ?_) rfl (by kernel_rfl) (by kernel_rfl) (by kernel_rfl) (yl_other (by decide) (by decide) rfl (fun f1 f2 wx hT => ?_)) ?_; rotate_left
      · refine lands_value (w := wx) ?_ hT; go_simp <;> rfl
      simp only [pu]
      refine anyL_take (i := 3) (v := .slice (some ⟨z, n, none⟩) (N - n) (N - n)) rfl (by kernel_rfl) (by kernel_rfl) (by kernel_rfl) (yl_other (by decide) (by decide) rfl (fun f1 f2 wx hT => ?_)) ?_
      · refine lands_value (w := wx) ?_ hT; go_simp; skip
      simp only [pu]
      refine anyL_take (i := 4) (v := ?_) rfl (by kernel_rfl) (by kernel_rfl) (by kernel_rfl) (yl_other (by decide) (by decide) rfl (fun f1 f2 wx hT => ?_)) ?_; rotate_left
      · refine lands_value (w := wx) ?_ hT; go_simp <;> rfl
      simp only [pu]
      refine anyL_take (i := 5) (v := ?_) rfl (by kernel_rfl) (by kernel_rfl) (by kernel_rfl) (yl_other (by decide) (by decide) rfl (fun f1 f2 wx hT => ?_)) ?_; rotate_left
      · refine lands_value (w := wx) ?_ hT; go_simp <;> rfl
      simp only [pu]
      refine anyL_take (i := 6) (v := .slice (some ⟨z, 0, none⟩) n N) rfl (by kernel_rfl) (by kernel_rfl) (by kernel_rfl) (yl_other (by decide) (by decide) rfl (fun f1 f2 wx hT => ?_)) ?_
      · refine lands_value (w := wx) ?_ hT; go_simp; skip
      simp only [pu]
      refine anyL_take (i := 7) (v := .int .i64 (m : Int)) rfl (by kernel_rfl) (by kernel_rfl) (by kernel_rfl) (yl_first (by decide) rfl (fun f2 wx hT => ?_)) ?_
      · have h5 := hT.1 rfl; refine (lands_copyI (.tmp 41) (.tmp 44) rfl z n (N - n) (N - n) rfl ⟨z, 0, none⟩ n N rfl N (fun i => if i < n then b else 0) h5.1 m HMM.out (by have := HMN.out; omega) (fun j hj => by rw [addr_add, Nat.zero_add, h5.1.at_ (show j < N by have := HMN.out; omega)]; exact congrArg (fun x : Int => some (Value.int .i64 x)) (if_pos (show j < n by have := HMN.out; omega)))).mono fun w' hw => ⟨fun h => by (cases h), fun _ => ?_⟩; rw [hw]; exact HST.out wx h5
      simp only [pu]
      refine anyL_take (i := 8) (v := ?_) rfl (by kernel_rfl) (by kernel_rfl) (by kernel_rfl) (yl_other (by decide) (by decide) rfl (fun f1 f2 wx hT => ?_)) ?_; rotate_left
      · refine lands_value (w := wx) ?_ hT; go_simp <;> rfl
      simp only [pu]
      refine anyL_take (i := 9) (v := ?_) rfl (by kernel_rfl) (by kernel_rfl) (by kernel_rfl) (yl_other (by decide) (by decide) rfl (fun f1 f2 wx hT => ?_)) ?_; rotate_left
      · refine lands_value (w := wx) ?_ hT; go_simp <;> rfl
      simp only [pu]
      refine anyL_done rfl ?_ _
      intro w2 hT
      have H2 := Lib.hid (hT.2 rfl : Blk w2 z 3 (rI N fun i => if i < n + m then b else 0) ∧ Below w.heap.size w w2)
      clear hT HW
      go_wp2_with fail
      go_roundg (N - (n + m))
      case measure => have := HMN.out; omega
      case rel => exact ⟨n + m, rfl, by go_num, by have := HMN.out; omega, by have := HMN.out; omega, H2⟩
    · obtain rfl : n = N := by omega
      have hlti : ¬ (n : Int) < (n : Int) := by omega
      go_wp2_with fail
      go_ret
      exact ⟨z, rfl, HW.out.1.cast_ (row_ext fun i hi => by dsimp only; rw [if_pos hi]), by have := HZ2.out; omega, HW.out.2⟩
end Go.Proofs.Ytiphnnaanjjaoaa
/- The library's Grow of nothing and Concat of four lists. -/
namespace Go.Proofs.Ytiphnnaanjjaoaa
open Go.RowKit
theorem zeros_ints (n : Nat) : Builtin.zeroCells (Value.cells (.int .i64 0)) n = (List.replicate n (Value.int .i64 0)).toArray := by
  apply Array.ext_getElem?
  intro i
  unfold Builtin.zeroCells
  by_cases h : i < n
  · simp [h, Value.cells, Nat.mod_one]
  · simp [h, Value.cells]
set_option maxRecDepth 100000 in
set_option maxHeartbeats 2000000 in
theorem lgrow_any (n : Nat) (h1 : 1 ≤ n) (hn : n ≤ 2000) (w : World) :
    Calls Try.prog 60 #[.slice none 0 0, .int .i64 (n : Int)] w fun e w' => ∃ v, e = .returned v ∧ LI w.heap.size w [] v w' := by
  obtain ⟨i0, hi, hz0, hz1, hz2⟩ := info_parts int_infoC
  have hneg : ¬ (n : Int) < 0 := by omega
  have hpos : (n : Int) > 0 := by omega
  have hw : IntKind.i64.wrap (n : Int) = (n : Int) := IntWalk.i64_in _ (by omega)
  have hap := Go.Lib.run_append_grow_zeros (P := Try.prog) w 34 3 34 3 i0 (.int .i64 0) .i64 .i64 Try.underlying34 Try.underlying3 hi hz0 none 0 0 [] (run_firstCells_none w.drew i0.size 0 0 0) n (by omega) (by rw [hz1]; decide) (by omega) (by omega) (by rw [hz2]; omega) (by
    rw [hz2]
    unfold Builtin.nextslicecap
    rw [if_pos (by omega)]; omega)
  obtain ⟨C, hC⟩ : ∃ C, C = grownCap w (0 + n) 0 3 := ⟨_, rfl⟩
  have hC1 : n ≤ C := by have := grownCap_ge w (0 + n) 0 3; rw [hC]; omega
  have hC2 : C ≤ maxLen := by rw [hC]; exact grownCap_le_maxLen w (0 + n) 0 3 (by unfold maxLen; omega)
  rw [← hC] at hap
  have e0 : (#[] ++ Builtin.zeroCells (Value.int .i64 0).cells n ++ Builtin.zeroCells (Value.int .i64 0).cells (C - (0 + n)) : Array Value) = rI C fun _ => 0 := by
    rw [zeros_ints, zeros_ints]
    apply Array.ext_getElem?
    intro i
    by_cases h : i < C
    · have e2 := row_get (fun i => Value.int .i64 ((fun _ => (0 : Int)) i)) h
      rw [e2]
      simp only [List.append_toArray, List.getElem?_toArray, List.nil_append]
      by_cases h2 : i < n
      · rw [List.getElem?_append_left (by rw [List.length_replicate]; exact h2), List.getElem?_replicate, if_pos h2]
      · rw [List.getElem?_append_right (by rw [List.length_replicate]; omega), List.length_replicate, List.getElem?_replicate, if_pos (by omega)]
    · rw [Array.getElem?_eq_none (by simp; omega), Array.getElem?_eq_none (by rw [row_size]; omega)]
  rw [e0] at hap
  have HAP : Hid (∀ (o : Oper) (a : Act), o.op = .call { callee := .builtin .append, args := #[.tmp 20, .tmp 21], argTypes := #[34, 3] } → o.type = 34 → a.eval (.tmp 20) = .slice none 0 0 → a.eval (.tmp 21) = .int .i64 (n : Int) →
      Lands Try.prog (fun w' => w' = w.drew.alloc (.cells (rI C fun _ => 0) 3)) (.slice (some ⟨w.heap.size, 0, none⟩) n C) ((execOp a.eval o).run Try.prog w)) := Lib.hid fun o a ho ht h20 h21 => by
    have : (execOp a.eval o).run Try.prog w = .ok (.value (.slice (some ⟨w.heap.size, 0, none⟩) n C)) (w.drew.alloc (.cells (rI C fun _ => 0) 3)) := by
      unfold execOp
      simp only [ho, ht, resolve, invoke, builtin, Sem.run_bind, Sem.run_pure, Result.andThen_ok, List.map_toArray, List.map_cons, List.map_nil, h20, h21, hap, Nat.zero_add]
    rw [this]; exact ⟨rfl, rfl⟩
  have HC := Lib.hid (⟨hC1, hC2⟩ : n ≤ C ∧ C ≤ maxLen)
  have hb := (Below.refl w.heap.size w).drew.alloc (Nat.le_refl _) (.cells (rI C fun _ => 0) 3)
  have HB := Lib.hid (⟨hb, Blk.new w.drew 3 (rI C fun _ => 0)⟩ : Below w.heap.size w (w.drew.alloc (.cells (rI C fun _ => 0) 3)) ∧ Blk (w.drew.alloc (.cells (rI C fun _ => 0) 3)) w.heap.size 3 (rI C fun _ => 0))
  clear hap e0 hC hi hz0 hz1 hz2 hb h1 hn hC1 hC2
  go_enter Try.func60, Try.ntmps60
  go_wp2_with (refine wpList_valK (.slice (some ⟨w.heap.size, 0, none⟩) n C) rfl (HAP.out _ _ rfl rfl rfl rfl) ?_; rintro _ rfl; simp only [pu])
  go_ret
  refine ⟨_, rfl, ⟨rfl, .inr ⟨w.heap.size, C, rI C fun _ => 0, rfl, Nat.le_refl _, HB.out.2, Nat.zero_le _, HC.out.2, by rw [row_size, Nat.mul_one], rfl⟩⟩, HB.out.1, HB.out.1.size⟩
set_option maxRecDepth 100000 in
/-- A list of one number so often behind a list of one's own. -/
theorem wpList_appI {ops : Array Oper} {rest : List Oper} {o : Oper} {a : Act} {Q : Exit → Act → World → Prop} {B : Nat} {w0 wr : World} {l : List Int} {v : Value} (hgd : o.guard = none) (s x : Operand)
    (ho : o.op = .call { callee := .builtin .append, args := #[s, x], argTypes := #[34, 34] }) (hs : a.eval s = v) (h : LI B w0 l v wr) (q n : Nat) (b : Int) (hx : a.eval x = .slice (some ⟨q, 0, none⟩) n n) (hq : Blk wr q 3 (rI n fun _ => b)) (hn : l.length + n ≤ 1000000)
    (k : ∀ v' w', LI B w0 (l ++ List.replicate n b) v' w' → wpList Try.prog ops Q rest (a.put o.dst v') w') : wpList Try.prog ops Q (o :: rest) a wr := by
  obtain ⟨i0, hi, hz0, hz1, hz2⟩ := info_parts int_infoC
  refine wpList_append_own _ hgd s x 34 ho B 3 i0 (.int .i64 0) 1 8 Try.underlying34 hi hz0 hz1 hz2 rfl (by decide) v l.length _ hs h.own ⟨q, 0, none⟩ n n (List.replicate n (.int .i64 b)) hx (by rw [List.length_replicate, Nat.mul_one]) (fun j u hu => ?_) (fun u hu => by rw [List.eq_of_mem_replicate hu]; rfl) (by unfold maxLen; omega) (by omega) h.lo ?_
  · rw [List.getElem?_replicate] at hu
    split at hu
    · next hj => injection hu with hu; rw [← hu, addr_add, Nat.zero_add, hq.at_ hj]
    · cases hu
  · intro v' w2 hown2 hg2 _
    refine k v' w2 ⟨?_, h.b.grown hg2 h.lo (own_le h.own), Nat.le_trans h.lo hg2.size⟩
    rw [List.length_append, List.length_replicate, List.map_append, List.map_replicate]
    exact hown2
/-- The lists one behind the other. -/
def catL (nn : Nat → Nat) (bb : Nat → Int) : Nat → List Int
  | 0 => []
  | k + 1 => catL nn bb k ++ List.replicate (nn k) (bb k)
def sumN (nn : Nat → Nat) : Nat → Nat
  | 0 => 0
  | k + 1 => sumN nn k + nn k
theorem catL_len (nn : Nat → Nat) (bb : Nat → Int) (k : Nat) : (catL nn bb k).length = sumN nn k := by
  induction k with
  | zero => rfl
  | succ k ih =>
    show (catL nn bb k ++ List.replicate (nn k) (bb k)).length = sumN nn k + nn k
    rw [List.length_append, List.length_replicate, ih]
theorem sumN_le {nn : Nat → Nat} (h : ∀ i, nn i ≤ 400) (k : Nat) : sumN nn k ≤ 400 * k := by
  induction k with
  | zero => exact Nat.le_refl 0
  | succ k ih => have := h k; show sumN nn k + nn k ≤ _; omega
set_option maxRecDepth 100000 in
set_option maxHeartbeats 8000000 in
theorem lconcat_any (q : Nat) (zz nn : Nat → Nat) (bb : Nat → Int) (w : World) (h : Blk w q 34 (row 4 fun i => .slice (some ⟨zz i, 0, none⟩) (nn i) (nn i))) (hb : ∀ i, i < 4 → Blk w (zz i) 3 (rI (nn i) fun _ => bb i)) (hn : ∀ i, nn i ≤ 400) (h1 : 1 ≤ nn 0) :
    Calls Try.prog 52 #[.slice (some ⟨q, 0, none⟩) 4 4] w fun e w' => ∃ v, e = .returned v ∧ LI w.heap.size w (catL nn bb 4) v w' := by
  have HC : Hid (∀ k, k < 4 → ∀ wx, Below w.heap.size w wx → wx.cell? ⟨q, k, none⟩ = some (.slice (some ⟨zz k, 0, none⟩) (nn k) (nn k))) := Lib.hid fun k hk wx hx => (h.below hx h.lt).at_ hk
  have HB : Hid (∀ k, k < 4 → ∀ wx, Below w.heap.size w wx → Blk wx (zz k) 3 (rI (nn k) fun _ => bb k)) := Lib.hid fun k hk wx hx => (hb k hk).below hx (hb k hk).lt
  have HS : Hid (1 ≤ sumN nn 4 ∧ sumN nn 4 ≤ 1600) := Lib.hid ⟨by show 1 ≤ 0 + nn 0 + nn 1 + nn 2 + nn 3; omega, sumN_le hn 4⟩
  have HN := Lib.hid hn
  clear h hb hn h1
  go_enter Try.func52, Try.ntmps52
  go_wp2_with fail
  go_loopw [3, 11] (fun s i wr => ∃ k : Nat, k ≤ 4 ∧ s = .int .i64 (sumN nn k : Int) ∧ i = .int .i64 (k : Int) ∧ w = wr) (fun _ i _ => 4 - (intOf i).toNat)
  case atStart => exact ⟨0, by omega, rfl, rfl, rfl⟩
  case round =>
    obtain ⟨k, hk, rfl, rfl, rfl⟩ := hrel
    by_cases hlt : k < 4
    · have hki : (k : Int) < 4 := by omega
      have c0 := HC.out k hlt w (Below.refl _ _)
      have hl := HN.out k
      have hs := sumN_le HN.out k
      have hw : IntKind.i64.wrap ((sumN nn k : Int) + (nn k : Int)) = (sumN nn (k + 1) : Int) := by
        rw [IntWalk.i64_in _ (by omega)]; show _ = ((sumN nn k + nn k : Nat) : Int); omega
      have hneg : ¬ ((sumN nn (k + 1) : Nat) : Int) < 0 := by omega
      clear hl hs
      obtain ⟨Z, hZ⟩ : ∃ Z, Z = sumN nn (k + 1) := ⟨_, rfl⟩
      rw [← hZ] at hw hneg
      have HZ := Lib.hid hZ
      clear hZ
      generalize sumN nn k = Y at hw ⊢
      generalize nn k = X at c0 hw ⊢
      go_wp2_with fail
      go_roundw
      case rel => exact ⟨k + 1, by omega, by rw [HZ.out], by go_num, by trivial⟩
      case measure => simp only [intOf]; omega
    · obtain rfl : k = 4 := by omega
      have hki : ¬ (((4 : Nat) : Int)) < 4 := by omega
      have G := lgrow_any (sumN nn 4) HS.out.1 (by have := HS.out; omega) w
      go_wp2_with fail
      refine G.mono ?_
      rintro e w1 ⟨v, rfl, hL⟩
      have HL : Hid (LI w.heap.size w (catL nn bb 0) v w1) := Lib.hid hL
      clear G hL
      go_wp2_with fail
      go_loopw [6, 27] (fun v i wr => ∃ k : Nat, k ≤ 4 ∧ i = .int .i64 (k : Int) ∧ Hid (LI w.heap.size w (catL nn bb k) v wr)) (fun _ i _ => 4 - (intOf i).toNat)
      case atStart => exact ⟨0, by omega, rfl, HL⟩
      case round =>
        obtain ⟨k, hk, rfl, HL2⟩ := hrel
        clear HL
        by_cases hlt : k < 4
        · have hki : (k : Int) < 4 := by omega
          have c0 := HC.out k hlt _ HL2.out.b
          have hb := HB.out k hlt _ HL2.out.b
          have HLen : Hid ((catL nn bb k).length + nn k ≤ 1000000) := Lib.hid (by rw [catL_len]; have := sumN_le HN.out k; have := HN.out k; omega)
          have HBK := Lib.hid hb
          have HKK := Lib.hid hlt
          clear hb hlt
          go_wp2_with (at_builtin; refine wpList_appI rfl (.tmp 31) (.tmp 32) rfl rfl HL2.out (zz k) (nn k) (bb k) rfl HBK.out HLen.out ?_; intro v2 w2 h2)
          go_roundw
          case rel => exact ⟨k + 1, by have := HKK.out; omega, by go_num, Lib.hid h2⟩
          case measure => simp only [intOf]; omega
        · obtain rfl : k = 4 := by omega
          have hki : ¬ (((4 : Nat) : Int)) < 4 := by omega
          go_wp2_with fail
          go_ret
          exact ⟨_, rfl, HL2.out⟩
end Go.Proofs.Ytiphnnaanjjaoaa
/- What the developers' package blocks answers: times, the order, the lengths of kind 1. -/
namespace Go.Proofs.Ytiphnnaanjjaoaa
open Go.RowKit
/-- What Times answers: the least times, the bits more, is it one. -/
def timesV (x : Nat) : Nat × Nat × Bool := if x = 16 then (3, 2, true) else if x = 17 then (3, 3, true) else if x = 18 then (11, 7, true) else (0, 0, false)
theorem dtimes_any (x : Nat) (hx : x < 100000) (w : World) :
    Calls Try.prog 62 #[.int .i64 (x : Int)] w fun e w' => e = .returned (.tuple #[.int .i64 ((timesV x).1 : Int), .int .i64 ((timesV x).2.1 : Int), .bool (timesV x).2.2]) ∧ w = w' := by
  unfold timesV
  by_cases h1 : x = 16
  · subst h1
    go_enter Try.func62, Try.ntmps62
    go_wp2_with fail
    go_ret3
    exact ⟨rfl, rfl⟩
  · by_cases h2 : x = 17
    · subst h2
      go_enter Try.func62, Try.ntmps62
      go_wp2_with fail
      go_ret3
      exact ⟨rfl, rfl⟩
    · by_cases h3 : x = 18
      · subst h3
        go_enter Try.func62, Try.ntmps62
        go_wp2_with fail
        go_ret3
        exact ⟨rfl, rfl⟩
      · rw [if_neg h1, if_neg h2, if_neg h3]
        have e1 : ¬ (x : Int) = 16 := by omega
        have e2 : ¬ (x : Int) = 17 := by omega
        have e3 : ¬ (x : Int) = 18 := by omega
        have b1 : ((x : Int) == 16) = false := by simpa using e1
        have b2 : ((x : Int) == 17) = false := by simpa using e2
        have b3 : ((x : Int) == 18) = false := by simpa using e3
        clear hx
        go_enter Try.func62, Try.ntmps62
        go_wp2_with fail
        go_ret3
        exact ⟨rfl, rfl⟩
/-- The numbers of a list as New sees them. -/
def numF (l : List Nat) (i : Nat) : Int := ((l.getD i 0 : Nat) : Int)
/-- The order, as an array's cells. -/
def ordA : Array Value := rI 19 fun i => ((ordL.getD i 0 : Nat) : Int)
theorem zero19 (w : World) : (zeroValue 98).run Try.prog w = .ok (.agg (rI 19 fun _ => 0)) w := by kernel_rfl
theorem ordA_one : ordA.all (·.oneCell') = true := by kernel_rfl
theorem ordA_built : (Try.prog.info? 98).map (·.size) = some 19 := by kernel_rfl
set_option maxRecDepth 100000 in
theorem dorder_any (w : World) :
    Calls Try.prog 56 #[] w fun e w' => e = .returned (.agg ordA) ∧ Below w.heap.size w w' := by
  have hb := (Below.refl _ w).alloc (Nat.le_refl _) (.cells (rI 19 fun _ => 0) 98)
  have HB := Lib.hid (⟨hb, Blk.new w 98 (rI 19 fun _ => 0)⟩ : Below w.heap.size w (w.alloc (.cells (rI 19 fun _ => 0) 98)) ∧ Blk (w.alloc (.cells (rI 19 fun _ => 0) 98)) w.heap.size 98 (rI 19 fun _ => 0))
  have HSZ := Lib.hid ordA_built
  have hz := zero19
  clear hb
  go_enter Try.func56, Try.ntmps56
  go_wp2_with (refine wpList_store_row rfl 98 _ _ rfl w.heap.size ordA rfl rfl 98 _ HB.out.2 HSZ.out rfl ordA_one ?_)
  exact bodyPost_ret (results_cell_row rfl _ _ w.heap.size 98 ordA (0, 0) _ rfl (HB.out.2.row_ _) Try.underlying98 rfl HSZ.out) rfl ⟨rfl, below_setRow' HB.out.1 (Nat.le_refl _) _⟩
theorem Known.cons {B : Nat} {w0 w : World} {l : List (Nat × TypeId × Array Value)} {z : Nat} {t : TypeId} {cs : Array Value} (h : Known B w0 l w) (hb : Blk w z t cs) : Known B w0 ((z, t, cs) :: l) w :=
  ⟨h.b, h.lo, fun x hx => by
    rcases List.mem_cons.1 hx with rfl | hx
    · exact hb
    · exact h.blk x hx⟩
theorem IS.castF {p : Option Addr} {n cap : Nat} {f g : Nat → Int} {w : World} (h : IS p n cap f w) (e : ∀ i, i < n → f i = g i) : IS p n cap g w :=
  ⟨h.nil_, fun a ha i hi => by rw [← e i hi]; exact h.cell a ha i hi, h.lt, fun i hi => by rw [← e i hi]; exact h.lo i hi, fun i hi => by rw [← e i hi]; exact h.hi i hi⟩
theorem fixA_cat : catL (fun i => [144, 112, 24, 8].getD i 0) (fun i => [8, 9, 7, 8].getD i 0) 4 = firstI (numF fixA) 288 := by decide +kernel
theorem fixA_len : fixA.length = 288 := by decide +kernel
theorem fixB_len : fixB.length = 32 := by decide +kernel
theorem fixA_ok : newE (numF fixA) 288 = 0 := by decide +kernel
theorem fixB_ok : newE (numF fixB) 32 = 0 := by decide +kernel
theorem fixB_is : ∀ i, i < 32 → (5 : Int) = numF fixB i := by
  have : ∀ i : Fin 32, (5 : Int) = numF fixB i.val := by decide +kernel
  exact fun i hi => this ⟨i, hi⟩
theorem fixA_small : ∀ i, i < 288 → 0 ≤ numF fixA i ∧ numF fixA i < 100 := by
  have : ∀ i : Fin 288, 0 ≤ numF fixA i.val ∧ numF fixA i.val < 100 := by decide +kernel
  exact fun i hi => this ⟨i, hi⟩
set_option maxRecDepth 100000 in
set_option maxHeartbeats 8000000 in
theorem dfl_any (w : World) :
    Calls Try.prog 43 #[] w fun e w' => ∃ p cap z, e = .returned (.tuple #[.slice p 288 cap, .slice (some ⟨z, 0, none⟩) 32 32]) ∧ Below w.heap.size w w' ∧ IS p 288 cap (numF fixA) w' ∧ IS (some ⟨z, 0, none⟩) 32 32 (numF fixB) w' ∧ (∀ a, p = some a → w.heap.size ≤ a.block) ∧ w.heap.size ≤ z := by
  have HKz := Lib.hid (Known.begin w)
  go_enter Try.func43, Try.ntmps43
  go_wp2_with fail
  refine (lrep_any 8 144 w.heap.size (w.alloc (.cells #[.int .i64 8] 3)) (Blk.new w _ _) (by decide) (by decide)).mono ?_
  rintro e wb0 ⟨z0, rfl, hz0, _, b0⟩
  have HK0 : Hid (Known w.heap.size w [(z0, 3, rI 144 fun _ => 8)] wb0) := Lib.hid (((HKz.out.alloc _).below b0).cons hz0)
  clear HKz hz0 b0
  go_wp2_with fail
  refine (lrep_any 9 112 wb0.heap.size (wb0.alloc (.cells #[.int .i64 9] 3)) (Blk.new wb0 _ _) (by decide) (by decide)).mono ?_
  rintro e wb1 ⟨z1, rfl, hz1, _, b1⟩
  have HK1 : Hid (Known w.heap.size w [(z1, 3, rI 112 fun _ => 9), (z0, 3, rI 144 fun _ => 8)] wb1) := Lib.hid (((HK0.out.alloc _).below b1).cons hz1)
  clear HK0 hz1 b1
  go_wp2_with fail
  refine (lrep_any 7 24 wb1.heap.size (wb1.alloc (.cells #[.int .i64 7] 3)) (Blk.new wb1 _ _) (by decide) (by decide)).mono ?_
  rintro e wb2 ⟨z2, rfl, hz2, _, b2⟩
  have HK2 : Hid (Known w.heap.size w [(z2, 3, rI 24 fun _ => 7), (z1, 3, rI 112 fun _ => 9), (z0, 3, rI 144 fun _ => 8)] wb2) := Lib.hid (((HK1.out.alloc _).below b2).cons hz2)
  clear HK1 hz2 b2
  go_wp2_with fail
  refine (lrep_any 8 8 wb2.heap.size (wb2.alloc (.cells #[.int .i64 8] 3)) (Blk.new wb2 _ _) (by decide) (by decide)).mono ?_
  rintro e wb3 ⟨z3, rfl, hz3, _, b3⟩
  have HK3 : Hid (Known w.heap.size w [(z3, 3, rI 8 fun _ => 8), (z2, 3, rI 24 fun _ => 7), (z1, 3, rI 112 fun _ => 9), (z0, 3, rI 144 fun _ => 8)] wb3) := Lib.hid (((HK2.out.alloc _).below b3).cons hz3)
  clear HK2 hz3 b3
  go_wp2_with fail
  have hbs : Blk (wb3.alloc (.cells #[.slice (some ⟨z0, 0, none⟩) 144 144, .slice (some ⟨z1, 0, none⟩) 112 112, .slice (some ⟨z2, 0, none⟩) 24 24, .slice (some ⟨z3, 0, none⟩) 8 8] 34)) wb3.heap.size 34 (row 4 fun i => .slice (some ⟨[z0, z1, z2, z3].getD i 0, 0, none⟩) ([144, 112, 24, 8].getD i 0) ([144, 112, 24, 8].getD i 0)) := Blk.new wb3 _ _
  have HKc := Lib.hid (HK3.out.alloc (.cells #[.slice (some ⟨z0, 0, none⟩) 144 144, .slice (some ⟨z1, 0, none⟩) 112 112, .slice (some ⟨z2, 0, none⟩) 24 24, .slice (some ⟨z3, 0, none⟩) 8 8] 34))
  have C := lconcat_any wb3.heap.size (fun i => [z0, z1, z2, z3].getD i 0) (fun i => [144, 112, 24, 8].getD i 0) (fun i => [8, 9, 7, 8].getD i 0) _ hbs (fun i hi => by
    rcases (show i = 0 ∨ i = 1 ∨ i = 2 ∨ i = 3 by omega) with rfl | rfl | rfl | rfl
    · exact HKc.out.blk _ (.tail _ (.tail _ (.tail _ (.head _))))
    · exact HKc.out.blk _ (.tail _ (.tail _ (.head _)))
    · exact HKc.out.blk _ (.tail _ (.head _))
    · exact HKc.out.blk _ (.head _)) (fun i => by
    rcases (show i = 0 ∨ i = 1 ∨ i = 2 ∨ i = 3 ∨ 4 ≤ i by omega) with rfl | rfl | rfl | rfl | h
    · decide
    · decide
    · decide
    · decide
    · simp [List.getD, List.getElem?_eq_none (show [144, 112, 24, 8].length ≤ i by exact h)]) (by decide)
  rw [fixA_cat] at C
  refine C.mono ?_
  rintro e wc ⟨v, rfl, hL⟩
  obtain ⟨p, cap, rfl, hIS, hpB⟩ := hL.is (fun i hi => by have := fixA_small i hi; omega) (fun i hi => by have := fixA_small i hi; omega)
  have HI := Lib.hid hIS
  have HP : Hid (∀ a, p = some a → w.heap.size ≤ a.block) := Lib.hid fun a ha => Nat.le_trans HKc.out.b.size (hpB a ha)
  have HKd := Lib.hid (HKc.out.below hL.b)
  clear hIS hL hpB hbs C HKc HK3
  go_wp2_with fail
  refine (lrep_any 5 32 wc.heap.size (wc.alloc (.cells #[.int .i64 5] 3)) (Blk.new wc _ _) (by decide) (by decide)).mono ?_
  rintro e wd ⟨z5, rfl, hz5, lo5, b5⟩
  have HLo : Hid (w.heap.size ≤ z5) := Lib.hid (Nat.le_trans (HKd.out.alloc (.cells #[.int .i64 5] 3)).b.size lo5)
  have HKe := Lib.hid ((HKd.out.alloc (.cells #[.int .i64 5] 3)).below b5)
  have HI2 := Lib.hid ((HI.out.below ((Below.refl _ wc).alloc (Nat.le_refl _) (.cells #[.int .i64 5] 3))).below b5)
  have HJ : Hid (IS (some ⟨z5, 0, none⟩) 32 32 (numF fixB) wd) := Lib.hid ((IS.row hz5 (fun _ _ => by decide) (fun _ _ => by decide)).castF fixB_is)
  clear HKd HI hz5 lo5 b5
  go_wp2_with fail
  go_ret2
  exact ⟨p, cap, z5, rfl, HKe.out.b, HI2.out, HJ.out, HP.out, HLo.out⟩
end Go.Proofs.Ytiphnnaanjjaoaa
/- The developers' codeForLengths of chapter 10. -/
namespace Go.Proofs.Ytiphnnaanjjaoaa
open Go.RowKit
/-- (What was once a table that is read: nothing any more.) -/
def TB (_ : World) : Prop := True
theorem TB.of_block {w w' : World} (_ : TB w) (_ : 0 < w'.heap.size) (_ : w'.heap[0]? = w.heap[0]?) : TB w' := trivial
theorem TB.below {w w' : World} (_ : TB w) (_ : Below w.heap.size w w') : TB w' := trivial
theorem TB.mv {g : Nat} {s : ByteArray} {M p : Nat} {o : List Nat} {v k1 k2 v' : Value} {w w' : World} (_ : TB w) (_ : UW g s M p o v k1 k2 w) (_ : Mv g v w v' w') : TB w' := trivial
theorem Mv.far {g : Nat} {v v' : Value} {w w' : World} (h : Mv g v w v' w') {z : Nat} (hz : w.heap.size ≤ z) (j : Nat) (u : Value) : Mv g v w v' (w'.setCell ⟨z, j, none⟩ u) :=
  ⟨h.os, h.tape, h.output, by simp [World.setCell]; exact h.size, fun i hi hg hv => (Below.heap_setCell w' ⟨z, j, none⟩ u i (show i ≠ z by omega)).trans (h.block i hi hg hv), h.own⟩
theorem ord_lt (i : Nat) : ordL.getD i 0 < 19 := by
  by_cases h : i < 19
  · have : ∀ j : Fin 19, ordL.getD j.val 0 < 19 := by decide +kernel
    exact this ⟨i, h⟩
  · simp [List.getD, List.getElem?_eq_none (show ordL.length ≤ i by show 19 ≤ i; omega)]
theorem fewS_err {B : Nat → Nat} {T : Nat} : ∀ (n i : Nat) (f : Nat → Nat) (x : Fl), x.e ≠ 0 → (fewS B T n i f x).2 = x
  | 0, _, _, _, _ => rfl
  | n + 1, i, f, x, h => by
    show (fewS B T n (i + 1) _ (bitsS B T 3 x).2).2 = x
    rw [bitsS_err h]
    exact fewS_err n (i + 1) _ x h
theorem fewS_dev (B : Nat → Nat) (T n i p : Nat) (f : Nat → Nat) (o : List Nat) (r : Nat × Bool × Nat) (hr : r = numS B T p 0 3) :
    (r.2.1 = false → (fewS B T (n + 1) i f ⟨p, 0, o⟩).2.e = 2) ∧ (r.2.1 = true → fewS B T (n + 1) i f ⟨p, 0, o⟩ = fewS B T n (i + 1) (fun j => if j = ordL.getD i 0 then r.1 else f j) ⟨r.2.2, 0, o⟩) := by
  have k := bitsS_num B T p 3 o
  rw [← hr] at k
  clear hr
  obtain ⟨a, b, q⟩ := r
  rcases k with ⟨e, k⟩ | ⟨e, e', k⟩
  · have e : b = true := e
    subst e
    refine ⟨fun h => (by cases h), fun _ => ?_⟩
    show fewS B T n (i + 1) (fun j => if j = ordL.getD i 0 then (bitsS B T 3 ⟨p, 0, o⟩).1 else f j) (bitsS B T 3 ⟨p, 0, o⟩).2 = _
    rw [k]
  · have e : b = false := e
    subst e
    refine ⟨fun _ => ?_, fun h => (by cases h)⟩
    show (fewS B T n (i + 1) (fun j => if j = ordL.getD i 0 then (bitsS B T 3 ⟨p, 0, o⟩).1 else f j) (bitsS B T 3 ⟨p, 0, o⟩).2).2.e = 2
    rw [k, fewS_err _ _ _ _ (show (2 : Nat) ≠ 0 by decide)]
/-- What codeForLengths tells: so many lengths, the lengths, the state; has it been read? -/
def cflS (B : Nat → Nat) (T p : Nat) (o : List Nat) : Bool × List Nat × Fl :=
  let r := numS B T p 4 4
  let G := fewS B T r.1 0 (fun _ => 0) ⟨r.2.2, 0, o⟩
  (r.2.1 && decide (G.2.e = 0), (List.range 19).map G.1, G.2)
set_option maxRecDepth 100000 in
set_option maxHeartbeats 8000000 in
theorem dcfl_any (g : Nat) (s : ByteArray) (M p : Nat) (o : List Nat) (v k1 k2 : Value) (w : World) (h : UW g s M p o v k1 k2 w) (_ : TB w) (hs : s.size ≤ 281474976710656) (hp : p ≤ 8 * s.size) :
    Calls Try.prog 46 #[.pointer (some ⟨g, 0, none⟩)] w fun e w' => ∃ c ok, e = .returned (.tuple #[c, .bool ok]) ∧ Mv g v w v w' ∧ (ok = true ↔ (cflS (bitH s) (8 * s.size) p o).1 = true ∧ newE (numF (cflS (bitH s) (8 * s.size) p o).2.1) 19 = 0) ∧
      (ok = true → UW g s M (cflS (bitH s) (8 * s.size) p o).2.2.p o v k1 k2 w' ∧ (cflS (bitH s) (8 * s.size) p o).2.2.p ≤ 8 * s.size ∧ CodeV c (numF (cflS (bitH s) (8 * s.size) p o).2.1) 19 w') := by
  obtain ⟨r, hr⟩ : ∃ r, r = numS (bitH s) (8 * s.size) p 4 4 := ⟨_, rfl⟩
  have HS : Hid (cflS (bitH s) (8 * s.size) p o = (r.2.1 && decide ((fewS (bitH s) (8 * s.size) r.1 0 (fun _ => 0) ⟨r.2.2, 0, o⟩).2.e = 0), (List.range 19).map (fewS (bitH s) (8 * s.size) r.1 0 (fun _ => 0) ⟨r.2.2, 0, o⟩).1, (fewS (bitH s) (8 * s.size) r.1 0 (fun _ => 0) ⟨r.2.2, 0, o⟩).2)) := Lib.hid (by unfold cflS; rw [← hr])
  have C := dnum_any g s M p o v k1 k2 4 4 w h hs hp (by omega) (by omega)
  have hrp : r.2.2 ≤ 8 * s.size := by rw [hr]; exact numS_le hp
  have hrl : r.1 < 4 + 2 ^ 4 := by rw [hr]; exact numS_lt s _ _ _ _
  rw [← hr] at C
  generalize cflS (bitH s) (8 * s.size) p o = S at *
  have HU := Lib.hid h
  clear hr h
  obtain ⟨a, b, q⟩ := r
  replace hrl : a ≤ 19 := by have : a < 4 + 2 ^ 4 := hrl; omega
  go_enter Try.func46, Try.ntmps46
  go_wp2_with fail
  refine C.mono ?_
  rintro e w1 ⟨rfl, h1, m1⟩
  clear C
  cases b with
  | false =>
    have HE : Hid (S.1 = false) := Lib.hid (by rw [HS.out]; rfl)
    go_wp2_with fail
    go_ret2
    exact ⟨_, _, rfl, m1, ⟨fun h => (by cases h), fun h => by rw [HE.out] at h; cases h.1⟩, fun h => (by cases h)⟩
  | true =>
    have HQ0 : Hid (w.heap.size ≤ w1.heap.size) := Lib.hid m1.size
    have HGW : Hid (∀ k, v.ownBlock = some k → k < w.heap.size) := Lib.hid fun k e => (HU.out.ownB k e).2
    have HGL : Hid (g < w.heap.size) := Lib.hid HU.out.lt
    have H0 := Lib.hid (⟨h1, m1⟩ : UW g s M q o v k1 k2 w1 ∧ Mv g v w v w1)
    have HSZ := Lib.hid ordA_built
    clear h1 m1 HU
    go_wp2_with fail
    refine (dorder_any w1).mono ?_
    rintro e w2 ⟨rfl, b2⟩
    have HQ2 : Hid (w.heap.size ≤ w2.heap.size) := Lib.hid (Nat.le_trans HQ0.out b2.size)
    have HH := Lib.hid (⟨H0.out.1.below b2, H0.out.2.below b2⟩ : UW g s M q o v k1 k2 w2 ∧ Mv g v w v w2)
    have HZ0 := Lib.hid (⟨(Below.refl _ w2).alloc (Nat.le_refl _) (.cells (rI 19 fun _ => 0) 98), Blk.new w2 _ _⟩ : Below w2.heap.size w2 (w2.alloc (.cells (rI 19 fun _ => 0) 98)) ∧ Blk (w2.alloc (.cells (rI 19 fun _ => 0) 98)) w2.heap.size 98 (rI 19 fun _ => 0))
    have hz := zero19
    clear H0 HQ0 b2
    go_wp2_with (refine wpList_store_row rfl 98 _ _ rfl w2.heap.size ordA rfl rfl 98 _ HZ0.out.2 HSZ.out rfl ordA_one ?_)
    have b3 := below_setRow' HZ0.out.1 (Nat.le_refl _) ordA
    have H3 := Lib.hid (⟨HH.out.1.below b3, HH.out.2.below b3, HZ0.out.2.row_ ordA, by simp [World.setRow]⟩ : UW g s M q o v k1 k2 ((w2.alloc (.cells (rI 19 fun _ => 0) 98)).setRow w2.heap.size ordA) ∧ Mv g v w v ((w2.alloc (.cells (rI 19 fun _ => 0) 98)).setRow w2.heap.size ordA) ∧ Blk ((w2.alloc (.cells (rI 19 fun _ => 0) 98)).setRow w2.heap.size ordA) w2.heap.size 98 ordA ∧ ((w2.alloc (.cells (rI 19 fun _ => 0) 98)).setRow w2.heap.size ordA).heap.size = w2.heap.size + 1)
    obtain ⟨zo, hzo⟩ : ∃ zo, zo = w2.heap.size := ⟨_, rfl⟩
    rw [← hzo] at H3 HQ2 ⊢
    clear hz HZ0 HH b3 hzo
    generalize (w2.alloc (.cells (rI 19 fun _ => 0) 98)).setRow zo ordA = wb at H3 ⊢
    have hmk : ∀ w, (Instr.makeSlice 34 (.int .i64 19) (.int .i64 19)).run Try.prog w = .ok (.slice (some ⟨w.heap.size, 0, none⟩) 19 19) (w.alloc (.cells (rI 19 fun _ => 0) 3)) := fun w => by kernel_rfl
    have bb := (Below.refl _ wb).alloc (Nat.le_refl _) (.cells (rI 19 fun _ => 0) 3)
    have H1 := Lib.hid (⟨H3.out.1.below bb, H3.out.2.1.below bb, H3.out.2.2.1.below bb H3.out.2.2.1.lt, Blk.new wb _ _⟩ : UW g s M q o v k1 k2 (wb.alloc (.cells (rI 19 fun _ => 0) 3)) ∧ Mv g v w v (wb.alloc (.cells (rI 19 fun _ => 0) 3)) ∧ Blk (wb.alloc (.cells (rI 19 fun _ => 0) 3)) zo 98 ordA ∧ Blk (wb.alloc (.cells (rI 19 fun _ => 0) 3)) wb.heap.size 3 (rI 19 fun _ => 0))
    have HZZ : Hid (zo < wb.heap.size) := Lib.hid (by have := H3.out.2.2.2; omega)
    clear H3 bb
    have hai : (a : Int) ≤ 19 := by omega
    go_wp2_with fail
    obtain ⟨z, hz⟩ : ∃ z, z = wb.heap.size := ⟨_, rfl⟩
    rw [← hz] at H1 HZZ ⊢
    clear hz hmk
    have HQ0 : Hid (w.heap.size ≤ z) := Lib.hid (by have := HQ2.out; have := HZZ.out; omega)
    generalize wb.alloc (.cells (rI 19 fun _ => 0) 3) = wa at H1 ⊢
    have HS0 : Hid (S = (decide ((fewS (bitH s) (8 * s.size) (a - 0) 0 (fun _ => 0) ⟨q, 0, o⟩).2.e = 0), (List.range 19).map (fewS (bitH s) (8 * s.size) (a - 0) 0 (fun _ => 0) ⟨q, 0, o⟩).1, (fewS (bitH s) (8 * s.size) (a - 0) 0 (fun _ => 0) ⟨q, 0, o⟩).2)) := HS
    have hrp2 : q ≤ 8 * s.size := hrp
    clear HS hrp
    go_loopw [2, 3, 26] (fun r1 r2 i wr => ∃ (k y : Nat) (F : Nat → Nat), k ≤ a ∧ r1 = .pointer none ∧ r2 = .bool false ∧ i = .int .i64 (k : Int) ∧ Hid (S = (decide ((fewS (bitH s) (8 * s.size) (a - k) k F ⟨y, 0, o⟩).2.e = 0), (List.range 19).map (fewS (bitH s) (8 * s.size) (a - k) k F ⟨y, 0, o⟩).1, (fewS (bitH s) (8 * s.size) (a - k) k F ⟨y, 0, o⟩).2)) ∧ y ≤ 8 * s.size ∧ Hid (∀ j, F j < 256) ∧ Hid (UW g s M y o v k1 k2 wr ∧ Mv g v w v wr ∧ Blk wr zo 98 ordA ∧ Blk wr z 3 (rI 19 fun j => (F j : Int)))) (fun _ _ i _ => a - (intOf i).toNat)
    case atStart => exact ⟨0, q, fun _ => 0, by omega, rfl, rfl, rfl, HS0, hrp2, Lib.hid fun _ => (by omega : (0 : Nat) < 256), H1⟩
    case round =>
      obtain ⟨k, y, F, hk, rfl, rfl, rfl, HK, hy, HF, HR⟩ := hrel
      clear H1 HS0 hrp2
      by_cases hlt : k < a
      · have hlti : (k : Int) < (a : Int) := by omega
        have HKL := Lib.hid hlt
        have hki : (k : Int) < 19 := by omega
        have hkn : k < 19 := by omega
        obtain ⟨d, hd⟩ : ∃ d, d = ordL.getD k 0 := ⟨_, rfl⟩
        have hd19 : d < 19 := by rw [hd]; exact ord_lt k
        have co : wr.cell? ⟨zo, k, none⟩ = some (.int .i64 ((ordL.getD k 0 : Nat) : Int)) := HR.out.2.2.1.at_ hkn
        rw [← hd] at co
        have fo := HR.out.2.2.1.frozen k
        have HDD := Lib.hid hd
        clear hd hkn
        obtain ⟨t, ht⟩ : ∃ t, a - k = t + 1 := ⟨a - k - 1, by omega⟩
        obtain ⟨x, hx⟩ : ∃ x, x = numS (bitH s) (8 * s.size) y 0 3 := ⟨_, rfl⟩
        have D := fewS_dev (bitH s) (8 * s.size) t k y F o x hx
        rw [← ht] at D
        have HTT := Lib.hid ht
        have C := dnum_any g s M y o v k1 k2 0 3 wr HR.out.1 hs hy (by omega) (by omega)
        have hx2 : x.2.2 ≤ 8 * s.size := by rw [hx]; exact numS_le hy
        have hxl : x.1 < 8 := by rw [hx]; exact numS_lt s _ _ _ _
        rw [← hx] at C
        obtain ⟨n, ok, y2⟩ := x
        dsimp only at hx2 hxl D
        have HD := Lib.hid D
        have HXL := Lib.hid hxl
        clear hx D ht hlt
        go_wp2_with fail
        refine C.mono ?_
        rintro e w4 ⟨rfl, h4, m4⟩
        have hzg : z ≠ g := by have := HQ0.out; have := HGL.out; omega
        have hzv : v.ownBlock ≠ some z := fun e => by have := HGW.out z e; have := HQ0.out; omega
        have hzog : zo ≠ g := by have := HQ2.out; have := HGL.out; omega
        have hzov : v.ownBlock ≠ some zo := fun e => by have := HGW.out zo e; have := HQ2.out; omega
        have H4 := Lib.hid (⟨h4, HR.out.2.1.trans m4, (m4.block zo HR.out.2.2.1.lt hzog hzov).trans HR.out.2.2.1, (m4.block z HR.out.2.2.2.lt hzg hzv).trans HR.out.2.2.2⟩ : UW g s M y2 o v k1 k2 w4 ∧ Mv g v w v w4 ∧ Blk w4 zo 98 ordA ∧ Blk w4 z 3 (rI 19 fun j => (F j : Int)))
        clear h4 m4 HR C hzog hzov co fo
        cases ok with
        | false =>
          have HE : Hid (S.1 = false) := Lib.hid (by rw [HK.out]; show decide _ = false; rw [HD.out.1 rfl]; decide)
          clear HD HK
          go_wp2_with fail
          go_ret2
          exact ⟨_, _, rfl, H4.out.2.1, ⟨fun h => (by cases h), fun h => by rw [HE.out] at h; cases h.1⟩, fun h => (by cases h)⟩
        | true =>
          have HN := Lib.hid (HD.out.2 rfl)
          rw [← HDD.out] at HN
          have hb := H4.out.2.2.2
          have cz := hb.at_ hd19
          have fz := hb.frozen d
          have hdi : (d : Int) < 19 := by omega
          have HP := Lib.hid (hb.put hd19 (.int .i64 (n : Int)))
          have hUs : UW g s M y2 o v k1 k2 (w4.setCell ⟨z, d, none⟩ (.int .i64 (n : Int))) := by
            refine ⟨H4.out.1.blk.far (p := ⟨z, d, none⟩) (fun h => hzg h.symm) _, H4.out.1.own.1, ?_⟩
            rcases H4.out.1.own.2 with h1 | ⟨qq, cap, cur, e1, e2, e3, e4⟩
            · exact .inl h1
            · refine .inr ⟨qq, cap, cur, e1, e2, ?_, e4⟩
              exact (Below.heap_setCell w4 ⟨z, d, none⟩ _ qq (fun h => hzv (by rw [e1]; exact congrArg some h))).trans e3
          have H5 := Lib.hid (⟨hUs, H4.out.2.1.far (by have := HQ0.out; show w.heap.size ≤ z; omega) d _, (Below.heap_setCell w4 ⟨z, d, none⟩ _ zo (show zo ≠ z by have := HZZ.out; omega)).trans H4.out.2.2.1, hb.put hd19 (.int .i64 (n : Int))⟩ : UW g s M y2 o v k1 k2 (w4.setCell ⟨z, d, none⟩ (.int .i64 (n : Int))) ∧ Mv g v w v (w4.setCell ⟨z, d, none⟩ (.int .i64 (n : Int))) ∧ Blk (w4.setCell ⟨z, d, none⟩ (.int .i64 (n : Int))) zo 98 ordA ∧ Blk (w4.setCell ⟨z, d, none⟩ (.int .i64 (n : Int))) z 3 (row 19 fun j => if j = d then .int .i64 (n : Int) else .int .i64 (F j : Int)))
          have HK2 : Hid (S = (decide ((fewS (bitH s) (8 * s.size) t (k + 1) (fun j => if j = d then n else F j) ⟨y2, 0, o⟩).2.e = 0), (List.range 19).map (fewS (bitH s) (8 * s.size) t (k + 1) (fun j => if j = d then n else F j) ⟨y2, 0, o⟩).1, (fewS (bitH s) (8 * s.size) t (k + 1) (fun j => if j = d then n else F j) ⟨y2, 0, o⟩).2)) := Lib.hid (by rw [HK.out, HN.out])
          clear HD HK H4 hb hUs hzg hzv HP HN
          go_wp2_with fail
          go_roundw
          case rel => exact ⟨k + 1, y2, fun j => if j = d then n else F j, by have := HKL.out; omega, rfl, rfl, by go_num, Lib.hid (by rw [← show t = a - (k + 1) by have := HTT.out; omega]; exact HK2.out), hx2, Lib.hid (fun j => by dsimp only; split; have := HXL.out; omega; exact HF.out j), Lib.hid ⟨H5.out.1, H5.out.2.1, H5.out.2.2.1, H5.out.2.2.2.cast_ (row_ext fun j _ => by dsimp only; split <;> rfl)⟩⟩
          case measure => simp only [intOf]; omega
      · obtain rfl : k = a := by omega
        have hlti : ¬ (k : Int) < (k : Int) := by omega
        have HE : Hid (S = (true, (List.range 19).map F, ⟨y, 0, o⟩)) := Lib.hid (by rw [HK.out, Nat.sub_self]; rfl)
        have hnF : ∀ i, i < 19 → ((F i : Nat) : Int) = numF ((List.range 19).map F) i := fun i hi => by
          unfold numF
          simp [List.getD, List.getElem?_range hi]
        have hIS : IS (some ⟨z, 0, none⟩) 19 19 (numF ((List.range 19).map F)) wr := by
          refine IS.row (HR.out.2.2.2.cast_ (row_ext fun i hi => by show Value.int .i64 ((F i : Nat) : Int) = _; rw [hnF i hi])) (fun i hi => ?_) (fun i hi => ?_)
          · rw [← hnF i hi]; omega
          · rw [← hnF i hi]; have := HF.out i; omega
        clear HK
        go_wp2_with fail
        by_cases hne : newE (numF ((List.range 19).map F)) 19 = 0
        · refine (new_huff _ 19 19 _ wr hIS (by decide) hne).mono ?_
          rintro e w5 ⟨c, rfl, hc, b5⟩
          have HC := Lib.hid hc
          clear hc hIS hnF
          have H5 := Lib.hid (⟨HR.out.1.below b5, HR.out.2.1.below b5⟩ : UW g s M y o v k1 k2 w5 ∧ Mv g v w v w5)
          go_wp2_with fail
          go_ret2
          rw [HE.out]
          exact ⟨c, true, rfl, H5.out.2, ⟨fun _ => ⟨rfl, hne⟩, fun _ => rfl⟩, fun _ => ⟨H5.out.1, hy, HC.out⟩⟩
        · refine (new_huff_not _ 19 19 _ wr hIS (by decide) hne).mono ?_
          rintro e w5 ⟨rfl, b5⟩
          have hneb : ((newE (numF ((List.range 19).map F)) 19 : Int) == 0) = false := by simp; omega
          have H5 := Lib.hid (HR.out.2.1.below b5)
          clear hIS hnF
          have HNE := Lib.hid hne
          generalize hgn : ((newE (numF ((List.range 19).map F)) 19 : Nat) : Int) = E at hneb ⊢
          clear hgn hne
          go_wp2_with fail
          go_ret2
          rw [HE.out]
          exact ⟨_, false, rfl, H5.out, ⟨fun h => (by cases h), fun h => absurd h.2 HNE.out⟩, fun h => (by cases h)⟩
end Go.Proofs.Ytiphnnaanjjaoaa
/- The reference's again of chapter 10. -/
namespace Go.Proofs.Ytiphnnaanjjaoaa
open Go.RowKit
/-- A list of integers as cells. -/
def ins (l : List Nat) : List Value := l.map fun (b : Nat) => Value.int .i64 (b : Int)
theorem ins_one (l : List Nat) (b : Nat) : ins (l ++ [b]) = ins l ++ [Value.int .i64 (b : Int)] := by simp [ins]
/-- The list under way, apart from the state. -/
structure AL (g : Nat) (l : List Nat) (u : Value) (v : Value) (w : World) : Prop where
  own : w.ownsRow (g + 1) 3 1 u l.length (ins l)
  ne : ∀ k, u.ownBlock = some k → v.ownBlock ≠ some k
theorem AL.drewN {g : Nat} {l : List Nat} {u v : Value} {w : World} (h : AL g l u v w) (n : Nat) : AL g l u v (w.drewN n) := ⟨h.own, h.ne⟩
theorem FW.kept {g : Nat} {s : ByteArray} {M : Nat} {x : Fl} {v : Value} {w w' : World} (h : FW g s M x v w) (e : w'.heap[g]? = w.heap[g]?) (e2 : ∀ k, v.ownBlock = some k → w'.heap[k]? = w.heap[k]?) : FW g s M x v w' := by
  refine ⟨e.trans h.blk, h.own.1, ?_⟩
  rcases h.own.2 with h1 | ⟨q, cap, cur, h1, h2, h3, h4⟩
  · exact .inl h1
  · exact .inr ⟨q, cap, cur, h1, h2, (e2 q (by rw [h1]; rfl)).trans h3, h4⟩
/-- One more. -/
theorem wpList_oneA {ops : Array Oper} {rest : List Oper} {o : Oper} {a : Act} {Q : Exit → Act → World → Prop} {g : Nat} {s : ByteArray} {M : Nat} {x : Fl} {v u : Value} {l : List Nat} {w : World} (hgd : o.guard = none) (sl xx : Operand)
    (ho : o.op = .call { callee := .builtin .append, args := #[sl, xx], argTypes := #[34, 34] }) (hs : a.eval sl = u) (h : FW g s M x v w) (hl : AL g l u v w) (hn : l.length ≤ 2097152)
    (hx : a.eval xx = .slice (some ⟨w.heap.size, 0, none⟩) 1 1) (b : Nat)
    (k : ∀ u' w', FW g s M x v w' → AL g (l ++ [b]) u' v w' → Mv g u w u' w' → wpList Try.prog ops Q rest (a.put o.dst u') w') :
    wpList Try.prog ops Q (o :: rest) a (w.alloc (.cells #[.int .i64 (b : Int)] 3)) := by
  have hb : Below w.heap.size w (w.alloc (.cells #[.int .i64 (b : Int)] 3)) := (Below.refl _ _).alloc (Nat.le_refl _) _
  have h2 := h.below hb
  have hlo := (World.ownsRow.lt hl.own)
  obtain ⟨i0, hi, hz0, hz1, hz2⟩ := info_parts int_infoC
  have hbn := Blk.new w 3 #[.int .i64 (b : Int)]
  refine wpList_append_lies _ hgd sl xx 34 ho (g + 1) 3 i0 (.int .i64 0) 1 8 Try.underlying34 hi hz0 hz1 hz2 rfl (by decide) u l.length _ hs (hl.own.alloc _) ⟨w.heap.size, 0, none⟩ 1 1 [.int .i64 (b : Int)] hx rfl
    (World.news_of_block hbn) (by intro u hu; rw [List.mem_singleton.1 hu]; rfl) (by decide) (by unfold maxLen; omega) (by omega) (by have := h2.lt; omega) _ rfl ?_
  intro q cap w' hown hgr hat hlt
  have hgB := h.lt
  have hsz := hb.size
  have hne : u.ownBlock ≠ some g := fun e => by have := (hlo g e).1; omega
  refine k _ w' ?_ ⟨?_, ?_⟩ ⟨hgr.os.trans hb.os, hgr.tape.trans hb.tape, hgr.output.trans hb.output, Nat.le_trans hb.size hgr.size, fun i hi2 _ hv => (hgr.block i (Nat.lt_of_lt_of_le hi2 hb.size) (fun e => hv e.symm)).trans (hb.block i hi2), fun i e => ?_⟩
  · refine h2.kept (hgr.block g (by omega) (fun e => hne e.symm)) (fun i e => hgr.block i (by have := (h.ownB i e).2; omega) (fun e2 => hl.ne i e2.symm e))
  · rw [ins_one, List.length_append]; exact hown
  · intro i e hv
    have e : q = i := by injection e
    rcases hat with h1 | h1
    · exact hl.ne q h1 (by rw [e]; exact hv)
    · have h3 := (h.ownB i hv).2
      have h4 : q = (w.alloc (.cells #[.int .i64 (b : Int)] 3)).heap.size := h1
      omega
  · have e : q = i := by injection e
    rcases hat with h1 | h1
    · exact .inl (by rw [h1, e])
    · right
      have h4 : q = (w.alloc (.cells #[.int .i64 (b : Int)] 3)).heap.size := h1
      omega
set_option maxRecDepth 100000 in
set_option maxHeartbeats 8000000 in
theorem ragain10_any (g : Nat) (s : ByteArray) (M : Nat) (x : Fl) (v : Value) (u : Value) (l : List Nat) (b n : Nat) (w : World) (h : FW g s M x v w) (hl : AL g l u v w) (hn : n ≤ 1000) (hL : l.length ≤ 1000) :
    Calls Try.prog 34 #[.pointer (some ⟨g, 0, none⟩), u, .int .i64 (b : Int), .int .i64 (n : Int)] w fun e w' => ∃ u', e = .returned u' ∧ FW g s M x v w' ∧ AL g (againS l b n x.e) u' v w' ∧ Mv g u w u' w' := by
  by_cases he : x.e = 0
  · have HE := Lib.hid he
    go_enter Try.func34, Try.ntmps34
    go_wp2_with fail
    go_loopw [1, 9] (fun y i wr => ∃ k : Nat, k ≤ n ∧ i = .int .i64 (k : Int) ∧ FW g s M x v wr ∧ AL g (l ++ List.replicate k b) y v wr ∧ Mv g u w y wr) (fun _ i _ => n - (intOf i).toNat)
    case atStart => exact ⟨0, by omega, rfl, h, by rw [List.replicate_zero, List.append_nil]; exact hl, Mv.refl _ _ _⟩
    case round =>
      obtain ⟨k, hk, rfl, hr, ha, hm⟩ := hrel
      have c2 := hr.c2
      rw [HE.out] at c2
      replace c2 : wr.cell? ⟨g, 2, none⟩ = some (.int .i64 0) := c2
      by_cases hlt : k < n
      · have hlti : (k : Int) < (n : Int) := by omega
        have HLen : Hid ((l ++ List.replicate k b).length ≤ 2097152) := Lib.hid (by rw [List.length_append, List.length_replicate]; omega)
        have HK : Hid (k < n ∧ n ≤ 1000) := Lib.hid ⟨hlt, hn⟩
        have HA := Lib.hid ha
        clear ha
        go_wp2_with (at_builtin; refine wpList_oneA rfl (.tmp 22) (.tmp 24) rfl rfl hr HA.out HLen.out rfl b ?_; intro u2 w2 h2 a2 m2)
        have e : l ++ List.replicate k b ++ [b] = l ++ List.replicate (k + 1) b := by rw [List.append_assoc, List.replicate_succ']
        rw [e] at a2
        exact ⟨⟨k + 1, by have := HK.out.1; omega, rfl, h2, a2, hm.trans m2⟩, by simp only [intOf]; have := HK.out.1; omega⟩
      · obtain rfl : k = n := by omega
        have hlti : ¬ (k : Int) < (k : Int) := by omega
        have HS : Hid (againS l b k x.e = l ++ List.replicate k b) := Lib.hid (if_pos HE.out)
        rw [HE.out] at HS
        go_wp2_with fail
        go_ret
        have HS2 : againS l b k x.e = l ++ List.replicate k b := if_pos HE.out
        first
          | rw [HS2]; exact ⟨_, rfl, hr, ha, hm⟩
          | rw [HS.out]; exact ⟨_, rfl, hr, ha, hm⟩
  · have hS : againS l b n x.e = l := if_neg he
    rw [hS]
    have c2 := h.c2
    obtain ⟨E, hE⟩ : ∃ E : Int, (x.e : Int) = E := ⟨_, rfl⟩
    rw [hE] at c2
    have heb : (E == 0) = false := by simp; omega
    have hor : (0 : Int) < (n : Int) ∨ ¬ (0 : Int) < (n : Int) := by omega
    clear hE he
    go_enter Try.func34, Try.ntmps34
    go_wp2_with fail
    go_loopw [1, 9] (fun y i wr => i = .int .i64 0 ∧ y = u ∧ w = wr) (fun _ i _ => 0)
    case atStart => exact ⟨rfl, rfl, rfl⟩
    case round =>
      obtain ⟨rfl, rfl, rfl⟩ := hrel
      rcases hor with h0 | h0
      all_goals
        go_wp2_with fail
        go_ret
        exact ⟨_, rfl, h, hl, Mv.refl _ _ _⟩
end Go.Proofs.Ytiphnnaanjjaoaa
/- The developers' someLengths and lengths of chapter 10. -/
namespace Go.Proofs.Ytiphnnaanjjaoaa
open Go.RowKit
theorem nextV_lt {l : Nat → Nat} {n : Nat} {B : Nat → Nat} {T at_ : Nat} : ∀ (f d : Nat) {k q : Nat}, nextV l n B T at_ d f = (k, q, 0) → k < n
  | 0, _, _, _, h => by cases h
  | f + 1, d, k, q, h => by
    by_cases hT : T ≤ at_ + d
    · rw [nextV_end _ _ _ _ _ _ _ hT] at h; cases h
    · cases hf : fnd l n (d + 1) (rv B at_ (d + 1)) n with
      | some j => rw [nextV_found hT hf] at h; cases h; exact (fnd_is hf).1
      | none => rw [nextV_not hT hf] at h; exact nextV_lt f (d + 1) h
theorem symR_lt {B : Nat → Nat} {T : Nat} {l : Nat → Nat} {n p : Nat} (h : (symR B T l n p).2.1 = true) : (symR B T l n p).1 < n := by
  obtain ⟨k, q, e0, e⟩ : ∃ k q e, nextV l n B T p 0 15 = (k, q, e) := ⟨_, _, _, rfl⟩
  cases e0 with
  | zero => rw [symR_in e]; exact nextV_lt 15 0 e
  | succ z => rw [symR_out e] at h; cases h
/-- A number that is told: bits by number with a least one. -/
theorem bitsS_least (B : Nat → Nat) (T p least n : Nat) (o : List Nat) : ((numS B T p least n).2.1 = true ∧ ∃ b, bitsS B T n ⟨p, 0, o⟩ = (b, ⟨(numS B T p least n).2.2, 0, o⟩) ∧ (numS B T p least n).1 = least + b) ∨
    ((numS B T p least n).2.1 = false ∧ bitsS B T n ⟨p, 0, o⟩ = (0, ⟨T, 2, o⟩)) := by
  by_cases h : p + n ≤ T
  · exact .inl ⟨by rw [numS_in h], vb B p n, by rw [numS_in h, bitsS_in rfl h], by rw [numS_in h]⟩
  · exact .inr ⟨by rw [numS_out h], bitsS_out rfl h⟩
/-- What someLengths answers: a length, how many times, is it one, the next bit. -/
def someS (B : Nat → Nat) (T : Nat) (l : Nat → Nat) (p : Nat) (L : List Nat) : Nat × Nat × Bool × Nat :=
  let y := symR B T l 19 p
  if y.2.1 = false then (0, 0, false, p) else
  if y.1 = 16 then (if L.length = 0 then (0, 0, false, y.2.2) else (L.getD (L.length - 1) 0, numS B T y.2.2 3 2)) else
  if y.1 = 17 then (0, numS B T y.2.2 3 3) else
  if y.1 = 18 then (0, numS B T y.2.2 11 7) else (y.1, 1, true, y.2.2)
theorem tellS_err {B : Nat → Nat} {T : Nat} {g : Nat → Nat} {all f : Nat} {l : List Nat} {x : Fl} (h : x.e ≠ 0) : tellS B T g all f l x = (l, x) := by
  cases f with
  | zero => rfl
  | succ f => exact if_pos (.inr h)
theorem tellS_end {B : Nat → Nat} {T : Nat} {g : Nat → Nat} {all f : Nat} {l : List Nat} {x : Fl} (h : l.length ≥ all) : tellS B T g all f l x = (l, x) := by
  cases f with
  | zero => rfl
  | succ f => exact if_pos (.inl h)
theorem tellS_dev (B : Nat → Nat) (T : Nat) (g : Nat → Nat) (all f p : Nat) (L : List Nat) (o : List Nat) (hL : L.length < all) (r : Nat × Nat × Bool × Nat) (hr : r = someS B T g p L) :
    (r.2.2.1 = false → (tellS B T g all (f + 1) L ⟨p, 0, o⟩).2.e = 2) ∧ (r.2.2.1 = true → 1 ≤ r.2.1 ∧ tellS B T g all (f + 1) L ⟨p, 0, o⟩ = tellS B T g all f (L ++ List.replicate r.2.1 r.1) ⟨r.2.2.2, 0, o⟩) := by
  have h0 : tellS B T g all (f + 1) L ⟨p, 0, o⟩ = (let s := symS B T g 19 ⟨p, 0, o⟩
    if s.2.e ≠ 0 then (L, s.2) else
    if s.1 < 16 then tellS B T g all f (L ++ [s.1]) s.2 else
    if s.1 = 16 ∧ L.length = 0 then (L, ⟨s.2.p, 2, s.2.o⟩) else
    if s.1 = 16 then tellS B T g all f (againS L (L.getD (L.length - 1) 0) (3 + (bitsS B T 2 s.2).1) (bitsS B T 2 s.2).2.e) (bitsS B T 2 s.2).2 else
    if s.1 = 17 then tellS B T g all f (againS L 0 (3 + (bitsS B T 3 s.2).1) (bitsS B T 3 s.2).2.e) (bitsS B T 3 s.2).2 else
      tellS B T g all f (againS L 0 (11 + (bitsS B T 7 s.2).1) (bitsS B T 7 s.2).2.e) (bitsS B T 7 s.2).2) := if_neg (by rintro (h | h); omega; exact h rfl)
  rw [h0]
  have Y := symS_R B T g 19 p o
  have hlt := @symR_lt B T g 19 p
  unfold someS at hr
  generalize symR B T g 19 p = y at Y hlt hr
  obtain ⟨y1, y2, y3⟩ := y
  rcases Y with ⟨e, ys⟩ | ⟨e, ys⟩
  · have e : y2 = true := e
    subst e
    have hlt : y1 < 19 := hlt rfl
    dsimp only at hr
    rw [if_neg (by decide)] at hr
    simp only [ys]
    rw [if_neg (fun h => h rfl)]
    have key : ∀ (v least n : Nat), r = (v, numS B T y3 least n) → ((r.2.2.1 = false → (tellS B T g all f (againS L v (least + (bitsS B T n ⟨y3, 0, o⟩).1) (bitsS B T n ⟨y3, 0, o⟩).2.e) (bitsS B T n ⟨y3, 0, o⟩).2).2.e = 2) ∧
        (r.2.2.1 = true → least ≤ r.2.1 ∧ tellS B T g all f (againS L v (least + (bitsS B T n ⟨y3, 0, o⟩).1) (bitsS B T n ⟨y3, 0, o⟩).2.e) (bitsS B T n ⟨y3, 0, o⟩).2 = tellS B T g all f (L ++ List.replicate r.2.1 r.1) ⟨r.2.2.2, 0, o⟩)) := fun v least n hr => by
      have Z := bitsS_least B T y3 least n o
      subst hr
      generalize numS B T y3 least n = z at Z
      obtain ⟨z1, z2, z3⟩ := z
      rcases Z with ⟨e, b, zb, zv⟩ | ⟨e, zb⟩
      · have e : z2 = true := e
        subst e
        have zv : z1 = least + b := zv
        refine ⟨fun h => (by cases h), fun _ => ?_⟩
        rw [zb]
        refine ⟨by show least ≤ z1; omega, ?_⟩
        show tellS B T g all f (againS L v (least + b) 0) ⟨z3, 0, o⟩ = tellS B T g all f (L ++ List.replicate z1 v) ⟨z3, 0, o⟩
        rw [zv]; rfl
      · have e : z2 = false := e
        subst e
        refine ⟨fun _ => ?_, fun h => (by cases h)⟩
        rw [zb, tellS_err (show (2 : Nat) ≠ 0 by decide)]
    by_cases h16 : y1 = 16
    · rw [if_pos h16] at hr
      rw [if_neg (by omega)]
      by_cases hl0 : L.length = 0
      · rw [if_pos hl0] at hr
        rw [if_pos ⟨h16, hl0⟩]
        subst hr
        exact ⟨fun _ => rfl, fun h => (by cases h)⟩
      · rw [if_neg hl0] at hr
        rw [if_neg (fun h => hl0 h.2), if_pos h16]
        have := key _ _ _ hr
        exact ⟨this.1, fun h => ⟨by have := (this.2 h).1; omega, (this.2 h).2⟩⟩
    · rw [if_neg h16] at hr
      by_cases h17 : y1 = 17
      · rw [if_pos h17] at hr
        rw [if_neg (by omega), if_neg (fun h => h16 h.1), if_neg h16, if_pos h17]
        have := key _ _ _ hr
        exact ⟨this.1, fun h => ⟨by have := (this.2 h).1; omega, (this.2 h).2⟩⟩
      · rw [if_neg h17] at hr
        by_cases h18 : y1 = 18
        · rw [if_pos h18] at hr
          rw [if_neg (by omega), if_neg (fun h => h16 h.1), if_neg h16, if_neg h17]
          have := key _ _ _ hr
          exact ⟨this.1, fun h => ⟨by have := (this.2 h).1; omega, (this.2 h).2⟩⟩
        · rw [if_neg h18] at hr
          rw [if_pos (by omega)]
          subst hr
          exact ⟨fun h => (by cases h), fun _ => ⟨Nat.le_refl 1, rfl⟩⟩
  · have e : y2 = false := e
    subst e
    dsimp only at hr
    rw [if_pos rfl] at hr
    subst hr
    simp only [ys]
    rw [if_pos (by decide)]
    exact ⟨fun _ => rfl, fun h => (by cases h)⟩
theorem someS_ok {s : ByteArray} {T p : Nat} {l : Nat → Nat} {L : List Nat} (hp : p ≤ T) (hL : ∀ i, L.getD i 0 < 19) : (someS (bitH s) T l p L).2.2.2 ≤ T ∧ (someS (bitH s) T l p L).2.1 < 300 ∧ (someS (bitH s) T l p L).1 < 19 := by
  unfold someS
  have h1 := symR_le (B := bitH s) l 19 p hp
  have h2 := @symR_lt (bitH s) T l 19 p
  generalize symR (bitH s) T l 19 p = y at h1 h2
  obtain ⟨y1, y2, y3⟩ := y
  dsimp only at h1 h2 ⊢
  have hn : ∀ least n, (numS (bitH s) T y3 least n).2.2 ≤ T := fun least n => numS_le h1
  have hm : ∀ least n, (numS (bitH s) T y3 least n).1 < least + 2 ^ n := fun least n => numS_lt s _ _ _ _
  split
  · exact ⟨hp, show (0 : Nat) < 300 by decide, show (0 : Nat) < 19 by decide⟩
  · next hy =>
    have hy : y2 = true := by cases y2; exact absurd rfl hy; rfl
    split
    · split
      · exact ⟨h1, show (0 : Nat) < 300 by decide, show (0 : Nat) < 19 by decide⟩
      · exact ⟨hn _ _, Nat.lt_trans (hm 3 2) (by decide), hL _⟩
    · split
      · exact ⟨hn _ _, Nat.lt_trans (hm 3 3) (by decide), show (0 : Nat) < 19 by decide⟩
      · split
        · exact ⟨hn _ _, Nat.lt_trans (hm 11 7) (by decide), show (0 : Nat) < 19 by decide⟩
        · exact ⟨h1, show (1 : Nat) < 300 by decide, h2 hy⟩
/-- The last one of a list of one's own. -/
theorem AL.last {g : Nat} {l : List Nat} {u v : Value} {w : World} (h : AL g l u v w) {j : Nat} (hj : j < l.length) : ∃ q cap, u = .slice (some ⟨q, 0, none⟩) l.length cap ∧ w.cell? ⟨q, j, none⟩ = some (.int .i64 ((l.getD j 0 : Nat) : Int)) := by
  rcases h.own.2 with ⟨_, h2⟩ | ⟨q, cap, cur, h1, e2, e3, e4, e5, e6, e7⟩
  · omega
  · refine ⟨q, cap, h1, ?_⟩
    rw [cell_of_row w q j cur 3 (0, 0) e3]
    have h8 : (cur.toList.take (l.length * 1))[j]? = (ins l)[j]? := by rw [e7]
    rw [List.getElem?_take_of_lt (by omega)] at h8
    rw [← Array.getElem?_toList, h8]
    unfold ins
    rw [List.getElem?_map, List.getElem?_eq_getElem hj]
    simp [List.getD, List.getElem?_eq_getElem hj]
theorem AL.shape {g : Nat} {l : List Nat} {u v : Value} {w : World} (h : AL g l u v w) : ∃ q cap, u = .slice q l.length cap := by
  rcases h.own.2 with ⟨h1, h2⟩ | ⟨q, cap, cur, h1, _⟩
  · exact ⟨none, 0, by rw [h1, h2]⟩
  · exact ⟨_, cap, h1⟩
set_option maxRecDepth 100000 in
set_option maxHeartbeats 8000000 in
theorem dsome_any (g : Nat) (s : ByteArray) (M p : Nat) (o : List Nat) (v k1 k2 c u : Value) (f : Nat → Int) (L : List Nat) (w : World) (h : UW g s M p o v k1 k2 w) (hc : CodeV c f 19 w) (hl : AL g L u v w) (hLl : L.length ≤ 1000) (hs : s.size ≤ 281474976710656) (hp : p ≤ 8 * s.size) :
    Calls Try.prog 57 #[.pointer (some ⟨g, 0, none⟩), c, u] w fun e w' => e = .returned (.tuple #[.int .i64 ((someS (bitH s) (8 * s.size) (toL f) p L).1 : Int), .int .i64 ((someS (bitH s) (8 * s.size) (toL f) p L).2.1 : Int), .bool (someS (bitH s) (8 * s.size) (toL f) p L).2.2.1]) ∧ UW g s M (someS (bitH s) (8 * s.size) (toL f) p L).2.2.2 o v k1 k2 w' ∧ Mv g v w v w' := by
  have C := dsym_any g s M p o v k1 k2 c f 19 w h hc hs (by omega)
  have hlt := @symR_lt (bitH s) (8 * s.size) (toL f) 19 p
  have hle := symR_le (B := bitH s) (toL f) 19 p hp
  obtain ⟨y, hy⟩ : ∃ y, y = symR (bitH s) (8 * s.size) (toL f) 19 p := ⟨_, rfl⟩
  have HS : Hid (someS (bitH s) (8 * s.size) (toL f) p L = if y.2.1 = false then (0, 0, false, p) else
    if y.1 = 16 then (if L.length = 0 then (0, 0, false, y.2.2) else (L.getD (L.length - 1) 0, numS (bitH s) (8 * s.size) y.2.2 3 2)) else
    if y.1 = 17 then (0, numS (bitH s) (8 * s.size) y.2.2 3 3) else
    if y.1 = 18 then (0, numS (bitH s) (8 * s.size) y.2.2 11 7) else (y.1, 1, true, y.2.2)) := Lib.hid (by rw [hy]; rfl)
  have HP : Hid (someS (bitH s) (8 * s.size) (toL f) p L = (0, 0, false, p) → y.2.2 = p ∨ y.2.1 = true) := Lib.hid fun _ => by
    rw [hy]
    obtain ⟨k, q, e0, e⟩ : ∃ k q e, nextV (toL f) 19 (bitH s) (8 * s.size) p 0 15 = (k, q, e) := ⟨_, _, _, rfl⟩
    cases e0 with
    | zero => right; rw [symR_in e]
    | succ z => left; rw [symR_out e]
  rw [← hy] at C hlt hle
  clear hy
  generalize someS (bitH s) (8 * s.size) (toL f) p L = R at *
  have HL : Hid (∀ w', Mv g v w v w' → L.length ≠ 0 → ∃ q cap, u = .slice (some ⟨q, 0, none⟩) L.length cap ∧ w'.cell? ⟨q, L.length - 1, none⟩ = some (.int .i64 ((L.getD (L.length - 1) 0 : Nat) : Int))) := Lib.hid fun w' m hn => by
    obtain ⟨q, cap, h1, h2⟩ := hl.last (show L.length - 1 < L.length by omega)
    refine ⟨q, cap, h1, ?_⟩
    have hq := World.ownsRow.lt hl.own q (by rw [h1]; rfl)
    rw [World.cell?_of_block (a := ⟨q, L.length - 1, none⟩) (w := w) (m.block q hq.2 (by omega) (fun e => hl.ne q (by rw [h1]; rfl) e))]
    exact h2
  obtain ⟨qs, caps, hu⟩ := hl.shape
  clear h hc hl
  subst hu
  obtain ⟨y1, y2, y3⟩ := y
  dsimp only at hle hlt
  go_enter Try.func57, Try.ntmps57
  go_wp2_with fail
  refine C.mono ?_
  rintro e w1 ⟨rfl, h1, m1⟩
  clear C
  cases y2 with
  | false =>
    have HE : Hid (R = (0, 0, false, p)) := Lib.hid (by rw [HS.out]; rfl)
    have hyp : y3 = p := by
      rcases HP.out HE.out with h | h
      · exact h
      · cases h
    subst hyp
    go_wp2_with fail
    go_ret3
    rw [HE.out]
    exact ⟨rfl, h1, m1⟩
  | true =>
    have hlt : y1 < 19 := hlt rfl
    by_cases h16 : y1 = 16
    · subst h16
      by_cases hl0 : L.length = 0
      · have HE : Hid (R = (0, 0, false, y3)) := Lib.hid (by rw [HS.out, if_neg (by decide), if_pos rfl, if_pos hl0])
        rw [hl0]
        clear HS hl0
        have T : Calls Try.prog 62 #[.int .i64 16] w1 fun e w' => e = .returned (.tuple #[.int .i64 3, .int .i64 2, .bool true]) ∧ w1 = w' := dtimes_any 16 (by decide) w1
        go_wp2_with fail
        refine T.mono ?_
        rintro e wt ⟨rfl, rfl⟩
        clear T
        go_wp2_with fail
        go_ret3
        rw [HE.out]
        exact ⟨rfl, h1, m1⟩
      · have HE : Hid (R = (L.getD (L.length - 1) 0, numS (bitH s) (8 * s.size) y3 3 2)) := Lib.hid (by rw [HS.out, if_neg (by decide), if_pos rfl, if_neg hl0])
        obtain ⟨q, cap, e1, c0⟩ := HL.out w1 m1 hl0
        injection e1 with e1 _ e3
        subst e1 e3
        have C := dnum_any g s M y3 o v k1 k2 3 2 w1 h1 hs hle (by omega) (by omega)
        generalize numS (bitH s) (8 * s.size) y3 3 2 = z at C HE
        obtain ⟨z1, z2, z3⟩ := z
        obtain ⟨n, hn⟩ : ∃ n, L.length = n + 1 := ⟨L.length - 1, by omega⟩
        have hn0 : ¬ ((n + 1 : Nat) : Int) = 0 := by omega
        have hw : IntKind.i64.wrap (((n + 1 : Nat) : Int) - 1) = (n : Int) := by rw [IntWalk.i64_in _ (by omega)]; omega
        have hni : (n : Int) < ((n + 1 : Nat) : Int) := by omega
        have hnw : IntKind.i64.wrap (n : Int) = (n : Int) := IntWalk.i64_in _ (by omega)
        rw [hn, show n + 1 - 1 = n by omega] at c0 HE
        rw [hn]
        clear hl0 HS HL h1 HP hn
        have T : Calls Try.prog 62 #[.int .i64 16] w1 fun e w' => e = .returned (.tuple #[.int .i64 3, .int .i64 2, .bool true]) ∧ w1 = w' := dtimes_any 16 (by decide) w1
        go_wp2_with fail
        refine T.mono ?_
        rintro e wt ⟨rfl, rfl⟩
        clear T
        go_wp2_with fail
        refine C.mono ?_
        rintro e w2 ⟨rfl, h2, m2⟩
        go_wp2_with fail
        go_ret3
        rw [HE.out]
        exact ⟨rfl, h2, m1.trans m2⟩
    · by_cases h17 : y1 = 17
      · subst h17
        have HE : Hid (R = (0, numS (bitH s) (8 * s.size) y3 3 3)) := Lib.hid (by rw [HS.out, if_neg (by decide), if_neg (by decide), if_pos rfl])
        have C := dnum_any g s M y3 o v k1 k2 3 3 w1 h1 hs hle (by omega) (by omega)
        generalize numS (bitH s) (8 * s.size) y3 3 3 = z at C HE
        obtain ⟨z1, z2, z3⟩ := z
        clear HS HL h1 HP
        have T : Calls Try.prog 62 #[.int .i64 17] w1 fun e w' => e = .returned (.tuple #[.int .i64 3, .int .i64 3, .bool true]) ∧ w1 = w' := dtimes_any 17 (by decide) w1
        go_wp2_with fail
        refine T.mono ?_
        rintro e wt ⟨rfl, rfl⟩
        clear T
        go_wp2_with fail
        refine C.mono ?_
        rintro e w2 ⟨rfl, h2, m2⟩
        go_wp2_with fail
        go_ret3
        rw [HE.out]
        exact ⟨rfl, h2, m1.trans m2⟩
      · by_cases h18 : y1 = 18
        · subst h18
          have HE : Hid (R = (0, numS (bitH s) (8 * s.size) y3 11 7)) := Lib.hid (by rw [HS.out, if_neg (by decide), if_neg (by decide), if_neg (by decide), if_pos rfl])
          have C := dnum_any g s M y3 o v k1 k2 11 7 w1 h1 hs hle (by omega) (by omega)
          generalize numS (bitH s) (8 * s.size) y3 11 7 = z at C HE
          obtain ⟨z1, z2, z3⟩ := z
          clear HS HL h1 HP
          have T : Calls Try.prog 62 #[.int .i64 18] w1 fun e w' => e = .returned (.tuple #[.int .i64 11, .int .i64 7, .bool true]) ∧ w1 = w' := dtimes_any 18 (by decide) w1
          go_wp2_with fail
          refine T.mono ?_
          rintro e wt ⟨rfl, rfl⟩
          clear T
          go_wp2_with fail
          refine C.mono ?_
          rintro e w2 ⟨rfl, h2, m2⟩
          go_wp2_with fail
          go_ret3
          rw [HE.out]
          exact ⟨rfl, h2, m1.trans m2⟩
        · have HE : Hid (R = (y1, 1, true, y3)) := Lib.hid (by rw [HS.out, if_neg (by simp), if_neg h16, if_neg h17, if_neg h18])
          have i16 : ¬ (y1 : Int) = 16 := by omega
          have i17 : ¬ (y1 : Int) = 17 := by omega
          have i18 : ¬ (y1 : Int) = 18 := by omega
          have j16 : ((y1 : Int) == 16) = false := by simp; omega
          have j17 : ((y1 : Int) == 17) = false := by simp; omega
          have j18 : ((y1 : Int) == 18) = false := by simp; omega
          clear HS HL HP
          have T := dtimes_any y1 (by omega) w1
          rw [show timesV y1 = (0, 0, false) by unfold timesV; rw [if_neg h16, if_neg h17, if_neg h18]] at T
          dsimp only at T
          go_wp2_with fail
          refine T.mono ?_
          rintro e wt ⟨rfl, rfl⟩
          clear T
          go_wp2_with fail
          go_ret3
          rw [HE.out]
          exact ⟨rfl, h1, m1⟩
end Go.Proofs.Ytiphnnaanjjaoaa
/- The developers' lengths of chapter 10. -/
namespace Go.Proofs.Ytiphnnaanjjaoaa
open Go.RowKit
theorem UW.kept {g : Nat} {s : ByteArray} {M p : Nat} {o : List Nat} {v k1 k2 : Value} {w w' : World} (h : UW g s M p o v k1 k2 w) (e : w'.heap[g]? = w.heap[g]?) (e2 : ∀ k, v.ownBlock = some k → w'.heap[k]? = w.heap[k]?) : UW g s M p o v k1 k2 w' := by
  refine ⟨e.trans h.blk, h.own.1, ?_⟩
  rcases h.own.2 with h1 | ⟨q, cap, cur, h1, h2, h3, h4⟩
  · exact .inl h1
  · exact .inr ⟨q, cap, cur, h1, h2, (e2 q (by rw [h1]; rfl)).trans h3, h4⟩
theorem AL.own_cells {g : Nat} {l : List Nat} {u v : Value} {w : World} (h : AL g l u v w) {k : Nat} (e : u.ownBlock = some k) : ∃ cs, w.heap[k]? = some (.cells cs 3 (0, 0)) := by
  rcases h.own.2 with ⟨h1, _⟩ | ⟨q, cap, cur, h1, _, h3, _⟩
  · subst h1; cases e
  · subst h1
    have e : q = k := by injection e
    subst e; exact ⟨_, h3⟩
/-- A code stays, whatever becomes of a list beside it. -/
theorem CodeV.mvA {c : Value} {f : Nat → Int} {n : Nat} {g : Nat} {s : ByteArray} {M p : Nat} {o l : List Nat} {v k1 k2 u u' : Value} {w w' : World} (h : CodeV c f n w) (hu : UW g s M p o v k1 k2 w) (ha : AL g l u v w) (m : Mv g u w u' w') : CodeV c f n w' := by
  obtain ⟨h1, h2, h3, w1, h4, ⟨D, ⟨es, clock, e1, e2⟩, h5⟩, h6⟩ := h
  have hb := hu.blk
  unfold Blk at hb
  refine ⟨h1, h2, h3, w1, h4, ⟨D, ⟨es, clock, (m.block _ ?_ ?_ ?_).trans e1, e2⟩, h5⟩, (m.block _ h6.lt ?_ ?_).trans h6⟩
  · exact World.ownsMap.lt (H := Unit) ⟨es, clock, e1, e2⟩
  · rintro rfl
    rw [e1] at hb; cases hb
  · intro e
    obtain ⟨cs, h7⟩ := ha.own_cells e
    rw [e1] at h7; cases h7
  · rintro rfl
    unfold Blk at h6
    rw [h6] at hb
    injection hb with hb
    injection hb with _ hb
    exact absurd hb (by decide)
  · intro e
    obtain ⟨cs, h7⟩ := ha.own_cells e
    unfold Blk at h6
    rw [h6] at h7
    injection h7 with h7
    injection h7 with _ h7
    exact absurd h7 (by decide)
/-- A list beside the state that is new since w. -/
theorem Mv.side {g : Nat} {v v' u u' : Value} {w w1 w2 : World} (h : Mv g v w v' w1) (m : Mv g u w1 u' w2) (hu : ∀ k, u.ownBlock = some k → w.heap.size ≤ k) : Mv g v w v' w2 :=
  ⟨m.os.trans h.os, m.tape.trans h.tape, m.output.trans h.output, Nat.le_trans h.size m.size, fun i hi hg hv => (m.block i (Nat.lt_of_lt_of_le hi h.size) hg (fun e => by have := hu i e; omega)).trans (h.block i hi hg hv), h.own⟩
theorem Mv.side_own {g : Nat} {v v' u u' : Value} {w w1 w2 : World} (h : Mv g v w v' w1) (m : Mv g u w1 u' w2) (hu : ∀ k, u.ownBlock = some k → w.heap.size ≤ k) : ∀ k, u'.ownBlock = some k → w.heap.size ≤ k := fun k e => by
  rcases m.own k e with h1 | h1
  · exact hu k h1
  · exact Nat.le_trans h.size h1
theorem AL.mv {g : Nat} {l : List Nat} {u v : Value} {w w' : World} (h : AL g l u v w) (m : Mv g v w v w') : AL g l u v w' := by
  refine ⟨⟨h.own.1, ?_⟩, h.ne⟩
  rcases h.own.2 with h1 | ⟨q, cap, cur, h1, h2, h3, h4⟩
  · exact .inl h1
  · have hq := World.ownsRow.lt h.own q (by rw [h1]; rfl)
    exact .inr ⟨q, cap, cur, h1, h2, (m.block q hq.2 (by omega) (fun e => h.ne q (by rw [h1]; rfl) e)).trans h3, h4⟩
/-- One more. -/
theorem wpList_oneU {ops : Array Oper} {rest : List Oper} {z : Oper} {a : Act} {Q : Exit → Act → World → Prop} {g : Nat} {s : ByteArray} {M p : Nat} {o : List Nat} {v k1 k2 u : Value} {l : List Nat} {w : World} (hgd : z.guard = none) (sl xx : Operand)
    (ho : z.op = .call { callee := .builtin .append, args := #[sl, xx], argTypes := #[34, 34] }) (hs : a.eval sl = u) (h : UW g s M p o v k1 k2 w) (hl : AL g l u v w) (hn : l.length ≤ 2097152)
    (hx : a.eval xx = .slice (some ⟨w.heap.size, 0, none⟩) 1 1) (b : Nat)
    (k : ∀ q cap w', UW g s M p o v k1 k2 w' → AL g (l ++ [b]) (.slice (some ⟨q, 0, none⟩) (l.length + 1) cap) v w' → Mv g u w (.slice (some ⟨q, 0, none⟩) (l.length + 1) cap) w' → wpList Try.prog ops Q rest (a.put z.dst (.slice (some ⟨q, 0, none⟩) (l.length + 1) cap)) w') :
    wpList Try.prog ops Q (z :: rest) a (w.alloc (.cells #[.int .i64 (b : Int)] 3)) := by
  have hb : Below w.heap.size w (w.alloc (.cells #[.int .i64 (b : Int)] 3)) := (Below.refl _ _).alloc (Nat.le_refl _) _
  have h2 := h.below hb
  have hlo := (World.ownsRow.lt hl.own)
  obtain ⟨i0, hi, hz0, hz1, hz2⟩ := info_parts int_infoC
  have hbn := Blk.new w 3 #[.int .i64 (b : Int)]
  refine wpList_append_lies _ hgd sl xx 34 ho (g + 1) 3 i0 (.int .i64 0) 1 8 Try.underlying34 hi hz0 hz1 hz2 rfl (by decide) u l.length _ hs (hl.own.alloc _) ⟨w.heap.size, 0, none⟩ 1 1 [.int .i64 (b : Int)] hx rfl
    (World.news_of_block hbn) (by intro u hu; rw [List.mem_singleton.1 hu]; rfl) (by decide) (by unfold maxLen; omega) (by omega) (by have := h2.lt; omega) _ rfl ?_
  intro q cap w' hown hgr hat hlt
  have hgB := h.lt
  have hsz := hb.size
  have hne : u.ownBlock ≠ some g := fun e => by have := (hlo g e).1; omega
  refine k q cap w' ?_ ⟨?_, ?_⟩ ⟨hgr.os.trans hb.os, hgr.tape.trans hb.tape, hgr.output.trans hb.output, Nat.le_trans hb.size hgr.size, fun i hi2 _ hv => (hgr.block i (Nat.lt_of_lt_of_le hi2 hb.size) (fun e => hv e.symm)).trans (hb.block i hi2), fun i e => ?_⟩
  · refine h2.kept (hgr.block g (by omega) (fun e => hne e.symm)) (fun i e => hgr.block i (by have := (h.ownB i e).2; omega) (fun e2 => hl.ne i e2.symm e))
  · rw [ins_one, List.length_append]; exact hown
  · intro i e hv
    have e : q = i := by injection e
    rcases hat with h1 | h1
    · exact hl.ne q h1 (by rw [e]; exact hv)
    · have h3 := (h.ownB i hv).2
      have h4 : q = (w.alloc (.cells #[.int .i64 (b : Int)] 3)).heap.size := h1
      omega
  · have e : q = i := by injection e
    rcases hat with h1 | h1
    · exact .inl (by rw [h1, e])
    · right
      have h4 : q = (w.alloc (.cells #[.int .i64 (b : Int)] 3)).heap.size := h1
      omega
theorem own0 {q : Nat} {n cap k : Nat} (e : (Value.slice (some ⟨q, 0, none⟩) n cap).ownBlock = some k) : q ≤ k := by
  have e : q = k := by injection e
  omega
/-- make([]int, 0, n). -/
theorem run_room (n : Nat) (hn : n ≤ 1000000) (w : World) :
    (Instr.makeSlice 34 (.int .i64 0) (.int .i64 (n : Int))).run Try.prog w = .ok (.slice (some ⟨w.heap.size, 0, none⟩) 0 n) (w.alloc (.cells (rI n fun _ => 0) 3)) := by
  obtain ⟨i0, hi, hz0, hz1, hz2⟩ := info_parts int_infoC
  have h := run_make (P := Try.prog) w 34 3 i0 (.int .i64 0) Try.underlying34 hi hz0 .i64 .i64 (0 : Int) n (by omega) (by omega) (by rw [hz2]; omega) (by omega)
  rw [hz1, Int.toNat_natCast, Nat.mul_one, show Value.cells (.int .i64 0) = #[Value.int .i64 0] from rfl, made_ints] at h
  exact h
theorem getD_rep (L : List Nat) (k x : Nat) (hL : ∀ i, L.getD i 0 < 19) (hx : x < 19) : ∀ i, (L ++ List.replicate k x).getD i 0 < 19 := fun i => by
  by_cases h : i < L.length
  · have := hL i
    simp only [List.getD, List.getElem?_append_left h] at this ⊢
    exact this
  · simp only [List.getD, List.getElem?_append_right (Nat.le_of_not_lt h), List.getElem?_replicate]
    split
    · exact hx
    · show (0 : Nat) < 19; decide
/-- Have just so many lengths been told? -/
def okL (S : List Nat × Fl) (all : Nat) : Bool := decide (S.2.e = 0 ∧ S.1.length ≤ all)
set_option maxRecDepth 100000 in
set_option maxHeartbeats 8000000 in
theorem dlens_any (g : Nat) (s : ByteArray) (M p : Nat) (o : List Nat) (v k1 k2 c : Value) (f : Nat → Int) (all : Nat) (w : World) (h : UW g s M p o v k1 k2 w) (hc : CodeV c f 19 w) (hs : s.size ≤ 281474976710656) (hp : p ≤ 8 * s.size) (ha : all ≤ 400) :
    Calls Try.prog 47 #[.pointer (some ⟨g, 0, none⟩), c, .int .i64 (all : Int)] w fun e w' => ∃ q n cap, e = .returned (.tuple #[.slice q n cap, .bool (okL (tellS (bitH s) (8 * s.size) (toL f) all (all + 1) [] ⟨p, 0, o⟩) all)]) ∧ Mv g v w v w' ∧
      (okL (tellS (bitH s) (8 * s.size) (toL f) all (all + 1) [] ⟨p, 0, o⟩) all = true → n = all ∧ (tellS (bitH s) (8 * s.size) (toL f) all (all + 1) [] ⟨p, 0, o⟩).1.length = all ∧ UW g s M (tellS (bitH s) (8 * s.size) (toL f) all (all + 1) [] ⟨p, 0, o⟩).2.p o v k1 k2 w' ∧ (tellS (bitH s) (8 * s.size) (toL f) all (all + 1) [] ⟨p, 0, o⟩).2.p ≤ 8 * s.size ∧ (tellS (bitH s) (8 * s.size) (toL f) all (all + 1) [] ⟨p, 0, o⟩).2.o = o ∧
        AL g (tellS (bitH s) (8 * s.size) (toL f) all (all + 1) [] ⟨p, 0, o⟩).1 (.slice q n cap) v w' ∧ (∀ i, (tellS (bitH s) (8 * s.size) (toL f) all (all + 1) [] ⟨p, 0, o⟩).1.getD i 0 < 19)) := by
  obtain ⟨S, hS⟩ : ∃ S, S = tellS (bitH s) (8 * s.size) (toL f) all (all + 1) [] ⟨p, 0, o⟩ := ⟨_, rfl⟩
  rw [← hS]
  have hmk : ∀ w, (Instr.makeSlice 34 (.int .i64 0) (.int .i64 (all : Int))).run Try.prog w = .ok (.slice (some ⟨w.heap.size, 0, none⟩) 0 all) (w.alloc (.cells (rI all fun _ => 0) 3)) := run_room all (by omega)
  have b1 := (Below.refl _ w).alloc (Nat.le_refl _) (.cells (rI all fun _ => 0) 3)
  have hgl := h.lt
  have A0 : AL g [] (.slice (some ⟨w.heap.size, 0, none⟩) 0 all) v (w.alloc (.cells (rI all fun _ => 0) 3)) := by
    refine ⟨⟨rfl, .inr ⟨w.heap.size, all, rI all fun _ => 0, rfl, by omega, Blk.new w _ _, Nat.zero_le _, by unfold maxLen; omega, by rw [row_size, Nat.mul_one], by simp [ins]⟩⟩, fun k e ev => ?_⟩
    have e : w.heap.size = k := by injection e
    have := (h.ownB k ev).2
    omega
  have H0 := Lib.hid (⟨h.below b1, (Mv.refl g v w).below b1, hc.below b1, A0, fun k e => own0 e⟩ : UW g s M p o v k1 k2 (w.alloc (.cells (rI all fun _ => 0) 3)) ∧ Mv g v w v (w.alloc (.cells (rI all fun _ => 0) 3)) ∧ CodeV c f 19 (w.alloc (.cells (rI all fun _ => 0) 3)) ∧ AL g [] (.slice (some ⟨w.heap.size, 0, none⟩) 0 all) v (w.alloc (.cells (rI all fun _ => 0) 3)) ∧ (∀ k, (Value.slice (some ⟨w.heap.size, 0, none⟩) 0 all).ownBlock = some k → w.heap.size ≤ k))
  have HSZ := Lib.hid hs
  have HALL := Lib.hid ha
  have HS := Lib.hid hS
  clear h hc hS hs ha hgl A0 b1
  go_enter Try.func47, Try.ntmps47
  go_wp2_with fail
  generalize w.alloc (.cells (rI all fun _ => 0) 3) = wa at H0 ⊢
  obtain ⟨z0, hz0⟩ : ∃ z0, z0 = w.heap.size := ⟨_, rfl⟩
  rw [← hz0] at H0 ⊢
  have HZ0 := Lib.hid hz0
  clear hmk hz0
  go_loopg [6, 7, 8] (all + 1) (fun gk r6 r7 sl wr => ∃ (t q : Nat) (L : List Nat) (pq : Option Addr) (cq : Nat), gk = t ∧ r6 = .slice none 0 0 ∧ r7 = .bool false ∧ sl = .slice pq L.length cq ∧ Hid (S = tellS (bitH s) (8 * s.size) (toL f) all t L ⟨q, 0, o⟩) ∧ q ≤ 8 * s.size ∧ L.length ≤ all ∧ all - L.length < t ∧ Hid (∀ i, L.getD i 0 < 19) ∧ Hid (UW g s M q o v k1 k2 wr ∧ Mv g v w v wr ∧ CodeV c f 19 wr ∧ AL g L (.slice pq L.length cq) v wr ∧ (∀ k, (Value.slice pq L.length cq).ownBlock = some k → z0 ≤ k)))
  case atStart => exact ⟨_, p, [], _, _, rfl, rfl, rfl, rfl, HS, hp, by simp, by simp, Lib.hid (fun i => by simp), H0⟩
  case round =>
    obtain ⟨t, q, L, pq, cq, hgk, rfl, rfl, rfl, HK, hq, hLa, hqt, HLs, HR⟩ := hrel
    clear H0 HS hp
    by_cases hlt : L.length < all
    · cases t with
      | zero => omega
      | succ t =>
        have hlti : (L.length : Int) < (all : Int) := by omega
        obtain ⟨r, hr⟩ : ∃ r, r = someS (bitH s) (8 * s.size) (toL f) q L := ⟨_, rfl⟩
        have D := tellS_dev (bitH s) (8 * s.size) (toL f) all t q L o hlt r hr
        rw [← HK.out] at D
        have hok := someS_ok (s := s) (l := toL f) hq HLs.out
        have C := dsome_any g s M q o v k1 k2 c _ f L wr HR.out.1 HR.out.2.2.1 HR.out.2.2.2.1 (by have := HALL.out; omega) HSZ.out hq
        rw [← hr] at C hok
        have HD := Lib.hid D
        have HOK := Lib.hid hok
        have HGK : Hid (gk = t + 1 ∧ all - L.length < t + 1 ∧ L.length < all) := Lib.hid ⟨hgk, hqt, hlt⟩
        clear D hr hok hgk hqt hLa hlt HK hq
        go_wp2_with fail
        refine C.mono ?_
        rintro e w2 ⟨rfl, h2, m2⟩
        have H2 := Lib.hid (⟨h2, HR.out.2.1.trans m2, HR.out.2.2.1.mv HR.out.1 m2, HR.out.2.2.2.1.mv m2, HR.out.2.2.2.2⟩ : UW g s M r.2.2.2 o v k1 k2 w2 ∧ Mv g v w v w2 ∧ CodeV c f 19 w2 ∧ AL g L (.slice pq L.length cq) v w2 ∧ (∀ k, (Value.slice pq L.length cq).ownBlock = some k → z0 ≤ k))
        clear C h2 m2 HR
        obtain ⟨x, n, ok, q2⟩ := r
        cases ok with
        | false =>
          have HE : Hid (okL S all = false) := Lib.hid (decide_eq_false fun h => by rw [HD.out.1 rfl] at h; cases h.1)
          clear HD HOK
          go_wp2_with fail
          go_ret2
          rw [HE.out]
          exact ⟨_, _, _, rfl, H2.out.2.1, fun h => (by cases h)⟩
        | true =>
          obtain ⟨hn1, hN⟩ := HD.out.2 rfl
          have HO2 := HOK.out
          dsimp only at hn1 HO2 hN
          have HN := Lib.hid hN
          obtain ⟨Z, hZ⟩ : ∃ Z : Int, (all : Int) - (L.length : Int) = Z := ⟨_, rfl⟩
          have hzw : IntKind.i64.wrap Z = Z := IntWalk.i64_in _ (by have := HALL.out; omega)
          clear hN HD
          by_cases hbig : n > all - L.length
          · have hbi : (n : Int) > Z := by have := HGK.out.2.2; omega
            have HE : Hid (okL S all = false) := Lib.hid (decide_eq_false fun h => by
              have h := h.2
              revert h
              rw [HN.out, tellS_end (by rw [List.length_append, List.length_replicate]; have := HGK.out.2.2; omega)]
              show ¬ (L ++ List.replicate n x).length ≤ all
              rw [List.length_append, List.length_replicate]; have := HGK.out.2.2; omega)
            clear hbig HN HOK HO2
            go_wp2_with fail
            go_ret2
            rw [HE.out]
            exact ⟨_, _, _, rfl, H2.out.2.1, fun h => (by cases h)⟩
          · have hbi : ¬ (n : Int) > Z := by have := HGK.out.2.2; omega
            have HX : Hid (x < 19) := Lib.hid HO2.2.2
            have HNL : Hid (L.length + n ≤ all ∧ 1 ≤ n ∧ q2 ≤ 8 * s.size) := Lib.hid ⟨by have := HGK.out.2.2; omega, hn1, HO2.1⟩
            clear hbig HOK HO2 hn1
            go_wp2_with fail
            go_loopw [8, 37] (fun sl i wr => ∃ (k : Nat) (pk : Option Addr) (ck : Nat), k ≤ n ∧ sl = .slice pk (L.length + k) ck ∧ i = .int .i64 (k : Int) ∧ Hid (UW g s M q2 o v k1 k2 wr ∧ Mv g v w v wr ∧ CodeV c f 19 wr ∧ AL g (L ++ List.replicate k x) (.slice pk (L.length + k) ck) v wr ∧ (∀ k', (Value.slice pk (L.length + k) ck).ownBlock = some k' → z0 ≤ k'))) (fun _ i _ => n - (intOf i).toNat)
            case atStart => exact ⟨0, pq, cq, by omega, rfl, rfl, Lib.hid (by rw [List.replicate_zero, List.append_nil]; exact H2.out)⟩
            case round =>
              obtain ⟨k, pk, ck, hk, rfl, rfl, HW⟩ := hrel
              clear H2
              by_cases hkn : k < n
              · have hki : (k : Int) < (n : Int) := by omega
                have HKL := Lib.hid hkn
                have hkb : k < 1000 := by have := HNL.out; have := HALL.out; omega
                have HLL : Hid ((L ++ List.replicate k x).length ≤ 2097152) := Lib.hid (by rw [List.length_append, List.length_replicate]; have := HNL.out; have := HALL.out; omega)
                clear hkn
                go_wp2_with (at_builtin; refine wpList_oneU rfl (.tmp 39) (.tmp 41) rfl rfl HW.out.1 HW.out.2.2.2.1 HLL.out rfl x ?_; intro q3 cap3 w3 h3 a3 m3)
                have el : (L ++ List.replicate k x).length + 1 = L.length + (k + 1) := by rw [List.length_append, List.length_replicate]; omega
                have e : L ++ List.replicate k x ++ [x] = L ++ List.replicate (k + 1) x := by rw [List.append_assoc, List.replicate_succ']
                rw [e, el] at a3
                rw [el] at m3
                go_roundw
                case rel => exact ⟨k + 1, _, _, by have := HKL.out; omega, rfl, by go_num, Lib.hid ⟨h3, HW.out.2.1.side m3 (by rw [← HZ0.out]; exact HW.out.2.2.2.2), HW.out.2.2.1.mvA HW.out.1 HW.out.2.2.2.1 m3, a3, by rw [HZ0.out]; exact HW.out.2.1.side_own m3 (by rw [← HZ0.out]; exact HW.out.2.2.2.2)⟩⟩
                case measure => simp only [intOf]; omega
              · obtain rfl : k = n := by omega
                have hki : ¬ (k : Int) < (k : Int) := by omega
                have el : (L ++ List.replicate k x).length = L.length + k := by rw [List.length_append, List.length_replicate]
                have HW2 : Hid (UW g s M q2 o v k1 k2 wr ∧ Mv g v w v wr ∧ CodeV c f 19 wr ∧ AL g (L ++ List.replicate k x) (.slice pk (L ++ List.replicate k x).length ck) v wr ∧ (∀ k', (Value.slice pk (L ++ List.replicate k x).length ck).ownBlock = some k' → z0 ≤ k')) := Lib.hid (by rw [el]; exact HW.out)
                have HEL := Lib.hid el
                clear HW el
                go_wp2_with fail
                go_roundg t
                case measure => have := HGK.out; omega
                case rel => exact ⟨t, q2, L ++ List.replicate k x, pk, ck, rfl, rfl, rfl, by rw [HEL.out], HN, HNL.out.2.2, by rw [HEL.out]; exact HNL.out.1, by rw [HEL.out]; have := HNL.out; have := HGK.out; omega, Lib.hid (getD_rep L k x HLs.out HX.out), HW2⟩
    · have hlti : ¬ (L.length : Int) < (all : Int) := by omega
      have el : L.length = all := by omega
      have HE : Hid (S = (L, ⟨q, 0, o⟩)) := Lib.hid (by rw [HK.out]; exact tellS_end (by omega))
      have HF : Hid (L.length = all ∧ q ≤ 8 * s.size) := Lib.hid ⟨el, hq⟩
      have HOK : Hid (okL (L, ⟨q, 0, o⟩) all = true) := Lib.hid (decide_eq_true ⟨rfl, Nat.le_of_eq el⟩)
      clear HK el hq hlt hLa hqt
      go_wp2_with fail
      go_ret2
      rw [HE.out, HOK.out]
      exact ⟨_, _, _, rfl, HR.out.2.1, fun _ => ⟨HF.out.1, HF.out.1, HR.out.1, HF.out.2, rfl, HR.out.2.2.2.1, HLs.out⟩⟩
end Go.Proofs.Ytiphnnaanjjaoaa
/- What a block tells, in the developers' steps; the developers' toldCodes of chapter 10. -/
namespace Go.Proofs.Ytiphnnaanjjaoaa
open Go.RowKit
/-- No error, or the form's. -/
def E2 (o : List Nat) (x : Fl) : Prop := (x.e = 0 ∨ x.e = 2) ∧ x.o = o
theorem bitsS_E2 {B : Nat → Nat} {T n : Nat} {o : List Nat} {x : Fl} (h : E2 o x) : E2 o (bitsS B T n x).2 := by
  unfold bitsS
  split
  · exact h
  · split
    · exact ⟨.inl rfl, h.2⟩
    · exact ⟨.inr rfl, h.2⟩
theorem symS_E2 {B : Nat → Nat} {T n : Nat} {l : Nat → Nat} {o : List Nat} {x : Fl} (h : E2 o x) : E2 o (symS B T l n x).2 := by
  unfold symS
  split
  · exact h
  · split
    · exact ⟨.inl rfl, h.2⟩
    · exact ⟨.inr rfl, h.2⟩
theorem fewS_E2 {B : Nat → Nat} {T : Nat} {o : List Nat} : ∀ (n i : Nat) (f : Nat → Nat) {x : Fl}, E2 o x → E2 o (fewS B T n i f x).2
  | 0, _, _, _, h => h
  | n + 1, i, _, _, h => fewS_E2 n (i + 1) _ (bitsS_E2 h)
theorem fewS_zero {B : Nat → Nat} {T : Nat} : ∀ (n i : Nat) (f : Nat → Nat) (x : Fl), (∀ j, 19 ≤ j → f j = 0) → ∀ j, 19 ≤ j → (fewS B T n i f x).1 j = 0
  | 0, _, _, _, h => h
  | n + 1, i, f, x, h => fewS_zero n (i + 1) _ _ fun j hj => by
    have := ord_lt i
    show (if j = ordL.getD i 0 then _ else f j) = 0
    rw [if_neg (by omega)]
    exact h j hj
theorem tellS_E2 {B : Nat → Nat} {T : Nat} {g : Nat → Nat} {all : Nat} {o : List Nat} : ∀ (f : Nat) (L : List Nat) {x : Fl}, E2 o x → E2 o (tellS B T g all f L x).2
  | 0, _, _, h => h
  | f + 1, L, x, h => by
    have h1 : E2 o (symS B T g 19 x).2 := symS_E2 h
    unfold tellS
    split
    · exact h
    · dsimp only
      split
      · exact h1
      · split
        · exact tellS_E2 f _ h1
        · split
          · exact ⟨.inr rfl, h1.2⟩
          · split
            · exact tellS_E2 f _ (bitsS_E2 h1)
            · split
              · exact tellS_E2 f _ (bitsS_E2 h1)
              · exact tellS_E2 f _ (bitsS_E2 h1)
/-- The rest of toldS, its three numbers told. -/
def tailT (B : Nat → Nat) (T many far few : Nat) (x : Fl) : (List Nat × List Nat) × Fl :=
  let g := fewS B T few 0 (fun _ => 0) (if x.e = 0 ∧ (many > 286 ∨ far > 30) then ⟨x.p, 2, x.o⟩ else x)
  let t := tellS B T g.1 (many + far) (many + far + 1) [] (codeS ((List.range 19).map g.1) g.2)
  let y := if t.2.e = 0 ∧ (t.1.length > many + far ∨ t.1.getD 256 0 = 0) then ⟨t.2.p, 2, t.2.o⟩ else t.2
  if y.e ≠ 0 then (([], []), y) else ((t.1.take many, t.1.drop many), y)
theorem toldS_tail (B : Nat → Nat) (T : Nat) (x : Fl) : toldS B T x = tailT B T (257 + (bitsS B T 5 x).1) (1 + (bitsS B T 5 (bitsS B T 5 x).2).1) (4 + (bitsS B T 4 (bitsS B T 5 (bitsS B T 5 x).2).2).1) (bitsS B T 4 (bitsS B T 5 (bitsS B T 5 x).2).2).2 := rfl
theorem codeS_err {l : List Nat} {x : Fl} (h : x.e ≠ 0) : codeS l x = x := if_pos h
theorem tailT_err {B : Nat → Nat} {T many far few : Nat} {x : Fl} (h : x.e = 2) : (tailT B T many far few x).2.e = 2 := by
  have h0 : x.e ≠ 0 := by rw [h]; decide
  unfold tailT
  rw [if_neg (show ¬ (x.e = 0 ∧ (many > 286 ∨ far > 30)) from fun hh => h0 hh.1)]
  dsimp only
  rw [fewS_err _ _ _ _ h0, codeS_err h0, tellS_err h0]
  have e1 : ¬ (x.e = 0 ∧ (([] : List Nat).length > many + far ∨ ([] : List Nat).getD 256 0 = 0)) := fun hh => h0 hh.1
  simp only [if_neg e1, if_pos h0]
  exact h
theorem tailT_big {B : Nat → Nat} {T many far few p : Nat} {o : List Nat} (h : many > 286 ∨ far > 30) : (tailT B T many far few ⟨p, 0, o⟩).2.e = 2 := by
  have e : tailT B T many far few ⟨p, 0, o⟩ = tailT B T many far few ⟨p, 2, o⟩ := by
    unfold tailT
    rw [if_pos (show (⟨p, 0, o⟩ : Fl).e = 0 ∧ (many > 286 ∨ far > 30) from ⟨rfl, h⟩), if_neg (show ¬ ((⟨p, 2, o⟩ : Fl).e = 0 ∧ (many > 286 ∨ far > 30)) from fun hh => absurd (show 2 = 0 from hh.1) (by decide))]
  rw [e]
  exact tailT_err rfl
theorem toL_num (l : List Nat) : toL (numF l) = fun i => l.getD i 0 := by funext i; unfold toL numF; omega
theorem toL_few (G : Nat → Nat) (h : ∀ j, 19 ≤ j → G j = 0) : toL (numF ((List.range 19).map G)) = G := by
  rw [toL_num]
  funext i
  by_cases hi : i < 19
  · simp [List.getD, List.getElem?_range hi]
  · rw [h i (by omega)]
    simp [List.getD, List.getElem?_eq_none (show (List.range 19).length ≤ i by simp; omega)]
/-- What is told of lengths. -/
def lenS (B : Nat → Nat) (T many far : Nat) (F : Bool × List Nat × Fl) : List Nat × Fl := tellS B T (toL (numF F.2.1)) (many + far) (many + far + 1) [] ⟨F.2.2.p, 0, F.2.2.o⟩
theorem tailT_dev (B : Nat → Nat) (T many far p : Nat) (o : List Nat) (hm : ¬ (many > 286 ∨ far > 30)) (F : Bool × List Nat × Fl) (hF : F = cflS B T p o) (x : Nat × Bool × Nat) (hx : x = numS B T p 0 4) (few : Nat) (hf : x.2.1 = true → few = 4 + x.1) (y : Fl) (hy : y = if x.2.1 = true then ⟨x.2.2, 0, o⟩ else ⟨T, 2, o⟩) :
    (¬ (F.1 = true ∧ newE (numF F.2.1) 19 = 0 ∧ okL (lenS B T many far F) (many + far) = true ∧ (lenS B T many far F).1.getD 256 0 ≠ 0) → (tailT B T many far few y).2.e = 2) ∧
    (F.1 = true → newE (numF F.2.1) 19 = 0 → okL (lenS B T many far F) (many + far) = true → (lenS B T many far F).1.getD 256 0 ≠ 0 → tailT B T many far few y = (((lenS B T many far F).1.take many, (lenS B T many far F).1.drop many), ⟨(lenS B T many far F).2.p, 0, o⟩)) := by
  have hr4 : numS B T p 4 4 = if x.2.1 = true then (4 + x.1, true, x.2.2) else (0, false, p) := by
    rw [hx]
    by_cases h : p + 4 ≤ T
    · rw [numS_in h, numS_in h, Nat.zero_add]; rfl
    · rw [numS_out h, numS_out h]; rfl
  clear hx
  obtain ⟨x1, x2, x3⟩ := x
  cases x2 with
  | false =>
    have hy : y = ⟨T, 2, o⟩ := hy
    have hr4 : numS B T p 4 4 = (0, false, p) := hr4
    subst hy
    refine ⟨fun _ => tailT_err rfl, fun h => ?_⟩
    rw [hF] at h
    unfold cflS at h
    rw [hr4] at h
    cases h
  | true =>
    have hy : y = ⟨x3, 0, o⟩ := hy
    have hr4 : numS B T p 4 4 = (4 + x1, true, x3) := hr4
    have hf : few = 4 + x1 := hf rfl
    subst hy hf
    obtain ⟨G, hG⟩ : ∃ G, G = fewS B T (4 + x1) 0 (fun _ => 0) ⟨x3, 0, o⟩ := ⟨_, rfl⟩
    have hFG : F = (decide (G.2.e = 0), (List.range 19).map G.1, G.2) := by rw [hF]; unfold cflS; rw [hr4]; dsimp only; rw [← hG]; rfl
    have hGE : E2 o G.2 := by rw [hG]; exact fewS_E2 _ _ _ ⟨.inl rfl, rfl⟩
    have hG0 : ∀ j, 19 ≤ j → G.1 j = 0 := by rw [hG]; exact fewS_zero _ _ _ _ fun _ _ => rfl
    have hT : tailT B T many far (4 + x1) ⟨x3, 0, o⟩ = (let t := tellS B T G.1 (many + far) (many + far + 1) [] (codeS ((List.range 19).map G.1) G.2)
        let y := if t.2.e = 0 ∧ (t.1.length > many + far ∨ t.1.getD 256 0 = 0) then ⟨t.2.p, 2, t.2.o⟩ else t.2
        if y.e ≠ 0 then (([], []), y) else ((t.1.take many, t.1.drop many), y)) := by
      unfold tailT
      rw [if_neg (show ¬ ((⟨x3, 0, o⟩ : Fl).e = 0 ∧ (many > 286 ∨ far > 30)) from fun h => hm h.2), ← hG]
    rw [hT]
    clear hT hF hG hr4
    subst hFG
    have bad : ∀ z : Fl, z.e = 2 → (let t := tellS B T G.1 (many + far) (many + far + 1) [] z
        let y := if t.2.e = 0 ∧ (t.1.length > many + far ∨ t.1.getD 256 0 = 0) then ⟨t.2.p, 2, t.2.o⟩ else t.2
        (if y.e ≠ 0 then (([], []), y) else ((t.1.take many, t.1.drop many), y) : (List Nat × List Nat) × Fl)).2.e = 2 := fun z hz => by
      have hz0 : z.e ≠ 0 := by rw [hz]; decide
      rw [tellS_err hz0]
      have e1 : ¬ (z.e = 0 ∧ (([] : List Nat).length > many + far ∨ ([] : List Nat).getD 256 0 = 0)) := fun hh => hz0 hh.1
      simp only [if_neg e1, if_pos hz0]
      exact hz
    rcases hGE.1 with e0 | e2
    · obtain ⟨Gf, Gp, Ge, Go⟩ := G
      have hgo : Go = o := hGE.2
      have hge : Ge = 0 := e0
      subst hgo hge
      by_cases hn : newE (numF ((List.range 19).map Gf)) 19 = 0
      · have hc : codeS ((List.range 19).map Gf) ⟨Gp, 0, Go⟩ = ⟨Gp, 0, Go⟩ := by
          unfold codeS
          rw [if_neg (fun h => h rfl), List.length_map, List.length_range]
          exact if_pos hn
        dsimp only
        rw [hc]
        have hl : lenS B T many far (decide ((0 : Nat) = 0), (List.range 19).map Gf, ⟨Gp, 0, Go⟩) = tellS B T Gf (many + far) (many + far + 1) [] ⟨Gp, 0, Go⟩ := by
          unfold lenS
          dsimp only
          rw [toL_few _ hG0]
        rw [hl]
        have hE := tellS_E2 (B := B) (T := T) (g := Gf) (all := many + far) (many + far + 1) [] (x := ⟨Gp, 0, Go⟩) (o := Go) ⟨.inl rfl, rfl⟩
        generalize tellS B T Gf (many + far) (many + far + 1) [] ⟨Gp, 0, Go⟩ = t at hE
        obtain ⟨tl, tp, te, to⟩ := t
        have hto : to = Go := hE.2
        subst hto
        refine ⟨fun h => ?_, fun _ _ h1 h2 => ?_⟩
        · rcases hE.1 with h0 | h2
          · have h0 : te = 0 := h0
            subst h0
            have h3 : tl.length > many + far ∨ tl.getD 256 0 = 0 := by
              by_cases h4 : tl.length > many + far
              · exact .inl h4
              · right
                by_cases h5 : tl.getD 256 0 = 0
                · exact h5
                · exact absurd ⟨rfl, hn, decide_eq_true ⟨rfl, Nat.le_of_not_lt h4⟩, h5⟩ h
            simp only [true_and, if_pos h3]
            rfl
          · have h2 : te = 2 := h2
            subst h2
            have e1 : ¬ ((2 : Nat) = 0 ∧ (tl.length > many + far ∨ tl.getD 256 0 = 0)) := fun hh => absurd (show 2 = 0 from hh.1) (by decide)
            simp only [if_neg e1]
            rfl
        · have h1 := of_decide_eq_true h1
          have h0 : te = 0 := h1.1
          subst h0
          have h3 : ¬ (tl.length > many + far ∨ tl.getD 256 0 = 0) := by
            rintro (h | h)
            · exact absurd h1.2 (Nat.not_le_of_gt h)
            · exact h2 h
          simp only [true_and, if_neg h3]
          rfl
      · refine ⟨fun _ => bad _ ?_, fun _ h => absurd h hn⟩
        unfold codeS
        rw [if_neg (fun h => h rfl), List.length_map, List.length_range, if_neg (show ¬ newE (fun i => (((List.range 19).map Gf).getD i 0 : Int)) 19 = 0 from hn)]
    · refine ⟨fun _ => bad _ ?_, fun h => ?_⟩
      · rw [codeS_err (by rw [e2]; decide)]; exact e2
      · have := of_decide_eq_true h
        rw [e2] at this; cases this
end Go.Proofs.Ytiphnnaanjjaoaa
/- A region that draws its order, walked by hand: operations that only reckon are taken first, one that calls or stores where it alone may come up. -/
namespace Go.Proofs.Ytiphnnaanjjaoaa
open Go.RowKit
section
variable {P : Program} {ops : Array Oper} {Q : Exit → Act → World → Prop} {md : Region.Mode}
theorem wpOp_calls {i : Nat} {o : Oper} {a : Act} {w : World} {K : Act → World → Prop} {f : FuncId} {args : Array Value} (hi : ops[i]? = some o) (hw : Region.wanted o (yielded ops a.tmps) = true)
    (hr : (execOp a.eval o).run P w = .ok (.enter f args) w) (hc : Calls P f args w fun e w' => ∃ v, e = .returned v ∧ K (a.put o.dst v) w') : wpOp P ops Q i K a w := by
  unfold Go.wpOp
  simp only [hi, hw, if_true, Oper.wp]
  left
  rw [hr]
  refine hc.mono ?_
  rintro e w' ⟨v, rfl, hk⟩
  exact hk
theorem wpOp_lands {i : Nat} {o : Oper} {a : Act} {w : World} {K : Act → World → Prop} {R : World → Prop} {v : Value} (hi : ops[i]? = some o) (hw : Region.wanted o (yielded ops a.tmps) = true)
    (hr : Lands P R v ((execOp a.eval o).run P w)) (hk : ∀ w', R w' → K (a.put o.dst v) w') : wpOp P ops Q i K a w := by
  unfold Go.wpOp
  simp only [hi, hw, if_true, Oper.wp]
  exact .inl (hr.upon hk)
theorem heldT_start {id : Nat} {a : Act} {w : World} (hm : P.follows .mixedOrders = true) (h : wpAnyH P .any ops Q (fun _ => True) ops.size (Array.replicate ops.size false) a w.drew) : (Code.region id ops true).wp P Q a w := wp_region_held hm h
theorem heldT_take {i : Nat} {oi : Oper} {r : List Oper} {v : Value} {fuel : Nat} {listed : Array Bool} {a : Act} {w : World} (hi : ops.toList.drop i = oi :: r)
    (hs : Region.noSelect ops = true) (hf : Region.free md ops listed i = true) (hr : (Region.ready md ops listed).contains i = true)
    (hQ : ∀ c a w, Q (.panic c) (a.put oi.dst v) w → Q (.panic c) a w) (hw : Region.wanted oi (yielded ops a.tmps) = true) (hy : ∀ w, (execOp a.eval oi).run P w = .ok (.value v) w)
    (h : wpAnyH P md ops Q (fun _ => True) fuel (listed.setIfInBounds i true) (a.put oi.dst v) w) : wpAnyH P md ops Q (fun _ => True) (fuel + 1) listed a w :=
  wpAnyH_take (at_drop hi) hs hf hr hQ (.inl ⟨hw, fun w _ => hy w⟩) trivial h
theorem heldT_call {i : Nat} {o : Oper} {r : List Oper} {fuel : Nat} {listed : Array Bool} {a : Act} {w : World} {f : FuncId} {args : Array Value} (hr : Region.ready md ops listed = [i]) (hi : ops.toList.drop i = o :: r) (hw : Region.wanted o (yielded ops a.tmps) = true)
    (he : (execOp a.eval o).run P w = .ok (.enter f args) w) (hc : Calls P f args w fun e w' => ∃ v, e = .returned v ∧ wpAnyH P md ops Q (fun _ => True) fuel (listed.setIfInBounds i true) (a.put o.dst v) w') : wpAnyH P md ops Q (fun _ => True) (fuel + 1) listed a w :=
  wpAnyH_all hr (by simp) fun j hj => by
    obtain rfl := List.mem_singleton.1 hj
    exact wpOp_calls (at_drop hi) hw he (hc.mono fun e w' ⟨v, h1, h2⟩ => ⟨v, h1, trivial, h2⟩)
theorem heldT_lands {i : Nat} {o : Oper} {r : List Oper} {fuel : Nat} {listed : Array Bool} {a : Act} {w : World} {R : World → Prop} {v : Value} (hr : Region.ready md ops listed = [i]) (hi : ops.toList.drop i = o :: r) (hw : Region.wanted o (yielded ops a.tmps) = true)
    (hl : Lands P R v ((execOp a.eval o).run P w)) (hk : ∀ w', R w' → wpAnyH P md ops Q (fun _ => True) fuel (listed.setIfInBounds i true) (a.put o.dst v) w') : wpAnyH P md ops Q (fun _ => True) (fuel + 1) listed a w :=
  wpAnyH_all hr (by simp) fun j hj => by
    obtain rfl := List.mem_singleton.1 hj
    exact wpOp_lands (at_drop hi) hw hl fun w' h => ⟨trivial, hk w' h⟩
end
end Go.Proofs.Ytiphnnaanjjaoaa
/- The developers' toldCodes and sayByToldCodes of chapter 10. -/
namespace Go.Proofs.Ytiphnnaanjjaoaa
open Go.RowKit
theorem toldS_dev (B : Nat → Nat) (T p : Nat) (o : List Nat) (r1 r2 : Nat × Bool × Nat) (h1 : r1 = numS B T p 257 5) (h2 : r2 = numS B T r1.2.2 1 5) (F : Bool × List Nat × Fl) (hF : F = cflS B T r2.2.2 o) :
    (¬ (r1.2.1 = true ∧ r2.2.1 = true ∧ r1.1 ≤ 286 ∧ r2.1 ≤ 30) ∨ ¬ (F.1 = true ∧ newE (numF F.2.1) 19 = 0 ∧ okL (lenS B T r1.1 r2.1 F) (r1.1 + r2.1) = true ∧ (lenS B T r1.1 r2.1 F).1.getD 256 0 ≠ 0) → (toldS B T ⟨p, 0, o⟩).2.e = 2) ∧
    (r1.2.1 = true → r2.2.1 = true → r1.1 ≤ 286 → r2.1 ≤ 30 → F.1 = true → newE (numF F.2.1) 19 = 0 → okL (lenS B T r1.1 r2.1 F) (r1.1 + r2.1) = true → (lenS B T r1.1 r2.1 F).1.getD 256 0 ≠ 0 →
      toldS B T ⟨p, 0, o⟩ = (((lenS B T r1.1 r2.1 F).1.take r1.1, (lenS B T r1.1 r2.1 F).1.drop r1.1), ⟨(lenS B T r1.1 r2.1 F).2.p, 0, o⟩)) := by
  have X := bitsS_least B T p 257 5 o
  rw [← h1] at X
  have Y := bitsS_least B T r1.2.2 1 5 o
  rw [← h2] at Y
  clear h1 h2
  obtain ⟨a, b1, p1⟩ := r1
  obtain ⟨d, b2, p2⟩ := r2
  rw [toldS_tail]
  have err : ∀ (z : Fl), z.e = 2 → (bitsS B T 5 z).2.e = 2 ∧ (bitsS B T 4 z).2.e = 2 := fun z hz => by
    rw [bitsS_err (by rw [hz]; decide), bitsS_err (by rw [hz]; decide)]; exact ⟨hz, hz⟩
  rcases X with ⟨e, x, xb, xv⟩ | ⟨e, xb⟩
  · have e : b1 = true := e
    subst e
    have xv : a = 257 + x := xv
    dsimp only at xb Y hF ⊢
    rcases Y with ⟨e, y, yb, yv⟩ | ⟨e, yb⟩
    · have e : b2 = true := e
      subst e
      have yv : d = 1 + y := yv
      try dsimp only at yb
      rw [xb]
      dsimp only
      rw [yb]
      dsimp only
      rw [← xv, ← yv]
      by_cases hbig : a > 286 ∨ d > 30
      · refine ⟨fun _ => ?_, fun _ _ ha hd => by omega⟩
        rcases bitsS_num B T p2 4 o with ⟨_, k⟩ | ⟨_, _, k⟩
        · rw [k]; exact tailT_big hbig
        · rw [k]; exact tailT_err rfl
      · obtain ⟨x4, hx4⟩ : ∃ x4, x4 = numS B T p2 0 4 := ⟨_, rfl⟩
        have K := bitsS_num B T p2 4 o
        rw [← hx4] at K
        have D := tailT_dev B T a d p2 o hbig F hF x4 hx4 (4 + (bitsS B T 4 ⟨p2, 0, o⟩).1) (fun h => by
          rcases K with ⟨_, k⟩ | ⟨h2, _⟩
          · rw [k]
          · rw [h] at h2; cases h2) (bitsS B T 4 ⟨p2, 0, o⟩).2 (by
          rcases K with ⟨h2, k⟩ | ⟨h2, _, k⟩
          · rw [k, if_pos h2]
          · rw [k, if_neg (by rw [h2]; exact Bool.false_ne_true)])
        refine ⟨fun h => D.1 ?_, fun _ _ _ _ h1 h2 h3 h4 => D.2 h1 h2 h3 h4⟩
        rcases h with h | h
        · exact absurd ⟨rfl, rfl, by omega, by omega⟩ h
        · exact h
    · have e : b2 = false := e
      subst e
      refine ⟨fun _ => ?_, fun _ h => by cases h⟩
      rw [xb]
      dsimp only
      rw [yb]
      exact tailT_err (err _ rfl).2
  · have e : b1 = false := e
    subst e
    refine ⟨fun _ => ?_, fun h => by cases h⟩
    rw [xb]
    exact tailT_err (err _ (err _ rfl).1).2
theorem toldS_E2 (B : Nat → Nat) (T p : Nat) (o : List Nat) : (toldS B T ⟨p, 0, o⟩).2.e = 0 ∨ (toldS B T ⟨p, 0, o⟩).2.e = 2 := by
  obtain ⟨r1, h1⟩ : ∃ r, r = numS B T p 257 5 := ⟨_, rfl⟩
  obtain ⟨r2, h2⟩ : ∃ r, r = numS B T r1.2.2 1 5 := ⟨_, rfl⟩
  obtain ⟨F, hF⟩ : ∃ F, F = cflS B T r2.2.2 o := ⟨_, rfl⟩
  have D := toldS_dev B T p o r1 r2 h1 h2 F hF
  by_cases h : (r1.2.1 = true ∧ r2.2.1 = true ∧ r1.1 ≤ 286 ∧ r2.1 ≤ 30)
  · by_cases h' : (F.1 = true ∧ newE (numF F.2.1) 19 = 0 ∧ okL (lenS B T r1.1 r2.1 F) (r1.1 + r2.1) = true ∧ (lenS B T r1.1 r2.1 F).1.getD 256 0 ≠ 0)
    · rw [D.2 h.1 h.2.1 h.2.2.1 h.2.2.2 h'.1 h'.2.1 h'.2.2.1 h'.2.2.2]; exact .inl rfl
    · exact .inr (D.1 (.inr h'))
  · exact .inr (D.1 (.inl h))
theorem numS_least {B : Nat → Nat} {T p least n : Nat} (h : (numS B T p least n).2.1 = true) : least ≤ (numS B T p least n).1 := by
  unfold numS at h ⊢
  split
  · exact Nat.le_add_right _ _
  · next hn => rw [if_neg hn] at h; cases h
/-- The codes of what is told. -/
def ctS (B : Nat → Nat) (T : Nat) (x : Fl) : Fl := codeS (toldS B T x).1.2 (codeS (toldS B T x).1.1 (toldS B T x).2)
theorem codeS_num (l : List Nat) (p : Nat) (o : List Nat) : codeS l ⟨p, 0, o⟩ = if newE (numF l) l.length = 0 then ⟨p, 0, o⟩ else ⟨p, 2, o⟩ := if_neg (fun h => h rfl)
theorem ctS_E2 (B : Nat → Nat) (T p : Nat) (o : List Nat) : (ctS B T ⟨p, 0, o⟩).e = 0 ∨ (ctS B T ⟨p, 0, o⟩).e = 2 := by
  have c : ∀ (l : List Nat) (x : Fl), x.e = 0 ∨ x.e = 2 → (codeS l x).e = 0 ∨ (codeS l x).e = 2 := fun l x h => by
    unfold codeS
    split
    · exact h
    · split
      · exact h
      · exact .inr rfl
  exact c _ _ (c _ _ (toldS_E2 B T p o))
theorem UW.row_far {g : Nat} {s : ByteArray} {M p : Nat} {o : List Nat} {v k1 k2 : Value} {w : World} (h : UW g s M p o v k1 k2 w) {q : Nat} (hq : g ≠ q) (hv : ∀ k, v.ownBlock = some k → k ≠ q) (cs : Array Value) : UW g s M p o v k1 k2 (w.setRow q cs) :=
  h.kept (setRow_other w q g cs hq) fun k e => setRow_other w q k cs (hv k e)
/-- A part of a list of one's own. -/
theorem AL.is_take {g : Nat} {l : List Nat} {q : Option Addr} {n cap : Nat} {v : Value} {w : World} (h : AL g l (.slice q n cap) v w) (hb : ∀ i, l.getD i 0 < 19) {m : Nat} (hm : m ≤ l.length) : IS q m cap (numF (l.take m)) w := by
  have hnum : ∀ i, i < m → numF (l.take m) i = ((l.getD i 0 : Nat) : Int) := fun i hi => by
    unfold numF; simp [List.getD, hi]
  refine ⟨fun e => ?_, fun a ha i hi => ?_, fun a ha => ?_, fun i hi => ?_, fun i hi => ?_⟩
  · rcases h.own.2 with ⟨h1, h2⟩ | ⟨q', cap', cur, h1, _⟩
    · injection h1 with h1 h3 h4
      exact ⟨by omega, h4⟩
    · injection h1 with h1
      rw [e] at h1; cases h1
  · obtain ⟨q', cap', e1, e2⟩ := h.last (show i < l.length by omega)
    injection e1 with e1
    rw [e1] at ha
    injection ha with ha
    subst ha
    rw [addr_add, Nat.zero_add, e2, hnum i hi]
  · have := World.ownsRow.lt h.own a.block (by rw [ha]; rfl)
    exact this.2
  · rw [hnum i hi]; omega
  · rw [hnum i hi]; have := hb i; omega
theorem AL.is_drop {g : Nat} {l : List Nat} {q n cap : Nat} {v : Value} {w : World} (h : AL g l (.slice (some ⟨q, 0, none⟩) n cap) v w) (hb : ∀ i, l.getD i 0 < 19) {m : Nat} (hm : m ≤ l.length) (c' : Nat) : IS (some ⟨q, m, none⟩) (l.length - m) c' (numF (l.drop m)) w := by
  have hnum : ∀ i, i < l.length - m → numF (l.drop m) i = ((l.getD (m + i) 0 : Nat) : Int) := fun i hi => by
    unfold numF; simp [List.getD, List.getElem?_drop]
  refine ⟨fun e => (by cases e), fun a ha i hi => ?_, fun a ha => ?_, fun i hi => ?_, fun i hi => ?_⟩
  · obtain ⟨q', cap', e1, e2⟩ := h.last (show m + i < l.length by omega)
    injection e1 with e1
    injection e1 with e1
    injection e1 with e1
    injection ha with ha
    subst ha e1
    rw [hnum i hi, ← e2, addr_add]
  · injection ha with ha
    subst ha
    exact (World.ownsRow.lt h.own q rfl).2
  · rw [hnum i hi]; omega
  · rw [hnum i hi]; have := hb (m + i); omega
set_option maxRecDepth 100000 in
set_option maxHeartbeats 8000000 in
theorem dtold_any (g : Nat) (s : ByteArray) (M p : Nat) (o : List Nat) (v k1 k2 : Value) (w : World) (h : UW g s M p o v k1 k2 w) (hT : TB w) (hs : s.size ≤ 281474976710656) (hp : p ≤ 8 * s.size) :
    Calls Try.prog 39 #[.pointer (some ⟨g, 0, none⟩)] w fun e w' => ∃ c1 c2, e = .returned (.tuple #[.agg #[.pointer c1, .pointer c2], .bool (decide ((ctS (bitH s) (8 * s.size) ⟨p, 0, o⟩).e = 0))]) ∧ Mv g v w v w' ∧
      ((ctS (bitH s) (8 * s.size) ⟨p, 0, o⟩).e = 0 → UW g s M (ctS (bitH s) (8 * s.size) ⟨p, 0, o⟩).p o v k1 k2 w' ∧ (ctS (bitH s) (8 * s.size) ⟨p, 0, o⟩).p ≤ 8 * s.size ∧ (ctS (bitH s) (8 * s.size) ⟨p, 0, o⟩).o = o ∧
        CodeV (.pointer c1) (numF (toldS (bitH s) (8 * s.size) ⟨p, 0, o⟩).1.1) (toldS (bitH s) (8 * s.size) ⟨p, 0, o⟩).1.1.length w' ∧ CodeV (.pointer c2) (numF (toldS (bitH s) (8 * s.size) ⟨p, 0, o⟩).1.2) (toldS (bitH s) (8 * s.size) ⟨p, 0, o⟩).1.2.length w') := by
  obtain ⟨r1, hr1⟩ : ∃ r, r = numS (bitH s) (8 * s.size) p 257 5 := ⟨_, rfl⟩
  obtain ⟨r2, hr2⟩ : ∃ r, r = numS (bitH s) (8 * s.size) r1.2.2 1 5 := ⟨_, rfl⟩
  obtain ⟨F, hF⟩ : ∃ F, F = cflS (bitH s) (8 * s.size) r2.2.2 o := ⟨_, rfl⟩
  have HD := Lib.hid (toldS_dev (bitH s) (8 * s.size) p o r1 r2 hr1 hr2 F hF)
  have HX : Hid (ctS (bitH s) (8 * s.size) ⟨p, 0, o⟩ = codeS (toldS (bitH s) (8 * s.size) ⟨p, 0, o⟩).1.2 (codeS (toldS (bitH s) (8 * s.size) ⟨p, 0, o⟩).1.1 (toldS (bitH s) (8 * s.size) ⟨p, 0, o⟩).2)) := Lib.hid rfl
  generalize ctS (bitH s) (8 * s.size) ⟨p, 0, o⟩ = X at *
  generalize toldS (bitH s) (8 * s.size) ⟨p, 0, o⟩ = t at *
  have HBAD : Hid (t.2.e = 2 → X.e ≠ 0) := Lib.hid fun h2 => by
    have h0 : t.2.e ≠ 0 := by rw [h2]; decide
    rw [HX.out, codeS_err h0, codeS_err h0]; exact h0
  have b0 : Below w.heap.size w (w.alloc (.cells #[.pointer none, .pointer none] 47)) := (Below.refl _ _).alloc (Nat.le_refl _) _
  have hgl := h.lt
  have HOB : Hid (∀ k, v.ownBlock = some k → k < w.heap.size) := Lib.hid fun k e => (h.ownB k e).2
  have H0 := Lib.hid (⟨h.below b0, (Mv.refl g v w).below b0, hT.below b0, Blk.new w _ _⟩ : UW g s M p o v k1 k2 (w.alloc (.cells #[.pointer none, .pointer none] 47)) ∧ Mv g v w v (w.alloc (.cells #[.pointer none, .pointer none] 47)) ∧ TB (w.alloc (.cells #[.pointer none, .pointer none] 47)) ∧ Blk (w.alloc (.cells #[.pointer none, .pointer none] 47)) w.heap.size 47 #[.pointer none, .pointer none])
  have hsz : (Try.prog.info? 47).map (·.size) = some 2 := by kernel_rfl
  have HSZ := Lib.hid hsz
  obtain ⟨q, hq⟩ : ∃ q, q = w.heap.size := ⟨_, rfl⟩
  rw [← hq] at H0
  have HQ := Lib.hid hq
  have HG := Lib.hid hgl
  clear h hT b0 hsz hgl
  go_enter Try.func39, Try.ntmps39
  go_wp2_with fail
  rw [← hq]
  clear hq
  generalize w.alloc (.cells #[.pointer none, .pointer none] 47) = wa at H0 ⊢
  have C1 := dnum_any g s M p o v k1 k2 257 5 wa H0.out.1 hs hp (by omega) (by omega)
  have hp1 : r1.2.2 ≤ 8 * s.size := by rw [hr1]; exact numS_le hp
  have hl1 : r1.1 < 257 + 2 ^ 5 := by rw [hr1]; exact numS_lt s _ _ _ _
  rw [← hr1] at C1
  refine C1.mono ?_
  rintro e w1 ⟨rfl, h1, m1⟩
  have H1 := Lib.hid (⟨h1, H0.out.2.1.trans m1, H0.out.2.2.1.mv H0.out.1 m1, Blk.mv H0.out.2.2.2 (by decide) (by decide) H0.out.1 m1⟩ : UW g s M r1.2.2 o v k1 k2 w1 ∧ Mv g v w v w1 ∧ TB w1 ∧ Blk w1 q 47 #[.pointer none, .pointer none])
  have HGE : Hid (r1.2.1 = true → 257 ≤ r1.1) := Lib.hid (by rw [hr1]; exact numS_least)
  clear h1 m1 H0 C1 hr1
  go_wp2_with fail
  have C1 := dnum_any g s M r1.2.2 o v k1 k2 1 5 w1 H1.out.1 hs hp1 (by omega) (by omega)
  have hp2 : r2.2.2 ≤ 8 * s.size := by rw [hr2]; exact numS_le hp1
  have hl2 : r2.1 < 1 + 2 ^ 5 := by rw [hr2]; exact numS_lt s _ _ _ _
  rw [← hr2] at C1
  refine C1.mono ?_
  rintro e w2 ⟨rfl, h2, m2⟩
  have H2 := Lib.hid (⟨h2, H1.out.2.1.trans m2, H1.out.2.2.1.mv H1.out.1 m2, Blk.mv H1.out.2.2.2 (by decide) (by decide) H1.out.1 m2⟩ : UW g s M r2.2.2 o v k1 k2 w2 ∧ Mv g v w v w2 ∧ TB w2 ∧ Blk w2 q 47 #[.pointer none, .pointer none])
  have HGE2 : Hid (r2.2.1 = true → 1 ≤ r2.1) := Lib.hid (by rw [hr2]; exact numS_least)
  clear h2 m2 H1 C1 hr2
  obtain ⟨a, b1, p1⟩ := r1
  obtain ⟨d, b2, p2⟩ := r2
  dsimp only at hl1 hl2 hp2
  have hB2 : Hid (∀ wx cs, Mv g v w v wx → Mv g v w v (wx.setRow q cs)) := Lib.hid fun wx cs m =>
    ⟨m.os, m.tape, m.output, by simp; exact m.size, fun i hi hg' hv => (setRow_other wx q i _ (by have := HQ.out; omega)).trans (m.block i hi hg' hv), m.own⟩
  have hB : Hid (∀ wx, Mv g v w v wx → Mv g v w v (wx.setRow q #[.pointer none, .pointer none])) := Lib.hid fun wx m => hB2.out wx _ m
  by_cases hok : b1 = true ∧ b2 = true ∧ a ≤ 286 ∧ d ≤ 30
  · obtain ⟨rfl, rfl, ha, hd⟩ := hok
    have hai : ¬ (a : Int) > 286 := by omega
    have hdi : ¬ (d : Int) > 30 := by omega
    have hFo : F.2.2.o = o := by rw [hF]; exact (fewS_E2 _ _ _ ⟨.inl rfl, rfl⟩).2
    have C := dcfl_any g s M p2 o v k1 k2 w2 H2.out.1 H2.out.2.2.1 hs hp2
    dsimp only at hF
    rw [← hF] at C
    have HAD : Hid (a ≤ 286 ∧ d ≤ 30 ∧ 257 ≤ a + 0 ∨ a < 257) := Lib.hid (by omega)
    have HAI : Hid (a ≤ 286 ∧ d ≤ 30) := Lib.hid ⟨ha, hd⟩
    clear hF hl1 hl2 hp1
    go_wp2_with fail
    refine C.mono ?_
    rintro e w3 ⟨c, ok, rfl, m3, hiff, hgood⟩
    cases ok with
    | false =>
      have HE : Hid (¬ X.e = 0) := Lib.hid (HBAD.out (HD.out.1 (.inr (fun h => by have := hiff.2 ⟨h.1, h.2.1⟩; cases this))))
      have HW : Hid (Mv g v w v w3 ∧ Blk w3 q 47 #[.pointer none, .pointer none]) := Lib.hid ⟨H2.out.2.1.trans m3, Blk.mv H2.out.2.2.2 (by decide) (by decide) H2.out.1 m3⟩
      clear HD HX HBAD m3 hiff hgood C
      go_wp2_with (refine wpList_store_row rfl 47 _ _ rfl q #[.pointer none, .pointer none] rfl rfl 47 _ HW.out.2 HSZ.out rfl (two_one _ _) ?_)
      refine bodyPost_ret (results_cell_row_slot rfl _ _ q 47 #[.pointer none, .pointer none] (0, 0) _ _ rfl (HW.out.2.row_ _) Try.underlying47 rfl HSZ.out rfl) rfl ⟨none, none, ?_, hB.out _ HW.out.1, fun h => absurd h HE.out⟩
      rw [decide_eq_false HE.out]; rfl
    | true =>
      obtain ⟨h3, hp3, hc3⟩ := hgood rfl
      obtain ⟨hF1, hF2⟩ := hiff.1 rfl
      have H3 := Lib.hid (⟨h3, H2.out.2.1.trans m3, Blk.mv H2.out.2.2.2 (by decide) (by decide) H2.out.1 m3, hc3⟩ : UW g s M F.2.2.p o v k1 k2 w3 ∧ Mv g v w v w3 ∧ Blk w3 q 47 #[.pointer none, .pointer none] ∧ CodeV c (numF F.2.1) 19 w3)
      have hw : IntKind.i64.wrap ((a : Int) + (d : Int)) = ((a + d : Nat) : Int) := by rw [IntWalk.i64_in _ (by omega)]; omega
      have C := dlens_any g s M F.2.2.p o v k1 k2 c (numF F.2.1) (a + d) w3 h3 hc3 hs hp3 (by omega)
      have hlen : lenS (bitH s) (8 * s.size) a d F = tellS (bitH s) (8 * s.size) (toL (numF F.2.1)) (a + d) (a + d + 1) [] ⟨F.2.2.p, 0, o⟩ := by unfold lenS; rw [hFo]
      have HDD := Lib.hid HD.out
      rw [← hlen] at C
      have HF12 := Lib.hid (⟨hF1, hF2⟩ : F.1 = true ∧ newE (numF F.2.1) 19 = 0)
      clear hlen h3 m3 hc3 hiff hgood H2 hF1 hF2 HD hFo
      generalize lenS (bitH s) (8 * s.size) a d F = S at *
      obtain ⟨N, hN⟩ : ∃ N, N = a + d := ⟨_, rfl⟩
      rw [← hN] at C hw HDD
      have HN := Lib.hid hN
      clear hN
      go_wp2_with fail
      refine C.mono ?_
      rintro e w4 ⟨qs, n, cap, rfl, m4, hgood⟩
      have hq4 := Blk.mv H3.out.2.2.1 (by decide) (by decide) H3.out.1 m4
      cases hok : okL S N with
      | false =>
        have HE : Hid (¬ X.e = 0) := Lib.hid (HBAD.out (HDD.out.1 (.inr (fun h => by rw [hok] at h; cases h.2.2.1))))
        have HW : Hid (Mv g v w v w4 ∧ Blk w4 q 47 #[.pointer none, .pointer none]) := Lib.hid ⟨H3.out.2.1.trans m4, hq4⟩
        clear HDD HX HBAD m4 hgood hok C hq4
        go_wp2_with (refine wpList_store_row rfl 47 _ _ rfl q #[.pointer none, .pointer none] rfl rfl 47 _ HW.out.2 HSZ.out rfl (two_one _ _) ?_)
        refine bodyPost_ret (results_cell_row_slot rfl _ _ q 47 #[.pointer none, .pointer none] (0, 0) _ _ rfl (HW.out.2.row_ _) Try.underlying47 rfl HSZ.out rfl) rfl ⟨none, none, ?_, hB.out _ HW.out.1, fun h => absurd h HE.out⟩
        rw [decide_eq_false HE.out]; rfl
      | true =>
        obtain ⟨rfl, hSl, h4, hp4, hSo, hal, hb19⟩ := hgood hok
        have hN257 : 257 ≤ n := by have := HGE.out (by trivial); have := HN.out; omega
        obtain ⟨qb, cap', e1, c256⟩ := hal.last (show 256 < S.1.length by omega)
        injection e1 with e1 e2 e3
        subst e1 e3
        have hcap : S.1.length ≤ cap := by
          rcases hal.own.2 with ⟨h1, _⟩ | ⟨q', cap', cur, h1, _, _, h5, _⟩
          · cases h1
          · injection h1 with h1 h2 h3
            omega
        by_cases h0 : S.1.getD 256 0 = 0
        · have HE : Hid (¬ X.e = 0) := Lib.hid (HBAD.out (HDD.out.1 (.inr (fun h => h.2.2.2 h0))))
          have HW : Hid (Mv g v w v w4 ∧ Blk w4 q 47 #[.pointer none, .pointer none]) := Lib.hid ⟨H3.out.2.1.trans m4, hq4⟩
          rw [h0] at c256
          have c256 : w4.cell? ⟨qb, 256, none⟩ = some (.int .i64 0) := c256
          have hni : (256 : Int) < (n : Int) := by omega
          clear HDD HX HBAD m4 hgood hok C hq4 hal h0 hSl hb19 h4
          go_wp2_with (refine wpList_store_row rfl 47 _ _ rfl q #[.pointer none, .pointer none] rfl rfl 47 _ HW.out.2 HSZ.out rfl (two_one _ _) ?_)
          refine bodyPost_ret (results_cell_row_slot rfl _ _ q 47 #[.pointer none, .pointer none] (0, 0) _ _ rfl (HW.out.2.row_ _) Try.underlying47 rfl HSZ.out rfl) rfl ⟨none, none, ?_, hB.out _ HW.out.1, fun h => absurd h HE.out⟩
          rw [decide_eq_false HE.out]; rfl
        · have htt := HDD.out.2 (by trivial) (by trivial) (by have := HAI.out; omega) (by have := HAI.out; omega) HF12.out.1 HF12.out.2 hok h0
          have hSN := HN.out
          have i1 := hal.is_take hb19 (show a ≤ S.1.length by omega)
          have i2 := hal.is_drop hb19 (show a ≤ S.1.length by omega) (cap - a)
          have C := dnew_any (some ⟨qb, 0, none⟩) a cap (numF (S.1.take a)) (some ⟨qb, a, none⟩) (S.1.length - a) (cap - a) (numF (S.1.drop a)) w4.drew ⟨i1.nil_, i1.cell, i1.lt, i1.lo, i1.hi⟩ ⟨i2.nil_, i2.cell, i2.lt, i2.lo, i2.hi⟩ (by omega) (by omega)
          have hl1 : (S.1.take a).length = a := by rw [List.length_take]; omega
          have hl2 : (S.1.drop a).length = S.1.length - a := List.length_drop
          have hX : X = if newE (numF (S.1.take a)) a = 0 ∧ newE (numF (S.1.drop a)) (S.1.length - a) = 0 then ⟨S.2.p, 0, o⟩ else ⟨S.2.p, 2, o⟩ := by
            rw [HX.out, htt]
            dsimp only
            rw [codeS_num, hl1]
            by_cases e1 : newE (numF (S.1.take a)) a = 0
            · rw [if_pos e1, codeS_num, hl2]
              by_cases e2 : newE (numF (S.1.drop a)) (S.1.length - a) = 0
              · rw [if_pos e2, if_pos ⟨e1, e2⟩]
              · rw [if_neg e2, if_neg (fun h => e2 h.2)]
            · rw [if_neg e1, if_neg (fun h => e1 h.1)]
              exact codeS_err (show (2 : Nat) ≠ 0 by decide)
          have HXX := Lib.hid hX
          have HT1 := Lib.hid (show t.1.1 = S.1.take a ∧ t.1.2 = S.1.drop a by rw [htt]; exact ⟨rfl, rfl⟩)
          have HL := Lib.hid (⟨hl1, hl2⟩ : (S.1.take a).length = a ∧ (S.1.drop a).length = S.1.length - a)
          have HDE : Hid (decide (newE (numF (S.1.take a)) a = 0 ∧ newE (numF (S.1.drop a)) (S.1.length - a) = 0) = decide (X.e = 0)) := Lib.hid (by
            rw [hX]
            by_cases e : newE (numF (S.1.take a)) a = 0 ∧ newE (numF (S.1.drop a)) (S.1.length - a) = 0
            · rw [if_pos e, decide_eq_true e]; rfl
            · rw [if_neg e, decide_eq_false e]; rfl)
          have HDE2 : Hid ((decide (newE (numF (S.1.take a)) a = 0) && decide (newE (numF (S.1.drop a)) (S.1.length - a) = 0)) = decide (X.e = 0)) := Lib.hid (by rw [← HDE.out, Bool.decide_and])
          have HNE : Hid (X.e = 0 → newE (numF (S.1.take a)) a = 0 ∧ newE (numF (S.1.drop a)) (S.1.length - a) = 0) := Lib.hid fun h => by
            by_cases e : newE (numF (S.1.take a)) a = 0 ∧ newE (numF (S.1.drop a)) (S.1.length - a) = 0
            · exact e
            · rw [hX, if_neg e] at h; cases h
          have hd0 : ¬ ((S.1.getD 256 0 : Nat) : Int) = 0 := by omega
          have hd0b : (((S.1.getD 256 0 : Nat) : Int) == 0) = false := Bool.eq_false_iff.2 fun h => hd0 (eq_of_beq h)
          generalize ((S.1.getD 256 0 : Nat) : Int) = D256 at c256 hd0 hd0b
          have hni : (256 : Int) < (S.1.length : Int) := by omega
          have hac : (a : Int) ≤ (cap : Int) := by omega
          have hcn : ¬ cap = a := by have := HGE2.out (by trivial); have := HN.out; omega
          have han : (a : Int) ≤ (S.1.length : Int) := by omega
          have hnc : (S.1.length : Int) ≤ (cap : Int) := by omega
          have H4 := Lib.hid (⟨h4.drew, H3.out.2.1.trans m4.drew, hq4.drew⟩ : UW g s M S.2.p o v k1 k2 w4.drew ∧ Mv g v w v w4.drew ∧ Blk w4.drew q 47 #[.pointer none, .pointer none])
          have HP4 := Lib.hid hp4
          clear HDD HX HBAD m4 hgood hok hq4 hal h0 hSl hb19 h4 htt i1 i2 hl1 hl2 hX hSN
          go_wp2_with fail
          refine heldT_start (by kernel_rfl) ?_
          change wpAnyH _ _ _ _ _ _ _ _ w4.drew
          generalize w4.drew = wd at *
          refine heldT_take (i := 0) (v := ?_) rfl (by kernel_rfl) (by kernel_rfl) (by kernel_rfl) (fun _ _ _ h => h) rfl (fun wx => ?_) ?_; rotate_left
          · go_simp <;> rfl
          simp only [pu]
          refine heldT_take (i := 1) (v := ?_) rfl (by kernel_rfl) (by kernel_rfl) (by kernel_rfl) (fun _ _ _ h => h) rfl (fun wx => ?_) ?_; rotate_left
          · go_simp <;> rfl
          simp only [pu]
          refine heldT_take (i := 2) (v := .slice (some ⟨qb, 0, none⟩) a cap) rfl (by kernel_rfl) (by kernel_rfl) (by kernel_rfl) (fun _ _ _ h => h) rfl (fun wx => ?_) ?_
          · go_simp; skip
          simp only [pu]
          refine heldT_take (i := 3) (v := ?_) rfl (by kernel_rfl) (by kernel_rfl) (by kernel_rfl) (fun _ _ _ h => h) rfl (fun wx => ?_) ?_; rotate_left
          · go_simp <;> rfl
          simp only [pu]
          refine heldT_take (i := 4) (v := ?_) rfl (by kernel_rfl) (by kernel_rfl) (by kernel_rfl) (fun _ _ _ h => h) rfl (fun wx => ?_) ?_; rotate_left
          · go_simp <;> rfl
          simp only [pu]
          refine heldT_take (i := 5) (v := .slice (some ⟨qb, a, none⟩) (S.1.length - a) (cap - a)) rfl (by kernel_rfl) (by kernel_rfl) (by kernel_rfl) (fun _ _ _ h => h) rfl (fun wx => ?_) ?_
          · go_simp; skip
          simp only [pu]
          refine heldT_call (i := 6) (f := 42) (by kernel_rfl) rfl rfl (by go_simp; skip) (C.mono ?_)
          rintro e w5 ⟨v1, v2, rfl, b5, kc1, kc2⟩
          refine ⟨_, rfl, ?_⟩
          simp only [pu]
          have H5 := Lib.hid (⟨H4.out.1.below b5, H4.out.2.1.below b5, H4.out.2.2.below b5 H4.out.2.2.lt⟩ : UW g s M S.2.p o v k1 k2 w5 ∧ Mv g v w v w5 ∧ Blk w5 q 47 #[.pointer none, .pointer none])
          refine heldT_take (i := 7) (v := ?_) rfl (by kernel_rfl) (by kernel_rfl) (by kernel_rfl) (fun _ _ _ h => h) rfl (fun wx => ?_) ?_; rotate_left
          · go_simp <;> rfl
          simp only [pu]
          refine heldT_take (i := 8) (v := ?_) rfl (by kernel_rfl) (by kernel_rfl) (by kernel_rfl) (fun _ _ _ h => h) rfl (fun wx => ?_) ?_; rotate_left
          · go_simp <;> rfl
          simp only [pu]
          refine heldT_lands (i := 9) (by kernel_rfl) rfl rfl (lands_store (R := fun wx => wx = w5.setRow q #[.pointer v1, .pointer v2]) 47 _ _ rfl q #[.pointer v1, .pointer v2] rfl rfl 47 _ H5.out.2.2 HSZ.out rfl (two_one _ _) rfl) ?_
          rintro _ rfl
          simp only [Act.put]
          refine heldT_take (i := 10) (v := ?_) rfl (by kernel_rfl) (by kernel_rfl) (by kernel_rfl) (fun _ _ _ h => h) rfl (fun wx => ?_) ?_; rotate_left
          · go_simp <;> rfl
          simp only [pu]
          refine wpAnyH_done (by kernel_rfl) ?_ _
          have HK := Lib.hid (⟨kc1, kc2⟩ : (newE (numF (S.1.take a)) a = 0 → CodeV (.pointer v1) (numF (S.1.take a)) a w5) ∧ (newE (numF (S.1.drop a)) (S.1.length - a) = 0 → CodeV (.pointer v2) (numF (S.1.drop a)) (S.1.length - a) w5))
          clear kc1 kc2 C
          go_wp2_with fail
          refine bodyPost_ret (results_cell_row_slot rfl _ _ q 47 #[.pointer v1, .pointer v2] (0, 0) _ _ rfl (H5.out.2.2.row_ _) Try.underlying47 rfl HSZ.out rfl) rfl ⟨v1, v2, ?_, hB2.out _ _ H5.out.2.1, fun hx => ?_⟩
          · rw [← HDE2.out]; rfl
          · obtain ⟨hn1, hn2⟩ := HNE.out hx
            have hXX := HXX.out
            rw [if_pos ⟨hn1, hn2⟩] at hXX
            rw [hXX, HT1.out.1, HT1.out.2, HL.out.1, HL.out.2]
            exact ⟨H5.out.1.row_far (by have := HQ.out; have := HG.out; omega) (fun k e => by have := HOB.out k e; have := HQ.out; omega) _, HP4.out, rfl, (HK.out.1 hn1).setRow H5.out.2.2 (by decide) _, (HK.out.2 hn2).setRow H5.out.2.2 (by decide) _⟩
  · have HE : Hid (¬ X.e = 0) := Lib.hid (HBAD.out (HD.out.1 (.inl hok)))
    have HW : Hid (Mv g v w v w2 ∧ Blk w2 q 47 #[.pointer none, .pointer none]) := Lib.hid ⟨H2.out.2.1, H2.out.2.2.2⟩
    clear HD HX HBAD hF
    have hor : b1 = false ∨ (b1 = true ∧ b2 = false) ∨ (b1 = true ∧ b2 = true ∧ (a : Int) > 286) ∨ (b1 = true ∧ b2 = true ∧ ¬ (a : Int) > 286 ∧ (d : Int) > 30) := by
      cases b1 with
      | false => exact .inl rfl
      | true =>
        cases b2 with
        | false => exact .inr (.inl ⟨rfl, rfl⟩)
        | true =>
          by_cases ha : a > 286
          · exact .inr (.inr (.inl ⟨rfl, rfl, by omega⟩))
          · refine .inr (.inr (.inr ⟨rfl, rfl, by omega, ?_⟩))
            by_cases hd : d > 30
            · omega
            · exact absurd ⟨rfl, rfl, by omega, by omega⟩ hok
    clear hok
    rcases hor with rfl | ⟨rfl, rfl⟩ | ⟨rfl, rfl, h1⟩ | ⟨rfl, rfl, h1, h2⟩
    all_goals
      go_wp2_with (refine wpList_store_row rfl 47 _ _ rfl q #[.pointer none, .pointer none] rfl rfl 47 _ HW.out.2 HSZ.out rfl (two_one _ _) ?_)
      refine bodyPost_ret (results_cell_row_slot rfl _ _ q 47 #[.pointer none, .pointer none] (0, 0) _ _ rfl (HW.out.2.row_ _) Try.underlying47 rfl HSZ.out rfl) rfl ⟨none, none, ?_, hB.out _ HW.out.1, fun h => absurd h HE.out⟩
      rw [decide_eq_false HE.out]; rfl
end Go.Proofs.Ytiphnnaanjjaoaa
/- The developers' sayByToldCodes of chapter 10. -/
namespace Go.Proofs.Ytiphnnaanjjaoaa
open Go.RowKit
theorem codedS_X (B : Nat → Nat) (T M p : Nat) (o : List Nat) : codedS B T M (toldS B T ⟨p, 0, o⟩).1.1 (toldS B T ⟨p, 0, o⟩).1.2 (toldS B T ⟨p, 0, o⟩).2 =
    symbolsS B T M (toL (numF (toldS B T ⟨p, 0, o⟩).1.1)) (toldS B T ⟨p, 0, o⟩).1.1.length (toL (numF (toldS B T ⟨p, 0, o⟩).1.2)) (toldS B T ⟨p, 0, o⟩).1.2.length (T + 1) (ctS B T ⟨p, 0, o⟩) := by
  rw [toL_num, toL_num]; rfl
set_option maxRecDepth 100000 in
set_option maxHeartbeats 8000000 in
theorem dsayTold_any (g : Nat) (s : ByteArray) (M p : Nat) (o : List Nat) (v k1 k2 : Value) (w : World) (h : UW g s M p o v k1 k2 w) (hT : TB w) (hs : s.size ≤ 281474976710656) (hp : p ≤ 8 * s.size) (hM : M ≤ 1048576) (ho : o.length ≤ M) :
    Calls Try.prog 28 #[.pointer (some ⟨g, 0, none⟩)] w fun e w' => e = .returned (.int .i64 ((codedS (bitH s) (8 * s.size) M (toldS (bitH s) (8 * s.size) ⟨p, 0, o⟩).1.1 (toldS (bitH s) (8 * s.size) ⟨p, 0, o⟩).1.2 (toldS (bitH s) (8 * s.size) ⟨p, 0, o⟩).2).e : Int)) ∧
      Dn g s M (codedS (bitH s) (8 * s.size) M (toldS (bitH s) (8 * s.size) ⟨p, 0, o⟩).1.1 (toldS (bitH s) (8 * s.size) ⟨p, 0, o⟩).1.2 (toldS (bitH s) (8 * s.size) ⟨p, 0, o⟩).2) v k1 k2 w w' := by
  have C := dtold_any g s M p o v k1 k2 w h hT hs hp
  rw [codedS_X]
  have hX := ctS_E2 (bitH s) (8 * s.size) p o
  generalize ctS (bitH s) (8 * s.size) ⟨p, 0, o⟩ = X at *
  generalize toldS (bitH s) (8 * s.size) ⟨p, 0, o⟩ = t at *
  have hgl := h.lt
  obtain ⟨S, hS⟩ : ∃ S, S = symbolsS (bitH s) (8 * s.size) M (toL (numF t.1.1)) t.1.1.length (toL (numF t.1.2)) t.1.2.length (8 * s.size + 1) X := ⟨_, rfl⟩
  rw [← hS]
  have HS := Lib.hid hS
  have hsz : (Try.prog.info? 47).map (·.size) = some 2 := by kernel_rfl
  have HSZ := Lib.hid hsz
  have HXX := Lib.hid hX
  have HM := Lib.hid hM
  clear h hT hS hsz hX hM
  go_enter Try.func28, Try.ntmps28
  go_wp2_with fail
  refine C.mono ?_
  rintro e w1 ⟨c1, c2, rfl, m1, hgood⟩
  clear C
  have hB1 := Blk.new w1 47 #[.pointer none, .pointer none]
  have b1 := (Below.refl _ w1).alloc (Nat.le_refl _) (.cells #[.pointer none, .pointer none] 47)
  have b2 : Below w1.heap.size w1 ((w1.alloc (.cells #[.pointer none, .pointer none] 47)).setRow w1.heap.size #[.pointer c1, .pointer c2]) := below_setRow' b1 (Nat.le_refl _) _
  have HB := Lib.hid hB1
  by_cases h0 : X.e = 0
  · rw [decide_eq_true h0]
    obtain ⟨h1, hp1, ho1, k1', k2'⟩ := hgood h0
    have C := dsayBy_any g s M X.p o v k1 k2 (.pointer c1) (.pointer c2) _ _ _ _ _ (h1.below b2) (k1'.below b2) (k2'.below b2) hs hp1 HM.out ho
    have hXe : X = ⟨X.p, 0, o⟩ := by obtain ⟨Xp, Xe, Xo⟩ := X; dsimp only at h0 ho1; rw [h0, ho1]
    rw [← hXe, ← HS.out] at C
    have hB2 := hB1.row_ #[.pointer c1, .pointer c2]
    have M2 := Lib.hid (m1.below b2)
    have HC := Lib.hid C
    have HR := Lib.hid hB2
    clear h1 k1' k2' hgood h0 hXe C hB1 b1 b2 m1 hB2
    go_wp2_with (first
      | (refine wpList_store_row rfl 47 _ _ rfl w1.heap.size #[.pointer c1, .pointer c2] rfl rfl 47 _ HB.out HSZ.out rfl (two_one _ _) ?_)
      | (refine wpList_valK (.agg #[.pointer c1, .pointer c2]) rfl (by exact lands_load (R := fun wx => wx = _) _ _ rfl _ rfl _ _ _ HR.out Try.underlying47 rfl (by kernel_rfl) rfl) ?_; rintro _ rfl; simp only [pu]))
    refine HC.out.mono ?_
    rintro e w3 ⟨rfl, hdn⟩
    have HDN : Hid (Dn g s M S v k1 k2 w w3) := Lib.hid (by
      obtain ⟨v', m3, h3⟩ := hdn
      exact ⟨v', M2.out.trans m3, h3⟩)
    clear hdn
    go_wp2_with fail
    go_ret
    exact ⟨rfl, HDN.out⟩
  · rw [decide_eq_false h0]
    have HE : Hid (S.e = 2) := Lib.hid (by
      rw [HS.out, symbolsS_err h0]
      rcases HXX.out with h | h
      · exact absurd h h0
      · exact h)
    have M2 := Lib.hid (m1.below b2)
    clear hgood h0 hB1 b1 b2 m1
    go_wp2_with (refine wpList_store_row rfl 47 _ _ rfl w1.heap.size #[.pointer c1, .pointer c2] rfl rfl 47 _ HB.out HSZ.out rfl (two_one _ _) ?_)
    go_ret
    rw [HE.out]
    exact ⟨rfl, .bad M2.out (by rw [HE.out]; decide)⟩
end Go.Proofs.Ytiphnnaanjjaoaa
