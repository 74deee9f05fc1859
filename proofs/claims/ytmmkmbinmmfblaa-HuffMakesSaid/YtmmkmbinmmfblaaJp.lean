/- The developers' join of chapter 9. -/
import Derived.Test.YtmmkmbinmmfblaaJr
import Derived.Deep.LoopGhost
namespace Go.Proofs.Ytmmkmbinmmfblaa
open Go.RowKit
theorem updN_comm (g : Nat → Nat) (p r x : Nat) : updN (updN g r x) p x = updN (updN g p x) r x := funext fun i => by
  unfold updN
  by_cases h1 : i = p
  · by_cases h2 : i = r
    · rw [if_pos h1, if_pos h2]
    · rw [if_pos h1, if_neg h2, if_pos h1]
  · by_cases h2 : i = r
    · rw [if_neg h1, if_pos h2, if_pos h2]
    · rw [if_neg h1, if_neg h2, if_neg h2, if_neg h1]
/-- .. with the two nodes that were taken. -/
structure PX (w : World) (q : Nat) (S J : List Kd) (k : Nat) (aS : Option Addr) (cS : Nat) (aJ : Option Addr) (cJ gA cA na : Nat) (a b : Kd) (ab : Nat → Nat) (wx : World) : Prop where
  j : JW w q S J ab k aS cS aJ cJ gA cA wx
  xa : Blk wx na 75 #[.int .i64 (a.1 : Int), .int .i64 (a.2 : Int)]
  xb : Blk wx (na + 1) 75 #[.int .i64 (b.1 : Int), .int .i64 (b.2 : Int)]
  lt : gA < na
theorem PX.put {w wx : World} {q : Nat} {S J : List Kd} {ab : Nat → Nat} {k : Nat} {aS : Option Addr} {cS : Nat} {aJ : Option Addr} {cJ gA cA na : Nat} {a b : Kd} (h : PX w q S J k aS cS aJ cJ gA cA na a b ab wx) (p x : Nat) : PX w q S J k aS cS aJ cJ gA cA na a b (updN ab p x) (wx.setCell ⟨gA, p, none⟩ (.int .i64 (x : Int))) := by
  have := h.lt
  exact ⟨h.j.put p x, h.xa.far (show na ≠ gA by omega) _, h.xb.far (show na + 1 ≠ gA by omega) _, h.lt⟩
theorem tk_some (S J : List Kd) : ∃ a S1 J1, tkK S J = (a, S1, J1) := ⟨_, _, _, rfl⟩
set_option maxRecDepth 100000 in
set_option maxHeartbeats 8000000 in
theorem join_any (q n : Nat) (S0 : List Kd) (aS0 : Option Addr) (cS0 : Nat) (w : World) (hf : Blk w q 73 #[.slice aS0 S0.length cS0, .slice none 0 0]) (hS : QN 0 S0 aS0 cS0 w) (hq : noB aS0 cS0 q) (htq : TQ S0 [] n) (hsum : sumK S0 ≤ 1000000000000000) (hn : n ≤ 300) (hl : S0.length ≤ n) (A : Nat → Nat) (N : Nat) (hR : joinV S0.length S0 [] (fun _ => 0) n = (A, N)) :
    Calls Try.prog 34 #[.pointer (some ⟨q, 0, none⟩), .int .i64 (n : Int)] w fun e w' => ∃ g cA, e = .returned (.slice (some ⟨g, 0, none⟩) N cA) ∧ w'.ownsRow w.heap.size 3 1 (.slice (some ⟨g, 0, none⟩) N cA) N (intsN A N) ∧ w.grownBy w' (some q) := by
  have hqw := hf.lt
  have hm := run_ints n (by omega)
  have HJ0 : Hid (JW w q S0 [] (fun _ => 0) n aS0 cS0 none 0 w.heap.size n (w.alloc (.cells (rI n fun _ => 0) 3))) := Lib.hid (by
    have hb := Blk.new w 3 (rI n fun _ => 0)
    refine ⟨World.grownBy_alloc w _ _, ⟨hf.alloc _, hS.below ((Below.refl _ _).alloc (Nat.le_refl _) _), hq, hS.low, QN.none_ _ _, hqw⟩, (fun h => by omega), ⟨by rw [intsN_len]; omega, .inr ⟨w.heap.size, n, _, rfl, Nat.le_refl _, hb, Nat.le_refl _, by unfold maxLen; omega, by rw [row_size]; omega, ?_⟩⟩, Nat.le_refl _⟩
    unfold intsN
    apply List.ext_getElem?
    intro i
    rw [List.getElem?_take, Nat.mul_one, List.getElem?_map]
    by_cases h : i < n
    · rw [if_pos h, Array.getElem?_toList, row_get _ h, List.getElem?_range h]; rfl
    · rw [if_neg h, List.getElem?_eq_none (by simp; omega)]; rfl)
  have HR0 := Lib.hid hR
  have HQ0 := Lib.hid htq
  have HS0 := Lib.hid hsum
  have HN := Lib.hid (And.intro hn hl)
  clear hf hS hq htq hsum hR hqw
  go_enter Try.func34, Try.ntmps34
  go_wp2_with fail
  clear hm
  go_loopg [5, 6, 7, 8] S0.length (fun gk v _ _ _ wr => ∃ (t : Nat) (S J : List Kd) (ab : Nat → Nat) (k : Nat) (aS : Option Addr) (cS : Nat) (aJ : Option Addr) (cJ gA cA : Nat), gk = t ∧ v = .slice (some ⟨gA, 0, none⟩) k cA ∧ Hid (joinV t S J ab k = (A, N)) ∧ Hid (TQ S J k) ∧ Hid (sumK (S ++ J) ≤ 1000000000000000) ∧ Hid (S.length + J.length ≤ t ∧ k + S.length + J.length ≤ 600 ∧ k ≤ 600) ∧ Hid (∀ i, k ≤ i → ab i = 0) ∧ Hid (JW w q S J ab k aS cS aJ cJ gA cA wr))
  case atStart =>
    have hN := HN.out
    exact ⟨S0.length, S0, [], fun _ => 0, n, aS0, cS0, none, 0, w.heap.size, n, rfl, rfl, HR0, HQ0, Lib.hid (by rw [List.append_nil]; exact HS0.out), Lib.hid (by simp; omega), Lib.hid (fun _ _ => rfl), HJ0⟩
  case round =>
    obtain ⟨t, S, J, ab, k, aS, cS, aJ, cJ, gA, cA, hgk, rfl, HR, HQ, HSU, HL, HZ, HJ⟩ := hrel
    have HG := Lib.hid hgk
    clear hgk HJ0 HR0 HQ0 HS0 HN
    have HF0 : Hid (wr.drew.cell? ⟨q, 0, none⟩ = some (.slice aS S.length cS)) := Lib.hid (HJ.out.fq.f.drew.cell 0)
    have HF1 : Hid (wr.drew.cell? ⟨q, 1, none⟩ = some (.slice aJ J.length cJ)) := Lib.hid (HJ.out.fq.f.drew.cell 1)
    obtain ⟨m, hm⟩ : ∃ m, m = S.length + J.length := ⟨_, rfl⟩
    have hml : m ≤ 600 := by have := HL.out; omega
    have HSUM : Hid (IntKind.i64.wrap ((S.length : Int) + (J.length : Int)) = (m : Int)) := Lib.hid (by rw [IntWalk.i64_in _ (by omega)]; omega)
    have HM := Lib.hid hm
    clear hm
    by_cases h2 : m ≤ 1
    · have hm2 : ¬ (m : Int) > 1 := by omega
      go_wp2_with fail
      refine wp_region_anyL (Two 1000 1001 fun _ _ wx => wx = wr.drew) (by kernel_rfl) rfl ?_
      refine anyL_take (i := 0) (v := ?_) rfl (by kernel_rfl) (by kernel_rfl) (by kernel_rfl) (yl_other (by decide) (by decide) rfl (fun f1 f2 wx hT => ?_)) ?_; rotate_left
      · have hT : wx = wr.drew := hT; rw [hT]; refine lands_value (w := wr.drew) ?_ rfl; go_simp <;> rfl
      simp only [pu]
      refine anyL_take (i := 1) (v := ?_) rfl (by kernel_rfl) (by kernel_rfl) (by kernel_rfl) (yl_other (by decide) (by decide) rfl (fun f1 f2 wx hT => ?_)) ?_; rotate_left
      · have hT : wx = wr.drew := hT; rw [hT]; refine lands_value (w := wr.drew) ?_ rfl; go_simp <;> rfl
      simp only [pu]
      refine anyL_take (i := 2) (v := ?_) rfl (by kernel_rfl) (by kernel_rfl) (by kernel_rfl) (yl_other (by decide) (by decide) rfl (fun f1 f2 wx hT => ?_)) ?_; rotate_left
      · have hT : wx = wr.drew := hT; rw [hT]; refine lands_value (w := wr.drew) ?_ rfl; go_simp <;> rfl
      simp only [pu]
      refine anyL_take (i := 3) (v := .slice aS S.length cS) rfl (by kernel_rfl) (by kernel_rfl) (by kernel_rfl) (yl_other (by decide) (by decide) rfl (fun f1 f2 wx hT => ?_)) ?_
      · have hT : wx = wr.drew := hT; rw [hT]; have c0 := HF0.out; refine lands_value (w := wr.drew) ?_ rfl; go_simp
      simp only [pu]
      refine anyL_take (i := 4) (v := ?_) rfl (by kernel_rfl) (by kernel_rfl) (by kernel_rfl) (yl_other (by decide) (by decide) rfl (fun f1 f2 wx hT => ?_)) ?_; rotate_left
      · have hT : wx = wr.drew := hT; rw [hT]; refine lands_value (w := wr.drew) ?_ rfl; go_simp <;> rfl
      simp only [pu]
      refine anyL_take (i := 5) (v := ?_) rfl (by kernel_rfl) (by kernel_rfl) (by kernel_rfl) (yl_other (by decide) (by decide) rfl (fun f1 f2 wx hT => ?_)) ?_; rotate_left
      · have hT : wx = wr.drew := hT; rw [hT]; refine lands_value (w := wr.drew) ?_ rfl; go_simp <;> rfl
      simp only [pu]
      refine anyL_take (i := 6) (v := ?_) rfl (by kernel_rfl) (by kernel_rfl) (by kernel_rfl) (yl_other (by decide) (by decide) rfl (fun f1 f2 wx hT => ?_)) ?_; rotate_left
      · have hT : wx = wr.drew := hT; rw [hT]; refine lands_value (w := wr.drew) ?_ rfl; go_simp <;> rfl
      simp only [pu]
      refine anyL_take (i := 7) (v := ?_) rfl (by kernel_rfl) (by kernel_rfl) (by kernel_rfl) (yl_other (by decide) (by decide) rfl (fun f1 f2 wx hT => ?_)) ?_; rotate_left
      · have hT : wx = wr.drew := hT; rw [hT]; refine lands_value (w := wr.drew) ?_ rfl; go_simp <;> rfl
      simp only [pu]
      refine anyL_take (i := 8) (v := .slice aJ J.length cJ) rfl (by kernel_rfl) (by kernel_rfl) (by kernel_rfl) (yl_other (by decide) (by decide) rfl (fun f1 f2 wx hT => ?_)) ?_
      · have hT : wx = wr.drew := hT; rw [hT]; have c0 := HF1.out; refine lands_value (w := wr.drew) ?_ rfl; go_simp
      simp only [pu]
      refine anyL_take (i := 9) (v := ?_) rfl (by kernel_rfl) (by kernel_rfl) (by kernel_rfl) (yl_other (by decide) (by decide) rfl (fun f1 f2 wx hT => ?_)) ?_; rotate_left
      · have hT : wx = wr.drew := hT; rw [hT]; refine lands_value (w := wr.drew) ?_ rfl; go_simp <;> rfl
      simp only [pu]
      refine anyL_take (i := 10) (v := .int .i64 (m : Int)) rfl (by kernel_rfl) (by kernel_rfl) (by kernel_rfl) (yl_other (by decide) (by decide) rfl (fun f1 f2 wx hT => ?_)) ?_
      · have hT : wx = wr.drew := hT; rw [hT]; refine lands_value (w := wr.drew) ?_ rfl; go_simp <;> exact HSUM.out
      simp only [pu]
      refine anyL_take (i := 11) (v := .bool false) rfl (by kernel_rfl) (by kernel_rfl) (by kernel_rfl) (yl_other (by decide) (by decide) rfl (fun f1 f2 wx hT => ?_)) ?_
      · have hT : wx = wr.drew := hT; rw [hT]; refine lands_value (w := wr.drew) ?_ rfl; go_simp <;> omega
      simp only [pu]
      refine anyL_done (by kernel_rfl) (fun wr2 hT => ?_) _
      have hT : wr2 = wr.drew := hT
      rw [hT]
      clear hT
      have HE : Hid (ab = A ∧ k = N) := Lib.hid (by
        have h3 := HR.out
        rw [joinV_end (by have := HM.out; omega)] at h3
        exact ⟨congrArg Prod.fst h3, congrArg Prod.snd h3⟩)
      go_wp2_with fail
      go_ret
      obtain ⟨rfl, rfl⟩ := HE.out
      exact ⟨gA, cA, rfl, HJ.out.drew.a, HJ.out.drew.g⟩
    · have hm2 : (m : Int) > 1 := by omega
      go_wp2_with fail
      refine wp_region_anyL (Two 1000 1001 fun _ _ wx => wx = wr.drew) (by kernel_rfl) rfl ?_
      refine anyL_take (i := 0) (v := ?_) rfl (by kernel_rfl) (by kernel_rfl) (by kernel_rfl) (yl_other (by decide) (by decide) rfl (fun f1 f2 wx hT => ?_)) ?_; rotate_left
      · have hT : wx = wr.drew := hT; rw [hT]; refine lands_value (w := wr.drew) ?_ rfl; go_simp <;> rfl
      simp only [pu]
      refine anyL_take (i := 1) (v := ?_) rfl (by kernel_rfl) (by kernel_rfl) (by kernel_rfl) (yl_other (by decide) (by decide) rfl (fun f1 f2 wx hT => ?_)) ?_; rotate_left
      · have hT : wx = wr.drew := hT; rw [hT]; refine lands_value (w := wr.drew) ?_ rfl; go_simp <;> rfl
      simp only [pu]
      refine anyL_take (i := 2) (v := ?_) rfl (by kernel_rfl) (by kernel_rfl) (by kernel_rfl) (yl_other (by decide) (by decide) rfl (fun f1 f2 wx hT => ?_)) ?_; rotate_left
      · have hT : wx = wr.drew := hT; rw [hT]; refine lands_value (w := wr.drew) ?_ rfl; go_simp <;> rfl
      simp only [pu]
      refine anyL_take (i := 3) (v := .slice aS S.length cS) rfl (by kernel_rfl) (by kernel_rfl) (by kernel_rfl) (yl_other (by decide) (by decide) rfl (fun f1 f2 wx hT => ?_)) ?_
      · have hT : wx = wr.drew := hT; rw [hT]; have c0 := HF0.out; refine lands_value (w := wr.drew) ?_ rfl; go_simp
      simp only [pu]
      refine anyL_take (i := 4) (v := ?_) rfl (by kernel_rfl) (by kernel_rfl) (by kernel_rfl) (yl_other (by decide) (by decide) rfl (fun f1 f2 wx hT => ?_)) ?_; rotate_left
      · have hT : wx = wr.drew := hT; rw [hT]; refine lands_value (w := wr.drew) ?_ rfl; go_simp <;> rfl
      simp only [pu]
      refine anyL_take (i := 5) (v := ?_) rfl (by kernel_rfl) (by kernel_rfl) (by kernel_rfl) (yl_other (by decide) (by decide) rfl (fun f1 f2 wx hT => ?_)) ?_; rotate_left
      · have hT : wx = wr.drew := hT; rw [hT]; refine lands_value (w := wr.drew) ?_ rfl; go_simp <;> rfl
      simp only [pu]
      refine anyL_take (i := 6) (v := ?_) rfl (by kernel_rfl) (by kernel_rfl) (by kernel_rfl) (yl_other (by decide) (by decide) rfl (fun f1 f2 wx hT => ?_)) ?_; rotate_left
      · have hT : wx = wr.drew := hT; rw [hT]; refine lands_value (w := wr.drew) ?_ rfl; go_simp <;> rfl
      simp only [pu]
      refine anyL_take (i := 7) (v := ?_) rfl (by kernel_rfl) (by kernel_rfl) (by kernel_rfl) (yl_other (by decide) (by decide) rfl (fun f1 f2 wx hT => ?_)) ?_; rotate_left
      · have hT : wx = wr.drew := hT; rw [hT]; refine lands_value (w := wr.drew) ?_ rfl; go_simp <;> rfl
      simp only [pu]
      refine anyL_take (i := 8) (v := .slice aJ J.length cJ) rfl (by kernel_rfl) (by kernel_rfl) (by kernel_rfl) (yl_other (by decide) (by decide) rfl (fun f1 f2 wx hT => ?_)) ?_
      · have hT : wx = wr.drew := hT; rw [hT]; have c0 := HF1.out; refine lands_value (w := wr.drew) ?_ rfl; go_simp
      simp only [pu]
      refine anyL_take (i := 9) (v := ?_) rfl (by kernel_rfl) (by kernel_rfl) (by kernel_rfl) (yl_other (by decide) (by decide) rfl (fun f1 f2 wx hT => ?_)) ?_; rotate_left
      · have hT : wx = wr.drew := hT; rw [hT]; refine lands_value (w := wr.drew) ?_ rfl; go_simp <;> rfl
      simp only [pu]
      refine anyL_take (i := 10) (v := .int .i64 (m : Int)) rfl (by kernel_rfl) (by kernel_rfl) (by kernel_rfl) (yl_other (by decide) (by decide) rfl (fun f1 f2 wx hT => ?_)) ?_
      · have hT : wx = wr.drew := hT; rw [hT]; refine lands_value (w := wr.drew) ?_ rfl; go_simp <;> exact HSUM.out
      simp only [pu]
      refine anyL_take (i := 11) (v := .bool true) rfl (by kernel_rfl) (by kernel_rfl) (by kernel_rfl) (yl_other (by decide) (by decide) rfl (fun f1 f2 wx hT => ?_)) ?_
      · have hT : wx = wr.drew := hT; rw [hT]; refine lands_value (w := wr.drew) ?_ rfl; go_simp <;> omega
      simp only [pu]
      refine anyL_done (by kernel_rfl) (fun wr2 hT => ?_) _
      have hT : wr2 = wr.drew := hT
      subst hT
      have HJ1 := Lib.hid HJ.out.drew
      clear HJ HF0 HF1 hm2
      obtain ⟨a, S1, J1, e1⟩ := tk_some S J
      obtain ⟨b, S2, J2, e2⟩ := tk_some S1 J1
      have hM := HM.out
      obtain ⟨pp, _, _, hlen, hq2⟩ := HQ.out.step (by omega) e1 e2
      have hne : S ++ J ≠ [] := fun e => by
        have := congrArg List.length e
        rw [List.length_append] at this
        simp only [List.length_nil] at this
        omega
      have hne1 : S1 ++ J1 ≠ [] := fun e => by
        have h3 := (tk_is HQ.out.s HQ.out.j HQ.out.sj hne).1.length_eq
        rw [e1] at h3
        simp only [List.length_cons, e, List.length_append, List.length_nil] at h3
        omega
      have hak := HQ.out.ok.2 a (pp.mem_iff.2 (List.mem_cons_self ..))
      have hbk := HQ.out.ok.2 b (pp.mem_iff.2 (List.mem_cons_of_mem _ (List.mem_cons_self ..)))
      have hsu : a.1 + (b.1 + sumK (S2 ++ J2)) ≤ 1000000000000000 := by
        have := HSU.out
        rw [sumK_perm pp] at this
        exact this
      have HR2 : ∃ t2, t = t2 + 1 ∧ Hid (joinV t2 S2 (J2 ++ [(a.1 + b.1, k)]) (updN (updN ab a.2 k) b.2 k) (k + 1) = (A, N)) := by
        have h3 := HR.out
        have h4 := HL.out.1
        cases t with
        | zero => omega
        | succ t2 => rw [joinV_step (by omega) e1 e2] at h3; exact ⟨t2, rfl, Lib.hid h3⟩
      obtain ⟨t2, ht2, HR2⟩ := HR2
      have HT2 := Lib.hid ht2
      have HQ2 := Lib.hid hq2
      have HLE := Lib.hid hlen
      have HSB : Hid (a.1 + (b.1 + sumK (S2 ++ J2)) ≤ 1000000000000000) := Lib.hid hsu
      have HKB : Hid (a.2 < k ∧ b.2 < k) := Lib.hid ⟨hak, hbk⟩
      clear pp hlen hq2 hsu ht2 hM HR
      go_wp2_with fail
      refine (take_any q w.heap.size S J aS cS aJ cJ _ HJ1.out.fq hne a S1 J1 e1).mono ?_
      rintro e w1 ⟨rfl, hg1, aS1, cS1, aJ1, cJ1, hf1, hn1⟩
      have HJ2 := Lib.hid (HJ1.out.take hg1 hf1 hn1)
      clear HJ1 hg1 hf1 hn1
      go_wp2_with fail
      refine (take_any q w.heap.size S1 J1 aS1 cS1 aJ1 cJ1 _ HJ2.out.fq hne1 b S2 J2 e2).mono ?_
      rintro e w2 ⟨rfl, hg2, aS2, cS2, aJ2, cJ2, hf2, hn2⟩
      have HJ3 := Lib.hid (HJ2.out.take hg2 hf2 hn2)
      clear HJ2 hg2 hf2 hn2 e1 e2 hne hne1
      have z0 := zeroNode
      have hki : (a.2 : Int) < (k : Int) := by omega
      have hkj : (b.2 : Int) < (k : Int) := by omega
      go_wp2_with fail
      clear z0
      have HPX0 : Hid (PX w q S2 J2 k aS2 cS2 aJ2 cJ2 gA cA w2.heap.size a b ab ((w2.alloc (.cells #[.int .i64 (a.1 : Int), .int .i64 (a.2 : Int)] 75)).alloc (.cells #[.int .i64 (b.1 : Int), .int .i64 (b.2 : Int)] 75)).drew) := Lib.hid
        ⟨((HJ3.out.alloc _).alloc _).drew, ((Blk.new w2 _ _).alloc _).drew, ((Blk.new _ _ _).cast' ⟨by simp, rfl⟩).drew, (HJ3.out.a.lt gA rfl).2⟩
      obtain ⟨na, hna⟩ : ∃ na, na = w2.heap.size := ⟨_, rfl⟩
      rw [← hna] at HPX0
      have HPX : Hid (∀ f1 f2 wx, (bif f1 then (bif f2 then PX w q S2 J2 k aS2 cS2 aJ2 cJ2 gA cA na a b (updN (updN ab a.2 k) b.2 k) wx else PX w q S2 J2 k aS2 cS2 aJ2 cJ2 gA cA na a b (updN ab a.2 k) wx) else (bif f2 then PX w q S2 J2 k aS2 cS2 aJ2 cJ2 gA cA na a b (updN ab b.2 k) wx else PX w q S2 J2 k aS2 cS2 aJ2 cJ2 gA cA na a b ab wx)) → ∃ g, PX w q S2 J2 k aS2 cS2 aJ2 cJ2 gA cA na a b g wx) := Lib.hid fun f1 f2 wx h => by
        cases f1 <;> cases f2 <;> exact ⟨_, h⟩
      have HCA : Hid (∀ wx, (∃ g, PX w q S2 J2 k aS2 cS2 aJ2 cJ2 gA cA na a b g wx) → wx.cell? ⟨na, 1, none⟩ = some (.int .i64 (a.2 : Int))) := Lib.hid fun wx ⟨g, h⟩ => h.xa.cell 1
      have HCB : Hid (∀ wx, (∃ g, PX w q S2 J2 k aS2 cS2 aJ2 cJ2 gA cA na a b g wx) → wx.cell? ⟨na + 1, 1, none⟩ = some (.int .i64 (b.2 : Int))) := Lib.hid fun wx ⟨g, h⟩ => h.xb.cell 1
      have HAT : Hid (∀ wx p, p < k → (∃ g, PX w q S2 J2 k aS2 cS2 aJ2 cJ2 gA cA na a b g wx) → ∃ x, wx.cell? ⟨gA, p, none⟩ = some x) := Lib.hid fun wx p hp ⟨g, h⟩ => ⟨_, h.j.at_ hp⟩
      have HFZ : Hid (∀ wx (p : Nat), (∃ g, PX w q S2 J2 k aS2 cS2 aJ2 cJ2 gA cA na a b g wx) → wx.frozen? ⟨gA, p, none⟩ = false) := Lib.hid fun wx p ⟨g, h⟩ => h.j.a.frozenAt p
      have HPA : Hid (∀ f2 wx, (bif f2 then PX w q S2 J2 k aS2 cS2 aJ2 cJ2 gA cA na a b (updN ab b.2 k) wx else PX w q S2 J2 k aS2 cS2 aJ2 cJ2 gA cA na a b ab wx) → (bif f2 then PX w q S2 J2 k aS2 cS2 aJ2 cJ2 gA cA na a b (updN (updN ab a.2 k) b.2 k) (wx.setCell ⟨gA, a.2, none⟩ (.int .i64 (k : Int))) else PX w q S2 J2 k aS2 cS2 aJ2 cJ2 gA cA na a b (updN ab a.2 k) (wx.setCell ⟨gA, a.2, none⟩ (.int .i64 (k : Int))))) := Lib.hid fun f2 wx h => by
        cases f2 with
        | false => exact PX.put h a.2 k
        | true =>
          have h3 := PX.put h a.2 k
          rw [updN_comm] at h3
          exact h3
      have HPB : Hid (∀ f1 wx, (bif f1 then PX w q S2 J2 k aS2 cS2 aJ2 cJ2 gA cA na a b (updN ab a.2 k) wx else PX w q S2 J2 k aS2 cS2 aJ2 cJ2 gA cA na a b ab wx) → (bif f1 then PX w q S2 J2 k aS2 cS2 aJ2 cJ2 gA cA na a b (updN (updN ab a.2 k) b.2 k) (wx.setCell ⟨gA, b.2, none⟩ (.int .i64 (k : Int))) else PX w q S2 J2 k aS2 cS2 aJ2 cJ2 gA cA na a b (updN ab b.2 k) (wx.setCell ⟨gA, b.2, none⟩ (.int .i64 (k : Int))))) := Lib.hid fun f1 wx h => by
        cases f1 with
        | false => exact PX.put h b.2 k
        | true => exact PX.put h b.2 k
      rw [← hna]
      clear hna
      refine wp_region_anyL (Two 9 11 fun f1 f2 wx => bif f1 then (bif f2 then PX w q S2 J2 k aS2 cS2 aJ2 cJ2 gA cA na a b (updN (updN ab a.2 k) b.2 k) wx else PX w q S2 J2 k aS2 cS2 aJ2 cJ2 gA cA na a b (updN ab a.2 k) wx) else (bif f2 then PX w q S2 J2 k aS2 cS2 aJ2 cJ2 gA cA na a b (updN ab b.2 k) wx else PX w q S2 J2 k aS2 cS2 aJ2 cJ2 gA cA na a b ab wx)) (by kernel_rfl) HPX0.out ?_
      refine anyL_take (i := 0) (v := ?_) rfl (by kernel_rfl) (by kernel_rfl) (by kernel_rfl) (yl_other (by decide) (by decide) rfl (fun f1 f2 wx hT => ?_)) ?_; rotate_left
      · refine lands_value (w := wx) ?_ hT; go_simp <;> rfl
      simp only [pu]
      refine anyL_take (i := 1) (v := ?_) rfl (by kernel_rfl) (by kernel_rfl) (by kernel_rfl) (yl_other (by decide) (by decide) rfl (fun f1 f2 wx hT => ?_)) ?_; rotate_left
      · refine lands_value (w := wx) ?_ hT; go_simp <;> rfl
      simp only [pu]
      refine anyL_take (i := 2) (v := .int .i64 (a.2 : Int)) rfl (by kernel_rfl) (by kernel_rfl) (by kernel_rfl) (yl_other (by decide) (by decide) rfl (fun f1 f2 wx hT => ?_)) ?_
      · have c0 := HCA.out _ (HPX.out f1 f2 wx hT); refine lands_value (w := wx) ?_ hT; go_simp
      simp only [pu]
      refine anyL_take (i := 3) (v := ?_) rfl (by kernel_rfl) (by kernel_rfl) (by kernel_rfl) (yl_other (by decide) (by decide) rfl (fun f1 f2 wx hT => ?_)) ?_; rotate_left
      · refine lands_value (w := wx) ?_ hT; go_simp <;> rfl
      simp only [pu]
      refine anyL_take (i := 4) (v := ?_) rfl (by kernel_rfl) (by kernel_rfl) (by kernel_rfl) (yl_other (by decide) (by decide) rfl (fun f1 f2 wx hT => ?_)) ?_; rotate_left
      · refine lands_value (w := wx) ?_ hT; go_simp <;> rfl
      simp only [pu]
      refine anyL_take (i := 5) (v := .int .i64 (b.2 : Int)) rfl (by kernel_rfl) (by kernel_rfl) (by kernel_rfl) (yl_other (by decide) (by decide) rfl (fun f1 f2 wx hT => ?_)) ?_
      · have c0 := HCB.out _ (HPX.out f1 f2 wx hT); refine lands_value (w := wx) ?_ hT; go_simp
      simp only [pu]
      refine anyL_take (i := 6) (v := ?_) rfl (by kernel_rfl) (by kernel_rfl) (by kernel_rfl) (yl_other (by decide) (by decide) rfl (fun f1 f2 wx hT => ?_)) ?_; rotate_left
      · refine lands_value (w := wx) ?_ hT; go_simp <;> rfl
      simp only [pu]
      refine anyL_take (i := 7) (v := ?_) rfl (by kernel_rfl) (by kernel_rfl) (by kernel_rfl) (yl_other (by decide) (by decide) rfl (fun f1 f2 wx hT => ?_)) ?_; rotate_left
      · refine lands_value (w := wx) ?_ hT; go_simp <;> rfl
      simp only [pu]
      refine anyL_take (i := 8) (v := ?_) rfl (by kernel_rfl) (by kernel_rfl) (by kernel_rfl) (yl_other (by decide) (by decide) rfl (fun f1 f2 wx hT => ?_)) ?_; rotate_left
      · refine lands_value (w := wx) ?_ hT; go_simp <;> rfl
      simp only [pu]
      refine anyL_take (i := 9) (v := undef) rfl (by kernel_rfl) (by kernel_rfl) (by kernel_rfl) (yl_first (by decide) rfl (fun f2 wx hT => ?_)) ?_
      · obtain ⟨x, co⟩ := HAT.out _ a.2 hak (HPX.out false f2 wx hT); have fo := HFZ.out _ a.2 (HPX.out false f2 wx hT); have K := HPA.out f2 wx hT; go_simp; exact ⟨rfl, by cases f2 <;> exact K⟩
      simp only [Act.put]
      refine anyL_take (i := 10) (v := ?_) rfl (by kernel_rfl) (by kernel_rfl) (by kernel_rfl) (yl_other (by decide) (by decide) rfl (fun f1 f2 wx hT => ?_)) ?_; rotate_left
      · refine lands_value (w := wx) ?_ hT; go_simp <;> rfl
      simp only [pu]
      refine anyL_take (i := 11) (v := undef) rfl (by kernel_rfl) (by kernel_rfl) (by kernel_rfl) (yl_second (by decide) rfl (fun f1 wx hT => ?_)) ?_
      · obtain ⟨x, co⟩ := HAT.out _ b.2 hbk (HPX.out f1 false wx hT); have fo := HFZ.out _ b.2 (HPX.out f1 false wx hT); have K := HPB.out f1 wx hT; go_simp; exact ⟨rfl, by cases f1 <;> exact K⟩
      simp only [Act.put]
      refine anyL_done (by kernel_rfl) (fun w4 hT => ?_) _
      have HP4 : Hid (PX w q S2 J2 k aS2 cS2 aJ2 cJ2 gA cA na a b (updN (updN ab a.2 k) b.2 k) w4) := Lib.hid hT
      clear hT HPX HCA HCB HAT HFZ HPA HPB HPX0 hki hkj
      have hH5 : (w4.alloc (.cells #[.int .i64 0] 3)).heap.size = w4.heap.size + 1 := by simp
      obtain ⟨i0, hi, hz0, hz1, hz2⟩ := info_parts int_infoC
      have ho5 := (HP4.out.j.a).alloc (.cells #[.int .i64 0] 3)
      have hB5 : w.heap.size ≤ (w4.alloc (.cells #[.int .i64 0] 3)).heap.size := by have := HP4.out.j.g.size; rw [hH5]; omega
      have hL := HL.out
      have hbn := Blk.new w4 3 #[.int .i64 0]
      go_wp2_with (refine wpList_append_lies _ rfl (.tmp 39) (.tmp 40) 22 rfl w.heap.size 3 i0 (.int .i64 0) 1 8 Try.underlying22 hi hz0 hz1 hz2 rfl (by decide) _ k _ rfl ho5 ⟨w4.heap.size, 0, none⟩ 1 1 [.int .i64 0] rfl rfl (World.news_of_block hbn) (by intro u hu; rw [List.mem_singleton.1 hu]; rfl) (by decide) (by unfold maxLen; omega) (by omega) hB5 _ rfl ?_; intro g5 c5 w5 hown5 hgr5 hat5 hlt5)
      have hK := HKB.out
      have hZ0 : updN (updN ab a.2 k) b.2 k k = 0 := by
        unfold updN
        rw [if_neg (by omega), if_neg (by omega)]; exact HZ.out k (Nat.le_refl _)
      have HZ2 : Hid (∀ i, k + 1 ≤ i → updN (updN ab a.2 k) b.2 k i = 0) := Lib.hid fun i hi => by
        unfold updN
        rw [if_neg (by omega), if_neg (by omega)]; exact HZ.out i (by omega)
      have HJ5 := Lib.hid ((HP4.out.j.alloc (.cells #[.int .i64 0] 3)).more (g := g5) (c' := c5) hgr5 hown5 (intsN_succ _ k hZ0) hat5)
      have hlt4 := HP4.out.lt
      have hxa : Blk w5 na 75 #[.int .i64 (a.1 : Int), .int .i64 (a.2 : Int)] := (hgr5.block na (HP4.out.xa.alloc _).lt (fun e => by have e : some na = some gA := e; injection e with e; omega)).trans (HP4.out.xa.alloc _)
      have hxb : Blk w5 (na + 1) 75 #[.int .i64 (b.1 : Int), .int .i64 (b.2 : Int)] := (hgr5.block (na + 1) (HP4.out.xb.alloc _).lt (fun e => by have e : some (na + 1) = some gA := e; injection e with e; omega)).trans (HP4.out.xb.alloc _)
      have hn6 : J2.length ≤ 100000 := by have := HLE.out; omega
      obtain ⟨ao6, cap6, w6, hap, hq6, hg6⟩ := run_oneK ((HJ5.out.drew.alloc (.cells #[.int .i64 ((a.1 + b.1 : Nat) : Int), .int .i64 (k : Int)] 75)).fq.j) (by have := (HJ5.out.drew.alloc (.cells #[.int .i64 ((a.1 + b.1 : Nat) : Int), .int .i64 (k : Int)] 75)).g.size; exact this) hn6 70 (a.1 + b.1, k) ⟨w5.heap.size, 0, none⟩ 1 (fun j u hu => by
        have hb := Blk.new w5.drew 75 #[.int .i64 ((a.1 + b.1 : Nat) : Int), .int .i64 (k : Int)]
        rw [addr_add, Nat.zero_add]
        refine (hb.cell j).trans ?_
        simpa [encK] using hu)
      have hpu := ((HJ5.out.drew.alloc (.cells #[.int .i64 ((a.1 + b.1 : Nat) : Int), .int .i64 (k : Int)] 75)).push hq6 hg6)
      have HJ6 := Lib.hid hpu.2
      have HAP := Lib.hid hap
      have HC6 : Hid (w6.cell? ⟨q, 1, none⟩ = some (.slice aJ2 J2.length cJ2)) := Lib.hid (hpu.1.cell 1)
      have HF6 : Hid (w6.frozen? ⟨q, 1, none⟩ = false) := Lib.hid (hpu.1.frozen 1)
      clear hpu
      have HJJ : Hid (∀ (f1 : Bool) wx, (bif f1 then wx = w5.drew.alloc (.cells #[.int .i64 ((a.1 + b.1 : Nat) : Int), .int .i64 (k : Int)] 75) else wx = w5.drew) → wx.cell? ⟨q, 1, none⟩ = some (.slice aJ2 J2.length cJ2)) := Lib.hid fun f1 wx h => by
        cases f1 with
        | false => rw [show wx = w5.drew from h]; exact HJ5.out.drew.fq.f.cell 1
        | true => rw [show wx = w5.drew.alloc _ from h]; exact (HJ5.out.drew.fq.f.alloc _).cell 1
      have HWA : Hid (∀ (f1 : Bool) wx, (bif f1 then wx = w5.drew.alloc (.cells #[.int .i64 ((a.1 + b.1 : Nat) : Int), .int .i64 (k : Int)] 75) else wx = w5.drew) → wx.cell? ⟨na, 0, none⟩ = some (.int .i64 (a.1 : Int))) := Lib.hid fun f1 wx h => by
        cases f1 with
        | false => rw [show wx = w5.drew from h]; exact hxa.drew.cell 0
        | true => rw [show wx = w5.drew.alloc _ from h]; exact (hxa.drew.alloc _).cell 0
      have HWB : Hid (∀ (f1 : Bool) wx, (bif f1 then wx = w5.drew.alloc (.cells #[.int .i64 ((a.1 + b.1 : Nat) : Int), .int .i64 (k : Int)] 75) else wx = w5.drew) → wx.cell? ⟨na + 1, 0, none⟩ = some (.int .i64 (b.1 : Int))) := Lib.hid fun f1 wx h => by
        cases f1 with
        | false => rw [show wx = w5.drew from h]; exact hxb.drew.cell 0
        | true => rw [show wx = w5.drew.alloc _ from h]; exact (hxb.drew.alloc _).cell 0
      have HSM : Hid (IntKind.i64.wrap ((a.1 : Int) + (b.1 : Int)) = (a.1 : Int) + (b.1 : Int)) := Lib.hid (IntWalk.i64_in _ (by have := HSB.out; omega))
      have HSU2 : Hid (sumK (S2 ++ (J2 ++ [(a.1 + b.1, k)])) ≤ 1000000000000000) := Lib.hid (by
        have e : (S2 ++ (J2 ++ [(a.1 + b.1, k)])).Perm ((a.1 + b.1, k) :: (S2 ++ J2)) := by rw [← List.append_assoc]; exact List.perm_append_singleton _ _
        rw [sumK_perm e]
        show a.1 + b.1 + sumK (S2 ++ J2) ≤ _
        have := HSB.out
        omega)
      have HL2 : Hid (S2.length + (J2 ++ [(a.1 + b.1, k)]).length ≤ t2 ∧ k + 1 + S2.length + (J2 ++ [(a.1 + b.1, k)]).length ≤ 600 ∧ k + 1 ≤ 600) := Lib.hid (by
        have h1 := HLE.out
        have h2 := HT2.out
        simp only [List.length_append, List.length_cons, List.length_nil]
        omega)
      clear hK hZ0 hown5 hgr5 hat5 hlt5 hH5 hi hz0 hz1 hz2 ho5 hB5 hL hbn hlt4 hxa hxb hn6 hap hq6 hg6 HP4
      refine wp_region_anyL (Three 12 13 16 fun f1 f2 f3 wx => bif f3 then wx = w6.setCell ⟨q, 1, none⟩ (.slice ao6 (J2.length + 1) cap6) else bif f2 then wx = w6 else bif f1 then wx = w5.drew.alloc (.cells #[.int .i64 ((a.1 + b.1 : Nat) : Int), .int .i64 (k : Int)] 75) else wx = w5.drew) (by kernel_rfl) rfl ?_
      refine anyL_take (i := 0) (v := ?_) rfl (by kernel_rfl) (by kernel_rfl) (by kernel_rfl) (y3_other (by decide) (by decide) (by decide) rfl (fun f1 f2 f3 wx hT => ?_)) ?_; rotate_left
      · refine lands_value (w := wx) ?_ hT; go_simp <;> rfl
      simp only [pu]
      refine anyL_take (i := 1) (v := ?_) rfl (by kernel_rfl) (by kernel_rfl) (by kernel_rfl) (y3_other (by decide) (by decide) (by decide) rfl (fun f1 f2 f3 wx hT => ?_)) ?_; rotate_left
      · refine lands_value (w := wx) ?_ hT; go_simp <;> rfl
      simp only [pu]
      refine anyL_take (i := 2) (v := ?_) rfl (by kernel_rfl) (by kernel_rfl) (by kernel_rfl) (y3_other (by decide) (by decide) (by decide) rfl (fun f1 f2 f3 wx hT => ?_)) ?_; rotate_left
      · refine lands_value (w := wx) ?_ hT; go_simp <;> rfl
      simp only [pu]
      refine anyL_take (i := 3) (v := ?_) rfl (by kernel_rfl) (by kernel_rfl) (by kernel_rfl) (y3_other (by decide) (by decide) (by decide) rfl (fun f1 f2 f3 wx hT => ?_)) ?_; rotate_left
      · refine lands_value (w := wx) ?_ hT; go_simp <;> rfl
      simp only [pu]
      refine anyL_take (i := 4) (v := .slice aJ2 J2.length cJ2) rfl (by kernel_rfl) (by kernel_rfl) (by kernel_rfl) (y3_ahead (n := 20) (by decide) (by decide) (by decide) (by kernel_rfl) (by kernel_rfl) rfl (fun f1 wx hT => ?_)) ?_
      · have c0 := HJJ.out f1 wx hT; refine lands_value (w := wx) ?_ hT; go_simp
      simp only [pu]
      refine anyL_take (i := 5) (v := ?_) rfl (by kernel_rfl) (by kernel_rfl) (by kernel_rfl) (y3_other (by decide) (by decide) (by decide) rfl (fun f1 f2 f3 wx hT => ?_)) ?_; rotate_left
      · refine lands_value (w := wx) ?_ hT; go_simp <;> rfl
      simp only [pu]
      refine anyL_take (i := 6) (v := .int .i64 (a.1 : Int)) rfl (by kernel_rfl) (by kernel_rfl) (by kernel_rfl) (y3_ahead (n := 20) (by decide) (by decide) (by decide) (by kernel_rfl) (by kernel_rfl) rfl (fun f1 wx hT => ?_)) ?_
      · have c0 := HWA.out f1 wx hT; refine lands_value (w := wx) ?_ hT; go_simp
      simp only [pu]
      refine anyL_take (i := 7) (v := ?_) rfl (by kernel_rfl) (by kernel_rfl) (by kernel_rfl) (y3_other (by decide) (by decide) (by decide) rfl (fun f1 f2 f3 wx hT => ?_)) ?_; rotate_left
      · refine lands_value (w := wx) ?_ hT; go_simp <;> rfl
      simp only [pu]
      refine anyL_take (i := 8) (v := .int .i64 (b.1 : Int)) rfl (by kernel_rfl) (by kernel_rfl) (by kernel_rfl) (y3_ahead (n := 20) (by decide) (by decide) (by decide) (by kernel_rfl) (by kernel_rfl) rfl (fun f1 wx hT => ?_)) ?_
      · have c0 := HWB.out f1 wx hT; refine lands_value (w := wx) ?_ hT; go_simp
      simp only [pu]
      refine anyL_take (i := 9) (v := .int .i64 ((a.1 + b.1 : Nat) : Int)) rfl (by kernel_rfl) (by kernel_rfl) (by kernel_rfl) (y3_other (by decide) (by decide) (by decide) rfl (fun f1 f2 f3 wx hT => ?_)) ?_
      · refine lands_value (w := wx) ?_ hT; go_simp <;> exact HSM.out
      simp only [pu]
      refine anyL_take (i := 10) (v := ?_) rfl (by kernel_rfl) (by kernel_rfl) (by kernel_rfl) (y3_other (by decide) (by decide) (by decide) rfl (fun f1 f2 f3 wx hT => ?_)) ?_; rotate_left
      · refine lands_value (w := wx) ?_ hT; go_simp <;> rfl
      simp only [pu]
      refine anyL_take (i := 11) (v := ?_) rfl (by kernel_rfl) (by kernel_rfl) (by kernel_rfl) (y3_other (by decide) (by decide) (by decide) rfl (fun f1 f2 f3 wx hT => ?_)) ?_; rotate_left
      · refine lands_value (w := wx) ?_ hT; go_simp <;> rfl
      simp only [pu]
      refine anyL_take (i := 12) (v := .slice (some ⟨w5.heap.size, 0, none⟩) 1 1) rfl (by kernel_rfl) (by kernel_rfl) (by kernel_rfl) (y3_first (n := 20) (by decide) (by decide) (by kernel_rfl) (by kernel_rfl) rfl (fun wx hT => ?_)) ?_
      · have hT : wx = w5.drew := hT; rw [hT]; refine lands_value (w := w5.drew.alloc (.cells #[.int .i64 ((a.1 + b.1 : Nat) : Int), .int .i64 (k : Int)] 75)) ?_ rfl; go_simp
      simp only [pu]
      refine anyL_take (i := 13) (v := .slice ao6 (J2.length + 1) cap6) rfl (by kernel_rfl) (by kernel_rfl) (by kernel_rfl) (y3_second (n := 20) (by decide) (by decide) rfl (by kernel_rfl) (by kernel_rfl) rfl (fun wx hT => ?_)) ?_
      · have hT : wx = w5.drew.alloc (.cells #[.int .i64 ((a.1 + b.1 : Nat) : Int), .int .i64 (k : Int)] 75) := hT; rw [hT]; exact lands_append (.tmp 46) (.tmp 54) 70 rfl rfl rfl HAP.out rfl
      simp only [pu]
      refine anyL_take (i := 14) (v := ?_) rfl (by kernel_rfl) (by kernel_rfl) (by kernel_rfl) (y3_other (by decide) (by decide) (by decide) rfl (fun f1 f2 f3 wx hT => ?_)) ?_; rotate_left
      · refine lands_value (w := wx) ?_ hT; go_simp <;> rfl
      simp only [pu]
      refine anyL_take (i := 15) (v := ?_) rfl (by kernel_rfl) (by kernel_rfl) (by kernel_rfl) (y3_other (by decide) (by decide) (by decide) rfl (fun f1 f2 f3 wx hT => ?_)) ?_; rotate_left
      · refine lands_value (w := wx) ?_ hT; go_simp <;> rfl
      simp only [pu]
      refine anyL_take (i := 16) (v := undef) rfl (by kernel_rfl) (by kernel_rfl) (by kernel_rfl) (y3_third (by decide) (by decide) rfl (by kernel_rfl) rfl (fun f1 wx hT => ?_)) ?_
      · have hT : wx = w6 := hT; rw [hT]; have co := HC6.out; have fo := HF6.out; go_simp; exact ⟨rfl, rfl⟩
      simp only [Act.put]
      refine anyL_done (by kernel_rfl) (fun w7 hT => ?_) _
      have hT : w7 = _ := hT
      rw [hT]
      clear hT HJJ HWA HWB HC6 HF6 HAP
      go_wp2_with fail
      go_roundg t2
      case measure => have h1 := HG.out; have h2 := HT2.out; omega
      case rel => exact ⟨t2, S2, J2 ++ [(a.1 + b.1, k)], updN (updN ab a.2 k) b.2 k, k + 1, aS2, cS2, ao6, cap6, g5, c5, rfl, by trivial, HR2, HQ2, HSU2, HL2, HZ2, HJ6⟩
end Go.Proofs.Ytmmkmbinmmfblaa
