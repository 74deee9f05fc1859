/- Nodes sorted; the developers' symbolsOf of chapter 9. -/
import Derived.Test.YtmmkmbinmmfblaaJk
import Derived.Test.YtmmkmbinmmfblaaLs
import Derived.Test.YtmmkmbinmmfblaaMB
namespace Go.Proofs.Ytmmkmbinmmfblaa
open Go.RowKit
theorem len_zero (w : World) : Calls Try.prog 47 #[.int .u64 0] w fun e w' => e = .returned (.int .i64 0) ∧ w' = w :=
  by
  have h := Any.bits_Len (SlLaysF0.n15.bits (P := Try.prog) (ρ := sortN_ren) { sortN with }) 0 w (by decide) (by decide)
  exact h.mono fun _ _ h => h
set_option maxRecDepth 100000 in
set_option maxHeartbeats 2000000 in
theorem insert_none (ao : Option Addr) (cap : Nat) (fv : Value) (w : World) :
    Calls Try.prog 49 #[.slice ao 0 cap, .int .i64 0, .int .i64 0, fv] w fun e w' => e = .returned (.tuple #[]) ∧ w' = w := by
  go_enter Try.func49, Try.ntmps49
  go_wp2_with fail
  go_loopw [8] (fun i wr => i = .int .i64 1 ∧ w = wr) (fun _ _ => 0)
  case atStart => exact ⟨rfl, rfl⟩
  case round =>
    obtain ⟨rfl, rfl⟩ := hrel
    go_wp2_with fail
    go_end0
    exact ⟨rfl, rfl⟩
set_option maxRecDepth 100000 in
set_option maxHeartbeats 2000000 in
theorem pdq_none (ao : Option Addr) (cap : Nat) (fv : Value) (w : World) :
    Calls Try.prog 46 #[.slice ao 0 cap, .int .i64 0, .int .i64 0, .int .i64 0, fv] w fun e w' => e = .returned (.tuple #[]) ∧ w' = w := by
  go_enter Try.func46, Try.ntmps46
  go_wp2_with fail
  go_loopw [1, 2, 3] (fun a b c wr => a = .int .i64 0 ∧ b = .int .i64 0 ∧ c = .int .i64 0 ∧ w = wr) (fun _ _ _ _ => 0)
  case atStart => exact ⟨rfl, rfl, rfl, rfl⟩
  case round =>
    obtain ⟨rfl, rfl, rfl, rfl⟩ := hrel
    go_wp2_with fail
    refine (insert_none ao cap fv w).mono ?_
    rintro e w1 ⟨rfl, rfl⟩
    go_wp2_with fail
    exact bodyPost_ret (results_none rfl _ _ _) rfl ⟨rfl, rfl⟩
set_option maxRecDepth 100000 in
set_option maxHeartbeats 2000000 in
theorem sort_none (ao : Option Addr) (cap : Nat) (fv : Value) (w : World) :
    Calls Try.prog 40 #[.slice ao 0 cap, fv] w fun e w' => e = .returned (.tuple #[]) ∧ w' = w := by
  go_enter Try.func40, Try.ntmps40
  go_wp2_with fail
  refine (len_zero w).mono ?_
  rintro e w1 ⟨rfl, rfl⟩
  go_wp2_with fail
  refine (pdq_none ao cap fv w1).mono ?_
  rintro e w2 ⟨rfl, rfl⟩
  go_wp2_with fail
  go_end0
  exact ⟨rfl, rfl⟩
theorem grownBy_sortK {w : World} {g o n : Nat} {os : Array Obj} (d : Array Kd) : w.grownBy (sortWorldK encK 2 w g o n d os) (some g) := by
  refine ⟨rfl, rfl, rfl, by simp [sortWorldK, Sort.grow, Sort.putRowK, Sort.putRow, Sort.mapBlock, Sort.ahead], fun k hk hne => ?_⟩
  unfold sortWorldK
  rw [Sort.heap_grow_old _ _ (by simpa [Sort.putRowK] using hk)]
  have : g ≠ k := fun e => hne (by rw [e])
  simp [Sort.putRowK, Sort.putRow, Sort.mapBlock, Sort.ahead, Array.getElem?_modify, this]
theorem flat_get (l : List Kd) (j : Nat) (hj : j < l.length * 2) : (cellsK l)[j]? = some ((Sort.flatK encK 2 l.toArray)[j]!) := by
  have h1 : (Sort.flatK encK 2 l.toArray)[j]! = (encK l.toArray[j / 2]!)[j % 2]! := Sort.get_flatK _ _ _ _ (by simpa using hj)
  rw [h1]
  clear h1
  induction l generalizing j with
  | nil => simp at hj
  | cons x l ih =>
    rw [cellsK_cons]
    match j, hj with
    | 0, _ => rfl
    | 1, _ => rfl
    | j + 2, hj =>
      have h2 := ih j (by simp at hj; omega)
      have e1 : (j + 2) / 2 = j / 2 + 1 := by omega
      have e2 : (j + 2) % 2 = j % 2 := by omega
      rw [e1, e2]
      show (cellsK l)[j]? = _
      rw [h2]
      congr 3
      simp
theorem sort_nodes {B n : Nat} {l : List Kd} {ao : Option Addr} {cap : Nat} {w : World} (h : QN B l ao cap w) (hB : B ≤ w.heap.size) (hk : okK l n) (hn : l.length ≤ 100000) :
    Calls Try.prog 40 #[.slice ao l.length cap, .func (.func 41) #[] #[]] w fun e w' => e = .returned (.tuple #[]) ∧ ∃ S : List Kd, S.Perm l ∧ S.Pairwise klt ∧ QN B S ao cap w' ∧ Below B w w' := by
  rcases Nat.eq_zero_or_pos l.length with h0 | h0
  · have hl : l = [] := List.eq_nil_of_length_eq_zero h0
    rw [h0]
    refine (sort_none ao cap _ w).mono fun e w' ⟨h1, h2⟩ => ⟨h1, l, List.Perm.refl _, ?_, ?_, ?_⟩
    · rw [hl]; exact List.Pairwise.nil
    · rw [h2]; exact h
    · rw [h2]; exact Below.refl _ _
  · have hle := h.le
    obtain ⟨g, off, rfl, hBg, hgl, hsp, hcl⟩ := h.at_ (by omega)
    have hH : Sort.HoldsK encK 2 w g off l.toArray := fun j hj => by
      rw [Sort.size_flatK] at hj
      have hj2 : j < l.length * 2 := by simpa using hj
      exact ⟨hcl j _ (flat_get l j hj2), (hsp j (by omega)).2⟩
    have eg : ∀ args w, (callFunc 41 args).run Try.prog w = .ok (.enter 41 args) w := enters_of Try.func41 (by kernel_rfl) rfl
    have hcon := AnyQ.slices_SortFunc sortN 2 Try.isAgg75 Try.sizeOf75 encK (fun _ => rfl) (fun x v hv => by simp [encK] at hv; rcases hv with rfl | rfl <;> rfl) cmpK cmpK_swo 41 #[] g off cap l.toArray w eg (closure_lays g off l.toArray.size w) hH hgl (by simp; omega)
    change Calls Try.prog 40 _ _ _ at hcon
    rw [List.size_toArray] at hcon
    refine hcon.mono fun e w' ⟨he, d', nd, os, hp, hs, hw⟩ => ⟨he, d'.toList, ?_⟩
    obtain ⟨p1, _, p3⟩ := hp
    have hsz : d'.size = l.length := by simpa using p1
    have hx : d'.extract 0 l.length = d' := by rw [← hsz]; exact Array.extract_size
    have hx2 : l.toArray.extract 0 l.length = l.toArray := by rw [show l.length = l.toArray.size by simp]; exact Array.extract_size
    rw [hx, hx2] at p3
    have hperm : d'.toList.Perm l := p3
    have hlen : d'.toList.length = l.length := hperm.length_eq
    have hH' : Sort.HoldsK encK 2 w' g off d' := by
      rw [hw]
      unfold sortWorldK
      refine Sort.holdsK_grow _ _ _ _ _ _ _ (by simpa [Sort.putRowK, Sort.ahead] using hgl) ?_
      exact Sort.holdsK_putRowK _ _ _ _ _ l.toArray d' (Sort.holdsK_ahead _ _ _ _ _ _ _ hH) (by rw [hsz]; simp)
    have hgr : w.grownBy w' (some g) := by rw [hw]; exact grownBy_sortK d'
    refine ⟨hperm, ?_, ⟨by rw [hlen]; exact hle, h.mx, (fun e => by cases e), fun h0 => ⟨g, off, rfl, hBg, Nat.lt_of_lt_of_le hgl hgr.size, fun j hj => ?_, fun j u hu => ?_⟩⟩, ?_⟩
    · rw [List.pairwise_iff_getElem]
      intro i j hi hj hij
      have h1 := hs i j (Nat.zero_le _) hij (by omega)
      have ei : d'[i]! = d'.toList[i] := by rw [getElem!_pos d' i (by omega)]; rfl
      have ej : d'[j]! = d'.toList[j] := by rw [getElem!_pos d' j (by omega)]; rfl
      rw [cmpK_lt, decide_eq_false_iff_not, ei, ej] at h1
      have hnd := (okK_perm hperm.symm hk).1
      refine klt_total (fun e => ?_) h1
      rw [List.nodup_iff_pairwise_ne, List.pairwise_iff_getElem] at hnd
      exact hnd i j (by simpa using hi) (by simpa using hj) hij (by simpa using e.symm)
    · have hfr : w'.frozen? ⟨g, off + j, none⟩ = w.frozen? ⟨g, off + j, none⟩ := by
        rw [hw]
        unfold sortWorldK
        rw [Sort.frozen?_grow _ _ _ (by simpa [Sort.putRowK, Sort.ahead] using hgl)]
        exact Sort.frozen?_putRow _ _ _ _ _ _
      refine ⟨?_, hfr.trans (hsp j hj).2⟩
      by_cases hj2 : j < l.length * 2
      · have := hH' j (by rw [Sort.size_flatK, hsz]; exact hj2)
        rw [this.1]; rfl
      · have : w'.cell? ⟨g, off + j, none⟩ = w.cell? ⟨g, off + j, none⟩ := by
          rw [hw]
          unfold sortWorldK
          rw [Sort.cell?_grow _ _ _ (by simpa [Sort.putRowK, Sort.ahead] using hgl)]
          exact Sort.cell?_putRow_other _ _ _ _ _ _ (.inr (.inr (by show off + (Sort.flatK encK 2 d').size ≤ off + j; rw [Sort.size_flatK, hsz]; omega)))
        rw [this]; exact (hsp j hj).1
    · have hj2 : j < l.length * 2 := by
        have := (List.getElem?_eq_some_iff.1 hu).1
        rw [cellsK_len, hlen] at this
        exact this
      have h2 := flat_get d'.toList j (by rw [hlen]; exact hj2)
      rw [h2] at hu
      have h3 := hH' j (by rw [Sort.size_flatK, hsz]; exact hj2)
      rw [h3.1]
      exact hu
    · exact (Below.refl _ _).grown hgr hB (fun k e => by cases e; exact hBg)
/-- append(l, node): one more. -/
theorem wpList_oneK {ops : Array Oper} {rest : List Oper} {o : Oper} {a : Act} {Q : Exit → Act → World → Prop} {B : Nat} {l : List Kd} {ao : Option Addr} {cap : Nat} {w : World} (hgd : o.guard = none) (s x : Operand)
    (ho : o.op = .call { callee := .builtin .append, args := #[s, x], argTypes := #[70, 70] }) (hs : a.eval s = .slice ao l.length cap) (h : QN B l ao cap w) (hB : B ≤ w.heap.size) (hn : l.length ≤ 100000)
    (y : Kd) (ad : Addr) (c : Nat) (hx : a.eval x = .slice (some ad) 1 c) (hc : ∀ j u, (encK y)[j]? = some u → w.cell? (ad.add j) = some u)
    (k : ∀ ao' cap' w', QN B (l ++ [y]) ao' cap' w' → Below B w w' → wpList Try.prog ops Q rest (a.put o.dst (.slice ao' (l.length + 1) cap')) w') : wpList Try.prog ops Q (o :: rest) a w := by
  refine wpList_plain hgd fun K hK => ?_
  obtain ⟨ao', cap', w', hrun, hq, hg⟩ := run_oneK h hB hn o.type y ad c hc
  have hb : Below B w w' := by
    rcases hg with ⟨g, off, h1, h2, _, _, h5⟩ | ⟨h1, _⟩
    · obtain ⟨g2, off2, h6, h7, _⟩ := h.at_ h2
      rw [h1] at h6
      cases h6
      exact (Below.refl _ _).grown h5 hB (fun k e => by cases e; exact h7)
    · exact (Below.refl _ _).grown h1 hB (fun k e => by cases e)
  unfold Oper.wp
  simp [execOp, ho, resolve, invoke, builtin, hs, hx, hrun, Result.andThen]
  exact hK _ _ (k ao' cap' w' hq hb)
set_option maxRecDepth 100000 in
set_option maxHeartbeats 4000000 in
theorem symbolsOf_any (p : Option Addr) (n cap : Nat) (c : Nat → Nat) (w : World) (h : IS p n cap (fun i => (c i : Int)) w) (hn : n ≤ 300) :
    Calls Try.prog 33 #[.slice p n cap] w fun e w' => ∃ S ao cp, e = .returned (.slice ao (nds c n).length cp) ∧ S.Perm (nds c n) ∧ S.Pairwise klt ∧ QN w.heap.size S ao cp w' ∧ Below w.heap.size w w' := by
  go_enter Try.func33, Try.ntmps33
  go_wp2_with fail
  go_loopw [3, 4, 5, 8] (fun v _ _ i wr => ∃ (k : Nat) (ao : Option Addr) (cp : Nat), k ≤ n ∧ i = .int .i64 (k : Int) ∧ v = .slice ao (nds c k).length cp ∧ QN w.heap.size (nds c k) ao cp wr ∧ Below w.heap.size w wr ∧ w.heap.size ≤ wr.heap.size) (fun _ _ _ i _ => n - (intOf i).toNat)
  case atStart => exact ⟨0, none, 0, by omega, rfl, rfl, QN.none_ _ _, Below.refl _ _, Nat.le_refl _⟩
  case round =>
    obtain ⟨k, ao, cp, hk, rfl, rfl, hq, hb, hz⟩ := hrel
    by_cases hlt : k < n
    · cases p with
      | none => have := (h.nil_ rfl).1; omega
      | some a =>
        have c0 := (h.below hb).cell a rfl k hlt
        have hkn : nds c (k + 1) = nds c k ++ if 0 < c k then [(c k, k)] else [] := rfl
        have hlen := nds_len c k
        by_cases h0 : 0 < c k
        · rw [if_pos h0] at hkn
          have h0i : ((c k : Nat) : Int) > 0 := by omega
          have HKN := Lib.hid hkn
          obtain ⟨x, hx⟩ : ∃ x, x = c k := ⟨_, rfl⟩
          rw [← hx] at c0 h0i
          have HX := Lib.hid hx
          generalize nds c k = L at *
          clear hkn hx h0
          have hq2 := hq.below ((Below.refl _ wr).alloc (Nat.le_refl _) (.cells #[.int .i64 (x : Int), .int .i64 (k : Int)] 75))
          have hbn := Blk.new wr 75 #[.int .i64 (x : Int), .int .i64 (k : Int)]
          go_wp2_with (refine wpList_oneK rfl (.tmp 15) (.tmp 19) rfl rfl hq2 (by simp; omega) (by omega) (x, k) ⟨wr.heap.size, 0, none⟩ 1 rfl (fun j u hu => by rw [addr_add, Nat.zero_add, hbn.cell]; simpa [encK] using hu) ?_; intro ao2 cp2 w2 hq3 hb3)
          have HB3 := Lib.hid hb3
          refine ⟨⟨k + 1, ao2, cp2, by omega, rfl, by rw [HKN.out, ← HX.out, List.length_append]; rfl, by rw [HKN.out, ← HX.out]; exact hq3, (hb.alloc hz _).trans hb3, Nat.le_trans (by simp; omega) hb3.size⟩, by simp only [intOf]; omega⟩
        · rw [if_neg h0, List.append_nil] at hkn
          obtain ⟨x, hx⟩ : ∃ x, x = c k := ⟨_, rfl⟩
          rw [← hx] at c0
          obtain rfl : x = 0 := by omega
          have HKN := Lib.hid hkn
          generalize nds c k = L at *
          clear hkn hx h0
          go_wp2_with fail
          go_roundw
          case rel => exact ⟨k + 1, ao, cp, by omega, by go_num, by rw [HKN.out], by rw [HKN.out]; exact hq, hb, hz⟩
          case measure => simp [intOf]; omega
    · obtain rfl : k = n := by omega
      have C := Lib.hid (sort_nodes hq hz (nds_ok c k) (Nat.le_trans (nds_len c k) (by omega)))
      go_wp2_with fail
      refine C.out.mono ?_
      rintro e w2 ⟨rfl, S, h1, h2, h3, h4⟩
      go_wp2_with fail
      go_ret
      exact ⟨S, ao, cp, rfl, h1, h2, h3, hb.trans (h4.mono (Nat.le_refl _))⟩
end Go.Proofs.Ytmmkmbinmmfblaa
