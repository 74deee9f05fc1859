/- The developers' iterator over the items of a text. -/
import Derived.Test.YtkbjgaobhbiieaaME
import Derived.Test.YtkbjgaobhbiieaaMD
import Derived.Maps.OwnIn
import Derived.Test.YtkbjgaobhbiieaaMC
namespace Go.Proofs.Ytkbjgaobhbiieaa
open Go.RowKit
theorem wpListIn_store_row {F : Fence} {nF : Nat} {P : Program} {w : World} {ops : Array Oper} {rest : List Oper} {o : Oper} {a : Act} {Q : Exit → Act → World → Prop} (hgd : o.guard = none) (ty : TypeId) (x y : Operand) (ho : o.op = .store ty x y)
    (g : Nat) (cells : Array Value) (hx : a.eval x = .pointer (some ⟨g, 0, none⟩)) (hy : a.eval y = .agg cells)
    (t : TypeId) (old : Array Value) (hg : w.heap[g]? = some (.cells old t (0, 0))) (hi : (P.info? ty).map (·.size) = some cells.size) (hold : old.size = cells.size) (h1 : cells.all (·.oneCell') = true)
    (h : wpListIn F nF P ops Q rest (a.put o.dst undef) (w.setRow g cells)) : wpListIn F nF P ops Q (o :: rest) a w := by
  refine wpListIn_plain hgd fun K hK => ?_
  unfold Oper.wpIn
  refine ⟨by simp [Oper.about, ho], ?_⟩
  rw [Oper.semAt_plain F _ _ (by rw [ho]; intro c hc'; cases hc')]
  unfold execOp
  simp only [ho, hx, hy, Instr.storeAt, Instr.sureAddr, Sem.run_bind, Sem.run_pure, Result.andThen_ok, run_storeVar_row w g t ty old cells hg hi hold h1]
  exact hK _ _ h
theorem cellsI_isD (o : Option It) : ∃ (T : Int) (X Y : ByteArray), cellsI o = #[.int .i64 T, .string X, .string Y] ∧ Y = o.elim ⟨#[]⟩ (·.2.2) := by
  rcases o with _ | ⟨t, x, y⟩
  · exact ⟨0, _, _, rfl, rfl⟩
  · exact ⟨_, _, _, rfl, rfl⟩
/-- What is left behind i items; nothing where there is none. -/
def restD (s : ByteArray) : Nat → ByteArray
  | 0 => s
  | i + 1 => (nextD (restD s i)).elim ⟨#[]⟩ (·.2.2)
def liveD (s : ByteArray) (i : Nat) : Prop := (restD s i).size ≠ 0
def encD (s : ByteArray) (i : Nat) : Array Value := #[.agg (cellsI (nextD (restD s i))), .int .i64 (errI (nextD (restD s i)) : Int)]
def capS (b : Nat) (s : ByteArray) (w : World) : Prop := Blk w b 9 #[.string s]
theorem restD_lt (s : ByteArray) (i : Nat) (h : liveD s i) : (restD s (i + 1)).size < (restD s i).size := by
  show ((nextD (restD s i)).elim ⟨#[]⟩ (·.2.2)).size < _
  unfold liveD at h
  cases hn : nextD (restD s i) with
  | none => show (⟨#[]⟩ : ByteArray).size < _; have : (⟨#[]⟩ : ByteArray).size = 0 := rfl; omega
  | some y => exact (nextD_size hn).1
theorem restD_le (s : ByteArray) : ∀ i, (restD s i).size ≤ s.size
  | 0 => Nat.le_refl _
  | i + 1 => by
    by_cases h : liveD s i
    · have := restD_lt s i h; have := restD_le s i; omega
    · unfold liveD at h
      have hz : (restD s i).size = 0 := by omega
      have hn : nextD (restD s i) = none := by unfold nextD; rw [if_pos (.inl (by omega))]
      show ((nextD (restD s i)).elim ⟨#[]⟩ (·.2.2)).size ≤ _
      rw [hn]; exact Nat.zero_le _
theorem items_any (s : ByteArray) (w : World) :
    Calls Try.prog 34 #[.string s] w fun e w' => e = .returned (.func (.func 41) #[] #[.pointer (some ⟨w.heap.size, 0, none⟩)]) ∧ w' = w.alloc (.cells #[.string s] 9) := by
  go_enter Try.func34, Try.ntmps34
  go_wp2_with fail
  go_ret
  exact ⟨rfl, rfl⟩
set_option maxRecDepth 100000 in
set_option maxHeartbeats 2000000 in
theorem items_gives (s : ByteArray) (hs : s.size ≤ 281474976710656) (b : Nat) :
    GivesL Try.prog 41 #[.pointer (some ⟨b, 0, none⟩)] (capS b s) (liveD s) (encD s) := by
  intro l J Jx W hcap hJ hJx hY h0
  refine callsIn_of_wp Try.func41 rfl trivial ?_
  simp only [Try.ntmps41, List.size_toArray, List.length_cons, List.length_nil, Nat.reduceAdd, Nat.reduceSub, Array.replicate_succ, Array.replicate_zero, List.push_toArray, List.append_toArray, List.nil_append, List.cons_append]
  have hc0 : W.cell? ⟨b, 0, none⟩ = some (.string s) := hcap.cell 0
  gi_wp2_with fail
  clear hc0
  gi_loopw [3, 4, 5] (fun v _ _ wr => ∃ i : Nat, v = .string (restD s i) ∧ J i wr ∧ capS b s wr) (fun v _ _ _ => match v with | .string s => s.size | _ => 0)
  case atStart => exact ⟨0, rfl, h0, hcap⟩
  case round =>
    obtain ⟨i, rfl, hj, hc⟩ := hrel
    clear h0 hcap
    by_cases hz : (restD s i).size = 0
    · have hnl : ¬ liveD s i := fun h => h hz
      have HJJ := Lib.hid hj
      have e0 := text_none14 hz
      generalize restD s i = R at hz e0 ⊢
      subst e0
      gi_wp2_with fail
      go_end0
      exact ⟨⟨_, rfl⟩, .inl ⟨i, hnl, HJJ.out⟩⟩
    · have hlv : liveD s i := hz
      have hne := ne_none14 hz
      have C := first_any (restD s i) wr (Nat.le_trans (restD_le s i) hs)
      have HLT := Lib.hid (restD_lt s i hlv)
      obtain ⟨T, X, Y, hcc, hY3⟩ := cellsI_isD (nextD (restD s i))
      have HR3 : Hid (restD s (i + 1) = Y) := Lib.hid hY3.symm
      have HY := Lib.hid fun W1 => hY i wr W1 hlv hj hc
      obtain ⟨er, her⟩ : ∃ er, er = errI (nextD (restD s i)) := ⟨_, rfl⟩
      have HEN : Hid (encD s i = #[.agg #[.int .i64 T, .string X, .string Y], .int .i64 (er : Int)]) := Lib.hid (by unfold encD; rw [hcc, ← her])
      rw [hcc, ← her] at C
      have HER : Hid (er ≠ 0 → (restD s (i + 1)).size = 0) := Lib.hid fun h => by
        show ((nextD (restD s i)).elim ⟨#[]⟩ (·.2.2)).size = 0
        rw [her] at h
        unfold errI at h
        cases hn : nextD (restD s i) with
        | none => rfl
        | some y => rw [hn] at h; exact absurd rfl h
      rw [HR3.out] at HLT HER
      clear hY hcc her hY3 hj hc hlv hz
      generalize hg : restD s i = R at hne C HLT ⊢
      have HG := Lib.hid hg
      clear hg
      gi_wp2_with fail
      refine ⟨trivial, rfl, (callsIn_wide (n := 0)).2 (C.mono ?_)⟩
      rintro e w1 ⟨rfl, b1⟩
      clear C
      have HZ1 := Lib.hid (Blk.new w1 24 #[.int .i64 0, .string ⟨#[]⟩, .string ⟨#[]⟩])
      have hb1 := below_setRow' ((Below.refl w1.heap.size w1).alloc (Nat.le_refl _) (.cells #[.int .i64 0, .string ⟨#[]⟩, .string ⟨#[]⟩] 24)) (Nat.le_refl _) #[.int .i64 T, .string X, .string Y]
      have hz1 := HZ1.out.row_ #[.int .i64 T, .string X, .string Y]
      obtain ⟨q1, hq1⟩ : ∃ q, q = w1.heap.size := ⟨_, rfl⟩
      obtain ⟨W1, hW1⟩ : ∃ W, W = (w1.alloc (.cells #[.int .i64 0, .string ⟨#[]⟩, .string ⟨#[]⟩] 24)).setRow w1.heap.size #[.int .i64 T, .string X, .string Y] := ⟨_, rfl⟩
      rw [← hW1] at hb1 hz1
      have hB : Below wr.heap.size wr W1 := b1.trans (hb1.mono b1.size)
      have HQ : Hid (wr.heap.size ≤ q1) := Lib.hid (by rw [hq1]; exact b1.size)
      rw [← hq1] at hz1
      have HBX := Lib.hid hz1
      have HW1 := Lib.hid hW1
      have HQ1 := Lib.hid hq1
      obtain ⟨fn, tm, ag, bd, hy, hR⟩ := HY.out W1 hB
      rw [HEN.out] at hy
      have d0 : W1.cell? ⟨q1, 0, none⟩ = some (.int .i64 T) := hz1.cell 0
      have d1 : W1.cell? ⟨q1, 1, none⟩ = some (.string X) := hz1.cell 1
      have d2 : W1.cell? ⟨q1, 2, none⟩ = some (.string Y) := hz1.cell 2
      clear hW1 hq1 hb1 hz1 b1 hB
      gi_wp2_with (refine wpListIn_store_row rfl 24 _ _ rfl w1.heap.size #[.int .i64 T, .string X, .string Y] rfl rfl 24 _ HZ1.out itemD_size rfl (cells3_one _ _ _) ?_; rw [← HW1.out, ← HQ1.out])
      refine ⟨rfl, hR.mono ?_⟩
      clear hR hy d0 d1 d2
      rintro e w2 (⟨rfl, hj2, hc2, hu⟩ | ⟨rfl, hx⟩)
      · have hz2 : Blk w2 q1 24 #[.int .i64 T, .string X, .string Y] := hu.obj HQ.out HBX.out
        have d2 : w2.cell? ⟨q1, 2, none⟩ = some (.string Y) := hz2.cell 2
        have HJ2 := Lib.hid hj2
        have HC2 := Lib.hid hc2
        clear hz2 hu hj2 hc2
        by_cases h0 : er = 0
        · subst h0
          gi_wp2_with fail
          go_roundw
          case rel => exact ⟨i + 1, by rw [HR3.out], HJ2.out, HC2.out⟩
          case measure => exact HLT.out
        · have h0i : ¬ (er : Int) = 0 := by omega
          have h0b : ((er : Int) == 0) = false := by simpa using h0
          have HNL : Hid (¬ liveD s (i + 1)) := Lib.hid fun h => h (by rw [HR3.out]; exact HER.out h0)
          clear h0
          gi_wp2_with fail
          refine bodyPost_ret (results_none rfl _ _ _) rfl ?_
          exact ⟨⟨_, rfl⟩, .inl ⟨i + 1, HNL.out, HJ2.out⟩⟩
      · have HX := Lib.hid hx
        clear hx
        gi_wp2_with fail
        refine bodyPost_ret (results_none rfl _ _ _) rfl ?_
        exact ⟨⟨_, rfl⟩, .inr HX.out⟩
end Go.Proofs.Ytkbjgaobhbiieaa
/- Parts: the developers'. -/
namespace Go.Proofs.Ytkbjgaobhbiieaa
open Go.RowKit
attribute [local go_sem] Oper.semAt_some
theorem wpIn_scopeW {P : Program} {n : Nat} {c : Code} {Q : Exit → Act → World → Prop} {a : Act} {w : World} (h : c.wpIn Fence.wide n P (Exit.noGoto Q) a w) : (Code.scope c).wpIn Fence.wide n P Q a w :=
  wpIn_wide.2 (wp_scope_straight (wpIn_wide.1 h))
section
variable {E : TypeId} {z B : Nat} {w0 w w' : World} {l : List (List Value)} {v : Value}
theorem LS.obj (h : LS E z B w0 l v w) (i : Nat) (e : v.ownBlock = some i) : ∃ cur, w.heap[i]? = some (.cells cur E (0, 0)) := by
  rcases h.own.2 with ⟨rfl, _⟩ | ⟨g, cap, cur, rfl, _, h3, _⟩
  · cases e
  · cases e; exact ⟨cur, h3⟩
theorem LS.keep (h : LS E z B w0 l v w) (hb : Below B w w') (ho : ∀ i, v.ownBlock = some i → w'.heap[i]? = w.heap[i]?) : LS E z B w0 l v w' := by
  refine ⟨⟨h.own.1, ?_⟩, h.each, h.b.trans hb, Nat.le_trans h.lo hb.size⟩
  rcases h.own.2 with h1 | ⟨g, cap, cur, h1, h2, h3, h4⟩
  · exact .inl h1
  · exact .inr ⟨g, cap, cur, h1, h2, (ho g (by rw [h1]; rfl)).trans h3, h4⟩
theorem LS.ne_blk (h : LS E z B w0 l v w) {q : Nat} {t : TypeId} {cs : Array Value} (hq : Blk w q t cs) (ht : t ≠ E) : v.ownBlock ≠ some q := fun e => by
  obtain ⟨cur, h2⟩ := h.obj q e
  have : some (Obj.cells cs t (0, 0)) = some (Obj.cells cur E (0, 0)) := hq.symm.trans h2
  injection this with this
  injection this with _ this
  exact ht this
theorem LS.far (h : LS E z B w0 l v w) {q i : Nat} {t : TypeId} {cs : Array Value} (hq : Blk w q t cs) (ht : t ≠ E) (hB : B ≤ q) (u : Value) : LS E z B w0 l v (w.setCell ⟨q, i, none⟩ u) :=
  h.keep ((Below.refl B w).setCell (p := ⟨q, i, none⟩) hB u) fun k e => Below.heap_setCell w ⟨q, i, none⟩ u k (fun e2 => h.ne_blk hq ht (by rw [e, e2]))
theorem LS.putL (h : LS E z B w0 l v w) {q : Nat} {r : Loop} (hq : w.heap[q]? = some (.loop r)) (hB : B ≤ q) (o : Obj) : LS E z B w0 l v (w.putObj q o) :=
  h.keep (below_putObj _ hq hB) fun k e => World.putObj_heap_other fun e2 => by
    obtain ⟨cur, h2⟩ := h.obj k e
    rw [e2, hq] at h2
    cases h2
theorem LS.ne_loop (h : LS E z B w0 l v w) {q : Nat} {o : Obj} (hq : w.heap[q]? = some o) (ho : o.isCells = false) : v.ownBlock ≠ some q := fun e => by
  obtain ⟨cur, h2⟩ := h.obj q e
  rw [hq] at h2
  cases h2
  cases ho
end
theorem Blk.putL {w : World} {g q : Nat} {t : TypeId} {cs : Array Value} (h : Blk w g t cs) {r : Loop} (hq : w.heap[q]? = some (.loop r)) (o : Obj) : Blk (w.putObj q o) g t cs :=
  (World.putObj_heap_other fun e => by
    subst e
    rw [show w.heap[g]? = _ from h] at hq
    cases hq).trans h
theorem infoItD : (Try.prog.info? 24).map (fun i => (i.zero, i.size, i.bytes)) = some (some (.agg #[.int .i64 0, .string ⟨#[]⟩, .string ⟨#[]⟩]), 3, 40) := by kernel_rfl
/-- append(s, x): one more item, that was laid just now. -/
theorem wpList_oneItD {ops : Array Oper} {rest : List Oper} {o : Oper} {a : Act} {Q : Exit → Act → World → Prop} {B : Nat} {w0 w : World} {l : List (List Value)} {v : Value} (hgd : o.guard = none) (s x : Operand)
    (ho : o.op = .call { callee := .builtin .append, args := #[s, x], argTypes := #[35, 35] }) (hs : a.eval s = v) (h : LS 24 3 B w0 l v w) (y : It) (r : Nat) (hr : r = w.heap.size)
    (hx : a.eval x = .slice (some ⟨r, 0, none⟩) 1 1) (hn : l.length ≤ 999999)
    (k : ∀ v' w', LS 24 3 B w0 (l ++ [encIt y]) v' w' → Gr v w v' w' → wpList Try.prog ops Q rest (a.put o.dst v') w') :
    wpList Try.prog ops Q (o :: rest) a (w.alloc (.cells #[.int .i64 (y.1 : Int), .string y.2.1, .string y.2.2] 24)) := by
  subst hr
  obtain ⟨i0, hi, hz0, hz1, hz2⟩ := info_parts infoItD
  have hal := (Below.refl _ w).alloc (Nat.le_refl _) (.cells #[.int .i64 (y.1 : Int), .string y.2.1, .string y.2.2] 24)
  have h2 := h.below hal
  have hc : ∀ j u, [encIt y].flatten[j]? = some u → (w.alloc (.cells #[.int .i64 (y.1 : Int), .string y.2.1, .string y.2.2] 24)).cell? ((⟨w.heap.size, 0, none⟩ : Addr).add j) = some u := fun j u hu => new_cells w _ _ j u (by simpa [encIt] using hu)
  refine wpList_append_lies _ hgd s x 35 ho B 24 i0 (.agg #[.int .i64 0, .string ⟨#[]⟩, .string ⟨#[]⟩]) 3 40 Try.underlying35 hi hz0 hz1 hz2 rfl (by decide) v l.length _ hs h2.own ⟨w.heap.size, 0, none⟩ 1 1 [encIt y].flatten hx rfl hc (eachIt y).one (by decide) (by unfold maxLen; omega) (by omega) h2.lo _ rfl ?_
  intro q cap w2 hown hg hat hlt
  have hG : Gr v (w.alloc (.cells #[.int .i64 (y.1 : Int), .string y.2.1, .string y.2.2] 24)) (.slice (some ⟨q, 0, none⟩) (l.length + 1) cap) w2 := ⟨hg.os, hg.tape, hg.output, hg.size, fun i hi hv => hg.block i hi (fun e => hv e.symm), fun i e => by
    have e : q = i := by injection e
    rcases hat with h1 | h1
    · exact .inl (by rw [h1, e])
    · right; omega⟩
  refine k _ w2 ⟨?_, h2.each.app (eachIt y), below_gr h2.b hG (fun i e => (h2.ownB i e).1) h2.lo, Nat.le_trans h2.lo hg.size⟩ ((Gr.of hal).trans hG)
  rw [List.length_append, List.flatten_append]; exact hown
theorem wpListIn_oneItD {F : Fence} {nF : Nat} {ops : Array Oper} {rest : List Oper} {o : Oper} {a : Act} {Q : Exit → Act → World → Prop} {B : Nat} {w0 w : World} {l : List (List Value)} {v : Value} (hgd : o.guard = none) (s x : Operand)
    (ho : o.op = .call { callee := .builtin .append, args := #[s, x], argTypes := #[35, 35] }) (hs : a.eval s = v) (h : LS 24 3 B w0 l v w) (y : It) (r : Nat) (hr : r = w.heap.size)
    (hx : a.eval x = .slice (some ⟨r, 0, none⟩) 1 1) (hn : l.length ≤ 999999)
    (k : ∀ v' w', LS 24 3 B w0 (l ++ [encIt y]) v' w' → Gr v w v' w' → wpListIn F nF Try.prog ops Q rest (a.put o.dst v') w') :
    wpListIn F nF Try.prog ops Q (o :: rest) a (w.alloc (.cells #[.int .i64 (y.1 : Int), .string y.2.1, .string y.2.2] 24)) := by
  subst hr
  obtain ⟨i0, hi, hz0, hz1, hz2⟩ := info_parts infoItD
  have hal := (Below.refl _ w).alloc (Nat.le_refl _) (.cells #[.int .i64 (y.1 : Int), .string y.2.1, .string y.2.2] 24)
  have h2 := h.below hal
  have hc : ∀ j u, [encIt y].flatten[j]? = some u → (w.alloc (.cells #[.int .i64 (y.1 : Int), .string y.2.1, .string y.2.2] 24)).cell? ((⟨w.heap.size, 0, none⟩ : Addr).add j) = some u := fun j u hu => new_cells w _ _ j u (by simpa [encIt] using hu)
  refine wpListIn_append_own_at _ hgd s x 35 ho B 24 i0 (.agg #[.int .i64 0, .string ⟨#[]⟩, .string ⟨#[]⟩]) 3 40 Try.underlying35 hi hz0 hz1 hz2 rfl (by decide) v l.length _ hs h2.own ⟨w.heap.size, 0, none⟩ 1 1 [encIt y].flatten hx rfl hc (eachIt y).one (by unfold maxLen; omega) (by omega) h2.lo ?_
  intro v' w2 hown hg _ hat
  have hG : Gr v (w.alloc (.cells #[.int .i64 (y.1 : Int), .string y.2.1, .string y.2.2] 24)) v' w2 := ⟨hg.os, hg.tape, hg.output, hg.size, fun i hi hv => hg.block i hi (fun e => hv e.symm), fun i e => by
    rcases hat with h1 | h1
    · exact .inl (by rw [← h1, e])
    · rw [h1] at e; injection e with e; right; omega⟩
  refine k _ w2 ⟨?_, h2.each.app (eachIt y), below_gr h2.b hG (fun i e => (h2.ownB i e).1) h2.lo, Nat.le_trans h2.lo hg.size⟩ ((Gr.of hal).trans hG)
  rw [List.length_append, List.flatten_append]; exact hown
/-- Between two rounds. -/
def IP (w : World) (s : ByteArray) (res : List It × Nat) (i : Nat) (W : World) : Prop :=
  ∃ (D : List It) (v : Value), LS 24 3 w.heap.size w (D.map encIt) v W ∧ Blk W w.heap.size 35 #[v] ∧ Blk W (w.heap.size + 1) 25 #[.int .i64 0] ∧ D.length = i ∧ i ≤ 100 ∧ res = joinP D (partsF (100 - i) (restD s i))
/-- When a round has left. -/
def XP (w : World) (res : List It × Nat) (W : World) : Prop := ∃ f : Nat, f ≠ 0 ∧ res = ([], f) ∧ Blk W (w.heap.size + 1) 25 #[.int .i64 (f : Int)] ∧ Below w.heap.size w W ∧ w.heap.size ≤ W.heap.size
theorem IP.below {w : World} {s : ByteArray} {res : List It × Nat} {i : Nat} {A C : World} (h : IP w s res i A) (hb : Below A.heap.size A C) : IP w s res i C := by
  obtain ⟨D, v, h1, h2, h3, h4⟩ := h
  exact ⟨D, v, h1.below hb, h2.below hb h2.lt, h3.below hb h3.lt, h4⟩
theorem IP.putL {w : World} {s : ByteArray} {res : List It × Nat} {i : Nat} {A : World} (h : IP w s res i A) {q : Nat} {r : Loop} (hq : A.heap[q]? = some (.loop r)) (hB : w.heap.size ≤ q) (o : Obj) : IP w s res i (A.putObj q o) := by
  obtain ⟨D, v, h1, h2, h3, h4⟩ := h
  exact ⟨D, v, h1.putL hq hB o, h2.putL hq o, h3.putL hq o, h4⟩
theorem XP.below {w : World} {res : List It × Nat} {A C : World} (h : XP w res A) (hb : Below A.heap.size A C) : XP w res C := by
  obtain ⟨f, h1, h2, h3, h4, h5⟩ := h
  exact ⟨f, h1, h2, h3.below hb h3.lt, h4.trans (hb.mono h5), Nat.le_trans h5 hb.size⟩
theorem XP.putL {w : World} {res : List It × Nat} {A : World} (h : XP w res A) {q : Nat} {r : Loop} (hq : A.heap[q]? = some (.loop r)) (hB : w.heap.size ≤ q) (o : Obj) : XP w res (A.putObj q o) := by
  obtain ⟨f, h1, h2, h3, h4, h5⟩ := h
  exact ⟨f, h1, h2, h3.putL hq o, h4.trans (below_putObj _ hq hB), by rw [World.putObj_size]; exact h5⟩
set_option maxRecDepth 100000 in
set_option maxHeartbeats 4000000 in
theorem parts_any (s : ByteArray) (w : World) (hs : s.size ≤ 281474976710656) :
    Calls Try.prog 23 #[.string s] w fun e w' => ∃ v, e = .returned (.tuple #[v, .int .i64 ((partsF 100 s).2 : Int)]) ∧ LS 24 3 w.heap.size w ((partsF 100 s).1.map encIt) v w' := by
  obtain ⟨res, hres⟩ : ∃ res, res = partsF 100 s := ⟨_, rfl⟩
  rw [← hres]
  refine (callsIn_wide (n := 0)).1 ?_
  refine callsIn_of_wp_marks Try.func23 rfl trivial ?_
  simp only [Try.ntmps23, List.size_toArray, List.length_cons, List.length_nil, Nat.reduceAdd, Nat.reduceSub, Array.replicate_succ, Array.replicate_zero, List.push_toArray, List.append_toArray, List.nil_append, List.cons_append]
  gi_wp2_with fail
  refine wpIn_scopeW ?_
  gi_wp2_with fail
  refine wpIn_label ?_
  gi_wp2_with fail
  refine ⟨trivial, rfl, (callsIn_wide (n := 0)).2 ((items_any s _).mono ?_)⟩
  rintro e w3 ⟨rfl, hw3⟩
  have k1 : Blk w3 w.heap.size 35 #[.slice none 0 0] := by rw [hw3]; exact ((Blk.new w _ _).alloc _).alloc _
  have k2 : Blk w3 (w.heap.size + 1) 25 #[.int .i64 0] := by
    have := (Blk.new (w.alloc (.cells #[Value.slice none 0 0] 35)) 25 #[.int .i64 0]).alloc (.cells #[.string s] 9)
    rw [World.size_alloc] at this
    rw [hw3]; exact this
  have k3 : capS (w.heap.size + 1 + 1) s w3 := by
    have := Blk.new ((w.alloc (.cells #[Value.slice none 0 0] 35)).alloc (.cells #[.int .i64 0] 25)) 9 #[.string s]
    rw [World.size_alloc, World.size_alloc] at this
    rw [hw3]; exact this
  have hb3 : Below w.heap.size w w3 := by rw [hw3]; exact (((Below.refl _ w).alloc (Nat.le_refl _) _).alloc (by simp) _).alloc (by simp; omega) _
  have hz3 : w3.heap.size = w.heap.size + 3 := by rw [hw3]; simp
  have H0 : Hid (IP w s res 0 w3) := Lib.hid ⟨[], .slice none 0 0, LS.nil hb3 (by omega), k1, k2, rfl, by decide, by rw [joinP_nil _ (partsF_err _ _)]; exact hres⟩
  clear hw3 hres
  gi_wp2_with fail
  refine wpIn_range3 rfl (enters_of Try.func41 (by kernel_rfl) rfl) (items_gives s hs (w.heap.size + 1 + 1)) (fun _ => rfl) (IP w s res) (XP w res) 0
    (fun i A C h hb => h.below hb) (fun i A l r o h hl hq => h.putL hq (by omega) o) (fun A C h hb => h.below hb) (fun A l r o h hl hq => h.putL hq (by omega) o)
    k3 (fun A C h hb => Blk.below h hb (Blk.lt h)) (fun A l r o h hq => Blk.putL h hq o) H0.out
    (fun i q a' W => a' = { tmps := #[.string s, undef, .slice none 0 0, .int .i64 0, .pointer (some ⟨w.heap.size, 0, none⟩), .pointer (some ⟨w.heap.size + 1, 0, none⟩), .pointer (some ⟨q, 0, none⟩), .int .i64 (errI (nextD (restD s i)) : Int), .string s, .func (.func 41) #[] #[.pointer (some ⟨w.heap.size + 1 + 1, 0, none⟩)], .agg (cellsI (nextD (restD s i))), .int .i64 (errI (nextD (restD s i)) : Int), undef, undef, undef, undef, undef, undef, undef, undef, undef, undef, undef, undef, undef, undef, undef, undef], defers := [] } ∧ Blk W q 24 (cellsI (nextD (restD s i))))
    (fun i q a' A l o hl h => ⟨h.1, (World.putObj_heap_other (show q ≠ l by omega)).trans h.2⟩) ?assign ?body ?done ?stop
  case assign =>
    intro l i W K hi hK
    have HZ := Lib.hid (Blk.new W 24 #[.int .i64 0, .string ⟨#[]⟩, .string ⟨#[]⟩])
    have hb1 := below_setRow' ((Below.refl W.heap.size W).alloc (Nat.le_refl _) (.cells #[.int .i64 0, .string ⟨#[]⟩, .string ⟨#[]⟩] 24)) (Nat.le_refl _) (cellsI (nextD (restD s i)))
    have hz1 := HZ.out.row_ (cellsI (nextD (restD s i)))
    have hsz := cellsI_size (nextD (restD s i))
    have h1c := cellsI_one (nextD (restD s i))
    have HK := Lib.hid fun a' h1 => hK a' _ hb1 ⟨h1, hz1⟩
    unfold encD
    clear hK hi
    clear hb1 hz1
    generalize cellsI (nextD (restD s i)) = cs at hsz h1c HK ⊢
    gi_wp2_with (refine wpListIn_store_row rfl 24 _ _ rfl W.heap.size cs rfl rfl 24 _ HZ.out (by rw [hsz]; exact itemD_size) hsz.symm h1c ?_)
    exact HK.out _ rfl
  case body =>
    intro l i q A W a' r d hi hI hc hz hq hb hx hd hl
    obtain ⟨rfl, hbx⟩ := hx
    obtain ⟨D, v, h1, h2, h3, h4, h5, h6⟩ := hI
    have hlt := hb.size
    have HL := Lib.hid (h1.below hb)
    have HK1 := Lib.hid (h2.below hb h2.lt)
    have HK2 := Lib.hid (h3.below hb h3.lt)
    have HBW := Lib.hid (HL.out.b)
    have HLO := Lib.hid (HL.out.lo)
    have HNE : Hid (v.ownBlock ≠ some w3.heap.size ∧ v.ownBlock ≠ some (w3.heap.size + 1)) := Lib.hid ⟨HL.out.ne_loop hd rfl, HL.out.ne_loop hl rfl⟩
    have HOW : Hid (∀ j, v.ownBlock = some j → j < A.heap.size) := Lib.hid fun j e => (h1.ownB j e).2
    have HLV := Lib.hid hi
    obtain ⟨p, c, hu⟩ := HL.out.len
    rw [List.length_map] at hu
    subst hu
    have c4 : W.cell? ⟨w.heap.size, 0, none⟩ = some (.slice p D.length c) := HK1.out.cell 0
    have c5 : W.cell? ⟨w.heap.size + 1, 0, none⟩ = some (.int .i64 0) := HK2.out.cell 0
    have f4 : W.frozen? ⟨w.heap.size, 0, none⟩ = false := HK1.out.frozen 0
    have f5 : W.frozen? ⟨w.heap.size + 1, 0, none⟩ = false := HK2.out.frozen 0
    have HCA := Lib.hid (Blk.below hc hb (Blk.lt hc))
    have HZ3 := Lib.hid hz3
    have HZA := Lib.hid hz
    clear h1 h2 h3 hb hc hi hlt
    cases hn : nextD (restD s i) with
    | none =>
      have HRES : Hid (res = ([], 2)) := Lib.hid (by rw [h6]; exact joinP_none D _ _ HLV.out hn)
      have HXP : Hid (XP w res (W.setCell ⟨w.heap.size + 1, 0, none⟩ (.int .i64 2))) := Lib.hid ⟨2, by decide, HRES.out, HK2.out.set_ 0 _, HBW.out.trans ((Below.refl _ W).setCell (p := ⟨w.heap.size + 1, 0, none⟩) (by show w.heap.size ≤ w.heap.size + 1; omega) _), by simp [World.setCell]; exact HLO.out⟩
      have e2 : ((errI none : Nat) : Int) = 2 := rfl
      rw [e2]
      clear hn h4 h5 h6
      apply wpIn_block
      gi_wp2_with fail
      exact ⟨rfl, HXP.out, Below.heap_setCell W _ _ _ (by have := HZ3.out; show w3.heap.size ≠ w.heap.size + 1; omega), Below.heap_setCell W _ _ _ (by have := HZ3.out; show w3.heap.size + 1 ≠ w.heap.size + 1; omega)⟩
    | some y =>
      rw [hn] at hbx
      have e2 : ((errI (some y) : Nat) : Int) = 0 := rfl
      rw [e2]
      by_cases h100 : i = 100
      · have HRES : Hid (res = ([], 9)) := Lib.hid (by rw [h6, h100]; exact joinP_long D (restD s 100) (by have := HLV.out; rw [h100] at this; exact this) (by rw [← h100]; exact hn))
        have HXP : Hid (XP w res (W.setCell ⟨w.heap.size + 1, 0, none⟩ (.int .i64 9))) := Lib.hid ⟨9, by decide, HRES.out, HK2.out.set_ 0 _, HBW.out.trans ((Below.refl _ W).setCell (p := ⟨w.heap.size + 1, 0, none⟩) (by show w.heap.size ≤ w.heap.size + 1; omega) _), by simp [World.setCell]; exact HLO.out⟩
        have h100i : (D.length : Int) = 100 := by omega
        clear hn h4 h5 h6 h100
        apply wpIn_block
        gi_wp2_with fail
        exact ⟨rfl, HXP.out, Below.heap_setCell W _ _ _ (by have := HZ3.out; show w3.heap.size ≠ w.heap.size + 1; omega), Below.heap_setCell W _ _ _ (by have := HZ3.out; show w3.heap.size + 1 ≠ w.heap.size + 1; omega)⟩
      · have h100i : ¬ (D.length : Int) = 100 := by omega
        have h100b : ((D.length : Int) == 100) = false := by simpa using h100i
        have HR3 : Hid (restD s (i + 1) = y.2.2) := Lib.hid (by show (nextD (restD s i)).elim _ _ = _; rw [hn]; rfl)
        have HRES : Hid (res = joinP (D ++ [y]) (partsF (100 - (i + 1)) (restD s (i + 1)))) := Lib.hid (by
          rw [h6, show 100 - i = (100 - (i + 1)) + 1 by omega, HR3.out]
          exact joinP_more D _ _ HLV.out hn)
        have HDL : Hid ((D ++ [y]).length = i + 1 ∧ i + 1 ≤ 100) := Lib.hid ⟨by rw [List.length_append, h4]; rfl, by omega⟩
        have HDN : Hid ((D.map encIt).length ≤ 999999) := Lib.hid (by rw [List.length_map]; omega)
        obtain ⟨ty, tx, tr⟩ := y
        have HQ := Lib.hid hbx
        have d0 : W.cell? ⟨q, 0, none⟩ = some (.int .i64 (ty : Int)) := hbx.cell 0
        have d1 : W.cell? ⟨q, 1, none⟩ = some (.string tx) := hbx.cell 1
        have d2 : W.cell? ⟨q, 2, none⟩ = some (.string tr) := hbx.cell 2
        clear hn h4 h5 h6 h100 hbx
        apply wpIn_block
        gi_wp2_with (gi_at_builtin; refine wpListIn_oneItD rfl (.tmp 20) (.tmp 22) rfl rfl HL.out (ty, tx, tr) W.heap.size rfl rfl HDN.out ?_; intro v5 w5 h5 g5; obtain ⟨p5, c7, hv5⟩ := h5.len; rw [List.length_append, List.length_map, List.length_singleton] at hv5; subst hv5; have k5 : Blk w5 w.heap.size 35 #[.slice p D.length c] := HK1.out.gr g5 (HL.out.ne_blk HK1.out (by decide)); have H5 := Lib.hid h5; have G5 := Lib.hid g5; have K5 := Lib.hid k5; have c6 : w5.cell? ⟨w.heap.size, 0, none⟩ = some (.slice p D.length c) := k5.cell 0; have f6 : w5.frozen? ⟨w.heap.size, 0, none⟩ = false := k5.frozen 0; clear h5 g5 k5 c4 c5 f4 f5 d0 d1 d2)
        have HFAR := Lib.hid (H5.out.far (i := 0) K5.out (by decide) (Nat.le_refl _) (.slice p5 (D.length + 1) c7))
        have hn5 : ∀ k, (Value.slice p D.length c).ownBlock ≠ some k → k < W.heap.size → k ≠ w.heap.size → (w5.setCell ⟨w.heap.size, 0, none⟩ (.slice p5 (D.length + 1) c7)).heap[k]? = W.heap[k]? := fun k h1 h2 h3 => (Below.heap_setCell w5 _ _ _ h3).trans (G5.out.block k h2 h1)
        have z3 := HZ3.out
        have zA := HZA.out
        have l1 := (Array.getElem?_eq_some_iff.1 hd).1
        have l2 := (Array.getElem?_eq_some_iff.1 hl).1
        refine ⟨⟨D ++ [(ty, tx, tr)], .slice p5 (D.length + 1) c7, ?_, K5.out.set_ 0 _, ?_, HDL.out.1, HDL.out.2, HRES.out⟩, ?_, ⟨?_, fun k hk1 hk2 => hn5 k (fun e => by have := HOW.out k e; omega) hk2 (by omega)⟩, hn5 _ (by rw [← z3]; exact HNE.out.1) (by rw [← z3]; exact l1) (by omega), hn5 _ (by rw [← z3]; exact HNE.out.2) (by rw [← z3]; exact l2) (by omega)⟩
        · rw [List.map_append]; exact HFAR.out
        · exact (hn5 _ (HL.out.ne_blk HK2.out (by decide)) HK2.out.lt (by omega)).trans HK2.out
        · exact (hn5 _ (HL.out.ne_blk HCA.out (by decide)) (Blk.lt HCA.out) (by omega)).trans HCA.out
        · have := G5.out.size; simp [World.setCell]; exact this
  case done =>
    rintro Z i V hi hI hK hZ
    obtain ⟨D, v, h1, h2, h3, h4, h5, h6⟩ := hI
    have h0 : (restD s i).size = 0 := Classical.byContradiction fun h => hi h
    have HRES : Hid (res = (D, 0)) := Lib.hid (by rw [h6]; exact joinP_end D _ _ h0)
    have hne := h1.ne_loop hK rfl
    have HF : Hid (LS 24 3 w.heap.size w (D.map encIt) v (V.putObj Z (.deferred none))) := Lib.hid (h1.keep (below_putObj _ hK (by omega)) fun k e => World.putObj_heap_other fun e2 => hne (by rw [e, e2]))
    have c4 : V.cell? ⟨w.heap.size, 0, none⟩ = some v := h2.cell 0
    have c5 : V.cell? ⟨w.heap.size + 1, 0, none⟩ = some (.int .i64 0) := h3.cell 0
    obtain ⟨p, c, hu⟩ := h1.len
    rw [List.length_map] at hu
    subst hu
    clear h1 h2 h3 h4 h5 h6 hi hne h0
    gi_wp2_with fail
    refine ⟨by simp, .inl ⟨_, _, rfl, run_takeDeferred hK, ?_⟩⟩
    refine ⟨_, results_tmp2 rfl _ _ _, ?_⟩
    rw [HRES.out]
    exact ⟨_, rfl, HF.out⟩
  case stop =>
    rintro Z V hX hK hZ
    obtain ⟨f, h1, h2, h3, h4, h5⟩ := hX
    have c5 : V.cell? ⟨w.heap.size + 1, 0, none⟩ = some (.int .i64 (f : Int)) := h3.cell 0
    have h1i : ¬ (f : Int) = 0 := by omega
    have h1b : ((f : Int) == 0) = false := by simpa using h1i
    have HRES := Lib.hid h2
    have HF : Hid (LS 24 3 w.heap.size w (([] : List It).map encIt) (.slice none 0 0) (V.drew.putObj Z (.deferred none))) := Lib.hid (LS.nil (h4.drew.trans (below_putObj _ hK (by omega))) (by rw [World.putObj_size]; exact h5))
    clear h1 h2 h3 h4
    gi_wp2_with fail
    have hK2 : V.drew.heap[Z]? = some (.deferred (some [])) := hK
    have c6 : V.drew.cell? ⟨w.heap.size + 1, 0, none⟩ = some (.int .i64 (f : Int)) := c5
    clear hK c5
    refine wpIn_region_anyR (ro := none) (Two 1000 1001 fun _ _ wx => wx = V.drew) (by kernel_rfl) (by kernel_rfl) rfl ?_
    generalize V.drew = V2 at HF hK2 c6 ⊢
    refine anyR_take (i := 0) (v := .int .i64 (f : Int)) rfl (by kernel_rfl) (by kernel_rfl) (by kernel_rfl) (yr_other (by decide) (by decide) rfl (fun f1 f2 wx hT => ?_)) ?_
    · refine Lands.r (lands_value (w := wx) ?_ hT); rw [hT]; go_simp; skip
    simp only [pu]
    refine anyR_take (i := 1) (v := .slice none 0 0) rfl (by kernel_rfl) (by kernel_rfl) (by kernel_rfl) (yr_other (by decide) (by decide) rfl (fun f1 f2 wx hT => ?_)) ?_
    · refine Lands.r (lands_value (w := wx) ?_ hT); rw [hT]; go_simp; skip
    simp only [pu]
    refine anyR_take (i := 2) (v := .int .i64 (f : Int)) rfl (by kernel_rfl) (by kernel_rfl) (by kernel_rfl) (yr_other (by decide) (by decide) rfl (fun f1 f2 wx hT => ?_)) ?_
    · refine Lands.r (lands_value (w := wx) ?_ hT); rw [hT]; go_simp; skip
    simp only [pu]
    refine anyR_done (by kernel_rfl) (fun w6 h6 => ?_) _
    obtain rfl : w6 = V2 := h6
    gi_wp2_with fail
    rw [Exit.noGoto_ret]
    refine ⟨by simp, .inl ⟨_, _, rfl, run_takeDeferred hK2, ?_⟩⟩
    refine ⟨_, results_tmp2 rfl _ _ _, ?_⟩
    rw [HRES.out]
    exact ⟨_, rfl, HF.out⟩
end Go.Proofs.Ytkbjgaobhbiieaa
/- Next, Wrap, Parts: the developers' contracts. -/
namespace Go.Proofs.Ytkbjgaobhbiieaa
open Go.RowKit
set_option maxRecDepth 100000 in
set_option maxHeartbeats 2000000 in
theorem nextC_any : NextC := fun s w hs => by
  have C1 := clone_lib s w hs
  have C2 := Lib.hid fun wx => first_any s wx hs
  obtain ⟨T, X, Y, hcc, hy⟩ := cellsI_isD (nextD s)
  clear hy
  rw [hcc] at C2 ⊢
  generalize errI (nextD s) = er at C2 ⊢
  have HQ : Hid (Blk (w.alloc (.cells #[.int .i64 0, .string ⟨#[]⟩, .string ⟨#[]⟩] 24)) w.heap.size 24 #[.int .i64 0, .string ⟨#[]⟩, .string ⟨#[]⟩]) := Lib.hid (Blk.new _ _ _)
  have HA := Lib.hid ((Below.refl _ w).alloc (Nat.le_refl _) (.cells #[.int .i64 0, .string ⟨#[]⟩, .string ⟨#[]⟩] 24))
  have C1 := fun wx => clone_lib s wx hs
  clear hcc hs
  go_enter Try.func8, Try.ntmps8
  go_wp2_with fail
  refine (C1 _).mono ?_
  rintro e w1 ⟨rfl, b1⟩
  clear C1
  go_wp2_with fail
  refine (C2.out _).mono ?_
  rintro e w2 ⟨rfl, b2⟩
  have b12 := b1.trans (b2.mono b1.size)
  have HQ2 := Lib.hid (HQ.out.below b12 HQ.out.lt)
  have HB2 := Lib.hid (below_setRow' (HA.out.trans (b12.mono HA.out.size)) (Nat.le_refl _) #[.int .i64 T, .string X, .string Y])
  clear C2 b1 b2 b12
  go_wp2_with (refine wpList_store_row rfl 24 _ _ rfl w.heap.size #[.int .i64 T, .string X, .string Y] rfl rfl 24 _ HQ2.out itemD_size rfl (cells3_one _ _ _) ?_)
  exact bodyPost_ret (results_cell_row_slot rfl _ _ w.heap.size 24 #[.int .i64 T, .string X, .string Y] (0, 0) _ _ rfl (HQ2.out.row_ _) Try.underlying24 rfl itemD_size rfl) rfl ⟨rfl, HB2.out⟩
set_option maxRecDepth 100000 in
theorem wrapC_any : WrapC := fun tag x w hx => by
  obtain ⟨res, hres⟩ : ∃ res, res = wrapS tag x := ⟨_, rfl⟩
  rw [← hres]
  have CT := isTag_any tag w
  have HB0 := Lib.hid (Below.refl w.heap.size w)
  by_cases ht : tag < 0 ∨ 255 < tag ∨ tag % 32 = 31
  · have HRES : Hid (res = (⟨#[]⟩, 1)) := Lib.hid (by rw [hres]; unfold wrapS; rw [if_pos ht])
    have e : tagOk tag = false := by unfold tagOk; rw [decide_eq_true ht]; rfl
    rw [e] at CT
    clear ht hres hx e
    go_enter Try.func10, Try.ntmps10
    go_wp2_with fail
    refine CT.mono ?_
    rintro e w1 ⟨rfl, rfl⟩
    clear CT
    go_wp2_with fail
    go_ret2
    rw [HRES.out]
    exact ⟨rfl, HB0.out⟩
  · have e : tagOk tag = true := by unfold tagOk; rw [decide_eq_false ht]; rfl
    rw [e] at CT
    by_cases hz : 16777216 ≤ x.size
    · have HRES : Hid (res = (⟨#[]⟩, 9)) := Lib.hid (by rw [hres]; unfold wrapS; rw [if_neg ht, if_pos hz])
      have hzi : (16777216 : Int) ≤ (x.size : Int) := by omega
      clear ht hres hx e hz
      go_enter Try.func10, Try.ntmps10
      go_wp2_with fail
      refine CT.mono ?_
      rintro e w1 ⟨rfl, rfl⟩
      clear CT
      go_wp2_with fail
      go_ret2
      rw [HRES.out]
      exact ⟨rfl, HB0.out⟩
    · have HRES : Hid (res = (wrapT tag.toNat x, 0)) := Lib.hid (by rw [hres]; unfold wrapS; rw [if_neg ht, if_neg hz])
      obtain ⟨n, hn⟩ : ∃ n, n = x.size := ⟨_, rfl⟩
      have hsz : (x.size : Int) = (n : Int) := by rw [hn]
      have HD : Hid (decide ((16777216 : Int) ≤ (n : Int)) = false) := Lib.hid (by simp; omega)
      obtain ⟨T, rfl⟩ : ∃ T : Nat, tag = (T : Int) := ⟨tag.toNat, by omega⟩
      rw [Int.toNat_natCast] at HRES
      have C := Lib.hid (wrapped_any T x w (by omega) (by omega))
      clear ht hres hx e hz hn
      go_enter Try.func10, Try.ntmps10
      go_wp2_with fail
      refine CT.mono ?_
      rintro e w1 ⟨rfl, rfl⟩
      clear CT
      dsimp only
      iterate 22 go_step
      rw [HD.out]
      go_wp2_with fail
      refine C.out.mono ?_
      rintro e w2 ⟨rfl, b2⟩
      clear C
      go_wp2_with fail
      go_ret2
      rw [HRES.out]
      exact ⟨rfl, b2⟩
set_option maxRecDepth 100000 in
theorem partsC_any : PartsC := fun s w hs => by
  have C1 := clone_lib s w hs
  have C2 := Lib.hid fun wx => parts_any s wx hs
  generalize partsF 100 s = L at C2 ⊢
  clear hs
  go_enter Try.func12, Try.ntmps12
  go_wp2_with fail
  refine C1.mono ?_
  rintro e w1 ⟨rfl, b1⟩
  clear C1
  have B1 := Lib.hid b1
  clear b1
  go_wp2_with fail
  refine (C2.out _).mono ?_
  rintro e w2 ⟨v, rfl, h2⟩
  have H2 : Hid (LS 24 3 w.heap.size w (L.1.map encIt) v w2) := Lib.hid ⟨⟨h2.own.1, by
    rcases h2.own.2 with h | ⟨g, cap, cur, h3, h4, h5⟩
    · exact .inl h
    · exact .inr ⟨g, cap, cur, h3, Nat.le_trans B1.out.size h4, h5⟩⟩, h2.each, B1.out.trans (h2.b.mono B1.out.size), Nat.le_trans B1.out.size h2.lo⟩
  obtain ⟨p, c, hu⟩ := h2.len
  rw [List.length_map] at hu
  subst hu
  clear h2
  go_wp2_with fail
  go_ret2
  exact ⟨_, rfl, H2.out⟩
end Go.Proofs.Ytkbjgaobhbiieaa
/- One list, of tag 30: the developers'. -/
namespace Go.Proofs.Ytkbjgaobhbiieaa
open Go.RowKit
/-- The parts of the one list that a text is. -/
def inD (s : ByteArray) : Option (List It) := (nextD s).elim none fun y =>
  if y.1 ≠ 48 ∨ y.2.2.size ≠ 0 then none else if (partsF 100 y.2.1).2 ≠ 0 then none else some (partsF 100 y.2.1).1
theorem LS.lower {E : TypeId} {z N M : Nat} {w0 w1 w : World} {l : List (List Value)} {v : Value} (h : LS E z M w1 l v w) (hb : Below N w0 w1) (hN : N ≤ M) : LS E z N w0 l v w :=
  ⟨⟨h.own.1, by
    rcases h.own.2 with k | ⟨g, cap, cur, h3, h4, h5⟩
    · exact .inl k
    · exact .inr ⟨g, cap, cur, h3, Nat.le_trans hN h4, h5⟩⟩, h.each, hb.trans (h.b.mono hN), Nat.le_trans hN h.lo⟩
theorem nextD_text {s : ByteArray} {y : It} (h : nextD s = some y) : y.2.1.size ≤ s.size := by
  obtain ⟨T, x, r⟩ := y
  obtain ⟨_, _, _, e⟩ := wrap_next h
  have := congrArg ByteArray.size e
  rw [size_app, wrap_len] at this
  show x.size ≤ _
  omega
set_option maxRecDepth 100000 in
set_option maxHeartbeats 4000000 in
theorem inList_any (s : ByteArray) (w : World) (hs : s.size ≤ 281474976710656) :
    Calls Try.prog 35 #[.string s] w fun e w' => ∃ v, e = .returned (.tuple #[v, .bool (inD s).isSome]) ∧ LS 24 3 w.heap.size w (((inD s).getD []).map encIt) v w' := by
  obtain ⟨res, hres⟩ : ∃ res, res = inD s := ⟨_, rfl⟩
  rw [← hres]
  have C := fun wx => first_any s wx hs
  unfold inD at hres
  cases hn : nextD s with
  | none =>
    rw [hn] at C hres
    have HRES : Hid (res = none) := Lib.hid hres
    clear hn hres hs
    go_enter Try.func35, Try.ntmps35
    go_wp2_with fail
    refine (C _).mono ?_
    rintro e w1 ⟨rfl, b1⟩
    clear C
    have HZ_q1 := Lib.hid (Blk.new w1 24 #[.int .i64 0, .string ⟨#[]⟩, .string ⟨#[]⟩])
    have hb_q1 := below_setRow' ((Below.refl w1.heap.size w1).alloc (Nat.le_refl _) (.cells #[.int .i64 0, .string ⟨#[]⟩, .string ⟨#[]⟩] 24)) (Nat.le_refl _) #[.int .i64 0, .string ⟨#[]⟩, .string ⟨#[]⟩]
    have hz_q1 := HZ_q1.out.row_ #[.int .i64 0, .string ⟨#[]⟩, .string ⟨#[]⟩]
    obtain ⟨q1, hq1⟩ : ∃ q, q = w1.heap.size := ⟨_, rfl⟩
    obtain ⟨W1, hW1⟩ : ∃ W, W = (w1.alloc (.cells #[.int .i64 0, .string ⟨#[]⟩, .string ⟨#[]⟩] 24)).setRow w1.heap.size #[.int .i64 0, .string ⟨#[]⟩, .string ⟨#[]⟩] := ⟨_, rfl⟩
    rw [← hW1] at hb_q1 hz_q1
    rw [← hq1] at hz_q1
    have HW_q1 := Lib.hid hW1
    have HQ_q1 := Lib.hid hq1
    clear hW1 hq1
    have d0 : W1.cell? ⟨q1, 0, none⟩ = some (.int .i64 0) := hz_q1.cell 0
    have d1 : W1.cell? ⟨q1, 1, none⟩ = some (.string ⟨#[]⟩) := hz_q1.cell 1
    have d2 : W1.cell? ⟨q1, 2, none⟩ = some (.string ⟨#[]⟩) := hz_q1.cell 2
    have HB : Hid (LS 24 3 w.heap.size w (([] : List It).map encIt) (.slice none 0 0) W1) := Lib.hid (LS.nil (b1.trans (hb_q1.mono b1.size)) (Nat.le_trans b1.size hb_q1.size))
    clear b1 hb_q1 hz_q1
    go_wp2_with (refine wpList_store_row rfl 24 _ _ rfl w1.heap.size #[.int .i64 0, .string ⟨#[]⟩, .string ⟨#[]⟩] rfl rfl 24 _ HZ_q1.out itemD_size rfl (cells3_one _ _ _) ?_; rw [← HW_q1.out, ← HQ_q1.out])
    go_ret2
    rw [HRES.out]
    exact ⟨_, rfl, HB.out⟩
  | some y =>
    have htx := nextD_text hn
    obtain ⟨ty, tx, tr⟩ := y
    have htx : tx.size ≤ s.size := htx
    rw [hn] at C hres
    have hres : res = if ty ≠ 48 ∨ tr.size ≠ 0 then none else if (partsF 100 tx).2 ≠ 0 then none else some (partsF 100 tx).1 := hres
    by_cases h1 : ty = 48
    · subst h1
      by_cases h2 : tr.size = 0
      · have h2' := text_none14 h2
        subst h2'
        have CP := Lib.hid fun wx => parts_any tx wx (by omega)
        have HE := Lib.hid (partsF_err 100 tx)
        rw [if_neg (by omega)] at hres
        have HRES := Lib.hid hres
        generalize partsF 100 tx = L at CP HE HRES
        obtain ⟨L, f⟩ := L
        clear hn hres h2 htx hs
        go_enter Try.func35, Try.ntmps35
        go_wp2_with fail
        refine (C _).mono ?_
        rintro e w1 ⟨rfl, b1⟩
        clear C
        have HZ_q1 := Lib.hid (Blk.new w1 24 #[.int .i64 0, .string ⟨#[]⟩, .string ⟨#[]⟩])
        have hb_q1 := below_setRow' ((Below.refl w1.heap.size w1).alloc (Nat.le_refl _) (.cells #[.int .i64 0, .string ⟨#[]⟩, .string ⟨#[]⟩] 24)) (Nat.le_refl _) #[.int .i64 48, .string tx, .string ⟨#[]⟩]
        have hz_q1 := HZ_q1.out.row_ #[.int .i64 48, .string tx, .string ⟨#[]⟩]
        obtain ⟨q1, hq1⟩ : ∃ q, q = w1.heap.size := ⟨_, rfl⟩
        obtain ⟨W1, hW1⟩ : ∃ W, W = (w1.alloc (.cells #[.int .i64 0, .string ⟨#[]⟩, .string ⟨#[]⟩] 24)).setRow w1.heap.size #[.int .i64 48, .string tx, .string ⟨#[]⟩] := ⟨_, rfl⟩
        rw [← hW1] at hb_q1 hz_q1
        rw [← hq1] at hz_q1
        have HW_q1 := Lib.hid hW1
        have HQ_q1 := Lib.hid hq1
        clear hW1 hq1
        have d0 : W1.cell? ⟨q1, 0, none⟩ = some (.int .i64 48) := hz_q1.cell 0
        have d1 : W1.cell? ⟨q1, 1, none⟩ = some (.string tx) := hz_q1.cell 1
        have d2 : W1.cell? ⟨q1, 2, none⟩ = some (.string ⟨#[]⟩) := hz_q1.cell 2
        have HB := Lib.hid (b1.trans (hb_q1.mono b1.size))
        clear b1 hb_q1 hz_q1
        go_wp2_with (refine wpList_store_row rfl 24 _ _ rfl w1.heap.size #[.int .i64 48, .string tx, .string ⟨#[]⟩] rfl rfl 24 _ HZ_q1.out itemD_size rfl (cells3_one _ _ _) ?_; rw [← HW_q1.out, ← HQ_q1.out])
        refine (CP.out _).mono ?_
        rintro e w2 ⟨v, rfl, h2⟩
        have HL : Hid (LS 24 3 w.heap.size w (L.map encIt) v w2) := Lib.hid (h2.lower HB.out HB.out.size)
        obtain ⟨p, c, hu⟩ := h2.len
        rw [List.length_map] at hu
        subst hu
        clear h2 CP d0 d1 d2
        by_cases hf : f = 0
        · subst hf
          have HR2 : Hid (res = some L) := Lib.hid HRES.out
          go_wp2_with fail
          go_ret2
          rw [HR2.out]
          exact ⟨_, rfl, HL.out⟩
        · have HR2 : Hid (res = none) := Lib.hid (by rw [HRES.out, if_pos hf])
          obtain rfl : L = [] := HE.out hf
          have hfi : ¬ (f : Int) = 0 := by omega
          have hfb : ((f : Int) == 0) = false := by simpa using hfi
          clear hf
          go_wp2_with fail
          go_ret2
          rw [HR2.out]
          exact ⟨_, rfl, HL.out⟩
      · have hne := ne_none14 h2
        have HRES : Hid (res = none) := Lib.hid (by rw [hres, if_pos (.inr h2)])
        clear hn hres h2 htx hs
        go_enter Try.func35, Try.ntmps35
        go_wp2_with fail
        refine (C _).mono ?_
        rintro e w1 ⟨rfl, b1⟩
        clear C
        have HZ_q1 := Lib.hid (Blk.new w1 24 #[.int .i64 0, .string ⟨#[]⟩, .string ⟨#[]⟩])
        have hb_q1 := below_setRow' ((Below.refl w1.heap.size w1).alloc (Nat.le_refl _) (.cells #[.int .i64 0, .string ⟨#[]⟩, .string ⟨#[]⟩] 24)) (Nat.le_refl _) #[.int .i64 48, .string tx, .string tr]
        have hz_q1 := HZ_q1.out.row_ #[.int .i64 48, .string tx, .string tr]
        obtain ⟨q1, hq1⟩ : ∃ q, q = w1.heap.size := ⟨_, rfl⟩
        obtain ⟨W1, hW1⟩ : ∃ W, W = (w1.alloc (.cells #[.int .i64 0, .string ⟨#[]⟩, .string ⟨#[]⟩] 24)).setRow w1.heap.size #[.int .i64 48, .string tx, .string tr] := ⟨_, rfl⟩
        rw [← hW1] at hb_q1 hz_q1
        rw [← hq1] at hz_q1
        have HW_q1 := Lib.hid hW1
        have HQ_q1 := Lib.hid hq1
        clear hW1 hq1
        have d0 : W1.cell? ⟨q1, 0, none⟩ = some (.int .i64 48) := hz_q1.cell 0
        have d1 : W1.cell? ⟨q1, 1, none⟩ = some (.string tx) := hz_q1.cell 1
        have d2 : W1.cell? ⟨q1, 2, none⟩ = some (.string tr) := hz_q1.cell 2
        have HB : Hid (LS 24 3 w.heap.size w (([] : List It).map encIt) (.slice none 0 0) W1) := Lib.hid (LS.nil (b1.trans (hb_q1.mono b1.size)) (Nat.le_trans b1.size hb_q1.size))
        clear b1 hb_q1 hz_q1
        go_wp2_with (refine wpList_store_row rfl 24 _ _ rfl w1.heap.size #[.int .i64 48, .string tx, .string tr] rfl rfl 24 _ HZ_q1.out itemD_size rfl (cells3_one _ _ _) ?_; rw [← HW_q1.out, ← HQ_q1.out])
        go_ret2
        rw [HRES.out]
        exact ⟨_, rfl, HB.out⟩
    · have HRES : Hid (res = none) := Lib.hid (by rw [hres, if_pos (.inl h1)])
      have h1i : ¬ (ty : Int) = 48 := by omega
      have h1b : ((ty : Int) == 48) = false := by simpa using h1i
      clear hn hres h1 htx hs
      go_enter Try.func35, Try.ntmps35
      go_wp2_with fail
      refine (C _).mono ?_
      rintro e w1 ⟨rfl, b1⟩
      clear C
      have HZ_q1 := Lib.hid (Blk.new w1 24 #[.int .i64 0, .string ⟨#[]⟩, .string ⟨#[]⟩])
      have hb_q1 := below_setRow' ((Below.refl w1.heap.size w1).alloc (Nat.le_refl _) (.cells #[.int .i64 0, .string ⟨#[]⟩, .string ⟨#[]⟩] 24)) (Nat.le_refl _) #[.int .i64 (ty : Int), .string tx, .string tr]
      have hz_q1 := HZ_q1.out.row_ #[.int .i64 (ty : Int), .string tx, .string tr]
      obtain ⟨q1, hq1⟩ : ∃ q, q = w1.heap.size := ⟨_, rfl⟩
      obtain ⟨W1, hW1⟩ : ∃ W, W = (w1.alloc (.cells #[.int .i64 0, .string ⟨#[]⟩, .string ⟨#[]⟩] 24)).setRow w1.heap.size #[.int .i64 (ty : Int), .string tx, .string tr] := ⟨_, rfl⟩
      rw [← hW1] at hb_q1 hz_q1
      rw [← hq1] at hz_q1
      have HW_q1 := Lib.hid hW1
      have HQ_q1 := Lib.hid hq1
      clear hW1 hq1
      have d0 : W1.cell? ⟨q1, 0, none⟩ = some (.int .i64 (ty : Int)) := hz_q1.cell 0
      have d1 : W1.cell? ⟨q1, 1, none⟩ = some (.string tx) := hz_q1.cell 1
      have d2 : W1.cell? ⟨q1, 2, none⟩ = some (.string tr) := hz_q1.cell 2
      have HB : Hid (LS 24 3 w.heap.size w (([] : List It).map encIt) (.slice none 0 0) W1) := Lib.hid (LS.nil (b1.trans (hb_q1.mono b1.size)) (Nat.le_trans b1.size hb_q1.size))
      clear b1 hb_q1 hz_q1
      go_wp2_with (refine wpList_store_row rfl 24 _ _ rfl w1.heap.size #[.int .i64 (ty : Int), .string tx, .string tr] rfl rfl 24 _ HZ_q1.out itemD_size rfl (cells3_one _ _ _) ?_; rw [← HW_q1.out, ← HQ_q1.out])
      go_ret2
      rw [HRES.out]
      exact ⟨_, rfl, HB.out⟩
end Go.Proofs.Ytkbjgaobhbiieaa
