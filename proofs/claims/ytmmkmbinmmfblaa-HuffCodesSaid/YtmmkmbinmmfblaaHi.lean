/- Lists of integers of one's own; the reference's New of chapter 9. -/
import Derived.Test.YtmmkmbinmmfblaaHh
import Derived.Test.YtmmkmbinmmfblaaGx
import Derived.OwnWalk
namespace Go.Proofs.Ytmmkmbinmmfblaa
open Go.RowKit
/-- A slice that holds a list of integers, made since w0. -/
structure LI (B : Nat) (w0 : World) (l : List Int) (v : Value) (wr : World) : Prop where
  own : wr.ownsRow B 3 1 v l.length (l.map fun (x : Int) => Value.int .i64 x)
  b : Below B w0 wr
  lo : B ≤ wr.heap.size
theorem LI.nil {B : Nat} {w0 w : World} (h : Below B w0 w) (hB : B ≤ w.heap.size) : LI B w0 [] (.slice none 0 0) w := ⟨⟨rfl, .inl ⟨rfl, rfl⟩⟩, h, hB⟩
theorem LI.below {B : Nat} {w0 w w' : World} {l : List Int} {v : Value} (h : LI B w0 l v w) (hb : Below w.heap.size w w') : LI B w0 l v w' := by
  refine ⟨⟨h.own.1, ?_⟩, h.b.trans (hb.mono h.lo), Nat.le_trans h.lo hb.size⟩
  rcases h.own.2 with h1 | ⟨g, cap, cur, h1, h2, h3, h4⟩
  · exact .inl h1
  · refine .inr ⟨g, cap, cur, h1, h2, ?_, h4⟩
    rw [hb.block g (by
      rcases Nat.lt_or_ge g w.heap.size with hlt | hge
      · exact hlt
      · rw [Array.getElem?_eq_none hge] at h3; cases h3)]
    exact h3
/-- The first n of f. -/
def firstI (f : Nat → Int) (n : Nat) : List Int := (List.range n).map f
theorem firstI_len (f : Nat → Int) (n : Nat) : (firstI f n).length = n := by simp [firstI]
/-- It is read as any slice. -/
theorem LI.is {B : Nat} {w0 w : World} {f : Nat → Int} {n : Nat} {v : Value} (h : LI B w0 (firstI f n) v w) (lo : ∀ i, i < n → -9223372036854775808 ≤ f i) (hi : ∀ i, i < n → f i < 9223372036854775808) :
    ∃ p cap, v = .slice p n cap ∧ IS p n cap f w ∧ ∀ a, p = some a → B ≤ a.block := by
  have hown := h.own
  rw [firstI_len] at hown
  rcases hown.2 with ⟨h1, h2⟩ | ⟨g, cap, cur, h1, h2, h3, h4, h5, h6, h7⟩
  · subst h2; exact ⟨none, 0, h1, ⟨fun _ => ⟨rfl, rfl⟩, (fun a e => by cases e), (fun a e => by cases e), lo, hi⟩, (fun a e => by cases e)⟩
  · refine ⟨some ⟨g, 0, none⟩, cap, h1, ⟨(fun e => by cases e), (fun a e i hi2 => ?_), (fun a e => ?_), lo, hi⟩, (fun a e => by cases e; exact h2)⟩
    · cases e
      rw [addr_add, Nat.zero_add, cell_of_row w g i cur 3 (0, 0) h3]
      have : (cur.toList.take (n * 1))[i]? = some (.int .i64 (f i)) := by
        rw [h7, firstI, List.map_map, List.getElem?_map, List.getElem?_range hi2]; rfl
      rw [List.getElem?_take, if_pos (by omega)] at this
      simpa using this
    · cases e
      show g < _
      rcases Nat.lt_or_ge g w.heap.size with hlt | hge
      · exact hlt
      · rw [Array.getElem?_eq_none hge] at h3; cases h3
theorem IS.set {p : Option Addr} {n cap : Nat} {f : Nat → Int} {w : World} (h : IS p n cap f w) (q : Addr) (v : Value) (hne : ∀ a, p = some a → a.block ≠ q.block) : IS p n cap f (w.setCell q v) :=
  ⟨h.nil_, (fun a ha i hi => by
    have hb : (a.add i).block = a.block := by unfold Addr.add; split <;> rfl
    have : (a.add i).block ≠ q.block := by rw [hb]; exact hne a ha
    rw [World.cell?_of_block (Below.heap_setCell w q v _ this)]; exact h.cell a ha i hi), (fun a ha => by simp [World.setCell]; exact h.lt a ha), h.lo, h.hi⟩
/-- append(nil, x...): a list of one's own. -/
theorem wpList_copyI {ops : Array Oper} {rest : List Oper} {o : Oper} {a : Act} {Q : Exit → Act → World → Prop} {p : Option Addr} {n cap : Nat} {f : Nat → Int} {w : World} (hgd : o.guard = none) (x : Operand)
    (ho : o.op = .call { callee := .builtin .append, args := #[.const (.slice none 0 0), x], argTypes := #[22, 22] }) (hx : a.eval x = .slice p n cap) (h : IS p n cap f w) (hn : n ≤ 17592186044416)
    (k : ∀ v' w', LI w.heap.size w (firstI f n) v' w' → wpList Try.prog ops Q rest (a.put o.dst v') w') : wpList Try.prog ops Q (o :: rest) a w := by
  obtain ⟨i0, hi, hz0, hz1, hz2⟩ := info_parts int_infoC
  cases p with
  | none =>
    obtain ⟨rfl, rfl⟩ := h.nil_ rfl
    refine wpList_valK (R := fun w' => w' = w) (.slice none 0 0) hgd ?_ ?_
    · refine lands_value (w := w) ?_ rfl
      have hc : a.eval (.const (.slice none 0 0)) = .slice none 0 0 := rfl
      simp [execOp, ho, hx, hc, resolve, invoke, builtin]
      go_simp
    · rintro w' rfl
      exact k _ _ (LI.nil (Below.refl _ _) (Nat.le_refl _))
  | some ad =>
    refine wpList_append_own _ hgd (.const (.slice none 0 0)) x 22 ho w.heap.size 3 i0 (.int .i64 0) 1 8 Try.underlying22 hi hz0 hz1 hz2 rfl (by decide) (.slice none 0 0) 0 [] rfl ⟨rfl, .inl ⟨rfl, rfl⟩⟩ ad n cap ((firstI f n).map fun x => .int .i64 x) hx (by rw [List.length_map, firstI_len, Nat.mul_one]) ?_ ?_ ?_ ?_ (Nat.le_refl _) ?_
    · intro j u hu
      have hj : j < n := by
        rcases Nat.lt_or_ge j n with h1 | h1
        · exact h1
        · rw [List.getElem?_eq_none (by rw [List.length_map, firstI_len]; exact h1)] at hu; cases hu
      rw [h.cell ad rfl j hj, ← hu, firstI, List.map_map, List.getElem?_map, List.getElem?_range hj]; rfl
    · intro u hu
      obtain ⟨y, _, rfl⟩ := List.mem_map.1 hu
      rfl
    · unfold maxLen; omega
    · omega
    · intro v' w2 hown hg _
      refine k v' w2 ⟨?_, ?_, hg.size⟩
      · rw [firstI_len]; simpa using hown
      · exact (Below.refl _ w).grown hg (Nat.le_refl _) (fun k e => by cases e)
/-- What New answers: its error. -/
def newE (f : Nat → Int) (n : Nat) : Nat := if codesE f n = 0 then if kr (toL f) n = 32768 ∨ kr (toL f) n = 0 ∨ sgl (toL f) n = 1 then 0 else 2 else codesE f n
theorem codesE_zero {f : Nat → Int} {n : Nat} (h : codesE f n = 0) : (okB f n = true ∧ n ≤ 300) ∧ kr (toL f) n ≤ 32768 := by
  unfold codesE at h
  by_cases h1 : okB f n = true ∧ n ≤ 300
  · rw [if_pos h1] at h
    by_cases h2 : kr (toL f) n ≤ 32768
    · exact ⟨h1, h2⟩
    · rw [if_neg h2] at h; cases h
  · rw [if_neg h1] at h; cases h
set_option maxRecDepth 100000 in
set_option maxHeartbeats 4000000 in
theorem rnew9_arg (p : Option Addr) (n cap : Nat) (f : Nat → Int) (w : World) (h : IS p n cap f w) (hn : n ≤ 17592186044416) (he : codesE f n ≠ 0) :
    Calls Try.prog 17 #[.slice p n cap] w fun e w' => e = .returned (.tuple #[.agg #[.slice none 0 0, .slice none 0 0], .int .i64 (codesE f n : Int)]) ∧ Below w.heap.size w w' := by
  have CS := Lib.hid (fun w h => rcodes9_not p n cap f w h hn he)
  have HI := fun o => h.below ((Below.refl _ w).alloc (Nat.le_refl _) o)
  have hne : ¬ (codesE f n : Int) = 0 := by omega
  generalize codesE f n = E at *
  clear he h hn
  go_enter Try.func17, Try.ntmps17
  go_wp2_with fail
  refine (CS.out _ (HI _)).mono ?_
  intro e w1 hw1
  obtain ⟨rfl, e1⟩ := hw1
  obtain rfl := e1
  have hb0 := Blk.new w 38 #[.slice none 0 0, .slice none 0 0]
  go_wp2_with (refine wpList_store_row rfl 38 _ _ rfl w.heap.size #[.slice none 0 0, .slice none 0 0] rfl rfl 38 _ hb0 (by kernel_rfl) rfl rfl ?_)
  exact bodyPost_ret (results_cell_row_slot rfl _ _ w.heap.size 38 #[.slice none 0 0, .slice none 0 0] (0, 0) _ _ rfl hb0 Try.underlying38 rfl (by kernel_rfl) rfl) rfl ⟨rfl, (Below.refl _ _).alloc (Nat.le_refl _) _⟩
set_option maxRecDepth 100000 in
set_option maxHeartbeats 4000000 in
theorem rnew9_form (p : Option Addr) (n cap : Nat) (f : Nat → Int) (w : World) (h : IS p n cap f w) (he : codesE f n = 0) (hk1 : kr (toL f) n ≠ 32768) (hk0 : kr (toL f) n ≠ 0) (hs : sgl (toL f) n ≠ 1) :
    Calls Try.prog 17 #[.slice p n cap] w fun e w' => e = .returned (.tuple #[.agg #[.slice none 0 0, .slice none 0 0], .int .i64 2]) ∧ Below w.heap.size w w' := by
  obtain ⟨⟨hok, hn⟩, hk⟩ := codesE_zero he
  have CC := Lib.hid (fun w h => rcodes9_ok p n cap f w h hn hok hk)
  have CS := Lib.hid (fun w h => rsum9_any p n cap f w h (by omega))
  rw [sumV_ok ⟨hok, hn⟩] at CS
  have CG := Lib.hid (fun w h => rsingle9_any p n cap f w h hn hok)
  rw [decide_eq_false hs] at CG
  have HI := h.below ((Below.refl _ w).alloc (Nat.le_refl _) (.cells #[.slice none 0 0, .slice none 0 0] 38))
  have hki1 : ¬ (kr (toL f) n : Int) = 32768 := by omega
  have hki0 : ¬ (kr (toL f) n : Int) = 0 := by omega
  generalize kr (toL f) n = S at *
  clear he hk1 hk0 hs hk hok h
  go_enter Try.func17, Try.ntmps17
  have hb0 := Blk.new w 38 #[.slice none 0 0, .slice none 0 0]
  have hl0 : Below w.heap.size w (w.alloc (.cells #[.slice none 0 0, .slice none 0 0] 38)) := (Below.refl _ _).alloc (Nat.le_refl _) _
  go_wp2_with fail
  refine (CC.out _ HI).mono ?_
  rintro e w1 ⟨rfl, i1, b1⟩
  have hb1 := hb0.below b1 hb0.lt
  have hl1 := hl0.trans (b1.mono hl0.size)
  have HI1 := HI.below b1
  clear hb0 hl0 b1 HI i1
  go_wp2_with fail
  refine (CS.out _ HI1).mono ?_
  intro e w2 hw2
  obtain ⟨rfl, e2⟩ := hw2
  obtain rfl := e2.symm
  go_wp2_with fail
  have hbn1 : ((S : Int) != 32768) = true := bne_iff_ne.2 hki1
  have hbn0 : ((S : Int) != 0) = true := bne_iff_ne.2 hki0
  simp only [hbn1, hbn0, Bool.and_self]
  refine (CG.out _ HI1).mono ?_
  intro e w2 hw2
  obtain ⟨rfl, e2⟩ := hw2
  obtain rfl := e2.symm
  have c0 : w1.cell? ⟨w.heap.size, 0, none⟩ = some (.slice none 0 0) := hb1.cell 0
  have c1 : w1.cell? ⟨w.heap.size, 1, none⟩ = some (.slice none 0 0) := hb1.cell 1
  have f0 := hb1.frozen 0
  have f1 := hb1.frozen 1
  go_wp2_with fail
  have hb4 := (hb1.set_ 0 (.slice none 0 0)).set_ 1 (.slice none 0 0)
  have e4 : ((#[Value.slice none 0 0, .slice none 0 0] : Array Value).setIfInBounds 0 (.slice none 0 0)).setIfInBounds 1 (.slice none 0 0) = #[.slice none 0 0, .slice none 0 0] := rfl
  rw [e4] at hb4
  exact bodyPost_ret (results_cell_row_slot rfl _ _ w.heap.size 38 #[.slice none 0 0, .slice none 0 0] (0, 0) _ _ rfl hb4 Try.underlying38 rfl (by kernel_rfl) rfl) rfl ⟨rfl, (hl1.setCell (Nat.le_refl _) _).setCell (Nat.le_refl _) _⟩
set_option maxRecDepth 100000 in
set_option maxHeartbeats 4000000 in
theorem rnew9_whole (p : Option Addr) (n cap : Nat) (f : Nat → Int) (w : World) (h : IS p n cap f w) (he : codesE f n = 0) (hk1 : kr (toL f) n = 32768) :
    Calls Try.prog 17 #[.slice p n cap] w fun e w' => ∃ p1 c1 p2 c2, e = .returned (.tuple #[.agg #[.slice p1 n c1, .slice p2 n c2], .int .i64 0]) ∧ IS p1 n c1 f w' ∧ IS p2 n c2 (fun i => (codeN (toL f) n i : Int)) w' ∧ Below w.heap.size w w' := by
  obtain ⟨⟨hok, hn⟩, hk⟩ := codesE_zero he
  have CC := Lib.hid (fun w h => rcodes9_ok p n cap f w h hn hok hk)
  have CS := Lib.hid (fun w h => rsum9_any p n cap f w h (by omega))
  rw [sumV_ok ⟨hok, hn⟩] at CS
  have CG := Lib.hid (fun w h => rsingle9_any p n cap f w h hn hok)
  have HI := h.below ((Below.refl _ w).alloc (Nat.le_refl _) (.cells #[.slice none 0 0, .slice none 0 0] 38))
  have hlo := h.lo
  have hhi := h.hi
  clear he hk hok h
  have hki1 : (kr (toL f) n : Int) = 32768 := by omega
  generalize kr (toL f) n = S at *
  obtain rfl : S = 32768 := by omega
  clear hki1 hk1
  go_enter Try.func17, Try.ntmps17
  have hb0 := Blk.new w 38 #[.slice none 0 0, .slice none 0 0]
  have hl0 : Below w.heap.size w (w.alloc (.cells #[.slice none 0 0, .slice none 0 0] 38)) := (Below.refl _ _).alloc (Nat.le_refl _) _
  have hz0 : (w.alloc (.cells #[.slice none 0 0, .slice none 0 0] 38)).heap.size = w.heap.size + 1 := by simp
  go_wp2_with fail
  refine (CC.out _ HI).mono ?_
  rintro e w1 ⟨rfl, i1, b1⟩
  rw [hz0] at i1
  have hb1 := hb0.below b1 hb0.lt
  have hl1 := hl0.trans (b1.mono hl0.size)
  have hs1 : w.heap.size + 1 ≤ w1.heap.size := by have := b1.size; omega
  have HI1 := HI.below b1
  clear hb0 hl0 b1 HI hz0
  go_wp2_with fail
  refine (CS.out _ HI1).mono ?_
  intro e w2 hw2
  obtain ⟨rfl, e2⟩ := hw2
  obtain rfl := e2.symm
  go_wp2_with (refine wpList_copyI rfl (.tmp 34) rfl rfl HI1 (by omega) ?_; intro vc w3 hL; obtain ⟨p3, c3, rfl, i3, hpb⟩ := hL.is hlo hhi; have b3 := hL.b; have hb3 := hb1.below b3 hb1.lt; have hl3 := hl1.trans (b3.mono hl1.size); have i13 := i1.below b3; have c0 : w3.cell? ⟨w.heap.size, 0, none⟩ = some (.slice none 0 0) := hb3.cell 0; have c1 : w3.cell? ⟨w.heap.size, 1, none⟩ = some (.slice none 0 0) := hb3.cell 1; have f0 := hb3.frozen 0; have f1 := hb3.frozen 1; have hpne : ∀ a, p3 = some a → a.block ≠ w.heap.size := (fun a ha => by have := hpb a ha; omega); clear hL b3 hb1 hl1 i1 HI1)
  have hb4 := (hb3.set_ 0 (.slice p3 n c3)).set_ 1 (.slice (some ⟨w.heap.size + 1, 0, none⟩) n n)
  have e4 : ((#[Value.slice none 0 0, .slice none 0 0] : Array Value).setIfInBounds 0 (.slice p3 n c3)).setIfInBounds 1 (.slice (some ⟨w.heap.size + 1, 0, none⟩) n n) = #[.slice p3 n c3, .slice (some ⟨w.heap.size + 1, 0, none⟩) n n] := rfl
  rw [e4] at hb4
  have hinf : (Try.prog.info? 38).map (·.size) = some (#[Value.slice p3 n c3, .slice (some ⟨w.heap.size + 1, 0, none⟩) n n]).size := by
    show _ = some 2
    kernel_rfl
  have hq : ∀ a : Addr, some (⟨w.heap.size + 1, 0, none⟩ : Addr) = some a → a.block ≠ w.heap.size := fun a ha => by cases ha; show w.heap.size + 1 ≠ _; omega
  have i5 := (i3.set ⟨w.heap.size, 0, none⟩ (.slice p3 n c3) hpne).set ⟨w.heap.size, 1, none⟩ (.slice (some ⟨w.heap.size + 1, 0, none⟩) n n) hpne
  have i6 := (i13.set ⟨w.heap.size, 0, none⟩ (.slice p3 n c3) hq).set ⟨w.heap.size, 1, none⟩ (.slice (some ⟨w.heap.size + 1, 0, none⟩) n n) hq
  exact bodyPost_ret (results_cell_row_slot rfl _ _ w.heap.size 38 #[.slice p3 n c3, .slice (some ⟨w.heap.size + 1, 0, none⟩) n n] (0, 0) _ _ rfl hb4 Try.underlying38 rfl hinf rfl) rfl ⟨p3, c3, _, _, rfl, i5, i6, (hl3.setCell (Nat.le_refl _) _).setCell (Nat.le_refl _) _⟩
set_option maxRecDepth 100000 in
set_option maxHeartbeats 4000000 in
theorem rnew9_none (p : Option Addr) (n cap : Nat) (f : Nat → Int) (w : World) (h : IS p n cap f w) (he : codesE f n = 0) (hk0 : kr (toL f) n = 0) :
    Calls Try.prog 17 #[.slice p n cap] w fun e w' => ∃ p1 c1 p2 c2, e = .returned (.tuple #[.agg #[.slice p1 n c1, .slice p2 n c2], .int .i64 0]) ∧ IS p1 n c1 f w' ∧ IS p2 n c2 (fun i => (codeN (toL f) n i : Int)) w' ∧ Below w.heap.size w w' := by
  obtain ⟨⟨hok, hn⟩, hk⟩ := codesE_zero he
  have CC := Lib.hid (fun w h => rcodes9_ok p n cap f w h hn hok hk)
  have CS := Lib.hid (fun w h => rsum9_any p n cap f w h (by omega))
  rw [sumV_ok ⟨hok, hn⟩] at CS
  have CG := Lib.hid (fun w h => rsingle9_any p n cap f w h hn hok)
  have HI := h.below ((Below.refl _ w).alloc (Nat.le_refl _) (.cells #[.slice none 0 0, .slice none 0 0] 38))
  have hlo := h.lo
  have hhi := h.hi
  clear he hk hok h
  generalize kr (toL f) n = S at *
  subst hk0
  go_enter Try.func17, Try.ntmps17
  have hb0 := Blk.new w 38 #[.slice none 0 0, .slice none 0 0]
  have hl0 : Below w.heap.size w (w.alloc (.cells #[.slice none 0 0, .slice none 0 0] 38)) := (Below.refl _ _).alloc (Nat.le_refl _) _
  have hz0 : (w.alloc (.cells #[.slice none 0 0, .slice none 0 0] 38)).heap.size = w.heap.size + 1 := by simp
  go_wp2_with fail
  refine (CC.out _ HI).mono ?_
  rintro e w1 ⟨rfl, i1, b1⟩
  rw [hz0] at i1
  have hb1 := hb0.below b1 hb0.lt
  have hl1 := hl0.trans (b1.mono hl0.size)
  have hs1 : w.heap.size + 1 ≤ w1.heap.size := by have := b1.size; omega
  have HI1 := HI.below b1
  clear hb0 hl0 b1 HI hz0
  go_wp2_with fail
  refine (CS.out _ HI1).mono ?_
  intro e w2 hw2
  obtain ⟨rfl, e2⟩ := hw2
  obtain rfl := e2.symm
  go_wp2_with (refine wpList_copyI rfl (.tmp 34) rfl rfl HI1 (by omega) ?_; intro vc w3 hL; obtain ⟨p3, c3, rfl, i3, hpb⟩ := hL.is hlo hhi; have b3 := hL.b; have hb3 := hb1.below b3 hb1.lt; have hl3 := hl1.trans (b3.mono hl1.size); have i13 := i1.below b3; have c0 : w3.cell? ⟨w.heap.size, 0, none⟩ = some (.slice none 0 0) := hb3.cell 0; have c1 : w3.cell? ⟨w.heap.size, 1, none⟩ = some (.slice none 0 0) := hb3.cell 1; have f0 := hb3.frozen 0; have f1 := hb3.frozen 1; have hpne : ∀ a, p3 = some a → a.block ≠ w.heap.size := (fun a ha => by have := hpb a ha; omega); clear hL b3 hb1 hl1 i1 HI1)
  have hb4 := (hb3.set_ 0 (.slice p3 n c3)).set_ 1 (.slice (some ⟨w.heap.size + 1, 0, none⟩) n n)
  have e4 : ((#[Value.slice none 0 0, .slice none 0 0] : Array Value).setIfInBounds 0 (.slice p3 n c3)).setIfInBounds 1 (.slice (some ⟨w.heap.size + 1, 0, none⟩) n n) = #[.slice p3 n c3, .slice (some ⟨w.heap.size + 1, 0, none⟩) n n] := rfl
  rw [e4] at hb4
  have hinf : (Try.prog.info? 38).map (·.size) = some (#[Value.slice p3 n c3, .slice (some ⟨w.heap.size + 1, 0, none⟩) n n]).size := by
    show _ = some 2
    kernel_rfl
  have hq : ∀ a : Addr, some (⟨w.heap.size + 1, 0, none⟩ : Addr) = some a → a.block ≠ w.heap.size := fun a ha => by cases ha; show w.heap.size + 1 ≠ _; omega
  have i5 := (i3.set ⟨w.heap.size, 0, none⟩ (.slice p3 n c3) hpne).set ⟨w.heap.size, 1, none⟩ (.slice (some ⟨w.heap.size + 1, 0, none⟩) n n) hpne
  have i6 := (i13.set ⟨w.heap.size, 0, none⟩ (.slice p3 n c3) hq).set ⟨w.heap.size, 1, none⟩ (.slice (some ⟨w.heap.size + 1, 0, none⟩) n n) hq
  exact bodyPost_ret (results_cell_row_slot rfl _ _ w.heap.size 38 #[.slice p3 n c3, .slice (some ⟨w.heap.size + 1, 0, none⟩) n n] (0, 0) _ _ rfl hb4 Try.underlying38 rfl hinf rfl) rfl ⟨p3, c3, _, _, rfl, i5, i6, (hl3.setCell (Nat.le_refl _) _).setCell (Nat.le_refl _) _⟩
set_option maxRecDepth 100000 in
set_option maxHeartbeats 4000000 in
theorem rnew9_single (p : Option Addr) (n cap : Nat) (f : Nat → Int) (w : World) (h : IS p n cap f w) (he : codesE f n = 0) (hk1 : kr (toL f) n ≠ 32768) (hk0 : kr (toL f) n ≠ 0) (hs : sgl (toL f) n = 1) :
    Calls Try.prog 17 #[.slice p n cap] w fun e w' => ∃ p1 c1 p2 c2, e = .returned (.tuple #[.agg #[.slice p1 n c1, .slice p2 n c2], .int .i64 0]) ∧ IS p1 n c1 f w' ∧ IS p2 n c2 (fun i => (codeN (toL f) n i : Int)) w' ∧ Below w.heap.size w w' := by
  obtain ⟨⟨hok, hn⟩, hk⟩ := codesE_zero he
  have CC := Lib.hid (fun w h => rcodes9_ok p n cap f w h hn hok hk)
  have CS := Lib.hid (fun w h => rsum9_any p n cap f w h (by omega))
  rw [sumV_ok ⟨hok, hn⟩] at CS
  have CG := Lib.hid (fun w h => rsingle9_any p n cap f w h hn hok)
  have HI := h.below ((Below.refl _ w).alloc (Nat.le_refl _) (.cells #[.slice none 0 0, .slice none 0 0] 38))
  have hlo := h.lo
  have hhi := h.hi
  clear he hk hok h
  rw [decide_eq_true hs] at CG
  have hki1 : ¬ (kr (toL f) n : Int) = 32768 := by omega
  have hki0 : ¬ (kr (toL f) n : Int) = 0 := by omega
  generalize kr (toL f) n = S at *
  clear hk1 hk0 hs
  go_enter Try.func17, Try.ntmps17
  have hb0 := Blk.new w 38 #[.slice none 0 0, .slice none 0 0]
  have hl0 : Below w.heap.size w (w.alloc (.cells #[.slice none 0 0, .slice none 0 0] 38)) := (Below.refl _ _).alloc (Nat.le_refl _) _
  have hz0 : (w.alloc (.cells #[.slice none 0 0, .slice none 0 0] 38)).heap.size = w.heap.size + 1 := by simp
  go_wp2_with fail
  refine (CC.out _ HI).mono ?_
  rintro e w1 ⟨rfl, i1, b1⟩
  rw [hz0] at i1
  have hb1 := hb0.below b1 hb0.lt
  have hl1 := hl0.trans (b1.mono hl0.size)
  have hs1 : w.heap.size + 1 ≤ w1.heap.size := by have := b1.size; omega
  have HI1 := HI.below b1
  clear hb0 hl0 b1 HI hz0
  go_wp2_with fail
  refine (CS.out _ HI1).mono ?_
  intro e w2 hw2
  obtain ⟨rfl, e2⟩ := hw2
  obtain rfl := e2.symm
  go_wp2_with fail
  have hbn1 : ((S : Int) != 32768) = true := bne_iff_ne.2 hki1
  have hbn0 : ((S : Int) != 0) = true := bne_iff_ne.2 hki0
  simp only [hbn1, hbn0, Bool.and_self]
  refine (CG.out _ HI1).mono ?_
  intro e w2 hw2
  obtain ⟨rfl, e2⟩ := hw2
  obtain rfl := e2.symm
  go_wp2_with (refine wpList_copyI rfl (.tmp 34) rfl rfl HI1 (by omega) ?_; intro vc w3 hL; obtain ⟨p3, c3, rfl, i3, hpb⟩ := hL.is hlo hhi; have b3 := hL.b; have hb3 := hb1.below b3 hb1.lt; have hl3 := hl1.trans (b3.mono hl1.size); have i13 := i1.below b3; have c0 : w3.cell? ⟨w.heap.size, 0, none⟩ = some (.slice none 0 0) := hb3.cell 0; have c1 : w3.cell? ⟨w.heap.size, 1, none⟩ = some (.slice none 0 0) := hb3.cell 1; have f0 := hb3.frozen 0; have f1 := hb3.frozen 1; have hpne : ∀ a, p3 = some a → a.block ≠ w.heap.size := (fun a ha => by have := hpb a ha; omega); clear hL b3 hb1 hl1 i1 HI1)
  have hb4 := (hb3.set_ 0 (.slice p3 n c3)).set_ 1 (.slice (some ⟨w.heap.size + 1, 0, none⟩) n n)
  have e4 : ((#[Value.slice none 0 0, .slice none 0 0] : Array Value).setIfInBounds 0 (.slice p3 n c3)).setIfInBounds 1 (.slice (some ⟨w.heap.size + 1, 0, none⟩) n n) = #[.slice p3 n c3, .slice (some ⟨w.heap.size + 1, 0, none⟩) n n] := rfl
  rw [e4] at hb4
  have hinf : (Try.prog.info? 38).map (·.size) = some (#[Value.slice p3 n c3, .slice (some ⟨w.heap.size + 1, 0, none⟩) n n]).size := by
    show _ = some 2
    kernel_rfl
  have hq : ∀ a : Addr, some (⟨w.heap.size + 1, 0, none⟩ : Addr) = some a → a.block ≠ w.heap.size := fun a ha => by cases ha; show w.heap.size + 1 ≠ _; omega
  have i5 := (i3.set ⟨w.heap.size, 0, none⟩ (.slice p3 n c3) hpne).set ⟨w.heap.size, 1, none⟩ (.slice (some ⟨w.heap.size + 1, 0, none⟩) n n) hpne
  have i6 := (i13.set ⟨w.heap.size, 0, none⟩ (.slice p3 n c3) hq).set ⟨w.heap.size, 1, none⟩ (.slice (some ⟨w.heap.size + 1, 0, none⟩) n n) hq
  exact bodyPost_ret (results_cell_row_slot rfl _ _ w.heap.size 38 #[.slice p3 n c3, .slice (some ⟨w.heap.size + 1, 0, none⟩) n n] (0, 0) _ _ rfl hb4 Try.underlying38 rfl hinf rfl) rfl ⟨p3, c3, _, _, rfl, i5, i6, (hl3.setCell (Nat.le_refl _) _).setCell (Nat.le_refl _) _⟩
end Go.Proofs.Ytmmkmbinmmfblaa
