/- The developers' writer of chapter 13. -/
import Derived.Test.YtfheedpoaomfeaaIe
namespace Go.Proofs.Ytfheedpoaomfeaa
open Go.RowKit
theorem u8_infoW : (Try.prog.info? 5).map (fun i => (i.zero, i.size, i.bytes)) = some (some (.int .u8 0), 1, 1) := by kernel_rfl
/-- A writer in block g: its slice, what was put, its error. -/
structure WW (g : Nat) (v : Value) (B : ByteArray) (E : Nat) (w : World) : Prop where
  blk : Blk w g 56 #[v, .int .i64 (E : Int)]
  own : w.ownsRow (g + 1) 5 1 v B.size (Go.Lib.strCells B)
  err : E ≠ 0 → v = .slice none 0 0 ∧ B = ⟨#[]⟩
theorem WW.ownB {g : Nat} {v : Value} {B : ByteArray} {E : Nat} {w : World} (h : WW g v B E w) : ∀ i, v.ownBlock = some i → g + 1 ≤ i ∧ i < w.heap.size := World.ownsRow.lt h.own
theorem WW.keep {g : Nat} {v : Value} {B : ByteArray} {E : Nat} {w w1 : World} (h : WW g v B E w) (e1 : w1.heap[g]? = w.heap[g]?) (e2 : ∀ i, v.ownBlock = some i → w1.heap[i]? = w.heap[i]?) : WW g v B E w1 := by
  refine ⟨e1.trans h.blk, ⟨h.own.1, ?_⟩, h.err⟩
  rcases h.own.2 with h1 | ⟨q, cap, cur, h1, h2, h3, h4⟩
  · exact .inl h1
  · exact .inr ⟨q, cap, cur, h1, h2, (e2 q (by rw [h1]; rfl)).trans h3, h4⟩
theorem WW.below {g : Nat} {v : Value} {B : ByteArray} {E : Nat} {w w1 : World} (h : WW g v B E w) (hb : Below w.heap.size w w1) : WW g v B E w1 := h.keep (hb.block g h.blk.lt) fun i e => hb.block i (h.ownB i e).2
theorem WW.fail {g : Nat} {cs : Array Value} {w : World} (h : Blk w g 56 cs) (E : Nat) : WW g (.slice none 0 0) ⟨#[]⟩ E (w.setRow g #[.slice none 0 0, .int .i64 (E : Int)]) := ⟨h.row_ _, World.ownsRow_nil _ _ _ _, fun _ => ⟨rfl, rfl⟩⟩
theorem Gg.row {g : Nat} {v v1 : Value} {w w1 : World} (h : Gg g v w v1 w1) (cs : Array Value) : Gg g v w (.slice none 0 0) (w1.setRow g cs) :=
  ⟨h.os, h.tape, h.output, by simp [World.setRow]; exact h.size, fun i hi hg hv => (setRow_other w1 g i cs hg).trans (h.block i hi hg hv), fun i e => (by cases e)⟩
theorem strCells_app (A B : ByteArray) : Go.Lib.strCells (A ++ B) = Go.Lib.strCells A ++ Go.Lib.strCells B := by
  unfold Go.Lib.strCells
  rw [ByteArray.data_append, Array.toList_append, List.map_append]
/-- One byte. -/
def oneB (y : Nat) : ByteArray := textN 1 fun _ => y
theorem oneB_size (y : Nat) : (oneB y).size = 1 := textN_size _ _
theorem strCells_one (y : Nat) (hy : y < 256) : Go.Lib.strCells (oneB y) = [Value.int .u8 (y : Int)] := by
  show [Value.int .u8 (((BitVec.ofNat 8 y).toNat : Nat) : Int)] = _
  rw [BitVec.toNat_ofNat, Nat.mod_eq_of_lt hy]
/-- The first k bytes of a number of s bytes, the greatest first. -/
def beT (n s k : Nat) : ByteArray := textN k fun i => n / 256 ^ (s - 1 - i) % 256
theorem textN_more (k : Nat) (f : Nat → Nat) : textN (k + 1) f = textN k f ++ textN 1 fun _ => f k := by
  unfold textN
  apply ByteArray.ext
  rw [ByteArray.data_append, List.range_succ]
  simp [asBytes]
theorem beT_more (n s k : Nat) : beT n s (k + 1) = beT n s k ++ oneB (n / 256 ^ (s - 1 - k) % 256) := textN_more k _
theorem app_none (B : ByteArray) : B ++ (⟨#[]⟩ : ByteArray) = B := by apply ByteArray.ext; simp
theorem app_assoc (A B C : ByteArray) : A ++ B ++ C = A ++ (B ++ C) := by apply ByteArray.ext; simp
theorem beT_none (n s : Nat) : beT n s 0 = ⟨#[]⟩ := rfl
/-- A number put behind. -/
def numP (B : ByteArray) (E : Nat) (n s : Int) : ByteArray × Nat :=
  if E ≠ 0 then (B, E) else if ¬ (1 ≤ s ∧ s ≤ 7) ∨ n < 0 ∨ (256 ^ s.toNat : Int) ≤ n then (⟨#[]⟩, 1) else (B ++ beT n.toNat s.toNat s.toNat, 0)
/-- A text put behind. -/
def rawP (B : ByteArray) (E : Nat) (s : ByteArray) : ByteArray × Nat := if E ≠ 0 then (B, E) else (B ++ s, 0)
set_option maxRecDepth 100000 in
theorem newWriter_any (w : World) :
    Calls Try.prog 9 #[] w fun e w' => ∃ g, e = .returned (.pointer (some ⟨g, 0, none⟩)) ∧ w.heap.size ≤ g ∧ WW g (.slice none 0 0) ⟨#[]⟩ 0 w' ∧ Below w.heap.size w w' := by
  have HB := Lib.hid ((Below.refl _ w).alloc (Nat.le_refl _) (.cells #[.slice none 0 0, .int .i64 0] 56))
  have HW : Hid (WW w.heap.size (.slice none 0 0) ⟨#[]⟩ 0 (w.alloc (.cells #[.slice none 0 0, .int .i64 0] 56))) := Lib.hid ⟨Blk.new _ _ _, World.ownsRow_nil _ _ _ _, fun e => absurd rfl e⟩
  go_enter Try.func9, Try.ntmps9
  go_wp2_with fail
  go_ret
  exact ⟨_, rfl, Nat.le_refl _, HW.out, HB.out⟩
set_option maxRecDepth 100000 in
theorem bytesW_any (g : Nat) (v : Value) (B : ByteArray) (E : Nat) (w : World) (h : WW g v B E w) :
    Calls Try.prog 17 #[.pointer (some ⟨g, 0, none⟩)] w fun e w' => e = .returned (.tuple #[.string B, .int .i64 (E : Int)]) ∧ w' = w.drew := by
  have hw := h.below ((Below.refl _ _).drew)
  clear h
  go_enter Try.func17, Try.ntmps17
  go_wp2_with fail
  refine heldJ_start (fun wx => wx = w.drew) (by kernel_rfl) ?_
  change wpAnyH _ _ _ _ _ _ _ _ w.drew
  generalize hw2 : w.drew = w2 at hw ⊢
  have c0 : w2.cell? ⟨g, 0, none⟩ = some v := hw.blk.cell 0
  have c1 : w2.cell? ⟨g, 1, none⟩ = some (.int .i64 (E : Int)) := hw.blk.cell 1
  have hcv : (convert 52 9 v).run Try.prog w2 = .ok (.string B) w2 := by
    obtain ⟨l, hl⟩ : ∃ l : List (BitVec 8), l = B.data.toList.map fun b => b.toBitVec := ⟨_, rfl⟩
    have e1 : Go.Lib.strCells B = l.map b8v := by
      rw [hl, List.map_map]
      unfold Go.Lib.strCells
      apply List.map_congr_left
      intro b _
      simp only [Function.comp, b8v, iw]
      rfl
    have hown := hw.own
    rw [e1] at hown
    have := run_string_of_own (P := Try.prog) w2 52 9 5 (g + 1) Try.underlying52 Try.underlying5 Try.underlying9 v B.size _ hown
    rw [this]
    have e2 : (⟨(asBytes l).toArray⟩ : ByteArray) = B := by
      rw [hl]
      unfold asBytes
      rw [List.map_map]
      apply ByteArray.ext
      simp [Function.comp_def]
    rw [e2]
  refine heldJ_take (i := 0) (v := .pointer (some ⟨g, 0, none⟩)) rfl (by kernel_rfl) (by kernel_rfl) (by kernel_rfl) (fun _ _ _ h => h) rfl (fun wx hJ => ?_) rfl ?_
  · obtain rfl := hJ; go_simp; skip
  simp only [pu]
  refine heldJ_take (i := 1) (v := .pointer (some ⟨g, 0, none⟩)) rfl (by kernel_rfl) (by kernel_rfl) (by kernel_rfl) (fun _ _ _ h => h) rfl (fun wx hJ => ?_) rfl ?_
  · obtain rfl := hJ; go_simp; skip
  simp only [pu]
  refine heldJ_take (i := 2) (v := .pointer (some ⟨g, 0, none⟩)) rfl (by kernel_rfl) (by kernel_rfl) (by kernel_rfl) (fun _ _ _ h => h) rfl (fun wx hJ => ?_) rfl ?_
  · obtain rfl := hJ; go_simp; skip
  simp only [pu]
  refine heldJ_take (i := 3) (v := .pointer (some ⟨g, 0, none⟩)) rfl (by kernel_rfl) (by kernel_rfl) (by kernel_rfl) (fun _ _ _ h => h) rfl (fun wx hJ => ?_) rfl ?_
  · obtain rfl := hJ; go_simp; skip
  simp only [pu]
  refine heldJ_take (i := 6) (v := .pointer (some ⟨g, 0, none⟩)) rfl (by kernel_rfl) (by kernel_rfl) (by kernel_rfl) (fun _ _ _ h => h) rfl (fun wx hJ => ?_) rfl ?_
  · obtain rfl := hJ; go_simp; skip
  simp only [pu]
  refine heldJ_take (i := 7) (v := .pointer (some ⟨g, 0, none⟩)) rfl (by kernel_rfl) (by kernel_rfl) (by kernel_rfl) (fun _ _ _ h => h) rfl (fun wx hJ => ?_) rfl ?_
  · obtain rfl := hJ; go_simp; skip
  simp only [pu]
  refine heldJ_take (i := 8) (v := .pointer (some ⟨g, 0, none⟩)) rfl (by kernel_rfl) (by kernel_rfl) (by kernel_rfl) (fun _ _ _ h => h) rfl (fun wx hJ => ?_) rfl ?_
  · obtain rfl := hJ; go_simp; skip
  simp only [pu]
  refine heldJ_take (i := 9) (v := .pointer (some ⟨g, 1, none⟩)) rfl (by kernel_rfl) (by kernel_rfl) (by kernel_rfl) (fun _ _ _ h => h) rfl (fun wx hJ => ?_) rfl ?_
  · obtain rfl := hJ; go_simp; skip
  simp only [pu]
  refine heldJ_take (i := 4) (v := v) rfl (by kernel_rfl) (by kernel_rfl) (by kernel_rfl) (fun _ _ _ h => h) rfl (fun wx hJ => ?_) rfl ?_
  · obtain rfl := hJ; go_simp; skip
  simp only [pu]
  refine heldJ_take (i := 5) (v := .string B) rfl (by kernel_rfl) (by kernel_rfl) (by kernel_rfl) (fun _ _ _ h => h) rfl (fun wx hJ => ?_) rfl ?_
  · obtain rfl := hJ; go_simp; skip
  simp only [pu]
  refine heldJ_take (i := 10) (v := .int .i64 (E : Int)) rfl (by kernel_rfl) (by kernel_rfl) (by kernel_rfl) (fun _ _ _ h => h) rfl (fun wx hJ => ?_) rfl ?_
  · obtain rfl := hJ; go_simp; skip
  simp only [pu]
  refine heldJ_take (i := 11) (v := .string B) rfl (by kernel_rfl) (by kernel_rfl) (by kernel_rfl) (fun _ _ _ h => h) rfl (fun wx hJ => ?_) rfl ?_
  · obtain rfl := hJ; go_simp; skip
  simp only [pu]
  refine heldJ_take (i := 12) (v := .int .i64 (E : Int)) rfl (by kernel_rfl) (by kernel_rfl) (by kernel_rfl) (fun _ _ _ h => h) rfl (fun wx hJ => ?_) rfl ?_
  · obtain rfl := hJ; go_simp; skip
  simp only [pu]
  refine wpAnyH_done (by kernel_rfl) ?_ _
  go_wp2_with fail
  go_ret2
  exact ⟨rfl, hw2.symm⟩
/-- append(b, s..): where what comes lies. -/
theorem app_text (B : Nat) (v : Value) (n : Nat) (xs : List Value) (s : ByteArray) (w : World) (h : w.ownsRow B 5 1 v n xs) (hs : n + s.size ≤ 140737488355328) (hB : B ≤ w.heap.size) :
    ∃ v' w', (Builtin.append_ #[52, 9] 52 #[v, .string s]).run Try.prog w = .ok v' w' ∧ w'.ownsRow B 5 1 v' (n + s.size) (xs ++ Go.Lib.strCells s) ∧ w.grownBy w' v.ownBlock ∧ ∀ i, v'.ownBlock = some i → v.ownBlock = some i ∨ w.heap.size ≤ i := by
  obtain ⟨i0, hi, hz0, hz1, hz2⟩ := info_parts u8_infoW
  have h63 : n + s.size ≤ maxLen := by unfold maxLen; omega
  obtain ⟨v', w', hr, h1, h2, h3⟩ := Lib.run_append_own_string (P := Try.prog) w B 52 9 52 5 i0 Try.underlying52 Try.underlying9 hi hz0 hz1 hz2 v n xs h s h63 hs hB
  refine ⟨v', w', hr, h1, h2, ?_⟩
  rcases h.2 with ⟨rfl, rfl⟩ | ⟨g, cap, cur, rfl, hbg, hg, hnc, hcm, hcs, htake⟩
  · have hx : xs = [] := List.eq_nil_of_length_eq_zero (by simpa using h.1)
    subst hx
    obtain ⟨v2, w2, hr2, k1, k2, k3⟩ := Lib.run_append_own_string (P := Try.prog) w w.heap.size 52 9 52 5 i0 Try.underlying52 Try.underlying9 hi hz0 hz1 hz2 (.slice none 0 0) 0 [] (World.ownsRow_nil _ _ _ _) s h63 hs (Nat.le_refl _)
    rw [hr] at hr2
    injection hr2 with e1 e2
    subst e1
    exact fun i e => .inr (k1.lt i e).1
  · by_cases hroom : n + s.size ≤ cap
    · have hr2 := Lib.run_append_room_string (P := Try.prog) w 52 9 52 5 i0 Try.underlying52 Try.underlying9 hi hz1 g n cap cur hg s hroom (by have : cur.size = cap := (by simpa using hcs); omega)
      rw [hr] at hr2
      injection hr2 with e1 e2
      subst e1
      exact fun i e => .inl e
    · have holds : ∀ j u, xs[j]? = some u → w.cell? ((⟨g, 0, none⟩ : Addr).add j) = some u := h.cells (g := g) rfl
      have hr2 := Lib.run_append_grow_string (P := Try.prog) w 52 9 52 5 i0 (.int .u8 0) Try.underlying52 Try.underlying9 hi hz0 ⟨g, 0, none⟩ n cap xs (by rw [hz1]; simpa using h.1) holds s (by omega) (by omega) (by rw [hz2]; exact growslice_fits (by omega) (by omega))
      rw [hr] at hr2
      injection hr2 with e1 e2
      subst e1
      exact fun i e => by
        have e : w.heap.size = i := by injection e
        exact .inr (by omega)
theorem own_slice {w : World} {B e z n : Nat} {v : Value} {xs : List Value} (h : w.ownsRow B e z v n xs) : ∃ q m c, v = .slice q m c := by
  rcases h.2 with ⟨rfl, _⟩ | ⟨g, cap, cur, rfl, _⟩
  · exact ⟨_, _, _, rfl⟩
  · exact ⟨_, _, _, rfl⟩
theorem wpList_text {ops : Array Oper} {rest : List Oper} {o : Oper} {a : Act} {Q : Exit → Act → World → Prop} {w w' : World} {v v' : Value} {s : ByteArray} (hgd : o.guard = none) (sl x : Operand) (t u : TypeId)
    (ho : o.op = .call { callee := .builtin .append, args := #[sl, x], argTypes := #[t, u] }) (hs : a.eval sl = v) (hx : a.eval x = .string s) (hr : (Builtin.append_ #[t, u] o.type #[v, .string s]).run Try.prog w = .ok v' w')
    (k : wpList Try.prog ops Q rest (a.put o.dst v') w') : wpList Try.prog ops Q (o :: rest) a w := by
  refine wpList_plain hgd fun K hK => ?_
  unfold Oper.wp execOp
  simp only [ho, resolve, invoke, builtin, Sem.run_bind, Sem.run_pure, Result.andThen_ok, List.map_toArray, List.map_cons, List.map_nil, hs, hx, hr]
  exact hK _ _ k
/-- What is left behind an append that is stored. -/
theorem WW.more {g : Nat} {v v' : Value} {B s : ByteArray} {w w' : World} (h : WW g v B 0 w) (h1 : w'.ownsRow (g + 1) 5 1 v' (B.size + s.size) (Go.Lib.strCells B ++ Go.Lib.strCells s)) (h2 : w.grownBy w' v.ownBlock) (h3 : ∀ i, v'.ownBlock = some i → v.ownBlock = some i ∨ w.heap.size ≤ i) :
    Blk w' g 56 #[v, .int .i64 0] ∧ WW g v' (B ++ s) 0 (w'.setCell ⟨g, 0, none⟩ v') ∧ Gg g v w v' (w'.setCell ⟨g, 0, none⟩ v') := by
  have hb : Blk w' g 56 #[v, .int .i64 0] := (h2.block g h.blk.lt (fun e => by have := (h.ownB _ e.symm).1; omega)).trans h.blk
  refine ⟨hb, ⟨hb.set_ 0 _, ?_, fun e => absurd rfl e⟩, Gg.set ⟨h2.os, h2.tape, h2.output, h2.size, fun i hi _ hv => h2.block i hi (fun e => hv e.symm), h3⟩ 0 _⟩
  rw [show (B ++ s).size = B.size + s.size by simp, strCells_app]
  exact ownsRow_setCell_below h1 (a := ⟨g, 0, none⟩) (Nat.lt_succ_self g) _
set_option maxRecDepth 100000 in
theorem rawP_any (g : Nat) (v : Value) (B : ByteArray) (E : Nat) (s : ByteArray) (w : World) (h : WW g v B E w) (hs : E = 0 → B.size + s.size ≤ 140737488355328) :
    Calls Try.prog 13 #[.pointer (some ⟨g, 0, none⟩), .string s] w fun e w' => e = .returned (.tuple #[]) ∧ ∃ v', WW g v' (rawP B E s).1 (rawP B E s).2 w' ∧ Gg g v w v' w' := by
  have c0 : w.cell? ⟨g, 0, none⟩ = some v := h.blk.cell 0
  have c1 : w.cell? ⟨g, 1, none⟩ = some (.int .i64 (E : Int)) := h.blk.cell 1
  unfold rawP
  by_cases hE : E = 0
  · subst hE
    rw [if_neg (by decide)]
    obtain ⟨v', w', hap, h1, h2, h3⟩ := app_text (g + 1) v B.size _ s w h.own (hs rfl) h.blk.lt
    obtain ⟨hb, h4, h5⟩ := h.more h1 h2 h3
    obtain ⟨q, m, c, rfl⟩ := own_slice h1
    have d0 : w'.cell? ⟨g, 0, none⟩ = some v := hb.cell 0
    have f0 := hb.frozen 0
    have HAP := Lib.hid hap
    have HF := Lib.hid (⟨h4, h5⟩ : WW g (.slice q m c) (B ++ s) 0 (w'.setCell ⟨g, 0, none⟩ (.slice q m c)) ∧ Gg g v w (.slice q m c) (w'.setCell ⟨g, 0, none⟩ (.slice q m c)))
    clear h h1 h2 h3 hb h4 h5 hap hs
    go_enter Try.func13, Try.ntmps13
    go_wp2_with (at_builtin; refine wpList_text rfl (.tmp 15) (.tmp 16) 52 9 rfl rfl rfl HAP.out ?_)
    go_end0
    exact ⟨rfl, _, HF.out⟩
  · rw [if_pos hE]
    have hEi : ¬ (E : Int) = 0 := by omega
    have hE2 : ((E : Int) == 0) = false := by simp [hE]
    have HW := Lib.hid h
    clear h hE
    go_enter Try.func13, Try.ntmps13
    go_wp2_with fail
    go_end0
    exact ⟨rfl, v, HW.out, Gg.refl _ _ _⟩
end Go.Proofs.Ytfheedpoaomfeaa
