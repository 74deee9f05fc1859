/- The reference's code of chapter 10. -/
import Derived.Test.YtopbajkciclabaaDoorMX
import Derived.Test.YtopbajkciclabaaDoorMC
import Derived.Test.YtopbajkciclabaaDoorMZ
import Derived.Test.YtopbajkciclabaaDoorMY
import Derived.Deep.Cut
namespace Go.Proofs.YtopbajkciclabaaDoor
open Go.RowKit
theorem results_cell_row1 {P : Program} {fn : Func} {p : Tmp} {ty : TypeId} (h : fn.results = #[.cell p ty]) (tmps : Array Value) (w : World) (g : Nat) (t : TypeId) (cs : Array Value) (d : TypeDesc)
    (hp : tmps.getD p undef = .pointer (some ⟨g, 0, none⟩)) (hg : Blk w g t cs) (hu : P.underlying ty = some d) (hd : (match d with | .struct _ | .array _ _ => true | _ => false) = true) (hi : (P.info? ty).map (·.size) = some cs.size) :
    (results fn tmps).run P w = .ok (.agg cs) w := by
  have hp' : tmps[p]?.getD undef = .pointer (some ⟨g, 0, none⟩) := by simpa using hp
  simp [results, h, hp', asAddr, run_loadVar_row w g t ty cs (0, 0) d hg hu hd hi]
theorem Mv.new {g : Nat} {v v' : Value} {w w' : World} (h : Mv g v w v' w') {q : Addr} (hq : w.heap.size ≤ q.block) (u : Value) : Mv g v w v' (w'.setCell q u) :=
  ⟨h.os, h.tape, h.output, by simp [World.setCell]; exact h.size, fun i hi hg hv => (Below.heap_setCell w' q u i (by omega)).trans (h.block i hi hg hv), h.own⟩
end Go.Proofs.YtopbajkciclabaaDoor
/- The reference's fixed and Order of chapter 10. -/
namespace Go.Proofs.YtopbajkciclabaaDoor
open Go.RowKit
theorem firstJ_succ (f : Nat → Int) (n : Nat) : firstI f (n + 1) = firstI f n ++ [f n] := by simp [firstI, List.range_succ]
/-- One integer more. -/
theorem wpList_oneJ {ops : Array Oper} {rest : List Oper} {o : Oper} {a : Act} {Q : Exit → Act → World → Prop} {B : Nat} {w0 w : World} {l : List Int} {v : Value} (hgd : o.guard = none) (s x : Operand)
    (ho : o.op = .call { callee := .builtin .append, args := #[s, x], argTypes := #[34, 34] }) (hs : a.eval s = v) (h : LI B w0 l v w) (y : Int)
    (hx : a.eval x = .slice (some ⟨w.heap.size, 0, none⟩) 1 1) (hn : l.length ≤ 1000)
    (k : ∀ v' w', LI B w0 (l ++ [y]) v' w' → wpList Tryd.prog ops Q rest (a.put o.dst v') w') :
    wpList Tryd.prog ops Q (o :: rest) a (w.alloc (.cells #[.int .i64 y] 3)) := by
  have hb : Below w.heap.size w (w.alloc (.cells #[.int .i64 y] 3)) := (Below.refl _ _).alloc (Nat.le_refl _) _
  have h2 := h.below hb
  obtain ⟨i0, hi, hz0, hz1, hz2⟩ := info_parts int_infoC
  refine wpList_append_own _ hgd s x 34 ho B 3 i0 (.int .i64 0) 1 8 Tryd.underlying34 hi hz0 hz1 hz2 rfl (by decide) v l.length _ hs h2.own ⟨w.heap.size, 0, none⟩ 1 1 [.int .i64 y] hx rfl ?_ ?_ ?_ ?_ h2.lo ?_
  · intro j u hu
    cases j with
    | zero =>
      cases hu
      rw [addr_add, Nat.zero_add, cell_of_row _ _ 0 _ _ (0, 0) (heap_alloc_new w _)]
      rfl
    | succ j => cases hu
  · intro u hu
    rw [List.mem_singleton.1 hu]; rfl
  · unfold maxLen; omega
  · omega
  · intro v' w2 hown hg _
    refine k v' w2 ⟨?_, ?_, Nat.le_trans h2.lo hg.size⟩
    · rw [List.length_append, List.map_append]; exact hown
    · refine h2.b.grown hg h2.lo fun k e => ?_
      rcases h.own.2 with ⟨h3, _⟩ | ⟨g, cap, cur, h3, h4, _⟩
      · rw [h3] at e; cases e
      · rw [h3] at e; cases e; exact h4
/-- The lengths of kind 1. -/
def fixF (i : Nat) : Int := if 143 < i ∧ i < 256 then 9 else if 255 < i ∧ i < 280 then 7 else 8
theorem fixF_at : ∀ i : Fin 288, ((fixA.getD i.val 0 : Nat) : Int) = fixF i.val := by decide +kernel
set_option maxRecDepth 100000 in
set_option maxHeartbeats 8000000 in
theorem rfixed10_any (w : World) :
    Calls Tryd.prog 21 #[] w fun e w' => ∃ p1 c1 p2 c2, e = .returned (.tuple #[.slice p1 288 c1, .slice p2 32 c2]) ∧ IS p1 288 c1 fixF w' ∧ IS p2 32 c2 (fun _ => 5) w' ∧ Below w.heap.size w w' ∧ (∀ a, p1 = some a → w.heap.size ≤ a.block) ∧ ∀ a, p2 = some a → w.heap.size ≤ a.block := by
  go_enter Tryd.func21, Tryd.ntmps21
  go_wp2_with fail
  go_loopw [2, 3, 4] (fun v i _ wr => ∃ k : Nat, k ≤ 288 ∧ i = .int .i64 (k : Int) ∧ LI w.heap.size w (firstI fixF k) v wr) (fun _ i _ _ => 288 - (intOf i).toNat)
  case atStart => exact ⟨0, by omega, rfl, LI.nil (Below.refl _ _) (Nat.le_refl _)⟩
  case round =>
    obtain ⟨k, hk, rfl, hl⟩ := hrel
    by_cases hlt : k < 288
    · have hlti : (k : Int) < 288 := by omega
      have hk1 : IntKind.i64.wrap ((k : Int) + 1) = ((k + 1 : Nat) : Int) := by rw [IntWalk.i64_in _ (by omega)]; rfl
      have hor : (¬ (k : Int) > 143 ∧ ¬ (k : Int) > 255 ∧ fixF k = 8) ∨ ((k : Int) > 143 ∧ (k : Int) < 256 ∧ ¬ (k : Int) > 255 ∧ fixF k = 9) ∨ ((k : Int) > 143 ∧ ¬ (k : Int) < 256 ∧ (k : Int) > 255 ∧ (k : Int) < 280 ∧ fixF k = 7) ∨ ((k : Int) > 143 ∧ ¬ (k : Int) < 256 ∧ (k : Int) > 255 ∧ ¬ (k : Int) < 280 ∧ fixF k = 8) := by
        unfold fixF
        rcases (show k < 144 ∨ (144 ≤ k ∧ k < 256) ∨ (256 ≤ k ∧ k < 280) ∨ 280 ≤ k by omega) with h | h | h | h
        · exact .inl ⟨by omega, by omega, by rw [if_neg (by omega), if_neg (by omega)]⟩
        · exact .inr (.inl ⟨by omega, by omega, by omega, by rw [if_pos (by omega)]⟩)
        · exact .inr (.inr (.inl ⟨by omega, by omega, by omega, by omega, by rw [if_neg (by omega), if_pos (by omega)]⟩))
        · exact .inr (.inr (.inr ⟨by omega, by omega, by omega, by omega, by rw [if_neg (by omega), if_neg (by omega)]⟩))
      rcases hor with ⟨h1, h2, h3⟩ | ⟨h1, h2, h3, h4⟩ | ⟨h1, h2, h3, h4, h5⟩ | ⟨h1, h2, h3, h4, h5⟩
      · have HF := Lib.hid h3
        clear h3
        go_wp2_with (at_builtin; refine wpList_oneJ rfl (.tmp 23) (.tmp 25) rfl rfl hl 8 rfl (by rw [firstI_len]; omega) ?_; intro v2 w2 hL)
        exact ⟨⟨k + 1, by omega, rfl, by rw [firstJ_succ, HF.out]; exact hL⟩, by simp only [intOf]; omega⟩
      · have HF := Lib.hid h4
        clear h4
        go_wp2_with (at_builtin; refine wpList_oneJ rfl (.tmp 23) (.tmp 25) rfl rfl hl 9 rfl (by rw [firstI_len]; omega) ?_; intro v2 w2 hL)
        exact ⟨⟨k + 1, by omega, rfl, by rw [firstJ_succ, HF.out]; exact hL⟩, by simp only [intOf]; omega⟩
      · have HF := Lib.hid h5
        clear h5
        go_wp2_with (at_builtin; refine wpList_oneJ rfl (.tmp 23) (.tmp 25) rfl rfl hl 7 rfl (by rw [firstI_len]; omega) ?_; intro v2 w2 hL)
        exact ⟨⟨k + 1, by omega, rfl, by rw [firstJ_succ, HF.out]; exact hL⟩, by simp only [intOf]; omega⟩
      · have HF := Lib.hid h5
        clear h5
        go_wp2_with (at_builtin; refine wpList_oneJ rfl (.tmp 23) (.tmp 25) rfl rfl hl 8 rfl (by rw [firstI_len]; omega) ?_; intro v2 w2 hL)
        exact ⟨⟨k + 1, by omega, rfl, by rw [firstJ_succ, HF.out]; exact hL⟩, by simp only [intOf]; omega⟩
    · obtain rfl : k = 288 := by omega
      have hbnd : ∀ i, i < 288 → -9223372036854775808 ≤ fixF i ∧ fixF i < 9223372036854775808 := fun i _ => by unfold fixF; split; omega; split <;> omega
      obtain ⟨p1, c1, rfl, i1, hp1⟩ := hl.is (fun i hi => (hbnd i hi).1) (fun i hi => (hbnd i hi).2)
      have b1 := hl.b
      clear hl hbnd
      rw [show ((288 : Nat) : Int) = 288 from rfl]
      go_wp2_with fail
      go_loopw [5, 6] (fun v i wx => ∃ k : Nat, k ≤ 32 ∧ i = .int .i64 (k : Int) ∧ LI wr.heap.size wr (firstI (fun _ => 5) k) v wx) (fun _ i _ => 32 - (intOf i).toNat)
      case atStart => exact ⟨0, by omega, rfl, LI.nil (Below.refl _ _) (Nat.le_refl _)⟩
      case round =>
        obtain ⟨k, hk, rfl, hl⟩ := hrel
        by_cases hlt : k < 32
        · have hlti : (k : Int) < 32 := by omega
          go_wp2_with (at_builtin; refine wpList_oneJ rfl (.tmp 31) (.tmp 32) rfl rfl hl 5 rfl (by rw [firstI_len]; omega) ?_; intro v2 w2 hL)
          go_roundw
          case rel => exact ⟨k + 1, by omega, rfl, by rw [firstJ_succ]; exact hL⟩
          case measure => simp [intOf]; omega
        · obtain rfl : k = 32 := by omega
          obtain ⟨p2, c2, rfl, i2, hp2⟩ := hl.is (fun i hi => by omega) (fun i hi => by omega)
          have b2 := hl.b
          clear hl
          go_wp2_with fail
          go_ret2
          exact ⟨p1, c1, p2, c2, rfl, i1.below b2, i2, b1.trans (b2.mono b1.size), hp1, fun a ha => Nat.le_trans b1.size (hp2 a ha)⟩
theorem rorder10_any (w : World) :
    Calls Tryd.prog 33 #[] w fun e w' => e = .returned (.slice (some ⟨w.heap.size, 0, none⟩) 19 19) ∧ IS (some ⟨w.heap.size, 0, none⟩) 19 19 (fun i => ((ordL.getD i 0 : Nat) : Int)) w' ∧ Below w.heap.size w w' := by
  have hb := (Below.refl _ w).alloc (Nat.le_refl _) (.cells #[.int .i64 16, .int .i64 17, .int .i64 18, .int .i64 0, .int .i64 8, .int .i64 7, .int .i64 9, .int .i64 6, .int .i64 10, .int .i64 5, .int .i64 11, .int .i64 4, .int .i64 12, .int .i64 3, .int .i64 13, .int .i64 2, .int .i64 14, .int .i64 1, .int .i64 15] 3)
  have hk := Blk.new w 3 #[.int .i64 16, .int .i64 17, .int .i64 18, .int .i64 0, .int .i64 8, .int .i64 7, .int .i64 9, .int .i64 6, .int .i64 10, .int .i64 5, .int .i64 11, .int .i64 4, .int .i64 12, .int .i64 3, .int .i64 13, .int .i64 2, .int .i64 14, .int .i64 1, .int .i64 15]
  go_enter Tryd.func33, Tryd.ntmps33
  go_wp2_with fail
  go_ret
  have hO : ∀ i : Fin 19, ordL.getD i.val 0 ≤ 18 := by decide
  refine ⟨rfl, ⟨(fun e => by cases e), fun a ha i hi => ?_, (fun a ha => by cases ha; exact hk.lt), fun i hi => by have := hO ⟨i, hi⟩; omega, fun i hi => by have := hO ⟨i, hi⟩; simp only at this; omega⟩, hb⟩
  cases ha
  rw [addr_add, Nat.zero_add]
  refine (hk.cell i).trans ?_
  rcases (show i = 0 ∨ i = 1 ∨ i = 2 ∨ i = 3 ∨ i = 4 ∨ i = 5 ∨ i = 6 ∨ i = 7 ∨ i = 8 ∨ i = 9 ∨ i = 10 ∨ i = 11 ∨ i = 12 ∨ i = 13 ∨ i = 14 ∨ i = 15 ∨ i = 16 ∨ i = 17 ∨ i = 18 by omega) with rfl | rfl | rfl | rfl | rfl | rfl | rfl | rfl | rfl | rfl | rfl | rfl | rfl | rfl | rfl | rfl | rfl | rfl | rfl
  all_goals rfl
end Go.Proofs.YtopbajkciclabaaDoor
/- The reference's copied of chapter 10. -/
namespace Go.Proofs.YtopbajkciclabaaDoor
open Go.RowKit
section
variable {g : Nat} {s : ByteArray} {M : Nat} {x : Fl} {v : Value} {w w' : World}
/-- A code of the reference, apart from the state. -/
structure RC (g : Nat) (p1 : Option Addr) (c1 : Nat) (p2 : Option Addr) (c2 n : Nat) (f : Nat → Int) (v : Value) (w : World) : Prop where
  hn : n ≤ 300
  ok : okB f n = true
  l : IS p1 n c1 f w
  c : IS p2 n c2 (fun i => (codeN (toL f) n i : Int)) w
  s1 : ∀ a, p1 = some a → a.block ≠ g ∧ v.ownBlock ≠ some a.block
  s2 : ∀ a, p2 = some a → a.block ≠ g ∧ v.ownBlock ≠ some a.block
theorem RC.mv {p1 : Option Addr} {c1 : Nat} {p2 : Option Addr} {c2 n : Nat} {f : Nat → Int} {v' : Value} (h : RC g p1 c1 p2 c2 n f v w) (m : Mv g v w v' w') : RC g p1 c1 p2 c2 n f v' w' :=
  ⟨h.hn, h.ok, m.is h.l h.s1, m.is h.c h.s2, fun a ha => ⟨(h.s1 a ha).1, fun e => by
    rcases m.own _ e with h1 | h1
    · exact (h.s1 a ha).2 h1
    · have := h.l.lt a ha; omega⟩, fun a ha => ⟨(h.s2 a ha).1, fun e => by
    rcases m.own _ e with h1 | h1
    · exact (h.s2 a ha).2 h1
    · have := h.c.lt a ha; omega⟩⟩
theorem RC.below {p1 : Option Addr} {c1 : Nat} {p2 : Option Addr} {c2 n : Nat} {f : Nat → Int} (h : RC g p1 c1 p2 c2 n f v w) (hb : Below w.heap.size w w') : RC g p1 c1 p2 c2 n f v w' :=
  ⟨h.hn, h.ok, h.l.below hb, h.c.below hb, h.s1, h.s2⟩
end
theorem dist_ok_pos {x : Int} (h : (distV x).2.2 = true) : 1 ≤ (distV x).1 := by
  unfold distV at h ⊢
  split
  · exact dbase_pos _
  · next hn => rw [if_neg hn] at h; cases h
end Go.Proofs.YtopbajkciclabaaDoor
/- The reference's coded of chapter 10. -/
namespace Go.Proofs.YtopbajkciclabaaDoor
open Go.RowKit
theorem two_oneS (p1 : Option Addr) (n1 c1 : Nat) (p2 : Option Addr) (n2 c2 : Nat) : (#[Value.slice p1 n1 c1, Value.slice p2 n2 c2] : Array Value).all (·.oneCell') = true := by kernel_rfl
end Go.Proofs.YtopbajkciclabaaDoor
/- The reference's told of chapter 10. -/
namespace Go.Proofs.YtopbajkciclabaaDoor
open Go.RowKit
theorem IS.farC {p : Option Addr} {n cap : Nat} {f : Nat → Int} {w : World} (h : IS p n cap f w) {z : Nat} (hz : ∀ a, p = some a → a.block ≠ z) (j : Nat) (u : Value) : IS p n cap f (w.setCell ⟨z, j, none⟩ u) :=
  ⟨h.nil_, fun a ha i hi => by
    rw [World.cell?_of_block (a := a.add i) (w := w) (Below.heap_setCell w ⟨z, j, none⟩ u (a.add i).block (fun e => hz a ha (by have e : (a.add i).block = z := e; rw [← e]; unfold Addr.add; split <;> rfl)))]
    exact h.cell a ha i hi, fun a ha => by simp [World.setCell]; exact h.lt a ha, h.lo, h.hi⟩
section
variable {P : Program} {ops : Array Oper} {Q : Exit → Act → World → Prop} {md : Region.Mode}
theorem heldT_two {i j : Nat} {fuel : Nat} {listed : Array Bool} {a : Act} {w : World} (hr : Region.ready md ops listed = [i, j]) (hi : wpOp P ops Q i (fun a' w' => True ∧ wpAnyH P md ops Q (fun _ => True) fuel (listed.setIfInBounds i true) a' w') a w)
    (hj : wpOp P ops Q j (fun a' w' => True ∧ wpAnyH P md ops Q (fun _ => True) fuel (listed.setIfInBounds j true) a' w') a w) : wpAnyH P md ops Q (fun _ => True) (fuel + 1) listed a w :=
  wpAnyH_all hr (by simp) fun k hk => by
    rcases List.mem_cons.1 hk with rfl | hk
    · exact hi
    · obtain rfl := List.mem_singleton.1 hk; exact hj
end
theorem IS.dr {p : Option Addr} {n c : Nat} {f : Nat → Int} {w : World} (h : IS p n c f w) : IS p n c f w.drew := ⟨h.nil_, h.cell, h.lt, h.lo, h.hi⟩
theorem RC.dr {g : Nat} {p1 : Option Addr} {c1 : Nat} {p2 : Option Addr} {c2 n : Nat} {f : Nat → Int} {v : Value} {w : World} (h : RC g p1 c1 p2 c2 n f v w) : RC g p1 c1 p2 c2 n f v w.drew := ⟨h.hn, h.ok, h.l.dr, h.c.dr, h.s1, h.s2⟩
section
variable {g : Nat} {s : ByteArray} {M : Nat} {K : Prop} {m : Nat} {p1 : Option Addr} {c1 : Nat} {p2 : Option Addr} {c2 : Nat} {f : Nat → Int} {q : Nat} {v : Value} {w0 : World} {y y' : Fl} {L L' : List Nat} {u u' : Value} {w w' : World}
theorem againS_len (L : List Nat) (b n e : Nat) : (againS L b n e).length = if e = 0 then L.length + n else L.length := by
  unfold againS
  split
  · rw [List.length_append, List.length_replicate]
  · rfl
theorem getD_app_lt {L R : List Nat} {B : Nat} (h1 : ∀ i, L.getD i 0 < B) (h2 : ∀ i, R.getD i 0 < B) (i : Nat) : (L ++ R).getD i 0 < B := by
  by_cases h : i < L.length
  · have := h1 i
    simp only [List.getD, List.getElem?_append_left h] at this ⊢; exact this
  · have := h2 (i - L.length)
    simp only [List.getD, List.getElem?_append_right (Nat.le_of_not_lt h)] at this ⊢; exact this
theorem getD_rep_lt {b n B : Nat} (hb : b < B) (i : Nat) : (List.replicate n b).getD i 0 < B := by
  by_cases h : i < n
  · simp [List.getD, h]; exact hb
  · simp [List.getD, h]; omega
theorem againS_lt {L : List Nat} {b n e : Nat} (h1 : ∀ i, L.getD i 0 < 19) (hb : b < 19) (i : Nat) : (againS L b n e).getD i 0 < 19 := by
  unfold againS
  split
  · exact getD_app_lt h1 (getD_rep_lt hb) i
  · exact h1 i
end
end Go.Proofs.YtopbajkciclabaaDoor
/- The reference's Open of chapter 10. -/
namespace Go.Proofs.YtopbajkciclabaaDoor
open Go.RowKit
theorem IS.congr10 {p : Option Addr} {n c : Nat} {f f' : Nat → Int} {w : World} (h : IS p n c f w) (e : ∀ i, i < n → f i = f' i) : IS p n c f' w :=
  ⟨h.nil_, fun a ha i hi => by rw [← e i hi]; exact h.cell a ha i hi, h.lt, fun i hi => by rw [← e i hi]; exact h.lo i hi, fun i hi => by rw [← e i hi]; exact h.hi i hi⟩
end Go.Proofs.YtopbajkciclabaaDoor
