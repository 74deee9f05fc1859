/- Items written one behind the other as a list: the developers'. -/
import Derived.Test.YtkbjgaobhbiieaaMF
import Derived.Test.YtkbjgaobhbiieaaDerItems
import Derived.Deep.RegionLaw
import Derived.Lib.SliceRun
namespace Go.Proofs.Ytkbjgaobhbiieaa
open Go.RowKit
/-- An item without what stands behind it. -/
def tx2 (y : It) : Nat × ByteArray := (y.1, y.2.1)
theorem catT_append : ∀ (a b : List (Nat × ByteArray)), catT (a ++ b) = catT a ++ catT b
  | [], b => (noneD_app _).symm
  | y :: a, b => by
    show wrapT y.1 y.2 ++ catT (a ++ b) = wrapT y.1 y.2 ++ catT a ++ catT b
    rw [catT_append a b, app_assocD]
theorem catT_take (l : List (Nat × ByteArray)) (i : Nat) : (catT (l.take i)).size ≤ (catT l).size := by
  have := congrArg (fun z => (catT z).size) (List.take_append_drop i l)
  simp only [catT_append, size_app] at this
  omega
theorem take_more {α : Type} (l : List α) (i : Nat) (x : α) (h : l[i]? = some x) : l.take (i + 1) = l.take i ++ [x] := by
  obtain ⟨hi, e⟩ := List.getElem?_eq_some_iff.1 h
  rw [List.take_succ_eq_append_getElem hi, e]
set_option maxRecDepth 100000 in
set_option maxHeartbeats 4000000 in
theorem listOf_any (p : Option Addr) (cap : Nat) (l : List It) (w : World) (h : RS 3 p l.length cap (l.map encIt) w) (hl : l.length ≤ 1000) (hz : (catT (l.map tx2)).size ≤ 1000000) (hy : ∀ y ∈ l, y.1 < 256 ∧ y.2.1.size ≤ 1000000) :
    Calls Try.prog 29 #[.slice p l.length cap] w fun e w' => e = .returned (.string (wrapT 48 (catT (l.map tx2)))) ∧ Below w.heap.size w w' := by
  have HH := Lib.hid h
  have HY := Lib.hid hy
  have HT : Hid (∀ i, (catT ((l.map tx2).take i)).size ≤ 1000000) := Lib.hid fun i => Nat.le_trans (catT_take _ i) hz
  have HB0 := Lib.hid (Below.refl w.heap.size w)
  have HLL := Lib.hid hl
  have CE := Lib.hid fun wx => wrapped_any 48 (catT (l.map tx2)) wx (by decide) (by omega)
  obtain ⟨n, hn⟩ : ∃ n, n = l.length := ⟨_, rfl⟩
  rw [← hn]
  have HN := Lib.hid hn
  clear h hy hz hl hn
  go_enter Try.func29, Try.ntmps29
  go_wp2_with fail
  go_loopw [3, 5, 8] (fun x _ u wr => ∃ i : Nat, x = .string (catT ((l.map tx2).take i)) ∧ u = .int .i64 (i : Int) ∧ i ≤ n ∧ Hid (Below w.heap.size w wr)) (fun _ _ u _ => n - (intOf u).toNat)
  case atStart => exact ⟨0, rfl, rfl, Nat.zero_le _, HB0⟩
  case round =>
    obtain ⟨i, rfl, rfl, hi, HB⟩ := hrel
    by_cases hlt : i < n
    · have hlti : (i : Int) < (n : Int) := by omega
      have hil : i < l.length := by rw [← HN.out]; exact hlt
      obtain ⟨y, hyy⟩ : ∃ y, l[i]? = some y := ⟨l[i], List.getElem?_eq_getElem hil⟩
      have HRS := HH.out.below HB.out
      obtain ⟨a, rfl⟩ := HRS.some_ (by omega)
      obtain ⟨c0, c1, c2⟩ := HRS.at3 (i := i) (x := .int .i64 (y.1 : Int)) (y := .string y.2.1) (z := .string y.2.2) (by rw [List.getElem?_map, hyy]; rfl)
      obtain ⟨ty, tx, tr⟩ := y
      have HTK : Hid ((l.map tx2).take (i + 1) = (l.map tx2).take i ++ [(ty, tx)]) := Lib.hid (take_more _ _ _ (by rw [List.getElem?_map, hyy]; rfl))
      have hmem := HY.out _ (List.mem_of_getElem? hyy)
      have hxz : tx.size ≤ 1000000 := hmem.2
      have C := Lib.hid fun wx => wrapped_any ty tx wx hmem.1 (by omega)
      have HWZ : Hid ((wrapT ty tx).size ≤ 1000100) := Lib.hid (by have := wrapT_size ty tx; omega)
      have HCZ := Lib.hid (HT.out i)
      have HX : Hid (catT ((l.map tx2).take (i + 1)) = catT ((l.map tx2).take i) ++ wrapT ty tx) := Lib.hid (by rw [HTK.out, catT_snoc])
      have hsum : ¬ (((catT ((l.map tx2).take i)).size + (wrapT ty tx).size : Nat) : Int) > 9223372036854775807 := by have := HWZ.out; have := HCZ.out; omega
      have hkw : IntKind.i64.wrap ((i : Int) + 1) = ((i + 1 : Nat) : Int) := by have := HLL.out; rw [IntWalk.i64_in _ (by omega)]; rfl
      have HLT := Lib.hid hlt
      generalize catT ((l.map tx2).take i) = TX at HX hsum ⊢
      generalize wrapT ty tx = WX at HX hsum C
      have HBA := Lib.hid (below_setRow' ((Below.refl wr.heap.size wr).alloc (Nat.le_refl _) (.cells #[.int .i64 (ty : Int), .string tx, .string tr] 24)) (Nat.le_refl _) #[.int .i64 (ty : Int), .string tx, .string tr])
      have HBB := Lib.hid ((Below.refl wr.heap.size wr).alloc (Nat.le_refl _) (.cells #[.int .i64 (ty : Int), .string tx, .string tr] 24))
      clear hyy hmem hxz hil hlt hi
      go_wp2_with fail
      refine (C.out _).mono ?_
      rintro e w2 ⟨rfl, b2⟩
      have HB2 := Lib.hid (HB.out.trans ((HBB.out.trans (b2.mono HBB.out.size)).mono HB.out.size))
      clear b2 c0 c1 c2 HRS
      go_wp2_with fail
      exact ⟨⟨i + 1, by rw [HX.out], by go_num, by have := HLT.out; omega, HB2⟩, by simp only [intOf]; have := HLT.out; omega⟩
    · obtain rfl : i = n := by omega
      have hlti : ¬ (i : Int) < (i : Int) := by omega
      have HTK : Hid ((l.map tx2).take i = l.map tx2) := Lib.hid (List.take_of_length_le (by rw [List.length_map, ← HN.out]; exact Nat.le_refl _))
      rw [HTK.out]
      clear hlt hi
      go_wp2_with fail
      refine (CE.out _).mono ?_
      rintro e w2 ⟨rfl, b2⟩
      have HE := Lib.hid (HB.out.trans (b2.mono HB.out.size))
      clear b2
      go_wp2_with fail
      go_ret
      exact ⟨rfl, HE.out⟩
end Go.Proofs.Ytkbjgaobhbiieaa
/- Where the part of the extensions stands: the developers'. -/
namespace Go.Proofs.Ytkbjgaobhbiieaa
open Go.RowKit Go.Shelf
theorem infoIs : ∀ w, (isAgg 24).run Try.prog w = .ok true w := fun w => by kernel_rfl
theorem sizeIs : ∀ w, (Go.sizeOf 24).run Try.prog w = .ok 3 w := fun w => by kernel_rfl
def isX (y : It) : Bool := decide (y.1 = 163)
theorem pred_any (y : It) (w : World) :
    Calls Try.prog 26 #[.agg (encIt y).toArray] w fun e w' => e = .returned (.bool (isX y)) ∧ Below w.heap.size w w' := by
  obtain ⟨ty, tx, tr⟩ := y
  have HB := Lib.hid ((Below.refl w.heap.size w).alloc (Nat.le_refl _) (.cells #[.int .i64 (ty : Int), .string tx, .string tr] 24))
  show Calls Try.prog _ #[.agg #[.int .i64 (ty : Int), .string tx, .string tr]] w _
  by_cases h : ty = 163
  · have HR : Hid (isX (ty, tx, tr) = true) := Lib.hid (by unfold isX; rw [decide_eq_true h])
    subst h
    go_enter Try.func26, Try.ntmps26
    go_wp2_with fail
    go_ret
    rw [HR.out]
    exact ⟨rfl, HB.out⟩
  · have HR : Hid (isX (ty, tx, tr) = false) := Lib.hid (by unfold isX; rw [decide_eq_false h])
    have hi : ¬ (ty : Int) = 163 := by omega
    have hb : ((ty : Int) == 163) = false := by simpa using hi
    clear h
    go_enter Try.func26, Try.ntmps26
    go_wp2_with fail
    go_ret
    rw [HR.out]
    exact ⟨by rw [← hb]; rfl, HB.out⟩
/-- Where the first part a3 stands. -/
def idxX (l : List It) : Int := Lib.idxBy (fun _ y => isX y) l default
theorem idx_none (cap : Nat) (w : World) :
    Calls Try.prog 25 #[.slice none 0 cap, .func (.func 26) #[] #[]] w fun e w' => e = .returned (.int .i64 (-1)) ∧ Below w.heap.size w w' := by
  have HB := Lib.hid (Below.refl w.heap.size w)
  go_enter Try.func25, Try.ntmps25
  go_wp2_with fail
  go_loopw [5, 8] (fun _ u wr => u = .int .i64 0 ∧ wr = w) (fun _ _ _ => 0)
  case atStart => exact ⟨rfl, rfl⟩
  case round =>
    obtain ⟨rfl, rfl⟩ := hrel
    go_wp2_with fail
    go_ret
    exact ⟨rfl, HB.out⟩
theorem idx_any {B : Nat} {w0 : World} {v : Value} (l : List It) (w : World) (h : LS 24 3 B w0 (l.map encIt) v w) (hl : l.length ≤ 1000) :
    Calls Try.prog 25 #[v, .func (.func 26) #[] #[]] w fun e w' => e = .returned (.int .i64 (idxX l)) ∧ Below w.heap.size w w' := by
  obtain ⟨p, cap, hv, hr, _⟩ := h.rs
  rw [List.length_map] at hv hr
  rcases h.own.2 with ⟨h1, h2⟩ | ⟨g, cap', cur, h1, _, h3, _⟩
  · rw [List.length_map] at h2
    obtain rfl : l = [] := List.length_eq_zero_iff.1 h2
    rw [h1]
    exact idx_none 0 w
  · rw [List.length_map] at h1
    rw [hv] at h1
    injection h1 with h1 _ h4
    subst h1 h4 hv
    have hg : g < w.heap.size := (Array.getElem?_eq_some_iff.1 h3).1
    have C := AnyQ.slices_IndexFunc idxN 3 infoIs sizeIs encIt (fun _ => rfl) isX 26 #[] (enters_of Try.func26 (by kernel_rfl) rfl) g 0 l.length cap l w
      (fun W x hb => (pred_any x W).mono fun e w' ⟨h1, h2⟩ => ⟨h1, hb.trans (h2.mono hb.size)⟩) (Nat.le_refl _) (by omega) hg (fun j hj i u hu => by
        have hj2 : j < (l.map encIt).length := by rw [List.length_map]; exact hj
        have e : (l.map encIt)[j] = encIt l[j]! := by rw [List.getElem_map, getElem!_pos l j hj]
        have := hr.cell _ rfl j hj2 i u (by rw [e]; exact hu)
        rw [addr_add] at this
        rw [show 0 + j * 3 + i = 0 + (j * 3 + i) by omega]
        exact this)
    rw [List.take_length] at C
    exact C
end Go.Proofs.Ytkbjgaobhbiieaa
/- One item is taken out of a list: slices.Delete. -/
namespace Go.Proofs.Ytkbjgaobhbiieaa
open Go.RowKit
def arrSet (cur : Array Value) : Nat → List Value → Array Value
  | _, [] => cur
  | o, v :: vs => arrSet (cur.setIfInBounds o v) (o + 1) vs
theorem arrSet_size (vs : List Value) : ∀ (cur : Array Value) (o : Nat), (arrSet cur o vs).size = cur.size := by
  induction vs with
  | nil => intro cur o; rfl
  | cons v vs ih => intro cur o; show (arrSet (cur.setIfInBounds o v) (o + 1) vs).size = _; rw [ih]; simp
theorem arrSet_get (vs : List Value) : ∀ (cur : Array Value) (o : Nat), o + vs.length ≤ cur.size → ∀ j, (arrSet cur o vs)[j]? = if o ≤ j ∧ j < o + vs.length then vs[j - o]? else cur[j]? := by
  induction vs with
  | nil => intro cur o h j; show cur[j]? = _; rw [if_neg (by rw [List.length_nil]; omega)]
  | cons v vs ih =>
    intro cur o h j
    rw [List.length_cons] at h
    show (arrSet (cur.setIfInBounds o v) (o + 1) vs)[j]? = _
    rw [ih _ _ (by simp; omega), List.length_cons]
    by_cases h1 : o + 1 ≤ j ∧ j < o + 1 + vs.length
    · rw [if_pos h1, if_pos (by omega), show j - o = (j - (o + 1)) + 1 by omega, List.getElem?_cons_succ]
    · rw [if_neg h1]
      by_cases h2 : j = o
      · subst h2
        rw [if_pos (by omega), Nat.sub_self, List.getElem?_cons_zero, Array.getElem?_setIfInBounds_self_of_lt (by omega)]
      · rw [if_neg (by omega), Array.getElem?_setIfInBounds_ne (by omega)]
theorem Blk.sets (t : TypeId) (g : Nat) (vs : List Value) : ∀ (cur : Array Value) (o : Nat) (w : World), Blk w g t cur → Blk (w.setCells g o vs) g t (arrSet cur o vs) := by
  induction vs with
  | nil => intro cur o w h; exact h
  | cons v vs ih => intro cur o w h; exact ih _ _ _ (h.set_ o v)
theorem below_sets {B g : Nat} (hB : B ≤ g) (vs : List Value) : ∀ (o : Nat) (w : World), Below B w (w.setCells g o vs) := by
  induction vs with
  | nil => intro o w; exact Below.refl _ _
  | cons v vs ih => intro o w; exact ((Below.refl B w).setCell (p := ⟨g, o, none⟩) hB v).trans (ih _ _)
def zero3 : List Value := [.int .i64 0, .string ⟨#[]⟩, .string ⟨#[]⟩]
theorem run_clear_item (w : World) (ty : TypeId) (b o c : Nat) (hc : ∀ j, j < 3 → (w.cell? ⟨b, o + j, none⟩).isSome = true) (hf : ∀ j, j < 3 → w.frozen? ⟨b, o + j, none⟩ = false) :
    (Builtin.clear_ #[35] ty #[.slice (some ⟨b, o, none⟩) 1 c]).run Try.prog w = .ok (.tuple #[]) (w.setCells b o zero3) := by
  have hz : (zeroValue 24).run Try.prog w = .ok (.agg #[.int .i64 0, .string ⟨#[]⟩, .string ⟨#[]⟩]) w := Try.zeroValue24 w
  have hst := run_storeCells_cells (P := Try.prog) b o zero3 0 w (by simpa [zero3] using hc) (by simpa [zero3] using hf) (by intro v hv; unfold zero3 at hv; simp only [List.mem_cons, List.not_mem_nil, or_false] at hv; rcases hv with rfl | rfl | rfl <;> rfl)
  simp only [Nat.add_zero] at hst
  have hzc : (Builtin.zeroCells (Value.agg #[.int .i64 0, .string ⟨#[]⟩, .string ⟨#[]⟩]).cells 1).toList = zero3 := by kernel_rfl
  simp [Builtin.clear_, run_underlying Try.underlying35, hz, hzc, hst]
set_option maxRecDepth 100000 in
set_option maxHeartbeats 4000000 in
theorem delete_any {B : Nat} {w0 : World} (A C : List It) (y : It) (v : Value) (w : World) (h : LS 24 3 B w0 ((A ++ y :: C).map encIt) v w) (hl : (A ++ y :: C).length ≤ 1000) :
    Calls Try.prog 28 #[v, .int .i64 (A.length : Int), .int .i64 ((A.length + 1 : Nat) : Int)] w fun e w' => ∃ v', e = .returned v' ∧ LS 24 3 B w0 ((A ++ C).map encIt) v' w' := by
  have hn : (A ++ y :: C).length = A.length + 1 + C.length := by rw [List.length_append, List.length_cons]; omega
  rcases h.own.2 with ⟨_, h2⟩ | ⟨g, cap, cur, h1, hB, h3, h4, h5, h6, h7⟩
  · rw [List.length_map] at h2; omega
  rw [List.length_map, hn] at h1 h4 h7
  subst h1
  have hfl : ((A ++ y :: C).map encIt).flatten = (A.map encIt).flatten ++ (encIt y ++ (C.map encIt).flatten) := by simp
  have hAl : (A.map encIt).flatten.length = A.length * 3 := by
    have : Each 3 (A.map encIt) := fun x hx => h.each x (by rw [List.map_append]; exact List.mem_append_left _ hx)
    rw [this.len, List.length_map]
  have hCE : Each 3 (C.map encIt) := fun x hx => h.each x (by rw [List.map_append]; exact List.mem_append_right _ (List.mem_cons_of_mem _ hx))
  have hCl : (C.map encIt).flatten.length = C.length * 3 := by rw [hCE.len, List.length_map]
  obtain ⟨news, hnews⟩ : ∃ news, news = (C.map encIt).flatten := ⟨_, rfl⟩
  obtain ⟨pre, hpre⟩ : ∃ pre, pre = (A.map encIt).flatten := ⟨_, rfl⟩
  rw [← hnews] at hCl
  rw [← hpre] at hAl
  rw [hfl, ← hnews, ← hpre] at h7
  have hone : ∀ u ∈ news, u.oneCell' = true := by rw [hnews]; exact hCE.one
  have hey : (encIt y).length = 3 := rfl
  obtain ⟨k, hk⟩ : ∃ k, k = A.length := ⟨_, rfl⟩
  obtain ⟨m, hm⟩ : ∃ m, m = C.length := ⟨_, rfl⟩
  rw [← hk] at hAl h4 h7 hn ⊢
  rw [← hm] at hCl h4 h7 hn ⊢
  have hcap : k + 1 + m ≤ cap := h4
  have hcell : ∀ j, j < (k + 1 + m) * 3 → w.cell? ⟨g, j, none⟩ = (pre ++ (encIt y ++ news))[j]? := fun j hj => by
    rw [← h7, List.getElem?_take_of_lt hj, Array.getElem?_toList]
    exact Blk.cell (t := 24) h3 j
  have HX := Lib.hid (⟨h.b, h.lo, hB, h3, h5, h6, h7, hpre, hnews, hcell, hone, hAl, hCl, hey⟩ : Below B w0 w ∧ B ≤ w.heap.size ∧ B ≤ g ∧ Blk w g 24 cur ∧ cap ≤ maxLen ∧ cur.size = cap * 3 ∧ cur.toList.take ((k + 1 + m) * 3) = pre ++ (encIt y ++ news) ∧ pre = (A.map encIt).flatten ∧ news = (C.map encIt).flatten ∧ (∀ j, j < (k + 1 + m) * 3 → w.cell? ⟨g, j, none⟩ = (pre ++ (encIt y ++ news))[j]?) ∧ (∀ u ∈ news, u.oneCell' = true) ∧ pre.length = k * 3 ∧ news.length = m * 3 ∧ (encIt y).length = 3)
  have HK := Lib.hid hk
  have HM := Lib.hid hm
  have q1 : (0 : Int) ≤ (k : Int) := by omega
  have hne : ¬ (k : Int) = ((k + 1 : Nat) : Int) := by omega
  clear h h3 hB h4 h5 h6 h7 hfl hAl hCE hCl hnews hpre hone hey hcell hk hm
  obtain ⟨i0, hi0, hz0, hz1, hz2⟩ := info_parts infoItD
  obtain ⟨AD, hAD, hsrc⟩ : ∃ AD : Addr, (if cap = k + 1 then some (⟨g, 0, none⟩ : Addr) else some ⟨g, (k + 1) * 3, none⟩) = some AD ∧ Hid (∀ t u, news[t]? = some u → w.drew.cell? (AD.add t) = some u) := by
    obtain ⟨_, _, _, _, _, _, _, _, _, hcell, _, hAl, hCl, hey⟩ := HX.out
    by_cases e : cap = k + 1
    · refine ⟨⟨g, 0, none⟩, by rw [if_pos e], Lib.hid fun t u hu => ?_⟩
      have := (List.getElem?_eq_some_iff.1 hu).1
      omega
    · refine ⟨⟨g, (k + 1) * 3, none⟩, by rw [if_neg e], Lib.hid fun t u hu => ?_⟩
      have ht := (List.getElem?_eq_some_iff.1 hu).1
      rw [addr_add]
      have := hcell ((k + 1) * 3 + t) (by omega)
      rw [List.getElem?_append_right (by omega), List.getElem?_append_right (by omega), show (k + 1) * 3 + t - pre.length - (encIt y).length = t by omega, hu] at this
      exact this
  have HRN : Hid ((Builtin.append_ #[35, 35] 35 #[.slice (some ⟨g, 0, none⟩) k cap, .slice (some AD) m (cap - (k + 1))]).run Try.prog w.drew = .ok (.slice (some ⟨g, 0, none⟩) (k + m) cap) (w.drew.setCells g (0 + k * 3) news)) := Lib.hid (by
    obtain ⟨_, _, _, hb, _, hcs, _, _, _, hcell, hone, hAl, hCl, hey⟩ := HX.out
    have := run_append_room_cells (P := Try.prog) (w := w.drew) 35 35 24 i0 Try.underlying35 hi0 g 0 k cap AD m (cap - (k + 1)) news (by rw [hz1]; exact hCl) hsrc.out hone (by omega) (fun j hj => by
      rw [hz1]
      show (w.cell? _).isSome = true
      rw [hb.cell]
      rw [Array.getElem?_eq_getElem (by omega)]
      rfl) (fun j hj => hb.frozen _)
    rw [hz1] at this
    exact this)
  have HCL : Hid ((Builtin.clear_ #[35] 0 #[.slice (some ⟨g, (k + m) * 3, none⟩) (k + 1 + m - (k + m)) (cap - (k + m))]).run Try.prog (w.drew.setCells g (k * 3) news) = .ok (.tuple #[]) ((w.drew.setCells g (k * 3) news).setCells g ((k + m) * 3) zero3)) := Lib.hid (by
    obtain ⟨_, _, _, hb, _, hcs, _, _, _, hcell, hone, hAl, hCl, hey⟩ := HX.out
    have hb2 := Blk.sets 24 g news cur (k * 3) w.drew hb
    rw [show k + 1 + m - (k + m) = 1 by omega]
    exact run_clear_item _ 0 g _ _ (fun j hj => by
      rw [hb2.cell, Array.getElem?_eq_getElem (by rw [arrSet_size]; omega)]
      rfl) (fun j hj => hb2.frozen _))
  have HFIN : Hid (LS 24 3 B w0 ((A ++ C).map encIt) (.slice (some ⟨g, 0, none⟩) (k + m) cap) ((w.drew.setCells g (k * 3) news).setCells g ((k + m) * 3) zero3)) := Lib.hid (by
    obtain ⟨hbb, hlo, hBg, hb, hcm, hcs, htk, hpre, hnews, hcell, hone, hAl, hCl, hey⟩ := HX.out
    have hb2 := Blk.sets 24 g news cur (k * 3) w.drew hb
    have hb3 := Blk.sets 24 g zero3 _ ((k + m) * 3) _ hb2
    have hz3 : zero3.length = 3 := rfl
    have hfl2 : ((A ++ C).map encIt).flatten = pre ++ news := by rw [hpre, hnews]; simp
    have hlen2 : ((A ++ C).map encIt).length = k + m := by rw [List.length_map, List.length_append, ← HK.out, ← HM.out]
    refine ⟨⟨?_, .inr ⟨g, cap, _, by rw [hlen2], hBg, hb3, by omega, hcm, by rw [arrSet_size, arrSet_size]; exact hcs, ?_⟩⟩, ?_, (hbb.drew.trans (below_sets hBg _ _ _)).trans (below_sets hBg _ _ _), ?_⟩
    · rw [hfl2, hlen2, List.length_append, hAl, hCl]; omega
    · rw [hfl2, hlen2]
      apply List.ext_getElem?
      intro j
      by_cases hj : j < (k + m) * 3
      · rw [List.getElem?_take_of_lt hj, Array.getElem?_toList, arrSet_get _ _ _ (by rw [arrSet_size, hz3]; omega), if_neg (by omega), arrSet_get _ _ _ (by omega)]
        by_cases h1 : k * 3 ≤ j
        · rw [if_pos (by omega), List.getElem?_append_right (by omega), hAl]
        · rw [if_neg (by omega), List.getElem?_append_left (by omega)]
          have e := hcell j (by omega)
          rw [hb.cell, List.getElem?_append_left (by omega)] at e
          exact e
      · rw [List.getElem?_eq_none (by rw [List.length_take]; omega), List.getElem?_eq_none (by rw [List.length_append]; omega)]
    · intro x hx
      rw [List.map_append] at hx
      obtain ⟨z, _, rfl⟩ := List.mem_map.1 ((List.mem_append.1 hx).elim (fun h => by rw [List.map_append]; exact List.mem_append_left _ h) (fun h => by rw [List.map_append]; exact List.mem_append_right (A.map encIt) h) : x ∈ (A ++ C).map encIt)
      exact eachIt z _ (List.mem_singleton.2 rfl)
    · have := (below_sets hBg zero3 ((k + m) * 3) (w.drew.setCells g (k * 3) news)).size
      have h2 := (below_sets hBg news (k * 3) w.drew).size
      have h3 : w.drew.heap.size = w.heap.size := rfl
      omega)
  clear hi0 hz0 hz1 hz2 hsrc
  go_enter Try.func28, Try.ntmps28
  go_wp2_with fail
  refine heldT_start (by kernel_rfl) ?_
  change wpAnyH _ _ _ _ _ _ _ _ w.drew
  refine heldT_take (i := 0) (v := .slice (some ⟨g, 0, none⟩) (k + 1 + m) cap) rfl (by kernel_rfl) (by kernel_rfl) (by kernel_rfl) (fun _ _ _ h => h) rfl (fun wx => ?_) ?_
  · go_simp; skip
  simp only [pu]
  refine heldT_take (i := 1) (v := .int .i64 (k : Int)) rfl (by kernel_rfl) (by kernel_rfl) (by kernel_rfl) (fun _ _ _ h => h) rfl (fun wx => ?_) ?_
  · go_simp; skip
  simp only [pu]
  refine heldT_take (i := 2) (v := .slice (some ⟨g, 0, none⟩) k cap) rfl (by kernel_rfl) (by kernel_rfl) (by kernel_rfl) (fun _ _ _ h => h) rfl (fun wx => ?_) ?_
  · go_simp; exact fun h => absurd h (by omega)
  simp only [pu]
  refine heldT_take (i := 3) (v := .slice (some ⟨g, 0, none⟩) (k + 1 + m) cap) rfl (by kernel_rfl) (by kernel_rfl) (by kernel_rfl) (fun _ _ _ h => h) rfl (fun wx => ?_) ?_
  · go_simp; skip
  simp only [pu]
  refine heldT_take (i := 4) (v := .int .i64 ((k + 1 : Nat) : Int)) rfl (by kernel_rfl) (by kernel_rfl) (by kernel_rfl) (fun _ _ _ h => h) rfl (fun wx => ?_) ?_
  · go_simp; skip
  simp only [pu]
  refine heldT_take (i := 5) (v := .slice (some AD) m (cap - (k + 1))) rfl (by kernel_rfl) (by kernel_rfl) (by kernel_rfl) (fun _ _ _ h => h) rfl (fun wx => ?_) ?_
  · go_simp; exact fun h => absurd (h (by omega)) (by omega)
  simp only [pu]
  refine heldT_lands (i := 6) (v := .slice (some ⟨g, 0, none⟩) (k + m) cap) (R := fun wx => wx = w.drew.setCells g (k * 3) news) (by kernel_rfl) rfl rfl (by
    have hr := HRN.out
    simp only [Nat.zero_add] at hr
    unfold execOp
    simp [resolve, invoke, builtin, Act.eval, hr, Result.andThen, Lands]) ?_
  intro _ hwx
  rw [hwx]
  clear hwx
  simp only [pu]
  refine heldT_take (i := 7) (v := .slice (some ⟨g, 0, none⟩) (k + m) cap) rfl (by kernel_rfl) (by kernel_rfl) (by kernel_rfl) (fun _ _ _ h => h) rfl (fun wx => ?_) ?_
  · go_simp; skip
  simp only [pu]
  refine wpAnyH_done (by kernel_rfl) ?_ _
  have hcl := HCL.out
  go_wp2_with fail
  go_ret
  exact ⟨_, rfl, HFIN.out⟩
end Go.Proofs.Ytkbjgaobhbiieaa
/- A certificate's body: the developers'. -/
namespace Go.Proofs.Ytkbjgaobhbiieaa
open Go.RowKit
theorem LS.item {B : Nat} {w0 w : World} {l : List It} {v : Value} (h : LS 24 3 B w0 (l.map encIt) v w) (i : Nat) (z : It) (hz : l[i]? = some z) :
    ∃ g cap, v = .slice (some ⟨g, 0, none⟩) l.length cap ∧ w.cell? ⟨g, i * 3, none⟩ = some (.int .i64 (z.1 : Int)) ∧ w.cell? ⟨g, i * 3 + 1, none⟩ = some (.string z.2.1) ∧ w.cell? ⟨g, i * 3 + 2, none⟩ = some (.string z.2.2) ∧ B ≤ g ∧ l.length ≤ cap := by
  obtain ⟨hi, e⟩ := List.getElem?_eq_some_iff.1 hz
  rcases h.own.2 with ⟨_, h2⟩ | ⟨g, cap, cur, h1, hB, h3, h4, h5, h6, h7⟩
  · rw [List.length_map] at h2; omega
  · rw [List.length_map] at h1 h4 h7
    obtain ⟨p, cap', hv, hr, _⟩ := h.rs
    rw [h1] at hv
    injection hv with hp _ hc
    subst hp hc
    have hil : i < (l.map encIt).length := by rw [List.length_map]; exact hi
    have k := fun j u (hu : ((l.map encIt)[i])[j]? = some u) => hr.cell _ rfl i hil j u hu
    have e2 : (l.map encIt)[i] = encIt z := by rw [List.getElem_map, e]
    rw [e2] at k
    have k0 := k 0 _ rfl
    have k1 := k 1 _ rfl
    have k2 := k 2 _ rfl
    rw [addr_add, Nat.zero_add] at k0 k1 k2
    exact ⟨g, cap, h1, k0, k1, k2, hB, h4⟩
theorem body_in (s : ByteArray) : bodyD s = if 2000 < s.size then ([], 9) else (inD s).elim ([], 2) fun L => L.head?.elim ([], 2) fun z => if z.1 ≠ 48 then ([], 2) else if (partsF 100 z.2.1).2 ≠ 0 then ([], 2) else ((partsF 100 z.2.1).1, 0) := by
  unfold bodyD inD
  split
  · rfl
  · cases nextD s with
    | none => rfl
    | some y =>
      show (if _ then _ else _) = Option.elim (if _ then _ else _) _ _
      split
      · rfl
      · split
        · rfl
        · rfl
theorem partsF_size : ∀ (f : Nat) (s : ByteArray) (z : It), z ∈ (partsF f s).1 → z.2.1.size ≤ s.size ∧ z.1 < 256
  | 0, s, z, h => by
    unfold partsF at h
    split at h
    · cases h
    · cases hn : nextD s with
      | none => rw [hn] at h; cases h
      | some y => rw [hn] at h; cases h
  | f + 1, s, z, h => by
    unfold partsF at h
    split at h
    · cases h
    · cases hn : nextD s with
      | none => rw [hn] at h; cases h
      | some y =>
        rw [hn] at h
        have h : z ∈ (if (partsF f y.2.2).2 = 0 then (y :: (partsF f y.2.2).1, 0) else ([], (partsF f y.2.2).2) : List It × Nat).1 := h
        split at h
        · rcases List.mem_cons.1 h with rfl | h
          · exact ⟨nextD_text hn, (nextD_size hn).2⟩
          · have := partsF_size f _ z h
            have h2 := (nextD_size hn).1
            exact ⟨by omega, this.2⟩
        · cases h
theorem inD_size {s : ByteArray} {L : List It} (h : inD s = some L) : ∀ z ∈ L, z.2.1.size ≤ s.size ∧ z.1 < 256 := by
  unfold inD at h
  cases hn : nextD s with
  | none => rw [hn] at h; cases h
  | some y =>
    rw [hn] at h
    have h : (if y.1 ≠ 48 ∨ y.2.2.size ≠ 0 then none else if (partsF 100 y.2.1).2 ≠ 0 then none else some (partsF 100 y.2.1).1 : Option (List It)) = some L := h
    split at h
    · cases h
    · split at h
      · cases h
      · injection h with h
        intro z hz
        rw [← h] at hz
        have h1 := partsF_size 100 _ z hz
        have h2 := nextD_text hn
        exact ⟨by omega, h1.2⟩
set_option maxRecDepth 100000 in
set_option maxHeartbeats 4000000 in
theorem bodyOf_any (s : ByteArray) (w : World) (hs : s.size ≤ 281474976710656) :
    Calls Try.prog 24 #[.string s] w fun e w' => ∃ v, e = .returned (.tuple #[v, .int .i64 ((bodyD s).2 : Int)]) ∧ LS 24 3 w.heap.size w ((bodyD s).1.map encIt) v w' := by
  obtain ⟨res, hres⟩ : ∃ res, res = bodyD s := ⟨_, rfl⟩
  rw [← hres]
  rw [body_in] at hres
  by_cases h9 : 2000 < s.size
  · have HRES : Hid (res = ([], 9)) := Lib.hid (by rw [hres, if_pos h9])
    have HB : Hid (LS 24 3 w.heap.size w (([] : List It).map encIt) (.slice none 0 0) w) := Lib.hid (LS.nil (Below.refl _ _) (Nat.le_refl _))
    have h9i : (2000 : Int) < (s.size : Int) := by omega
    clear hres h9 hs
    go_enter Try.func24, Try.ntmps24
    go_wp2_with fail
    go_ret2
    rw [HRES.out]
    exact ⟨_, rfl, HB.out⟩
  · rw [if_neg h9] at hres
    have h9i : ¬ (2000 : Int) < (s.size : Int) := by omega
    have HSZ : Hid (s.size ≤ 2000) := Lib.hid (by omega)
    have C := Lib.hid (inList_any s w hs)
    have HIN : Hid (∀ L, inD s = some L → ∀ z ∈ L, z.2.1.size ≤ s.size ∧ z.1 < 256) := Lib.hid fun L h => inD_size h
    have HRS := Lib.hid hres
    generalize inD s = D at C HRS HIN
    clear hres h9 hs
    cases D with
    | none =>
      have HRES : Hid (res = ([], 2)) := Lib.hid HRS.out
      go_enter Try.func24, Try.ntmps24
      go_wp2_with fail
      refine C.out.mono ?_
      rintro e w1 ⟨v, rfl, h1⟩
      have HB : Hid (LS 24 3 w.heap.size w (([] : List It).map encIt) (.slice none 0 0) w1) := Lib.hid (LS.nil h1.b h1.lo)
      obtain ⟨p, c, hu⟩ := h1.len
      subst hu
      clear h1
      go_wp2_with fail
      go_ret2
      rw [HRES.out]
      exact ⟨_, rfl, HB.out⟩
    | some L =>
      cases L with
      | nil =>
        have HRES : Hid (res = ([], 2)) := Lib.hid HRS.out
        go_enter Try.func24, Try.ntmps24
        go_wp2_with fail
        refine C.out.mono ?_
        rintro e w1 ⟨v, rfl, h1⟩
        have HB : Hid (LS 24 3 w.heap.size w (([] : List It).map encIt) (.slice none 0 0) w1) := Lib.hid (LS.nil h1.b h1.lo)
        obtain ⟨p, c, hu⟩ := h1.len
        subst hu
        clear h1
        go_wp2_with fail
        go_ret2
        rw [HRES.out]
        exact ⟨_, rfl, HB.out⟩
      | cons z L =>
        have HZS := Lib.hid (HIN.out _ rfl z (List.mem_cons_self ..)).1
        have HRS2 : Hid (res = if z.1 ≠ 48 then ([], 2) else if (partsF 100 z.2.1).2 ≠ 0 then ([], 2) else ((partsF 100 z.2.1).1, 0)) := Lib.hid HRS.out
        obtain ⟨tz, xz, rz⟩ := z
        have HZ2 : Hid (xz.size ≤ s.size) := Lib.hid HZS.out
        have HRS3 : Hid (res = if tz ≠ 48 then ([], 2) else if (partsF 100 xz).2 ≠ 0 then ([], 2) else ((partsF 100 xz).1, 0)) := Lib.hid HRS2.out
        clear HRS HRS2 HZS HIN
        have hlen : ¬ ((L.length + 1 : Nat) : Int) = 0 := by omega
        have hlenb : (((L.length + 1 : Nat) : Int) == 0) = false := by simpa using hlen
        have hlen2 : ¬ ((L.length : Int) + 1) = 0 := by omega
        have hlenb2 : (((L.length : Int) + 1) == 0) = false := by simpa using hlen2
        have hpos : (0 : Int) < (L.length : Int) + 1 := by omega
        by_cases h48 : tz = 48
        · subst h48
          have CP := Lib.hid fun wx => parts_any xz wx (by have := HZ2.out; have := HSZ.out; omega)
          have HE := Lib.hid (partsF_err 100 xz)
          have HRS4 : Hid (res = if (partsF 100 xz).2 ≠ 0 then ([], 2) else ((partsF 100 xz).1, 0)) := Lib.hid (by rw [HRS3.out, if_neg (by decide)])
          clear HRS3
          generalize partsF 100 xz = P at CP HE HRS4
          obtain ⟨P, f⟩ := P
          go_enter Try.func24, Try.ntmps24
          go_wp2_with fail
          refine C.out.mono ?_
          rintro e w1 ⟨v, rfl, h1⟩
          have HB1 := Lib.hid h1.b
          obtain ⟨g, cap, rfl, c0, c1, c2, _, hcap⟩ := LS.item (l := (48, xz, rz) :: L) h1 0 _ rfl
          rw [Nat.zero_mul] at c0 c1 c2
          clear h1 C
          go_wp2_with fail
          refine (CP.out _).mono ?_
          rintro e w2 ⟨v2, rfl, h2⟩
          have HL2 := Lib.hid (h2.lower HB1.out HB1.out.size)
          obtain ⟨p, c, hu⟩ := h2.len
          rw [List.length_map] at hu
          subst hu
          clear h2 CP c0 c1 c2
          by_cases hf : f = 0
          · subst hf
            have HRES : Hid (res = (P, 0)) := Lib.hid (by rw [HRS4.out]; rfl)
            go_wp2_with fail
            go_ret2
            rw [HRES.out]
            exact ⟨_, rfl, HL2.out⟩
          · have HRES : Hid (res = ([], 2)) := Lib.hid (by rw [HRS4.out, if_pos hf])
            have hfi : ¬ (f : Int) = 0 := by omega
            have hfb : ((f : Int) == 0) = false := by simpa using hfi
            have HB : Hid (LS 24 3 w.heap.size w (([] : List It).map encIt) (.slice none 0 0) w2) := Lib.hid (LS.nil HL2.out.b HL2.out.lo)
            clear hf
            go_wp2_with fail
            go_ret2
            rw [HRES.out]
            exact ⟨_, rfl, HB.out⟩
        · have HRES : Hid (res = ([], 2)) := Lib.hid (by rw [HRS3.out, if_pos h48])
          have h48i : ¬ (tz : Int) = 48 := by omega
          have h48b : ((tz : Int) == 48) = false := by simpa using h48i
          clear h48
          go_enter Try.func24, Try.ntmps24
          go_wp2_with fail
          refine C.out.mono ?_
          rintro e w1 ⟨v, rfl, h1⟩
          have HB : Hid (LS 24 3 w.heap.size w (([] : List It).map encIt) (.slice none 0 0) w1) := Lib.hid (LS.nil h1.b h1.lo)
          obtain ⟨g, cap, rfl, c0, c1, c2, _, hcap⟩ := LS.item (l := (tz, xz, rz) :: L) h1 0 _ rfl
          rw [Nat.zero_mul] at c0 c1 c2
          clear h1
          go_wp2_with fail
          go_ret2
          rw [HRES.out]
          exact ⟨_, rfl, HB.out⟩
end Go.Proofs.Ytkbjgaobhbiieaa
/- The extensions without the poison: the developers'. -/
namespace Go.Proofs.Ytkbjgaobhbiieaa
open Go.RowKit
theorem oid_wrap : oidT = wrapT 6 ⟨#[43, 6, 1, 4, 1, 214, 121, 2, 4, 3]⟩ := by decide +kernel
theorem prefix_iff (s p : ByteArray) : Lib.hasPrefix s.data.toList p.data.toList = true ↔ ∃ R : ByteArray, s = p ++ R := by
  unfold Lib.hasPrefix
  rw [List.isPrefixOf_iff_prefix]
  constructor
  · rintro ⟨t, ht⟩
    refine ⟨⟨t.toArray⟩, ?_⟩
    apply ByteArray.ext
    apply Array.ext'
    simp [← ht]
  · rintro ⟨R, rfl⟩
    exact ⟨R.data.toList, by simp⟩
/-- The bytes of the poison's name are an item: a text that begins with them has it as its first one. -/
theorem pref_po (y : It) : Lib.hasPrefix y.2.1.data.toList oidT.data.toList = isPo y := by
  have key : (Lib.hasPrefix y.2.1.data.toList oidT.data.toList = true) ↔ firstD y = oidT := by
    rw [prefix_iff]
    unfold firstD
    constructor
    · rintro ⟨R, h⟩
      rw [h, oid_wrap, next_wrap 6 _ R (by decide) (by decide) (by decide)]
      rfl
    · intro h
      cases hn : nextD y.2.1 with
      | none =>
        rw [hn] at h
        have := congrArg ByteArray.size h
        exact absurd this (by decide +kernel)
      | some z =>
        obtain ⟨T, x, r⟩ := z
        rw [hn] at h
        have h : wrapT T x = oidT := h
        obtain ⟨_, _, _, e⟩ := wrap_next hn
        exact ⟨r, by rw [← e, h]⟩
  unfold isPo
  by_cases h : firstD y = oidT
  · rw [decide_eq_true h, key.2 h]
  · rw [decide_eq_false h]
    cases hh : Lib.hasPrefix y.2.1.data.toList oidT.data.toList with
    | false => rfl
    | true => exact absurd (key.1 hh) h
theorem exts_in (s : ByteArray) : extsD s = (inD s).bind fun L => if L.all extOk then some L else none := by
  unfold extsD inD
  cases nextD s with
  | none => rfl
  | some y =>
    show (if _ then _ else _) = Option.bind (if _ then _ else _) _
    split
    · rfl
    · split
      · rfl
      · rfl
def keepD (L : List It) : List It := L.filter fun y => !isPo y
theorem keepD_snoc (L : List It) (y : It) : keepD (L ++ [y]) = if isPo y then keepD L else keepD L ++ [y] := by
  unfold keepD
  rw [List.filter_append]
  cases h : isPo y <;> simp [List.filter, h]
theorem manyD_snoc (L : List It) (y : It) : manyD (L ++ [y]) = if isPo y then manyD L + 1 else manyD L := by
  unfold manyD
  rw [List.filter_append, List.length_append]
  cases h : isPo y <;> simp [List.filter, h]
theorem keepD_len (L : List It) : (keepD L).length ≤ L.length := List.length_filter_le _ _
theorem manyD_len (L : List It) : manyD L ≤ L.length := List.length_filter_le _ _
theorem partsF_len : ∀ (f : Nat) (s : ByteArray), (partsF f s).1.length ≤ f
  | 0, s => by
    unfold partsF
    split
    · exact Nat.zero_le _
    · cases nextD s <;> exact Nat.zero_le _
  | f + 1, s => by
    unfold partsF
    split
    · exact Nat.zero_le _
    · cases nextD s with
      | none => exact Nat.zero_le _
      | some y =>
        show (if (partsF f y.2.2).2 = 0 then (y :: (partsF f y.2.2).1, 0) else ([], (partsF f y.2.2).2) : List It × Nat).1.length ≤ f + 1
        split
        · have := partsF_len f y.2.2; show (partsF f y.2.2).1.length + 1 ≤ f + 1; omega
        · exact Nat.zero_le _
theorem inD_len {s : ByteArray} {L : List It} (h : inD s = some L) : L.length ≤ 100 := by
  unfold inD at h
  cases hn : nextD s with
  | none => rw [hn] at h; cases h
  | some y =>
    rw [hn] at h
    have h : (if y.1 ≠ 48 ∨ y.2.2.size ≠ 0 then none else if (partsF 100 y.2.1).2 ≠ 0 then none else some (partsF 100 y.2.1).1 : Option (List It)) = some L := h
    split at h
    · cases h
    · split at h
      · cases h
      · injection h with h
        rw [← h]
        exact partsF_len 100 _
set_option maxRecDepth 100000 in
set_option maxHeartbeats 4000000 in
theorem harmless_any (s : ByteArray) (w : World) (hs : s.size ≤ 100000) :
    Calls Try.prog 27 #[.string s] w fun e w' => ∃ v, e = .returned (.tuple #[v, .int .i64 (((extsD s).elim 0 manyD : Nat) : Int), .bool (extsD s).isSome]) ∧ LS 24 3 w.heap.size w (((extsD s).elim [] keepD).map encIt) v w' := by
  obtain ⟨res, hres⟩ : ∃ res, res = extsD s := ⟨_, rfl⟩
  rw [← hres]
  rw [exts_in] at hres
  have C := Lib.hid (inList_any s w (by omega))
  have HSZ := Lib.hid hs
  have HIN : Hid (∀ L, inD s = some L → ∀ z ∈ L, z.2.1.size ≤ s.size ∧ z.1 < 256) := Lib.hid fun L h => inD_size h
  have HLN : Hid (∀ L, inD s = some L → L.length ≤ 100) := Lib.hid fun L h => inD_len h
  have HRS := Lib.hid hres
  generalize inD s = D at C HRS HIN HLN
  clear hres hs
  cases D with
  | none =>
    have HRES : Hid (res = none) := Lib.hid HRS.out
    go_enter Try.func27, Try.ntmps27
    go_wp2_with fail
    refine C.out.mono ?_
    rintro e w1 ⟨v, rfl, h1⟩
    have HB : Hid (LS 24 3 w.heap.size w (([] : List It).map encIt) (.slice none 0 0) w1) := Lib.hid (LS.nil h1.b h1.lo)
    obtain ⟨p, c, hu⟩ := h1.len
    subst hu
    clear h1
    go_wp2_with fail
    go_ret3
    rw [HRES.out]
    exact ⟨_, rfl, HB.out⟩
  | some L =>
    have HRS2 : Hid (res = if L.all extOk then some L else none) := Lib.hid HRS.out
    have HZ2 : Hid (∀ z ∈ L, z.2.1.size ≤ s.size ∧ z.1 < 256) := Lib.hid (HIN.out L rfl)
    have HL1 : Hid (L.length ≤ 100) := Lib.hid (HLN.out L rfl)
    clear HRS HIN HLN
    go_enter Try.func27, Try.ntmps27
    go_wp2_with fail
    refine C.out.mono ?_
    rintro e w1 ⟨v, rfl, h1⟩
    have HA := Lib.hid h1
    have HA' : Hid (LS 24 3 w.heap.size w (L.map encIt) v w1) := Lib.hid h1
    have HI : Hid (LS 24 3 w1.heap.size w1 ((keepD (L.take 0)).map encIt) (.slice none 0 0) w1 ∧ (∀ z ∈ L.take 0, extOk z = true)) := Lib.hid ⟨LS.nil (Below.refl _ _) (Nat.le_refl _), fun z hz => by rw [List.take_zero] at hz; cases hz⟩
    have HEND : Hid (∀ W, Below w1.heap.size w1 W → LS 24 3 w.heap.size w (([] : List It).map encIt) (.slice none 0 0) W) := Lib.hid fun W hb => LS.nil (h1.b.trans (hb.mono h1.lo)) (Nat.le_trans h1.lo hb.size)
    obtain ⟨p, c, hu⟩ := h1.len
    have hu2 : v = .slice p L.length c := by rw [hu]; rw [List.length_map]; rfl
    subst hu2
    clear h1 hu C HA
    obtain ⟨n, hn⟩ : ∃ n, n = L.length := ⟨_, rfl⟩
    rw [← hn] at HA' ⊢
    have HN := Lib.hid hn
    clear hn
    go_wp2_with fail
    go_loopw [2, 3, 4, 7, 8, 9, 19] (fun x k o4 _ _ _ u wr => ∃ i : Nat, o4 = .bool true ∧ k = .int .i64 ((manyD (L.take i) : Nat) : Int) ∧ u = .int .i64 (i : Int) ∧ i ≤ n ∧ Hid (LS 24 3 w1.heap.size w1 ((keepD (L.take i)).map encIt) x wr ∧ (∀ z ∈ L.take i, extOk z = true))) (fun _ _ _ _ _ _ u _ => n - (intOf u).toNat)
    case atStart => exact ⟨0, rfl, rfl, rfl, Nat.zero_le _, HI⟩
    case round =>
      obtain ⟨i, rfl, rfl, rfl, hi, HV⟩ := hrel
      clear HI
      by_cases hlt : i < n
      · have hlti : (i : Int) < (n : Int) := by omega
        have hil : i < L.length := by rw [← HN.out]; exact hlt
        obtain ⟨y, hyy⟩ : ∃ y, L[i]? = some y := ⟨L[i], List.getElem?_eq_getElem hil⟩
        obtain ⟨g, cap, hv, c0, c1, c2, hgb, hcap⟩ := HA'.out.item i y hyy
        have hg := (HA'.out.ownB g (by rw [hv]; rfl)).2
        injection hv with hp hz hc
        subst hp hc
        clear hz hgb
        have hbr := HV.out.1.b
        replace c0 := (hbr.cell (p := ⟨g, i * 3, none⟩) hg).trans c0
        replace c1 := (hbr.cell (p := ⟨g, i * 3 + 1, none⟩) hg).trans c1
        replace c2 := (hbr.cell (p := ⟨g, i * 3 + 2, none⟩) hg).trans c2
        have hmem := List.mem_of_getElem? hyy
        have HMEM := Lib.hid hmem
        have HZY := Lib.hid (HZ2.out y hmem)
        have HTAKE : Hid (L.take (i + 1) = L.take i ++ [y]) := Lib.hid (take_more L i y hyy)
        have HPO := Lib.hid fun wx => (show Calls Try.prog 36 #[.string y.2.1, .string ⟨#[6, 10, 43, 6, 1, 4, 1, 214, 121, 2, 4, 3]⟩] wx fun e w' => e = .returned (.bool (isPo y)) ∧ w' = wx by rw [← pref_po]; exact pref_lib y.2.1 oidT wx)
        have HNOT : Hid (extOk y = false → res = none) := Lib.hid fun h => by
          rw [HRS2.out, if_neg]
          rw [List.all_eq_true]
          intro h2
          rw [h2 y hmem] at h
          cases h
        have CP := Lib.hid fun wx => parts_any y.2.1 wx (by have := HZY.out.1; have := HSZ.out; omega)
        have HXT : Hid (extOk y = (decide (y.1 = 48) && decide ((partsF 100 y.2.1).2 = 0) && !(partsF 100 y.2.1).1.isEmpty)) := Lib.hid rfl
        have HPE := Lib.hid (partsF_err 100 y.2.1)
        have HSN : Hid (keepD (L.take (i + 1)) = if isPo y then keepD (L.take i) else keepD (L.take i) ++ [y]) := Lib.hid (by rw [HTAKE.out, keepD_snoc])
        have HMN : Hid (manyD (L.take (i + 1)) = if isPo y then manyD (L.take i) + 1 else manyD (L.take i)) := Lib.hid (by rw [HTAKE.out, manyD_snoc])
        have HM1 : Hid (manyD (L.take i) ≤ 100) := Lib.hid (by have h1 := manyD_len (L.take i); rw [List.length_take] at h1; have := HL1.out; omega)
        have HK1 : Hid (((keepD (L.take i)).map encIt).length ≤ 999999) := Lib.hid (by have h1 := keepD_len (L.take i); rw [List.length_take] at h1; have := HL1.out; rw [List.length_map]; omega)
        have HEX := Lib.hid HV.out.2
        have HLS := Lib.hid HV.out.1
        have HLT := Lib.hid hlt
        have hkw : IntKind.i64.wrap ((i : Int) + 1) = ((i + 1 : Nat) : Int) := by have := HL1.out; rw [IntWalk.i64_in _ (by omega)]; rfl
        generalize partsF 100 y.2.1 = P at CP HXT HPE
        obtain ⟨P, f⟩ := P
        generalize isPo y = po at HPO HSN HMN
        obtain ⟨ty, tx, tr⟩ := y
        have HBX := Lib.hid (Blk.new wr 24 #[.int .i64 (ty : Int), .string tx, .string tr])
        have HAL := Lib.hid ((Below.refl wr.heap.size wr).alloc (Nat.le_refl _) (.cells #[.int .i64 (ty : Int), .string tx, .string tr] 24))
        obtain ⟨pk, ck, huk⟩ := HLS.out.len
        rw [List.length_map] at huk
        subst huk
        clear hyy hmem hbr hg hcap hil HV hlt hi
        generalize hmd : manyD (L.take i) = md at HMN HM1 ⊢
        clear hmd
        go_wp2_with fail
        refine (CP.out _).mono ?_
        rintro e w3 ⟨v2, rfl, h2⟩
        have HB3 := Lib.hid (HAL.out.trans (h2.b.mono HAL.out.size))
        have HQ3 := Lib.hid (HBX.out.below h2.b HBX.out.lt)
        have HL3 := Lib.hid (HLS.out.below HB3.out)
        have d0 : w3.cell? ⟨wr.heap.size, 0, none⟩ = some (.int .i64 (ty : Int)) := HQ3.out.cell 0
        have d1 : w3.cell? ⟨wr.heap.size, 1, none⟩ = some (.string tx) := HQ3.out.cell 1
        have d2 : w3.cell? ⟨wr.heap.size, 2, none⟩ = some (.string tr) := HQ3.out.cell 2
        obtain ⟨p2, k2, hu2⟩ := h2.len
        rw [List.length_map] at hu2
        subst hu2
        clear h2 CP c0 c1 c2
        by_cases h48 : ty = 48
        · subst h48
          by_cases hf : f = 0
          · subst hf
            cases P with
            | nil =>
              have HRES : Hid (res = none) := Lib.hid (HNOT.out (by rw [HXT.out]; rfl))
              have HE := Lib.hid (HEND.out w3 HL3.out.b)
              go_wp2_with fail
              go_ret3
              rw [HRES.out]
              exact ⟨_, rfl, HE.out⟩
            | cons z P =>
              have HOK : Hid (extOk (48, tx, tr) = true) := Lib.hid (by rw [HXT.out]; rfl)
              have hlen2 : ¬ ((P.length : Int) + 1) = 0 := by omega
              have hlenb2 : (((P.length : Int) + 1) == 0) = false := by simpa using hlen2
              have HEX2 : Hid (∀ z ∈ L.take (i + 1), extOk z = true) := Lib.hid fun z hz => by
                rw [HTAKE.out] at hz
                rcases List.mem_append.1 hz with h | h
                · exact HEX.out z h
                · rw [List.mem_singleton.1 h]; exact HOK.out
              cases po with
              | true =>
                have HSN2 : Hid (keepD (L.take (i + 1)) = keepD (L.take i)) := Lib.hid HSN.out
                have HMN2 : Hid (manyD (L.take (i + 1)) = md + 1) := Lib.hid HMN.out
                have hmw : IntKind.i64.wrap ((md : Int) + 1) = ((md + 1 : Nat) : Int) := by have := HM1.out; rw [IntWalk.i64_in _ (by omega)]; rfl
                go_wp2_with fail
                refine (HPO.out _).mono ?_
                rintro e w4 ⟨rfl, rfl⟩
                go_wp2_with fail
                exact ⟨⟨i + 1, rfl, by rw [HMN2.out]; go_num, by go_num, by have := HLT.out; omega, Lib.hid ⟨by rw [HSN2.out]; exact HL3.out, HEX2.out⟩⟩, by simp only [intOf]; have := HLT.out; omega⟩
              | false =>
                have HSN2 : Hid (keepD (L.take (i + 1)) = keepD (L.take i) ++ [(48, tx, tr)]) := Lib.hid HSN.out
                have HMN2 : Hid (manyD (L.take (i + 1)) = md) := Lib.hid HMN.out
                go_wp2_with fail
                refine (HPO.out _).mono ?_
                rintro e w4 ⟨rfl, rfl⟩
                go_wp2_with (at_builtin; refine wpList_oneItD rfl (.tmp 46) (.tmp 48) rfl rfl HL3.out (48, tx, tr) w4.heap.size rfl rfl HK1.out ?_; intro v5 w5 h5 g5; have H5 := Lib.hid h5; clear h5 g5 d0 d1 d2)
                exact ⟨⟨i + 1, rfl, by rw [HMN2.out], by go_num, by have := HLT.out; omega, Lib.hid ⟨by rw [HSN2.out, List.map_append]; exact H5.out, HEX2.out⟩⟩, by simp only [intOf]; have := HLT.out; omega⟩
          · have HRES : Hid (res = none) := Lib.hid (HNOT.out (by rw [HXT.out, decide_eq_false hf]; rfl))
            have HE := Lib.hid (HEND.out w3 HL3.out.b)
            have hfi : ¬ (f : Int) = 0 := by omega
            have hfb : ((f : Int) == 0) = false := by simpa using hfi
            clear hf
            go_wp2_with fail
            go_ret3
            rw [HRES.out]
            exact ⟨_, rfl, HE.out⟩
        · have HRES : Hid (res = none) := Lib.hid (HNOT.out (by rw [HXT.out, decide_eq_false h48]; rfl))
          have HE := Lib.hid (HEND.out w3 HL3.out.b)
          have h48i : ¬ (ty : Int) = 48 := by omega
          have h48b : ((ty : Int) == 48) = false := by simpa using h48i
          clear h48
          go_wp2_with fail
          go_ret3
          rw [HRES.out]
          exact ⟨_, rfl, HE.out⟩
      · obtain rfl : i = n := by omega
        have hlti : ¬ (i : Int) < (i : Int) := by omega
        have HTK : Hid (L.take i = L) := Lib.hid (List.take_of_length_le (by rw [← HN.out]; exact Nat.le_refl _))
        have HRES : Hid (res = some L) := Lib.hid (by
          rw [HRS2.out, if_pos]
          rw [List.all_eq_true]
          have := HV.out.2
          rw [HTK.out] at this
          exact this)
        have HF : Hid (LS 24 3 w.heap.size w ((keepD L).map encIt) u2 wr) := Lib.hid (by have := HV.out.1.lower HA'.out.b HA'.out.lo; rwa [HTK.out] at this)
        obtain ⟨p2, c2, hu2⟩ := HF.out.len
        rw [List.length_map] at hu2
        subst hu2
        rw [HTK.out]
        clear hlt hi HV
        go_wp2_with fail
        go_ret3
        rw [HRES.out]
        exact ⟨_, rfl, HF.out⟩
end Go.Proofs.Ytkbjgaobhbiieaa
/- Strip in numbers, as the developers' code goes. -/
namespace Go.Proofs.Ytkbjgaobhbiieaa
open Go.RowKit
theorem steps_met : ∀ (C : List It) (out : ByteArray) (many : Nat), stepsD C out true many = some (out ++ catT (C.map tx2), many)
  | [], out, many => by show some (out, many) = some (out ++ (⟨#[]⟩ : ByteArray), many); rw [app_noneD]
  | y :: C, out, many => by
    show (if y.1 ≠ 163 ∨ true = true then stepsD C (out ++ wrapT y.1 y.2.1) true many else _) = some (out ++ (wrapT y.1 y.2.1 ++ catT (C.map tx2)), many)
    rw [if_pos (.inr rfl), steps_met C, app_assocD]
theorem steps_none : ∀ (P : List It) (out : ByteArray) (many : Nat), (∀ y ∈ P, isX y = false) → stepsD P out false many = some (out ++ catT (P.map tx2), many)
  | [], out, many, _ => by show some (out, many) = some (out ++ (⟨#[]⟩ : ByteArray), many); rw [app_noneD]
  | y :: P, out, many, h => by
    have hy := h y (List.mem_cons_self ..)
    have h1 : y.1 ≠ 163 := by unfold isX at hy; simpa using hy
    show (if y.1 ≠ 163 ∨ false = true then stepsD P (out ++ wrapT y.1 y.2.1) false many else _) = some (out ++ (wrapT y.1 y.2.1 ++ catT (P.map tx2)), many)
    rw [if_pos (.inl h1), steps_none P _ _ (fun z hz => h z (List.mem_cons_of_mem _ hz)), app_assocD]
theorem steps_at : ∀ (A : List It) (y : It) (C : List It) (out : ByteArray) (many : Nat), (∀ z ∈ A, isX z = false) → isX y = true → stepsD (A ++ y :: C) out false many =
    (extsD y.2.1).elim none fun L => some ((if (innerD L).size = 0 then out ++ catT (A.map tx2) else out ++ catT (A.map tx2) ++ wrapT 163 (wrapT 48 (innerD L))) ++ catT (C.map tx2), many + manyD L)
  | [], y, C, out, many, _, hy => by
    have h1 : y.1 = 163 := by unfold isX at hy; simpa using hy
    show (if y.1 ≠ 163 ∨ false = true then _ else (extsD y.2.1).elim none fun l => stepsD C (if (innerD l).size = 0 then out else out ++ wrapT 163 (wrapT 48 (innerD l))) true (many + manyD l)) = _
    rw [if_neg (by rw [h1]; simp)]
    cases extsD y.2.1 with
    | none => rfl
    | some L =>
      show stepsD C _ true _ = some ((if (innerD L).size = 0 then out ++ (⟨#[]⟩ : ByteArray) else out ++ (⟨#[]⟩ : ByteArray) ++ _) ++ _, _)
      rw [steps_met, app_noneD]
  | z :: A, y, C, out, many, h, hy => by
    have hz := h z (List.mem_cons_self ..)
    have h1 : z.1 ≠ 163 := by unfold isX at hz; simpa using hz
    show (if z.1 ≠ 163 ∨ false = true then stepsD (A ++ y :: C) (out ++ wrapT z.1 z.2.1) false many else _) = _
    rw [if_pos (.inl h1), steps_at A y C _ _ (fun u hu => h u (List.mem_cons_of_mem _ hu)) hy]
    show _ = (extsD y.2.1).elim none fun L => some ((if (innerD L).size = 0 then out ++ (wrapT z.1 z.2.1 ++ catT (A.map tx2)) else out ++ (wrapT z.1 z.2.1 ++ catT (A.map tx2)) ++ _) ++ _, _)
    rw [app_assocD]
theorem idxF_none : ∀ (P : List It) (i : Nat), (∀ y ∈ P, isX y = false) → Lib.idxByFrom (fun _ y => isX y) (default : It) P i = -1
  | [], _, _ => rfl
  | y :: P, i, h => by
    show (if isX y = true then (i : Int) else Lib.idxByFrom (fun _ y => isX y) (default : It) P (i + 1)) = -1
    rw [if_neg (by rw [h y (List.mem_cons_self ..)]; decide), idxF_none P _ fun z hz => h z (List.mem_cons_of_mem _ hz)]
theorem idxF_some : ∀ (A : List It) (y : It) (C : List It) (i : Nat), (∀ z ∈ A, isX z = false) → isX y = true → Lib.idxByFrom (fun _ y => isX y) (default : It) (A ++ y :: C) i = ((i + A.length : Nat) : Int)
  | [], y, C, i, _, hy => by
    show (if isX y = true then (i : Int) else _) = _
    rw [if_pos hy]; rfl
  | z :: A, y, C, i, h, hy => by
    show (if isX z = true then (i : Int) else Lib.idxByFrom (fun _ y => isX y) (default : It) (A ++ y :: C) (i + 1)) = _
    rw [if_neg (by rw [h z (List.mem_cons_self ..)]; decide), idxF_some A y C _ (fun u hu => h u (List.mem_cons_of_mem _ hu)) hy, List.length_cons]
    congr 1
    omega
theorem split_X : ∀ (P : List It), (∀ y ∈ P, isX y = false) ∨ ∃ A y C, P = A ++ y :: C ∧ (∀ z ∈ A, isX z = false) ∧ isX y = true
  | [] => .inl fun _ h => by cases h
  | y :: P => by
    cases hy : isX y with
    | true => exact .inr ⟨[], y, P, rfl, fun _ h => (by cases h), hy⟩
    | false =>
      rcases split_X P with h | ⟨A, z, C, e, h1, h2⟩
      · exact .inl fun z hz => by
          rcases List.mem_cons.1 hz with rfl | hz
          · exact hy
          · exact h z hz
      · exact .inr ⟨y :: A, z, C, by rw [e]; rfl, fun u hu => by
          rcases List.mem_cons.1 hu with rfl | hu
          · exact hy
          · exact h1 u hu, h2⟩
theorem exts_ok {s : ByteArray} {L : List It} (h : extsD s = some L) : (∀ z ∈ L, extOk z = true) ∧ L.length ≤ 100 ∧ ∀ z ∈ L, z.2.1.size ≤ s.size ∧ z.1 < 256 := by
  rw [exts_in] at h
  obtain ⟨M, hM, h2⟩ := Option.bind_eq_some_iff.1 h
  split at h2
  · rename_i ha
    injection h2 with h2
    subst h2
    exact ⟨by rw [List.all_eq_true] at ha; exact ha, inD_len hM, inD_size hM⟩
  · cases h2
theorem inner_is (L : List It) (h : ∀ z ∈ L, extOk z = true) : innerD L = catT ((keepD L).map tx2) := by
  unfold innerD keepD
  congr 1
  apply List.map_congr_left
  intro y hy
  have := h y (List.mem_filter.1 hy).1
  unfold extOk at this
  have h1 : y.1 = 48 := by
    simp only [Bool.and_eq_true, decide_eq_true_eq] at this
    exact this.1.1
  unfold tx2
  rw [h1]
theorem catT_none (l : List (Nat × ByteArray)) : (catT l).size = 0 ↔ l = [] := by
  cases l with
  | nil => exact ⟨fun _ => rfl, fun _ => rfl⟩
  | cons y l =>
    refine ⟨fun h => ?_, fun h => by cases h⟩
    exfalso
    have : (wrapT y.1 y.2 ++ catT l).size = 0 := h
    rw [size_app, wrap_len] at this
    omega
theorem body_size {s : ByteArray} : (bodyD s).1.length ≤ 100 ∧ ∀ z ∈ (bodyD s).1, z.2.1.size ≤ 2000 ∧ z.1 < 256 := by
  rw [body_in]
  split
  · exact ⟨Nat.zero_le _, fun _ h => by cases h⟩
  · rename_i h9
    cases hi : inD s with
    | none => exact ⟨Nat.zero_le _, fun _ h => by cases h⟩
    | some L =>
      cases L with
      | nil => exact ⟨Nat.zero_le _, fun _ h => by cases h⟩
      | cons z L =>
        show (if z.1 ≠ 48 then ([], 2) else if (partsF 100 z.2.1).2 ≠ 0 then ([], 2) else ((partsF 100 z.2.1).1, 0) : List It × Nat).1.length ≤ 100 ∧ ∀ u ∈ (if z.1 ≠ 48 then ([], 2) else if (partsF 100 z.2.1).2 ≠ 0 then ([], 2) else ((partsF 100 z.2.1).1, 0) : List It × Nat).1, u.2.1.size ≤ 2000 ∧ u.1 < 256
        have hz := (inD_size hi z (List.mem_cons_self ..)).1
        split
        · exact ⟨Nat.zero_le _, fun _ h => by cases h⟩
        · split
          · exact ⟨Nat.zero_le _, fun _ h => by cases h⟩
          · exact ⟨partsF_len 100 _, fun u hu => by
              have := partsF_size 100 _ u hu
              exact ⟨by omega, this.2⟩⟩
theorem LS.setText {B : Nat} {w0 w : World} {A C : List It} {y : It} {g n cap : Nat} (h : LS 24 3 B w0 ((A ++ y :: C).map encIt) (.slice (some ⟨g, 0, none⟩) n cap) w) (t : ByteArray) :
    LS 24 3 B w0 ((A ++ (y.1, t, y.2.2) :: C).map encIt) (.slice (some ⟨g, 0, none⟩) n cap) (w.setCell ⟨g, A.length * 3 + 1, none⟩ (.string t)) := by
  rcases h.own.2 with ⟨h1, _⟩ | ⟨g', cap', cur, h1, hB, h3, h4, h5, h6, h7⟩
  · cases h1
  · injection h1 with hg hn hc
    injection hg with hg
    injection hg with hg
    subst hg hc
    have hlen : ((A ++ (y.1, t, y.2.2) :: C).map encIt).length = ((A ++ y :: C).map encIt).length := by simp
    have hAE : Each 3 (A.map encIt) := fun x hx => h.each x (by rw [List.map_append]; exact List.mem_append_left _ hx)
    have hAl : (A.map encIt).flatten.length = A.length * 3 := by rw [hAE.len, List.length_map]
    have e1 : ((A ++ y :: C).map encIt).flatten = (A.map encIt).flatten ++ ([.int .i64 (y.1 : Int), .string y.2.1, .string y.2.2] ++ (C.map encIt).flatten) := by
      rw [List.map_append, List.flatten_append, List.map_cons, List.flatten_cons]; rfl
    have e2 : ((A ++ (y.1, t, y.2.2) :: C).map encIt).flatten = (A.map encIt).flatten ++ ([.int .i64 (y.1 : Int), .string t, .string y.2.2] ++ (C.map encIt).flatten) := by
      rw [List.map_append, List.flatten_append, List.map_cons, List.flatten_cons]; rfl
    have hb : Blk w g 24 cur := h3
    refine ⟨⟨?_, .inr ⟨g, cap, cur.setIfInBounds (A.length * 3 + 1) (.string t), by rw [hlen, ← hn], hB, hb.set_ _ _, by rw [hlen]; exact h4, h5, by simp; exact h6, ?_⟩⟩, ?_, h.b.trans ((Below.refl B w).setCell (p := ⟨g, A.length * 3 + 1, none⟩) hB _), by simp [World.setCell]; exact h.lo⟩
    · rw [hlen, e2]
      have := h.own.1
      rw [e1] at this
      simp only [List.length_append] at this ⊢
      exact this
    · rw [hlen, Array.toList_setIfInBounds, List.take_set, h7, e1, e2, List.set_append_right _ _ (by omega), hAl, show A.length * 3 + 1 - A.length * 3 = 1 by omega]
      rfl
    · intro x hx
      obtain ⟨z, hz, rfl⟩ := List.mem_map.1 hx
      exact eachIt z _ (List.mem_singleton.2 rfl)
end Go.Proofs.Ytkbjgaobhbiieaa
