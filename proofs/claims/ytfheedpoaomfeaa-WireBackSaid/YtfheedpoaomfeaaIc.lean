/- The developers' reader of chapter 13. -/
import Derived.Test.YtfheedpoaomfeaaIb
namespace Go.Proofs.Ytfheedpoaomfeaa
open Go.RowKit
/-- So many bytes off the front: these, what is left, the error. -/
def rawW (B : ByteArray) (E : Nat) (n : Int) : ByteArray × ByteArray × Nat :=
  if E ≠ 0 then (⟨#[]⟩, B, E) else if n < 0 then (⟨#[]⟩, B, 1) else if (B.size : Int) < n then (⟨#[]⟩, B, 2) else (B.extract 0 n.toNat, B.extract n.toNat B.size, 0)
theorem bytesT_start (s : ByteArray) (w : World) (hs : s.size ≤ 9223372036854775807) : ∃ cap W1, (convert 9 52 (.string s)).run Try.prog w = .ok (.slice (some ⟨w.heap.size, 0, none⟩) s.size cap) W1 ∧ TS (some ⟨w.heap.size, 0, none⟩) s.size cap s W1 ∧ Below w.heap.size w W1 ∧ W1.heap.size = w.heap.size + 1 := by
  refine ⟨_, _, Lib.run_convert_string_bytes w _ _ 5 s Try.underlying9 Try.underlying52 Try.underlying5, ?_, ?_, Lib.bytesWorld_size _ _ _⟩
  · refine ⟨rfl, (fun e => by cases e), fun a ha i hi => ?_, grownCap_ge _ _ _ _, grownCap_le_maxLen _ _ _ _ (by unfold maxLen; omega), fun a ha => by cases ha; rw [Lib.bytesWorld_size]; exact Nat.lt_succ_self _⟩
    cases ha
    rw [addr_add, Nat.zero_add, Lib.bytesWorld_cell _ _ _ _ hi, ← byteS_at s i hi]
    congr 3
    rw [List.getD_eq_getElem?_getD, List.getElem?_eq_getElem (by simpa using hi)]
    rfl
  · exact ⟨rfl, rfl, rfl, by rw [Lib.bytesWorld_size]; omega, fun k hk => Lib.bytesWorld_at_old _ _ _ _ hk⟩
set_option maxRecDepth 100000 in
theorem newReader_any (s : ByteArray) (w : World) (hs : s.size ≤ 9223372036854775807) :
    Calls Try.prog 18 #[.string s] w fun e w' => ∃ g, e = .returned (.pointer (some ⟨g, 0, none⟩)) ∧ w.heap.size + 1 ≤ g ∧ RW g s 0 w' ∧ Below w.heap.size w w' := by
  obtain ⟨cap, W1, hcv, hT, hb, hz⟩ := bytesT_start s w hs
  have hal := Below.alloc hb (by rw [hz]; omega) (.cells #[.slice (some ⟨w.heap.size, 0, none⟩) s.size cap, .int .i64 0] 59)
  have HT : Hid (∃ g, g = W1.heap.size ∧ w.heap.size + 1 ≤ g ∧ RW g s 0 (W1.alloc (.cells #[.slice (some ⟨w.heap.size, 0, none⟩) s.size cap, .int .i64 0] 59))) := Lib.hid ⟨_, rfl, by rw [hz]; omega, _, _, _, Blk.new W1 _ _, fun _ => ⟨hT.below ((Below.refl _ _).alloc (Nat.le_refl _) _), fun a ha => by cases ha; exact hz.symm⟩, fun h => absurd rfl h⟩
  have HB := Lib.hid hal
  clear hT hb hz hal
  go_enter Try.func18, Try.ntmps18
  go_wp2_with fail
  go_ret
  obtain ⟨g, rfl, h1, h2⟩ := HT.out
  exact ⟨_, rfl, h1, h2, HB.out⟩
theorem take_end {g m cap n : Nat} {p q : Option Addr} {B : ByteArray} {w w4 : World} (hm : n ≤ B.size) (hT : TS p m cap B w4 ∧ ∀ a, p = some a → a.block + 1 = g) (hb : Blk w4 g 59 #[.slice p m cap, .int .i64 0]) (hr : Ho g w w4) (hq : q = p ∧ cap - n = 0 ∨ q = p.map (·.add n)) :
    Ho g w (w4.setCell ⟨g, 0, none⟩ (.slice q (m - n) (cap - n))) ∧ ∃ p' m' cap', Ending.returned (.slice p n cap) = .returned (.slice p' m' cap') ∧ TS p' m' cap' (B.extract 0 n) (w4.setCell ⟨g, 0, none⟩ (.slice q (m - n) (cap - n))) ∧ (∀ a, p' = some a → a.block ≠ g) ∧ RW g (B.extract n m) 0 (w4.setCell ⟨g, 0, none⟩ (.slice q (m - n) (cap - n))) := by
  have hl := hT.1.len
  have hs : Ho g w4 (w4.setCell ⟨g, 0, none⟩ (.slice q (m - n) (cap - n))) := (Ho.refl g w4).set 0 _
  have hne : ∀ a, p = some a → a.block ≠ g := fun a ha => by have := hT.2 a ha; omega
  have hq2 : ∀ a, q = some a → a.block + 1 = g := fun a ha => by
    rcases hq with ⟨rfl, _⟩ | rfl
    · exact hT.2 a ha
    · cases p with
      | none => cases ha
      | some b => cases ha; rw [add_block]; exact hT.2 b rfl
  exact ⟨hr.trans hs, p, n, cap, rfl, (hT.1.first n (by omega)).ho hs hne, hne, q, _, _, hb.set_ 0 _, fun _ => ⟨(hT.1.tail n (by omega) hq).ho hs fun a ha => by have := hq2 a ha; omega, hq2⟩, fun e => absurd rfl e⟩
set_option maxRecDepth 100000 in
theorem take_err (g : Nat) (B : ByteArray) (E : Nat) (n : Int) (w : World) (h : RW g B E w) (hE : E ≠ 0) :
    Calls Try.prog 31 #[.pointer (some ⟨g, 0, none⟩), .int .i64 n] w fun e w' => Ho g w w' ∧ ∃ p m cap, e = .returned (.slice p m cap) ∧ TS p m cap (rawW B E n).1 w' ∧ (∀ a, p = some a → a.block ≠ g) ∧ RW g (rawW B E n).2.1 (rawW B E n).2.2 w' := by
  obtain ⟨p, m, cap, hb, _, h3⟩ := h
  obtain ⟨rfl, rfl, rfl⟩ := h3 hE
  have hr : rawW B E n = (⟨#[]⟩, B, E) := by unfold rawW; rw [if_pos hE]
  rw [hr]
  have C := fun b => needs_err g _ _ (E : Int) 1 b w.drew hb.drew (by omega)
  have HF : Hid (Ho g w w.drew ∧ TS none 0 0 ⟨#[]⟩ w.drew ∧ RW g B E w.drew) := Lib.hid ⟨(Ho.refl g w).drew, TS.none_ _, none, 0, 0, hb.drew, fun e => absurd e hE, fun _ => ⟨rfl, rfl, rfl⟩⟩
  clear h3 hr hE
  go_enter Try.func31, Try.ntmps31
  go_wp2_with fail
  refine heldT_start (by kernel_rfl) ?_
  change wpAnyH _ _ _ _ _ _ _ _ w.drew
  generalize w.drew = w2 at C HF ⊢
  refine heldT_take (i := 0) (v := .pointer (some ⟨g, 0, none⟩)) rfl (by kernel_rfl) (by kernel_rfl) (by kernel_rfl) (fun _ _ _ h => h) rfl (fun wx => ?_) ?_
  · go_simp; skip
  simp only [pu]
  refine heldT_take (i := 1) (v := .pointer (some ⟨g, 0, none⟩)) rfl (by kernel_rfl) (by kernel_rfl) (by kernel_rfl) (fun _ _ _ h => h) rfl (fun wx => ?_) ?_
  · go_simp; skip
  simp only [pu]
  refine heldT_take (i := 2) (v := .pointer (some ⟨g, 0, none⟩)) rfl (by kernel_rfl) (by kernel_rfl) (by kernel_rfl) (fun _ _ _ h => h) rfl (fun wx => ?_) ?_
  · go_simp; skip
  simp only [pu]
  refine heldT_take (i := 3) (v := .int .i64 n) rfl (by kernel_rfl) (by kernel_rfl) (by kernel_rfl) (fun _ _ _ h => h) rfl (fun wx => ?_) ?_
  · go_simp; skip
  simp only [pu]
  refine heldT_take (i := 4) (v := .bool (decide (0 ≤ n))) rfl (by kernel_rfl) (by kernel_rfl) (by kernel_rfl) (fun _ _ _ h => h) rfl (fun wx => ?_) ?_
  · go_simp; skip
  simp only [pu]
  refine heldT_call (i := 5) (f := 30) (by kernel_rfl) rfl rfl (by go_simp; skip) ((C (decide (0 ≤ n))).mono ?_)
  rintro e w3 ⟨rfl, rfl⟩
  refine ⟨_, rfl, ?_⟩
  simp only [pu]
  refine heldT_take (i := 6) (v := .bool true) rfl (by kernel_rfl) (by kernel_rfl) (by kernel_rfl) (fun _ _ _ h => h) rfl (fun wx => ?_) ?_
  · go_simp; skip
  simp only [pu]
  refine heldT_take (i := 7) (v := .bool true) rfl (by kernel_rfl) (by kernel_rfl) (by kernel_rfl) (fun _ _ _ h => h) rfl (fun wx => ?_) ?_
  · go_simp; skip
  simp only [pu]
  refine heldT_skip (i := 8) rfl (by kernel_rfl) (by kernel_rfl) (by kernel_rfl) (fun _ _ _ h => h) rfl ?_
  simp only [pu]
  refine heldT_skip (i := 9) rfl (by kernel_rfl) (by kernel_rfl) (by kernel_rfl) (fun _ _ _ h => h) rfl ?_
  simp only [pu]
  refine heldT_skip (i := 10) rfl (by kernel_rfl) (by kernel_rfl) (by kernel_rfl) (fun _ _ _ h => h) rfl ?_
  simp only [pu]
  refine heldT_skip (i := 11) rfl (by kernel_rfl) (by kernel_rfl) (by kernel_rfl) (fun _ _ _ h => h) rfl ?_
  simp only [pu]
  refine heldT_skip (i := 12) rfl (by kernel_rfl) (by kernel_rfl) (by kernel_rfl) (fun _ _ _ h => h) rfl ?_
  simp only [pu]
  refine heldT_skip (i := 13) rfl (by kernel_rfl) (by kernel_rfl) (by kernel_rfl) (fun _ _ _ h => h) rfl ?_
  simp only [pu]
  refine heldT_skip (i := 14) rfl (by kernel_rfl) (by kernel_rfl) (by kernel_rfl) (fun _ _ _ h => h) rfl ?_
  simp only [pu]
  refine heldT_skip (i := 15) rfl (by kernel_rfl) (by kernel_rfl) (by kernel_rfl) (fun _ _ _ h => h) rfl ?_
  simp only [pu]
  refine heldT_skip (i := 16) rfl (by kernel_rfl) (by kernel_rfl) (by kernel_rfl) (fun _ _ _ h => h) rfl ?_
  simp only [pu]
  refine heldT_skip (i := 17) rfl (by kernel_rfl) (by kernel_rfl) (by kernel_rfl) (fun _ _ _ h => h) rfl ?_
  simp only [pu]
  refine heldT_skip (i := 18) rfl (by kernel_rfl) (by kernel_rfl) (by kernel_rfl) (fun _ _ _ h => h) rfl ?_
  simp only [pu]
  refine heldT_skip (i := 19) rfl (by kernel_rfl) (by kernel_rfl) (by kernel_rfl) (fun _ _ _ h => h) rfl ?_
  simp only [pu]
  refine heldT_skip (i := 20) rfl (by kernel_rfl) (by kernel_rfl) (by kernel_rfl) (fun _ _ _ h => h) rfl ?_
  simp only [pu]
  refine heldT_take (i := 21) (v := .bool true) rfl (by kernel_rfl) (by kernel_rfl) (by kernel_rfl) (fun _ _ _ h => h) rfl (fun wx => ?_) ?_
  · go_simp; skip
  simp only [pu]
  refine wpAnyH_done (by kernel_rfl) ?_ _
  go_wp2_with fail
  go_ret
  exact ⟨HF.out.1, none, 0, 0, rfl, HF.out.2.1, (fun a e => by cases e), HF.out.2.2⟩
set_option maxRecDepth 100000 in
theorem take_neg (g : Nat) (B : ByteArray) (n : Int) (w : World) (h : RW g B 0 w) (hn : n < 0) :
    Calls Try.prog 31 #[.pointer (some ⟨g, 0, none⟩), .int .i64 n] w fun e w' => Ho g w w' ∧ ∃ p m cap, e = .returned (.slice p m cap) ∧ TS p m cap (rawW B 0 n).1 w' ∧ (∀ a, p = some a → a.block ≠ g) ∧ RW g (rawW B 0 n).2.1 (rawW B 0 n).2.2 w' := by
  obtain ⟨p, m, cap, hb, _, _⟩ := h
  have hr : rawW B 0 n = (⟨#[]⟩, B, 1) := by unfold rawW; rw [if_neg (by decide), if_pos hn]
  rw [hr]
  have hb : Blk w.drew g 59 #[.slice p m cap, .int .i64 0] := hb.drew
  have C := needs_bad g _ _ 1 w.drew hb (by decide)
  have HF : Hid (Ho g w (w.drew.setRow g #[.slice none 0 0, .int .i64 1]) ∧ TS none 0 0 ⟨#[]⟩ (w.drew.setRow g #[.slice none 0 0, .int .i64 1]) ∧ RW g B 1 (w.drew.setRow g #[.slice none 0 0, .int .i64 1])) := Lib.hid ⟨(Ho.refl g w).drew.row _, TS.none_ _, none, 0, 0, hb.row_ _, (fun e => by cases e), fun _ => ⟨rfl, rfl, rfl⟩⟩
  have hn0 : ¬ n ≥ 0 := by omega
  clear hr
  go_enter Try.func31, Try.ntmps31
  go_wp2_with fail
  refine heldT_start (by kernel_rfl) ?_
  change wpAnyH _ _ _ _ _ _ _ _ w.drew
  generalize w.drew = w2 at C HF ⊢
  refine heldT_take (i := 0) (v := .pointer (some ⟨g, 0, none⟩)) rfl (by kernel_rfl) (by kernel_rfl) (by kernel_rfl) (fun _ _ _ h => h) rfl (fun wx => ?_) ?_
  · go_simp; skip
  simp only [pu]
  refine heldT_take (i := 1) (v := .pointer (some ⟨g, 0, none⟩)) rfl (by kernel_rfl) (by kernel_rfl) (by kernel_rfl) (fun _ _ _ h => h) rfl (fun wx => ?_) ?_
  · go_simp; skip
  simp only [pu]
  refine heldT_take (i := 2) (v := .pointer (some ⟨g, 0, none⟩)) rfl (by kernel_rfl) (by kernel_rfl) (by kernel_rfl) (fun _ _ _ h => h) rfl (fun wx => ?_) ?_
  · go_simp; skip
  simp only [pu]
  refine heldT_take (i := 3) (v := .int .i64 n) rfl (by kernel_rfl) (by kernel_rfl) (by kernel_rfl) (fun _ _ _ h => h) rfl (fun wx => ?_) ?_
  · go_simp; skip
  simp only [pu]
  refine heldT_take (i := 4) (v := .bool false) rfl (by kernel_rfl) (by kernel_rfl) (by kernel_rfl) (fun _ _ _ h => h) rfl (fun wx => ?_) ?_
  · go_simp; skip
  simp only [pu]
  refine heldT_call (i := 5) (f := 30) (by kernel_rfl) rfl rfl (by go_simp; skip) ((C).mono ?_)
  rintro e w3 ⟨rfl, rfl⟩
  refine ⟨_, rfl, ?_⟩
  simp only [pu]
  refine heldT_take (i := 6) (v := .bool true) rfl (by kernel_rfl) (by kernel_rfl) (by kernel_rfl) (fun _ _ _ h => h) rfl (fun wx => ?_) ?_
  · go_simp; skip
  simp only [pu]
  refine heldT_take (i := 7) (v := .bool true) rfl (by kernel_rfl) (by kernel_rfl) (by kernel_rfl) (fun _ _ _ h => h) rfl (fun wx => ?_) ?_
  · go_simp; skip
  simp only [pu]
  refine heldT_skip (i := 8) rfl (by kernel_rfl) (by kernel_rfl) (by kernel_rfl) (fun _ _ _ h => h) rfl ?_
  simp only [pu]
  refine heldT_skip (i := 9) rfl (by kernel_rfl) (by kernel_rfl) (by kernel_rfl) (fun _ _ _ h => h) rfl ?_
  simp only [pu]
  refine heldT_skip (i := 10) rfl (by kernel_rfl) (by kernel_rfl) (by kernel_rfl) (fun _ _ _ h => h) rfl ?_
  simp only [pu]
  refine heldT_skip (i := 11) rfl (by kernel_rfl) (by kernel_rfl) (by kernel_rfl) (fun _ _ _ h => h) rfl ?_
  simp only [pu]
  refine heldT_skip (i := 12) rfl (by kernel_rfl) (by kernel_rfl) (by kernel_rfl) (fun _ _ _ h => h) rfl ?_
  simp only [pu]
  refine heldT_skip (i := 13) rfl (by kernel_rfl) (by kernel_rfl) (by kernel_rfl) (fun _ _ _ h => h) rfl ?_
  simp only [pu]
  refine heldT_skip (i := 14) rfl (by kernel_rfl) (by kernel_rfl) (by kernel_rfl) (fun _ _ _ h => h) rfl ?_
  simp only [pu]
  refine heldT_skip (i := 15) rfl (by kernel_rfl) (by kernel_rfl) (by kernel_rfl) (fun _ _ _ h => h) rfl ?_
  simp only [pu]
  refine heldT_skip (i := 16) rfl (by kernel_rfl) (by kernel_rfl) (by kernel_rfl) (fun _ _ _ h => h) rfl ?_
  simp only [pu]
  refine heldT_skip (i := 17) rfl (by kernel_rfl) (by kernel_rfl) (by kernel_rfl) (fun _ _ _ h => h) rfl ?_
  simp only [pu]
  refine heldT_skip (i := 18) rfl (by kernel_rfl) (by kernel_rfl) (by kernel_rfl) (fun _ _ _ h => h) rfl ?_
  simp only [pu]
  refine heldT_skip (i := 19) rfl (by kernel_rfl) (by kernel_rfl) (by kernel_rfl) (fun _ _ _ h => h) rfl ?_
  simp only [pu]
  refine heldT_skip (i := 20) rfl (by kernel_rfl) (by kernel_rfl) (by kernel_rfl) (fun _ _ _ h => h) rfl ?_
  simp only [pu]
  refine heldT_take (i := 21) (v := .bool true) rfl (by kernel_rfl) (by kernel_rfl) (by kernel_rfl) (fun _ _ _ h => h) rfl (fun wx => ?_) ?_
  · go_simp; skip
  simp only [pu]
  refine wpAnyH_done (by kernel_rfl) ?_ _
  go_wp2_with fail
  go_ret
  exact ⟨HF.out.1, none, 0, 0, rfl, HF.out.2.1, (fun a e => by cases e), HF.out.2.2⟩
set_option maxRecDepth 100000 in
theorem take_more (g : Nat) (B : ByteArray) (n : Int) (w : World) (h : RW g B 0 w) (hn : 0 ≤ n) (hm : (B.size : Int) < n) :
    Calls Try.prog 31 #[.pointer (some ⟨g, 0, none⟩), .int .i64 n] w fun e w' => Ho g w w' ∧ ∃ p m cap, e = .returned (.slice p m cap) ∧ TS p m cap (rawW B 0 n).1 w' ∧ (∀ a, p = some a → a.block ≠ g) ∧ RW g (rawW B 0 n).2.1 (rawW B 0 n).2.2 w' := by
  obtain ⟨p, m, cap, hb, h2, _⟩ := h
  have hr : rawW B 0 n = (⟨#[]⟩, B, 2) := by unfold rawW; rw [if_neg (by decide), if_neg (by omega), if_pos hm]
  rw [hr]
  have hl := (h2 rfl).1.len
  have hb : Blk w.drew g 59 #[.slice p m cap, .int .i64 0] := hb.drew
  have C := needs_ok g _ _ 1 w.drew hb
  have C2 := needs_bad g _ _ 2 w.drew hb (by decide)
  have c0 : w.drew.cell? ⟨g, 0, none⟩ = some (.slice p m cap) := hb.cell 0
  have HF : Hid (Ho g w (w.drew.setRow g #[.slice none 0 0, .int .i64 2]) ∧ TS none 0 0 ⟨#[]⟩ (w.drew.setRow g #[.slice none 0 0, .int .i64 2]) ∧ RW g B 2 (w.drew.setRow g #[.slice none 0 0, .int .i64 2])) := Lib.hid ⟨(Ho.refl g w).drew.row _, TS.none_ _, none, 0, 0, hb.row_ _, (fun e => by cases e), fun _ => ⟨rfl, rfl, rfl⟩⟩
  have hn0 : n ≥ 0 := hn
  have hle : ¬ n ≤ (m : Int) := by omega
  clear hr hb h2 hm hl hn
  go_enter Try.func31, Try.ntmps31
  go_wp2_with fail
  refine heldT_start (by kernel_rfl) ?_
  change wpAnyH _ _ _ _ _ _ _ _ w.drew
  generalize w.drew = w2 at C C2 HF c0 ⊢
  refine heldT_take (i := 0) (v := .pointer (some ⟨g, 0, none⟩)) rfl (by kernel_rfl) (by kernel_rfl) (by kernel_rfl) (fun _ _ _ h => h) rfl (fun wx => ?_) ?_
  · go_simp; skip
  simp only [pu]
  refine heldT_take (i := 1) (v := .pointer (some ⟨g, 0, none⟩)) rfl (by kernel_rfl) (by kernel_rfl) (by kernel_rfl) (fun _ _ _ h => h) rfl (fun wx => ?_) ?_
  · go_simp; skip
  simp only [pu]
  refine heldT_take (i := 2) (v := .pointer (some ⟨g, 0, none⟩)) rfl (by kernel_rfl) (by kernel_rfl) (by kernel_rfl) (fun _ _ _ h => h) rfl (fun wx => ?_) ?_
  · go_simp; skip
  simp only [pu]
  refine heldT_take (i := 3) (v := .int .i64 n) rfl (by kernel_rfl) (by kernel_rfl) (by kernel_rfl) (fun _ _ _ h => h) rfl (fun wx => ?_) ?_
  · go_simp; skip
  simp only [pu]
  refine heldT_take (i := 4) (v := .bool true) rfl (by kernel_rfl) (by kernel_rfl) (by kernel_rfl) (fun _ _ _ h => h) rfl (fun wx => ?_) ?_
  · go_simp; skip
  simp only [pu]
  refine heldT_call (i := 5) (f := 30) (by kernel_rfl) rfl rfl (by go_simp; skip) ((C).mono ?_)
  rintro e w3 ⟨rfl, rfl⟩
  refine ⟨_, rfl, ?_⟩
  simp only [pu]
  refine heldT_take (i := 6) (v := .bool false) rfl (by kernel_rfl) (by kernel_rfl) (by kernel_rfl) (fun _ _ _ h => h) rfl (fun wx => ?_) ?_
  · go_simp; skip
  simp only [pu]
  refine heldT_take (i := 7) (v := .bool false) rfl (by kernel_rfl) (by kernel_rfl) (by kernel_rfl) (fun _ _ _ h => h) rfl (fun wx => ?_) ?_
  · go_simp; skip
  simp only [pu]
  refine heldT_take (i := 8) (v := .pointer (some ⟨g, 0, none⟩)) rfl (by kernel_rfl) (by kernel_rfl) (by kernel_rfl) (fun _ _ _ h => h) rfl (fun wx => ?_) ?_
  · go_simp; skip
  simp only [pu]
  refine heldT_take (i := 9) (v := .pointer (some ⟨g, 0, none⟩)) rfl (by kernel_rfl) (by kernel_rfl) (by kernel_rfl) (fun _ _ _ h => h) rfl (fun wx => ?_) ?_
  · go_simp; skip
  simp only [pu]
  refine heldT_take (i := 10) (v := .pointer (some ⟨g, 0, none⟩)) rfl (by kernel_rfl) (by kernel_rfl) (by kernel_rfl) (fun _ _ _ h => h) rfl (fun wx => ?_) ?_
  · go_simp; skip
  simp only [pu]
  refine heldT_take (i := 11) (v := .int .i64 n) rfl (by kernel_rfl) (by kernel_rfl) (by kernel_rfl) (fun _ _ _ h => h) rfl (fun wx => ?_) ?_
  · go_simp; skip
  simp only [pu]
  refine heldT_take (i := 12) (v := .pointer (some ⟨g, 0, none⟩)) rfl (by kernel_rfl) (by kernel_rfl) (by kernel_rfl) (fun _ _ _ h => h) rfl (fun wx => ?_) ?_
  · go_simp; skip
  simp only [pu]
  refine heldT_take (i := 13) (v := .pointer (some ⟨g, 0, none⟩)) rfl (by kernel_rfl) (by kernel_rfl) (by kernel_rfl) (fun _ _ _ h => h) rfl (fun wx => ?_) ?_
  · go_simp; skip
  simp only [pu]
  refine heldT_take (i := 14) (v := .pointer (some ⟨g, 0, none⟩)) rfl (by kernel_rfl) (by kernel_rfl) (by kernel_rfl) (fun _ _ _ h => h) rfl (fun wx => ?_) ?_
  · go_simp; skip
  simp only [pu]
  refine heldT_take (i := 15) (v := .pointer (some ⟨g, 0, none⟩)) rfl (by kernel_rfl) (by kernel_rfl) (by kernel_rfl) (fun _ _ _ h => h) rfl (fun wx => ?_) ?_
  · go_simp; skip
  simp only [pu]
  refine heldT_lands (i := 16) (v := .slice p m cap) (R := fun wx => wx = w3) (by kernel_rfl) rfl rfl (by refine lands_value (w := w3) ?_ rfl; go_simp; skip) ?_
  rintro _ rfl
  simp only [pu]
  refine heldT_take (i := 17) (v := .int .i64 (m : Int)) rfl (by kernel_rfl) (by kernel_rfl) (by kernel_rfl) (fun _ _ _ h => h) rfl (fun wx => ?_) ?_
  · go_simp; skip
  simp only [pu]
  refine heldT_take (i := 18) (v := .bool false) rfl (by kernel_rfl) (by kernel_rfl) (by kernel_rfl) (fun _ _ _ h => h) rfl (fun wx => ?_) ?_
  · go_simp; skip
  simp only [pu]
  refine heldT_call (i := 19) (f := 30) (by kernel_rfl) rfl rfl (by go_simp; skip) ((C2).mono ?_)
  rintro e w4 ⟨rfl, rfl⟩
  refine ⟨_, rfl, ?_⟩
  simp only [pu]
  refine heldT_take (i := 20) (v := .bool true) rfl (by kernel_rfl) (by kernel_rfl) (by kernel_rfl) (fun _ _ _ h => h) rfl (fun wx => ?_) ?_
  · go_simp; skip
  simp only [pu]
  refine heldT_take (i := 21) (v := .bool true) rfl (by kernel_rfl) (by kernel_rfl) (by kernel_rfl) (fun _ _ _ h => h) rfl (fun wx => ?_) ?_
  · go_simp; skip
  simp only [pu]
  refine wpAnyH_done (by kernel_rfl) ?_ _
  go_wp2_with fail
  go_ret
  exact ⟨HF.out.1, none, 0, 0, rfl, HF.out.2.1, (fun a e => by cases e), HF.out.2.2⟩
set_option maxRecDepth 100000 in
theorem take_ok (g : Nat) (B : ByteArray) (n : Nat) (w : World) (h : RW g B 0 w) (hm : n ≤ B.size) :
    Calls Try.prog 31 #[.pointer (some ⟨g, 0, none⟩), .int .i64 (n : Int)] w fun e w' => Ho g w w' ∧ ∃ p m cap, e = .returned (.slice p m cap) ∧ TS p m cap (rawW B 0 (n : Int)).1 w' ∧ (∀ a, p = some a → a.block ≠ g) ∧ RW g (rawW B 0 (n : Int)).2.1 (rawW B 0 (n : Int)).2.2 w' := by
  obtain ⟨p, m, cap, hb, h2, _⟩ := h
  have hr : rawW B 0 (n : Int) = (B.extract 0 n, B.extract n B.size, 0) := by unfold rawW; rw [if_neg (by decide), if_neg (by omega), if_neg (by omega), Int.toNat_natCast]
  rw [hr]
  have HT := Lib.hid (h2 rfl)
  have hl := HT.out.1.len
  have hcap := HT.out.1.le
  have hb : Blk w.drew g 59 #[.slice p m cap, .int .i64 0] := hb.drew
  have C := needs_ok g _ _ 1 w.drew hb
  have C2 := needs_ok g _ _ 2 w.drew hb
  have c0 : w.drew.cell? ⟨g, 0, none⟩ = some (.slice p m cap) := hb.cell 0
  have f0 := hb.frozen 0
  have HB := Lib.hid hb
  have HR := Lib.hid ((Ho.refl g w).drew)
  have hn0 : (n : Int) ≥ 0 := by omega
  have hle : (n : Int) ≤ (m : Int) := by omega
  have hlc : (n : Int) ≤ (cap : Int) := by omega
  have hmc : (m : Int) ≤ (cap : Int) := by omega
  clear hr hb h2 hcap
  go_enter Try.func31, Try.ntmps31
  go_wp2_with fail
  refine heldT_start (by kernel_rfl) ?_
  change wpAnyH _ _ _ _ _ _ _ _ w.drew
  have HT : Hid (TS p m cap B w.drew ∧ ∀ a, p = some a → a.block + 1 = g) := Lib.hid ⟨HT.out.1.below ((Below.refl _ _).drew), HT.out.2⟩
  generalize w.drew = w2 at C C2 HB HR HT c0 f0 ⊢
  refine heldT_take (i := 0) (v := .pointer (some ⟨g, 0, none⟩)) rfl (by kernel_rfl) (by kernel_rfl) (by kernel_rfl) (fun _ _ _ h => h) rfl (fun wx => ?_) ?_
  · go_simp; skip
  simp only [pu]
  refine heldT_take (i := 1) (v := .pointer (some ⟨g, 0, none⟩)) rfl (by kernel_rfl) (by kernel_rfl) (by kernel_rfl) (fun _ _ _ h => h) rfl (fun wx => ?_) ?_
  · go_simp; skip
  simp only [pu]
  refine heldT_take (i := 2) (v := .pointer (some ⟨g, 0, none⟩)) rfl (by kernel_rfl) (by kernel_rfl) (by kernel_rfl) (fun _ _ _ h => h) rfl (fun wx => ?_) ?_
  · go_simp; skip
  simp only [pu]
  refine heldT_take (i := 3) (v := .int .i64 (n : Int)) rfl (by kernel_rfl) (by kernel_rfl) (by kernel_rfl) (fun _ _ _ h => h) rfl (fun wx => ?_) ?_
  · go_simp; skip
  simp only [pu]
  refine heldT_take (i := 4) (v := .bool true) rfl (by kernel_rfl) (by kernel_rfl) (by kernel_rfl) (fun _ _ _ h => h) rfl (fun wx => ?_) ?_
  · go_simp; skip
  simp only [pu]
  refine heldT_call (i := 5) (f := 30) (by kernel_rfl) rfl rfl (by go_simp; skip) ((C).mono ?_)
  rintro e w3 ⟨rfl, rfl⟩
  refine ⟨_, rfl, ?_⟩
  simp only [pu]
  refine heldT_take (i := 6) (v := .bool false) rfl (by kernel_rfl) (by kernel_rfl) (by kernel_rfl) (fun _ _ _ h => h) rfl (fun wx => ?_) ?_
  · go_simp; skip
  simp only [pu]
  refine heldT_take (i := 7) (v := .bool false) rfl (by kernel_rfl) (by kernel_rfl) (by kernel_rfl) (fun _ _ _ h => h) rfl (fun wx => ?_) ?_
  · go_simp; skip
  simp only [pu]
  refine heldT_take (i := 8) (v := .pointer (some ⟨g, 0, none⟩)) rfl (by kernel_rfl) (by kernel_rfl) (by kernel_rfl) (fun _ _ _ h => h) rfl (fun wx => ?_) ?_
  · go_simp; skip
  simp only [pu]
  refine heldT_take (i := 9) (v := .pointer (some ⟨g, 0, none⟩)) rfl (by kernel_rfl) (by kernel_rfl) (by kernel_rfl) (fun _ _ _ h => h) rfl (fun wx => ?_) ?_
  · go_simp; skip
  simp only [pu]
  refine heldT_take (i := 10) (v := .pointer (some ⟨g, 0, none⟩)) rfl (by kernel_rfl) (by kernel_rfl) (by kernel_rfl) (fun _ _ _ h => h) rfl (fun wx => ?_) ?_
  · go_simp; skip
  simp only [pu]
  refine heldT_take (i := 11) (v := .int .i64 (n : Int)) rfl (by kernel_rfl) (by kernel_rfl) (by kernel_rfl) (fun _ _ _ h => h) rfl (fun wx => ?_) ?_
  · go_simp; skip
  simp only [pu]
  refine heldT_take (i := 12) (v := .pointer (some ⟨g, 0, none⟩)) rfl (by kernel_rfl) (by kernel_rfl) (by kernel_rfl) (fun _ _ _ h => h) rfl (fun wx => ?_) ?_
  · go_simp; skip
  simp only [pu]
  refine heldT_take (i := 13) (v := .pointer (some ⟨g, 0, none⟩)) rfl (by kernel_rfl) (by kernel_rfl) (by kernel_rfl) (fun _ _ _ h => h) rfl (fun wx => ?_) ?_
  · go_simp; skip
  simp only [pu]
  refine heldT_take (i := 14) (v := .pointer (some ⟨g, 0, none⟩)) rfl (by kernel_rfl) (by kernel_rfl) (by kernel_rfl) (fun _ _ _ h => h) rfl (fun wx => ?_) ?_
  · go_simp; skip
  simp only [pu]
  refine heldT_take (i := 15) (v := .pointer (some ⟨g, 0, none⟩)) rfl (by kernel_rfl) (by kernel_rfl) (by kernel_rfl) (fun _ _ _ h => h) rfl (fun wx => ?_) ?_
  · go_simp; skip
  simp only [pu]
  refine heldT_lands (i := 16) (v := .slice p m cap) (R := fun wx => wx = w3) (by kernel_rfl) rfl rfl (by refine lands_value (w := w3) ?_ rfl; go_simp; skip) ?_
  rintro _ rfl
  simp only [pu]
  refine heldT_take (i := 17) (v := .int .i64 (m : Int)) rfl (by kernel_rfl) (by kernel_rfl) (by kernel_rfl) (fun _ _ _ h => h) rfl (fun wx => ?_) ?_
  · go_simp; skip
  simp only [pu]
  refine heldT_take (i := 18) (v := .bool true) rfl (by kernel_rfl) (by kernel_rfl) (by kernel_rfl) (fun _ _ _ h => h) rfl (fun wx => ?_) ?_
  · go_simp; skip
  simp only [pu]
  refine heldT_call (i := 19) (f := 30) (by kernel_rfl) rfl rfl (by go_simp; skip) ((C2).mono ?_)
  rintro e w4 ⟨rfl, rfl⟩
  refine ⟨_, rfl, ?_⟩
  simp only [pu]
  refine heldT_take (i := 20) (v := .bool false) rfl (by kernel_rfl) (by kernel_rfl) (by kernel_rfl) (fun _ _ _ h => h) rfl (fun wx => ?_) ?_
  · go_simp; skip
  simp only [pu]
  refine heldT_take (i := 21) (v := .bool false) rfl (by kernel_rfl) (by kernel_rfl) (by kernel_rfl) (fun _ _ _ h => h) rfl (fun wx => ?_) ?_
  · go_simp; skip
  simp only [pu]
  refine wpAnyH_done (by kernel_rfl) ?_ _
  go_wp2_with fail
  · go_ret
    obtain rfl : cap = n := by omega
    have h0 : cap - cap = 0 := by omega
    have k := take_end (q := p) hm HT.out HB.out HR.out (.inl ⟨rfl, h0⟩)
    rw [h0] at k
    exact k
  · go_ret
    exact take_end hm HT.out HB.out HR.out (.inr rfl)
end Go.Proofs.Ytfheedpoaomfeaa
