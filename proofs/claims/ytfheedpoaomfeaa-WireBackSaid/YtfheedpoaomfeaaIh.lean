/- The developers' writer of chapter 13: numbers. -/
import Derived.Test.YtfheedpoaomfeaaIg
namespace Go.Proofs.Ytfheedpoaomfeaa
open Go.RowKit
theorem WW.drew {g : Nat} {v : Value} {B : ByteArray} {E : Nat} {w : World} (h : WW g v B E w) : WW g v B E w.drew := h.below ((Below.refl _ _).drew)
theorem shift_be (n s : Nat) (h : s ≤ 7) : Op.shift .shr .i64 (n : Int) .i64 (8 * (s : Int)) = pure (.int .i64 ((n / 256 ^ s : Nat) : Int)) := by
  rw [shift_shr .i64 .i64 (n : Int) (8 * (s : Int)) (by omega) (by show _ ≤ ((64 : Nat) : Int); omega)]
  have e : (8 * (s : Int)).toNat = 8 * s := by omega
  have e2 : (256 : Nat) ^ s = 2 ^ (8 * s) := by rw [show (256 : Nat) = 2 ^ 8 from rfl, ← Nat.pow_mul]
  rw [e, e2]
  simp
set_option maxRecDepth 100000 in
theorem numP_no (g : Nat) (v : Value) (B : ByteArray) (E : Nat) (n s : Int) (w : World) (h : WW g v B E w) (hn : E ≠ 0 ∨ ¬ (1 ≤ s ∧ s ≤ 7)) :
    Calls Try.prog 11 #[.pointer (some ⟨g, 0, none⟩), .int .i64 n, .int .i64 s] w fun e w' => e = .returned (.tuple #[]) ∧ ∃ v', WW g v' (numP B E n s).1 (numP B E n s).2 w' ∧ Gg g v w v' w' := by
  have C : Calls Try.prog 29 #[.pointer (some ⟨g, 0, none⟩), .int .i64 s] w.drew fun r w' => r = .returned (.bool false) ∧ ∃ v', WW g v' (numP B E n s).1 (numP B E n s).2 w' ∧ Gg g v w v' w' := by
    by_cases hE : E = 0
    · subst hE
      have hs : ¬ (1 ≤ s ∧ s ≤ 7) := hn.resolve_left (by decide)
      have hr : numP B 0 n s = (⟨#[]⟩, 1) := by unfold numP; rw [if_neg (by decide), if_pos (.inl hs)]
      rw [hr]
      refine (size_bad g _ _ s w.drew h.drew.blk hs).mono ?_
      rintro e w1 ⟨rfl, rfl⟩
      exact ⟨rfl, _, WW.fail h.drew.blk 1, (Gg.refl g v w).drew.row _⟩
    · have hr : numP B E n s = (B, E) := by unfold numP; rw [if_pos hE]
      rw [hr]
      refine (size_err g _ _ (E : Int) s w.drew h.drew.blk (by omega)).mono ?_
      rintro e w1 ⟨rfl, rfl⟩
      exact ⟨rfl, _, h.drew, (Gg.refl g v w).drew⟩
  generalize numP B E n s = r at C ⊢
  clear h hn
  go_enter Try.func11, Try.ntmps11
  go_wp2_with fail
  refine heldT_start (by kernel_rfl) ?_
  change wpAnyH _ _ _ _ _ _ _ _ w.drew
  refine heldT_take (i := 0) (v := .pointer (some ⟨g, 0, none⟩)) rfl (by kernel_rfl) (by kernel_rfl) (by kernel_rfl) (fun _ _ _ h => h) rfl (fun wx => ?_) ?_
  · go_simp; skip
  simp only [pu]
  refine heldT_take (i := 1) (v := .pointer (some ⟨g, 0, none⟩)) rfl (by kernel_rfl) (by kernel_rfl) (by kernel_rfl) (fun _ _ _ h => h) rfl (fun wx => ?_) ?_
  · go_simp; skip
  simp only [pu]
  refine heldT_take (i := 2) (v := .pointer (some ⟨g, 0, none⟩)) rfl (by kernel_rfl) (by kernel_rfl) (by kernel_rfl) (fun _ _ _ h => h) rfl (fun wx => ?_) ?_
  · go_simp; skip
  simp only [pu]
  refine heldT_take (i := 3) (v := .int .i64 s) rfl (by kernel_rfl) (by kernel_rfl) (by kernel_rfl) (fun _ _ _ h => h) rfl (fun wx => ?_) ?_
  · go_simp; skip
  simp only [pu]
  refine heldT_call (i := 4) (f := 29) (by kernel_rfl) rfl rfl (by go_simp; skip) ((C).mono ?_)
  rintro e w3 ⟨rfl, HF⟩
  refine ⟨_, rfl, ?_⟩
  simp only [pu]
  refine heldT_take (i := 5) (v := .bool true) rfl (by kernel_rfl) (by kernel_rfl) (by kernel_rfl) (fun _ _ _ h => h) rfl (fun wx => ?_) ?_
  · go_simp; skip
  simp only [pu]
  refine heldT_take (i := 6) (v := .bool true) rfl (by kernel_rfl) (by kernel_rfl) (by kernel_rfl) (fun _ _ _ h => h) rfl (fun wx => ?_) ?_
  · go_simp; skip
  simp only [pu]
  refine heldT_skip (i := 7) rfl (by kernel_rfl) (by kernel_rfl) (by kernel_rfl) (fun _ _ _ h => h) rfl ?_
  simp only [pu]
  refine heldT_skip (i := 8) rfl (by kernel_rfl) (by kernel_rfl) (by kernel_rfl) (fun _ _ _ h => h) rfl ?_
  simp only [pu]
  refine heldT_skip (i := 9) rfl (by kernel_rfl) (by kernel_rfl) (by kernel_rfl) (fun _ _ _ h => h) rfl ?_
  simp only [pu]
  refine heldT_skip (i := 10) rfl (by kernel_rfl) (by kernel_rfl) (by kernel_rfl) (fun _ _ _ h => h) rfl ?_
  simp only [pu]
  refine heldT_skip (i := 11) rfl (by kernel_rfl) (by kernel_rfl) (by kernel_rfl) (fun _ _ _ h => h) rfl ?_
  simp only [pu]
  refine heldT_skip (i := 12) rfl (by kernel_rfl) (by kernel_rfl) (by kernel_rfl) (fun _ _ _ h => h) rfl ?_
  simp only [pu]
  refine heldT_skip (i := 13) rfl (by kernel_rfl) (by kernel_rfl) (by kernel_rfl) (fun _ _ _ h => h) rfl ?_
  simp only [pu]
  refine heldT_skip (i := 14) rfl (by kernel_rfl) (by kernel_rfl) (by kernel_rfl) (fun _ _ _ h => h) rfl ?_
  simp only [pu]
  refine heldT_skip (i := 15) rfl (by kernel_rfl) (by kernel_rfl) (by kernel_rfl) (fun _ _ _ h => h) rfl ?_
  simp only [pu]
  refine heldT_skip (i := 16) rfl (by kernel_rfl) (by kernel_rfl) (by kernel_rfl) (fun _ _ _ h => h) rfl ?_
  simp only [pu]
  refine heldT_skip (i := 17) rfl (by kernel_rfl) (by kernel_rfl) (by kernel_rfl) (fun _ _ _ h => h) rfl ?_
  simp only [pu]
  refine heldT_skip (i := 18) rfl (by kernel_rfl) (by kernel_rfl) (by kernel_rfl) (fun _ _ _ h => h) rfl ?_
  simp only [pu]
  refine heldT_skip (i := 19) rfl (by kernel_rfl) (by kernel_rfl) (by kernel_rfl) (fun _ _ _ h => h) rfl ?_
  simp only [pu]
  refine heldT_skip (i := 20) rfl (by kernel_rfl) (by kernel_rfl) (by kernel_rfl) (fun _ _ _ h => h) rfl ?_
  simp only [pu]
  refine heldT_take (i := 21) (v := .bool true) rfl (by kernel_rfl) (by kernel_rfl) (by kernel_rfl) (fun _ _ _ h => h) rfl (fun wx => ?_) ?_
  · go_simp; skip
  simp only [pu]
  refine wpAnyH_done (by kernel_rfl) ?_ _
  have HF := Lib.hid HF
  clear C
  go_wp2_with fail
  (try simp only [Exit.inBlock, Exit.then]); refine bodyPost_ret (results_none rfl _ _ _) rfl ?_
  exact ⟨rfl, HF.out⟩
set_option maxRecDepth 100000 in
theorem numP_neg (g : Nat) (v : Value) (B : ByteArray) (n s : Int) (w : World) (h : WW g v B 0 w) (hs : 1 ≤ s ∧ s ≤ 7) (hn : n < 0) :
    Calls Try.prog 11 #[.pointer (some ⟨g, 0, none⟩), .int .i64 n, .int .i64 s] w fun e w' => e = .returned (.tuple #[]) ∧ ∃ v', WW g v' (numP B 0 n s).1 (numP B 0 n s).2 w' ∧ Gg g v w v' w' := by
  have hr : numP B 0 n s = (⟨#[]⟩, 1) := by unfold numP; rw [if_neg (by decide), if_pos (.inr (.inl hn))]
  rw [hr]
  have C := size_ok g _ _ s w.drew h.drew.blk hs
  have C2 := needs_bad g _ _ 1 w.drew h.drew.blk (by decide)
  have HF : Hid (WW g (.slice none 0 0) ⟨#[]⟩ 1 (w.drew.setRow g #[.slice none 0 0, .int .i64 1]) ∧ Gg g v w (.slice none 0 0) (w.drew.setRow g #[.slice none 0 0, .int .i64 1])) := Lib.hid ⟨WW.fail h.drew.blk 1, (Gg.refl g v w).drew.row _⟩
  have hn0 : ¬ n ≥ 0 := by omega
  clear h hr hs
  go_enter Try.func11, Try.ntmps11
  go_wp2_with fail
  refine heldT_start (by kernel_rfl) ?_
  change wpAnyH _ _ _ _ _ _ _ _ w.drew
  generalize w.drew = w2 at C C2 HF ⊢
  refine heldT_take (i := 0) (v := .pointer (some ⟨g, 0, none⟩)) rfl (by kernel_rfl) (by kernel_rfl) (by kernel_rfl) (fun _ _ _ h => h) rfl (fun wx => ?_) ?_
  · go_simp; skip
  simp only [pu]
  refine heldT_take (i := 1) (v := .pointer (some ⟨g, 0, none⟩)) rfl (by kernel_rfl) (by kernel_rfl) (by kernel_rfl) (fun _ _ _ h => h) rfl (fun wx => ?_) ?_
  · go_simp; skip
  simp only [pu]
  refine heldT_take (i := 2) (v := .pointer (some ⟨g, 0, none⟩)) rfl (by kernel_rfl) (by kernel_rfl) (by kernel_rfl) (fun _ _ _ h => h) rfl (fun wx => ?_) ?_
  · go_simp; skip
  simp only [pu]
  refine heldT_take (i := 3) (v := .int .i64 s) rfl (by kernel_rfl) (by kernel_rfl) (by kernel_rfl) (fun _ _ _ h => h) rfl (fun wx => ?_) ?_
  · go_simp; skip
  simp only [pu]
  refine heldT_call (i := 4) (f := 29) (by kernel_rfl) rfl rfl (by go_simp; skip) ((C).mono ?_)
  rintro e w3 ⟨rfl, rfl⟩
  refine ⟨_, rfl, ?_⟩
  simp only [pu]
  refine heldT_take (i := 5) (v := .bool false) rfl (by kernel_rfl) (by kernel_rfl) (by kernel_rfl) (fun _ _ _ h => h) rfl (fun wx => ?_) ?_
  · go_simp; skip
  simp only [pu]
  refine heldT_take (i := 6) (v := .bool false) rfl (by kernel_rfl) (by kernel_rfl) (by kernel_rfl) (fun _ _ _ h => h) rfl (fun wx => ?_) ?_
  · go_simp; skip
  simp only [pu]
  refine heldT_take (i := 7) (v := .pointer (some ⟨g, 0, none⟩)) rfl (by kernel_rfl) (by kernel_rfl) (by kernel_rfl) (fun _ _ _ h => h) rfl (fun wx => ?_) ?_
  · go_simp; skip
  simp only [pu]
  refine heldT_take (i := 8) (v := .pointer (some ⟨g, 0, none⟩)) rfl (by kernel_rfl) (by kernel_rfl) (by kernel_rfl) (fun _ _ _ h => h) rfl (fun wx => ?_) ?_
  · go_simp; skip
  simp only [pu]
  refine heldT_take (i := 9) (v := .pointer (some ⟨g, 0, none⟩)) rfl (by kernel_rfl) (by kernel_rfl) (by kernel_rfl) (fun _ _ _ h => h) rfl (fun wx => ?_) ?_
  · go_simp; skip
  simp only [pu]
  refine heldT_take (i := 10) (v := .int .i64 n) rfl (by kernel_rfl) (by kernel_rfl) (by kernel_rfl) (fun _ _ _ h => h) rfl (fun wx => ?_) ?_
  · go_simp; skip
  simp only [pu]
  refine heldT_take (i := 11) (v := .bool false) rfl (by kernel_rfl) (by kernel_rfl) (by kernel_rfl) (fun _ _ _ h => h) rfl (fun wx => ?_) ?_
  · go_simp; skip
  simp only [pu]
  refine heldT_take (i := 12) (v := .bool false) rfl (by kernel_rfl) (by kernel_rfl) (by kernel_rfl) (fun _ _ _ h => h) rfl (fun wx => ?_) ?_
  · go_simp; skip
  simp only [pu]
  refine heldT_skip (i := 13) rfl (by kernel_rfl) (by kernel_rfl) (by kernel_rfl) (fun _ _ _ h => h) rfl ?_
  simp only [pu]
  refine heldT_skip (i := 14) rfl (by kernel_rfl) (by kernel_rfl) (by kernel_rfl) (fun _ _ _ h => h) rfl ?_
  simp only [pu]
  refine heldT_skip (i := 15) rfl (by kernel_rfl) (by kernel_rfl) (by kernel_rfl) (fun _ _ _ h => h) rfl ?_
  simp only [pu]
  refine heldT_skip (i := 16) rfl (by kernel_rfl) (by kernel_rfl) (by kernel_rfl) (fun _ _ _ h => h) rfl ?_
  simp only [pu]
  refine heldT_skip (i := 17) rfl (by kernel_rfl) (by kernel_rfl) (by kernel_rfl) (fun _ _ _ h => h) rfl ?_
  simp only [pu]
  refine heldT_take (i := 18) (v := .bool false) rfl (by kernel_rfl) (by kernel_rfl) (by kernel_rfl) (fun _ _ _ h => h) rfl (fun wx => ?_) ?_
  · go_simp; skip
  simp only [pu]
  refine heldT_call (i := 19) (f := 30) (by kernel_rfl) rfl rfl (by go_simp; skip) ((C2).mono ?_)
  rintro e w4 ⟨rfl, rfl⟩
  refine ⟨_, rfl, ?_⟩
  simp only [pu]
  refine heldT_take (i := 20) (v := .bool true) rfl (by kernel_rfl) (by kernel_rfl) (by kernel_rfl) (fun _ _ _ h => h) rfl (fun wx => ?_) ?_
  · go_simp; skip
  simp only [pu]
  refine heldT_take (i := 21) (v := .bool true) rfl (by kernel_rfl) (by kernel_rfl) (by kernel_rfl) (fun _ _ _ h => h) rfl (fun wx => ?_) ?_
  · go_simp; skip
  simp only [pu]
  refine wpAnyH_done (by kernel_rfl) ?_ _
  clear C C2
  go_wp2_with fail
  (try simp only [Exit.inBlock, Exit.then]); refine bodyPost_ret (results_none rfl _ _ _) rfl ?_
  exact ⟨rfl, _, HF.out⟩
set_option maxRecDepth 100000 in
theorem numP_big (g : Nat) (v : Value) (B : ByteArray) (n s : Nat) (w : World) (h : WW g v B 0 w) (hs : 1 ≤ s ∧ s ≤ 7) (hn : 256 ^ s ≤ n) (hb : n < 9223372036854775808) :
    Calls Try.prog 11 #[.pointer (some ⟨g, 0, none⟩), .int .i64 (n : Int), .int .i64 (s : Int)] w fun e w' => e = .returned (.tuple #[]) ∧ ∃ v', WW g v' (numP B 0 (n : Int) (s : Int)).1 (numP B 0 (n : Int) (s : Int)).2 w' ∧ Gg g v w v' w' := by
  have hr : numP B 0 (n : Int) (s : Int) = (⟨#[]⟩, 1) := by unfold numP; rw [if_neg (by decide), if_pos (.inr (.inr (by rw [Int.toNat_natCast]; exact_mod_cast hn)))]
  rw [hr]
  have C := size_ok g _ _ (s : Int) w.drew h.drew.blk (by omega)
  have C2 := needs_bad g _ _ 1 w.drew h.drew.blk (by decide)
  have HF : Hid (WW g (.slice none 0 0) ⟨#[]⟩ 1 (w.drew.setRow g #[.slice none 0 0, .int .i64 1]) ∧ Gg g v w (.slice none 0 0) (w.drew.setRow g #[.slice none 0 0, .int .i64 1])) := Lib.hid ⟨WW.fail h.drew.blk 1, (Gg.refl g v w).drew.row _⟩
  have hn0 : (n : Int) ≥ 0 := by omega
  have hw8 : IntKind.i64.wrap (8 * (s : Int)) = ((8 * s : Nat) : Int) := by rw [IntWalk.i64_in _ (by omega)]; omega
  obtain ⟨q, hq⟩ : ∃ q, q = n / 256 ^ s := ⟨_, rfl⟩
  have hsh := shift_be n s hs.2
  rw [← hq] at hsh
  have hq0 : ¬ (q : Int) = 0 := by
    have h1 : 0 < n / 256 ^ s := Nat.div_pos hn (Nat.pow_pos (by decide))
    omega
  have hq1 : ((q : Int) == 0) = false := by simpa using hq0
  clear h hr hs hq hn
  go_enter Try.func11, Try.ntmps11
  go_wp2_with fail
  refine heldT_start (by kernel_rfl) ?_
  change wpAnyH _ _ _ _ _ _ _ _ w.drew
  generalize w.drew = w2 at C C2 HF ⊢
  refine heldT_take (i := 0) (v := .pointer (some ⟨g, 0, none⟩)) rfl (by kernel_rfl) (by kernel_rfl) (by kernel_rfl) (fun _ _ _ h => h) rfl (fun wx => ?_) ?_
  · go_simp; skip
  simp only [pu]
  refine heldT_take (i := 1) (v := .pointer (some ⟨g, 0, none⟩)) rfl (by kernel_rfl) (by kernel_rfl) (by kernel_rfl) (fun _ _ _ h => h) rfl (fun wx => ?_) ?_
  · go_simp; skip
  simp only [pu]
  refine heldT_take (i := 2) (v := .pointer (some ⟨g, 0, none⟩)) rfl (by kernel_rfl) (by kernel_rfl) (by kernel_rfl) (fun _ _ _ h => h) rfl (fun wx => ?_) ?_
  · go_simp; skip
  simp only [pu]
  refine heldT_take (i := 3) (v := .int .i64 (s : Int)) rfl (by kernel_rfl) (by kernel_rfl) (by kernel_rfl) (fun _ _ _ h => h) rfl (fun wx => ?_) ?_
  · go_simp; skip
  simp only [pu]
  refine heldT_call (i := 4) (f := 29) (by kernel_rfl) rfl rfl (by go_simp; skip) ((C).mono ?_)
  rintro e w3 ⟨rfl, rfl⟩
  refine ⟨_, rfl, ?_⟩
  simp only [pu]
  refine heldT_take (i := 5) (v := .bool false) rfl (by kernel_rfl) (by kernel_rfl) (by kernel_rfl) (fun _ _ _ h => h) rfl (fun wx => ?_) ?_
  · go_simp; skip
  simp only [pu]
  refine heldT_take (i := 6) (v := .bool false) rfl (by kernel_rfl) (by kernel_rfl) (by kernel_rfl) (fun _ _ _ h => h) rfl (fun wx => ?_) ?_
  · go_simp; skip
  simp only [pu]
  refine heldT_take (i := 7) (v := .pointer (some ⟨g, 0, none⟩)) rfl (by kernel_rfl) (by kernel_rfl) (by kernel_rfl) (fun _ _ _ h => h) rfl (fun wx => ?_) ?_
  · go_simp; skip
  simp only [pu]
  refine heldT_take (i := 8) (v := .pointer (some ⟨g, 0, none⟩)) rfl (by kernel_rfl) (by kernel_rfl) (by kernel_rfl) (fun _ _ _ h => h) rfl (fun wx => ?_) ?_
  · go_simp; skip
  simp only [pu]
  refine heldT_take (i := 9) (v := .pointer (some ⟨g, 0, none⟩)) rfl (by kernel_rfl) (by kernel_rfl) (by kernel_rfl) (fun _ _ _ h => h) rfl (fun wx => ?_) ?_
  · go_simp; skip
  simp only [pu]
  refine heldT_take (i := 10) (v := .int .i64 (n : Int)) rfl (by kernel_rfl) (by kernel_rfl) (by kernel_rfl) (fun _ _ _ h => h) rfl (fun wx => ?_) ?_
  · go_simp; skip
  simp only [pu]
  refine heldT_take (i := 11) (v := .bool true) rfl (by kernel_rfl) (by kernel_rfl) (by kernel_rfl) (fun _ _ _ h => h) rfl (fun wx => ?_) ?_
  · go_simp; skip
  simp only [pu]
  refine heldT_take (i := 12) (v := .bool true) rfl (by kernel_rfl) (by kernel_rfl) (by kernel_rfl) (fun _ _ _ h => h) rfl (fun wx => ?_) ?_
  · go_simp; skip
  simp only [pu]
  refine heldT_take (i := 13) (v := .int .i64 (n : Int)) rfl (by kernel_rfl) (by kernel_rfl) (by kernel_rfl) (fun _ _ _ h => h) rfl (fun wx => ?_) ?_
  · go_simp; skip
  simp only [pu]
  refine heldT_take (i := 14) (v := .int .i64 (s : Int)) rfl (by kernel_rfl) (by kernel_rfl) (by kernel_rfl) (fun _ _ _ h => h) rfl (fun wx => ?_) ?_
  · go_simp; skip
  simp only [pu]
  refine heldT_take (i := 15) (v := .int .i64 ((8 * s : Nat) : Int)) rfl (by kernel_rfl) (by kernel_rfl) (by kernel_rfl) (fun _ _ _ h => h) rfl (fun wx => ?_) ?_
  · go_simp; skip
  simp only [pu]
  refine heldT_take (i := 16) (v := .int .i64 (q : Int)) rfl (by kernel_rfl) (by kernel_rfl) (by kernel_rfl) (fun _ _ _ h => h) rfl (fun wx => ?_) ?_
  · go_simp; skip
  simp only [pu]
  refine heldT_take (i := 17) (v := .bool false) rfl (by kernel_rfl) (by kernel_rfl) (by kernel_rfl) (fun _ _ _ h => h) rfl (fun wx => ?_) ?_
  · go_simp; skip
  simp only [pu]
  refine heldT_take (i := 18) (v := .bool false) rfl (by kernel_rfl) (by kernel_rfl) (by kernel_rfl) (fun _ _ _ h => h) rfl (fun wx => ?_) ?_
  · go_simp; skip
  simp only [pu]
  refine heldT_call (i := 19) (f := 30) (by kernel_rfl) rfl rfl (by go_simp; skip) ((C2).mono ?_)
  rintro e w4 ⟨rfl, rfl⟩
  refine ⟨_, rfl, ?_⟩
  simp only [pu]
  refine heldT_take (i := 20) (v := .bool true) rfl (by kernel_rfl) (by kernel_rfl) (by kernel_rfl) (fun _ _ _ h => h) rfl (fun wx => ?_) ?_
  · go_simp; skip
  simp only [pu]
  refine heldT_take (i := 21) (v := .bool true) rfl (by kernel_rfl) (by kernel_rfl) (by kernel_rfl) (fun _ _ _ h => h) rfl (fun wx => ?_) ?_
  · go_simp; skip
  simp only [pu]
  refine wpAnyH_done (by kernel_rfl) ?_ _
  clear C C2
  go_wp2_with fail
  (try simp only [Exit.inBlock, Exit.then]); refine bodyPost_ret (results_none rfl _ _ _) rfl ?_
  exact ⟨rfl, _, HF.out⟩
set_option maxRecDepth 100000 in
set_option maxHeartbeats 4000000 in
theorem numP_ok (g : Nat) (v : Value) (B : ByteArray) (n s : Nat) (w : World) (h : WW g v B 0 w) (hs : 1 ≤ s ∧ s ≤ 7) (hn : n < 256 ^ s) (hB : B.size ≤ 140737488355000) :
    Calls Try.prog 11 #[.pointer (some ⟨g, 0, none⟩), .int .i64 (n : Int), .int .i64 (s : Int)] w fun e w' => e = .returned (.tuple #[]) ∧ ∃ v', WW g v' (numP B 0 (n : Int) (s : Int)).1 (numP B 0 (n : Int) (s : Int)).2 w' ∧ Gg g v w v' w' := by
  have hr : numP B 0 (n : Int) (s : Int) = (B ++ beT n s s, 0) := by
    unfold numP
    rw [if_neg (by decide), if_neg (by
      rintro (h | h | h)
      · omega
      · omega
      · rw [Int.toNat_natCast] at h
        have h : 256 ^ s ≤ n := by exact_mod_cast h
        omega), Int.toNat_natCast, Int.toNat_natCast]
  rw [hr]
  have C := size_ok g _ _ (s : Int) w.drew h.drew.blk (by omega)
  have C2 := needs_ok g _ _ 1 w.drew h.drew.blk
  have HW0 : Hid (WW g v (B ++ beT n s 0) 0 w.drew ∧ Gg g v w v w.drew) := Lib.hid ⟨by rw [beT_none, app_none]; exact h.drew, (Gg.refl g v w).drew⟩
  have HSS := Lib.hid hs
  have HBZ := Lib.hid hB
  have hn0 : (n : Int) ≥ 0 := by omega
  have hw8 : IntKind.i64.wrap (8 * (s : Int)) = ((8 * s : Nat) : Int) := by rw [IntWalk.i64_in _ (by omega)]; omega
  have hsh := shift_be n s hs.2
  rw [Nat.div_eq_of_lt hn] at hsh
  have hs1 : IntKind.i64.wrap ((s : Int) - 1) = (s : Int) - 1 := IntWalk.i64_in _ (by omega)
  clear h hr hs hn hB
  go_enter Try.func11, Try.ntmps11
  go_wp2_with fail
  refine heldT_start (by kernel_rfl) ?_
  change wpAnyH _ _ _ _ _ _ _ _ w.drew
  generalize w.drew = w2 at C C2 HW0 ⊢
  refine heldT_take (i := 0) (v := .pointer (some ⟨g, 0, none⟩)) rfl (by kernel_rfl) (by kernel_rfl) (by kernel_rfl) (fun _ _ _ h => h) rfl (fun wx => ?_) ?_
  · go_simp; skip
  simp only [pu]
  refine heldT_take (i := 1) (v := .pointer (some ⟨g, 0, none⟩)) rfl (by kernel_rfl) (by kernel_rfl) (by kernel_rfl) (fun _ _ _ h => h) rfl (fun wx => ?_) ?_
  · go_simp; skip
  simp only [pu]
  refine heldT_take (i := 2) (v := .pointer (some ⟨g, 0, none⟩)) rfl (by kernel_rfl) (by kernel_rfl) (by kernel_rfl) (fun _ _ _ h => h) rfl (fun wx => ?_) ?_
  · go_simp; skip
  simp only [pu]
  refine heldT_take (i := 3) (v := .int .i64 (s : Int)) rfl (by kernel_rfl) (by kernel_rfl) (by kernel_rfl) (fun _ _ _ h => h) rfl (fun wx => ?_) ?_
  · go_simp; skip
  simp only [pu]
  refine heldT_call (i := 4) (f := 29) (by kernel_rfl) rfl rfl (by go_simp; skip) ((C).mono ?_)
  rintro e w3 ⟨rfl, rfl⟩
  refine ⟨_, rfl, ?_⟩
  simp only [pu]
  refine heldT_take (i := 5) (v := .bool false) rfl (by kernel_rfl) (by kernel_rfl) (by kernel_rfl) (fun _ _ _ h => h) rfl (fun wx => ?_) ?_
  · go_simp; skip
  simp only [pu]
  refine heldT_take (i := 6) (v := .bool false) rfl (by kernel_rfl) (by kernel_rfl) (by kernel_rfl) (fun _ _ _ h => h) rfl (fun wx => ?_) ?_
  · go_simp; skip
  simp only [pu]
  refine heldT_take (i := 7) (v := .pointer (some ⟨g, 0, none⟩)) rfl (by kernel_rfl) (by kernel_rfl) (by kernel_rfl) (fun _ _ _ h => h) rfl (fun wx => ?_) ?_
  · go_simp; skip
  simp only [pu]
  refine heldT_take (i := 8) (v := .pointer (some ⟨g, 0, none⟩)) rfl (by kernel_rfl) (by kernel_rfl) (by kernel_rfl) (fun _ _ _ h => h) rfl (fun wx => ?_) ?_
  · go_simp; skip
  simp only [pu]
  refine heldT_take (i := 9) (v := .pointer (some ⟨g, 0, none⟩)) rfl (by kernel_rfl) (by kernel_rfl) (by kernel_rfl) (fun _ _ _ h => h) rfl (fun wx => ?_) ?_
  · go_simp; skip
  simp only [pu]
  refine heldT_take (i := 10) (v := .int .i64 (n : Int)) rfl (by kernel_rfl) (by kernel_rfl) (by kernel_rfl) (fun _ _ _ h => h) rfl (fun wx => ?_) ?_
  · go_simp; skip
  simp only [pu]
  refine heldT_take (i := 11) (v := .bool true) rfl (by kernel_rfl) (by kernel_rfl) (by kernel_rfl) (fun _ _ _ h => h) rfl (fun wx => ?_) ?_
  · go_simp; skip
  simp only [pu]
  refine heldT_take (i := 12) (v := .bool true) rfl (by kernel_rfl) (by kernel_rfl) (by kernel_rfl) (fun _ _ _ h => h) rfl (fun wx => ?_) ?_
  · go_simp; skip
  simp only [pu]
  refine heldT_take (i := 13) (v := .int .i64 (n : Int)) rfl (by kernel_rfl) (by kernel_rfl) (by kernel_rfl) (fun _ _ _ h => h) rfl (fun wx => ?_) ?_
  · go_simp; skip
  simp only [pu]
  refine heldT_take (i := 14) (v := .int .i64 (s : Int)) rfl (by kernel_rfl) (by kernel_rfl) (by kernel_rfl) (fun _ _ _ h => h) rfl (fun wx => ?_) ?_
  · go_simp; skip
  simp only [pu]
  refine heldT_take (i := 15) (v := .int .i64 ((8 * s : Nat) : Int)) rfl (by kernel_rfl) (by kernel_rfl) (by kernel_rfl) (fun _ _ _ h => h) rfl (fun wx => ?_) ?_
  · go_simp; skip
  simp only [pu]
  refine heldT_take (i := 16) (v := .int .i64 0) rfl (by kernel_rfl) (by kernel_rfl) (by kernel_rfl) (fun _ _ _ h => h) rfl (fun wx => ?_) ?_
  · go_simp; skip
  simp only [pu]
  refine heldT_take (i := 17) (v := .bool true) rfl (by kernel_rfl) (by kernel_rfl) (by kernel_rfl) (fun _ _ _ h => h) rfl (fun wx => ?_) ?_
  · go_simp; skip
  simp only [pu]
  refine heldT_take (i := 18) (v := .bool true) rfl (by kernel_rfl) (by kernel_rfl) (by kernel_rfl) (fun _ _ _ h => h) rfl (fun wx => ?_) ?_
  · go_simp; skip
  simp only [pu]
  refine heldT_call (i := 19) (f := 30) (by kernel_rfl) rfl rfl (by go_simp; skip) ((C2).mono ?_)
  rintro e w4 ⟨rfl, rfl⟩
  refine ⟨_, rfl, ?_⟩
  simp only [pu]
  refine heldT_take (i := 20) (v := .bool false) rfl (by kernel_rfl) (by kernel_rfl) (by kernel_rfl) (fun _ _ _ h => h) rfl (fun wx => ?_) ?_
  · go_simp; skip
  simp only [pu]
  refine heldT_take (i := 21) (v := .bool false) rfl (by kernel_rfl) (by kernel_rfl) (by kernel_rfl) (fun _ _ _ h => h) rfl (fun wx => ?_) ?_
  · go_simp; skip
  simp only [pu]
  refine wpAnyH_done (by kernel_rfl) ?_ _
  clear C C2 hsh hw8
  go_wp2_with fail
  go_loopw [6] (fun u wr => ∃ (k : Nat) (x : Int) (v1 : Value), u = .int .i64 x ∧ x = (s : Int) - 1 - (k : Int) ∧ k ≤ s ∧ Hid (WW g v1 (B ++ beT n s k) 0 wr ∧ Gg g v w v1 wr)) (fun u _ => (intOf u + 1).toNat)
  case atStart => exact ⟨0, _, v, rfl, by omega, Nat.zero_le _, HW0⟩
  case round =>
    obtain ⟨k, x, v1, rfl, hx, hk, HR⟩ := hrel
    clear HW0
    by_cases hlt : k < s
    · obtain ⟨j, hj⟩ : ∃ j, j = s - 1 - k := ⟨_, rfl⟩
      obtain rfl : x = (j : Int) := by omega
      have hj7 : j ≤ 7 := by have := HSS.out; omega
      have hge : (j : Int) ≥ 0 := by omega
      have hw8 : IntKind.i64.wrap (8 * (j : Int)) = ((8 * j : Nat) : Int) := by rw [IntWalk.i64_in _ (by omega)]; omega
      have hj1 : IntKind.i64.wrap ((j : Int) - 1) = (j : Int) - 1 := IntWalk.i64_in _ (by omega)
      have hsh := shift_be n j hj7
      have HMO : Hid (beT n s (k + 1) = beT n s k ++ oneB (n / 256 ^ j % 256)) := Lib.hid (by rw [hj]; exact beT_more n s k)
      obtain ⟨q, hq⟩ : ∃ q, q = n / 256 ^ j := ⟨_, rfl⟩
      rw [← hq] at hsh HMO
      obtain ⟨y, hy⟩ : ∃ y, y = q % 256 := ⟨_, rfl⟩
      rw [← hy] at HMO
      have hy8 : y < 256 := by omega
      have HCV : Hid (IntKind.u8.wrap (q : Int) = (y : Int)) := Lib.hid (by rw [IntKind.wrap_u8']; omega)
      obtain ⟨wa, hwa⟩ : ∃ wa, wa = wr.drew := ⟨_, rfl⟩
      have hba0 : Below wr.heap.size wr wa := by rw [hwa]; exact (Below.refl _ _).drew
      have ka := HR.out.1.below hba0
      have kg : Gg g v w v1 wa := HR.out.2.trans (Gg.of hba0)
      obtain ⟨i0, hi, hz0, hz1, hz2⟩ := info_parts u8_infoW
      obtain ⟨w1, hw1⟩ : ∃ w1, w1 = wa.alloc (.cells #[.int .u8 (y : Int)] 5) := ⟨_, rfl⟩
      have hb1 : Below wa.heap.size wa w1 := by rw [hw1]; exact (Below.refl _ _).alloc (Nat.le_refl _) _
      have k1 := ka.below hb1
      have hbn : Blk w1 wa.heap.size 5 #[.int .u8 (y : Int)] := by rw [hw1]; exact Blk.new wa 5 #[.int .u8 (y : Int)]
      have hbz : (B ++ beT n s k).size = B.size + k := by rw [size_app]; unfold beT; rw [textN_size]
      have hBZ := HBZ.out
      have hkS := HSS.out
      obtain ⟨gq, cq, w2, hap, hown, hgr, hat, hlt2⟩ := run_append_lies (P := Try.prog) w1 52 52 (g + 1) 5 i0 (.int .u8 0) 1 1 Try.underlying52 hi hz0 hz1 hz2 rfl (by decide) v1 (B ++ beT n s k).size _ k1.own ⟨wa.heap.size, 0, none⟩ 1 1 [.int .u8 (y : Int)] rfl (World.news_of_block hbn) (by intro u hu; rw [List.mem_singleton.1 hu]; rfl) (by decide) (by unfold maxLen; omega) (by omega) (by have := k1.blk.lt; omega) _ rfl
      obtain ⟨hb2, h4, h5⟩ := k1.more (s := oneB y) (by rw [strCells_one y hy8, oneB_size]; exact hown) hgr (fun i e => by
        have e : gq = i := by injection e
        rcases hat with h | h
        · exact .inl (by rw [h, e])
        · right; omega)
      obtain ⟨v', hv'⟩ : ∃ v', v' = Value.slice (some ⟨gq, 0, none⟩) ((B ++ beT n s k).size + 1) cq := ⟨_, rfl⟩
      obtain ⟨nz, hnz⟩ : ∃ nz, nz = (B ++ beT n s k).size + 1 := ⟨_, rfl⟩
      rw [← hnz] at hv'
      have HVF := Lib.hid hv'
      rw [← hnz, ← hv'] at hap h4 h5
      rw [app_assoc, ← HMO.out] at h4
      obtain ⟨w3, hw3⟩ : ∃ w3, w3 = w2.setCell ⟨g, 0, none⟩ v' := ⟨_, rfl⟩
      rw [← hw3] at h4 h5
      have HN : Hid (WW g v' (B ++ beT n s (k + 1)) 0 w3 ∧ Gg g v w v' w3) := Lib.hid ⟨h4, kg.trans ((Gg.of hb1).trans h5)⟩
      have HAP := Lib.hid hap
      have HC0 : Hid (wa.cell? ⟨g, 0, none⟩ = some v1) := Lib.hid (ka.blk.cell 0)
      have HC1 : Hid (w1.cell? ⟨g, 0, none⟩ = some v1) := Lib.hid (k1.blk.cell 0)
      have HC2 : Hid (w2.cell? ⟨g, 0, none⟩ = some v1 ∧ w2.frozen? ⟨g, 0, none⟩ = false) := Lib.hid ⟨hb2.cell 0, hb2.frozen 0⟩
      have HW1 := Lib.hid hw1
      have HW3 := Lib.hid hw3
      have HWA := Lib.hid hwa
      have HK := Lib.hid (⟨hlt, hj⟩ : k < s ∧ j = s - 1 - k)
      clear hx hj hq hy hy8 hwa hba0 ka kg i0 hi hz0 hz1 hz2 hw1 hb1 k1 hbn hbz hBZ hkS hap hown hgr hat hlt2 hb2 h4 h5 hv' hnz hw3 hlt hk hj7 HR
      go_wp2_with fail
      refine wp_region_anyL (Three 11 12 16 (Ste wa w1 w2 w3)) (by kernel_rfl) ?_ ?_
      · rw [← HWA.out]; exact Ste.start _ _ _ _
      refine anyL_take (i := 0) (v := .pointer (some ⟨g, 0, none⟩)) rfl (by kernel_rfl) (by kernel_rfl) (by kernel_rfl) (y3_other (by decide) (by decide) (by decide) rfl (fun f1 f2 f3 wx hT => ?_)) ?_
      · refine lands_value (w := wx) ?_ hT; go_simp; skip
      simp only [pu]
      refine anyL_take (i := 1) (v := .pointer (some ⟨g, 0, none⟩)) rfl (by kernel_rfl) (by kernel_rfl) (by kernel_rfl) (y3_other (by decide) (by decide) (by decide) rfl (fun f1 f2 f3 wx hT => ?_)) ?_
      · refine lands_value (w := wx) ?_ hT; go_simp; skip
      simp only [pu]
      refine anyL_take (i := 2) (v := .pointer (some ⟨g, 0, none⟩)) rfl (by kernel_rfl) (by kernel_rfl) (by kernel_rfl) (y3_other (by decide) (by decide) (by decide) rfl (fun f1 f2 f3 wx hT => ?_)) ?_
      · refine lands_value (w := wx) ?_ hT; go_simp; skip
      simp only [pu]
      refine anyL_take (i := 3) (v := .pointer (some ⟨g, 0, none⟩)) rfl (by kernel_rfl) (by kernel_rfl) (by kernel_rfl) (y3_other (by decide) (by decide) (by decide) rfl (fun f1 f2 f3 wx hT => ?_)) ?_
      · refine lands_value (w := wx) ?_ hT; go_simp; skip
      simp only [pu]
      refine anyL_take (i := 4) (v := .pointer (some ⟨g, 0, none⟩)) rfl (by kernel_rfl) (by kernel_rfl) (by kernel_rfl) (y3_other (by decide) (by decide) (by decide) rfl (fun f1 f2 f3 wx hT => ?_)) ?_
      · refine lands_value (w := wx) ?_ hT; go_simp; skip
      simp only [pu]
      refine anyL_take (i := 5) (v := v1) rfl (by kernel_rfl) (by kernel_rfl) (by kernel_rfl) (y3_ahead (n := 15) (by decide) (by decide) (by decide) (by kernel_rfl) (by kernel_rfl) rfl (fun f1 wx hT => ?_)) ?_
      · refine lands_value (w := wx) ?_ hT; rcases hT.ahead with rfl | rfl
        · have cc := HC0.out; go_simp; skip
        · have cc := HC1.out; go_simp; skip
      simp only [pu]
      refine anyL_take (i := 6) (v := .int .i64 (n : Int)) rfl (by kernel_rfl) (by kernel_rfl) (by kernel_rfl) (y3_other (by decide) (by decide) (by decide) rfl (fun f1 f2 f3 wx hT => ?_)) ?_
      · refine lands_value (w := wx) ?_ hT; go_simp; skip
      simp only [pu]
      refine anyL_take (i := 7) (v := .int .i64 (j : Int)) rfl (by kernel_rfl) (by kernel_rfl) (by kernel_rfl) (y3_other (by decide) (by decide) (by decide) rfl (fun f1 f2 f3 wx hT => ?_)) ?_
      · refine lands_value (w := wx) ?_ hT; go_simp; skip
      simp only [pu]
      refine anyL_take (i := 8) (v := .int .i64 ((8 * j : Nat) : Int)) rfl (by kernel_rfl) (by kernel_rfl) (by kernel_rfl) (y3_other (by decide) (by decide) (by decide) rfl (fun f1 f2 f3 wx hT => ?_)) ?_
      · refine lands_value (w := wx) ?_ hT; go_simp; skip
      simp only [pu]
      refine anyL_take (i := 9) (v := .int .i64 (q : Int)) rfl (by kernel_rfl) (by kernel_rfl) (by kernel_rfl) (y3_other (by decide) (by decide) (by decide) rfl (fun f1 f2 f3 wx hT => ?_)) ?_
      · refine lands_value (w := wx) ?_ hT; go_simp; skip
      simp only [pu]
      refine anyL_take (i := 10) (v := .int .u8 (y : Int)) rfl (by kernel_rfl) (by kernel_rfl) (by kernel_rfl) (y3_other (by decide) (by decide) (by decide) rfl (fun f1 f2 f3 wx hT => ?_)) ?_
      · refine lands_value (w := wx) ?_ hT; have cc := HCV.out; go_simp; skip
      simp only [pu]
      refine anyL_take (i := 11) (v := .slice (some ⟨wa.heap.size, 0, none⟩) 1 1) rfl (by kernel_rfl) (by kernel_rfl) (by kernel_rfl) (y3_first (n := 15) (by decide) (by decide) (by kernel_rfl) (by kernel_rfl) rfl (fun wx hT => ?_)) ?_
      · obtain ⟨e1, K⟩ := hT.first; subst e1; refine lands_value (w := wx.alloc (.cells #[.int .u8 (y : Int)] 5)) ?_ (by rw [← HW1.out]; exact K); go_simp; skip
      simp only [pu]
      refine anyL_take (i := 12) (v := v') rfl (by kernel_rfl) (by kernel_rfl) (by kernel_rfl) (y3_second (n := 15) (by decide) (by decide) rfl (by kernel_rfl) (by kernel_rfl) rfl (fun wx hT => ?_)) ?_
      · obtain ⟨e1, K⟩ := hT.second; subst e1; exact lands_append (.tmp 40) (.tmp 46) 52 rfl rfl rfl HAP.out K
      simp only [pu]
      refine anyL_take (i := 13) (v := .pointer (some ⟨g, 0, none⟩)) rfl (by kernel_rfl) (by kernel_rfl) (by kernel_rfl) (y3_other (by decide) (by decide) (by decide) rfl (fun f1 f2 f3 wx hT => ?_)) ?_
      · refine lands_value (w := wx) ?_ hT; go_simp; skip
      simp only [pu]
      refine anyL_take (i := 14) (v := .pointer (some ⟨g, 0, none⟩)) rfl (by kernel_rfl) (by kernel_rfl) (by kernel_rfl) (y3_other (by decide) (by decide) (by decide) rfl (fun f1 f2 f3 wx hT => ?_)) ?_
      · refine lands_value (w := wx) ?_ hT; go_simp; skip
      simp only [pu]
      refine anyL_take (i := 15) (v := .pointer (some ⟨g, 0, none⟩)) rfl (by kernel_rfl) (by kernel_rfl) (by kernel_rfl) (y3_other (by decide) (by decide) (by decide) rfl (fun f1 f2 f3 wx hT => ?_)) ?_
      · refine lands_value (w := wx) ?_ hT; go_simp; skip
      simp only [pu]
      refine anyL_take (i := 16) (v := undef) rfl (by kernel_rfl) (by kernel_rfl) (by kernel_rfl) (y3_third (by decide) (by decide) rfl (by kernel_rfl) rfl (fun f1 wx hT => ?_)) ?_
      · obtain ⟨e1, K⟩ := hT.third; subst e1; obtain ⟨c0, f0⟩ := HC2.out; have e3 := HW3.out; simp only [HVF.out] at e3 ⊢; go_simp; exact ⟨rfl, by rw [← e3]; exact K⟩
      simp only [pu]
      refine anyL_done rfl ?_ _
      intro wz hT8
      obtain rfl := hT8.last
      clear hT8
      go_wp2_with fail
      exact ⟨⟨k + 1, _, v', rfl, by have := HK.out; omega, by have := HK.out; omega, HN⟩, by simp only [intOf]; have := HK.out; omega⟩
    · obtain rfl : k = s := by omega
      obtain rfl : x = -1 := by omega
      go_wp2_with fail
      go_end0
      exact ⟨rfl, v1, HR.out⟩
theorem numP_any (g : Nat) (v : Value) (B : ByteArray) (E : Nat) (n s : Int) (w : World) (h : WW g v B E w) (hB : E = 0 → B.size ≤ 140737488355000) (hb : E = 0 → n < 9223372036854775808) :
    Calls Try.prog 11 #[.pointer (some ⟨g, 0, none⟩), .int .i64 n, .int .i64 s] w fun e w' => e = .returned (.tuple #[]) ∧ ∃ v', WW g v' (numP B E n s).1 (numP B E n s).2 w' ∧ Gg g v w v' w' := by
  by_cases h0 : E ≠ 0 ∨ ¬ (1 ≤ s ∧ s ≤ 7)
  · exact numP_no g v B E n s w h h0
  · obtain rfl : E = 0 := by omega
    by_cases hn : n < 0
    · exact numP_neg g v B n s w h (by omega) hn
    · obtain ⟨a, rfl⟩ : ∃ a : Nat, n = (a : Int) := ⟨n.toNat, by omega⟩
      obtain ⟨b, rfl⟩ : ∃ b : Nat, s = (b : Int) := ⟨s.toNat, by omega⟩
      by_cases hg : 256 ^ b ≤ a
      · exact numP_big g v B a b w h (by omega) hg (by have := hb rfl; omega)
      · exact numP_ok g v B a b w h (by omega) (by omega) (hB rfl)
/-- A text put behind, its length ahead. -/
def opqP (B : ByteArray) (E : Nat) (t : ByteArray) (s : Int) : ByteArray × Nat := rawP (numP B E (t.size : Int) s).1 (numP B E (t.size : Int) s).2 t
theorem numP_size (B : ByteArray) (E : Nat) (n s : Int) : (numP B E n s).1.size ≤ B.size + 7 := by
  unfold numP
  by_cases hE : E = 0
  · rw [if_neg (by omega)]
    by_cases h : ¬ (1 ≤ s ∧ s ≤ 7) ∨ n < 0 ∨ (256 ^ s.toNat : Int) ≤ n
    · rw [if_pos h]; show (0 : Nat) ≤ _; omega
    · rw [if_neg h]
      show (B ++ beT n.toNat s.toNat s.toNat).size ≤ _
      rw [size_app]
      unfold beT
      rw [textN_size]
      have : 1 ≤ s ∧ s ≤ 7 := Decidable.byContradiction fun k => h (.inl k)
      omega
  · rw [if_pos hE]; show B.size ≤ _; omega
theorem numP_err (B : ByteArray) (E : Nat) (n s : Int) : (numP B E n s).2 = 0 → E = 0 := fun h => Decidable.byContradiction fun hE => by
  unfold numP at h
  rw [if_pos hE] at h
  exact hE h
set_option maxRecDepth 100000 in
theorem opqP_any (g : Nat) (v : Value) (B : ByteArray) (E : Nat) (t : ByteArray) (s : Int) (w : World) (h : WW g v B E w) (hB : E = 0 → B.size + t.size ≤ 140737488355000) :
    Calls Try.prog 15 #[.pointer (some ⟨g, 0, none⟩), .string t, .int .i64 s] w fun e w' => e = .returned (.tuple #[]) ∧ ∃ v', WW g v' (opqP B E t s).1 (opqP B E t s).2 w' ∧ Gg g v w v' w' := by
  have C := numP_any g v B E (t.size : Int) s w h (fun e => by have := hB e; omega) (fun e => by have := hB e; omega)
  have hE := numP_err B E (t.size : Int) s
  have hz := numP_size B E (t.size : Int) s
  unfold opqP
  obtain ⟨R, F, hr⟩ : ∃ R F, numP B E (t.size : Int) s = (R, F) := ⟨_, _, rfl⟩
  rw [hr] at C hz hE ⊢
  have hz : R.size ≤ B.size + 7 := hz
  have hE : F = 0 → E = 0 := hE
  have HZ : Hid (F = 0 → R.size + t.size ≤ 140737488355328) := Lib.hid (fun e => by have := hB (hE e); omega)
  clear h hr hz hB hE
  go_enter Try.func15, Try.ntmps15
  go_wp2_with fail
  refine C.mono ?_
  rintro e w1 ⟨rfl, v1, h1, g1⟩
  have C2 := rawP_any g v1 R F t w1 h1 HZ.out
  have HG := Lib.hid g1
  clear C h1 g1
  go_wp2_with fail
  refine C2.mono ?_
  rintro e w2 ⟨rfl, v2, h2, g2⟩
  have HF := Lib.hid (⟨h2, HG.out.trans g2⟩ : WW g v2 (rawP R F t).1 (rawP R F t).2 w2 ∧ Gg g v w v2 w2)
  clear h2 g2 C2
  go_wp2_with fail
  go_end0
  exact ⟨rfl, v2, HF.out⟩
end Go.Proofs.Ytfheedpoaomfeaa
