/- Reset, One. -/
import Derived.Test.YtmpklbjbdnocoaaShaN
namespace Go.Proofs.Ytmpklbjbdnocoaa
open Go.RowKit
def Hs.reset (H : Hs) : Hs := ⟨H.first, H.keys, H.first, fun _ => litw 8 0, 0⟩
def resF (A K : Nat → Value) : Nat → Value := over (over (over zeroF 0 8 A) 8 64 K) 72 8 A
theorem built_hash (A K : Nat → Value) : Try.prog.built 46 [(0, .agg (row 8 A)), (1, .agg (row 64 K)), (2, .agg (row 8 A))] = some (row 145 (resF A K)) := by kernel_rfl
theorem resF_eq (H : Hs) (i : Nat) (hi : i < 145) : resF H.f (fun i => H.f (8 + i)) i = H.reset.f i := by
  by_cases h1 : i < 8
  · simp [resF, over, Hs.reset, Hs.f, h1, show ¬ 72 ≤ i by omega, show ¬ 8 ≤ i by omega]
  · by_cases h2 : i < 72
    · simp [resF, over, Hs.reset, Hs.f, h1, h2, show ¬ 72 ≤ i by omega, show 8 ≤ i by omega, show 8 + (i - 8) = i by omega]
    · by_cases h3 : i < 80
      · simp [resF, over, Hs.reset, Hs.f, h1, h2, h3, show 72 ≤ i by omega, show i - 72 < 8 by omega]
      · by_cases h4 : i < 144
        · simp [resF, over, zeroF, Hs.reset, Hs.f, h1, h2, h3, h4, iw_zero]
        · simp [resF, over, zeroF, Hs.reset, Hs.f, h1, h2, h3, h4]
theorem resF_one (H : Hs) : (row 145 (resF H.f (fun i => H.f (8 + i)))).all (·.oneCell') = true := by
  rw [row_ext (resF_eq H)]; exact row_one fun i => by unfold Hs.f; (repeat' split) <;> rfl
theorem Chg.setRow {g : Nat} {w w' : World} (h : Chg g w w') (cs : Array Value) : Chg g w (w'.setRow g cs) :=
  h.trans ⟨rfl, rfl, rfl, by simp, fun k _ hn => setRow_other _ _ _ _ hn⟩
set_option maxRecDepth 100000 in
set_option maxHeartbeats 300000 in
theorem reset_any (g : Nat) (H : Hs) (w : World) (_hg : g < w.heap.size) (hb : HB w g H) :
    Calls Try.prog 15 #[.pointer (some ⟨g, 0, none⟩)] w fun e w' => e = .returned (.tuple #[]) ∧ HB w' g H.reset ∧ Chg g w w' := by
  have hbd : HB w.drew g H := hb
  go_enter Try.func15, Try.ntmps15
  go_wp2_with fail
  refine wp_region_still_tail 15 (by kernel_rfl) (by kernel_rfl) ?_
  simp only [List.take_succ_cons, List.take_zero, List.drop_succ_cons, List.drop_zero]
  change wpStill _ _ w.drew (fun a' => wpList _ _ _ _ a' w.drew) _ _
  have hc := (Chg.refl g w).drew
  generalize w.drew = w1 at hbd hc ⊢
  iterate 4 still_step
  refine wpStill_load_part rfl 42 _ rfl g 0 8 145 H.f rfl 46 hbd (by omega) _ Try.underlying42 rfl (by kernel_rfl) ?_
  iterate 3 still_step
  refine wpStill_load_part rfl 43 _ rfl g 8 64 145 H.f rfl 46 hbd (by omega) _ Try.underlying43 rfl (by kernel_rfl) ?_
  iterate 3 still_step
  refine wpStill_load_part rfl 42 _ rfl g 0 8 145 H.f rfl 46 hbd (by omega) _ Try.underlying42 rfl (by kernel_rfl) ?_
  refine wpStill_build rfl 46 _ rfl [(0, .agg (row 8 H.f)), (1, .agg (row 64 fun i => H.f (8 + i))), (2, .agg (row 8 H.f))] ?hl _ (built_hash H.f (fun i => H.f (8 + i))) ?_
  case hl => simp [Act.eval, Act.put]
  still_step
  refine wpStill_nil ?_
  have hsz : (Try.prog.info? 46).map (·.size) = some (row 145 (resF H.f (fun i => H.f (8 + i)))).size := by rw [row_size]; kernel_rfl
  refine wpList_store_row rfl 46 _ _ rfl g (row 145 (resF H.f (fun i => H.f (8 + i)))) rfl rfl 46 _ hbd hsz (by rw [row_size, row_size]) (resF_one H) ?_
  refine wpList_gen (fun w' => HB w' g H.reset ∧ Chg g w w') ⟨(hbd.row_ _).cast_ (row_ext (resF_eq H)), hc.setRow _⟩ (fun w2 h2 => ?_)
  go_wp2_with fail
  go_end0
  exact ⟨rfl, h2⟩
set_option maxRecDepth 100000 in
set_option maxHeartbeats 400000 in
theorem one_any (s : ByteArray) (w : World) (hs : s.size < 576460752303423488) :
    Calls Try.prog 9 #[.string s] w fun e w' => e = .returned (.string ⟨(H0.write s.data.toList).out.toArray⟩) ∧ Below w.heap.size w w' := by
  have hsz : (H0.write s.data.toList).size < 576460752303423488 := by rw [Hs.size_write]; show 0 + _ < _; simpa using hs
  go_enter Try.func9, Try.ntmps9
  go_wp2_with (first
    | (go_at_call 11; refine (new_any _).mono ?_; rintro e w1 ⟨rfl, h1, b1⟩)
    | (go_at_call 12; refine (write_any _ H0 s _ h1.lt h1 (by show 0 + _ < _; omega)).mono ?_; rintro e w2 ⟨rfl, h2, c2⟩)
    | (go_at_call 13; refine (sum_any _ _ _ h2 hsz).mono ?_; rintro e w3 ⟨rfl, b3⟩))
  go_ret
  exact ⟨rfl, (c2.below b1 (by omega) b1.size).trans (b3.mono (Nat.le_trans b1.size c2.size))⟩
end Go.Proofs.Ytmpklbjbdnocoaa
