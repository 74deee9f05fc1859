/- rootPart. -/
import Derived.Test.YtmmijnacgolopaaSbF
namespace Go.Proofs.Ytmmijnacgolopaa
open Go.RowKit
def fx (a b : BitVec 64) : Fx := ⟨a, b, litw 64 0⟩
/-- The falling: a what is ahead of the point, j + 2 the degree, b what is behind the point. -/
def rootK (p a : BitVec 64) (j : Nat) : Nat → BitVec 64 → Option (BitVec 64)
  | 0, _ => none
  | k + 1, b =>
    match fallS p (fx a b) j with
    | none => none
    | some (_, false) => some b
    | some (len, true) => if iw len = 0 then rootK p a j k (subw b (litw 64 1)) else rootK p a j k (subw b len)
def ones : BitVec 64 := litw 64 18446744073709551615
def rootS (p : BitVec 64) (j : Nat) : Option (BitVec 64) :=
  match wholeK p (j + 1) 600 (litw 64 2) with
  | none => none
  | some a => rootK p a j 600 ones
theorem built_root (a : BitVec 64) : Try.prog.built 60 [(0, .int .u64 (iw a)), (1, .int .u64 18446744073709551615)] = some (fxv (fx a ones)) := by kernel_rfl
structure RW (a b : BitVec 64) (w wr : World) : Prop where
  x : Blk wr w.heap.size 60 (fxv (fx a b))
  b : Below w.heap.size w wr
theorem RW.put {a b : BitVec 64} {w wr : World} (h : RW a b w wr) (c : BitVec 64) : RW a c w (wr.setCell ⟨w.heap.size, 1, none⟩ (.int .u64 (iw c))) :=
  ⟨(Blk.set_ h.x 1 _).cast_ rfl, h.b.setCell (by simp) _⟩
set_option maxRecDepth 100000 in
set_option maxHeartbeats 1000000 in
theorem root_any (p : BitVec 64) (j : Nat) (R : BitVec 64) (w : World) (hj : j ≤ 50) (h : rootS p j = some R) :
    Calls Try.prog 26 #[.int .u64 (iw p), .int .i64 ((j : Int) + 2)] w fun e w' => e = .returned (.int .u64 (iw R)) ∧ Below w.heap.size w w' := by
  have hsz : (Try.prog.info? 60).map (·.size) = some 3 := by kernel_rfl
  obtain ⟨a, ha, hR⟩ : ∃ a, wholeK p (j + 1) 600 (litw 64 2) = some a ∧ rootK p a j 600 ones = some R := by
    unfold rootS at h
    split at h
    · cases h
    · exact ⟨_, by assumption, h⟩
  have H := Lib.hid hR
  have HA := Lib.hid ha
  clear h ha hR
  have hj2 : (j : Int) + 2 = ((j + 1 : Nat) : Int) + 1 := by omega
  have hw := whole_any p (j + 1) 600 a w (show j + 1 ≤ 100 by omega) HA.out
  rw [← hj2] at hw
  have hbu : ∀ w : World, (Instr.build 60 #[(0, Value.int .u64 (iw a)), (1, Value.int .u64 18446744073709551615)]).run Try.prog w = .ok (.agg (fxv (fx a ones))) w := fun w => run_build w _ _ _ (built_root a)
  clear HA hj2
  go_enter Try.func26, Try.ntmps26
  go_wp2_with fail
  go_step3
  go_wp2_with (first
    | (go_at_call 29; refine hw.mono ?_; rintro e w' ⟨rfl, rfl⟩; clear hw)
    | (refine wpList_store_row rfl 60 _ _ rfl w.heap.size (fxv (fx a ones)) rfl (by kernel_rfl) 60 #[.int .u64 0, .int .u64 0, .int .u64 0] (Blk.new w _ _) hsz rfl (fx_one _) ?_; refine wpList_gen (RW a ones w) ⟨(Blk.new w _ _).row_ _, below_setRow' ((Below.refl _ _).alloc (Nat.le_refl _) _) (by omega) _⟩ (fun w1 h1 => ?_))
    | fail)
  clear hbu
  go_step3
  refine any_gen (F := fun w => Exit.then _ _ _ _ w) (RW a ones w) h1 (fun w1 h1 => ?_)
  go_wp2_with fail
  simp only [Act.put]
  go_loopg [] 600 (fun gk wr => ∃ k b, gk = k ∧ Hid (rootK p a j k b = some R) ∧ RW a b w wr)
  case atStart => exact ⟨600, _, rfl, H, h1⟩
  case round =>
    obtain ⟨k, b, hgk, HF, hr⟩ := hrel
    have HG := Lib.hid hgk
    clear hgk H h1
    cases k with
    | zero => have := HF.out; simp [rootK] at this
    | succ k =>
      have hF := HF.out
      unfold rootK at hF
      clear HF
      cases hf : fallS p (fx a b) j with
      | none => rw [hf] at hF; cases hF
      | some LR =>
        rw [hf] at hF
        obtain ⟨len, ab⟩ := LR
        have HW := Lib.hid hf
        clear hf
        go_wp2_with (refine wpList_load_row rfl 60 _ rfl w.heap.size rfl 60 _ (0, 0) _ hr.x Try.underlying60 rfl hsz ?_)
        refine (fall_any p (fx a b) j (len, ab) wr (by omega) HW.out).mono ?_
        rintro e w2 ⟨rfl, b2⟩
        have h2 : RW a b w w2 := ⟨hr.x.below b2 hr.x.lt, hr.b.trans (b2.mono hr.b.size)⟩
        clear hr b2
        have c1 : w2.cell? ⟨w.heap.size, 1, none⟩ = some (.int .u64 (iw b)) := h2.x.cell 1
        have f1 := h2.x.frozen 1
        cases ab with
        | false =>
          have hbR : b = R := by simpa using hF
          subst hbR
          go_wp2_with fail
          try rw [Exit.noGoto_ret]
          go_ret
          exact ⟨rfl, h2.b⟩
        | true =>
          simp only at hF
          by_cases c : iw len = 0
          · rw [if_pos c] at hF
            have HF := Lib.hid hF
            have hs1 : ∀ x : BitVec 64, IntKind.u64.wrap (iw x - 1) = iw (subw x (litw 64 1)) := fun x => wrap64_sub_lit x 1
            have K := h2.put (subw b (litw 64 1))
            clear hF h2
            go_wp2_with fail
            go_roundg k
            case measure => have := HG.out; omega
            case rel => exact ⟨k, _, rfl, HF, K⟩
          · rw [if_neg c] at hF
            have HF := Lib.hid hF
            have K := h2.put (subw b len)
            clear hF h2
            go_wp2_with fail
            go_roundg k
            case measure => have := HG.out; omega
            case rel => exact ⟨k, _, rfl, HF, K⟩
end Go.Proofs.Ytmmijnacgolopaa
