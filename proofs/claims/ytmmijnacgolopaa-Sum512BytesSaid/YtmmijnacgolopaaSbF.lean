/- wholeRoot, fall, rootPart. -/
import Derived.Test.YtmmijnacgolopaaSbD
import Derived.Laws.Tables
namespace Go.Proofs.Ytmmijnacgolopaa
open Go.RowKit
def pw (x : BitVec 64) : Nat → BitVec 64
  | 0 => x
  | k + 1 => mulw (pw x k) x
/-- The first number whose power is above p, less one; m factors beside the first. -/
def wholeK (p : BitVec 64) (m : Nat) : Nat → BitVec 64 → Option (BitVec 64)
  | 0, _ => none
  | k + 1, x => if iw p < iw (pw x m) then some (subw x (litw 64 1)) else wholeK p m k (addw x (litw 64 1))
theorem lit2 : Value.int .u64 2 = .int .u64 (iw (litw 64 2)) := by kernel_rfl
set_option maxRecDepth 100000 in
set_option maxHeartbeats 1000000 in
theorem whole_any (p : BitVec 64) (m k : Nat) (A : BitVec 64) (w : World) (hm : m ≤ 100) (h : wholeK p m k (litw 64 2) = some A) :
    Calls Try.prog 29 #[.int .u64 (iw p), .int .i64 ((m : Int) + 1)] w fun e w' => e = .returned (.int .u64 (iw A)) ∧ w = w' := by
  have hs1 : ∀ x : BitVec 64, IntKind.u64.wrap (iw x - 1) = iw (subw x (litw 64 1)) := fun x => wrap64_sub_lit x 1
  have hp1 : ∀ x : BitVec 64, IntKind.u64.wrap (iw x + 1) = iw (addw x (litw 64 1)) := fun x => wrap64_add_lit x 1
  have H := Lib.hid h
  clear h
  go_enter Try.func29, Try.ntmps29
  go_wp2_with fail
  go_loopg [5] k (fun gk v wr => ∃ j x, gk = j ∧ Hid (wholeK p m j x = some A) ∧ v = .int .u64 (iw x) ∧ w = wr)
  case atStart => exact ⟨k, _, rfl, H, lit2, rfl⟩
  case round =>
    obtain ⟨j, x, hgk, HF, rfl, rfl⟩ := hrel
    have HG := Lib.hid hgk
    clear hgk H
    cases j with
    | zero => have := HF.out; simp [wholeK] at this
    | succ j =>
      have hF := HF.out
      unfold wholeK at hF
      clear HF
      go_wp2_with fail
      obtain ⟨wo, rfl⟩ : ∃ wo : World, wo = w := ⟨_, rfl⟩
      go_loopw [6, 12] (fun v i wr => ∃ t : Nat, t ≤ m ∧ i = .int .i64 t ∧ v = .int .u64 (iw (pw x t)) ∧ wo = wr) (fun _ i _ => m - (intOf i).toNat)
      case atStart => exact ⟨0, by omega, rfl, rfl, rfl⟩
      case round =>
        obtain ⟨t, ht, rfl, rfl, rfl⟩ := hrel
        by_cases hlt : t < m
        · go_wp2_with fail
          go_roundw
          case rel => exact ⟨t + 1, by omega, by go_num, rfl, by trivial⟩
          case measure => simp [intOf]; omega
        · obtain rfl : t = m := by omega
          by_cases c : iw p < iw (pw x t)
          · rw [if_pos c] at hF
            have e1 : subw x (litw 64 1) = A := by injection hF
            clear hF
            go_wp2_with fail
            go_ret
            exact ⟨rfl, by trivial⟩
          · rw [if_neg c] at hF
            have HF := Lib.hid hF
            clear hF
            go_wp2_with fail
            go_roundg j
            case measure => have := HG.out; omega
            case rel => exact ⟨j, _, rfl, HF, rfl, by trivial⟩
def lowerS (x : Fx) : Nat → Fx
  | 0 => x
  | k + 1 => timesS (lowerS x k) x
def slopeS (d : Nat) (l : Fx) : BitVec 64 := mulw (BitVec.ofNat 64 d) (addw (orw (shlw l.a 56) (shrw l.b 8)) (litw 64 1))
def fallT (p : BitVec 64) (d : Nat) (l power : Fx) : Option (BitVec 64 × Bool) :=
  if iw power.a < iw p then some (litw 64 0, false)
  else (div64 (orw (shlw (subw power.a p) 56) (shrw power.b 8)) (shlw power.b 56) (slopeS d l)).map fun Q => (Q, true)
/-- How far, and whether, one falls from x; j + 2 the degree. -/
def fallS (p : BitVec 64) (x : Fx) (j : Nat) : Option (BitVec 64 × Bool) := fallT p (j + 2) (lowerS x j) (timesS (lowerS x j) x)
structure FW (x L : Fx) (w wr : World) : Prop where
  x : Blk wr w.heap.size 60 (fxv x)
  l : Blk wr (w.heap.size + 1) 60 (fxv L)
  b : Below w.heap.size w wr
theorem FW.below {x L : Fx} {w wr w' : World} (h : FW x L w wr) (hb : Below wr.heap.size wr w') : FW x L w w' :=
  ⟨h.x.below hb h.x.lt, h.l.below hb h.l.lt, h.b.trans (hb.mono h.b.size)⟩
theorem FW.put {x L L' : Fx} {w wr : World} (h : FW x L w wr) : FW x L' w (wr.setRow (w.heap.size + 1) (fxv L')) :=
  ⟨h.x.row_far (by omega) _, h.l.row_ _, below_setRow' h.b (by omega) _⟩
set_option maxRecDepth 100000 in
set_option maxHeartbeats 1000000 in
theorem fall_any (p : BitVec 64) (x : Fx) (j : Nat) (R : BitVec 64 × Bool) (w : World) (hj : j ≤ 100) (h : fallS p x j = some R) :
    Calls Try.prog 30 #[.int .u64 (iw p), .agg (fxv x), .int .i64 ((j : Int) + 2)] w fun e w' => e = .returned (.tuple #[.int .u64 (iw R.1), .bool R.2]) ∧ Below w.heap.size w w' := by
  have hsz : (Try.prog.info? 60).map (·.size) = some 3 := by kernel_rfl
  have hX : IntKind.u64.wrap ((j : Int) + 2) = iw (BitVec.ofNat 64 (j + 2)) := by
    rw [show (j : Int) + 2 = ((j + 2 : Nat) : Int) by omega]; exact wrap_of_nat64 _
  have hp1 : ∀ x : BitVec 64, IntKind.u64.wrap (iw x + 1) = iw (addw x (litw 64 1)) := fun x => wrap64_add_lit x 1
  have H := Lib.hid h
  clear h
  go_enter Try.func30, Try.ntmps30
  go_wp2_with (first
    | (refine wpList_load_row rfl 60 _ rfl w.heap.size rfl 60 _ (0, 0) _ (Blk.new w _ (fxv x)) Try.underlying60 rfl hsz ?_)
    | (refine wpList_store_row rfl 60 _ _ rfl (w.heap.size + 1) (fxv x) rfl rfl 60 #[.int .u64 0, .int .u64 0, .int .u64 0] ((Blk.new _ _ _).cast' ⟨by simp, rfl⟩) hsz rfl (fx_one _) ?_; refine wpList_gen (FW x x w) ⟨((Blk.new w _ _).alloc _).row_far (by omega) _, ((Blk.new _ _ _).cast' ⟨by simp, rfl⟩ : Blk _ (w.heap.size + 1) 60 #[.int .u64 0, .int .u64 0, .int .u64 0]).row_ _, below_setRow' (((Below.refl _ _).alloc (Nat.le_refl _) _).alloc (by simp) _) (by omega) _⟩ (fun w1 h1 => ?_)))
  go_loopw [15] (fun i wr => ∃ t : Nat, t ≤ j ∧ i = .int .i64 t ∧ FW x (lowerS x t) w wr) (fun i _ => j - (intOf i).toNat)
  case atStart => exact ⟨0, by omega, rfl, h1⟩
  case round =>
    obtain ⟨t, ht, rfl, hr⟩ := hrel
    clear h1
    by_cases hlt : t < j
    · obtain ⟨L, hL⟩ : ∃ L, L = lowerS x t := ⟨_, rfl⟩
      have HL : Hid (lowerS x (t + 1) = timesS L x) := by rw [hL]; exact Lib.hid rfl
      rw [← hL] at hr
      clear hL
      go_wp2_with (first
        | (refine wpList_load_row rfl 60 _ rfl w.heap.size rfl 60 _ (0, 0) _ hr.x Try.underlying60 rfl hsz ?_)
        | (refine wpList_load_row rfl 60 _ rfl (w.heap.size + 1) rfl 60 _ (0, 0) _ hr.l Try.underlying60 rfl hsz ?_))
      refine (times_any L x wr).mono ?_
      rintro e w2 ⟨rfl, b2⟩
      have h2 := hr.below b2
      clear hr b2
      generalize timesS L x = L2 at HL ⊢
      go_wp2_with (refine wpList_store_row rfl 60 _ _ rfl (w.heap.size + 1) (fxv L2) rfl rfl 60 _ h2.l hsz rfl (fx_one _) ?_)
      go_roundw
      case rel => exact ⟨t + 1, by omega, by go_num, by rw [HL.out]; exact h2.put⟩
      case measure => simp [intOf]; omega
    · obtain rfl : t = j := by omega
      have hT : fallT p (t + 2) (lowerS x t) (timesS (lowerS x t) x) = some R := H.out
      obtain ⟨L, hL⟩ : ∃ L, L = lowerS x t := ⟨_, rfl⟩
      rw [← hL] at hr hT
      clear hL H
      go_wp2_with (first
        | (refine wpList_load_row rfl 60 _ rfl w.heap.size rfl 60 _ (0, 0) _ hr.x Try.underlying60 rfl hsz ?_)
        | (refine wpList_load_row rfl 60 _ rfl (w.heap.size + 1) rfl 60 _ (0, 0) _ hr.l Try.underlying60 rfl hsz ?_))
      refine (times_any L x wr).mono ?_
      rintro e w2 ⟨rfl, b2⟩
      have h2 := hr.below b2
      clear hr b2
      generalize timesS L x = Y at hT ⊢
      have hl2 := h2.l.lt
      unfold fallT at hT
      by_cases c : iw Y.a < iw p
      · rw [if_pos c] at hT
        have HT := Lib.hid hT
        clear hT
        go_wp2_with (refine wpList_store_row rfl 60 _ _ rfl w2.heap.size (fxv Y) rfl rfl 60 #[.int .u64 0, .int .u64 0, .int .u64 0] (Blk.new w2 _ _) hsz rfl (fx_one _) ?_; refine wpList_gen (fun wx => FW x L w wx ∧ Blk wx w2.heap.size 60 (fxv Y)) ⟨⟨(h2.x.alloc _).row_far (by omega) _, (h2.l.alloc _).row_far (by omega) _, below_setRow' (h2.b.alloc h2.b.size _) h2.b.size _⟩, (Blk.new w2 _ _).row_ _⟩ (fun w3 h3 => ?_); obtain ⟨h3, k3⟩ := h3; have y0 : w3.cell? ⟨w2.heap.size, 0, none⟩ = some (.int .u64 (iw Y.a)) := k3.cell 0; have y1 : w3.cell? ⟨w2.heap.size, 1, none⟩ = some (.int .u64 (iw Y.b)) := k3.cell 1; have l0 : w3.cell? ⟨w.heap.size + 1, 0, none⟩ = some (.int .u64 (iw L.a)) := h3.l.cell 0; have l1 : w3.cell? ⟨w.heap.size + 1, 1, none⟩ = some (.int .u64 (iw L.b)) := h3.l.cell 1)
        have := HT.out
        injection this with hR
        go_ret2
        exact ⟨by rw [← hR, lit0]; rfl, h3.b⟩
      · rw [if_neg c] at hT
        obtain ⟨Q, hQ, hR⟩ : ∃ Q, div64 (orw (shlw (subw Y.a p) 56) (shrw Y.b 8)) (shlw Y.b 56) (slopeS (t + 2) L) = some Q ∧ (Q, true) = R := by
          simpa [Option.map_eq_some_iff] using hT
        have HQ := Lib.hid hQ
        subst hR
        clear hT hQ
        go_wp2_with (refine wpList_store_row rfl 60 _ _ rfl w2.heap.size (fxv Y) rfl rfl 60 #[.int .u64 0, .int .u64 0, .int .u64 0] (Blk.new w2 _ _) hsz rfl (fx_one _) ?_; refine wpList_gen (fun wx => FW x L w wx ∧ Blk wx w2.heap.size 60 (fxv Y)) ⟨⟨(h2.x.alloc _).row_far (by omega) _, (h2.l.alloc _).row_far (by omega) _, below_setRow' (h2.b.alloc h2.b.size _) h2.b.size _⟩, (Blk.new w2 _ _).row_ _⟩ (fun w3 h3 => ?_); obtain ⟨h3, k3⟩ := h3; have y0 : w3.cell? ⟨w2.heap.size, 0, none⟩ = some (.int .u64 (iw Y.a)) := k3.cell 0; have y1 : w3.cell? ⟨w2.heap.size, 1, none⟩ = some (.int .u64 (iw Y.b)) := k3.cell 1; have l0 : w3.cell? ⟨w.heap.size + 1, 0, none⟩ = some (.int .u64 (iw L.a)) := h3.l.cell 0; have l1 : w3.cell? ⟨w.heap.size + 1, 1, none⟩ = some (.int .u64 (iw L.b)) := h3.l.cell 1)
        refine (div64_any _ _ _ Q w3 HQ.out).mono ?_
        rintro e w4 ⟨r4, rfl, m4, rfl⟩
        go_wp2_with fail
        go_ret2
        exact ⟨rfl, below_draws h3.b _⟩
end Go.Proofs.Ytmmijnacgolopaa
