/- The roots. -/
import Derived.Test.YtmpklbjbdnocoaaRows2
import Derived.Test.YtmpklbjbdnocoaaSha2
namespace Go.Proofs.Ytmpklbjbdnocoaa
open Go.RowKit
abbrev r64 (n : Nat) (f : Nat → BitVec 64) : Array Value := row n fun i => Value.int .u64 (iw (f i))
def bitAt (i : Nat) : BitVec 64 := shlw (litw 64 1) (34 - i)
def ltw {n : Nat} (x y : BitVec n) : Bool := decide (iw x < iw y)
def cstep (b p r : BitVec 64) : BitVec 64 := if ltw (cubeS (orw r b)) (shlw p 32) = true then orw r b else r
def croot : Nat → BitVec 64 → BitVec 64
  | 0, _ => litw 64 0
  | k + 1, p => cstep (bitAt k) p (croot k p)
structure CR (l : Nat → BitVec 64) (f : Nat → BitVec 64) (w wr : World) : Prop where
  l : Blk wr w.heap.size 56 (r64 64 l)
  z : Blk wr (w.heap.size + 1) 56 (r64 64 fun _ => litw 64 0)
  r : Blk wr (w.heap.size + 1 + 1) 56 (r64 64 f)
  b : Below w.heap.size w wr

theorem zero64 : #[Value.int .u64 0, Value.int .u64 0, Value.int .u64 0, Value.int .u64 0, Value.int .u64 0, Value.int .u64 0, Value.int .u64 0, Value.int .u64 0, Value.int .u64 0, Value.int .u64 0, Value.int .u64 0, Value.int .u64 0, Value.int .u64 0, Value.int .u64 0, Value.int .u64 0, Value.int .u64 0, Value.int .u64 0, Value.int .u64 0, Value.int .u64 0, Value.int .u64 0, Value.int .u64 0, Value.int .u64 0, Value.int .u64 0, Value.int .u64 0, Value.int .u64 0, Value.int .u64 0, Value.int .u64 0, Value.int .u64 0, Value.int .u64 0, Value.int .u64 0, Value.int .u64 0, Value.int .u64 0, Value.int .u64 0, Value.int .u64 0, Value.int .u64 0, Value.int .u64 0, Value.int .u64 0, Value.int .u64 0, Value.int .u64 0, Value.int .u64 0, Value.int .u64 0, Value.int .u64 0, Value.int .u64 0, Value.int .u64 0, Value.int .u64 0, Value.int .u64 0, Value.int .u64 0, Value.int .u64 0, Value.int .u64 0, Value.int .u64 0, Value.int .u64 0, Value.int .u64 0, Value.int .u64 0, Value.int .u64 0, Value.int .u64 0, Value.int .u64 0, Value.int .u64 0, Value.int .u64 0, Value.int .u64 0, Value.int .u64 0, Value.int .u64 0, Value.int .u64 0, Value.int .u64 0, Value.int .u64 0] = r64 64 fun _ => litw 64 0 := by simp only [r64, iw_zero]; rfl
def inner (k j : Nat) (l : Nat → BitVec 64) (i : Nat) : BitVec 64 := if i < j then croot (k + 1) (l i) else croot k (l i)
theorem CR.congr {l f g : Nat → BitVec 64} {w wr : World} (h : CR l f w wr) (e : ∀ i, i < 64 → f i = g i) : CR l g w wr :=
  ⟨h.l, h.z, h.r.cast_ (row_ext fun i hi => by rw [e i hi]), h.b⟩
theorem CR.inner0 {l : Nat → BitVec 64} {k : Nat} {w wr : World} (h : CR l (fun j => croot k (l j)) w wr) : CR l (inner k 0 l) w wr :=
  h.congr fun i _ => by simp [inner]
theorem CR.inner64 {l : Nat → BitVec 64} {k : Nat} {w wr : World} (h : CR l (inner k 64 l) w wr) : CR l (fun j => croot (k + 1) (l j)) w wr :=
  h.congr fun i hi => by simp [inner, hi]
theorem CR.at_ {l : Nat → BitVec 64} {k j : Nat} {w wr : World} (h : CR l (inner k j l) w wr) (hj : j < 64) :
    wr.cell? ⟨w.heap.size + 1 + 1, j, none⟩ = some (.int .u64 (iw (croot k (l j)))) := by
  have := h.r.at_ hj
  simpa [inner] using this
theorem CR.put {l : Nat → BitVec 64} {k j : Nat} {w wr : World} (h : CR l (inner k j l) w wr) (hj : j < 64) {v : BitVec 64} (hv : v = cstep (bitAt k) (l j) (croot k (l j))) :
    CR l (inner k (j + 1) l) w (wr.setCell ⟨w.heap.size + 1 + 1, j, none⟩ (.int .u64 (iw v))) := by
  refine ⟨h.l.far (by simp; omega) _, h.z.far (by simp) _, ?_, h.b.setCell (by simp; omega) _⟩
  refine (h.r.put hj (.int .u64 (iw v))).cast_ (row_ext fun i hi => ?_)
  by_cases h1 : i = j
  · subst h1; simp [inner, croot, hv]
  · by_cases h2 : i < j
    · simp [inner, h1, h2, Nat.lt_succ_of_lt h2]
    · simp [inner, h1, h2, show ¬ i < j + 1 by omega]
set_option maxRecDepth 100000 in
set_option maxHeartbeats 1000000 in
theorem cubicRoots_any (l : Nat → BitVec 64) (w : World) :
    Calls Try.prog 28 #[.agg (r64 64 l)] w fun e w' => e = .returned (.agg (r64 64 fun j => croot 35 (l j))) ∧ Below w.heap.size w w' := by
  go_enter Try.func28, Try.ntmps28
  go_wp2_with fail
  go_loopw [9] (fun i wr => ∃ k : Nat, k ≤ 35 ∧ i = .int .i64 k ∧ CR l (fun j => croot k (l j)) w wr) (fun i _ => 35 - (intOf i).toNat)
  case atStart => exact ⟨0, by omega, rfl, ((Blk.new _ _ _).alloc _).alloc _, ((Blk.new _ _ _).alloc _).cast' ⟨by simp, zero64⟩, (Blk.new _ _ _).cast' ⟨by simp, zero64⟩, (((Below.refl _ _).alloc (by omega) _).alloc (by simp) _).alloc (by simp; omega) _⟩
  case round =>
    obtain ⟨k, hk, rfl, hr⟩ := hrel
    by_cases hlt : k < 35
    · have hsh : IntKind.u64.wrap (2 ^ (34 - k)) = iw (bitAt k) := wrap64_pow (34 - k)
      go_wp2_with (refine wpList_load_row rfl 56 _ rfl w.heap.size rfl 56 _ (0, 0) _ hr.l Try.underlying56 rfl (by kernel_rfl) ?_)
      clear hsh
      obtain ⟨wo, rfl⟩ : ∃ wo : World, wo = wr := ⟨_, rfl⟩
      go_loopw [16] (fun i wr => ∃ j : Nat, j ≤ 64 ∧ i = .int .i64 j ∧ CR l (inner k j l) w wr) (fun i _ => 64 - (intOf i).toNat)
      case atStart => exact ⟨0, by omega, rfl, hr.inner0⟩
      case round =>
        obtain ⟨j, hj, rfl, hq⟩ := hrel
        by_cases hjl : j < 64
        · have hix : ∀ w, (Instr.index 56 (.agg (r64 64 l)) (.int .i64 (j : Int))).run Try.prog w = .ok (.int .u64 (iw (l j))) w := fun w =>
            run_index_cell w _ 55 64 _ Try.underlying56 Try.underlying55 rfl (by kernel_rfl) _ _ j hjl (row_get _ hjl) _
          have hc : wr.cell? ⟨w.heap.size + 1 + 1, j, none⟩ = some (.int .u64 (iw (croot k (l j)))) := hq.at_ hjl
          have hf : wr.frozen? ⟨w.heap.size + 1 + 1, j, none⟩ = false := hq.r.frozen j
          have hlt' : ltw (cubeS (orw (croot k (l j)) (bitAt k))) (shlw (l j) 32) = decide (iw (cubeS (orw (croot k (l j)) (bitAt k))) < iw (shlw (l j) 32)) := rfl
          have key : ∀ v : BitVec 64, v = cstep (bitAt k) (l j) (croot k (l j)) → CR l (inner k (j + 1) l) w (wr.setCell ⟨w.heap.size + 1 + 1, j, none⟩ (.int .u64 (iw v))) := fun v hv => hq.put hjl hv
          rcases hb : ltw (cubeS (orw (croot k (l j)) (bitAt k))) (shlw (l j) 32) with _ | _
          · have K := key (croot k (l j)) (by unfold cstep; rw [hb]; rfl)
            have hb' : decide (iw (cubeS (orw (croot k (l j)) (bitAt k))) < iw (shlw (l j) 32)) = false := hlt'.symm.trans hb
            clear key hlt' hb
            go_wp2_with (go_at_call 31; refine (cube_any _ _).mono ?_; rintro e w' ⟨rfl, rfl⟩)
            go_roundw
            case rel => exact ⟨j + 1, by omega, by go_num, K⟩
            case measure => simp [intOf]; omega
          · have K := key (orw (croot k (l j)) (bitAt k)) (by unfold cstep; rw [hb]; rfl)
            have hb' : decide (iw (cubeS (orw (croot k (l j)) (bitAt k))) < iw (shlw (l j) 32)) = true := hlt'.symm.trans hb
            clear key hlt' hb
            go_wp2_with (go_at_call 31; refine (cube_any _ _).mono ?_; rintro e w' ⟨rfl, rfl⟩)
            go_roundw
            case rel => exact ⟨j + 1, by omega, by go_num, K⟩
            case measure => simp [intOf]; omega
        · obtain rfl : j = 64 := by omega
          clear hjl hj
          have K : CR l (fun j => croot (k + 1) (l j)) w wr := hq.inner64
          clear hq
          go_wp2_with fail
          go_roundw
          case rel => exact ⟨k + 1, by omega, by go_num, K⟩
          case measure => simp [intOf]; omega
    · obtain rfl : k = 35 := by omega
      clear hlt hk
      have hsz : (Try.prog.info? 56).map (·.size) = some (r64 64 fun j => croot 35 (l j)).size := by rw [row_size]; kernel_rfl
      have hzz : (r64 64 fun _ => litw 64 0).size = (r64 64 fun j => croot 35 (l j)).size := by rw [row_size, row_size]
      go_wp2_with (first
        | (refine wpList_load_row rfl 56 _ rfl (w.heap.size + 1 + 1) rfl 56 _ (0, 0) _ hr.r Try.underlying56 rfl (by kernel_rfl) ?_)
        | (refine wpList_store_row rfl 56 _ _ rfl (w.heap.size + 1) (r64 64 fun j => croot 35 (l j)) rfl rfl 56 (r64 64 fun _ => litw 64 0) hr.z hsz hzz (row_one fun _ => rfl) ?_))
      simp only [Act.put]
      refine bodyPost_ret (results_cell_row rfl _ _ (w.heap.size + 1) 56 (r64 64 fun j => croot 35 (l j)) (0, 0) _ rfl (hr.z.row_ _) Try.underlying56 rfl hsz) rfl ⟨rfl, below_setRow' hr.b (by omega) _⟩
end Go.Proofs.Ytmpklbjbdnocoaa
