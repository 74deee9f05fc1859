/- The square roots: the cubic roots' text, turned. -/
import Derived.Test.YtmpklbjbdnocoaaSha3
namespace Go.Proofs.Ytmpklbjbdnocoaa
open Go.RowKit
def sstep (b p r : BitVec 64) : BitVec 64 := if ltw (mulHi (orw r b) (orw r b)) p = true then orw r b else r
def sroot : Nat → BitVec 64 → BitVec 64
  | 0, _ => litw 64 0
  | k + 1, p => sstep (bitAt k) p (sroot k p)
structure SR (l : Nat → BitVec 64) (f : Nat → BitVec 64) (w wr : World) : Prop where
  l : Blk wr w.heap.size 58 (r64 8 l)
  z : Blk wr (w.heap.size + 1) 58 (r64 8 fun _ => litw 64 0)
  r : Blk wr (w.heap.size + 1 + 1) 58 (r64 8 f)
  b : Below w.heap.size w wr

theorem zero8 : #[Value.int .u64 0, Value.int .u64 0, Value.int .u64 0, Value.int .u64 0, Value.int .u64 0, Value.int .u64 0, Value.int .u64 0, Value.int .u64 0] = r64 8 fun _ => litw 64 0 := by simp only [r64, iw_zero]; rfl
def inner8 (k j : Nat) (l : Nat → BitVec 64) (i : Nat) : BitVec 64 := if i < j then sroot (k + 1) (l i) else sroot k (l i)
theorem SR.congr {l f g : Nat → BitVec 64} {w wr : World} (h : SR l f w wr) (e : ∀ i, i < 8 → f i = g i) : SR l g w wr :=
  ⟨h.l, h.z, h.r.cast_ (row_ext fun i hi => by rw [e i hi]), h.b⟩
theorem SR.inner80 {l : Nat → BitVec 64} {k : Nat} {w wr : World} (h : SR l (fun j => sroot k (l j)) w wr) : SR l (inner8 k 0 l) w wr :=
  h.congr fun i _ => by simp [inner8]
theorem SR.inner8End {l : Nat → BitVec 64} {k : Nat} {w wr : World} (h : SR l (inner8 k 8 l) w wr) : SR l (fun j => sroot (k + 1) (l j)) w wr :=
  h.congr fun i hi => by simp [inner8, hi]
theorem SR.at_ {l : Nat → BitVec 64} {k j : Nat} {w wr : World} (h : SR l (inner8 k j l) w wr) (hj : j < 8) :
    wr.cell? ⟨w.heap.size + 1 + 1, j, none⟩ = some (.int .u64 (iw (sroot k (l j)))) := by
  have := h.r.at_ hj
  simpa [inner8] using this
theorem SR.put {l : Nat → BitVec 64} {k j : Nat} {w wr : World} (h : SR l (inner8 k j l) w wr) (hj : j < 8) {v : BitVec 64} (hv : v = sstep (bitAt k) (l j) (sroot k (l j))) :
    SR l (inner8 k (j + 1) l) w (wr.setCell ⟨w.heap.size + 1 + 1, j, none⟩ (.int .u64 (iw v))) := by
  refine ⟨h.l.far (by simp; omega) _, h.z.far (by simp) _, ?_, h.b.setCell (by simp; omega) _⟩
  refine (h.r.put hj (.int .u64 (iw v))).cast_ (row_ext fun i hi => ?_)
  by_cases h1 : i = j
  · subst h1; simp [inner8, sroot, hv]
  · by_cases h2 : i < j
    · simp [inner8, h1, h2, Nat.lt_succ_of_lt h2]
    · simp [inner8, h1, h2, show ¬ i < j + 1 by omega]
set_option maxRecDepth 100000 in
set_option maxHeartbeats 1000000 in
theorem squareRoots_any (l : Nat → BitVec 64) (w : World) :
    Calls Try.prog 27 #[.agg (r64 8 l)] w fun e w' => e = .returned (.agg (r64 8 fun j => sroot 35 (l j))) ∧ Below w.heap.size w w' := by
  go_enter Try.func27, Try.ntmps27
  go_wp2_with fail
  go_loopw [11] (fun i wr => ∃ k : Nat, k ≤ 35 ∧ i = .int .i64 k ∧ SR l (fun j => sroot k (l j)) w wr) (fun i _ => 35 - (intOf i).toNat)
  case atStart => exact ⟨0, by omega, rfl, ((Blk.new _ _ _).alloc _).alloc _, ((Blk.new _ _ _).alloc _).cast' ⟨by simp, zero8⟩, (Blk.new _ _ _).cast' ⟨by simp, zero8⟩, (((Below.refl _ _).alloc (by omega) _).alloc (by simp) _).alloc (by simp; omega) _⟩
  case round =>
    obtain ⟨k, hk, rfl, hr⟩ := hrel
    by_cases hlt : k < 35
    · have hsh : IntKind.u64.wrap (2 ^ (34 - k)) = iw (bitAt k) := wrap64_pow (34 - k)
      go_wp2_with (refine wpList_load_row rfl 58 _ rfl w.heap.size rfl 58 _ (0, 0) _ hr.l Try.underlying58 rfl (by kernel_rfl) ?_)
      clear hsh
      obtain ⟨wo, rfl⟩ : ∃ wo : World, wo = wr := ⟨_, rfl⟩
      go_loopw [18] (fun i wr => ∃ j : Nat, j ≤ 8 ∧ i = .int .i64 j ∧ SR l (inner8 k j l) w wr) (fun i _ => 8 - (intOf i).toNat)
      case atStart => exact ⟨0, by omega, rfl, hr.inner80⟩
      case round =>
        obtain ⟨j, hj, rfl, hq⟩ := hrel
        by_cases hjl : j < 8
        · have hix : ∀ w, (Instr.index 58 (.agg (r64 8 l)) (.int .i64 (j : Int))).run Try.prog w = .ok (.int .u64 (iw (l j))) w := fun w =>
            run_index_cell w _ 55 8 _ Try.underlying58 Try.underlying55 rfl (by kernel_rfl) _ _ j hjl (row_get _ hjl) _
          have hc : wr.cell? ⟨w.heap.size + 1 + 1, j, none⟩ = some (.int .u64 (iw (sroot k (l j)))) := hq.at_ hjl
          have hf : wr.frozen? ⟨w.heap.size + 1 + 1, j, none⟩ = false := hq.r.frozen j
          have hlt' : ltw (mulHi (orw (sroot k (l j)) (bitAt k)) (orw (sroot k (l j)) (bitAt k))) (l j) = decide (iw (mulHi (orw (sroot k (l j)) (bitAt k)) (orw (sroot k (l j)) (bitAt k))) < iw (l j)) := rfl
          have key : ∀ v : BitVec 64, v = sstep (bitAt k) (l j) (sroot k (l j)) → SR l (inner8 k (j + 1) l) w (wr.setCell ⟨w.heap.size + 1 + 1, j, none⟩ (.int .u64 (iw v))) := fun v hv => hq.put hjl hv
          rcases hb : ltw (mulHi (orw (sroot k (l j)) (bitAt k)) (orw (sroot k (l j)) (bitAt k))) (l j) with _ | _
          · have K := key (sroot k (l j)) (by unfold sstep; rw [hb]; rfl)
            have hb' : decide (iw (mulHi (orw (sroot k (l j)) (bitAt k)) (orw (sroot k (l j)) (bitAt k))) < iw (l j)) = false := hlt'.symm.trans hb
            clear key hlt' hb
            go_wp2_with (go_at_call 30; refine (mul64_any _ _ _).mono ?_; rintro e w' ⟨rfl, rfl⟩)
            go_roundw
            case rel => exact ⟨j + 1, by omega, by go_num, K⟩
            case measure => simp [intOf]; omega
          · have K := key (orw (sroot k (l j)) (bitAt k)) (by unfold sstep; rw [hb]; rfl)
            have hb' : decide (iw (mulHi (orw (sroot k (l j)) (bitAt k)) (orw (sroot k (l j)) (bitAt k))) < iw (l j)) = true := hlt'.symm.trans hb
            clear key hlt' hb
            go_wp2_with (go_at_call 30; refine (mul64_any _ _ _).mono ?_; rintro e w' ⟨rfl, rfl⟩)
            go_roundw
            case rel => exact ⟨j + 1, by omega, by go_num, K⟩
            case measure => simp [intOf]; omega
        · obtain rfl : j = 8 := by omega
          clear hjl hj
          have K : SR l (fun j => sroot (k + 1) (l j)) w wr := hq.inner8End
          clear hq
          go_wp2_with fail
          go_roundw
          case rel => exact ⟨k + 1, by omega, by go_num, K⟩
          case measure => simp [intOf]; omega
    · obtain rfl : k = 35 := by omega
      clear hlt hk
      have hsz : (Try.prog.info? 58).map (·.size) = some (r64 8 fun j => sroot 35 (l j)).size := by rw [row_size]; kernel_rfl
      have hzz : (r64 8 fun _ => litw 64 0).size = (r64 8 fun j => sroot 35 (l j)).size := by rw [row_size, row_size]
      go_wp2_with (first
        | (refine wpList_load_row rfl 58 _ rfl (w.heap.size + 1 + 1) rfl 58 _ (0, 0) _ hr.r Try.underlying58 rfl (by kernel_rfl) ?_)
        | (refine wpList_store_row rfl 58 _ _ rfl (w.heap.size + 1) (r64 8 fun j => sroot 35 (l j)) rfl rfl 58 (r64 8 fun _ => litw 64 0) hr.z hsz hzz (row_one fun _ => rfl) ?_))
      simp only [Act.put]
      refine bodyPost_ret (results_cell_row rfl _ _ (w.heap.size + 1) 58 (r64 8 fun j => sroot 35 (l j)) (0, 0) _ rfl (hr.z.row_ _) Try.underlying58 rfl hsz) rfl ⟨rfl, below_setRow' hr.b (by omega) _⟩
end Go.Proofs.Ytmpklbjbdnocoaa
