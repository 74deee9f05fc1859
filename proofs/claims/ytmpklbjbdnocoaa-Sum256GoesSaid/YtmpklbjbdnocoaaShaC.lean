/- constants. -/
import Derived.Test.YtmpklbjbdnocoaaShaP
import Derived.Test.YtmpklbjbdnocoaaSha4
import Derived.Test.YtmpklbjbdnocoaaSha5
namespace Go.Proofs.Ytmpklbjbdnocoaa
open Go.RowKit
theorem results_cell2_row {P : Program} {fn : Func} {p q : Tmp} {tp tq : TypeId} (h : fn.results = #[.cell p tp, .cell q tq]) (tmps : Array Value) (w : World) (g k : Nat) (t u : TypeId) (cs ds : Array Value) (d e : TypeDesc)
    (hp : tmps.getD p undef = .pointer (some ⟨g, 0, none⟩)) (hq : tmps.getD q undef = .pointer (some ⟨k, 0, none⟩)) (hg : Blk w g t cs) (hk : Blk w k u ds)
    (hu : P.underlying tp = some d) (hd : (match d with | .struct _ | .array _ _ => true | _ => false) = true) (hi : (P.info? tp).map (·.size) = some cs.size)
    (hv : P.underlying tq = some e) (he : (match e with | .struct _ | .array _ _ => true | _ => false) = true) (hj : (P.info? tq).map (·.size) = some ds.size) :
    (results fn tmps).run P w = .ok (.tuple #[.agg cs, .agg ds]) w := by
  have hp' : tmps[p]?.getD undef = .pointer (some ⟨g, 0, none⟩) := by simpa using hp
  have hq' : tmps[q]?.getD undef = .pointer (some ⟨k, 0, none⟩) := by simpa using hq
  simp [results, h, hp', hq', asAddr, run_loadVar_row w g t tp cs (0, 0) d hg hu hd hi, run_loadVar_row w k u tq ds (0, 0) e hk hv he hj]
def firstC (i : Nat) : BitVec 32 := castw 32 (sroot 35 (litw 64 (pr i)))
def keysC (i : Nat) : BitVec 32 := castw 32 (croot 35 (litw 64 (pr i)))
def upto (j : Nat) (f : Nat → BitVec 32) (i : Nat) : BitVec 32 := if i < j then f i else litw 32 0
structure CW (w : World) (b : Nat) (f k : Nat → BitVec 32) (wr : World) : Prop where
  f : Blk wr w.heap.size 42 (r32 8 f)
  k : Blk wr (w.heap.size + 1) 43 (r32 64 k)
  l : Blk wr b 56 (r64 64 fun i => litw 64 (pr i))
  o : Below w.heap.size w wr
  lt : w.heap.size + 1 < b
section
variable {w wr : World} {bl j : Nat} {f k : Nat → BitVec 32}
theorem upto_step (f : Nat → BitVec 32) (n j i : Nat) (v : BitVec 32) (hv : v = f j) (_h : i < n) : (if i = j then Value.int .u32 (iw v) else .int .u32 (iw (upto j f i))) = .int .u32 (iw (upto (j + 1) f i)) := by
  by_cases h1 : i = j
  · subst h1; simp [upto, hv]
  · by_cases h2 : i < j
    · simp [upto, h1, h2, Nat.lt_succ_of_lt h2]
    · simp [upto, h1, h2, show ¬ i < j + 1 by omega]
theorem CW.putF (h : CW w bl (upto j f) k wr) (hj : j < 8) (v : BitVec 32) (hv : v = f j) : CW w bl (upto (j + 1) f) k (wr.setCell ⟨w.heap.size, j, none⟩ (.int .u32 (iw v))) :=
  ⟨(h.f.put hj _).cast_ (row_ext fun i hi => upto_step f 8 j i v hv hi), h.k.far (by simp) _, h.l.far (by have := h.lt; simp; omega) _, h.o.setCell (by simp) _, h.lt⟩
theorem CW.putK (h : CW w bl f (upto j k) wr) (hj : j < 64) (v : BitVec 32) (hv : v = k j) : CW w bl f (upto (j + 1) k) (wr.setCell ⟨w.heap.size + 1, j, none⟩ (.int .u32 (iw v))) :=
  ⟨h.f.far (by simp) _, (h.k.put hj _).cast_ (row_ext fun i hi => upto_step k 64 j i v hv hi), h.l.far (by have := h.lt; simp; omega) _, h.o.setCell (by simp) _, h.lt⟩
end
theorem zero32_8 : #[Value.int .u32 0, .int .u32 0, .int .u32 0, .int .u32 0, .int .u32 0, .int .u32 0, .int .u32 0, .int .u32 0] = r32 8 fun _ => litw 32 0 := by simp only [r32, iw_zero]; rfl
theorem arr8 (a : Addr) (w : World) : (Instr.arrayAt 58 (.slice (some a) 8 64)).run Try.prog w = .ok (.pointer (some a)) w := by kernel_rfl
set_option maxRecDepth 100000 in
set_option maxHeartbeats 2000000 in
theorem constants_any (w : World) :
    Calls Try.prog 19 #[] w fun e w' => e = .returned (.tuple #[.agg (r32 8 firstC), .agg (r32 64 keysC)]) ∧ Below w.heap.size w w' := by
  have hsz : (Try.prog.info? 56).map (·.size) = some (r64 64 fun i => litw 64 (pr i)).size := by rw [row_size]; kernel_rfl
  have har := arr8
  go_enter Try.func19, Try.ntmps19
  go_wp2_with (first
    | (go_at_call 26; refine (primes_any _).mono ?_; rintro e w1 ⟨rfl, hb1⟩)
    | (refine wpList_store_row rfl 56 _ _ rfl w1.heap.size (r64 64 fun i => litw 64 (pr i)) rfl rfl 56 _ (Blk.new w1 _ _) hsz (by rw [row_size]; rfl) (row_one fun _ => rfl) ?_)
    | (refine wpList_load_part rfl 58 _ rfl w1.heap.size 0 8 64 (fun i => .int .u64 (iw (litw 64 (pr i)))) rfl 56 ((Blk.new w1 _ _).row_ _) (by omega) _ Try.underlying58 rfl (by kernel_rfl) ?_)
    | (go_at_call 27; refine (squareRoots_any (fun i => litw 64 (pr (0 + i))) _).mono ?_; rintro e w2 ⟨rfl, hb2⟩))
  clear har hsz
  have hs1 : w.heap.size + 1 < w1.heap.size := by have := hb1.size; simp at this; omega
  have hw2 : CW w w1.heap.size (upto 0 firstC) (upto 0 keysC) w2 := by
    have h0 : Blk w1 w.heap.size 42 (r32 8 fun _ => litw 32 0) := (((Blk.new w _ _).alloc _).below hb1 (by simp; omega)).cast_ zero32_8
    have h1 : Blk w1 (w.heap.size + 1) 43 (r32 64 fun _ => litw 32 0) := (((Blk.new (w.alloc _) _ _).cast' ⟨by simp, rfl⟩).below hb1 (by simp)).cast_ zero32
    refine ⟨?_, ?_, ?_, ?_, hs1⟩
    · exact (((h0.alloc _).row_far (by omega) _).below hb2 (by simp; omega)).cast_ (row_ext fun i _ => by simp [upto])
    · exact (((h1.alloc _).row_far (by omega) _).below hb2 (by simp; omega)).cast_ (row_ext fun i _ => by simp [upto])
    · exact ((Blk.new w1 _ _).row_ _).below hb2 (by simp)
    · refine Below.trans ?_ (hb2.mono (by simp; omega))
      exact below_setRow' ((((Below.refl w.heap.size w).alloc (by omega) _).alloc (by simp) _).trans (hb1.mono (by simp; omega)) |>.alloc (by omega) _) (by omega) _
  clear hb1 hb2 hs1
  generalize w1.heap.size = bl at hw2 ⊢
  go_loopw [12] (fun i wr => ∃ j : Nat, j ≤ 8 ∧ i = .int .i64 j ∧ CW w bl (upto j firstC) (upto 0 keysC) wr) (fun i _ => 8 - (intOf i).toNat)
  case atStart => exact ⟨0, by omega, rfl, hw2⟩
  case round =>
    obtain ⟨j, hj, rfl, hr⟩ := hrel
    clear hw2
    by_cases hjl : j < 8
    · have hix : ∀ w, (Instr.index 58 (.agg (r64 8 fun j => sroot 35 (litw 64 (pr j)))) (.int .i64 (j : Int))).run Try.prog w = .ok (.int .u64 (iw (sroot 35 (litw 64 (pr j))))) w := fun w =>
        run_index_cell w _ 55 8 _ Try.underlying58 Try.underlying55 rfl (by kernel_rfl) _ _ j hjl (row_get _ hjl) _
      have hal : Try.prog.arrayLen 42 = 8 := by kernel_rfl
      have hc := hr.f.at_ hjl
      have hf := hr.f.frozen j
      have K := hr.putF hjl (castw 32 (sroot 35 (litw 64 (pr j)))) rfl
      clear hr
      go_wp2_with fail
      go_roundw
      case rel => exact ⟨j + 1, by omega, by go_num, K⟩
      case measure => simp [intOf]; omega
    · obtain rfl : j = 8 := by omega
      clear hjl hj
      go_wp2_with (first
        | (refine wpList_load_row rfl 56 _ rfl bl rfl 56 _ (0, 0) _ hr.l Try.underlying56 rfl (by kernel_rfl) ?_)
        | (go_at_call 28; refine (cubicRoots_any (fun i => litw 64 (pr i)) _).mono ?_; rintro e w3 ⟨rfl, hb3⟩))
      have h3 : CW w bl (upto 8 firstC) (upto 0 keysC) w3 :=
        ⟨hr.f.below hb3 (hr.f.lt), hr.k.below hb3 hr.k.lt, hr.l.below hb3 hr.l.lt, hr.o.trans (hb3.mono (by have := hr.o.size; omega)), hr.lt⟩
      clear hr hb3
      go_loopw [23] (fun i wr => ∃ j : Nat, j ≤ 64 ∧ i = .int .i64 j ∧ CW w bl (upto 8 firstC) (upto j keysC) wr) (fun i _ => 64 - (intOf i).toNat)
      case atStart => exact ⟨0, by omega, rfl, h3⟩
      case round =>
        obtain ⟨j, hj, rfl, hr⟩ := hrel
        clear h3
        by_cases hjl : j < 64
        · have hix : ∀ w, (Instr.index 56 (.agg (r64 64 fun j => croot 35 (litw 64 (pr j)))) (.int .i64 (j : Int))).run Try.prog w = .ok (.int .u64 (iw (croot 35 (litw 64 (pr j))))) w := fun w =>
            run_index_cell w _ 55 64 _ Try.underlying56 Try.underlying55 rfl (by kernel_rfl) _ _ j hjl (row_get _ hjl) _
          have hal : Try.prog.arrayLen 43 = 64 := by kernel_rfl
          have hc := hr.k.at_ hjl
          have hf := hr.k.frozen j
          have K := hr.putK hjl (castw 32 (croot 35 (litw 64 (pr j)))) rfl
          clear hr
          go_wp2_with fail
          go_roundw
          case rel => exact ⟨j + 1, by omega, by go_num, K⟩
          case measure => simp [intOf]; omega
        · obtain rfl : j = 64 := by omega
          clear hjl hj
          go_wp2_with fail
          have hf : Blk wr.drew w.heap.size 42 (r32 8 firstC) := hr.f.cast_ (row_ext fun i hi => by simp [upto, hi])
          have hk : Blk wr.drew (w.heap.size + 1) 43 (r32 64 keysC) := hr.k.cast_ (row_ext fun i hi => by simp [upto, hi])
          have hb := hr.o.drew
          have i8 : (Try.prog.info? 42).map (·.size) = some (r32 8 firstC).size := by rw [row_size]; kernel_rfl
          have i64 : (Try.prog.info? 43).map (·.size) = some (r32 64 keysC).size := by rw [row_size]; kernel_rfl
          have o8 : (r32 8 firstC).all (·.oneCell') = true := row_one fun _ => rfl
          have o64 : (r32 64 keysC).all (·.oneCell') = true := row_one fun _ => rfl
          clear hr
          refine wp_region_any (by kernel_rfl) ?_
          change wpAny _ _ _ _ _ _ _ wr.drew
          generalize wr.drew = w9 at hf hk hb ⊢
          refine wpAny_ready (rs := [0, 1]) (by kernel_rfl) (by simp) (AllReady.cons rfl (fun K hK => ?_) (AllReady.cons rfl (fun K hK => ?_) AllReady.nil))
          · refine step_load_row rfl _ _ rfl w.heap.size rfl _ _ _ hf Try.underlying42 rfl i8 (hK _ _ ?_)
            refine wpAny_ready (rs := [1, 2]) (by kernel_rfl) (by simp) (AllReady.cons rfl (fun K hK => ?_) (AllReady.cons rfl (fun K hK => ?_) AllReady.nil))
            · refine step_load_row rfl _ _ rfl (w.heap.size + 1) rfl _ _ _ hk Try.underlying43 rfl i64 (hK _ _ ?_)
              refine wpAny_ready (rs := [2]) (by kernel_rfl) (by simp) (AllReady.cons rfl (fun K hK => ?_) AllReady.nil)
              refine step_store_same rfl _ _ _ rfl w.heap.size _ rfl rfl _ hf i8 o8 (hK _ _ ?_)
              refine wpAny_ready (rs := [3]) (by kernel_rfl) (by simp) (AllReady.cons rfl (fun K hK => ?_) AllReady.nil)
              refine step_store_same rfl _ _ _ rfl (w.heap.size + 1) _ rfl rfl _ hk i64 o64 (hK _ _ ?_)
              refine wpAny_done (by kernel_rfl) ?_ _
              go_wp2_with fail
              exact bodyPost_ret (results_cell2_row rfl _ _ w.heap.size (w.heap.size + 1) _ _ _ _ _ _ rfl rfl hf hk Try.underlying42 rfl i8 Try.underlying43 rfl i64) rfl ⟨rfl, hb⟩
            · refine step_store_same rfl _ _ _ rfl w.heap.size _ rfl rfl _ hf i8 o8 (hK _ _ ?_)
              refine wpAny_ready (rs := [1]) (by kernel_rfl) (by simp) (AllReady.cons rfl (fun K hK => ?_) AllReady.nil)
              refine step_load_row rfl _ _ rfl (w.heap.size + 1) rfl _ _ _ hk Try.underlying43 rfl i64 (hK _ _ ?_)
              refine wpAny_ready (rs := [3]) (by kernel_rfl) (by simp) (AllReady.cons rfl (fun K hK => ?_) AllReady.nil)
              refine step_store_same rfl _ _ _ rfl (w.heap.size + 1) _ rfl rfl _ hk i64 o64 (hK _ _ ?_)
              refine wpAny_done (by kernel_rfl) ?_ _
              go_wp2_with fail
              exact bodyPost_ret (results_cell2_row rfl _ _ w.heap.size (w.heap.size + 1) _ _ _ _ _ _ rfl rfl hf hk Try.underlying42 rfl i8 Try.underlying43 rfl i64) rfl ⟨rfl, hb⟩
          · refine step_load_row rfl _ _ rfl (w.heap.size + 1) rfl _ _ _ hk Try.underlying43 rfl i64 (hK _ _ ?_)
            refine wpAny_ready (rs := [0]) (by kernel_rfl) (by simp) (AllReady.cons rfl (fun K hK => ?_) AllReady.nil)
            refine step_load_row rfl _ _ rfl w.heap.size rfl _ _ _ hf Try.underlying42 rfl i8 (hK _ _ ?_)
            refine wpAny_ready (rs := [2]) (by kernel_rfl) (by simp) (AllReady.cons rfl (fun K hK => ?_) AllReady.nil)
            refine step_store_same rfl _ _ _ rfl w.heap.size _ rfl rfl _ hf i8 o8 (hK _ _ ?_)
            refine wpAny_ready (rs := [3]) (by kernel_rfl) (by simp) (AllReady.cons rfl (fun K hK => ?_) AllReady.nil)
            refine step_store_same rfl _ _ _ rfl (w.heap.size + 1) _ rfl rfl _ hk i64 o64 (hK _ _ ?_)
            refine wpAny_done (by kernel_rfl) ?_ _
            go_wp2_with fail
            exact bodyPost_ret (results_cell2_row rfl _ _ w.heap.size (w.heap.size + 1) _ _ _ _ _ _ rfl rfl hf hk Try.underlying42 rfl i8 Try.underlying43 rfl i64) rfl ⟨rfl, hb⟩
end Go.Proofs.Ytmpklbjbdnocoaa
