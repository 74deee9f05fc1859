/- The document's answer to chapter 3: Sub. -/
import Derived.Test.YtjggclhhimccoaaFn
namespace Go.Proofs.Ytjggclhhimccoaa
open Go.RowKit
set_option maxRecDepth 100000 in
set_option maxHeartbeats 1000000 in
theorem sub_any (a b : Nat) (w : World) (ha : a < M256) (hb : b < M256) :
    Calls Try.prog 15 #[.agg (r64 4 (F4 a)), .agg (r64 4 (F4 b))] w fun e w' => e = .returned (.agg (r64 4 (F4 ((a + (pP - b % pP) % pP) % pP)))) ∧ Below w.heap.size w w' := by
  have hs4 : ∀ f : Nat → BitVec 64, (Try.prog.info? 24).map (·.size) = some (r64 4 f).size := fun f => by rw [row_size]; kernel_rfl
  have HS4 := Lib.hid hs4
  clear hs4
  have hn : (pP - b % pP) % pP < M256 := Nat.lt_trans (Nat.mod_lt _ (by decide)) (by decide)
  have hneg := fun w => neg_any b w hb
  have hadd := fun w => add_any a ((pP - b % pP) % pP) w ha hn
  obtain ⟨r, hr⟩ : ∃ r, r = (a + (pP - b % pP) % pP) % pP := ⟨_, rfl⟩
  rw [← hr] at hadd
  have HR := Lib.hid hr
  clear hr hn
  generalize (pP - b % pP) % pP = n at hneg hadd HR
  have HNEG := Lib.hid hneg
  have HADD := Lib.hid hadd
  clear hneg hadd
  go_enter Try.func15, Try.ntmps15
  go_wp2_with fail
  refine wp_gen (A2 a b w) ⟨((Blk.new w _ _).alloc _).alloc _, ((Blk.new (w.alloc _) _ _).cast' ⟨by simp, rfl⟩).alloc _, (Blk.new _ _ _).cast' ⟨by simp, zero4⟩, (((Below.refl _ _).alloc (Nat.le_refl _) _).alloc (by simp) _).alloc (by simp; omega) _⟩ (fun w1 h1 => ?_)
  have h2 : A2 a b w w1.drew := ⟨h1.da, h1.db, h1.r, h1.l.drew⟩
  clear h1
  refine wp_region_any (by kernel_rfl) ?_
  change wpAny _ _ _ _ _ _ _ w1.drew
  generalize w1.drew = w2 at h2 ⊢
  refine wpAny_ready (rs := [0, 1]) (by kernel_rfl) (by simp) (AllReady.cons rfl (fun K hK => ?_) (AllReady.cons rfl (fun K hK => ?_) AllReady.nil))
  · refine step_load_row rfl 24 _ rfl w.heap.size rfl 24 (r64 4 (F4 a)) _ h2.da Try.underlying24 rfl (HS4.out _) (hK _ _ ?_)
    refine wpAny_ready (rs := [1]) (by kernel_rfl) (by simp) (AllReady.cons rfl (fun K hK => ?_) AllReady.nil)
    refine step_load_row rfl 24 _ rfl (w.heap.size + 1) rfl 24 (r64 4 (F4 b)) _ h2.db Try.underlying24 rfl (HS4.out _) (hK _ _ ?_)
    refine wpAny_ready (rs := [2]) (by kernel_rfl) (by simp) (AllReady.cons rfl (fun K hK => ?_) AllReady.nil)
    go_simp
    refine (HNEG.out _).mono ?_
    rintro e w3 ⟨rfl, hq⟩
    have h3 := h2.below hq
    clear h2 hq
    go_simp
    refine hK _ _ ?_
    refine wpAny_ready (rs := [3]) (by kernel_rfl) (by simp) (AllReady.cons rfl (fun K hK => ?_) AllReady.nil)
    go_simp
    refine (HADD.out _).mono ?_
    rintro e w4 ⟨rfl, hq⟩
    have h4 := h3.below hq
    clear h3 hq
    go_simp
    refine hK _ _ ?_
    refine wpAny_ready (rs := [4]) (by kernel_rfl) (by simp) (AllReady.cons rfl (fun K hK => ?_) AllReady.nil)
    refine step_store_row rfl 24 _ _ rfl (w.heap.size + 2) (r64 4 (F4 r)) rfl rfl 24 _ h4.r (by rw [row_size, row_size]) (HS4.out _) (row_one fun _ => rfl) (hK _ _ ?_)
    refine wpAny_done (by kernel_rfl) ?_ _
    have hz := h4.r
    have hl := h4.l
    clear h4
    go_wp2_with fail
    exact bodyPost_ret (results_cell_row rfl _ _ (w.heap.size + 2) 24 (r64 4 (F4 r)) (0, 0) _ rfl (hz.row_ _) Try.underlying24 rfl (HS4.out _)) rfl ⟨by rw [← HR.out], below_setRow' hl (by omega) _⟩
  · refine step_load_row rfl 24 _ rfl (w.heap.size + 1) rfl 24 (r64 4 (F4 b)) _ h2.db Try.underlying24 rfl (HS4.out _) (hK _ _ ?_)
    refine wpAny_ready (rs := [0, 2]) (by kernel_rfl) (by simp) (AllReady.cons rfl (fun K hK => ?_) (AllReady.cons rfl (fun K hK => ?_) AllReady.nil))
    · refine step_load_row rfl 24 _ rfl w.heap.size rfl 24 (r64 4 (F4 a)) _ h2.da Try.underlying24 rfl (HS4.out _) (hK _ _ ?_)
      refine wpAny_ready (rs := [2]) (by kernel_rfl) (by simp) (AllReady.cons rfl (fun K hK => ?_) AllReady.nil)
      go_simp
      refine (HNEG.out _).mono ?_
      rintro e w3 ⟨rfl, hq⟩
      have h3 := h2.below hq
      clear h2 hq
      go_simp
      refine hK _ _ ?_
      refine wpAny_ready (rs := [3]) (by kernel_rfl) (by simp) (AllReady.cons rfl (fun K hK => ?_) AllReady.nil)
      go_simp
      refine (HADD.out _).mono ?_
      rintro e w4 ⟨rfl, hq⟩
      have h4 := h3.below hq
      clear h3 hq
      go_simp
      refine hK _ _ ?_
      refine wpAny_ready (rs := [4]) (by kernel_rfl) (by simp) (AllReady.cons rfl (fun K hK => ?_) AllReady.nil)
      refine step_store_row rfl 24 _ _ rfl (w.heap.size + 2) (r64 4 (F4 r)) rfl rfl 24 _ h4.r (by rw [row_size, row_size]) (HS4.out _) (row_one fun _ => rfl) (hK _ _ ?_)
      refine wpAny_done (by kernel_rfl) ?_ _
      have hz := h4.r
      have hl := h4.l
      clear h4
      go_wp2_with fail
      exact bodyPost_ret (results_cell_row rfl _ _ (w.heap.size + 2) 24 (r64 4 (F4 r)) (0, 0) _ rfl (hz.row_ _) Try.underlying24 rfl (HS4.out _)) rfl ⟨by rw [← HR.out], below_setRow' hl (by omega) _⟩
    · go_simp
      refine (HNEG.out _).mono ?_
      rintro e w3 ⟨rfl, hq⟩
      have h3 := h2.below hq
      clear h2 hq
      go_simp
      refine hK _ _ ?_
      refine wpAny_ready (rs := [0]) (by kernel_rfl) (by simp) (AllReady.cons rfl (fun K hK => ?_) AllReady.nil)
      refine step_load_row rfl 24 _ rfl w.heap.size rfl 24 (r64 4 (F4 a)) _ h3.da Try.underlying24 rfl (HS4.out _) (hK _ _ ?_)
      refine wpAny_ready (rs := [3]) (by kernel_rfl) (by simp) (AllReady.cons rfl (fun K hK => ?_) AllReady.nil)
      go_simp
      refine (HADD.out _).mono ?_
      rintro e w4 ⟨rfl, hq⟩
      have h4 := h3.below hq
      clear h3 hq
      go_simp
      refine hK _ _ ?_
      refine wpAny_ready (rs := [4]) (by kernel_rfl) (by simp) (AllReady.cons rfl (fun K hK => ?_) AllReady.nil)
      refine step_store_row rfl 24 _ _ rfl (w.heap.size + 2) (r64 4 (F4 r)) rfl rfl 24 _ h4.r (by rw [row_size, row_size]) (HS4.out _) (row_one fun _ => rfl) (hK _ _ ?_)
      refine wpAny_done (by kernel_rfl) ?_ _
      have hz := h4.r
      have hl := h4.l
      clear h4
      go_wp2_with fail
      exact bodyPost_ret (results_cell_row rfl _ _ (w.heap.size + 2) 24 (r64 4 (F4 r)) (0, 0) _ rfl (hz.row_ _) Try.underlying24 rfl (HS4.out _)) rfl ⟨by rw [← HR.out], below_setRow' hl (by omega) _⟩
end Go.Proofs.Ytjggclhhimccoaa
