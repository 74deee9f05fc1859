/- The document's answer to chapter 3: Neg. -/
import Derived.Test.YtjggclhhimccoaaFi
namespace Go.Proofs.Ytjggclhhimccoaa
open Go.RowKit
structure NW (a : Nat) (w wr : World) : Prop where
  d : Blk wr w.heap.size 24 (r64 4 (F4 a))
  r : Blk wr (w.heap.size + 1) 24 (r64 4 fun _ => litw 64 0)
  l : Below w.heap.size w wr
theorem NW.below {a : Nat} {w wr w' : World} (h : NW a w wr) (hb : Below wr.heap.size wr w') : NW a w w' := ⟨h.d.below hb h.d.lt, h.r.below hb h.r.lt, h.l.trans (hb.mono h.l.size)⟩
theorem N8_row_turn (x : Nat) : r32 8 (N8 (x + M256)) = r32 8 (N8 x) := row_ext fun i hi => by rw [N8_turn x i hi]
set_option maxRecDepth 100000 in
set_option maxHeartbeats 1000000 in
theorem neg_any (a : Nat) (w : World) (ha : a < M256) :
    Calls Try.prog 19 #[.agg (r64 4 (F4 a))] w fun e w' => e = .returned (.agg (r64 4 (F4 ((pP - a % pP) % pP)))) ∧ Below w.heap.size w w' := by
  have hs4 : ∀ f : Nat → BitVec 64, (Try.prog.info? 24).map (·.size) = some (r64 4 f).size := fun f => by rw [row_size]; kernel_rfl
  have HS4 := Lib.hid hs4
  clear hs4
  have hlt : a % pP < pP := Nat.mod_lt _ (by decide)
  have hm : r32 8 (N8 (pP + M256 - a % pP)) = r32 8 (N8 (pP - a % pP)) := by
    rw [show pP + M256 - a % pP = (pP - a % pP) + M256 by omega, N8_row_turn]
  have HM := Lib.hid hm
  have hpm : pP < M256 := by decide
  have hxm : a % pP < M256 := by omega
  have hdm : pP - a % pP < M256 := by omega
  clear hm hlt
  go_enter Try.func19, Try.ntmps19
  go_wp2_with fail
  refine wp_gen (NW a w) ⟨(Blk.new w _ _).alloc _, (Blk.new _ _ _).cast' ⟨by simp, zero4⟩, ((Below.refl _ _).alloc (Nat.le_refl _) _).alloc (by simp) _⟩ (fun w1 h1 => ?_)
  have h2 : NW a w w1.drew := ⟨h1.d, h1.r, h1.l.drew⟩
  clear h1
  refine wp_region_any (by kernel_rfl) ?_
  change wpAny _ _ _ _ _ _ _ w1.drew
  generalize w1.drew = w2 at h2 ⊢
  refine wpAny_ready (rs := [0, 1]) (by kernel_rfl) (by simp) (AllReady.cons rfl (fun K hK => ?_) (AllReady.cons rfl (fun K hK => ?_) AllReady.nil))
  · go_simp
    refine (prime_any _).mono ?_
    rintro e w3 ⟨rfl, hq⟩
    have h3 := h2.below hq
    clear h2 hq
    go_simp
    refine hK _ _ ?_
    refine wpAny_ready (rs := [1]) (by kernel_rfl) (by simp) (AllReady.cons rfl (fun K hK => ?_) AllReady.nil)
    refine step_load_row rfl 24 _ rfl w.heap.size rfl 24 (r64 4 (F4 a)) _ h3.d Try.underlying24 rfl (HS4.out _) (hK _ _ ?_)
    refine wpAny_ready (rs := [2]) (by kernel_rfl) (by simp) (AllReady.cons rfl (fun K hK => ?_) AllReady.nil)
    go_simp
    refine (digits_any a _ ha).mono ?_
    rintro e w4 ⟨rfl, hq⟩
    have h4 := h3.below hq
    clear h3 hq
    go_simp
    refine hK _ _ ?_
    refine wpAny_ready (rs := [3]) (by kernel_rfl) (by simp) (AllReady.cons rfl (fun K hK => ?_) AllReady.nil)
    go_simp
    refine (minus_any pP (a % pP) _ hpm hxm).mono ?_
    rintro e w5 ⟨rfl, hq⟩
    have h5 := h4.below hq
    clear h4 hq
    rw [HM.out]
    go_simp
    refine hK _ _ ?_
    refine wpAny_ready (rs := [4]) (by kernel_rfl) (by simp) (AllReady.cons rfl (fun K hK => ?_) AllReady.nil)
    go_simp
    refine (below_any (pP - a % pP) _ hdm).mono ?_
    rintro e w6 ⟨rfl, hq⟩
    have h6 := h5.below hq
    clear h5 hq
    go_simp
    refine hK _ _ ?_
    refine wpAny_ready (rs := [5]) (by kernel_rfl) (by simp) (AllReady.cons rfl (fun K hK => ?_) AllReady.nil)
    go_simp
    refine (words_any ((pP - a % pP) % pP) _).mono ?_
    rintro e w7 ⟨rfl, hq⟩
    have h7 := h6.below hq
    clear h6 hq
    go_simp
    refine hK _ _ ?_
    refine wpAny_ready (rs := [6]) (by kernel_rfl) (by simp) (AllReady.cons rfl (fun K hK => ?_) AllReady.nil)
    refine step_store_row rfl 24 _ _ rfl (w.heap.size + 1) (r64 4 (F4 ((pP - a % pP) % pP))) rfl rfl 24 _ h7.r (by rw [row_size, row_size]) (HS4.out _) (row_one fun _ => rfl) (hK _ _ ?_)
    refine wpAny_done (by kernel_rfl) ?_ _
    have hz := h7.r
    have hl := h7.l
    clear h7
    go_wp2_with fail
    exact bodyPost_ret (results_cell_row rfl _ _ (w.heap.size + 1) 24 (r64 4 (F4 ((pP - a % pP) % pP))) (0, 0) _ rfl (hz.row_ _) Try.underlying24 rfl (HS4.out _)) rfl ⟨rfl, below_setRow' hl (by omega) _⟩
  · refine step_load_row rfl 24 _ rfl w.heap.size rfl 24 (r64 4 (F4 a)) _ h2.d Try.underlying24 rfl (HS4.out _) (hK _ _ ?_)
    refine wpAny_ready (rs := [0]) (by kernel_rfl) (by simp) (AllReady.cons rfl (fun K hK => ?_) AllReady.nil)
    go_simp
    refine (prime_any _).mono ?_
    rintro e w3 ⟨rfl, hq⟩
    have h3 := h2.below hq
    clear h2 hq
    go_simp
    refine hK _ _ ?_
    refine wpAny_ready (rs := [2]) (by kernel_rfl) (by simp) (AllReady.cons rfl (fun K hK => ?_) AllReady.nil)
    go_simp
    refine (digits_any a _ ha).mono ?_
    rintro e w4 ⟨rfl, hq⟩
    have h4 := h3.below hq
    clear h3 hq
    go_simp
    refine hK _ _ ?_
    refine wpAny_ready (rs := [3]) (by kernel_rfl) (by simp) (AllReady.cons rfl (fun K hK => ?_) AllReady.nil)
    go_simp
    refine (minus_any pP (a % pP) _ hpm hxm).mono ?_
    rintro e w5 ⟨rfl, hq⟩
    have h5 := h4.below hq
    clear h4 hq
    rw [HM.out]
    go_simp
    refine hK _ _ ?_
    refine wpAny_ready (rs := [4]) (by kernel_rfl) (by simp) (AllReady.cons rfl (fun K hK => ?_) AllReady.nil)
    go_simp
    refine (below_any (pP - a % pP) _ hdm).mono ?_
    rintro e w6 ⟨rfl, hq⟩
    have h6 := h5.below hq
    clear h5 hq
    go_simp
    refine hK _ _ ?_
    refine wpAny_ready (rs := [5]) (by kernel_rfl) (by simp) (AllReady.cons rfl (fun K hK => ?_) AllReady.nil)
    go_simp
    refine (words_any ((pP - a % pP) % pP) _).mono ?_
    rintro e w7 ⟨rfl, hq⟩
    have h7 := h6.below hq
    clear h6 hq
    go_simp
    refine hK _ _ ?_
    refine wpAny_ready (rs := [6]) (by kernel_rfl) (by simp) (AllReady.cons rfl (fun K hK => ?_) AllReady.nil)
    refine step_store_row rfl 24 _ _ rfl (w.heap.size + 1) (r64 4 (F4 ((pP - a % pP) % pP))) rfl rfl 24 _ h7.r (by rw [row_size, row_size]) (HS4.out _) (row_one fun _ => rfl) (hK _ _ ?_)
    refine wpAny_done (by kernel_rfl) ?_ _
    have hz := h7.r
    have hl := h7.l
    clear h7
    go_wp2_with fail
    exact bodyPost_ret (results_cell_row rfl _ _ (w.heap.size + 1) 24 (r64 4 (F4 ((pP - a % pP) % pP))) (0, 0) _ rfl (hz.row_ _) Try.underlying24 rfl (HS4.out _)) rfl ⟨rfl, below_setRow' hl (by omega) _⟩
end Go.Proofs.Ytjggclhhimccoaa
