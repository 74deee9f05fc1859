/- The document's answer to chapter 3: words, Small. -/
import Derived.Test.YtjggclhhimccoaaFe
namespace Go.Proofs.Ytjggclhhimccoaa
open Go.RowKit
def wF (a m i : Nat) : BitVec 64 := if i < m then F4 a i else litw 64 0
theorem wF_put (a m i : Nat) : (if i = m then Value.int .u64 (iw (F4 a m)) else .int .u64 (iw (wF a m i))) = .int .u64 (iw (wF a (m + 1) i)) := by
  unfold wF
  by_cases h1 : i = m
  · subst h1; rw [if_pos rfl, if_pos (by omega)]
  · rw [if_neg h1]
    by_cases h2 : i < m
    · rw [if_pos h2, if_pos (by omega)]
    · rw [if_neg h2, if_neg (by omega)]
theorem zero4 : #[Value.int .u64 0, .int .u64 0, .int .u64 0, .int .u64 0] = r64 4 fun _ => litw 64 0 := by simp only [r64, iw_zero]; rfl
structure WW (a m : Nat) (w wr : World) : Prop where
  d : Blk wr w.heap.size 47 (r32 8 (N8 a))
  r : Blk wr (w.heap.size + 1) 24 (r64 4 fun _ => litw 64 0)
  o : Blk wr (w.heap.size + 2) 24 (r64 4 (wF a m))
  l : Below w.heap.size w wr
theorem WW.drew {a m : Nat} {w wr : World} (h : WW a m w wr) : WW a m w wr.drew := ⟨h.d, h.r, h.o, h.l.drew⟩
theorem WW.put {a m : Nat} {w wr : World} (h : WW a m w wr) (hm : m < 4) (v : BitVec 64) (hv : v = F4 a m) : WW a (m + 1) w (wr.setCell ⟨w.heap.size + 2, m, none⟩ (.int .u64 (iw v))) := by
  subst hv
  exact ⟨h.d.far (by simp) _, h.r.far (by simp) _, (h.o.put hm _).cast_ (row_ext fun i _ => wF_put a m i), h.l.setCell (by simp) _⟩
set_option maxRecDepth 100000 in
set_option maxHeartbeats 1000000 in
theorem words_any (a : Nat) (w : World) :
    Calls Try.prog 40 #[.agg (r32 8 (N8 a))] w fun e w' => e = .returned (.agg (r64 4 (F4 a))) ∧ Below w.heap.size w w' := by
  have hsz : (Try.prog.info? 24).map (·.size) = some 4 := by kernel_rfl
  have hal : Try.prog.arrayLen 47 = 8 := by kernel_rfl
  have hal4 : Try.prog.arrayLen 24 = 4 := by kernel_rfl
  go_enter Try.func40, Try.ntmps40
  go_wp2_with fail
  go_loopw [4] (fun i wr => ∃ k : Nat, k ≤ 4 ∧ i = .int .i64 (k : Int) ∧ WW a k w wr) (fun i _ => 4 - (intOf i).toNat)
  case atStart => exact ⟨0, by omega, rfl, ((Blk.new w _ _).alloc _).alloc _, ((Blk.new (w.alloc _) _ _).cast' ⟨by simp, zero4⟩).alloc _, (Blk.new _ _ _).cast' ⟨by simp, zero4.trans (row_ext fun i _ => by rw [show wF a 0 i = litw 64 0 by unfold wF; rw [if_neg (by omega)]])⟩, (((Below.refl _ _).alloc (Nat.le_refl _) _).alloc (by simp) _).alloc (by simp; omega) _⟩
  case round =>
    obtain ⟨k, hk, rfl, hr⟩ := hrel
    by_cases hlt : k < 4
    · obtain ⟨d, hd⟩ : ∃ d, d = 2 * k := ⟨_, rfl⟩
      obtain ⟨d1, hd1⟩ : ∃ d1, d1 = d + 1 := ⟨_, rfl⟩
      have e2 : 2 * (k : Int) = (d : Int) := by omega
      have e3 : (d : Int) + 1 = (d1 : Int) := by omega
      have e4w : IntKind.i64.wrap (d : Int) = (d : Int) := IntWalk.i64_in _ (by omega)
      have e5w : IntKind.i64.wrap (d1 : Int) = (d1 : Int) := IntWalk.i64_in _ (by omega)
      have e2w : IntKind.i64.wrap (2 * (k : Int)) = (d : Int) := by rw [IntWalk.i64_in _ (by omega)]; omega
      have e3w : IntKind.i64.wrap ((d : Int) + 1) = (d1 : Int) := by rw [IntWalk.i64_in _ (by omega)]; omega
      have hw := word_of a k
      rw [← hd, ← hd1] at hw
      have l1 : (d : Int) < 8 := by omega
      have l2 : (d1 : Int) < 8 := by omega
      have cd := hr.d.at_ (i := d) (by omega)
      have cd1 := hr.d.at_ (i := d1) (by omega)
      have HW := Lib.hid hw
      clear hd hd1 hw
      go_wp2_with fail
      go_still_tail 15, (by kernel_rfl)
      change wpList _ _ _ _ _ wr.drew
      refine wpList_gen (WW a k w) hr.drew (fun w3 h3 => ?_)
      clear hr cd cd1 e2 e3 l1 l2 e2w e3w e4w e5w
      have co := h3.o.at_ hlt
      have fo := h3.o.frozen k
      have K := h3.put hlt _ HW.out
      clear h3
      go_wp2_with fail
      go_roundw
      case rel => exact ⟨k + 1, by omega, by go_num, K⟩
      case measure => simp [intOf]; omega
    · obtain rfl : k = 4 := by omega
      have ho : Blk wr (w.heap.size + 2) 24 (r64 4 (F4 a)) := hr.o.cast_ (row_ext fun i hi => by rw [show wF a 4 i = F4 a i by unfold wF; rw [if_pos (by omega)]])
      have hz := hr.r
      have hl := hr.l
      have hsz2 : (Try.prog.info? 24).map (·.size) = some (r64 4 (F4 a)).size := by rw [row_size]; exact hsz
      clear hr
      go_wp2_with (first
        | (refine wpList_load_row rfl 24 _ rfl (w.heap.size + 2) rfl 24 _ (0, 0) _ ho Try.underlying24 rfl hsz2 ?_)
        | (refine wpList_store_row rfl 24 _ _ rfl (w.heap.size + 1) (r64 4 (F4 a)) rfl rfl 24 _ hz hsz2 (by rw [row_size, row_size]) (row_one fun _ => rfl) ?_))
      simp only [Act.put]
      exact bodyPost_ret (results_cell_row rfl _ _ (w.heap.size + 1) 24 (r64 4 (F4 a)) (0, 0) _ rfl (hz.row_ _) Try.underlying24 rfl hsz2) rfl ⟨rfl, below_setRow' hl (by omega) _⟩
end Go.Proofs.Ytjggclhhimccoaa
