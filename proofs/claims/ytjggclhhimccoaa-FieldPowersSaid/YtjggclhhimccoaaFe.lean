/- The document's answer to chapter 3: digits, words. -/
import Derived.Test.YtjggclhhimccoaaFd
import Derived.StillTailTactics
namespace Go.Proofs.Ytjggclhhimccoaa
open Go.RowKit
theorem pow_word (k : Nat) : 2 ^ (64 * k) = 2 ^ (32 * (2 * k)) := by rw [show 64 * k = 32 * (2 * k) by omega]
theorem digit_lo (a k : Nat) : castw 32 (F4 a k) = N8 a (2 * k) := by
  apply BitVec.eq_of_toNat_eq
  unfold castw
  rw [BitVec.toNat_ofNat, F4_nat, N8_nat, pow_word]
  omega
theorem digit_hi (a k : Nat) : castw 32 (shrw (F4 a k) 32) = N8 a (2 * k + 1) := by
  apply BitVec.eq_of_toNat_eq
  unfold castw shrw
  rw [BitVec.toNat_ofNat, BitVec.toNat_ushiftRight, Nat.shiftRight_eq_div_pow, F4_nat, N8_nat, pow_word, div_split]
  omega
theorem word_of (a k : Nat) : orw (castw 64 (N8 a (2 * k))) (shlw (castw 64 (N8 a (2 * k + 1))) 32) = F4 a k := by
  apply BitVec.eq_of_toNat_eq
  have h1 : (castw 64 (N8 a (2 * k))).toNat = a / 2 ^ (64 * k) % 4294967296 := by
    unfold castw; rw [BitVec.toNat_ofNat, N8_nat, pow_word]; omega
  have h2 : (castw 64 (N8 a (2 * k + 1))).toNat = a / 2 ^ (64 * k) / 4294967296 % 4294967296 := by
    unfold castw; rw [BitVec.toNat_ofNat, N8_nat, div_split, pow_word]; omega
  unfold orw shlw
  rw [BitVec.toNat_or, BitVec.toNat_shiftLeft, h1, h2, F4_nat, Nat.or_comm, Nat.mod_eq_of_lt (by rw [Nat.shiftLeft_eq]; omega),
    ← Nat.shiftLeft_add_eq_or_of_lt (by omega), Nat.shiftLeft_eq]
  omega
/-- The first m digits, and 0 behind them. -/
def dF (a m i : Nat) : BitVec 32 := if i < m then N8 a i else litw 32 0
theorem dF_put (a m i : Nat) : (if i = m then Value.int .u32 (iw (N8 a m)) else .int .u32 (iw (dF a m i))) = .int .u32 (iw (dF a (m + 1) i)) := by
  unfold dF
  by_cases h1 : i = m
  · subst h1; rw [if_pos rfl, if_pos (by omega)]
  · rw [if_neg h1]
    by_cases h2 : i < m
    · rw [if_pos h2, if_pos (by omega)]
    · rw [if_neg h2, if_neg (by omega)]
structure DW (a m : Nat) (w wr : World) : Prop where
  d : Blk wr w.heap.size 24 (r64 4 (F4 a))
  r : Blk wr (w.heap.size + 1) 47 (r32 8 fun _ => litw 32 0)
  o : Blk wr (w.heap.size + 2) 47 (r32 8 (dF a m))
  l : Below w.heap.size w wr
theorem DW.put {a m : Nat} {w wr : World} (h : DW a m w wr) (hm : m < 8) (v : BitVec 32) (hv : v = N8 a m) : DW a (m + 1) w (wr.setCell ⟨w.heap.size + 2, m, none⟩ (.int .u32 (iw v))) := by
  subst hv
  exact ⟨h.d.far (by simp) _, h.r.far (by simp) _, (h.o.put hm _).cast_ (row_ext fun i _ => dF_put a m i), h.l.setCell (by simp) _⟩
set_option maxRecDepth 100000 in
set_option maxHeartbeats 1000000 in
theorem digits_any (a : Nat) (w : World) (ha : a < M256) :
    Calls Try.prog 39 #[.agg (r64 4 (F4 a))] w fun e w' => e = .returned (.agg (r32 8 (N8 (a % pP)))) ∧ Below w.heap.size w w' := by
  have hsz : (Try.prog.info? 47).map (·.size) = some 8 := by kernel_rfl
  have hal : Try.prog.arrayLen 47 = 8 := by kernel_rfl
  have hal4 : Try.prog.arrayLen 24 = 4 := by kernel_rfl
  go_enter Try.func39, Try.ntmps39
  go_wp2_with fail
  go_loopw [4] (fun i wr => ∃ k : Nat, k ≤ 4 ∧ i = .int .i64 (k : Int) ∧ DW a (2 * k) w wr) (fun i _ => 4 - (intOf i).toNat)
  case atStart => exact ⟨0, by omega, rfl, ((Blk.new w _ _).alloc _).alloc _, ((Blk.new (w.alloc _) _ _).cast' ⟨by simp, zero8⟩).alloc _, (Blk.new _ _ _).cast' ⟨by simp, zero8.trans (row_ext fun i _ => by rw [show dF a (2 * 0) i = litw 32 0 by unfold dF; rw [if_neg (by omega)]])⟩, (((Below.refl _ _).alloc (Nat.le_refl _) _).alloc (by simp) _).alloc (by simp; omega) _⟩
  case round =>
    obtain ⟨k, hk, rfl, hr⟩ := hrel
    by_cases hlt : k < 4
    · obtain ⟨d, hd⟩ : ∃ d, d = 2 * k := ⟨_, rfl⟩
      obtain ⟨d1, hd1⟩ : ∃ d1, d1 = d + 1 := ⟨_, rfl⟩
      have cd := hr.d.at_ hlt
      have e2 : 2 * (k : Int) = (d : Int) := by omega
      have e3 : (d : Int) + 1 = (d1 : Int) := by omega
      have hlo := digit_lo a k
      have hhi := digit_hi a k
      have hrel2 : ∀ wx, DW a (d1 + 1) w wx → DW a (2 * (k + 1)) w wx := fun wx h => by rwa [show 2 * (k + 1) = d1 + 1 by omega]
      rw [← hd] at hr hlo hhi
      rw [← hd1] at hhi
      have l1 : d < 8 := by omega
      have l2 : d1 < 8 := by omega
      have co := hr.o.at_ (i := d) l1
      have fo := hr.o.frozen d
      have h2 := hr.put l1 _ hlo
      rw [← hd1] at h2
      have cd2 := h2.d.at_ hlt
      have co2 := h2.o.at_ (i := d1) l2
      have fo2 := h2.o.frozen d1
      have K := hrel2 _ (h2.put l2 _ hhi)
      clear hr h2 hd hd1 hlo hhi hrel2
      go_wp2_with fail
      go_roundw
      case rel => exact ⟨k + 1, by omega, by go_num, K⟩
      case measure => simp [intOf]; omega
    · obtain rfl : k = 4 := by omega
      have ho : Blk wr (w.heap.size + 2) 47 (r32 8 (N8 a)) := hr.o.cast_ (row_ext fun i hi => by rw [show dF a (2 * 4) i = N8 a i by unfold dF; rw [if_pos (by omega)]])
      have hz := hr.r
      have hl := hr.l
      have hsz2 : (Try.prog.info? 47).map (·.size) = some (r32 8 (N8 a)).size := by rw [row_size]; exact hsz
      have hsz3 : (Try.prog.info? 47).map (·.size) = some (r32 8 (N8 (a % pP))).size := by rw [row_size]; exact hsz
      clear hr
      go_wp2_with (refine wpList_load_row rfl 47 _ rfl (w.heap.size + 2) rfl 47 _ (0, 0) _ ho Try.underlying47 rfl hsz2 ?_)
      refine (below_any a wr ha).mono ?_
      rintro e w5 ⟨rfl, hq⟩
      have hz5 := hz.below hq hz.lt
      have hl5 := hl.trans (hq.mono hl.size)
      clear hz hl hq ho
      go_wp2_with (refine wpList_store_row rfl 47 _ _ rfl (w.heap.size + 1) (r32 8 (N8 (a % pP))) rfl rfl 47 _ hz5 hsz3 (by rw [row_size, row_size]) (row_one fun _ => rfl) ?_)
      simp only [Act.put]
      exact bodyPost_ret (results_cell_row rfl _ _ (w.heap.size + 1) 47 (r32 8 (N8 (a % pP))) (0, 0) _ rfl (hz5.row_ _) Try.underlying47 rfl hsz3) rfl ⟨rfl, below_setRow' hl5 (by omega) _⟩
end Go.Proofs.Ytjggclhhimccoaa
