/- Mul64, Add64, Sub64; step, row. -/
import Derived.Test.YtggalphgnloneaaGreatRows
import Derived.Test.YtggalphgnloneaaGreatMA
import Derived.Test.YtggalphgnloneaaGreatPu
import Derived.StillTailTactics
import Derived.IntWalk
import Derived.Deep.LoopGhost
namespace Go.Proofs.YtggalphgnloneaaGreat
open Go.RowKit
set_option maxHeartbeats 1000000 in
theorem step_any (x y t c : BitVec 64) (w : World) :
    Calls Tryz.prog 135 #[.int .u64 (iw x), .int .u64 (iw y), .int .u64 (iw t), .int .u64 (iw c)] w fun e w' => e = .returned (.tuple #[.int .u64 (iw (nw (x.toNat * y.toNat + t.toNat + c.toNat))), .int .u64 (iw (nw ((x.toNat * y.toNat + t.toNat + c.toNat) / W64)))]) ∧ w = w' := by
  have hrun := run_addW0
  have hp : x.toNat * y.toNat ≤ (W64 - 1) * (W64 - 1) := Nat.mul_le_mul (by have := w_lt x; omega) (by have := w_lt y; omega)
  have h1 := mul_lo x y
  have h2 := mul_hi x y
  have ht := w_lt t
  have hc := w_lt c
  have e1 : nw ((nw ((mulw x y).toNat + t.toNat)).toNat + c.toNat) = nw (x.toNat * y.toNat + t.toNat + c.toNat) := by
    apply BitVec.eq_of_toNat_eq
    rw [nw_nat', nw_nat', nw_nat', h1]
    generalize x.toNat * y.toNat = p at *
    unfold W64 at *; omega
  have e2 : addw (addw (mulHi x y) (nw (((mulw x y).toNat + t.toNat) / W64))) (nw (((nw ((mulw x y).toNat + t.toNat)).toNat + c.toNat) / W64)) = nw ((x.toNat * y.toNat + t.toNat + c.toNat) / W64) := by
    apply BitVec.eq_of_toNat_eq
    unfold addw
    rw [BitVec.toNat_add, BitVec.toNat_add, nw_nat', nw_nat', nw_nat', nw_nat', h1, h2]
    generalize x.toNat * y.toNat = p at *
    unfold W64 at *; omega
  have E1 := Lib.hid e1
  have E2 := Lib.hid e2
  clear e1 e2 hp h1 h2 ht hc
  go_enter Tryz.func135, Tryz.ntmps135
  go_wp2_with (go_at_call 119; refine (mul64_any _ _ _).mono ?_; rintro e w' ⟨rfl, rfl⟩)
  rw [E1.out, E2.out]
  go_ret2
  exact ⟨rfl, rfl⟩
end Go.Proofs.YtggalphgnloneaaGreat
/- row, plusSmall, prime of the layer field. -/
namespace Go.Proofs.YtggalphgnloneaaGreat
open Go.RowKit
theorem stepF (x : BitVec 64) (b W k : Nat) (w : World) :
    Calls Tryz.prog 135 #[.int .u64 (iw x), .int .u64 (iw (F4 b k)), .int .u64 (iw (F4 W k)), .int .u64 (iw (cr64 x.toNat b W k))] w fun e w' => e = .returned (.tuple #[.int .u64 (iw (F4 (x.toNat * b + W) k)), .int .u64 (iw (cr64 x.toNat b W (k + 1)))]) ∧ w = w' := by
  refine (step_any x (F4 b k) (F4 W k) (cr64 x.toNat b W k) w).mono ?_
  rintro e w' ⟨rfl, rfl⟩
  have hx := w_lt x
  have e1 : nw (x.toNat * (F4 b k).toNat + (F4 W k).toNat + (cr64 x.toNat b W k).toNat) = F4 (x.toNat * b + W) k := by
    apply nw_eq
    rw [F4_nat', F4_nat', F4_nat', cr64_nat _ _ _ _ hx, cr_digit]
  have e2 : nw ((x.toNat * (F4 b k).toNat + (F4 W k).toNat + (cr64 x.toNat b W k).toNat) / W64) = cr64 x.toNat b W (k + 1) := by
    rw [F4_nat', F4_nat', cr64_nat _ _ _ _ hx, cr_next]; rfl
  rw [e1, e2]
  exact ⟨rfl, rfl⟩
theorem stepF0 (x : BitVec 64) (b W : Nat) (w : World) :
    Calls Tryz.prog 135 #[.int .u64 (iw x), .int .u64 (iw (F4 b 0)), .int .u64 (iw (F4 W 0)), .int .u64 0] w fun e w' => e = .returned (.tuple #[.int .u64 (iw (F4 (x.toNat * b + W) 0)), .int .u64 (iw (cr64 x.toNat b W (0 + 1)))]) ∧ w = w' := by
  have h : Value.int .u64 0 = .int .u64 (iw (cr64 x.toNat b W 0)) := by
    rw [lit0w]; unfold cr64; rw [cr_zero]; rfl
  rw [h]; exact stepF x b W 0 w
theorem cr64_four (x : BitVec 64) (b W : Nat) (hb : b < M256) (hW : W < M256) : cr64 x.toNat b W 4 = F4 (x.toNat * b + W) 4 := by
  unfold cr64 F4; rw [cr_four _ _ _ hb hW]; rfl
set_option maxHeartbeats 1000000 in
theorem row_any (x : BitVec 64) (b W : Nat) (hb : b < M256) (hW : W < M256) (cs : Array Value) (v0 v1 v2 v3 : BitVec 64) (hcs : cs = r64 4 (F4 b)) (h0 : v0 = F4 W 0) (h1 : v1 = F4 W 1) (h2 : v2 = F4 W 2) (h3 : v3 = F4 W 3) (w : World) :
    Calls Tryz.prog 121 #[.int .u64 (iw x), .agg cs, .int .u64 (iw v0), .int .u64 (iw v1), .int .u64 (iw v2), .int .u64 (iw v3)] w fun e w' => e = .returned (.tuple #[.int .u64 (iw (F4 (x.toNat * b + W) 0)), .int .u64 (iw (F4 (x.toNat * b + W) 1)), .int .u64 (iw (F4 (x.toNat * b + W) 2)), .int .u64 (iw (F4 (x.toNat * b + W) 3)), .int .u64 (iw (F4 (x.toNat * b + W) 4))]) ∧ Below w.heap.size w w' := by
  subst hcs h0 h1 h2 h3
  have E4 := Lib.hid (cr64_four x b W hb hW)
  have c0 : (w.alloc (.cells (r64 4 (F4 b)) 40)).cell? ⟨w.heap.size, 0, none⟩ = some (.int .u64 (iw (F4 b 0))) := (Blk.new w 40 (r64 4 (F4 b))).at_ (by omega)
  have c1 : (w.alloc (.cells (r64 4 (F4 b)) 40)).cell? ⟨w.heap.size, 1, none⟩ = some (.int .u64 (iw (F4 b 1))) := (Blk.new w 40 (r64 4 (F4 b))).at_ (by omega)
  have c2 : (w.alloc (.cells (r64 4 (F4 b)) 40)).cell? ⟨w.heap.size, 2, none⟩ = some (.int .u64 (iw (F4 b 2))) := (Blk.new w 40 (r64 4 (F4 b))).at_ (by omega)
  have c3 : (w.alloc (.cells (r64 4 (F4 b)) 40)).cell? ⟨w.heap.size, 3, none⟩ = some (.int .u64 (iw (F4 b 3))) := (Blk.new w 40 (r64 4 (F4 b))).at_ (by omega)
  go_enter Tryz.func121, Tryz.ntmps121
  go_wp2_with (first
    | (((with_reducible refine (stepF0 _ _ _ _).mono ?_)); rintro e w' ⟨rfl, rfl⟩)
    | (((with_reducible refine (stepF _ _ _ _ _).mono ?_)); rintro e w' ⟨rfl, rfl⟩))
  exact bodyPost_ret (v := .tuple #[.int .u64 (iw (F4 (x.toNat * b + W) 0)), .int .u64 (iw (F4 (x.toNat * b + W) 1)), .int .u64 (iw (F4 (x.toNat * b + W) 2)), .int .u64 (iw (F4 (x.toNat * b + W) 3)), .int .u64 (iw (F4 (x.toNat * b + W) 4))]) (by simp [results, Tryz.results121, go_sem, E4.out]) rfl ⟨rfl, (Below.refl _ _).alloc (Nat.le_refl _) _⟩
theorem addF0 (a : Nat) (v : BitVec 64) (w : World) : (callFunc 120 #[.int .u64 (iw (F4 a 0)), .int .u64 (iw v), .int .u64 0]).run Tryz.prog w = .ok (.value (.tuple #[.int .u64 (iw (F4 (a + v.toNat) 0)), .int .u64 (iw (c64 a v.toNat 1))])) w := by
  have h := addF a v.toNat 0 w
  rw [F4_word, ← c64_zero] at h
  exact h
theorem addFk (a : Nat) (v : BitVec 64) (k : Nat) (w : World) : (callFunc 120 #[.int .u64 (iw (F4 a (k + 1))), .int .u64 0, .int .u64 (iw (c64 a v.toNat (k + 1)))]).run Tryz.prog w = .ok (.value (.tuple #[.int .u64 (iw (F4 (a + v.toNat) (k + 1))), .int .u64 (iw (c64 a v.toNat (k + 1 + 1)))])) w := by
  have h := addF a v.toNat (k + 1) w
  rw [F4_word', ← lit0w] at h
  exact h
theorem addF3 (a : Nat) (v : BitVec 64) : addw (F4 a 3) (c64 a v.toNat 3) = F4 (a + v.toNat) 3 := by
  apply BitVec.eq_of_toNat_eq
  unfold addw
  have h := cn_digit a v.toNat 3
  have h2 : v.toNat / 2 ^ (64 * 3) = 0 := Nat.div_eq_of_lt (Nat.lt_of_lt_of_le v.isLt (Nat.pow_le_pow_right (by decide) (by omega)))
  rw [h2, Nat.zero_mod, Nat.add_zero] at h
  rw [BitVec.toNat_add, F4_nat', F4_nat', c64_nat, ← h]; rfl
theorem built4 (a b c d : BitVec 64) : Tryz.prog.built 40 [(0, .int .u64 (iw a)), (1, .int .u64 (iw b)), (2, .int .u64 (iw c)), (3, .int .u64 (iw d))] = some #[.int .u64 (iw a), .int .u64 (iw b), .int .u64 (iw c), .int .u64 (iw d)] := by kernel_rfl
theorem fe_size (f : Nat → BitVec 64) : (Tryz.prog.info? 40).map (·.size) = some (r64 4 f).size := by rw [row_size]; kernel_rfl
set_option maxRecDepth 100000 in
set_option maxHeartbeats 1000000 in
theorem plusSmall_any (a : Nat) (v : BitVec 64) (w : World) :
    Calls Tryz.prog 136 #[.agg (r64 4 (F4 a)), .int .u64 (iw v)] w fun e w' => e = .returned (.agg (r64 4 (F4 (a + v.toNat)))) ∧ Below w.heap.size w w' := by
  have r0 := addF0 a v
  have r1 := addFk a v 0
  have r2 := addFk a v 1
  have r3 := addF3 a v
  simp only [Nat.reduceAdd] at r1 r2
  have HS := Lib.hid fe_size
  have W0 : Blk ((w.alloc (.cells (r64 4 (F4 a)) 40)).alloc (.cells #[.int .u64 0, .int .u64 0, .int .u64 0, .int .u64 0] 40)) w.heap.size 40 (r64 4 (F4 a)) := (Blk.new w _ _).alloc _
  have Z0 : Blk ((w.alloc (.cells (r64 4 (F4 a)) 40)).alloc (.cells #[.int .u64 0, .int .u64 0, .int .u64 0, .int .u64 0] 40)) (w.heap.size + 1) 40 (r64 4 fun _ => litw 64 0) := (Blk.new _ _ _).cast' ⟨by simp, zero4'⟩
  have c0 := W0.at_ (i := 0) (by omega)
  have c1 := W0.at_ (i := 1) (by omega)
  have c2 := W0.at_ (i := 2) (by omega)
  have c3 := W0.at_ (i := 3) (by omega)
  have R4 := Lib.hid (row4 (F4 (a + v.toNat) 0) (F4 (a + v.toNat) 1) (F4 (a + v.toNat) 2) (F4 (a + v.toNat) 3) (F4 (a + v.toNat)) rfl rfl rfl rfl)
  have hbu := built4
  go_enter Tryz.func136, Tryz.ntmps136
  go_wp2_with (refine wpList_store_row rfl 40 _ _ rfl (w.heap.size + 1) (r64 4 (F4 (a + v.toNat))) rfl (congrArg Value.agg R4.out) 40 _ Z0 (HS.out _) (by rw [row_size, row_size]) (row_one fun _ => rfl) ?_)
  simp only [Act.put]
  exact bodyPost_ret (results_cell_row rfl _ _ (w.heap.size + 1) 40 (r64 4 (F4 (a + v.toNat))) (0, 0) _ rfl (Z0.row_ _) Tryz.underlying40 rfl (HS.out _)) rfl ⟨rfl, below_setRow' (((Below.refl _ _).alloc (Nat.le_refl _) _).alloc (by simp) _) (by omega) _⟩
theorem fprime_any (w : World) :
    Calls Tryz.prog 128 #[] w fun e w' => e = .returned (.agg (r64 4 (F4 pP))) ∧ Below w.heap.size w w' := by
  have HS := Lib.hid fe_size
  go_enter Tryz.func128, Tryz.ntmps128
  go_wp2_with (refine wpList_store_row rfl 40 _ _ rfl w.heap.size (r64 4 (F4 pP)) rfl (by kernel_rfl) 40 _ (Blk.new w _ _) (HS.out _) (by rw [row_size]; rfl) (row_one fun _ => rfl) ?_)
  simp only [Act.put]
  exact bodyPost_ret (results_cell_row rfl _ _ w.heap.size 40 (r64 4 (F4 pP)) (0, 0) _ rfl ((Blk.new w _ _).row_ _) Tryz.underlying40 rfl (HS.out _)) rfl ⟨rfl, below_setRow' ((Below.refl _ _).alloc (Nat.le_refl _) _) (by omega) _⟩
end Go.Proofs.YtggalphgnloneaaGreat
/- below, reduced of the layer field. -/
namespace Go.Proofs.YtggalphgnloneaaGreat
open Go.RowKit
def P255 : Nat := 57896044618658097711785492504343953926634992332820282019728792003956564819968
theorem and_low (n : Nat) : andw (F4 n 3) (litw 64 9223372036854775807) = F4 (n % P255) 3 := by
  apply BitVec.eq_of_toNat_eq
  unfold andw litw
  rw [BitVec.toNat_and, show (BitVec.ofNat 64 9223372036854775807).toNat = 2 ^ 63 - 1 by rfl, Nat.and_two_pow_sub_one_eq_mod, F4_nat, F4_nat]
  unfold P255
  simp only [Nat.reduceMul, Nat.reducePow]
  omega
theorem F4_low (n k : Nat) (hk : k < 3) : F4 n k = F4 (n % P255) k := by
  apply BitVec.eq_of_toNat_eq
  rw [F4_nat, F4_nat]
  unfold P255
  match k, hk with
  | 0, _ => simp only [Nat.reduceMul, Nat.reducePow]; omega
  | 1, _ => simp only [Nat.reduceMul, Nat.reducePow]; omega
  | 2, _ => simp only [Nat.reduceMul, Nat.reducePow]; omega
theorem row_low (n : Nat) : (row 4 fun j => if j = 3 then Value.int .u64 (iw (andw (F4 n 3) (litw 64 9223372036854775807))) else Value.int .u64 (iw (F4 n j))) = r64 4 (F4 (n % P255)) :=
  row_ext fun i hi => by
    by_cases h : i = 3
    · subst h; rw [if_pos rfl, and_low]
    · rw [if_neg h, F4_low n i (by omega)]
theorem over_q (a o : Nat) (ha : a < M256) (ho : o ≤ 38) : orw (shlw (nw o) 1) (shrw (F4 a 3) 63) = nw (2 * o + a / P255) := by
  apply BitVec.eq_of_toNat_eq
  have h1 : (shrw (F4 a 3) 63).toNat = a / P255 := by
    unfold shrw
    rw [BitVec.toNat_ushiftRight, Nat.shiftRight_eq_div_pow, F4_nat]
    unfold P255; unfold M256 at ha
    simp only [Nat.reduceMul, Nat.reducePow]; omega
  have h0 : a / P255 ≤ 1 := by unfold P255; unfold M256 at ha; omega
  have h2 : (shlw (nw o) 1).toNat = 2 * o := by
    unfold shlw
    rw [BitVec.toNat_shiftLeft, nw_nat _ (by unfold W64; omega), Nat.shiftLeft_eq]
    omega
  unfold orw
  rw [BitVec.toNat_or, h1, h2, nw_nat _ (by unfold W64; omega)]
  generalize a / P255 = c at h0 ⊢
  have : c = 0 ∨ c = 1 := by omega
  rcases this with rfl | rfl
  · simp
  · exact (Nat.two_pow_add_eq_or_of_lt (i := 1) (b := 1) (by decide) o).symm
def bq (a o : Nat) : Nat := 2 * o + a / P255
def bc (a o : Nat) : Nat := a % P255 + 19 * bq a o
theorem bc_mod (a o : Nat) : bc a o % pP = (a + o * M256) % pP := by
  have h : a + o * M256 = bc a o + pP * bq a o := by
    unfold bc bq M256 P255 pP; omega
  rw [h, Nat.add_mul_mod_self_left]
theorem bc_lt (a o : Nat) (ha : a < M256) (ho : o ≤ 38) : bc a o < P255 + 1500 := by
  unfold bc bq P255; unfold M256 at ha; omega
theorem mulw_q (a o : Nat) (ha : a < M256) (ho : o ≤ 38) : (mulw (litw 64 19) (nw (2 * o + a / P255))).toNat = 19 * bq a o := by
  have h0 : a / P255 ≤ 1 := by unfold P255; unfold M256 at ha; omega
  unfold mulw bq
  rw [BitVec.toNat_mul, nw_nat _ (by unfold W64; omega)]
  show 19 * _ % _ = _
  omega
theorem cmp_low (n : Nat) (hn : n < M256) : iw (F4 n 3) ≤ 9223372036854775807 ↔ n < P255 := by
  unfold iw
  rw [F4_nat]
  unfold P255; unfold M256 at hn
  simp only [Nat.reduceMul, Nat.reducePow]
  omega
/-- Within below: the number at the first block, the result at the second. -/
structure LW (a : Nat) (w wr : World) : Prop where
  d : Blk wr w.heap.size 40 (r64 4 (F4 a))
  r : Blk wr (w.heap.size + 1) 40 (r64 4 fun _ => litw 64 0)
  l : Below w.heap.size w wr
theorem LW.below {a : Nat} {w wr w' : World} (h : LW a w wr) (hb : Below wr.heap.size wr w') : LW a w w' := ⟨h.d.below hb h.d.lt, h.r.below hb h.r.lt, h.l.trans (hb.mono h.l.size)⟩
theorem LW.low {a : Nat} {w wr : World} (h : LW a w wr) : LW (a % P255) w (wr.setCell ⟨w.heap.size, 3, none⟩ (.int .u64 (iw (andw (F4 a 3) (litw 64 9223372036854775807))))) :=
  ⟨(h.d.put (by omega) _).cast_ (row_low a), h.r.far (by simp) _, h.l.setCell (by simp) _⟩
theorem LW.row {a : Nat} {w wr : World} (h : LW a w wr) (b : Nat) : LW b w (wr.setRow w.heap.size (r64 4 (F4 b))) :=
  ⟨h.d.row_ _, h.r.row_far (by omega) _, below_setRow' h.l (by omega) _⟩
theorem LW.start (a : Nat) (w : World) : LW (a % P255) w ((w.alloc (.cells ((r64 4 (F4 a)).setIfInBounds 3 (.int .u64 (iw (andw (F4 a 3) (litw 64 9223372036854775807))))) 40)).alloc (.cells #[.int .u64 0, .int .u64 0, .int .u64 0, .int .u64 0] 40)) :=
  ⟨((Blk.new w _ _).alloc _).cast_ ((row_set _ (by omega) _).trans (row_low a)), (Blk.new _ _ _).cast' ⟨by simp, zero4'⟩, ((Below.refl _ _).alloc (Nat.le_refl _) _).alloc (by simp) _⟩
theorem plusSmall19 (a : Nat) (w : World) :
    Calls Tryz.prog 136 #[.agg (r64 4 (F4 a)), .int .u64 19] w fun e w' => e = .returned (.agg (r64 4 (F4 (a + 19)))) ∧ Below w.heap.size w w' := by
  have h : Value.int .u64 19 = .int .u64 (iw (litw 64 19)) := by kernel_rfl
  have h2 : (litw 64 19).toNat = 19 := by unfold litw; rfl
  have h3 := plusSmall_any a (litw 64 19) w
  rw [h2] at h3
  rw [h]; exact h3
set_option maxRecDepth 100000 in
set_option maxHeartbeats 1000000 in
theorem fbelow_any (a o : Nat) (w : World) (ha : a < M256) (ho : o ≤ 38) :
    Calls Tryz.prog 122 #[.agg (r64 4 (F4 a)), .int .u64 (iw (nw o))] w fun e w' => e = .returned (.agg (r64 4 (F4 ((a + o * M256) % pP)))) ∧ Below w.heap.size w w' := by
  have HS := Lib.hid fe_size
  have HQ := Lib.hid (over_q a o ha ho)
  have HM := Lib.hid (show a % P255 + (mulw (litw 64 19) (orw (shlw (nw o) 1) (shrw (F4 a 3) 63))).toNat = bc a o by rw [HQ.out, mulw_q a o ha ho]; rfl)
  have HR := Lib.hid (bc_mod a o)
  have HL := Lib.hid (bc_lt a o ha ho)
  have W0 : Blk ((w.alloc (.cells (r64 4 (F4 a)) 40)).alloc (.cells #[.int .u64 0, .int .u64 0, .int .u64 0, .int .u64 0] 40)) w.heap.size 40 (r64 4 (F4 a)) := (Blk.new w _ _).alloc _
  have hand : ∀ x : BitVec 64, bits .and .u64 (iw x) 9223372036854775807 = iw (andw x (litw 64 9223372036854775807)) := fun x => and64_lit x _
  have h19 : ∀ x : BitVec 64, IntKind.u64.wrap (19 * iw x) = iw (mulw (litw 64 19) x) := fun x => by
    have : iw (litw 64 19) = 19 := by kernel_rfl
    rw [← this]; exact wrap64_mul _ _
  have c3 := W0.at_ (i := 3) (by omega)
  have f3 := W0.frozen 3
  go_enter Tryz.func122, Tryz.ntmps122
  go_wp2_with (refine wpList_gen (LW (a % P255) w) (LW.start a w) (fun w1 h1 => ?_); refine wpList_load_row rfl 40 _ rfl w.heap.size rfl 40 _ (0, 0) _ h1.d Tryz.underlying40 rfl (HS.out _) ?_)
  refine (plusSmall_any (a % P255) _ w1).mono ?_
  rw [HM.out]
  rintro e w2 ⟨rfl, hq⟩
  have h2 := h1.below hq
  clear h1 hq c3 f3 W0 h19
  generalize hn : bc a o = n at HR HL ⊢
  clear hn
  go_wp2_with (first
    | (refine wpList_store_row rfl 40 _ _ rfl w.heap.size (r64 4 (F4 n)) rfl rfl 40 _ h2.d (HS.out _) (by rw [row_size, row_size]) (row_one fun _ => rfl) ?_; refine wpList_gen (LW n w) (h2.row n) (fun w3 h3 => ?_))
    | (refine wpList_load_row rfl 40 _ rfl w.heap.size rfl 40 _ (0, 0) _ h3.d Tryz.underlying40 rfl (HS.out _) ?_))
  refine (plusSmall19 n w3).mono ?_
  rintro e w4 ⟨rfl, hq⟩
  have h4 := h3.below hq
  clear h2 h3 hq
  have hl := HL.out
  have hc := cmp_low (n + 19) (by unfold P255 at hl; unfold M256; omega)
  have hr : n % pP = (a + o * M256) % pP := HR.out
  by_cases hlt : n + 19 < P255
  · have hd : decide (iw (F4 (n + 19) 3) ≤ 9223372036854775807) = true := decide_eq_true (hc.2 hlt)
    have HX := Lib.hid (show n = (a + o * M256) % pP by rw [← hr]; exact (Nat.mod_eq_of_lt (by unfold pP; unfold P255 at hlt; omega)).symm)
    clear hl hc hr hlt
    go_wp2_with (first
      | (refine wpList_store_row rfl 40 _ _ rfl w4.heap.size (r64 4 (F4 (n + 19))) rfl rfl 40 (r64 4 fun _ => litw 64 0) ((Blk.new w4 _ _).cast_ zero4') (HS.out _) (by rw [row_size, row_size]) (row_one fun _ => rfl) ?_; refine wpList_gen (fun wx => LW n w wx ∧ Blk wx w4.heap.size 40 (r64 4 (F4 (n + 19)))) ⟨⟨(h4.d.alloc _).row_far (by have := h4.d.lt; omega) _, (h4.r.alloc _).row_far (by have := h4.r.lt; omega) _, below_setRow' (h4.l.alloc h4.l.size _) h4.l.size _⟩, (Blk.new w4 _ _).row_ _⟩ (fun w5 h5 => ?_); have c5 := h5.2.at_ (i := 3) (by omega))
      | (refine wpList_load_row rfl 40 _ rfl w.heap.size rfl 40 _ (0, 0) _ h5.1.d Tryz.underlying40 rfl (HS.out _) ?_)
      | (refine wpList_store_row rfl 40 _ _ rfl (w.heap.size + 1) (r64 4 (F4 n)) rfl rfl 40 _ h5.1.r (HS.out _) (by rw [row_size, row_size]) (row_one fun _ => rfl) ?_))
    simp only [Act.put]
    exact bodyPost_ret (results_cell_row rfl _ _ (w.heap.size + 1) 40 (r64 4 (F4 n)) (0, 0) _ rfl (h5.1.r.row_ _) Tryz.underlying40 rfl (HS.out _)) rfl ⟨by rw [← HX.out], below_setRow' h5.1.l (by omega) _⟩
  · have hd : decide (iw (F4 (n + 19) 3) ≤ 9223372036854775807) = false := decide_eq_false (fun h => hlt (hc.1 h))
    have HX := Lib.hid (show (n + 19) % P255 = (a + o * M256) % pP by
      rw [← hr, show n = (n + 19 - P255) + pP by unfold P255 pP at *; omega, Nat.add_mod_right, Nat.mod_eq_of_lt (show n + 19 - P255 < pP by unfold P255 pP at *; omega)]
      unfold P255 pP at *; omega)
    have hand : ∀ x : BitVec 64, bits .and .u64 (iw x) 9223372036854775807 = iw (andw x (litw 64 9223372036854775807)) := fun x => and64_lit x _
    clear hl hc hr hlt
    go_wp2_with (first
      | (refine wpList_store_row rfl 40 _ _ rfl w4.heap.size (r64 4 (F4 (n + 19))) rfl rfl 40 (r64 4 fun _ => litw 64 0) ((Blk.new w4 _ _).cast_ zero4') (HS.out _) (by rw [row_size, row_size]) (row_one fun _ => rfl) ?_; refine wpList_gen (fun wx => LW n w wx ∧ Blk wx w4.heap.size 40 (r64 4 (F4 (n + 19)))) ⟨⟨(h4.d.alloc _).row_far (by have := h4.d.lt; omega) _, (h4.r.alloc _).row_far (by have := h4.r.lt; omega) _, below_setRow' (h4.l.alloc h4.l.size _) h4.l.size _⟩, (Blk.new w4 _ _).row_ _⟩ (fun w5 h5 => ?_); have c5 := h5.2.at_ (i := 3) (by omega); have f5 := h5.2.frozen 3; have h6 : LW n w (w5.setCell ⟨w4.heap.size, 3, none⟩ (.int .u64 (iw (andw (F4 (n + 19) 3) (litw 64 9223372036854775807))))) ∧ Blk (w5.setCell ⟨w4.heap.size, 3, none⟩ (.int .u64 (iw (andw (F4 (n + 19) 3) (litw 64 9223372036854775807))))) w4.heap.size 40 (r64 4 (F4 ((n + 19) % P255))) := ⟨⟨h5.1.d.far (by have := h4.d.lt; simp; omega) _, h5.1.r.far (by have := h4.r.lt; simp; omega) _, h5.1.l.setCell (by have := h4.d.lt; simp; omega) _⟩, (h5.2.put (by omega) _).cast_ (row_low _)⟩)
      | (refine wpList_load_row rfl 40 _ rfl w4.heap.size rfl 40 _ (0, 0) _ h6.2 Tryz.underlying40 rfl (HS.out _) ?_)
      | (refine wpList_store_row rfl 40 _ _ rfl (w.heap.size + 1) (r64 4 (F4 ((n + 19) % P255))) rfl rfl 40 _ h6.1.r (HS.out _) (by rw [row_size, row_size]) (row_one fun _ => rfl) ?_))
    simp only [Act.put]
    exact bodyPost_ret (results_cell_row rfl _ _ (w.heap.size + 1) 40 (r64 4 (F4 ((n + 19) % P255))) (0, 0) _ rfl (h6.1.r.row_ _) Tryz.underlying40 rfl (HS.out _)) rfl ⟨by rw [← HX.out], below_setRow' h6.1.l (by omega) _⟩
theorem reduced_any (a : Nat) (w : World) (ha : a < M256) :
    Calls Tryz.prog 95 #[.agg (r64 4 (F4 a))] w fun e w' => e = .returned (.agg (r64 4 (F4 (a % pP)))) ∧ Below w.heap.size w w' := by
  have HS := Lib.hid fe_size
  have h0 : Value.int .u64 0 = .int .u64 (iw (nw 0)) := by kernel_rfl
  have H0 := Lib.hid h0
  clear h0
  have HB := Lib.hid (fun w => fbelow_any a 0 w ha (by omega))
  have LW0 : LW a w ((w.alloc (.cells (r64 4 (F4 a)) 40)).alloc (.cells #[.int .u64 0, .int .u64 0, .int .u64 0, .int .u64 0] 40)) := ⟨(Blk.new w _ _).alloc _, (Blk.new _ _ _).cast' ⟨by simp, zero4'⟩, ((Below.refl _ _).alloc (Nat.le_refl _) _).alloc (by simp) _⟩
  go_enter Tryz.func95, Tryz.ntmps95
  go_wp2_with (refine wpList_gen (LW a w) LW0 (fun w1 h1 => ?_); refine wpList_load_row rfl 40 _ rfl w.heap.size rfl 40 _ (0, 0) _ h1.d Tryz.underlying40 rfl (HS.out _) ?_)
  rw [H0.out]
  refine (HB.out w1).mono ?_
  rw [Nat.zero_mul, Nat.add_zero]
  rintro e w2 ⟨rfl, hq⟩
  have h2 := h1.below hq
  clear h1 hq
  go_wp2_with (refine wpList_store_row rfl 40 _ _ rfl (w.heap.size + 1) (r64 4 (F4 (a % pP))) rfl rfl 40 _ h2.r (HS.out _) (by rw [row_size, row_size]) (row_one fun _ => rfl) ?_)
  simp only [Act.put]
  exact bodyPost_ret (results_cell_row rfl _ _ (w.heap.size + 1) 40 (r64 4 (F4 (a % pP))) (0, 0) _ rfl (h2.r.row_ _) Tryz.underlying40 rfl (HS.out _)) rfl ⟨rfl, below_setRow' h2.l (by omega) _⟩
end Go.Proofs.YtggalphgnloneaaGreat
/- plus of the layer field. -/
namespace Go.Proofs.YtggalphgnloneaaGreat
open Go.RowKit
structure PW (a b k : Nat) (w wr : World) : Prop where
  da : Blk wr w.heap.size 40 (r64 4 (F4 a))
  db : Blk wr (w.heap.size + 1) 40 (r64 4 (F4 b))
  o : Blk wr (w.heap.size + 2) 40 (r64 4 (gF (a + b) k))
  l : Below w.heap.size w wr
theorem PW.drew {a b k : Nat} {w wr : World} (h : PW a b k w wr) : PW a b k w wr.drew := ⟨h.da, h.db, h.o, h.l.drew⟩
theorem PW.put {a b k : Nat} {w wr : World} (h : PW a b k w wr) (hk : k < 4) : PW a b (k + 1) w (wr.setCell ⟨w.heap.size + 2, k, none⟩ (.int .u64 (iw (F4 (a + b) k)))) :=
  ⟨h.da.far (by simp) _, h.db.far (by simp) _, (h.o.put hk _).cast_ (row_ext fun i _ => gF_put (a + b) k i), h.l.setCell (by simp) _⟩
set_option maxRecDepth 100000 in
set_option maxHeartbeats 1000000 in
theorem plus_any (a b : Nat) (w : World) :
    Calls Tryz.prog 126 #[.agg (r64 4 (F4 a)), .agg (r64 4 (F4 b))] w fun e w' => e = .returned (.tuple #[.agg (r64 4 (F4 (a + b))), .int .u64 (iw (c64 a b 4))]) ∧ Below w.heap.size w w' := by
  have HS := Lib.hid fe_size
  have hal : Tryz.prog.arrayLen 40 = 4 := by kernel_rfl
  have HA := Lib.hid (addF a b)
  go_enter Tryz.func126, Tryz.ntmps126
  go_wp2_with fail
  go_loopw [5, 7] (fun v i wr => ∃ k : Nat, k ≤ 4 ∧ i = .int .i64 (k : Int) ∧ v = .int .u64 (iw (c64 a b k)) ∧ PW a b k w wr) (fun _ i _ => 4 - (intOf i).toNat)
  case atStart => exact ⟨0, by omega, rfl, c64_zero a b, ⟨((Blk.new w _ _).alloc _).alloc _, ((Blk.new (w.alloc _) _ _).cast' ⟨by simp, rfl⟩).alloc _, (Blk.new _ _ _).cast' ⟨by simp, zero4'.trans (gF_none _)⟩, (((Below.refl _ _).alloc (Nat.le_refl _) _).alloc (by simp) _).alloc (by simp; omega) _⟩⟩
  case round =>
    obtain ⟨k, hk, rfl, rfl, hr⟩ := hrel
    by_cases hlt : k < 4
    · have ca := hr.da.at_ hlt
      have cb := hr.db.at_ hlt
      have hrun := HA.out k
      have hl0 : (k : Int) < 4 := by omega
      have hl1 : (0 : Int) ≤ k := by omega
      have hw1 : IntKind.i64.wrap (k : Int) = (k : Int) := IntWalk.i64_in _ (by omega)
      go_wp2_with fail
      refine wp_region_anyL (Two 13 1000 fun f1 _ wx => PW a b (if f1 then k + 1 else k) w wx) (by kernel_rfl) hr.drew ?_
      refine anyL_take (i := 0) (v := ?_) rfl (by kernel_rfl) (by kernel_rfl) (by kernel_rfl) (yl_other (by decide) (by decide) rfl (fun f1 f2 wx hT => ?_)) ?_; rotate_left
      · refine lands_value (w := wx) ?_ hT; go_simp <;> rfl
      simp only [pu]
      refine anyL_take (i := 1) (v := ?_) rfl (by kernel_rfl) (by kernel_rfl) (by kernel_rfl) (yl_other (by decide) (by decide) rfl (fun f1 f2 wx hT => ?_)) ?_; rotate_left
      · refine lands_value (w := wx) ?_ hT; go_simp <;> rfl
      simp only [pu]
      refine anyL_take (i := 2) (v := ?_) rfl (by kernel_rfl) (by kernel_rfl) (by kernel_rfl) (yl_other (by decide) (by decide) rfl (fun f1 f2 wx hT => ?_)) ?_; rotate_left
      · refine lands_value (w := wx) ?_ hT; go_simp <;> rfl
      simp only [pu]
      refine anyL_take (i := 3) (v := ?_) rfl (by kernel_rfl) (by kernel_rfl) (by kernel_rfl) (yl_other (by decide) (by decide) rfl (fun f1 f2 wx hT => ?_)) ?_; rotate_left
      · have ca := hT.da.at_ hlt; refine lands_value (w := wx) ?_ hT; go_simp <;> rfl
      simp only [pu]
      refine anyL_take (i := 4) (v := ?_) rfl (by kernel_rfl) (by kernel_rfl) (by kernel_rfl) (yl_other (by decide) (by decide) rfl (fun f1 f2 wx hT => ?_)) ?_; rotate_left
      · refine lands_value (w := wx) ?_ hT; go_simp <;> rfl
      simp only [pu]
      refine anyL_take (i := 5) (v := ?_) rfl (by kernel_rfl) (by kernel_rfl) (by kernel_rfl) (yl_other (by decide) (by decide) rfl (fun f1 f2 wx hT => ?_)) ?_; rotate_left
      · refine lands_value (w := wx) ?_ hT; go_simp <;> rfl
      simp only [pu]
      refine anyL_take (i := 6) (v := ?_) rfl (by kernel_rfl) (by kernel_rfl) (by kernel_rfl) (yl_other (by decide) (by decide) rfl (fun f1 f2 wx hT => ?_)) ?_; rotate_left
      · have cb := hT.db.at_ hlt; refine lands_value (w := wx) ?_ hT; go_simp <;> rfl
      simp only [pu]
      refine anyL_take (i := 7) (v := ?_) rfl (by kernel_rfl) (by kernel_rfl) (by kernel_rfl) (yl_other (by decide) (by decide) rfl (fun f1 f2 wx hT => ?_)) ?_; rotate_left
      · refine lands_value (w := wx) ?_ hT; go_simp <;> rfl
      simp only [pu]
      refine anyL_take (i := 8) (v := ?_) rfl (by kernel_rfl) (by kernel_rfl) (by kernel_rfl) (yl_other (by decide) (by decide) rfl (fun f1 f2 wx hT => ?_)) ?_; rotate_left
      · refine lands_value (w := wx) ?_ hT; go_simp <;> rfl
      simp only [pu]
      refine anyL_take (i := 9) (v := ?_) rfl (by kernel_rfl) (by kernel_rfl) (by kernel_rfl) (yl_other (by decide) (by decide) rfl (fun f1 f2 wx hT => ?_)) ?_; rotate_left
      · refine lands_value (w := wx) ?_ hT; go_simp <;> rfl
      simp only [pu]
      refine anyL_take (i := 10) (v := ?_) rfl (by kernel_rfl) (by kernel_rfl) (by kernel_rfl) (yl_other (by decide) (by decide) rfl (fun f1 f2 wx hT => ?_)) ?_; rotate_left
      · refine lands_value (w := wx) ?_ hT; go_simp <;> rfl
      simp only [pu]
      refine anyL_take (i := 11) (v := ?_) rfl (by kernel_rfl) (by kernel_rfl) (by kernel_rfl) (yl_other (by decide) (by decide) rfl (fun f1 f2 wx hT => ?_)) ?_; rotate_left
      · refine lands_value (w := wx) ?_ hT; go_simp <;> rfl
      simp only [pu]
      refine anyL_take (i := 12) (v := ?_) rfl (by kernel_rfl) (by kernel_rfl) (by kernel_rfl) (yl_other (by decide) (by decide) rfl (fun f1 f2 wx hT => ?_)) ?_; rotate_left
      · refine lands_value (w := wx) ?_ hT; go_simp <;> rfl
      simp only [pu]
      refine anyL_take (i := 13) (v := undef) rfl (by kernel_rfl) (by kernel_rfl) (by kernel_rfl) (yl_first (by decide) rfl (fun f2 wx hT => ?_)) ?_
      · have co := hT.o.at_ hlt; have fo := hT.o.frozen k; have K := hT.put hlt; go_simp; exact ⟨rfl, K⟩
      simp only [Act.put]
      refine anyL_take (i := 14) (v := ?_) rfl (by kernel_rfl) (by kernel_rfl) (by kernel_rfl) (yl_other (by decide) (by decide) rfl (fun f1 f2 wx hT => ?_)) ?_; rotate_left
      · refine lands_value (w := wx) ?_ hT; go_simp <;> rfl
      simp only [pu]
      refine anyL_done (by kernel_rfl) (fun w3 (K : PW a b (k + 1) w w3) => ?_) _
      clear hr ca cb hrun hl0 hl1 hw1
      go_wp2_with fail
      go_roundw
      case rel => exact ⟨k + 1, by omega, by go_num, rfl, K⟩
      case measure => simp [intOf]; omega
    · obtain rfl : k = 4 := by omega
      have ho := hr.o.cast_ (gF_all (a + b))
      have hl := hr.l
      clear hr
      go_wp2_with (first
        | (refine wpList_load_row rfl 40 _ rfl (w.heap.size + 2) rfl 40 _ (0, 0) _ ho Tryz.underlying40 rfl (HS.out _) ?_)
        | (refine wpList_store_row rfl 40 _ _ rfl (w.heap.size + 2) (r64 4 (F4 (a + b))) rfl rfl 40 _ ho (HS.out _) rfl (row_one fun _ => rfl) ?_))
      exact bodyPost_ret (results_cell_row_slot rfl _ _ (w.heap.size + 2) 40 (r64 4 (F4 (a + b))) (0, 0) _ _ rfl (ho.row_ _) Tryz.underlying40 rfl (HS.out _) rfl) rfl ⟨rfl, below_setRow' hl (by omega) _⟩
end Go.Proofs.YtggalphgnloneaaGreat
/- opposite, Add, Sub, Neg of the layer field. -/
namespace Go.Proofs.YtggalphgnloneaaGreat
open Go.RowKit
theorem subF (x y k : Nat) (hy : y ≤ x) (w : World) : (callFunc 129 #[.int .u64 (iw (F4 x k)), .int .u64 (iw (F4 y k)), .int .u64 (iw (c64 y (x - y) k))]).run Tryz.prog w = .ok (.value (.tuple #[.int .u64 (iw (F4 (x - y) k)), .int .u64 (iw (c64 y (x - y) (k + 1)))])) w := by
  rw [run_subW _ _ _ (by rw [c64_nat]; exact cn_le y (x - y) k)]
  have h1 := cn_digit y (x - y) k
  have h2 := cn_next y (x - y) k
  rw [show y + (x - y) = x by omega] at h1
  have l1 := F4_lt x k
  have l2 := F4_lt y k
  have l3 := F4_lt (x - y) k
  have l4 := cn_le y (x - y) k
  have l5 := cn_le y (x - y) (k + 1)
  have e1 : nw ((F4 x k).toNat + W64 - (F4 y k).toNat - (c64 y (x - y) k).toNat) = F4 (x - y) k := by
    apply nw_eq
    rw [F4_nat', F4_nat', F4_nat', c64_nat]
    unfold W64 at *; omega
  have e2 : nw (if (F4 x k).toNat < (F4 y k).toNat + (c64 y (x - y) k).toNat then 1 else 0) = c64 y (x - y) (k + 1) := by
    apply nw_eq
    rw [F4_nat', F4_nat', c64_nat, c64_nat]
    unfold W64 at *
    split <;> omega
  rw [e1, e2]
/-- Within opposite: the number turns into p less it, word by word. -/
def oF (y x k i : Nat) : BitVec 64 := if i < k then F4 (x - y) i else F4 y i
structure OW (y k : Nat) (w wr : World) : Prop where
  d : Blk wr w.heap.size 40 (r64 4 (oF y pP k))
  r : Blk wr (w.heap.size + 1) 40 (r64 4 fun _ => litw 64 0)
  l : Below w.heap.size w wr
theorem OW.put {y k : Nat} {w wr : World} (h : OW y k w wr) (hk : k < 4) : OW y (k + 1) w (wr.setCell ⟨w.heap.size, k, none⟩ (.int .u64 (iw (F4 (pP - y) k)))) :=
  ⟨(h.d.put hk _).cast_ (row_ext fun i _ => by
    unfold oF
    by_cases h : i = k
    · subst h; rw [if_pos rfl, if_pos (by omega)]
    · rw [if_neg h]
      by_cases h2 : i < k
      · rw [if_pos h2, if_pos (by omega)]
      · rw [if_neg h2, if_neg (by omega)]), h.r.far (by simp) _, h.l.setCell (by simp) _⟩
theorem OW.at_ {y k : Nat} {w wr : World} (h : OW y k w wr) (hk : k < 4) : wr.cell? ⟨w.heap.size, k, none⟩ = some (.int .u64 (iw (F4 y k))) := by
  have := h.d.at_ hk
  rw [show oF y pP k k = F4 y k by unfold oF; rw [if_neg (by omega)]] at this
  exact this
theorem oF_zero (y : Nat) : r64 4 (F4 y) = r64 4 (oF y pP 0) := row_ext fun i _ => by unfold oF; rw [if_neg (by omega)]
theorem oF_all (y : Nat) : r64 4 (oF y pP 4) = r64 4 (F4 (pP - y)) := row_ext fun i hi => by unfold oF; rw [if_pos hi]
theorem run_index4 (f : Nat → BitVec 64) (j : Nat) (hj : j < 4) (w : World) : (Instr.index 40 (.agg (r64 4 f)) (.int .i64 (j : Int))).run Tryz.prog w = .ok (.int .u64 (iw (f j))) w :=
  run_index_cell w 40 38 4 _ Tryz.underlying40 Tryz.underlying38 rfl (by kernel_rfl) _ _ j hj (row_get _ hj) .i64
set_option maxRecDepth 100000 in
set_option maxHeartbeats 1000000 in
theorem opposite_any (a : Nat) (w : World) (ha : a < M256) :
    Calls Tryz.prog 98 #[.agg (r64 4 (F4 a))] w fun e w' => e = .returned (.agg (r64 4 (F4 (pP - a % pP)))) ∧ Below w.heap.size w w' := by
  have HS := Lib.hid fe_size
  have hal : Tryz.prog.arrayLen 40 = 4 := by kernel_rfl
  have LW0 : LW a w ((w.alloc (.cells (r64 4 (F4 a)) 40)).alloc (.cells #[.int .u64 0, .int .u64 0, .int .u64 0, .int .u64 0] 40)) := ⟨(Blk.new w _ _).alloc _, (Blk.new _ _ _).cast' ⟨by simp, zero4'⟩, ((Below.refl _ _).alloc (Nat.le_refl _) _).alloc (by simp) _⟩
  have HY : a % pP ≤ pP := Nat.le_of_lt (Nat.mod_lt _ (by decide))
  have HB := Lib.hid (fun k => subF pP (a % pP) k HY)
  have HI := Lib.hid (run_index4 (F4 pP))
  go_enter Tryz.func98, Tryz.ntmps98
  go_wp2_with (refine wpList_gen (LW a w) LW0 (fun w1 h1 => ?_); refine wpList_load_row rfl 40 _ rfl w.heap.size rfl 40 _ (0, 0) _ h1.d Tryz.underlying40 rfl (HS.out _) ?_)
  refine (reduced_any a w1 ha).mono ?_
  rintro e w2 ⟨rfl, hq⟩
  have h2 := h1.below hq
  clear h1 hq LW0
  generalize hy : a % pP = y at HB HY ⊢
  have HYV := Lib.hid hy
  clear hy
  go_wp2_with (refine wpList_store_row rfl 40 _ _ rfl w.heap.size (r64 4 (F4 y)) rfl rfl 40 _ h2.d (HS.out _) (by simp only [row_size]) (row_one fun _ => rfl) ?_; refine wpList_gen (LW y w) (h2.row y) (fun w3 h3 => ?_))
  refine (fprime_any _).mono ?_
  rintro e w4 ⟨rfl, hq⟩
  have h4 := h3.below hq
  clear h2 h3 hq
  go_wp2_with fail
  go_loopw [3, 9] (fun v i wr => ∃ k : Nat, k ≤ 4 ∧ i = .int .i64 (k : Int) ∧ v = .int .u64 (iw (c64 y (pP - y) k)) ∧ OW y k w wr) (fun _ i _ => 4 - (intOf i).toNat)
  case atStart => exact ⟨0, by omega, rfl, c64_zero _ _, ⟨h4.d.cast_ (oF_zero y), h4.r, h4.l⟩⟩
  case round =>
    obtain ⟨k, hk, rfl, rfl, hr⟩ := hrel
    clear h4
    by_cases hlt : k < 4
    · have ca := hr.at_ hlt
      have hrun := HB.out k
      have hix := HI.out k hlt
      have hl0 : (k : Int) < 4 := by omega
      have hl1 : (0 : Int) ≤ k := by omega
      have fo := hr.d.frozen k
      have K := hr.put hlt
      clear hr
      go_wp2_with fail
      go_roundw
      case rel => exact ⟨k + 1, by omega, by go_num, rfl, K⟩
      case measure => simp [intOf]; omega
    · obtain rfl : k = 4 := by omega
      have ho := hr.d.cast_ (oF_all y)
      have hz := hr.r
      have hl := hr.l
      clear hr
      go_wp2_with (first
        | (refine wpList_load_row rfl 40 _ rfl w.heap.size rfl 40 _ (0, 0) _ ho Tryz.underlying40 rfl (HS.out _) ?_)
        | (refine wpList_store_row rfl 40 _ _ rfl (w.heap.size + 1) (r64 4 (F4 (pP - y))) rfl rfl 40 _ hz (HS.out _) (by simp only [row_size]) (row_one fun _ => rfl) ?_))
      simp only [Act.put]
      exact bodyPost_ret (results_cell_row rfl _ _ (w.heap.size + 1) 40 (r64 4 (F4 (pP - y))) (0, 0) _ rfl (hz.row_ _) Tryz.underlying40 rfl (HS.out _)) rfl ⟨by rw [HYV.out], below_setRow' hl (by omega) _⟩
/-- Three blocks of a call: two numbers and the result. -/
structure L3 (a b : Nat) (w wr : World) : Prop where
  da : Blk wr w.heap.size 40 (r64 4 (F4 a))
  db : Blk wr (w.heap.size + 1) 40 (r64 4 (F4 b))
  r : Blk wr (w.heap.size + 2) 40 (r64 4 fun _ => litw 64 0)
  l : Below w.heap.size w wr
theorem L3.below {a b : Nat} {w wr w' : World} (h : L3 a b w wr) (hb : Below wr.heap.size wr w') : L3 a b w w' := ⟨h.da.below hb h.da.lt, h.db.below hb h.db.lt, h.r.below hb h.r.lt, h.l.trans (hb.mono h.l.size)⟩
theorem L3.drew {a b : Nat} {w wr : World} (h : L3 a b w wr) : L3 a b w wr.drew := ⟨h.da, h.db, h.r, h.l.drew⟩
theorem L3.start (a b : Nat) (w : World) : L3 a b w (((w.alloc (.cells (r64 4 (F4 a)) 40)).alloc (.cells (r64 4 (F4 b)) 40)).alloc (.cells #[.int .u64 0, .int .u64 0, .int .u64 0, .int .u64 0] 40)) :=
  ⟨((Blk.new w _ _).alloc _).alloc _, ((Blk.new (w.alloc _) _ _).cast' ⟨by simp, rfl⟩).alloc _, (Blk.new _ _ _).cast' ⟨by simp, zero4'⟩, (((Below.refl _ _).alloc (Nat.le_refl _) _).alloc (by simp) _).alloc (by simp; omega) _⟩
set_option maxRecDepth 100000 in
set_option maxHeartbeats 1000000 in
theorem fadd_any (a b : Nat) (w : World) (ha : a < M256) (hb : b < M256) :
    Calls Tryz.prog 91 #[.agg (r64 4 (F4 a)), .agg (r64 4 (F4 b))] w fun e w' => e = .returned (.agg (r64 4 (F4 ((a + b) % pP)))) ∧ Below w.heap.size w w' := by
  have HS := Lib.hid fe_size
  have hc : c64 a b 4 = nw ((a + b) / M256) := by
    have e : (2 : Nat) ^ (64 * 4) = M256 := by decide
    unfold c64 cn; rw [e, Nat.mod_eq_of_lt ha, Nat.mod_eq_of_lt hb]; rfl
  have hF : r64 4 (F4 (a + b)) = r64 4 (F4 ((a + b) % M256)) := row_ext fun i hi => by
    have : F4 (a + b) i = F4 ((a + b) % M256) i := by
      apply BitVec.eq_of_toNat_eq
      rw [F4_nat, F4_nat]
      unfold M256
      match i, hi with
      | 0, _ => simp only [Nat.reduceMul, Nat.reducePow]; omega
      | 1, _ => simp only [Nat.reduceMul, Nat.reducePow]; omega
      | 2, _ => simp only [Nat.reduceMul, Nat.reducePow]; omega
      | 3, _ => simp only [Nat.reduceMul, Nat.reducePow]; omega
    rw [this]
  have HE := Lib.hid (show (a + b) % M256 + (a + b) / M256 * M256 = a + b by rw [Nat.mul_comm]; exact Nat.mod_add_div _ _)
  have HB := Lib.hid (fun w => fbelow_any ((a + b) % M256) ((a + b) / M256) w (Nat.mod_lt _ (by decide)) (by unfold M256 at *; omega))
  have HC := Lib.hid hc
  have HF := Lib.hid hF
  clear hc hF
  have L0 := L3.start a b w
  go_enter Tryz.func91, Tryz.ntmps91
  go_wp2_with (first
    | (refine wpList_gen (L3 a b w) L0 (fun w1 h1 => ?_); refine wpList_load_row rfl 40 _ rfl w.heap.size rfl 40 _ (0, 0) _ h1.da Tryz.underlying40 rfl (HS.out _) ?_)
    | (refine wpList_load_row rfl 40 _ rfl (w.heap.size + 1) rfl 40 _ (0, 0) _ h1.db Tryz.underlying40 rfl (HS.out _) ?_))
  refine (plus_any a b w1).mono ?_
  rw [HC.out, HF.out]
  rintro e w2 ⟨rfl, hq⟩
  have h2 := h1.below hq
  clear h1 hq L0
  go_wp2_with fail
  refine (HB.out w2).mono ?_
  rw [HE.out]
  rintro e w3 ⟨rfl, hq⟩
  have h3 := h2.below hq
  clear h2 hq
  go_wp2_with (refine wpList_store_row rfl 40 _ _ rfl (w.heap.size + 2) (r64 4 (F4 ((a + b) % pP))) rfl rfl 40 _ h3.r (HS.out _) (by simp only [row_size]) (row_one fun _ => rfl) ?_)
  simp only [Act.put]
  exact bodyPost_ret (results_cell_row rfl _ _ (w.heap.size + 2) 40 (r64 4 (F4 ((a + b) % pP))) (0, 0) _ rfl (h3.r.row_ _) Tryz.underlying40 rfl (HS.out _)) rfl ⟨rfl, below_setRow' h3.l (by omega) _⟩
set_option maxRecDepth 100000 in
set_option maxHeartbeats 1000000 in
theorem fneg_any (a : Nat) (w : World) (ha : a < M256) :
    Calls Tryz.prog 62 #[.agg (r64 4 (F4 a))] w fun e w' => e = .returned (.agg (r64 4 (F4 ((pP - a % pP) % pP)))) ∧ Below w.heap.size w w' := by
  have HS := Lib.hid fe_size
  have LW0 : LW a w ((w.alloc (.cells (r64 4 (F4 a)) 40)).alloc (.cells #[.int .u64 0, .int .u64 0, .int .u64 0, .int .u64 0] 40)) := ⟨(Blk.new w _ _).alloc _, (Blk.new _ _ _).cast' ⟨by simp, zero4'⟩, ((Below.refl _ _).alloc (Nat.le_refl _) _).alloc (by simp) _⟩
  have HB := Lib.hid (fun w => reduced_any (pP - a % pP) w (by have := Nat.sub_le pP (a % pP); unfold pP M256 at *; omega))
  go_enter Tryz.func62, Tryz.ntmps62
  go_wp2_with (refine wpList_gen (LW a w) LW0 (fun w1 h1 => ?_); refine wpList_load_row rfl 40 _ rfl w.heap.size rfl 40 _ (0, 0) _ h1.d Tryz.underlying40 rfl (HS.out _) ?_)
  refine (opposite_any a w1 ha).mono ?_
  rintro e w2 ⟨rfl, hq⟩
  have h2 := h1.below hq
  clear h1 hq LW0
  go_wp2_with fail
  refine (HB.out w2).mono ?_
  rintro e w3 ⟨rfl, hq⟩
  have h3 := h2.below hq
  clear h2 hq
  go_wp2_with (refine wpList_store_row rfl 40 _ _ rfl (w.heap.size + 1) (r64 4 (F4 ((pP - a % pP) % pP))) rfl rfl 40 _ h3.r (HS.out _) (by simp only [row_size]) (row_one fun _ => rfl) ?_)
  simp only [Act.put]
  exact bodyPost_ret (results_cell_row rfl _ _ (w.heap.size + 1) 40 (r64 4 (F4 ((pP - a % pP) % pP))) (0, 0) _ rfl (h3.r.row_ _) Tryz.underlying40 rfl (HS.out _)) rfl ⟨rfl, below_setRow' h3.l (by omega) _⟩
end Go.Proofs.YtggalphgnloneaaGreat
/- Sub, Mul, timesSquare of the layer field. -/
namespace Go.Proofs.YtggalphgnloneaaGreat
open Go.RowKit
theorem lands_fe {R : World → Prop} {o : Oper} {a : Act} {w : World} (x : Operand) (ho : o.op = .load 40 x) (g : Nat) (hx : a.eval x = .pointer (some ⟨g, 0, none⟩)) (f : Nat → BitVec 64) (hg : Blk w g 40 (r64 4 f)) (hR : R w) :
    Lands Tryz.prog R (.agg (r64 4 f)) ((execOp a.eval o).run Tryz.prog w) := lands_load 40 x ho g hx _ _ _ hg Tryz.underlying40 rfl (fe_size f) hR
theorem stores_fe {R : World → Prop} {o : Oper} {a : Act} {w : World} (x y : Operand) (ho : o.op = .store 40 x y) (g : Nat) (f f0 : Nat → BitVec 64) (hx : a.eval x = .pointer (some ⟨g, 0, none⟩)) (hy : a.eval y = .agg (r64 4 f)) (hg : Blk w g 40 (r64 4 f0)) (hR : R (w.setRow g (r64 4 f))) :
    Lands Tryz.prog R undef ((execOp a.eval o).run Tryz.prog w) := lands_store 40 x y ho g _ hx hy _ _ hg (fe_size f) (by simp only [row_size]) (row_one fun _ => rfl) hR
/-- Three blocks of a call, the third one with f. -/
structure L3r (a b : Nat) (f : Nat → BitVec 64) (w wr : World) : Prop where
  da : Blk wr w.heap.size 40 (r64 4 (F4 a))
  db : Blk wr (w.heap.size + 1) 40 (r64 4 (F4 b))
  r : Blk wr (w.heap.size + 2) 40 (r64 4 f)
  l : Below w.heap.size w wr
theorem L3r.below {a b : Nat} {f : Nat → BitVec 64} {w wr w' : World} (h : L3r a b f w wr) (hb : Below wr.heap.size wr w') : L3r a b f w w' := ⟨h.da.below hb h.da.lt, h.db.below hb h.db.lt, h.r.below hb h.r.lt, h.l.trans (hb.mono h.l.size)⟩
theorem L3r.put {a b : Nat} {f : Nat → BitVec 64} {w wr : World} (h : L3r a b f w wr) (f' : Nat → BitVec 64) : L3r a b f' w (wr.setRow (w.heap.size + 2) (r64 4 f')) :=
  ⟨h.da.row_far (by omega) _, h.db.row_far (by omega) _, h.r.row_ _, below_setRow' h.l (by omega) _⟩
/-- The result's words, when it is stored or not. -/
def onceF (b : Bool) (n : Nat) : Nat → BitVec 64 := if b then F4 n else fun _ => litw 64 0
set_option maxRecDepth 100000 in
set_option maxHeartbeats 1000000 in
theorem fsub_any (a b : Nat) (w : World) (ha : a < M256) (hb : b < M256) :
    Calls Tryz.prog 89 #[.agg (r64 4 (F4 a)), .agg (r64 4 (F4 b))] w fun e w' => e = .returned (.agg (r64 4 (F4 ((a + (pP - b % pP)) % pP)))) ∧ Below w.heap.size w w' := by
  have hn : pP - b % pP < M256 := by have := Nat.sub_le pP (b % pP); unfold pP M256 at *; omega
  have L0 := L3.start a b w
  have HS := Lib.hid fe_size
  go_enter Tryz.func89, Tryz.ntmps89
  go_wp2_with fail
  refine wp_gen (L3 a b w) L0 (fun w1 h1 => ?_)
  clear L0
  refine wp_region_anyL (Two 4 1000 fun f1 _ wx => L3r a b (onceF f1 ((a + (pP - b % pP)) % pP)) w wx) (by kernel_rfl) ⟨h1.da, h1.db, h1.r, h1.l.drew⟩ ?_
  refine anyL_take (i := 0) (v := .agg (r64 4 (F4 a))) rfl (by kernel_rfl) (by kernel_rfl) (by kernel_rfl) (yl_other (by decide) (by decide) rfl (fun f1 f2 wx hT => ?_)) ?_
  · exact lands_fe _ rfl _ rfl _ hT.da hT
  simp only [pu]
  refine anyL_take (i := 1) (v := .agg (r64 4 (F4 b))) rfl (by kernel_rfl) (by kernel_rfl) (by kernel_rfl) (yl_other (by decide) (by decide) rfl (fun f1 f2 wx hT => ?_)) ?_
  · exact lands_fe _ rfl _ rfl _ hT.db hT
  simp only [pu]
  refine anyL_take (i := 2) (v := .agg (r64 4 (F4 (pP - b % pP)))) rfl (by kernel_rfl) (by kernel_rfl) (by kernel_rfl) (yl_other (by decide) (by decide) rfl (fun f1 f2 wx hT => ?_)) ?_
  · exact lands_calls (w := wx) ((opposite_any b wx hb).mono fun _ _ ⟨he, hb⟩ => ⟨he, hT.below hb⟩) (by go_simp)
  simp only [pu]
  refine anyL_take (i := 3) (v := .agg (r64 4 (F4 ((a + (pP - b % pP)) % pP)))) rfl (by kernel_rfl) (by kernel_rfl) (by kernel_rfl) (yl_other (by decide) (by decide) rfl (fun f1 f2 wx hT => ?_)) ?_
  · exact lands_calls (w := wx) ((fadd_any a (pP - b % pP) wx ha hn).mono fun _ _ ⟨he, hb⟩ => ⟨he, hT.below hb⟩) (by go_simp)
  simp only [pu]
  refine anyL_take (i := 4) (v := undef) rfl (by kernel_rfl) (by kernel_rfl) (by kernel_rfl) (yl_first (by decide) rfl (fun f2 wx hT => ?_)) ?_
  · exact stores_fe _ _ rfl (w.heap.size + 2) _ _ rfl rfl hT.r (hT.put _)
  simp only [Act.put]
  refine anyL_done (by kernel_rfl) (fun w3 (K : L3r a b (onceF true ((a + (pP - b % pP)) % pP)) w w3) => ?_) _
  go_wp2_with fail
  exact bodyPost_ret (results_cell_row rfl _ _ (w.heap.size + 2) 40 (r64 4 (F4 ((a + (pP - b % pP)) % pP))) (0, 0) _ rfl K.r Tryz.underlying40 rfl (HS.out _)) rfl ⟨rfl, K.l⟩
end Go.Proofs.YtggalphgnloneaaGreat
/- Mul of the layer field. -/
namespace Go.Proofs.YtggalphgnloneaaGreat
open Go.RowKit
theorem row0_any (x : BitVec 64) (b : Nat) (hb : b < M256) (w : World) :
    Calls Tryz.prog 121 #[.int .u64 (iw x), .agg (r64 4 (F4 b)), .int .u64 0, .int .u64 0, .int .u64 0, .int .u64 0] w fun e w' => e = .returned (.tuple #[.int .u64 (iw (F4 (x.toNat * b) 0)), .int .u64 (iw (F4 (x.toNat * b) 1)), .int .u64 (iw (F4 (x.toNat * b) 2)), .int .u64 (iw (F4 (x.toNat * b) 3)), .int .u64 (iw (F4 (x.toNat * b) 4))]) ∧ Below w.heap.size w w' := by
  have h := row_any x b 0 hb (by decide) _ _ _ _ _ rfl (F4_zero 0).symm (F4_zero 1).symm (F4_zero 2).symm (F4_zero 3).symm w
  rw [Nat.add_zero, ← lit0w] at h
  exact h
theorem row38_any (b W : Nat) (hb : b < M256) (hW : W < M256) (cs : Array Value) (v0 v1 v2 v3 : BitVec 64) (hcs : cs = r64 4 (F4 b)) (h0 : v0 = F4 W 0) (h1 : v1 = F4 W 1) (h2 : v2 = F4 W 2) (h3 : v3 = F4 W 3) (w : World) :
    Calls Tryz.prog 121 #[.int .u64 38, .agg cs, .int .u64 (iw v0), .int .u64 (iw v1), .int .u64 (iw v2), .int .u64 (iw v3)] w fun e w' => e = .returned (.tuple #[.int .u64 (iw (F4 (38 * b + W) 0)), .int .u64 (iw (F4 (38 * b + W) 1)), .int .u64 (iw (F4 (38 * b + W) 2)), .int .u64 (iw (F4 (38 * b + W) 3)), .int .u64 (iw (F4 (38 * b + W) 4))]) ∧ Below w.heap.size w w' := by
  have h := row_any (litw 64 38) b W hb hW cs v0 v1 v2 v3 hcs h0 h1 h2 h3 w
  have e1 : Value.int .u64 38 = .int .u64 (iw (litw 64 38)) := by kernel_rfl
  have e2 : (litw 64 38).toNat = 38 := by unfold litw; rfl
  rw [e2, ← e1] at h
  exact h
theorem row_lt (x : BitVec 64) (b W : Nat) (hb : b < M256) (hW : W < M256) : (x.toNat * b + W) / W64 < M256 := by
  refine Nat.div_lt_of_lt_mul ?_
  have hx := w_lt x
  have h1 : x.toNat * b ≤ (W64 - 1) * (M256 - 1) := Nat.mul_le_mul (by omega) (by omega)
  have h2 : (W64 - 1) * (M256 - 1) + M256 ≤ W64 * M256 := by decide
  omega
/-- What the rows come to. -/
def n0 (a b : Nat) : Nat := (F4 a 0).toNat * b
def n1 (a b : Nat) : Nat := (F4 a 1).toNat * b + n0 a b / W64
def n2 (a b : Nat) : Nat := (F4 a 2).toNat * b + n1 a b / W64
def n3 (a b : Nat) : Nat := (F4 a 3).toNat * b + n2 a b / W64
theorem words_a (a : Nat) (ha : a < M256) : a = (F4 a 0).toNat + W64 * ((F4 a 1).toNat + W64 * ((F4 a 2).toNat + W64 * (F4 a 3).toNat)) := by
  rw [F4_nat, F4_nat, F4_nat, F4_nat]
  unfold W64; unfold M256 at ha
  simp only [Nat.reduceMul, Nat.reducePow]
  omega
theorem prod_words (a b : Nat) (ha : a < M256) : a * b / W64 = n1 a b + W64 * ((F4 a 2).toNat * b + W64 * ((F4 a 3).toNat * b)) ∧ a * b / W64 / W64 = n2 a b + W64 * ((F4 a 3).toNat * b) ∧ a * b / W64 / W64 / W64 = n3 a b ∧ a * b % W64 = n0 a b % W64 := by
  have h := words_a a ha
  have e : a * b = n0 a b + W64 * ((F4 a 1).toNat * b + W64 * ((F4 a 2).toNat * b + W64 * ((F4 a 3).toNat * b))) := by
    have : a * b = ((F4 a 0).toNat + W64 * ((F4 a 1).toNat + W64 * ((F4 a 2).toNat + W64 * (F4 a 3).toNat))) * b := by rw [← h]
    rw [this]; unfold n0
    simp only [Nat.add_mul, Nat.mul_assoc]
  rw [e]
  unfold n3 n2 n1
  generalize n0 a b = m0
  generalize (F4 a 1).toNat * b = m1
  generalize (F4 a 2).toNat * b = m2
  generalize (F4 a 3).toNat * b = m3
  unfold W64
  refine ⟨?_, ?_, ?_, ?_⟩ <;> omega
theorem n0_word (a b : Nat) (ha : a < M256) : F4 (n0 a b) 0 = F4 (a * b % M256) 0 := by
  apply BitVec.eq_of_toNat_eq
  have := (prod_words a b ha).2.2.2
  rw [F4_nat, F4_nat]; unfold M256; unfold W64 at this
  simp only [Nat.reduceMul, Nat.reducePow]
  omega
theorem n1_word (a b : Nat) (ha : a < M256) : F4 (n1 a b) 0 = F4 (a * b % M256) 1 := by
  apply BitVec.eq_of_toNat_eq
  have := (prod_words a b ha).1
  rw [F4_nat, F4_nat]; unfold M256; unfold W64 at this
  simp only [Nat.reduceMul, Nat.reducePow]
  omega
theorem n2_word (a b : Nat) (ha : a < M256) : F4 (n2 a b) 0 = F4 (a * b % M256) 2 := by
  apply BitVec.eq_of_toNat_eq
  have := (prod_words a b ha).2.1
  rw [F4_nat, F4_nat]; unfold M256; unfold W64 at this
  simp only [Nat.reduceMul, Nat.reducePow]
  omega
theorem n3_word (a b : Nat) (ha : a < M256) : F4 (n3 a b) 0 = F4 (a * b % M256) 3 := by
  apply BitVec.eq_of_toNat_eq
  have := (prod_words a b ha).2.2.1
  rw [F4_nat, F4_nat]; unfold M256; unfold W64 at this
  simp only [Nat.reduceMul, Nat.reducePow]
  omega
theorem n3_high (a b : Nat) (ha : a < M256) : n3 a b / W64 = a * b / M256 := by
  have := (prod_words a b ha).2.2.1
  rw [← this, Nat.div_div_eq_div_mul, Nat.div_div_eq_div_mul, Nat.div_div_eq_div_mul]; rfl
def mr (a b : Nat) : Nat := 38 * (a * b / M256) + a * b % M256
theorem mr_mod (a b : Nat) : (mr a b % M256 + mr a b / M256 * M256) % pP = a * b % pP := by
  rw [Nat.mul_comm, Nat.mod_add_div]
  have h := Nat.mod_add_div (a * b) M256
  have e : a * b = mr a b + pP * (2 * (a * b / M256)) := by
    unfold mr
    generalize a * b / M256 = q at *
    generalize a * b % M256 = r at *
    rw [← h]; unfold M256 pP; omega
  have e2 : a * b % pP = (mr a b + pP * (2 * (a * b / M256))) % pP := by rw [← e]
  rw [e2, Nat.add_mul_mod_self_left]
theorem mr_lt (a b : Nat) (ha : a < M256) (hb : b < M256) : mr a b / M256 ≤ 38 := by
  have h1 : a * b / M256 < M256 := Nat.div_lt_of_lt_mul (Nat.mul_lt_mul'' ha hb)
  have h2 : a * b % M256 < M256 := Nat.mod_lt _ (by decide)
  have : mr a b / M256 < 39 := Nat.div_lt_of_lt_mul (by unfold mr; omega)
  omega
theorem F4_mod (m i : Nat) (hi : i < 4) : F4 m i = F4 (m % M256) i := by
  apply BitVec.eq_of_toNat_eq
  rw [F4_nat, F4_nat]
  unfold M256
  match i, hi with
  | 0, _ => simp only [Nat.reduceMul, Nat.reducePow]; omega
  | 1, _ => simp only [Nat.reduceMul, Nat.reducePow]; omega
  | 2, _ => simp only [Nat.reduceMul, Nat.reducePow]; omega
  | 3, _ => simp only [Nat.reduceMul, Nat.reducePow]; omega
theorem F4_over (m : Nat) : F4 m 4 = nw (m / M256) := by unfold F4 nw M256; rfl
theorem rowA0 (a b : Nat) (hb : b < M256) (w : World) : Calls Tryz.prog 121 #[.int .u64 (iw (F4 a 0)), .agg (r64 4 (F4 b)), .int .u64 0, .int .u64 0, .int .u64 0, .int .u64 0] w fun e w' => e = .returned (.tuple #[.int .u64 (iw (F4 (n0 a b) 0)), .int .u64 (iw (F4 (n0 a b) 1)), .int .u64 (iw (F4 (n0 a b) 2)), .int .u64 (iw (F4 (n0 a b) 3)), .int .u64 (iw (F4 (n0 a b) 4))]) ∧ Below w.heap.size w w' := row0_any (F4 a 0) b hb w
theorem rowA1 (a b : Nat) (hb : b < M256) (h : n0 a b / W64 < M256) (w : World) : Calls Tryz.prog 121 #[.int .u64 (iw (F4 a 1)), .agg (r64 4 (F4 b)), .int .u64 (iw (F4 (n0 a b) 1)), .int .u64 (iw (F4 (n0 a b) 2)), .int .u64 (iw (F4 (n0 a b) 3)), .int .u64 (iw (F4 (n0 a b) 4))] w fun e w' => e = .returned (.tuple #[.int .u64 (iw (F4 (n1 a b) 0)), .int .u64 (iw (F4 (n1 a b) 1)), .int .u64 (iw (F4 (n1 a b) 2)), .int .u64 (iw (F4 (n1 a b) 3)), .int .u64 (iw (F4 (n1 a b) 4))]) ∧ Below w.heap.size w w' :=
  row_any (F4 a 1) b (n0 a b / W64) hb h _ _ _ _ _ rfl (F4_shift _ 0).symm (F4_shift _ 1).symm (F4_shift _ 2).symm (F4_shift _ 3).symm w
theorem rowA2 (a b : Nat) (hb : b < M256) (h : n1 a b / W64 < M256) (w : World) : Calls Tryz.prog 121 #[.int .u64 (iw (F4 a 2)), .agg (r64 4 (F4 b)), .int .u64 (iw (F4 (n1 a b) 1)), .int .u64 (iw (F4 (n1 a b) 2)), .int .u64 (iw (F4 (n1 a b) 3)), .int .u64 (iw (F4 (n1 a b) 4))] w fun e w' => e = .returned (.tuple #[.int .u64 (iw (F4 (n2 a b) 0)), .int .u64 (iw (F4 (n2 a b) 1)), .int .u64 (iw (F4 (n2 a b) 2)), .int .u64 (iw (F4 (n2 a b) 3)), .int .u64 (iw (F4 (n2 a b) 4))]) ∧ Below w.heap.size w w' :=
  row_any (F4 a 2) b (n1 a b / W64) hb h _ _ _ _ _ rfl (F4_shift _ 0).symm (F4_shift _ 1).symm (F4_shift _ 2).symm (F4_shift _ 3).symm w
theorem rowA3 (a b : Nat) (hb : b < M256) (h : n2 a b / W64 < M256) (w : World) : Calls Tryz.prog 121 #[.int .u64 (iw (F4 a 3)), .agg (r64 4 (F4 b)), .int .u64 (iw (F4 (n2 a b) 1)), .int .u64 (iw (F4 (n2 a b) 2)), .int .u64 (iw (F4 (n2 a b) 3)), .int .u64 (iw (F4 (n2 a b) 4))] w fun e w' => e = .returned (.tuple #[.int .u64 (iw (F4 (n3 a b) 0)), .int .u64 (iw (F4 (n3 a b) 1)), .int .u64 (iw (F4 (n3 a b) 2)), .int .u64 (iw (F4 (n3 a b) 3)), .int .u64 (iw (F4 (n3 a b) 4))]) ∧ Below w.heap.size w w' :=
  row_any (F4 a 3) b (n2 a b / W64) hb h _ _ _ _ _ rfl (F4_shift _ 0).symm (F4_shift _ 1).symm (F4_shift _ 2).symm (F4_shift _ 3).symm w
theorem rowA4 (a b : Nat) (ha : a < M256) (h : n3 a b / W64 < M256) (w : World) : Calls Tryz.prog 121 #[.int .u64 38, .agg #[.int .u64 (iw (F4 (n3 a b) 1)), .int .u64 (iw (F4 (n3 a b) 2)), .int .u64 (iw (F4 (n3 a b) 3)), .int .u64 (iw (F4 (n3 a b) 4))], .int .u64 (iw (F4 (n0 a b) 0)), .int .u64 (iw (F4 (n1 a b) 0)), .int .u64 (iw (F4 (n2 a b) 0)), .int .u64 (iw (F4 (n3 a b) 0))] w fun e w' => e = .returned (.tuple #[.int .u64 (iw (F4 (mr a b) 0)), .int .u64 (iw (F4 (mr a b) 1)), .int .u64 (iw (F4 (mr a b) 2)), .int .u64 (iw (F4 (mr a b) 3)), .int .u64 (iw (F4 (mr a b) 4))]) ∧ Below w.heap.size w w' := by
  rw [n3_high a b ha] at h
  exact row38_any (a * b / M256) (a * b % M256) h (Nat.mod_lt _ (by decide)) _ _ _ _ _ (row4 _ _ _ _ _ (by rw [← n3_high a b ha, F4_shift]) (by rw [← n3_high a b ha, F4_shift]) (by rw [← n3_high a b ha, F4_shift]) (by rw [← n3_high a b ha, F4_shift])) (n0_word a b ha) (n1_word a b ha) (n2_word a b ha) (n3_word a b ha) w
theorem belowA (a b : Nat) (ha : a < M256) (hb : b < M256) (w : World) : Calls Tryz.prog 122 #[.agg #[.int .u64 (iw (F4 (mr a b) 0)), .int .u64 (iw (F4 (mr a b) 1)), .int .u64 (iw (F4 (mr a b) 2)), .int .u64 (iw (F4 (mr a b) 3))], .int .u64 (iw (F4 (mr a b) 4))] w fun e w' => e = .returned (.agg (r64 4 (F4 (a * b % pP)))) ∧ Below w.heap.size w w' := by
  rw [F4_over, row4 _ _ _ _ (F4 (mr a b % M256)) (F4_mod _ _ (by omega)) (F4_mod _ _ (by omega)) (F4_mod _ _ (by omega)) (F4_mod _ _ (by omega)), ← mr_mod]
  exact fbelow_any _ _ w (Nat.mod_lt _ (by decide)) (mr_lt a b ha hb)
set_option maxRecDepth 100000 in
set_option maxHeartbeats 2000000 in
theorem fmul_any (a b : Nat) (w : World) (ha : a < M256) (hb : b < M256) :
    Calls Tryz.prog 87 #[.agg (r64 4 (F4 a)), .agg (r64 4 (F4 b))] w fun e w' => e = .returned (.agg (r64 4 (F4 (a * b % pP)))) ∧ Below w.heap.size w w' := by
  have HS := Lib.hid fe_size
  have l0 : n0 a b / W64 < M256 := row_lt (F4 a 0) b 0 hb (by decide)
  have l1 : n1 a b / W64 < M256 := row_lt (F4 a 1) b _ hb l0
  have l2 : n2 a b / W64 < M256 := row_lt (F4 a 2) b _ hb l1
  have l3 : n3 a b / W64 < M256 := row_lt (F4 a 3) b _ hb l2
  have L0 := L3.start a b w
  have c0 := L0.da.at_ (i := 0) (by omega)
  have hbu := built4
  go_enter Tryz.func87, Tryz.ntmps87
  go_wp2_with (refine wpList_load_row rfl 40 _ rfl (w.heap.size + 1) rfl 40 _ (0, 0) _ L0.db Tryz.underlying40 rfl (HS.out _) ?_)
  refine (rowA0 a b hb _).mono ?_
  rintro e w1 ⟨rfl, hq⟩
  have h1 := L0.below hq
  have c1 := h1.da.at_ (i := 1) (by omega)
  clear L0 c0 hq
  go_wp2_with (refine wpList_load_row rfl 40 _ rfl (w.heap.size + 1) rfl 40 _ (0, 0) _ h1.db Tryz.underlying40 rfl (HS.out _) ?_)
  refine (rowA1 a b hb l0 _).mono ?_
  rintro e w2 ⟨rfl, hq⟩
  have h2 := h1.below hq
  have c2 := h2.da.at_ (i := 2) (by omega)
  clear h1 c1 hq
  go_wp2_with (refine wpList_load_row rfl 40 _ rfl (w.heap.size + 1) rfl 40 _ (0, 0) _ h2.db Tryz.underlying40 rfl (HS.out _) ?_)
  refine (rowA2 a b hb l1 _).mono ?_
  rintro e w3 ⟨rfl, hq⟩
  have h3 := h2.below hq
  have c3 := h3.da.at_ (i := 3) (by omega)
  clear h2 c2 hq
  go_wp2_with (refine wpList_load_row rfl 40 _ rfl (w.heap.size + 1) rfl 40 _ (0, 0) _ h3.db Tryz.underlying40 rfl (HS.out _) ?_)
  refine (rowA3 a b hb l2 _).mono ?_
  rintro e w4 ⟨rfl, hq⟩
  have h4 := h3.below hq
  clear h3 c3 hq
  go_wp2_with fail
  refine (rowA4 a b ha l3 _).mono ?_
  rintro e w5 ⟨rfl, hq⟩
  have h5 := h4.below hq
  clear h4 hq
  go_wp2_with fail
  refine (belowA a b ha hb _).mono ?_
  rintro e w6 ⟨rfl, hq⟩
  have h6 := h5.below hq
  clear h5 hq
  go_wp2_with (refine wpList_store_row rfl 40 _ _ rfl (w.heap.size + 2) (r64 4 (F4 (a * b % pP))) rfl rfl 40 _ h6.r (HS.out _) (by simp only [row_size]) (row_one fun _ => rfl) ?_)
  simp only [Act.put]
  exact bodyPost_ret (results_cell_row rfl _ _ (w.heap.size + 2) 40 (r64 4 (F4 (a * b % pP))) (0, 0) _ rfl (h6.r.row_ _) Tryz.underlying40 rfl (HS.out _)) rfl ⟨rfl, below_setRow' h6.l (by omega) _⟩
end Go.Proofs.YtggalphgnloneaaGreat
/- Comparing numbers; Right, Small, Odd, timesSquare, half of the layer field. -/
namespace Go.Proofs.YtggalphgnloneaaGreat
open Go.RowKit
theorem run_part_cell {P : Program} (w : World) (E : TypeId) (d : TypeDesc) (hE : P.underlying E = some d) (hd : (match d with | .struct _ | .array _ _ => true | _ => false) = false) (xs : Array Value) (i : Nat) (v : Value) (hv : xs[i]? = some v) : (part E xs i).run P w = .ok v w := by
  have hagg : (isAgg E).run P w = .ok false w := by
    unfold isAgg
    rw [Sem.run_bind, run_underlying hE w]
    cases d <;> simp_all
  simp [part, Sem.run_bind, hagg, hv]
/-- Are the first words of both alike? -/
def eq4 (f g : Nat → BitVec 64) : Bool := f 0 == g 0 && (f 1 == g 1 && (f 2 == g 2 && f 3 == g 3))
theorem iw_beq (x y : BitVec 64) : (iw x == iw y) = (x == y) := by
  rw [Bool.eq_iff_iff, beq_iff_eq, beq_iff_eq]
  constructor
  · intro h; apply BitVec.eq_of_toNat_eq; unfold iw at h; omega
  · intro h; rw [h]
theorem run_equalIn_row {P : Program} (w : World) (d : Nat) (T E : TypeId) (hT : P.underlying T = some (.array 4 E)) (hE : P.underlying E = some (.int .u64)) (hi : (P.info? E).map (·.size) = some 1) (f g : Nat → BitVec 64) :
    (Op.equalIn (d + 2) T (.agg (r64 4 f)) (.agg (r64 4 g))).run P w = .ok (eq4 f g) w := by
  cases hq : P.info? E with
  | none => simp [hq] at hi
  | some i =>
    have hs : i.size = 1 := by simpa [hq] using hi
    have hp : ∀ (h : Nat → BitVec 64) (j : Nat), j < 4 → ∀ w, (part E (r64 4 h) j).run P w = .ok (.int .u64 (iw (h j))) w := fun h j hj w => run_part_cell w E _ hE rfl _ j _ (row_get _ hj)
    have he : ∀ a b w, (Op.equalIn (d + 1) E (.int .u64 a) (.int .u64 b)).run P w = .ok (a == b) w := fun a b w => run_equalIn_int w d E .u64 .u64 a b hE
    unfold Op.equalIn
    simp [Sem.run_bind, run_underlying hT, sizeOf, typeInfo, hq, hs, List.range', hp, he, iw_beq]
    unfold eq4
    by_cases h0 : f 0 = g 0 <;> by_cases h1 : f 1 = g 1 <;> by_cases h2 : f 2 = g 2 <;> by_cases h3 : f 3 = g 3 <;> simp [h0, h1, h2, h3]
theorem eq4_same (f : Nat → BitVec 64) : eq4 f f = true := by unfold eq4; simp
theorem F4_inj (a b : Nat) (ha : a < M256) (hb : b < M256) (h0 : F4 a 0 = F4 b 0) (h1 : F4 a 1 = F4 b 1) (h2 : F4 a 2 = F4 b 2) (h3 : F4 a 3 = F4 b 3) : a = b := by
  have e1 := words_a a ha
  have e2 := words_a b hb
  rw [e1, e2, h0, h1, h2, h3]
theorem eq4_F4 (a b : Nat) (ha : a < M256) (hb : b < M256) : eq4 (F4 a) (F4 b) = decide (a = b) := by
  by_cases h : a = b
  · subst h; rw [eq4_same]; simp
  · rw [decide_eq_false h]
    cases he : eq4 (F4 a) (F4 b) with
    | false => rfl
    | true =>
      exfalso
      unfold eq4 at he
      simp only [Bool.and_eq_true, beq_iff_eq] at he
      exact h (F4_inj a b ha hb he.1 he.2.1 he.2.2.1 he.2.2.2)
theorem run_eq_fe (f g : Nat → BitVec 64) (w : World) : (Op.equalIn 10000 40 (.agg (r64 4 f)) (.agg (r64 4 g))).run Tryz.prog w = .ok (eq4 f g) w :=
  run_equalIn_row w 9998 40 38 Tryz.underlying40 Tryz.underlying38 (by kernel_rfl) f g
theorem run_eq_num (a b : Nat) (ha : a < M256) (hb : b < M256) (w : World) : (Op.equalIn 10000 40 (.agg (r64 4 (F4 a))) (.agg (r64 4 (F4 b)))).run Tryz.prog w = .ok (decide (a = b)) w := by
  rw [run_eq_fe, eq4_F4 a b ha hb]
theorem run_eq_fe4 (f g : Nat → BitVec 64) (w : World) : (Op.equalIn 10000 39 (.agg (r64 4 f)) (.agg (r64 4 g))).run Tryz.prog w = .ok (eq4 f g) w :=
  run_equalIn_row w 9998 39 38 Tryz.underlying39 Tryz.underlying38 (by kernel_rfl) f g
theorem guard_fe : Tryz.prog.eqGuardType Tryz.prog.depth 40 = false := by kernel_rfl
theorem guard_fe4 : Tryz.prog.eqGuardType Tryz.prog.depth 39 = false := by kernel_rfl
theorem pP_lt : pP < M256 := by decide
theorem mod_lt_M (n : Nat) : n % pP < M256 := Nat.lt_trans (Nat.mod_lt _ (by decide)) pP_lt
/-- One block of a call. -/
structure L1 (a : Nat) (w wr : World) : Prop where
  d : Blk wr w.heap.size 40 (r64 4 (F4 a))
  l : Below w.heap.size w wr
theorem L1.below {a : Nat} {w wr w' : World} (h : L1 a w wr) (hb : Below wr.heap.size wr w') : L1 a w w' := ⟨h.d.below hb h.d.lt, h.l.trans (hb.mono h.l.size)⟩
set_option maxRecDepth 100000 in
set_option maxHeartbeats 1000000 in
theorem fright_any (a : Nat) (w : World) (ha : a < M256) :
    Calls Tryz.prog 86 #[.agg (r64 4 (F4 a))] w fun e w' => e = .returned (.bool (decide (a % pP = a))) ∧ Below w.heap.size w w' := by
  have L0 : L1 a w (w.alloc (.cells (r64 4 (F4 a)) 40)) := ⟨Blk.new w _ _, (Below.refl _ _).alloc (Nat.le_refl _) _⟩
  have he := run_eq_num (a % pP) a (mod_lt_M a) ha
  have hg := guard_fe
  go_enter Tryz.func86, Tryz.ntmps86
  go_wp2_with fail
  refine wp_gen (L1 a w) L0 (fun w1 h1 => ?_)
  clear L0
  refine wp_region_anyL (Two 1000 1001 fun _ _ wx => L1 a w wx) (by kernel_rfl) ⟨h1.d, h1.l.drew⟩ ?_
  refine anyL_take (i := 0) (v := .agg (r64 4 (F4 a))) rfl (by kernel_rfl) (by kernel_rfl) (by kernel_rfl) (yl_other (by decide) (by decide) rfl (fun f1 f2 wx hT => ?_)) ?_
  · exact lands_fe _ rfl _ rfl _ hT.d hT
  simp only [pu]
  refine anyL_take (i := 1) (v := .agg (r64 4 (F4 (a % pP)))) rfl (by kernel_rfl) (by kernel_rfl) (by kernel_rfl) (yl_other (by decide) (by decide) rfl (fun f1 f2 wx hT => ?_)) ?_
  · exact lands_calls (w := wx) ((reduced_any a wx ha).mono fun _ _ ⟨he, hb⟩ => ⟨he, hT.below hb⟩) (by go_simp)
  simp only [pu]
  refine anyL_take (i := 2) (v := .agg (r64 4 (F4 a))) rfl (by kernel_rfl) (by kernel_rfl) (by kernel_rfl) (yl_other (by decide) (by decide) rfl (fun f1 f2 wx hT => ?_)) ?_
  · exact lands_fe _ rfl _ rfl _ hT.d hT
  simp only [pu]
  refine anyL_take (i := 3) (v := ?_) rfl (by kernel_rfl) (by kernel_rfl) (by kernel_rfl) (yl_other (by decide) (by decide) rfl (fun f1 f2 wx hT => ?_)) ?_; rotate_left
  · refine lands_value (w := wx) ?_ hT; go_simp <;> rfl
  simp only [pu]
  refine anyL_take (i := 4) (v := ?_) rfl (by kernel_rfl) (by kernel_rfl) (by kernel_rfl) (yl_other (by decide) (by decide) rfl (fun f1 f2 wx hT => ?_)) ?_; rotate_left
  · refine lands_value (w := wx) ?_ hT; go_simp <;> rfl
  simp only [pu]
  refine anyL_done (by kernel_rfl) (fun w3 (K : L1 a w w3) => ?_) _
  clear he hg
  go_wp2_with fail
  go_ret
  exact ⟨rfl, K.l⟩
end Go.Proofs.YtggalphgnloneaaGreat
/- Small, Odd, timesSquare, half, rootOfMinusOne of the layer field. -/
namespace Go.Proofs.YtggalphgnloneaaGreat
open Go.RowKit
theorem built1 (v : BitVec 64) : Tryz.prog.built 40 [(0, .int .u64 (iw v))] = some #[.int .u64 (iw v), .int .u64 0, .int .u64 0, .int .u64 0] := by kernel_rfl
theorem row1 (v : BitVec 64) : #[Value.int .u64 (iw v), .int .u64 0, .int .u64 0, .int .u64 0] = r64 4 (F4 v.toNat) := by
  rw [lit0w]
  exact row4 _ _ _ _ _ (F4_word v).symm (F4_word' v 0).symm (F4_word' v 1).symm (F4_word' v 2).symm
theorem fsmall_any (v : BitVec 64) (w : World) :
    Calls Tryz.prog 90 #[.int .u64 (iw v)] w fun e w' => e = .returned (.agg (r64 4 (F4 v.toNat))) ∧ Below w.heap.size w w' := by
  have HS := Lib.hid fe_size
  have R := Lib.hid (row1 v)
  have hb := built1 v
  have Z0 : Blk (w.alloc (.cells #[.int .u64 0, .int .u64 0, .int .u64 0, .int .u64 0] 40)) w.heap.size 40 (r64 4 fun _ => litw 64 0) := (Blk.new w _ _).cast_ zero4'
  go_enter Tryz.func90, Tryz.ntmps90
  go_wp2_with (refine wpList_store_row rfl 40 _ _ rfl w.heap.size (r64 4 (F4 v.toNat)) rfl (congrArg Value.agg R.out) 40 _ Z0 (HS.out _) (by simp only [row_size]) (row_one fun _ => rfl) ?_)
  simp only [Act.put]
  exact bodyPost_ret (results_cell_row rfl _ _ w.heap.size 40 (r64 4 (F4 v.toNat)) (0, 0) _ rfl (Z0.row_ _) Tryz.underlying40 rfl (HS.out _)) rfl ⟨rfl, below_setRow' ((Below.refl _ _).alloc (Nat.le_refl _) _) (by omega) _⟩
theorem fsmall_lit (v : BitVec 64) (n : Int) (m : Nat) (hn : Value.int .u64 n = .int .u64 (iw v)) (hm : v.toNat = m) (w : World) :
    Calls Tryz.prog 90 #[.int .u64 n] w fun e w' => e = .returned (.agg (r64 4 (F4 m))) ∧ Below w.heap.size w w' := by
  rw [hn, ← hm]; exact fsmall_any v w
theorem fsmall1 (w : World) : Calls Tryz.prog 90 #[.int .u64 1] w fun e w' => e = .returned (.agg (r64 4 (F4 1))) ∧ Below w.heap.size w w' := fsmall_lit (litw 64 1) 1 1 (by kernel_rfl) (by unfold litw; rfl) w
theorem and_one (n : Nat) : bits .and .u64 (iw (F4 n 0)) 1 = ((n % 2 : Nat) : Int) := by
  have h := and64_lit (F4 n 0) 1
  rw [show (1 : Int) = @OfNat.ofNat Int 1 instOfNat from rfl, h]
  unfold iw andw litw
  rw [BitVec.toNat_and, show (BitVec.ofNat 64 1).toNat = 2 ^ 1 - 1 by rfl, Nat.and_two_pow_sub_one_eq_mod, F4_nat]
  simp only [Nat.mul_zero, Nat.pow_zero, Nat.div_one]
  omega
def oddB (n : Nat) : Bool := decide (n % 2 = 1)
set_option maxHeartbeats 1000000 in
theorem fodd_any (a : Nat) (w : World) (ha : a < M256) :
    Calls Tryz.prog 56 #[.agg (r64 4 (F4 a))] w fun e w' => e = .returned (.bool (oddB (a % pP))) ∧ Below w.heap.size w w' := by
  have HS := Lib.hid fe_size
  have W0 : Blk (w.alloc (.cells (r64 4 (F4 a)) 40)) w.heap.size 40 (r64 4 (F4 a)) := Blk.new w _ _
  have hix : ∀ w, (Instr.index 40 (.agg (r64 4 (F4 (a % pP)))) (.int .i64 0)).run Tryz.prog w = .ok (.int .u64 (iw (F4 (a % pP) 0))) w := fun w => run_index4 (F4 (a % pP)) 0 (by omega) w
  have hand := and_one (a % pP)
  by_cases hc : a % pP % 2 = 1
  all_goals
    have HB : Hid (oddB (a % pP) = decide (a % pP % 2 = 1)) := Lib.hid rfl
    first
      | rw [decide_eq_true hc] at HB
      | rw [decide_eq_false hc] at HB
    have hand2 : bits .and .u64 (iw (F4 (a % pP) 0)) 1 = (if a % pP % 2 = 1 then 1 else 0) := by rw [hand]; split <;> omega
    clear hand
    first
      | rw [if_pos hc] at hand2
      | rw [if_neg hc] at hand2
    clear hc
    go_enter Tryz.func56, Tryz.ntmps56
    go_wp2_with (refine wpList_load_row rfl 40 _ rfl w.heap.size rfl 40 _ (0, 0) _ W0 Tryz.underlying40 rfl (HS.out _) ?_)
    refine (reduced_any a _ ha).mono ?_
    rintro e w2 ⟨rfl, hq⟩
    go_wp2_with fail
    go_ret
    exact ⟨by rw [HB.out]; rfl, ((Below.refl _ _).alloc (Nat.le_refl _) _).trans (hq.mono (by simp))⟩
/-- The number whose square is -1. -/
def iR : Nat := 19681161376707505956807079304988542015446066515923890162744021073123829784752
theorem fminus_any (w : World) :
    Calls Tryz.prog 125 #[] w fun e w' => e = .returned (.agg (r64 4 (F4 iR))) ∧ Below w.heap.size w w' := by
  have HS := Lib.hid fe_size
  go_enter Tryz.func125, Tryz.ntmps125
  go_wp2_with (refine wpList_store_row rfl 40 _ _ rfl w.heap.size (r64 4 (F4 iR)) rfl (by kernel_rfl) 40 _ (Blk.new w _ _) (HS.out _) (by rw [row_size]; rfl) (row_one fun _ => rfl) ?_)
  simp only [Act.put]
  exact bodyPost_ret (results_cell_row rfl _ _ w.heap.size 40 (r64 4 (F4 iR)) (0, 0) _ rfl ((Blk.new w _ _).row_ _) Tryz.underlying40 rfl (HS.out _)) rfl ⟨rfl, below_setRow' ((Below.refl _ _).alloc (Nat.le_refl _) _) (by omega) _⟩
set_option maxRecDepth 100000 in
set_option maxHeartbeats 1000000 in
theorem tsq_any (a b : Nat) (w : World) (ha : a < M256) (hb : b < M256) :
    Calls Tryz.prog 124 #[.agg (r64 4 (F4 a)), .agg (r64 4 (F4 b))] w fun e w' => e = .returned (.agg (r64 4 (F4 (a * (b * b % pP) % pP)))) ∧ Below w.heap.size w w' := by
  have L0 := L3.start a b w
  have HS := Lib.hid fe_size
  go_enter Tryz.func124, Tryz.ntmps124
  go_wp2_with fail
  refine wp_gen (L3 a b w) L0 (fun w1 h1 => ?_)
  clear L0
  refine wp_region_anyL (Two 5 1000 fun f1 _ wx => L3r a b (onceF f1 (a * (b * b % pP) % pP)) w wx) (by kernel_rfl) ⟨h1.da, h1.db, h1.r, h1.l.drew⟩ ?_
  refine anyL_take (i := 0) (v := .agg (r64 4 (F4 a))) rfl (by kernel_rfl) (by kernel_rfl) (by kernel_rfl) (yl_other (by decide) (by decide) rfl (fun f1 f2 wx hT => ?_)) ?_
  · exact lands_fe _ rfl _ rfl _ hT.da hT
  simp only [pu]
  refine anyL_take (i := 1) (v := .agg (r64 4 (F4 b))) rfl (by kernel_rfl) (by kernel_rfl) (by kernel_rfl) (yl_other (by decide) (by decide) rfl (fun f1 f2 wx hT => ?_)) ?_
  · exact lands_fe _ rfl _ rfl _ hT.db hT
  simp only [pu]
  refine anyL_take (i := 2) (v := .agg (r64 4 (F4 b))) rfl (by kernel_rfl) (by kernel_rfl) (by kernel_rfl) (yl_other (by decide) (by decide) rfl (fun f1 f2 wx hT => ?_)) ?_
  · exact lands_fe _ rfl _ rfl _ hT.db hT
  simp only [pu]
  refine anyL_take (i := 3) (v := .agg (r64 4 (F4 (b * b % pP)))) rfl (by kernel_rfl) (by kernel_rfl) (by kernel_rfl) (yl_other (by decide) (by decide) rfl (fun f1 f2 wx hT => ?_)) ?_
  · exact lands_calls (w := wx) ((fmul_any b b wx hb hb).mono fun _ _ ⟨he, hb⟩ => ⟨he, hT.below hb⟩) (by go_simp)
  simp only [pu]
  refine anyL_take (i := 4) (v := .agg (r64 4 (F4 (a * (b * b % pP) % pP)))) rfl (by kernel_rfl) (by kernel_rfl) (by kernel_rfl) (yl_other (by decide) (by decide) rfl (fun f1 f2 wx hT => ?_)) ?_
  · exact lands_calls (w := wx) ((fmul_any a (b * b % pP) wx ha (mod_lt_M _)).mono fun _ _ ⟨he, hb⟩ => ⟨he, hT.below hb⟩) (by go_simp)
  simp only [pu]
  refine anyL_take (i := 5) (v := undef) rfl (by kernel_rfl) (by kernel_rfl) (by kernel_rfl) (yl_first (by decide) rfl (fun f2 wx hT => ?_)) ?_
  · exact stores_fe _ _ rfl (w.heap.size + 2) _ _ rfl rfl hT.r (hT.put _)
  simp only [Act.put]
  refine anyL_done (by kernel_rfl) (fun w3 (K : L3r a b (onceF true (a * (b * b % pP) % pP)) w w3) => ?_) _
  go_wp2_with fail
  exact bodyPost_ret (results_cell_row rfl _ _ (w.heap.size + 2) 40 (r64 4 (F4 (a * (b * b % pP) % pP))) (0, 0) _ rfl K.r Tryz.underlying40 rfl (HS.out _)) rfl ⟨rfl, K.l⟩
/-! half -/
theorem half_word (e k : Nat) : orw (shrw (F4 e k) 1) (shlw (F4 e (k + 1)) 63) = F4 (e / 2) k := by
  apply BitVec.eq_of_toNat_eq
  unfold orw shrw shlw
  rw [BitVec.toNat_or, BitVec.toNat_ushiftRight, BitVec.toNat_shiftLeft, Nat.shiftRight_eq_div_pow, Nat.shiftLeft_eq, F4_nat, F4_nat, F4_nat]
  have e1 : e / 2 ^ (64 * (k + 1)) = e / 2 ^ (64 * k) / 18446744073709551616 := by rw [Nat.mul_succ, Nat.pow_add, ← Nat.div_div_eq_div_mul]
  have e2 : e / 2 / 2 ^ (64 * k) = e / 2 ^ (64 * k) / 2 := by rw [Nat.div_div_eq_div_mul, Nat.div_div_eq_div_mul, Nat.mul_comm]
  rw [e1, e2]
  generalize e / 2 ^ (64 * k) = x
  have h := Nat.two_pow_add_eq_or_of_lt (i := 63) (b := x % 18446744073709551616 / 2 ^ 1) (by omega) (x / 18446744073709551616 % 2)
  have e3 : x / 18446744073709551616 % 18446744073709551616 * 2 ^ 63 % 2 ^ 64 = 2 ^ 63 * (x / 18446744073709551616 % 2) := by omega
  rw [e3, Nat.or_comm, ← h]
  omega
theorem half_top (e : Nat) (he : e < M256) : shrw (F4 e 3) 1 = F4 (e / 2) 3 := by
  apply BitVec.eq_of_toNat_eq
  unfold shrw
  rw [BitVec.toNat_ushiftRight, Nat.shiftRight_eq_div_pow, F4_nat, F4_nat]
  unfold M256 at he
  simp only [Nat.reduceMul, Nat.reducePow]
  omega
theorem built4' (a b c d : BitVec 64) : Tryz.prog.built 39 [(0, .int .u64 (iw a)), (1, .int .u64 (iw b)), (2, .int .u64 (iw c)), (3, .int .u64 (iw d))] = some #[.int .u64 (iw a), .int .u64 (iw b), .int .u64 (iw c), .int .u64 (iw d)] := by kernel_rfl
theorem a4_size (f : Nat → BitVec 64) : (Tryz.prog.info? 39).map (·.size) = some (r64 4 f).size := by rw [row_size]; kernel_rfl
set_option maxRecDepth 100000 in
set_option maxHeartbeats 1000000 in
theorem half_any (e : Nat) (w : World) (he : e < M256) :
    Calls Tryz.prog 137 #[.agg (r64 4 (F4 e))] w fun e' w' => e' = .returned (.agg (r64 4 (F4 (e / 2)))) ∧ Below w.heap.size w w' := by
  have HS := Lib.hid a4_size
  have R4 := Lib.hid (row4 _ _ _ _ (F4 (e / 2)) (half_word e 0) (half_word e 1) (half_word e 2) (half_top e he))
  have W0 : Blk ((w.alloc (.cells (r64 4 (F4 e)) 39)).alloc (.cells #[.int .u64 0, .int .u64 0, .int .u64 0, .int .u64 0] 39)) w.heap.size 39 (r64 4 (F4 e)) := (Blk.new w _ _).alloc _
  have Z0 : Blk ((w.alloc (.cells (r64 4 (F4 e)) 39)).alloc (.cells #[.int .u64 0, .int .u64 0, .int .u64 0, .int .u64 0] 39)) (w.heap.size + 1) 39 (r64 4 fun _ => litw 64 0) := (Blk.new _ _ _).cast' ⟨by simp, zero4'⟩
  have c0 := W0.at_ (i := 0) (by omega)
  have c1 := W0.at_ (i := 1) (by omega)
  have c2 := W0.at_ (i := 2) (by omega)
  have c3 := W0.at_ (i := 3) (by omega)
  have hbu := built4'
  go_enter Tryz.func137, Tryz.ntmps137
  go_wp2_with (refine wpList_store_row rfl 39 _ _ rfl (w.heap.size + 1) (r64 4 (F4 (e / 2))) rfl (congrArg Value.agg R4.out) 39 _ Z0 (HS.out _) (by simp only [row_size]) (row_one fun _ => rfl) ?_)
  simp only [Act.put]
  exact bodyPost_ret (results_cell_row rfl _ _ (w.heap.size + 1) 39 (r64 4 (F4 (e / 2))) (0, 0) _ rfl (Z0.row_ _) Tryz.underlying39 rfl (HS.out _)) rfl ⟨rfl, below_setRow' (((Below.refl _ _).alloc (Nat.le_refl _) _).alloc (by simp) _) (by omega) _⟩
end Go.Proofs.YtggalphgnloneaaGreat
/- Pow, Invert of the layer field. -/
namespace Go.Proofs.YtggalphgnloneaaGreat
open Go.RowKit
theorem lands_a4 {R : World → Prop} {o : Oper} {a : Act} {w : World} (x : Operand) (ho : o.op = .load 39 x) (g : Nat) (hx : a.eval x = .pointer (some ⟨g, 0, none⟩)) (f : Nat → BitVec 64) (hg : Blk w g 39 (r64 4 f)) (hR : R w) :
    Lands Tryz.prog R (.agg (r64 4 f)) ((execOp a.eval o).run Tryz.prog w) := lands_load 39 x ho g hx _ _ _ hg Tryz.underlying39 rfl (a4_size f) hR
theorem stores_a4 {R : World → Prop} {o : Oper} {a : Act} {w : World} (x y : Operand) (ho : o.op = .store 39 x y) (g : Nat) (f f0 : Nat → BitVec 64) (hx : a.eval x = .pointer (some ⟨g, 0, none⟩)) (hy : a.eval y = .agg (r64 4 f)) (hg : Blk w g 39 (r64 4 f0)) (hR : R (w.setRow g (r64 4 f))) :
    Lands Tryz.prog R undef ((execOp a.eval o).run Tryz.prog w) := lands_store 39 x y ho g _ hx hy _ _ hg (a4_size f) (by simp only [row_size]) (row_one fun _ => rfl) hR
/-- Within Pow: the number, the power that is left, the product so far. -/
structure PowW (x k p pb : Nat) (w wr : World) : Prop where
  d : Blk wr w.heap.size 40 (r64 4 (F4 x))
  e : Blk wr (w.heap.size + 1) 39 (r64 4 (F4 k))
  r : Blk wr (w.heap.size + 2) 40 (r64 4 fun _ => litw 64 0)
  p : Blk wr pb 40 (r64 4 (F4 p))
  l : Below w.heap.size w wr
  lt : w.heap.size + 2 < pb
theorem PowW.below {x k p pb : Nat} {w wr w' : World} (h : PowW x k p pb w wr) (hb : Below wr.heap.size wr w') : PowW x k p pb w w' :=
  ⟨h.d.below hb h.d.lt, h.e.below hb h.e.lt, h.r.below hb h.r.lt, h.p.below hb h.p.lt, h.l.trans (hb.mono h.l.size), h.lt⟩
theorem PowW.drew {x k p pb : Nat} {w wr : World} (h : PowW x k p pb w wr) : PowW x k p pb w wr.drew := ⟨h.d, h.e, h.r, h.p, h.l.drew, h.lt⟩
theorem PowW.putd {x k p pb : Nat} {w wr : World} (h : PowW x k p pb w wr) (y : Nat) : PowW y k p pb w (wr.setRow w.heap.size (r64 4 (F4 y))) :=
  ⟨h.d.row_ _, h.e.row_far (by omega) _, h.r.row_far (by omega) _, h.p.row_far (by have := h.lt; omega) _, below_setRow' h.l (by omega) _, h.lt⟩
theorem PowW.pute {x k p pb : Nat} {w wr : World} (h : PowW x k p pb w wr) (y : Nat) : PowW x y p pb w (wr.setRow (w.heap.size + 1) (r64 4 (F4 y))) :=
  ⟨h.d.row_far (by omega) _, h.e.row_ _, h.r.row_far (by omega) _, h.p.row_far (by have := h.lt; omega) _, below_setRow' h.l (by omega) _, h.lt⟩
theorem PowW.putp {x k p pb : Nat} {w wr : World} (h : PowW x k p pb w wr) (y : Nat) : PowW x k y pb w (wr.setRow pb (r64 4 (F4 y))) :=
  ⟨h.d.row_far (by have := h.lt; omega) _, h.e.row_far (by have := h.lt; omega) _, h.r.row_far (by have := h.lt; omega) _, h.p.row_ _, below_setRow' h.l (by have := h.lt; omega) _, h.lt⟩
theorem built0 : Tryz.prog.built 39 [] = some #[.int .u64 0, .int .u64 0, .int .u64 0, .int .u64 0] := by kernel_rfl
theorem zero4F : #[Value.int .u64 0, .int .u64 0, .int .u64 0, .int .u64 0] = r64 4 (F4 0) := zero4'.trans (row_ext fun i _ => by rw [F4_zero])
theorem run_eq_zero (k : Nat) (hk : k < M256) (w : World) : (Op.equalIn 10000 39 (.agg (r64 4 (F4 k))) (.agg #[.int .u64 0, .int .u64 0, .int .u64 0, .int .u64 0])).run Tryz.prog w = .ok (decide (k = 0)) w := by
  rw [zero4F, run_eq_fe4, eq4_F4 k 0 hk (by decide)]
theorem pow_odd {k x p v : Nat} (h : p * x ^ k % pP = v) (hk : k % 2 = 1) : (p * x % pP) * (x * x % pP) ^ (k / 2) % pP = v := by
  have e : x ^ k = x * (x * x) ^ (k / 2) := by
    have : k = 2 * (k / 2) + 1 := by omega
    have e1 : x ^ k = x ^ (2 * (k / 2) + 1) := by rw [← this]
    rw [e1, Nat.pow_succ, Nat.pow_mul, Nat.pow_two, Nat.mul_comm]
  rw [e, ← Nat.mul_assoc] at h
  rw [Nat.mul_mod, Nat.mod_mod, Nat.pow_mod (x * x % pP), Nat.mod_mod, ← Nat.pow_mod, ← Nat.mul_mod]
  exact h
theorem pow_even {k x p v : Nat} (h : p * x ^ k % pP = v) (hk : k % 2 = 0) : p * (x * x % pP) ^ (k / 2) % pP = v := by
  have e : x ^ k = (x * x) ^ (k / 2) := by
    have : k = 2 * (k / 2) := by omega
    have e1 : x ^ k = x ^ (2 * (k / 2)) := by rw [← this]
    rw [e1, Nat.pow_mul, Nat.pow_two]
  rw [e] at h
  rw [Nat.mul_mod, Nat.pow_mod (x * x % pP), Nat.mod_mod, ← Nat.pow_mod, ← Nat.mul_mod]
  exact h
set_option maxRecDepth 100000 in
set_option maxHeartbeats 4000000 in
theorem fpow_any (a e : Nat) (w : World) (ha : a < M256) (he : e < M256) :
    Calls Tryz.prog 127 #[.agg (r64 4 (F4 a)), .agg (r64 4 (F4 e))] w fun e' w' => e' = .returned (.agg (r64 4 (F4 (a ^ e % pP)))) ∧ Below w.heap.size w w' := by
  have HS := Lib.hid fe_size
  have HS4 := Lib.hid a4_size
  have hbu := built0
  have hg := guard_fe4
  have D0 : Blk (((w.alloc (.cells (r64 4 (F4 a)) 40)).alloc (.cells (r64 4 (F4 e)) 39)).alloc (.cells #[.int .u64 0, .int .u64 0, .int .u64 0, .int .u64 0] 40)) w.heap.size 40 (r64 4 (F4 a)) := ((Blk.new w _ _).alloc _).alloc _
  have E0 : Blk (((w.alloc (.cells (r64 4 (F4 a)) 40)).alloc (.cells (r64 4 (F4 e)) 39)).alloc (.cells #[.int .u64 0, .int .u64 0, .int .u64 0, .int .u64 0] 40)) (w.heap.size + 1) 39 (r64 4 (F4 e)) := ((Blk.new (w.alloc _) _ _).cast' ⟨by simp, rfl⟩).alloc _
  have R0 : Blk (((w.alloc (.cells (r64 4 (F4 a)) 40)).alloc (.cells (r64 4 (F4 e)) 39)).alloc (.cells #[.int .u64 0, .int .u64 0, .int .u64 0, .int .u64 0] 40)) (w.heap.size + 2) 40 (r64 4 fun _ => litw 64 0) := (Blk.new _ _ _).cast' ⟨by simp, zero4'⟩
  have B0 : Below w.heap.size w (((w.alloc (.cells (r64 4 (F4 a)) 40)).alloc (.cells (r64 4 (F4 e)) 39)).alloc (.cells #[.int .u64 0, .int .u64 0, .int .u64 0, .int .u64 0] 40)) := (((Below.refl _ _).alloc (Nat.le_refl _) _).alloc (by simp) _).alloc (by simp; omega) _
  go_enter Tryz.func127, Tryz.ntmps127
  go_wp2_with fail
  go_step3
  go_wp2_with fail
  refine (fsmall1 _).mono ?_
  rintro e' w1 ⟨rfl, hq⟩
  have D1 := D0.below hq D0.lt
  have E1 := E0.below hq E0.lt
  have R1 := R0.below hq R0.lt
  have B1 := B0.trans (hq.mono B0.size)
  have l1 := R1.lt
  clear D0 E0 R0 B0 hq
  go_wp2_with (refine wpList_store_row rfl 40 _ _ rfl w1.heap.size (r64 4 (F4 1)) rfl rfl 40 (r64 4 fun _ => litw 64 0) ((Blk.new w1 _ _).cast_ zero4') (HS.out _) (by simp only [row_size]) (row_one fun _ => rfl) ?_; refine wpList_gen (PowW a e 1 w1.heap.size w) ⟨(D1.alloc _).row_far (by omega) _, (E1.alloc _).row_far (by omega) _, (R1.alloc _).row_far (by omega) _, (Blk.new w1 _ _).row_ _, below_setRow' (B1.alloc B1.size _) B1.size _, l1⟩ (fun w2 h2 => ?_))
  clear D1 E1 R1 B1 l1
  generalize w1.heap.size = pb at h2 ⊢
  simp only [Act.put]
  go_step3
  go_wp2_with fail
  have HG0 : Hid (1 * a ^ e % pP = a ^ e % pP) := Lib.hid (by rw [Nat.one_mul])
  go_loopg [] e (fun gk wr => ∃ x k p, gk = k ∧ Hid (p * x ^ k % pP = a ^ e % pP) ∧ x < M256 ∧ k < M256 ∧ p < pP ∧ PowW x k p pb w wr)
  case atStart => exact ⟨a, e, 1, rfl, HG0, ha, he, by decide, h2⟩
  case round =>
    obtain ⟨x, k, p, hgk, HP, hx, hk, hp, hr⟩ := hrel
    have HG := Lib.hid hgk
    clear hgk h2 HG0
    have hz := run_eq_zero k hk
    by_cases hk0 : k = 0
    · have hd : decide (k = 0) = true := decide_eq_true hk0
      rw [hd] at hz
      have HR : Hid (p = a ^ e % pP) := Lib.hid (by have := HP.out; rw [hk0, Nat.pow_zero, Nat.mul_one, Nat.mod_eq_of_lt hp] at this; exact this)
      clear hd hk0 HP
      go_wp2_with (first
        | (refine wpList_load_row rfl 39 _ rfl (w.heap.size + 1) rfl 39 _ (0, 0) _ hr.e Tryz.underlying39 rfl (HS4.out _) ?_)
        | (refine wpList_load_row rfl 40 _ rfl pb rfl 40 _ (0, 0) _ hr.p Tryz.underlying40 rfl (HS.out _) ?_)
        | (refine wpList_store_row rfl 40 _ _ rfl (w.heap.size + 2) (r64 4 (F4 p)) rfl rfl 40 _ hr.r (HS.out _) (by simp only [row_size]) (row_one fun _ => rfl) ?_))
      simp only [Act.put]
      try rw [Exit.noGoto_ret]
      exact bodyPost_ret (results_cell_row rfl _ _ (w.heap.size + 2) 40 (r64 4 (F4 p)) (0, 0) _ rfl (hr.r.row_ _) Tryz.underlying40 rfl (HS.out _)) rfl ⟨by rw [HR.out], below_setRow' hr.l (by omega) _⟩
    · have hd : decide (k = 0) = false := decide_eq_false hk0
      rw [hd] at hz
      clear hd
      have c0 := hr.e.at_ (i := 0) (by omega)
      by_cases ho : k % 2 = 1
      · have hand := and_one k
        rw [ho] at hand
        have HP' : Hid ((p * x % pP) * (x * x % pP) ^ (k / 2) % pP = a ^ e % pP) := Lib.hid (pow_odd HP.out ho)
        have hpm : p < M256 := Nat.lt_trans hp pP_lt
        clear HP ho
        go_wp2_with (first
          | (refine wpList_load_row rfl 39 _ rfl (w.heap.size + 1) rfl 39 _ (0, 0) _ hr.e Tryz.underlying39 rfl (HS4.out _) ?_)
          | (refine wpList_load_row rfl 40 _ rfl pb rfl 40 _ (0, 0) _ hr.p Tryz.underlying40 rfl (HS.out _) ?_)
          | (refine wpList_load_row rfl 40 _ rfl w.heap.size rfl 40 _ (0, 0) _ hr.d Tryz.underlying40 rfl (HS.out _) ?_))
        refine (fmul_any p x wr hpm hx).mono ?_
        rintro e' w3 ⟨rfl, hq⟩
        have h3 := hr.below hq
        clear hr hq c0 hz hand hbu hg
        go_wp2_with (refine wpList_store_row rfl 40 _ _ rfl pb (r64 4 (F4 (p * x % pP))) rfl rfl 40 _ h3.p (HS.out _) (by simp only [row_size]) (row_one fun _ => rfl) ?_; refine wpList_gen (PowW x k (p * x % pP) pb w) (h3.putp _) (fun w4 h4 => ?_))
        clear h3
        simp only [Act.put]
        have hp2 : p * x % pP < pP := Nat.mod_lt _ (by decide)
        generalize p * x % pP = p2 at HP' h4 hp2 ⊢
        go_wp2_with fail
        refine wp_region_anyL (Two 5 6 fun f1 f2 wx => PowW (if f1 then x * x % pP else x) (if f2 then k / 2 else k) p2 pb w wx) (by kernel_rfl) h4.drew ?_
        refine anyL_take (i := 0) (v := .agg (r64 4 (F4 x))) rfl (by kernel_rfl) (by kernel_rfl) (by kernel_rfl) (yl_ahead2 (n := 3) (by decide) (by decide) (by kernel_rfl) (by kernel_rfl) rfl (fun wx hT => ?_)) ?_
        · exact lands_fe _ rfl _ rfl _ hT.d hT
        simp only [pu]
        refine anyL_take (i := 1) (v := .agg (r64 4 (F4 x))) rfl (by kernel_rfl) (by kernel_rfl) (by kernel_rfl) (yl_ahead2 (n := 3) (by decide) (by decide) (by kernel_rfl) (by kernel_rfl) rfl (fun wx hT => ?_)) ?_
        · exact lands_fe _ rfl _ rfl _ hT.d hT
        simp only [pu]
        refine anyL_take (i := 2) (v := .agg (r64 4 (F4 (x * x % pP)))) rfl (by kernel_rfl) (by kernel_rfl) (by kernel_rfl) (yl_other (by decide) (by decide) rfl (fun f1 f2 wx hT => ?_)) ?_
        · exact lands_calls (w := wx) ((fmul_any x x wx hx hx).mono fun _ _ ⟨he, hb⟩ => ⟨he, hT.below hb⟩) (by go_simp)
        simp only [pu]
        refine anyL_take (i := 3) (v := .agg (r64 4 (F4 k))) rfl (by kernel_rfl) (by kernel_rfl) (by kernel_rfl) (yl_ahead2 (n := 3) (by decide) (by decide) (by kernel_rfl) (by kernel_rfl) rfl (fun wx hT => ?_)) ?_
        · exact lands_a4 _ rfl _ rfl _ hT.e hT
        simp only [pu]
        refine anyL_take (i := 4) (v := .agg (r64 4 (F4 (k / 2)))) rfl (by kernel_rfl) (by kernel_rfl) (by kernel_rfl) (yl_other (by decide) (by decide) rfl (fun f1 f2 wx hT => ?_)) ?_
        · exact lands_calls (w := wx) ((half_any k wx hk).mono fun _ _ ⟨he, hb⟩ => ⟨he, hT.below hb⟩) (by go_simp)
        simp only [pu]
        refine anyL_take (i := 5) (v := undef) rfl (by kernel_rfl) (by kernel_rfl) (by kernel_rfl) (yl_first (by decide) rfl (fun f2 wx hT => ?_)) ?_
        · exact stores_fe _ _ rfl w.heap.size _ _ rfl rfl hT.d (hT.putd _)
        simp only [Act.put]
        refine anyL_take (i := 6) (v := undef) rfl (by kernel_rfl) (by kernel_rfl) (by kernel_rfl) (yl_second (by decide) rfl (fun f1 wx hT => ?_)) ?_
        · exact stores_a4 _ _ rfl (w.heap.size + 1) _ _ rfl rfl hT.e (hT.pute _)
        simp only [Act.put]
        refine anyL_done (by kernel_rfl) (fun w5 (K : PowW (x * x % pP) (k / 2) p2 pb w w5) => ?_) _
        clear h4
        go_wp2_with fail
        go_roundg (k / 2)
        case measure => have := HG.out; omega
        case rel => exact ⟨_, _, _, rfl, HP', mod_lt_M _, by omega, hp2, K⟩
      · have hand := and_one k
        have ho' : k % 2 = 0 := by omega
        rw [ho'] at hand
        have HP' : Hid (p * (x * x % pP) ^ (k / 2) % pP = a ^ e % pP) := Lib.hid (pow_even HP.out ho')
        clear HP ho ho'
        go_wp2_with (refine wpList_load_row rfl 39 _ rfl (w.heap.size + 1) rfl 39 _ (0, 0) _ hr.e Tryz.underlying39 rfl (HS4.out _) ?_)
        clear c0 hz hand hbu hg
        refine wp_region_anyL (Two 5 6 fun f1 f2 wx => PowW (if f1 then x * x % pP else x) (if f2 then k / 2 else k) p pb w wx) (by kernel_rfl) hr.drew ?_
        refine anyL_take (i := 0) (v := .agg (r64 4 (F4 x))) rfl (by kernel_rfl) (by kernel_rfl) (by kernel_rfl) (yl_ahead2 (n := 3) (by decide) (by decide) (by kernel_rfl) (by kernel_rfl) rfl (fun wx hT => ?_)) ?_
        · exact lands_fe _ rfl _ rfl _ hT.d hT
        simp only [pu]
        refine anyL_take (i := 1) (v := .agg (r64 4 (F4 x))) rfl (by kernel_rfl) (by kernel_rfl) (by kernel_rfl) (yl_ahead2 (n := 3) (by decide) (by decide) (by kernel_rfl) (by kernel_rfl) rfl (fun wx hT => ?_)) ?_
        · exact lands_fe _ rfl _ rfl _ hT.d hT
        simp only [pu]
        refine anyL_take (i := 2) (v := .agg (r64 4 (F4 (x * x % pP)))) rfl (by kernel_rfl) (by kernel_rfl) (by kernel_rfl) (yl_other (by decide) (by decide) rfl (fun f1 f2 wx hT => ?_)) ?_
        · exact lands_calls (w := wx) ((fmul_any x x wx hx hx).mono fun _ _ ⟨he, hb⟩ => ⟨he, hT.below hb⟩) (by go_simp)
        simp only [pu]
        refine anyL_take (i := 3) (v := .agg (r64 4 (F4 k))) rfl (by kernel_rfl) (by kernel_rfl) (by kernel_rfl) (yl_ahead2 (n := 3) (by decide) (by decide) (by kernel_rfl) (by kernel_rfl) rfl (fun wx hT => ?_)) ?_
        · exact lands_a4 _ rfl _ rfl _ hT.e hT
        simp only [pu]
        refine anyL_take (i := 4) (v := .agg (r64 4 (F4 (k / 2)))) rfl (by kernel_rfl) (by kernel_rfl) (by kernel_rfl) (yl_other (by decide) (by decide) rfl (fun f1 f2 wx hT => ?_)) ?_
        · exact lands_calls (w := wx) ((half_any k wx hk).mono fun _ _ ⟨he, hb⟩ => ⟨he, hT.below hb⟩) (by go_simp)
        simp only [pu]
        refine anyL_take (i := 5) (v := undef) rfl (by kernel_rfl) (by kernel_rfl) (by kernel_rfl) (yl_first (by decide) rfl (fun f2 wx hT => ?_)) ?_
        · exact stores_fe _ _ rfl w.heap.size _ _ rfl rfl hT.d (hT.putd _)
        simp only [Act.put]
        refine anyL_take (i := 6) (v := undef) rfl (by kernel_rfl) (by kernel_rfl) (by kernel_rfl) (yl_second (by decide) rfl (fun f1 wx hT => ?_)) ?_
        · exact stores_a4 _ _ rfl (w.heap.size + 1) _ _ rfl rfl hT.e (hT.pute _)
        simp only [Act.put]
        refine anyL_done (by kernel_rfl) (fun w5 (K : PowW (x * x % pP) (k / 2) p pb w w5) => ?_) _
        clear hr
        go_wp2_with fail
        go_roundg (k / 2)
        case measure => have := HG.out; omega
        case rel => exact ⟨_, _, _, rfl, HP', mod_lt_M _, by omega, hp, K⟩
end Go.Proofs.YtggalphgnloneaaGreat
/- Blocks of numbers as a list; Invert, nearRoot of the layer field. -/
namespace Go.Proofs.YtggalphgnloneaaGreat
open Go.RowKit
/-- What is known of a world that grew: blocks of four words; below B all is as it was. -/
structure KF (B : Nat) (w0 : World) (l : List (Nat × (Nat → BitVec 64))) (w : World) : Prop where
  b : Below B w0 w
  lo : B ≤ w.heap.size
  blk : ∀ x ∈ l, Blk w x.1 40 (r64 4 x.2)
variable {B : Nat} {w0 w w' : World} {l : List (Nat × (Nat → BitVec 64))}
theorem KF.below (h : KF B w0 l w) (hb : Below w.heap.size w w') : KF B w0 l w' :=
  ⟨h.b.trans (hb.mono h.lo), Nat.le_trans h.lo hb.size, fun x hx => (h.blk x hx).below hb (h.blk x hx).lt⟩
theorem KF.drew (h : KF B w0 l w) : KF B w0 l w.drew := ⟨h.b.drew, h.lo, fun x hx => (h.blk x hx).drew⟩
theorem KF.lt (h : KF B w0 l w) : ∀ x ∈ l, x.1 < w.heap.size := fun x hx => (h.blk x hx).lt
theorem KF.alloc (h : KF B w0 l w) (cs : Array Value) (T : TypeId) : KF B w0 l (w.alloc (.cells cs T)) := ⟨h.b.alloc h.lo _, Nat.le_trans h.lo (by simp), fun x hx => (h.blk x hx).alloc _⟩
/-- A new variable, and its first value. -/
theorem KF.new (h : KF B w0 l w) (cs : Array Value) (f : Nat → BitVec 64) : KF B w0 ((w.heap.size, f) :: l) ((w.alloc (.cells cs 40)).setRow w.heap.size (r64 4 f)) :=
  ⟨below_setRow' (h.b.alloc h.lo _) h.lo _, by simp; have := h.lo; omega, fun x hx => by
    rcases List.mem_cons.1 hx with rfl | hx
    · exact (Blk.new w _ _).row_ _
    · exact ((h.blk x hx).alloc _).row_far (Nat.ne_of_lt (h.lt x hx)) _⟩
theorem KF.mk1 (w : World) (f : Nat → BitVec 64) : KF w.heap.size w [(w.heap.size, f)] (w.alloc (.cells (r64 4 f) 40)) :=
  ⟨(Below.refl _ _).alloc (Nat.le_refl _) _, by simp, fun x hx => by rcases List.mem_singleton.1 hx with rfl; exact Blk.new w _ _⟩
/-- A row stored anew. -/
theorem KF.put (h : KF B w0 l w) {g : Nat} {f0 : Nat → BitVec 64} (hg : Blk w g 40 (r64 4 f0)) (hB : B ≤ g) (f : Nat → BitVec 64) (l' : List (Nat × (Nat → BitVec 64))) (hl : ∀ x ∈ l', (x = (g, f)) ∨ (x ∈ l ∧ x.1 ≠ g)) : KF B w0 l' (w.setRow g (r64 4 f)) :=
  ⟨below_setRow' h.b hB _, by simp; exact h.lo, fun x hx => by
    rcases hl x hx with rfl | ⟨hx, hne⟩
    · exact hg.row_ _
    · exact (h.blk x hx).row_far hne _⟩
theorem KF.sub (h : KF B w0 l w) {l' : List (Nat × (Nat → BitVec 64))} (hl : ∀ x ∈ l', x ∈ l) : KF B w0 l' w := ⟨h.b, h.lo, fun x hx => h.blk x (hl x hx)⟩
def zF : Nat → BitVec 64 := fun _ => litw 64 0
/-- A call's two numbers and its result. -/
theorem KF.start (a b : Nat) (w : World) : KF w.heap.size w [(w.heap.size, F4 a), (w.heap.size + 1, F4 b), (w.heap.size + 2, zF)] (((w.alloc (.cells (r64 4 (F4 a)) 40)).alloc (.cells (r64 4 (F4 b)) 40)).alloc (.cells #[.int .u64 0, .int .u64 0, .int .u64 0, .int .u64 0] 40)) := by
  have h := L3.start a b w
  refine ⟨h.l, h.l.size, fun x hx => ?_⟩
  simp only [List.mem_cons, List.not_mem_nil, or_false] at hx
  rcases hx with rfl | rfl | rfl
  · exact h.da
  · exact h.db
  · exact h.r
/-- In a region that makes a variable and stores into it once. -/
structure KQ (B : Nat) (w0 : World) (l : List (Nat × (Nat → BitVec 64))) (n : Nat) (f1 f2 : Bool) (q : Value) (w : World) : Prop where
  k : KF B w0 l w
  q : f2 = true → ∃ g, q = .pointer (some ⟨g, 0, none⟩) ∧ Blk w g 40 (r64 4 (onceF f1 n)) ∧ (∀ x ∈ l, x.1 < g) ∧ B ≤ g
theorem KQ.below {n : Nat} {f1 f2 : Bool} {q : Value} (h : KQ B w0 l n f1 f2 q w) (hb : Below w.heap.size w w') : KQ B w0 l n f1 f2 q w' :=
  ⟨h.k.below hb, fun hf => by obtain ⟨g, e, hg, hl, hB⟩ := h.q hf; exact ⟨g, e, hg.below hb hg.lt, hl, hB⟩⟩
theorem KQ.begin (h : KF B w0 l w) (n : Nat) : KQ B w0 l n false false undef w := ⟨h, fun hf => by cases hf⟩
theorem KQ.made {n : Nat} {q : Value} (h : KQ B w0 l n false false q w) : KQ B w0 l n false true (.pointer (some ⟨w.heap.size, 0, none⟩)) (w.alloc (.cells #[.int .u64 0, .int .u64 0, .int .u64 0, .int .u64 0] 40)) :=
  ⟨h.k.alloc _ _, fun _ => ⟨_, rfl, (Blk.new w _ _).cast_ zero4', h.k.lt, h.k.lo⟩⟩
theorem KQ.out {n : Nat} {q : Value} (h : KQ B w0 l n true true q w) : ∃ g, q = .pointer (some ⟨g, 0, none⟩) ∧ KF B w0 ((g, F4 n) :: l) w ∧ (∀ x ∈ l, x.1 < g) ∧ B ≤ g := by
  obtain ⟨g, e, hg, hl, hB⟩ := h.q rfl
  refine ⟨g, e, ⟨h.k.b, h.k.lo, fun x hx => ?_⟩, hl, hB⟩
  rcases List.mem_cons.1 hx with rfl | hx
  · exact hg
  · exact h.k.blk x hx
theorem KQ.stored {n : Nat} {q : Value} {o : Oper} {a : Act} (h : KQ B w0 l n false true q w) (x y : Operand) (ho : o.op = .store 40 x y) (hx : a.eval x = q) (hy : a.eval y = .agg (r64 4 (F4 n))) :
    Lands Tryz.prog (KQ B w0 l n true true q) undef ((execOp a.eval o).run Tryz.prog w) := by
  obtain ⟨g, e, hg, hl, hB⟩ := h.q rfl
  subst e
  refine stores_fe x y ho g (F4 n) _ hx hy hg ⟨⟨below_setRow' h.k.b hB _, by simp; exact h.k.lo, fun x hx => (h.k.blk x hx).row_far (Nat.ne_of_lt (hl x hx)) _⟩, fun _ => ⟨g, rfl, hg.row_ _, hl, hB⟩⟩
theorem inv_row : #[Value.int .u64 18446744073709551595, .int .u64 18446744073709551615, .int .u64 18446744073709551615, .int .u64 9223372036854775807] = r64 4 (F4 (pP - 2)) := by kernel_rfl
theorem inv_built : Tryz.prog.built 39 [(0, .int .u64 18446744073709551595), (1, .int .u64 18446744073709551615), (2, .int .u64 18446744073709551615), (3, .int .u64 9223372036854775807)] = some #[.int .u64 18446744073709551595, .int .u64 18446744073709551615, .int .u64 18446744073709551615, .int .u64 9223372036854775807] := by kernel_rfl
set_option maxHeartbeats 1000000 in
theorem finv_any (a : Nat) (w : World) (ha : a < M256) :
    Calls Tryz.prog 96 #[.agg (r64 4 (F4 a))] w fun e w' => e = .returned (.agg (r64 4 (F4 (a ^ (pP - 2) % pP)))) ∧ Below w.heap.size w w' := by
  have HS := Lib.hid fe_size
  have hb := inv_built
  have HI := Lib.hid inv_row
  have hlt : pP - 2 < M256 := by decide
  have LW0 : LW a w ((w.alloc (.cells (r64 4 (F4 a)) 40)).alloc (.cells #[.int .u64 0, .int .u64 0, .int .u64 0, .int .u64 0] 40)) := ⟨(Blk.new w _ _).alloc _, (Blk.new _ _ _).cast' ⟨by simp, zero4'⟩, ((Below.refl _ _).alloc (Nat.le_refl _) _).alloc (by simp) _⟩
  generalize hx : pP - 2 = x at HI hlt ⊢
  clear hx
  go_enter Tryz.func96, Tryz.ntmps96
  go_wp2_with (refine wpList_gen (LW a w) LW0 (fun w1 h1 => ?_); refine wpList_load_row rfl 40 _ rfl w.heap.size rfl 40 _ (0, 0) _ h1.d Tryz.underlying40 rfl (HS.out _) ?_)
  rw [HI.out]
  refine (fpow_any a x w1 ha hlt).mono ?_
  rintro e w2 ⟨rfl, hq⟩
  have h2 := h1.below hq
  clear h1 hq LW0
  go_wp2_with (refine wpList_store_row rfl 40 _ _ rfl (w.heap.size + 1) (r64 4 (F4 (a ^ x % pP))) rfl rfl 40 _ h2.r (HS.out _) (by simp only [row_size]) (row_one fun _ => rfl) ?_)
  simp only [Act.put]
  exact bodyPost_ret (results_cell_row rfl _ _ (w.heap.size + 1) 40 (r64 4 (F4 (a ^ x % pP))) (0, 0) _ rfl (h2.r.row_ _) Tryz.underlying40 rfl (HS.out _)) rfl ⟨rfl, below_setRow' h2.l (by omega) _⟩
def E8 : Nat := 7237005577332262213973186563042994240829374041602535252466099000494570602493
theorem e8_row : #[Value.int .u64 18446744073709551613, .int .u64 18446744073709551615, .int .u64 18446744073709551615, .int .u64 1152921504606846975] = r64 4 (F4 E8) := by kernel_rfl
theorem e8_built : Tryz.prog.built 39 [(0, .int .u64 18446744073709551613), (1, .int .u64 18446744073709551615), (2, .int .u64 18446744073709551615), (3, .int .u64 1152921504606846975)] = some #[.int .u64 18446744073709551613, .int .u64 18446744073709551615, .int .u64 18446744073709551615, .int .u64 1152921504606846975] := by kernel_rfl
def sqV (v : Nat) : Nat := v * v % pP
def cuV (v : Nat) : Nat := sqV v * v % pP
def seV (v : Nat) : Nat := (sqV v * sqV v % pP) * cuV v % pP
def pwV (u v : Nat) : Nat := (u * seV v % pP) ^ E8 % pP
def nearV (u v : Nat) : Nat := (u * cuV v % pP) * pwV u v % pP
set_option maxRecDepth 100000 in
set_option maxHeartbeats 4000000 in
theorem near_any (u v : Nat) (w : World) (hu : u < M256) (hv : v < M256) :
    Calls Tryz.prog 123 #[.agg (r64 4 (F4 u)), .agg (r64 4 (F4 v))] w fun e w' => e = .returned (.agg (r64 4 (F4 (nearV u v)))) ∧ Below w.heap.size w w' := by
  have HS := Lib.hid fe_size
  have hb := e8_built
  have HI := Lib.hid e8_row
  have he8 : E8 < M256 := by decide
  have L0 := KF.start u v w
  have csq := fun w => fmul_any v v w hv hv
  have ccu := fun w => fmul_any (sqV v) v w (mod_lt_M _) hv
  have css := fun w => fmul_any (sqV v) (sqV v) w (mod_lt_M _) (mod_lt_M _)
  have cse := fun w => fmul_any (sqV v * sqV v % pP) (cuV v) w (mod_lt_M _) (mod_lt_M _)
  have cus := fun w => fmul_any u (seV v) w hu (mod_lt_M _)
  have cpw := fun w => fpow_any (u * seV v % pP) E8 w (mod_lt_M _) he8
  have cuc := fun w => fmul_any u (cuV v) w hu (mod_lt_M _)
  have cre := fun w => fmul_any (u * cuV v % pP) (pwV u v) w (mod_lt_M _) (mod_lt_M _)
  go_enter Tryz.func123, Tryz.ntmps123
  go_wp2_with (first
    | (refine wpList_load_row rfl 40 _ rfl (w.heap.size + 1) rfl 40 _ (0, 0) _ (L0.blk _ m1) Tryz.underlying40 rfl (HS.out _) ?_))
  refine (csq _).mono ?_
  rintro e w1 ⟨rfl, hq⟩
  have h1 := L0.below hq
  clear L0 hq csq
  go_wp2_with (first
    | (refine wpList_store_row rfl 40 _ _ rfl w1.heap.size (r64 4 (F4 (sqV v))) rfl rfl 40 (r64 4 zF) ((Blk.new w1 _ _).cast_ zero4') (HS.out _) (by simp only [row_size]) (row_one fun _ => rfl) ?_; refine wpList_gen (KF w.heap.size w ((w1.heap.size, F4 (sqV v)) :: [(w.heap.size, F4 u), (w.heap.size + 1, F4 v), (w.heap.size + 2, zF)])) (h1.new _ _) (fun w2 h2 => ?_))
    | (refine wpList_load_row rfl 40 _ rfl (w1.heap.size) rfl 40 _ (0, 0) _ (h2.blk _ m0) Tryz.underlying40 rfl (HS.out _) ?_)
    | (refine wpList_load_row rfl 40 _ rfl (w.heap.size + 1) rfl 40 _ (0, 0) _ (h2.blk _ m2) Tryz.underlying40 rfl (HS.out _) ?_))
  refine (ccu _).mono ?_
  rintro e w3 ⟨rfl, hq⟩
  have h3 := h2.below hq
  clear h1 h2 hq ccu
  generalize w1.heap.size = g5 at h3 ⊢
  go_wp2_with (first
    | (refine wpList_store_row rfl 40 _ _ rfl w3.heap.size (r64 4 (F4 (cuV v))) rfl rfl 40 (r64 4 zF) ((Blk.new w3 _ _).cast_ zero4') (HS.out _) (by simp only [row_size]) (row_one fun _ => rfl) ?_; refine wpList_gen (KF w.heap.size w ((w3.heap.size, F4 (cuV v)) :: (g5, F4 (sqV v)) :: [(w.heap.size, F4 u), (w.heap.size + 1, F4 v), (w.heap.size + 2, zF)])) (h3.new _ _) (fun w4 h4 => ?_)))
  have l6 : w.heap.size + 2 < w3.heap.size := h3.lt _ m3
  clear h3
  generalize w3.heap.size = g6 at h4 l6 ⊢
  refine wp_region_anyA (TwoA 6 5 (KQ w.heap.size w [(g6, F4 (cuV v)), (g5, F4 (sqV v)), (w.heap.size, F4 u), (w.heap.size + 1, F4 v), (w.heap.size + 2, zF)] (seV v))) 5 (by kernel_rfl) (KQ.begin h4.drew _) ?_
  refine anyA_take (i := 0) (v := .agg (r64 4 (F4 (sqV v)))) rfl (by decide) (by kernel_rfl) (by kernel_rfl) (by kernel_rfl) (fun q => ya_other (by decide) (by decide) rfl (fun f1 f2 wx hT => ?_)) ?_
  · exact lands_fe _ rfl _ rfl _ (hT.k.blk _ m1) hT
  simp only [pu]
  refine anyA_take (i := 1) (v := .agg (r64 4 (F4 (sqV v)))) rfl (by decide) (by kernel_rfl) (by kernel_rfl) (by kernel_rfl) (fun q => ya_other (by decide) (by decide) rfl (fun f1 f2 wx hT => ?_)) ?_
  · exact lands_fe _ rfl _ rfl _ (hT.k.blk _ m1) hT
  simp only [pu]
  refine anyA_take (i := 2) (v := .agg (r64 4 (F4 (sqV v * sqV v % pP)))) rfl (by decide) (by kernel_rfl) (by kernel_rfl) (by kernel_rfl) (fun q => ya_other (by decide) (by decide) rfl (fun f1 f2 wx hT => ?_)) ?_
  · exact lands_calls (w := wx) ((css wx).mono fun _ _ ⟨he, hb⟩ => ⟨he, hT.below hb⟩) (by go_simp)
  simp only [pu]
  refine anyA_take (i := 3) (v := .agg (r64 4 (F4 (cuV v)))) rfl (by decide) (by kernel_rfl) (by kernel_rfl) (by kernel_rfl) (fun q => ya_other (by decide) (by decide) rfl (fun f1 f2 wx hT => ?_)) ?_
  · exact lands_fe _ rfl _ rfl _ (hT.k.blk _ m0) hT
  simp only [pu]
  refine anyA_take (i := 4) (v := .agg (r64 4 (F4 (seV v)))) rfl (by decide) (by kernel_rfl) (by kernel_rfl) (by kernel_rfl) (fun q => ya_other (by decide) (by decide) rfl (fun f1 f2 wx hT => ?_)) ?_
  · exact lands_calls (w := wx) ((cse wx).mono fun _ _ ⟨he, hb⟩ => ⟨he, hT.below hb⟩) (by go_simp)
  simp only [pu]
  refine anyA_made rfl (by kernel_rfl) (by kernel_rfl) (by kernel_rfl) (fun q => ya_made (n := 4) (by decide) (by kernel_rfl) rfl (fun q' wx hT => ?_)) ?_
  · exact ⟨_, _, (by go_simp <;> rfl), hT.made⟩
  simp only [pu]
  refine anyA_take (i := 6) (v := undef) rfl (by decide) (by kernel_rfl) (by kernel_rfl) (by kernel_rfl) (fun q => ya_store (by decide) (by kernel_rfl) rfl (fun wx hT => ?_)) ?_
  · exact hT.stored _ _ rfl rfl rfl
  simp only [Act.put]
  refine anyA_done (by kernel_rfl) (fun q w5 (K : KQ _ _ _ _ true true q w5) => ?_) _
  obtain ⟨g7, rfl, h5, hl7, hB7⟩ := K.out
  clear K h4 css cse
  go_wp2_with (first
    | (refine wpList_load_row rfl 40 _ rfl w.heap.size rfl 40 _ (0, 0) _ (h5.blk _ m3) Tryz.underlying40 rfl (HS.out _) ?_)
    | (refine wpList_load_row rfl 40 _ rfl g7 rfl 40 _ (0, 0) _ (h5.blk _ m0) Tryz.underlying40 rfl (HS.out _) ?_))
  refine (cus _).mono ?_
  rintro e w6 ⟨rfl, hq⟩
  have h6 := h5.below hq
  clear h5 hq cus
  go_wp2_with fail
  rw [HI.out]
  refine (cpw _).mono ?_
  rintro e w7 ⟨rfl, hq⟩
  have h7 := h6.below hq
  clear h6 hq cpw hb
  go_wp2_with (first
    | (refine wpList_store_row rfl 40 _ _ rfl w7.heap.size (r64 4 (F4 (pwV u v))) rfl rfl 40 (r64 4 zF) ((Blk.new w7 _ _).cast_ zero4') (HS.out _) (by simp only [row_size]) (row_one fun _ => rfl) ?_; refine wpList_gen (KF w.heap.size w ((w7.heap.size, F4 (pwV u v)) :: [(g7, F4 (seV v)), (g6, F4 (cuV v)), (g5, F4 (sqV v)), (w.heap.size, F4 u), (w.heap.size + 1, F4 v), (w.heap.size + 2, zF)])) (h7.new _ _) (fun w8 h8 => ?_)))
  have l8 : w.heap.size + 2 < w7.heap.size := h7.lt _ m5
  clear hl7 hB7
  clear h7
  generalize w7.heap.size = g8 at h8 l8 ⊢
  have h9 : KF w.heap.size w [(g8, F4 (pwV u v)), (g6, F4 (cuV v)), (w.heap.size, F4 u), (w.heap.size + 2, onceF false (nearV u v))] w8 := h8.sub (fun x hx => by
    simp only [List.mem_cons, List.not_mem_nil, or_false] at hx ⊢
    rcases hx with rfl | rfl | rfl | rfl
    · exact .inl rfl
    · exact .inr (.inr (.inl rfl))
    · exact .inr (.inr (.inr (.inr (.inl rfl))))
    · exact .inr (.inr (.inr (.inr (.inr (.inr rfl))))))
  clear h8
  have hput : ∀ x ∈ [(g8, F4 (pwV u v)), (g6, F4 (cuV v)), (w.heap.size, F4 u), (w.heap.size + 2, onceF true (nearV u v))], x = (w.heap.size + 2, F4 (nearV u v)) ∨ (x ∈ [(g8, F4 (pwV u v)), (g6, F4 (cuV v)), (w.heap.size, F4 u), (w.heap.size + 2, onceF false (nearV u v))] ∧ x.1 ≠ w.heap.size + 2) := by
    intro x hx
    simp only [List.mem_cons, List.not_mem_nil, or_false] at hx
    rcases hx with rfl | rfl | rfl | rfl
    · exact .inr ⟨m0, by show g8 ≠ _; omega⟩
    · exact .inr ⟨m1, by show g6 ≠ _; omega⟩
    · exact .inr ⟨m2, by show w.heap.size ≠ _; omega⟩
    · exact .inl rfl
  have HP := Lib.hid hput
  clear hput
  simp only [Act.put]
  refine wp_region_anyL (Two 5 1000 fun f1 _ wx => KF w.heap.size w [(g8, F4 (pwV u v)), (g6, F4 (cuV v)), (w.heap.size, F4 u), (w.heap.size + 2, onceF f1 (nearV u v))] wx) (by kernel_rfl) h9.drew ?_
  refine anyL_take (i := 0) (v := .agg (r64 4 (F4 u))) rfl (by kernel_rfl) (by kernel_rfl) (by kernel_rfl) (yl_other (by decide) (by decide) rfl (fun f1 f2 wx hT => ?_)) ?_
  · exact lands_fe _ rfl _ rfl _ (hT.blk _ m2) hT
  simp only [pu]
  refine anyL_take (i := 1) (v := .agg (r64 4 (F4 (cuV v)))) rfl (by kernel_rfl) (by kernel_rfl) (by kernel_rfl) (yl_other (by decide) (by decide) rfl (fun f1 f2 wx hT => ?_)) ?_
  · exact lands_fe _ rfl _ rfl _ (hT.blk _ m1) hT
  simp only [pu]
  refine anyL_take (i := 2) (v := .agg (r64 4 (F4 (u * cuV v % pP)))) rfl (by kernel_rfl) (by kernel_rfl) (by kernel_rfl) (yl_other (by decide) (by decide) rfl (fun f1 f2 wx hT => ?_)) ?_
  · exact lands_calls (w := wx) ((cuc wx).mono fun _ _ ⟨he, hb⟩ => ⟨he, hT.below hb⟩) (by go_simp)
  simp only [pu]
  refine anyL_take (i := 3) (v := .agg (r64 4 (F4 (pwV u v)))) rfl (by kernel_rfl) (by kernel_rfl) (by kernel_rfl) (yl_other (by decide) (by decide) rfl (fun f1 f2 wx hT => ?_)) ?_
  · exact lands_fe _ rfl _ rfl _ (hT.blk _ m0) hT
  simp only [pu]
  refine anyL_take (i := 4) (v := .agg (r64 4 (F4 (nearV u v)))) rfl (by kernel_rfl) (by kernel_rfl) (by kernel_rfl) (yl_other (by decide) (by decide) rfl (fun f1 f2 wx hT => ?_)) ?_
  · exact lands_calls (w := wx) ((cre wx).mono fun _ _ ⟨he, hb⟩ => ⟨he, hT.below hb⟩) (by go_simp)
  simp only [pu]
  refine anyL_take (i := 5) (v := undef) rfl (by kernel_rfl) (by kernel_rfl) (by kernel_rfl) (yl_first (by decide) rfl (fun f2 wx hT => ?_)) ?_
  · exact stores_fe _ _ rfl (w.heap.size + 2) _ _ rfl rfl (hT.blk _ m3) (hT.put (hT.blk _ m3) (by omega) _ _ HP.out)
  simp only [Act.put]
  refine anyL_done (by kernel_rfl) (fun w9 (K : KF w.heap.size w [(g8, F4 (pwV u v)), (g6, F4 (cuV v)), (w.heap.size, F4 u), (w.heap.size + 2, onceF true (nearV u v))] w9) => ?_) _
  go_wp2_with fail
  exact bodyPost_ret (results_cell_row rfl _ _ (w.heap.size + 2) 40 (r64 4 (F4 (nearV u v))) (0, 0) _ rfl (K.blk _ m3) Tryz.underlying40 rfl (HS.out _)) rfl ⟨rfl, K.b⟩
end Go.Proofs.YtggalphgnloneaaGreat
