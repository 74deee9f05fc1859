/- row, plusSmall, prime of the layer field. -/
import Derived.Test.YtjggclhhimccoaaGb
import Derived.Test.YtjggclhhimccoaaFb
namespace Go.Proofs.Ytjggclhhimccoaa
open Go.RowKit
theorem F4_zero (k : Nat) : F4 0 k = litw 64 0 := by unfold F4; rw [Nat.zero_div]; rfl
theorem F4_shift (n k : Nat) : F4 (n / W64) k = F4 n (k + 1) := by
  unfold F4; rw [Nat.div_div_eq_div_mul]
  rw [show 64 * (k + 1) = 64 + 64 * k by omega, Nat.pow_add]; rfl
theorem stepF (x : BitVec 64) (b W k : Nat) (w : World) :
    Calls Try.prog 57 #[.int .u64 (iw x), .int .u64 (iw (F4 b k)), .int .u64 (iw (F4 W k)), .int .u64 (iw (cr64 x.toNat b W k))] w fun e w' => e = .returned (.tuple #[.int .u64 (iw (F4 (x.toNat * b + W) k)), .int .u64 (iw (cr64 x.toNat b W (k + 1)))]) ∧ w = w' := by
  refine (step_any x (F4 b k) (F4 W k) (cr64 x.toNat b W k) w).mono ?_
  rintro e w' ⟨rfl, rfl⟩
  have hx := w_lt x
  have e1 : nw (x.toNat * (F4 b k).toNat + (F4 W k).toNat + (cr64 x.toNat b W k).toNat) = F4 (x.toNat * b + W) k := by
    apply nw_eq
    rw [F4_nat', F4_nat', F4_nat', cr64_nat _ _ _ _ hx, cr_digit]
  have e2 : nw ((x.toNat * (F4 b k).toNat + (F4 W k).toNat + (cr64 x.toNat b W k).toNat) / W64) = cr64 x.toNat b W (k + 1) := by
    rw [F4_nat', F4_nat', cr64_nat _ _ _ _ hx, cr_next]; rfl
  rw [e1, e2]
  exact ⟨rfl, rfl⟩
theorem stepF0 (x : BitVec 64) (b W : Nat) (w : World) :
    Calls Try.prog 57 #[.int .u64 (iw x), .int .u64 (iw (F4 b 0)), .int .u64 (iw (F4 W 0)), .int .u64 0] w fun e w' => e = .returned (.tuple #[.int .u64 (iw (F4 (x.toNat * b + W) 0)), .int .u64 (iw (cr64 x.toNat b W (0 + 1)))]) ∧ w = w' := by
  have h : Value.int .u64 0 = .int .u64 (iw (cr64 x.toNat b W 0)) := by
    rw [lit0w]; unfold cr64; rw [cr_zero]; rfl
  rw [h]; exact stepF x b W 0 w
theorem cr64_four (x : BitVec 64) (b W : Nat) (hb : b < M256) (hW : W < M256) : cr64 x.toNat b W 4 = F4 (x.toNat * b + W) 4 := by
  unfold cr64 F4; rw [cr_four _ _ _ hb hW]; rfl
set_option maxHeartbeats 1000000 in
theorem row_any (x : BitVec 64) (b W : Nat) (hb : b < M256) (hW : W < M256) (cs : Array Value) (v0 v1 v2 v3 : BitVec 64) (hcs : cs = r64 4 (F4 b)) (h0 : v0 = F4 W 0) (h1 : v1 = F4 W 1) (h2 : v2 = F4 W 2) (h3 : v3 = F4 W 3) (w : World) :
    Calls Try.prog 43 #[.int .u64 (iw x), .agg cs, .int .u64 (iw v0), .int .u64 (iw v1), .int .u64 (iw v2), .int .u64 (iw v3)] w fun e w' => e = .returned (.tuple #[.int .u64 (iw (F4 (x.toNat * b + W) 0)), .int .u64 (iw (F4 (x.toNat * b + W) 1)), .int .u64 (iw (F4 (x.toNat * b + W) 2)), .int .u64 (iw (F4 (x.toNat * b + W) 3)), .int .u64 (iw (F4 (x.toNat * b + W) 4))]) ∧ Below w.heap.size w w' := by
  subst hcs h0 h1 h2 h3
  have E4 := Lib.hid (cr64_four x b W hb hW)
  have c0 : (w.alloc (.cells (r64 4 (F4 b)) 24)).cell? ⟨w.heap.size, 0, none⟩ = some (.int .u64 (iw (F4 b 0))) := (Blk.new w 24 (r64 4 (F4 b))).at_ (by omega)
  have c1 : (w.alloc (.cells (r64 4 (F4 b)) 24)).cell? ⟨w.heap.size, 1, none⟩ = some (.int .u64 (iw (F4 b 1))) := (Blk.new w 24 (r64 4 (F4 b))).at_ (by omega)
  have c2 : (w.alloc (.cells (r64 4 (F4 b)) 24)).cell? ⟨w.heap.size, 2, none⟩ = some (.int .u64 (iw (F4 b 2))) := (Blk.new w 24 (r64 4 (F4 b))).at_ (by omega)
  have c3 : (w.alloc (.cells (r64 4 (F4 b)) 24)).cell? ⟨w.heap.size, 3, none⟩ = some (.int .u64 (iw (F4 b 3))) := (Blk.new w 24 (r64 4 (F4 b))).at_ (by omega)
  go_enter Try.func43, Try.ntmps43
  go_wp2_with (first
    | (((with_reducible refine (stepF0 _ _ _ _).mono ?_)); rintro e w' ⟨rfl, rfl⟩)
    | (((with_reducible refine (stepF _ _ _ _ _).mono ?_)); rintro e w' ⟨rfl, rfl⟩))
  exact bodyPost_ret (v := .tuple #[.int .u64 (iw (F4 (x.toNat * b + W) 0)), .int .u64 (iw (F4 (x.toNat * b + W) 1)), .int .u64 (iw (F4 (x.toNat * b + W) 2)), .int .u64 (iw (F4 (x.toNat * b + W) 3)), .int .u64 (iw (F4 (x.toNat * b + W) 4))]) (by simp [results, Try.results43, go_sem, E4.out]) rfl ⟨rfl, (Below.refl _ _).alloc (Nat.le_refl _) _⟩
theorem addF (a n k : Nat) (w : World) : (callFunc 53 #[.int .u64 (iw (F4 a k)), .int .u64 (iw (F4 n k)), .int .u64 (iw (c64 a n k))]).run Try.prog w = .ok (.value (.tuple #[.int .u64 (iw (F4 (a + n) k)), .int .u64 (iw (c64 a n (k + 1)))])) w := by
  rw [run_addW _ _ _ (by rw [c64_nat]; exact cn_le a n k)]
  have e1 : nw ((F4 a k).toNat + (F4 n k).toNat + (c64 a n k).toNat) = F4 (a + n) k := by
    apply nw_eq
    rw [F4_nat', F4_nat', F4_nat', c64_nat, cn_digit]
  have e2 : nw (((F4 a k).toNat + (F4 n k).toNat + (c64 a n k).toNat) / W64) = c64 a n (k + 1) := by
    rw [F4_nat', F4_nat', c64_nat, cn_next]; rfl
  rw [e1, e2]
theorem c64_zero (a n : Nat) : Value.int .u64 0 = .int .u64 (iw (c64 a n 0)) := by
  rw [lit0w]; unfold c64; rw [cn_zero]; rfl
theorem F4_word (v : BitVec 64) : F4 v.toNat 0 = v := by
  unfold F4; rw [Nat.mul_zero, Nat.pow_zero, Nat.div_one]; apply BitVec.eq_of_toNat_eq; rw [BitVec.toNat_ofNat]; exact Nat.mod_eq_of_lt v.isLt
theorem F4_word' (v : BitVec 64) (k : Nat) : F4 v.toNat (k + 1) = litw 64 0 := by
  have : v.toNat / 2 ^ (64 * (k + 1)) = 0 := Nat.div_eq_of_lt (Nat.lt_of_lt_of_le v.isLt (Nat.pow_le_pow_right (by decide) (by omega)))
  unfold F4; rw [this]; rfl
theorem addF0 (a : Nat) (v : BitVec 64) (w : World) : (callFunc 53 #[.int .u64 (iw (F4 a 0)), .int .u64 (iw v), .int .u64 0]).run Try.prog w = .ok (.value (.tuple #[.int .u64 (iw (F4 (a + v.toNat) 0)), .int .u64 (iw (c64 a v.toNat 1))])) w := by
  have h := addF a v.toNat 0 w
  rw [F4_word, ← c64_zero] at h
  exact h
theorem addFk (a : Nat) (v : BitVec 64) (k : Nat) (w : World) : (callFunc 53 #[.int .u64 (iw (F4 a (k + 1))), .int .u64 0, .int .u64 (iw (c64 a v.toNat (k + 1)))]).run Try.prog w = .ok (.value (.tuple #[.int .u64 (iw (F4 (a + v.toNat) (k + 1))), .int .u64 (iw (c64 a v.toNat (k + 1 + 1)))])) w := by
  have h := addF a v.toNat (k + 1) w
  rw [F4_word', ← lit0w] at h
  exact h
theorem addF3 (a : Nat) (v : BitVec 64) : addw (F4 a 3) (c64 a v.toNat 3) = F4 (a + v.toNat) 3 := by
  apply BitVec.eq_of_toNat_eq
  unfold addw
  have h := cn_digit a v.toNat 3
  have h2 : v.toNat / 2 ^ (64 * 3) = 0 := Nat.div_eq_of_lt (Nat.lt_of_lt_of_le v.isLt (Nat.pow_le_pow_right (by decide) (by omega)))
  rw [h2, Nat.zero_mod, Nat.add_zero] at h
  rw [BitVec.toNat_add, F4_nat', F4_nat', c64_nat, ← h]; rfl
theorem built4 (a b c d : BitVec 64) : Try.prog.built 24 [(0, .int .u64 (iw a)), (1, .int .u64 (iw b)), (2, .int .u64 (iw c)), (3, .int .u64 (iw d))] = some #[.int .u64 (iw a), .int .u64 (iw b), .int .u64 (iw c), .int .u64 (iw d)] := by kernel_rfl
theorem row4 (a b c d : BitVec 64) (f : Nat → BitVec 64) (h0 : a = f 0) (h1 : b = f 1) (h2 : c = f 2) (h3 : d = f 3) : #[Value.int .u64 (iw a), .int .u64 (iw b), .int .u64 (iw c), .int .u64 (iw d)] = r64 4 f := by subst h0 h1 h2 h3; rfl
theorem zero4' : #[Value.int .u64 0, .int .u64 0, .int .u64 0, .int .u64 0] = r64 4 fun _ => litw 64 0 := by simp only [r64, iw_zero]; rfl
theorem fe_size (f : Nat → BitVec 64) : (Try.prog.info? 24).map (·.size) = some (r64 4 f).size := by rw [row_size]; kernel_rfl
set_option maxRecDepth 100000 in
set_option maxHeartbeats 1000000 in
theorem plusSmall_any (a : Nat) (v : BitVec 64) (w : World) :
    Calls Try.prog 52 #[.agg (r64 4 (F4 a)), .int .u64 (iw v)] w fun e w' => e = .returned (.agg (r64 4 (F4 (a + v.toNat)))) ∧ Below w.heap.size w w' := by
  have r0 := addF0 a v
  have r1 := addFk a v 0
  have r2 := addFk a v 1
  have r3 := addF3 a v
  simp only [Nat.reduceAdd] at r1 r2
  have HS := Lib.hid fe_size
  have W0 : Blk ((w.alloc (.cells (r64 4 (F4 a)) 24)).alloc (.cells #[.int .u64 0, .int .u64 0, .int .u64 0, .int .u64 0] 24)) w.heap.size 24 (r64 4 (F4 a)) := (Blk.new w _ _).alloc _
  have Z0 : Blk ((w.alloc (.cells (r64 4 (F4 a)) 24)).alloc (.cells #[.int .u64 0, .int .u64 0, .int .u64 0, .int .u64 0] 24)) (w.heap.size + 1) 24 (r64 4 fun _ => litw 64 0) := (Blk.new _ _ _).cast' ⟨by simp, zero4'⟩
  have c0 := W0.at_ (i := 0) (by omega)
  have c1 := W0.at_ (i := 1) (by omega)
  have c2 := W0.at_ (i := 2) (by omega)
  have c3 := W0.at_ (i := 3) (by omega)
  have R4 := Lib.hid (row4 (F4 (a + v.toNat) 0) (F4 (a + v.toNat) 1) (F4 (a + v.toNat) 2) (F4 (a + v.toNat) 3) (F4 (a + v.toNat)) rfl rfl rfl rfl)
  have hbu := built4
  go_enter Try.func52, Try.ntmps52
  go_wp2_with (refine wpList_store_row rfl 24 _ _ rfl (w.heap.size + 1) (r64 4 (F4 (a + v.toNat))) rfl (congrArg Value.agg R4.out) 24 _ Z0 (HS.out _) (by rw [row_size, row_size]) (row_one fun _ => rfl) ?_)
  simp only [Act.put]
  exact bodyPost_ret (results_cell_row rfl _ _ (w.heap.size + 1) 24 (r64 4 (F4 (a + v.toNat))) (0, 0) _ rfl (Z0.row_ _) Try.underlying24 rfl (HS.out _)) rfl ⟨rfl, below_setRow' (((Below.refl _ _).alloc (Nat.le_refl _) _).alloc (by simp) _) (by omega) _⟩
theorem fprime_any (w : World) :
    Calls Try.prog 55 #[] w fun e w' => e = .returned (.agg (r64 4 (F4 pP))) ∧ Below w.heap.size w w' := by
  have HS := Lib.hid fe_size
  go_enter Try.func55, Try.ntmps55
  go_wp2_with (refine wpList_store_row rfl 24 _ _ rfl w.heap.size (r64 4 (F4 pP)) rfl (by kernel_rfl) 24 _ (Blk.new w _ _) (HS.out _) (by rw [row_size]; rfl) (row_one fun _ => rfl) ?_)
  simp only [Act.put]
  exact bodyPost_ret (results_cell_row rfl _ _ w.heap.size 24 (r64 4 (F4 pP)) (0, 0) _ rfl ((Blk.new w _ _).row_ _) Try.underlying24 rfl (HS.out _)) rfl ⟨rfl, below_setRow' ((Below.refl _ _).alloc (Nat.le_refl _) _) (by omega) _⟩
end Go.Proofs.Ytjggclhhimccoaa
