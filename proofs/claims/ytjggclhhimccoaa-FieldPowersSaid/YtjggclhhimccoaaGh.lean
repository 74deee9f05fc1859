/- Mul of the layer field. -/
import Derived.Test.YtjggclhhimccoaaGg
namespace Go.Proofs.Ytjggclhhimccoaa
open Go.RowKit
theorem row0_any (x : BitVec 64) (b : Nat) (hb : b < M256) (w : World) :
    Calls Try.prog 43 #[.int .u64 (iw x), .agg (r64 4 (F4 b)), .int .u64 0, .int .u64 0, .int .u64 0, .int .u64 0] w fun e w' => e = .returned (.tuple #[.int .u64 (iw (F4 (x.toNat * b) 0)), .int .u64 (iw (F4 (x.toNat * b) 1)), .int .u64 (iw (F4 (x.toNat * b) 2)), .int .u64 (iw (F4 (x.toNat * b) 3)), .int .u64 (iw (F4 (x.toNat * b) 4))]) ∧ Below w.heap.size w w' := by
  have h := row_any x b 0 hb (by decide) _ _ _ _ _ rfl (F4_zero 0).symm (F4_zero 1).symm (F4_zero 2).symm (F4_zero 3).symm w
  rw [Nat.add_zero, ← lit0w] at h
  exact h
theorem row38_any (b W : Nat) (hb : b < M256) (hW : W < M256) (cs : Array Value) (v0 v1 v2 v3 : BitVec 64) (hcs : cs = r64 4 (F4 b)) (h0 : v0 = F4 W 0) (h1 : v1 = F4 W 1) (h2 : v2 = F4 W 2) (h3 : v3 = F4 W 3) (w : World) :
    Calls Try.prog 43 #[.int .u64 38, .agg cs, .int .u64 (iw v0), .int .u64 (iw v1), .int .u64 (iw v2), .int .u64 (iw v3)] w fun e w' => e = .returned (.tuple #[.int .u64 (iw (F4 (38 * b + W) 0)), .int .u64 (iw (F4 (38 * b + W) 1)), .int .u64 (iw (F4 (38 * b + W) 2)), .int .u64 (iw (F4 (38 * b + W) 3)), .int .u64 (iw (F4 (38 * b + W) 4))]) ∧ Below w.heap.size w w' := by
  have h := row_any (litw 64 38) b W hb hW cs v0 v1 v2 v3 hcs h0 h1 h2 h3 w
  have e1 : Value.int .u64 38 = .int .u64 (iw (litw 64 38)) := by kernel_rfl
  have e2 : (litw 64 38).toNat = 38 := by unfold litw; rfl
  rw [e2, ← e1] at h
  exact h
theorem row_lt (x : BitVec 64) (b W : Nat) (hb : b < M256) (hW : W < M256) : (x.toNat * b + W) / W64 < M256 := by
  refine Nat.div_lt_of_lt_mul ?_
  have hx := w_lt x
  have h1 : x.toNat * b ≤ (W64 - 1) * (M256 - 1) := Nat.mul_le_mul (by omega) (by omega)
  have h2 : (W64 - 1) * (M256 - 1) + M256 ≤ W64 * M256 := by decide
  omega
/-- What the rows come to. -/
def n0 (a b : Nat) : Nat := (F4 a 0).toNat * b
def n1 (a b : Nat) : Nat := (F4 a 1).toNat * b + n0 a b / W64
def n2 (a b : Nat) : Nat := (F4 a 2).toNat * b + n1 a b / W64
def n3 (a b : Nat) : Nat := (F4 a 3).toNat * b + n2 a b / W64
theorem words_a (a : Nat) (ha : a < M256) : a = (F4 a 0).toNat + W64 * ((F4 a 1).toNat + W64 * ((F4 a 2).toNat + W64 * (F4 a 3).toNat)) := by
  rw [F4_nat, F4_nat, F4_nat, F4_nat]
  unfold W64; unfold M256 at ha
  simp only [Nat.reduceMul, Nat.reducePow]
  omega
theorem prod_words (a b : Nat) (ha : a < M256) : a * b / W64 = n1 a b + W64 * ((F4 a 2).toNat * b + W64 * ((F4 a 3).toNat * b)) ∧ a * b / W64 / W64 = n2 a b + W64 * ((F4 a 3).toNat * b) ∧ a * b / W64 / W64 / W64 = n3 a b ∧ a * b % W64 = n0 a b % W64 := by
  have h := words_a a ha
  have e : a * b = n0 a b + W64 * ((F4 a 1).toNat * b + W64 * ((F4 a 2).toNat * b + W64 * ((F4 a 3).toNat * b))) := by
    have : a * b = ((F4 a 0).toNat + W64 * ((F4 a 1).toNat + W64 * ((F4 a 2).toNat + W64 * (F4 a 3).toNat))) * b := by rw [← h]
    rw [this]; unfold n0
    simp only [Nat.add_mul, Nat.mul_assoc]
  rw [e]
  unfold n3 n2 n1
  generalize n0 a b = m0
  generalize (F4 a 1).toNat * b = m1
  generalize (F4 a 2).toNat * b = m2
  generalize (F4 a 3).toNat * b = m3
  unfold W64
  refine ⟨?_, ?_, ?_, ?_⟩ <;> omega
theorem n0_word (a b : Nat) (ha : a < M256) : F4 (n0 a b) 0 = F4 (a * b % M256) 0 := by
  apply BitVec.eq_of_toNat_eq
  have := (prod_words a b ha).2.2.2
  rw [F4_nat, F4_nat]; unfold M256; unfold W64 at this
  simp only [Nat.reduceMul, Nat.reducePow]
  omega
theorem n1_word (a b : Nat) (ha : a < M256) : F4 (n1 a b) 0 = F4 (a * b % M256) 1 := by
  apply BitVec.eq_of_toNat_eq
  have := (prod_words a b ha).1
  rw [F4_nat, F4_nat]; unfold M256; unfold W64 at this
  simp only [Nat.reduceMul, Nat.reducePow]
  omega
theorem n2_word (a b : Nat) (ha : a < M256) : F4 (n2 a b) 0 = F4 (a * b % M256) 2 := by
  apply BitVec.eq_of_toNat_eq
  have := (prod_words a b ha).2.1
  rw [F4_nat, F4_nat]; unfold M256; unfold W64 at this
  simp only [Nat.reduceMul, Nat.reducePow]
  omega
theorem n3_word (a b : Nat) (ha : a < M256) : F4 (n3 a b) 0 = F4 (a * b % M256) 3 := by
  apply BitVec.eq_of_toNat_eq
  have := (prod_words a b ha).2.2.1
  rw [F4_nat, F4_nat]; unfold M256; unfold W64 at this
  simp only [Nat.reduceMul, Nat.reducePow]
  omega
theorem n3_high (a b : Nat) (ha : a < M256) : n3 a b / W64 = a * b / M256 := by
  have := (prod_words a b ha).2.2.1
  rw [← this, Nat.div_div_eq_div_mul, Nat.div_div_eq_div_mul, Nat.div_div_eq_div_mul]; rfl
def mr (a b : Nat) : Nat := 38 * (a * b / M256) + a * b % M256
theorem mr_mod (a b : Nat) : (mr a b % M256 + mr a b / M256 * M256) % pP = a * b % pP := by
  rw [Nat.mul_comm, Nat.mod_add_div]
  have h := Nat.mod_add_div (a * b) M256
  have e : a * b = mr a b + pP * (2 * (a * b / M256)) := by
    unfold mr
    generalize a * b / M256 = q at *
    generalize a * b % M256 = r at *
    rw [← h]; unfold M256 pP; omega
  have e2 : a * b % pP = (mr a b + pP * (2 * (a * b / M256))) % pP := by rw [← e]
  rw [e2, Nat.add_mul_mod_self_left]
theorem mr_lt (a b : Nat) (ha : a < M256) (hb : b < M256) : mr a b / M256 ≤ 38 := by
  have h1 : a * b / M256 < M256 := Nat.div_lt_of_lt_mul (Nat.mul_lt_mul'' ha hb)
  have h2 : a * b % M256 < M256 := Nat.mod_lt _ (by decide)
  have : mr a b / M256 < 39 := Nat.div_lt_of_lt_mul (by unfold mr; omega)
  omega
theorem F4_mod (m i : Nat) (hi : i < 4) : F4 m i = F4 (m % M256) i := by
  apply BitVec.eq_of_toNat_eq
  rw [F4_nat, F4_nat]
  unfold M256
  match i, hi with
  | 0, _ => simp only [Nat.reduceMul, Nat.reducePow]; omega
  | 1, _ => simp only [Nat.reduceMul, Nat.reducePow]; omega
  | 2, _ => simp only [Nat.reduceMul, Nat.reducePow]; omega
  | 3, _ => simp only [Nat.reduceMul, Nat.reducePow]; omega
theorem F4_over (m : Nat) : F4 m 4 = nw (m / M256) := by unfold F4 nw M256; rfl
theorem rowA0 (a b : Nat) (hb : b < M256) (w : World) : Calls Try.prog 43 #[.int .u64 (iw (F4 a 0)), .agg (r64 4 (F4 b)), .int .u64 0, .int .u64 0, .int .u64 0, .int .u64 0] w fun e w' => e = .returned (.tuple #[.int .u64 (iw (F4 (n0 a b) 0)), .int .u64 (iw (F4 (n0 a b) 1)), .int .u64 (iw (F4 (n0 a b) 2)), .int .u64 (iw (F4 (n0 a b) 3)), .int .u64 (iw (F4 (n0 a b) 4))]) ∧ Below w.heap.size w w' := row0_any (F4 a 0) b hb w
theorem rowA1 (a b : Nat) (hb : b < M256) (h : n0 a b / W64 < M256) (w : World) : Calls Try.prog 43 #[.int .u64 (iw (F4 a 1)), .agg (r64 4 (F4 b)), .int .u64 (iw (F4 (n0 a b) 1)), .int .u64 (iw (F4 (n0 a b) 2)), .int .u64 (iw (F4 (n0 a b) 3)), .int .u64 (iw (F4 (n0 a b) 4))] w fun e w' => e = .returned (.tuple #[.int .u64 (iw (F4 (n1 a b) 0)), .int .u64 (iw (F4 (n1 a b) 1)), .int .u64 (iw (F4 (n1 a b) 2)), .int .u64 (iw (F4 (n1 a b) 3)), .int .u64 (iw (F4 (n1 a b) 4))]) ∧ Below w.heap.size w w' :=
  row_any (F4 a 1) b (n0 a b / W64) hb h _ _ _ _ _ rfl (F4_shift _ 0).symm (F4_shift _ 1).symm (F4_shift _ 2).symm (F4_shift _ 3).symm w
theorem rowA2 (a b : Nat) (hb : b < M256) (h : n1 a b / W64 < M256) (w : World) : Calls Try.prog 43 #[.int .u64 (iw (F4 a 2)), .agg (r64 4 (F4 b)), .int .u64 (iw (F4 (n1 a b) 1)), .int .u64 (iw (F4 (n1 a b) 2)), .int .u64 (iw (F4 (n1 a b) 3)), .int .u64 (iw (F4 (n1 a b) 4))] w fun e w' => e = .returned (.tuple #[.int .u64 (iw (F4 (n2 a b) 0)), .int .u64 (iw (F4 (n2 a b) 1)), .int .u64 (iw (F4 (n2 a b) 2)), .int .u64 (iw (F4 (n2 a b) 3)), .int .u64 (iw (F4 (n2 a b) 4))]) ∧ Below w.heap.size w w' :=
  row_any (F4 a 2) b (n1 a b / W64) hb h _ _ _ _ _ rfl (F4_shift _ 0).symm (F4_shift _ 1).symm (F4_shift _ 2).symm (F4_shift _ 3).symm w
theorem rowA3 (a b : Nat) (hb : b < M256) (h : n2 a b / W64 < M256) (w : World) : Calls Try.prog 43 #[.int .u64 (iw (F4 a 3)), .agg (r64 4 (F4 b)), .int .u64 (iw (F4 (n2 a b) 1)), .int .u64 (iw (F4 (n2 a b) 2)), .int .u64 (iw (F4 (n2 a b) 3)), .int .u64 (iw (F4 (n2 a b) 4))] w fun e w' => e = .returned (.tuple #[.int .u64 (iw (F4 (n3 a b) 0)), .int .u64 (iw (F4 (n3 a b) 1)), .int .u64 (iw (F4 (n3 a b) 2)), .int .u64 (iw (F4 (n3 a b) 3)), .int .u64 (iw (F4 (n3 a b) 4))]) ∧ Below w.heap.size w w' :=
  row_any (F4 a 3) b (n2 a b / W64) hb h _ _ _ _ _ rfl (F4_shift _ 0).symm (F4_shift _ 1).symm (F4_shift _ 2).symm (F4_shift _ 3).symm w
theorem rowA4 (a b : Nat) (ha : a < M256) (h : n3 a b / W64 < M256) (w : World) : Calls Try.prog 43 #[.int .u64 38, .agg #[.int .u64 (iw (F4 (n3 a b) 1)), .int .u64 (iw (F4 (n3 a b) 2)), .int .u64 (iw (F4 (n3 a b) 3)), .int .u64 (iw (F4 (n3 a b) 4))], .int .u64 (iw (F4 (n0 a b) 0)), .int .u64 (iw (F4 (n1 a b) 0)), .int .u64 (iw (F4 (n2 a b) 0)), .int .u64 (iw (F4 (n3 a b) 0))] w fun e w' => e = .returned (.tuple #[.int .u64 (iw (F4 (mr a b) 0)), .int .u64 (iw (F4 (mr a b) 1)), .int .u64 (iw (F4 (mr a b) 2)), .int .u64 (iw (F4 (mr a b) 3)), .int .u64 (iw (F4 (mr a b) 4))]) ∧ Below w.heap.size w w' := by
  rw [n3_high a b ha] at h
  exact row38_any (a * b / M256) (a * b % M256) h (Nat.mod_lt _ (by decide)) _ _ _ _ _ (row4 _ _ _ _ _ (by rw [← n3_high a b ha, F4_shift]) (by rw [← n3_high a b ha, F4_shift]) (by rw [← n3_high a b ha, F4_shift]) (by rw [← n3_high a b ha, F4_shift])) (n0_word a b ha) (n1_word a b ha) (n2_word a b ha) (n3_word a b ha) w
theorem belowA (a b : Nat) (ha : a < M256) (hb : b < M256) (w : World) : Calls Try.prog 37 #[.agg #[.int .u64 (iw (F4 (mr a b) 0)), .int .u64 (iw (F4 (mr a b) 1)), .int .u64 (iw (F4 (mr a b) 2)), .int .u64 (iw (F4 (mr a b) 3))], .int .u64 (iw (F4 (mr a b) 4))] w fun e w' => e = .returned (.agg (r64 4 (F4 (a * b % pP)))) ∧ Below w.heap.size w w' := by
  rw [F4_over, row4 _ _ _ _ (F4 (mr a b % M256)) (F4_mod _ _ (by omega)) (F4_mod _ _ (by omega)) (F4_mod _ _ (by omega)) (F4_mod _ _ (by omega)), ← mr_mod]
  exact fbelow_any _ _ w (Nat.mod_lt _ (by decide)) (mr_lt a b ha hb)
set_option maxRecDepth 100000 in
set_option maxHeartbeats 2000000 in
theorem fmul_any (a b : Nat) (w : World) (ha : a < M256) (hb : b < M256) :
    Calls Try.prog 16 #[.agg (r64 4 (F4 a)), .agg (r64 4 (F4 b))] w fun e w' => e = .returned (.agg (r64 4 (F4 (a * b % pP)))) ∧ Below w.heap.size w w' := by
  have HS := Lib.hid fe_size
  have l0 : n0 a b / W64 < M256 := row_lt (F4 a 0) b 0 hb (by decide)
  have l1 : n1 a b / W64 < M256 := row_lt (F4 a 1) b _ hb l0
  have l2 : n2 a b / W64 < M256 := row_lt (F4 a 2) b _ hb l1
  have l3 : n3 a b / W64 < M256 := row_lt (F4 a 3) b _ hb l2
  have L0 := L3.start a b w
  have c0 := L0.da.at_ (i := 0) (by omega)
  have hbu := built4
  go_enter Try.func16, Try.ntmps16
  go_wp2_with (refine wpList_load_row rfl 24 _ rfl (w.heap.size + 1) rfl 24 _ (0, 0) _ L0.db Try.underlying24 rfl (HS.out _) ?_)
  refine (rowA0 a b hb _).mono ?_
  rintro e w1 ⟨rfl, hq⟩
  have h1 := L0.below hq
  have c1 := h1.da.at_ (i := 1) (by omega)
  clear L0 c0 hq
  go_wp2_with (refine wpList_load_row rfl 24 _ rfl (w.heap.size + 1) rfl 24 _ (0, 0) _ h1.db Try.underlying24 rfl (HS.out _) ?_)
  refine (rowA1 a b hb l0 _).mono ?_
  rintro e w2 ⟨rfl, hq⟩
  have h2 := h1.below hq
  have c2 := h2.da.at_ (i := 2) (by omega)
  clear h1 c1 hq
  go_wp2_with (refine wpList_load_row rfl 24 _ rfl (w.heap.size + 1) rfl 24 _ (0, 0) _ h2.db Try.underlying24 rfl (HS.out _) ?_)
  refine (rowA2 a b hb l1 _).mono ?_
  rintro e w3 ⟨rfl, hq⟩
  have h3 := h2.below hq
  have c3 := h3.da.at_ (i := 3) (by omega)
  clear h2 c2 hq
  go_wp2_with (refine wpList_load_row rfl 24 _ rfl (w.heap.size + 1) rfl 24 _ (0, 0) _ h3.db Try.underlying24 rfl (HS.out _) ?_)
  refine (rowA3 a b hb l2 _).mono ?_
  rintro e w4 ⟨rfl, hq⟩
  have h4 := h3.below hq
  clear h3 c3 hq
  go_wp2_with fail
  refine (rowA4 a b ha l3 _).mono ?_
  rintro e w5 ⟨rfl, hq⟩
  have h5 := h4.below hq
  clear h4 hq
  go_wp2_with fail
  refine (belowA a b ha hb _).mono ?_
  rintro e w6 ⟨rfl, hq⟩
  have h6 := h5.below hq
  clear h5 hq
  go_wp2_with (refine wpList_store_row rfl 24 _ _ rfl (w.heap.size + 2) (r64 4 (F4 (a * b % pP))) rfl rfl 24 _ h6.r (HS.out _) (by simp only [row_size]) (row_one fun _ => rfl) ?_)
  simp only [Act.put]
  exact bodyPost_ret (results_cell_row rfl _ _ (w.heap.size + 2) 24 (r64 4 (F4 (a * b % pP))) (0, 0) _ rfl (h6.r.row_ _) Try.underlying24 rfl (HS.out _)) rfl ⟨rfl, below_setRow' h6.l (by omega) _⟩
end Go.Proofs.Ytjggclhhimccoaa
