/- PointSums: the walk. (written by mkQ6.py) -/
import Derived.Test.YtehcigidjghddaaQCl
import Derived.Test.YtehcigidjghddaaQsb
import Derived.Test.YtehcigidjghddaaQu
namespace Go.Proofs.Ytehcigidjghddaa
open Go.RowKit
set_option maxRecDepth 100000 in
set_option maxHeartbeats 4000000 in
theorem sums_nat (a b : Nat) (ha : a < 65536) (hb : b < 65536) (w : World) :
    Calls Try.prog 7 #[.int .u16 (a : Int), .int .u16 (b : Int)] w fun e w' => e = .returned (.bool true) ∧ Below w.heap.size w w' := by
  obtain ⟨A, hA⟩ : ∃ z, pmul bP a = z := ⟨_, rfl⟩
  have oA : onC A := hA ▸ pmul_on base_on _
  obtain ⟨B, hB⟩ : ∃ z, pmul bP b = z := ⟨_, rfl⟩
  have oB : onC B := hB ▸ pmul_on base_on _
  obtain ⟨C, hC⟩ : ∃ z, pmul bP (a + b) = z := ⟨_, rfl⟩
  have oC : onC C := hC ▸ pmul_on base_on _
  have mA : Hid (pmul (cnt bP) (numV (twoB (a % 256) (a / 256)) 32) = A) := Lib.hid (by rw [cnt_base, num_two _ _ (by omega) (by omega), show a % 256 + 256 * (a / 256) = a by omega, hA])
  have mB : Hid (pmul (cnt bP) (numV (twoB (b % 256) (b / 256)) 32) = B) := Lib.hid (by rw [cnt_base, num_two _ _ (by omega) (by omega), show b % 256 + 256 * (b / 256) = b by omega, hB])
  have mC : Hid (pmul (cnt bP) (numV (threeB ((a + b) % 256) ((a + b) / 256 % 256) ((a + b) / 65536)) 32) = C) := Lib.hid (by rw [cnt_base, num_three _ _ _ (by omega) (by omega) (by omega), show (a + b) % 256 + 256 * ((a + b) / 256 % 256) + 65536 * ((a + b) / 65536) = a + b by omega, hC])
  have aC : Hid (padd (cnt A) (cnt B) = C) := Lib.hid (by rw [cnt_C' oA, cnt_C' oB, ← hA, ← hB, ← pmul_add base_on, hC])
  have mL : Hid (pmul (cnt bP) (numV orderT 32) = pZ) := Lib.hid (by rw [cnt_base, order_num, order_base])
  have k1 : Hid (pmul (cnt bP) (numV ⟨#[1]⟩ 32) = bP) := Lib.hid (by rw [cnt_base, show numV ⟨#[1]⟩ 32 = 1 from rfl, pmul_one base_on])
  have k0 : Hid (pmul (cnt bP) (numV ⟨#[]⟩ 32) = pZ) := Lib.hid (by rw [show numV ⟨#[]⟩ 32 = 0 from rfl]; rfl)
  have k00 : Hid (pmul (cnt bP) (numV ⟨#[0]⟩ 32) = pZ) := Lib.hid (by rw [show numV ⟨#[0]⟩ 32 = 0 from rfl]; rfl)
  clear hA hB hC
  obtain ⟨n, hn⟩ : ∃ n, n = a + b := ⟨_, rfl⟩
  have hnI : (a : Int) + b = (n : Int) := by rw [hn]; exact (Int.natCast_add a b).symm
  have hnb : n < 131072 := by omega
  rw [← hn] at mC
  clear hn
  have hmk : ∀ w, (Instr.makeSlice 45 (.int .i64 15) (.int .i64 15)).run Try.prog w = .ok (.slice (some ⟨w.heap.size, 0, none⟩) 15 15) (w.alloc (.cells (r8 15 fun _ => (0 : BitVec 8)) 5)) := fun w => by kernel_rfl
  go_enter Try.func7, Try.ntmps7
  repeat (first | (with_reducible apply wp_seq_k; intro _ _) | with_reducible apply wp_block | with_reducible apply wp_skip | with_reducible apply wp_exit | (go_at_K; go_step) | with_reducible apply then_normal | with_reducible apply then_exit | with_reducible apply block_normal | with_reducible apply block_same | with_reducible exact block_far rfl ?_)
  have h1 := KD.begin w
  with_reducible apply wp_region_lit
  refine wpList_val (R := KD w.heap.size w []) (.bool false) rfl (by refine lands_value (w := w) ?_ h1; go_simp <;> rfl) ?_
  intro w2 h2
  simp only [Act.put, List.setIfInBounds_toArray, List.set_cons_zero, List.set_cons_succ]
  clear h1
  refine wpList_nil ?_
  repeat (first | (with_reducible apply wp_seq_k; intro _ _) | with_reducible apply wp_block | with_reducible apply wp_skip | with_reducible apply wp_exit | (go_at_K; go_step) | with_reducible apply then_normal | with_reducible apply then_exit | with_reducible apply block_normal | with_reducible apply block_same | with_reducible exact block_far rfl ?_)
  with_reducible apply wp_region_lit
  refine wpList_val (R := KD w.heap.size w []) (.bool true) rfl (by exact lands_calls (w := w2) ((examples_any w2).mono fun _ _ ⟨he, hb⟩ => ⟨he, h2.below hb⟩) (by go_simp)) ?_
  intro w3 h3
  simp only [Act.put, List.setIfInBounds_toArray, List.set_cons_zero, List.set_cons_succ]
  clear h2
  refine wpList_val (R := KD w.heap.size w []) (.bool true) rfl (by refine lands_value (w := w3) ?_ h3; go_simp <;> rfl) ?_
  intro w4 h4
  simp only [Act.put, List.setIfInBounds_toArray, List.set_cons_zero, List.set_cons_succ]
  clear h3
  refine wpList_nil ?_
  repeat (first | (with_reducible apply wp_seq_k; intro _ _) | with_reducible apply wp_block | with_reducible apply wp_skip | with_reducible apply wp_exit | (go_at_K; go_step) | with_reducible apply then_normal | with_reducible apply then_exit | with_reducible apply block_normal | with_reducible apply block_same | with_reducible exact block_far rfl ?_)
  with_reducible apply wp_region_lit
  refine wpList_val (R := KD w.heap.size w []) (.bool true) rfl (by refine lands_value (w := w4) ?_ h4; go_simp <;> rfl) ?_
  intro w5 h5
  simp only [Act.put, List.setIfInBounds_toArray, List.set_cons_zero, List.set_cons_succ]
  clear h4
  refine wpList_val (R := KD w.heap.size w []) (.bool false) rfl (by refine lands_value (w := w5) ?_ h5; go_simp <;> rfl) ?_
  intro w6 h6
  simp only [Act.put, List.setIfInBounds_toArray, List.set_cons_zero, List.set_cons_succ]
  clear h5
  refine wpList_nil ?_
  repeat (first | (with_reducible apply wp_seq_k; intro _ _) | with_reducible apply wp_block | with_reducible apply wp_skip | with_reducible apply wp_exit | (go_at_K; go_step) | with_reducible apply then_normal | with_reducible apply then_exit | with_reducible apply block_normal | with_reducible apply block_same | with_reducible exact block_far rfl ?_)
  refine wp_cond_false rfl ?_
  repeat (first | (with_reducible apply wp_seq_k; intro _ _) | with_reducible apply wp_block | with_reducible apply wp_skip | with_reducible apply wp_exit | (go_at_K; go_step) | with_reducible apply then_normal | with_reducible apply then_exit | with_reducible apply block_normal | with_reducible apply block_same | with_reducible exact block_far rfl ?_)
  with_reducible apply wp_region_lit
  refine wpList_val (R := KD w.heap.size w []) (.int .u16 (a : Int)) rfl (by refine lands_value (w := w6) ?_ h6; go_simp <;> rfl) ?_
  intro w7 h7
  simp only [Act.put, List.setIfInBounds_toArray, List.set_cons_zero, List.set_cons_succ]
  clear h6
  refine wpList_val (R := KD w.heap.size w []) (.int .u8 ((a % 256 : Nat) : Int)) rfl (by refine lands_value (w := w7) ?_ h7; go_simp; rw [IntKind.wrap_u8] <;> omega) ?_
  intro w8 h8
  simp only [Act.put, List.setIfInBounds_toArray, List.set_cons_zero, List.set_cons_succ]
  clear h7
  refine wpList_val (R := KD w.heap.size w []) (.int .u16 (a : Int)) rfl (by refine lands_value (w := w8) ?_ h8; go_simp <;> rfl) ?_
  intro w9 h9
  simp only [Act.put, List.setIfInBounds_toArray, List.set_cons_zero, List.set_cons_succ]
  clear h8
  refine wpList_val (R := KD w.heap.size w []) (.int .u16 ((a / 256 : Nat) : Int)) rfl (by refine lands_value (w := w9) ?_ h9; go_simp) ?_
  intro w10 h10
  simp only [Act.put, List.setIfInBounds_toArray, List.set_cons_zero, List.set_cons_succ]
  clear h9
  refine wpList_val (R := KD w.heap.size w []) (.int .u8 ((a / 256 : Nat) : Int)) rfl (by refine lands_value (w := w10) ?_ h10; go_simp; rw [IntKind.wrap_u8] <;> omega) ?_
  intro w11 h11
  simp only [Act.put, List.setIfInBounds_toArray, List.set_cons_zero, List.set_cons_succ]
  clear h10
  refine wpList_val (R := KD w.heap.size w [(w11.heap.size, 5, #[.int .u8 ((a % 256 : Nat) : Int), .int .u8 ((a / 256 : Nat) : Int)])]) (.slice (some ⟨w11.heap.size, 0, none⟩) 2 2) rfl (lands_run2 (by go_simp) (h11.add _ _)) ?_
  intro w12 h12
  simp only [Act.put, List.setIfInBounds_toArray, List.set_cons_zero, List.set_cons_succ]
  clear h11
  generalize w11.heap.size = g13 at h12 ⊢
  refine wpList_val (R := KD w.heap.size w [(g13, 5, #[.int .u8 ((a % 256 : Nat) : Int), .int .u8 ((a / 256 : Nat) : Int)])]) (.string (twoB (a % 256) (a / 256))) rfl (by exact lands_convert _ _ _ rfl rfl (two_back (a % 256) (a / 256) (by omega) (by omega) (h12.blk (g13, 5, #[.int .u8 ((a % 256 : Nat) : Int), .int .u8 ((a / 256 : Nat) : Int)]) m0)) h12) ?_
  intro w14 h14
  simp only [Act.put, List.setIfInBounds_toArray, List.set_cons_zero, List.set_cons_succ]
  clear h12
  refine wpList_val (R := KD w.heap.size w [(g13, 5, #[.int .u8 ((a % 256 : Nat) : Int), .int .u8 ((a / 256 : Nat) : Int)])]) (.string (twoB (a % 256) (a / 256))) rfl (by refine lands_value (w := w14) ?_ h14; go_simp <;> rfl) ?_
  intro w15 h15
  simp only [Act.put, List.setIfInBounds_toArray, List.set_cons_zero, List.set_cons_succ]
  clear h14
  refine wpList_nil ?_
  repeat (first | (with_reducible apply wp_seq_k; intro _ _) | with_reducible apply wp_block | with_reducible apply wp_skip | with_reducible apply wp_exit | (go_at_K; go_step) | with_reducible apply then_normal | with_reducible apply then_exit | with_reducible apply block_normal | with_reducible apply block_same | with_reducible exact block_far rfl ?_)
  with_reducible apply wp_region_lit
  refine wpList_val (R := KD w.heap.size w [(g13, 5, #[.int .u8 ((a % 256 : Nat) : Int), .int .u8 ((a / 256 : Nat) : Int)])]) (.int .u16 (b : Int)) rfl (by refine lands_value (w := w15) ?_ h15; go_simp <;> rfl) ?_
  intro w16 h16
  simp only [Act.put, List.setIfInBounds_toArray, List.set_cons_zero, List.set_cons_succ]
  clear h15
  refine wpList_val (R := KD w.heap.size w [(g13, 5, #[.int .u8 ((a % 256 : Nat) : Int), .int .u8 ((a / 256 : Nat) : Int)])]) (.int .u8 ((b % 256 : Nat) : Int)) rfl (by refine lands_value (w := w16) ?_ h16; go_simp; rw [IntKind.wrap_u8] <;> omega) ?_
  intro w17 h17
  simp only [Act.put, List.setIfInBounds_toArray, List.set_cons_zero, List.set_cons_succ]
  clear h16
  refine wpList_val (R := KD w.heap.size w [(g13, 5, #[.int .u8 ((a % 256 : Nat) : Int), .int .u8 ((a / 256 : Nat) : Int)])]) (.int .u16 (b : Int)) rfl (by refine lands_value (w := w17) ?_ h17; go_simp <;> rfl) ?_
  intro w18 h18
  simp only [Act.put, List.setIfInBounds_toArray, List.set_cons_zero, List.set_cons_succ]
  clear h17
  refine wpList_val (R := KD w.heap.size w [(g13, 5, #[.int .u8 ((a % 256 : Nat) : Int), .int .u8 ((a / 256 : Nat) : Int)])]) (.int .u16 ((b / 256 : Nat) : Int)) rfl (by refine lands_value (w := w18) ?_ h18; go_simp) ?_
  intro w19 h19
  simp only [Act.put, List.setIfInBounds_toArray, List.set_cons_zero, List.set_cons_succ]
  clear h18
  refine wpList_val (R := KD w.heap.size w [(g13, 5, #[.int .u8 ((a % 256 : Nat) : Int), .int .u8 ((a / 256 : Nat) : Int)])]) (.int .u8 ((b / 256 : Nat) : Int)) rfl (by refine lands_value (w := w19) ?_ h19; go_simp; rw [IntKind.wrap_u8] <;> omega) ?_
  intro w20 h20
  simp only [Act.put, List.setIfInBounds_toArray, List.set_cons_zero, List.set_cons_succ]
  clear h19
  refine wpList_val (R := KD w.heap.size w [(w20.heap.size, 5, #[.int .u8 ((b % 256 : Nat) : Int), .int .u8 ((b / 256 : Nat) : Int)]), (g13, 5, #[.int .u8 ((a % 256 : Nat) : Int), .int .u8 ((a / 256 : Nat) : Int)])]) (.slice (some ⟨w20.heap.size, 0, none⟩) 2 2) rfl (lands_run2 (by go_simp) (h20.add _ _)) ?_
  intro w21 h21
  simp only [Act.put, List.setIfInBounds_toArray, List.set_cons_zero, List.set_cons_succ]
  clear h20
  generalize w20.heap.size = g22 at h21 ⊢
  refine wpList_val (R := KD w.heap.size w [(g22, 5, #[.int .u8 ((b % 256 : Nat) : Int), .int .u8 ((b / 256 : Nat) : Int)]), (g13, 5, #[.int .u8 ((a % 256 : Nat) : Int), .int .u8 ((a / 256 : Nat) : Int)])]) (.string (twoB (b % 256) (b / 256))) rfl (by exact lands_convert _ _ _ rfl rfl (two_back (b % 256) (b / 256) (by omega) (by omega) (h21.blk (g22, 5, #[.int .u8 ((b % 256 : Nat) : Int), .int .u8 ((b / 256 : Nat) : Int)]) m0)) h21) ?_
  intro w23 h23
  simp only [Act.put, List.setIfInBounds_toArray, List.set_cons_zero, List.set_cons_succ]
  clear h21
  refine wpList_val (R := KD w.heap.size w [(g22, 5, #[.int .u8 ((b % 256 : Nat) : Int), .int .u8 ((b / 256 : Nat) : Int)]), (g13, 5, #[.int .u8 ((a % 256 : Nat) : Int), .int .u8 ((a / 256 : Nat) : Int)])]) (.string (twoB (b % 256) (b / 256))) rfl (by refine lands_value (w := w23) ?_ h23; go_simp <;> rfl) ?_
  intro w24 h24
  simp only [Act.put, List.setIfInBounds_toArray, List.set_cons_zero, List.set_cons_succ]
  clear h23
  refine wpList_nil ?_
  repeat (first | (with_reducible apply wp_seq_k; intro _ _) | with_reducible apply wp_block | with_reducible apply wp_skip | with_reducible apply wp_exit | (go_at_K; go_step) | with_reducible apply then_normal | with_reducible apply then_exit | with_reducible apply block_normal | with_reducible apply block_same | with_reducible exact block_far rfl ?_)
  with_reducible apply wp_region_lit
  refine wpList_val (R := KD w.heap.size w [(g22, 5, #[.int .u8 ((b % 256 : Nat) : Int), .int .u8 ((b / 256 : Nat) : Int)]), (g13, 5, #[.int .u8 ((a % 256 : Nat) : Int), .int .u8 ((a / 256 : Nat) : Int)])]) (.int .u16 (a : Int)) rfl (by refine lands_value (w := w24) ?_ h24; go_simp <;> rfl) ?_
  intro w25 h25
  simp only [Act.put, List.setIfInBounds_toArray, List.set_cons_zero, List.set_cons_succ]
  clear h24
  refine wpList_val (R := KD w.heap.size w [(g22, 5, #[.int .u8 ((b % 256 : Nat) : Int), .int .u8 ((b / 256 : Nat) : Int)]), (g13, 5, #[.int .u8 ((a % 256 : Nat) : Int), .int .u8 ((a / 256 : Nat) : Int)])]) (.int .i64 (a : Int)) rfl (by refine lands_value (w := w25) ?_ h25; go_simp; exact IntWalk.i64_in _ (by omega)) ?_
  intro w26 h26
  simp only [Act.put, List.setIfInBounds_toArray, List.set_cons_zero, List.set_cons_succ]
  clear h25
  refine wpList_val (R := KD w.heap.size w [(g22, 5, #[.int .u8 ((b % 256 : Nat) : Int), .int .u8 ((b / 256 : Nat) : Int)]), (g13, 5, #[.int .u8 ((a % 256 : Nat) : Int), .int .u8 ((a / 256 : Nat) : Int)])]) (.int .u16 (b : Int)) rfl (by refine lands_value (w := w26) ?_ h26; go_simp <;> rfl) ?_
  intro w27 h27
  simp only [Act.put, List.setIfInBounds_toArray, List.set_cons_zero, List.set_cons_succ]
  clear h26
  refine wpList_val (R := KD w.heap.size w [(g22, 5, #[.int .u8 ((b % 256 : Nat) : Int), .int .u8 ((b / 256 : Nat) : Int)]), (g13, 5, #[.int .u8 ((a % 256 : Nat) : Int), .int .u8 ((a / 256 : Nat) : Int)])]) (.int .i64 (b : Int)) rfl (by refine lands_value (w := w27) ?_ h27; go_simp; exact IntWalk.i64_in _ (by omega)) ?_
  intro w28 h28
  simp only [Act.put, List.setIfInBounds_toArray, List.set_cons_zero, List.set_cons_succ]
  clear h27
  refine wpList_val (R := KD w.heap.size w [(g22, 5, #[.int .u8 ((b % 256 : Nat) : Int), .int .u8 ((b / 256 : Nat) : Int)]), (g13, 5, #[.int .u8 ((a % 256 : Nat) : Int), .int .u8 ((a / 256 : Nat) : Int)])]) (.int .i64 (n : Int)) rfl (by refine lands_value (w := w28) ?_ h28; go_simp; rw [IntWalk.i64_in _ (by omega)]) ?_
  intro w29 h29
  simp only [Act.put, List.setIfInBounds_toArray, List.set_cons_zero, List.set_cons_succ]
  clear h28
  refine wpList_val (R := KD w.heap.size w [(g22, 5, #[.int .u8 ((b % 256 : Nat) : Int), .int .u8 ((b / 256 : Nat) : Int)]), (g13, 5, #[.int .u8 ((a % 256 : Nat) : Int), .int .u8 ((a / 256 : Nat) : Int)])]) (.int .i64 (n : Int)) rfl (by refine lands_value (w := w29) ?_ h29; go_simp <;> rfl) ?_
  intro w30 h30
  simp only [Act.put, List.setIfInBounds_toArray, List.set_cons_zero, List.set_cons_succ]
  clear h29
  refine wpList_nil ?_
  repeat (first | (with_reducible apply wp_seq_k; intro _ _) | with_reducible apply wp_block | with_reducible apply wp_skip | with_reducible apply wp_exit | (go_at_K; go_step) | with_reducible apply then_normal | with_reducible apply then_exit | with_reducible apply block_normal | with_reducible apply block_same | with_reducible exact block_far rfl ?_)
  with_reducible apply wp_region_lit
  refine wpList_val (R := KD w.heap.size w [(g22, 5, #[.int .u8 ((b % 256 : Nat) : Int), .int .u8 ((b / 256 : Nat) : Int)]), (g13, 5, #[.int .u8 ((a % 256 : Nat) : Int), .int .u8 ((a / 256 : Nat) : Int)])]) (.int .i64 (n : Int)) rfl (by refine lands_value (w := w30) ?_ h30; go_simp <;> rfl) ?_
  intro w31 h31
  simp only [Act.put, List.setIfInBounds_toArray, List.set_cons_zero, List.set_cons_succ]
  clear h30
  refine wpList_val (R := KD w.heap.size w [(g22, 5, #[.int .u8 ((b % 256 : Nat) : Int), .int .u8 ((b / 256 : Nat) : Int)]), (g13, 5, #[.int .u8 ((a % 256 : Nat) : Int), .int .u8 ((a / 256 : Nat) : Int)])]) (.int .u8 ((n % 256 : Nat) : Int)) rfl (by refine lands_value (w := w31) ?_ h31; go_simp; rw [IntKind.wrap_u8] <;> omega) ?_
  intro w32 h32
  simp only [Act.put, List.setIfInBounds_toArray, List.set_cons_zero, List.set_cons_succ]
  clear h31
  refine wpList_val (R := KD w.heap.size w [(g22, 5, #[.int .u8 ((b % 256 : Nat) : Int), .int .u8 ((b / 256 : Nat) : Int)]), (g13, 5, #[.int .u8 ((a % 256 : Nat) : Int), .int .u8 ((a / 256 : Nat) : Int)])]) (.int .i64 (n : Int)) rfl (by refine lands_value (w := w32) ?_ h32; go_simp <;> rfl) ?_
  intro w33 h33
  simp only [Act.put, List.setIfInBounds_toArray, List.set_cons_zero, List.set_cons_succ]
  clear h32
  refine wpList_val (R := KD w.heap.size w [(g22, 5, #[.int .u8 ((b % 256 : Nat) : Int), .int .u8 ((b / 256 : Nat) : Int)]), (g13, 5, #[.int .u8 ((a % 256 : Nat) : Int), .int .u8 ((a / 256 : Nat) : Int)])]) (.int .i64 ((n / 256 : Nat) : Int)) rfl (by refine lands_value (w := w33) ?_ h33; go_simp) ?_
  intro w34 h34
  simp only [Act.put, List.setIfInBounds_toArray, List.set_cons_zero, List.set_cons_succ]
  clear h33
  refine wpList_val (R := KD w.heap.size w [(g22, 5, #[.int .u8 ((b % 256 : Nat) : Int), .int .u8 ((b / 256 : Nat) : Int)]), (g13, 5, #[.int .u8 ((a % 256 : Nat) : Int), .int .u8 ((a / 256 : Nat) : Int)])]) (.int .u8 ((n / 256 % 256 : Nat) : Int)) rfl (by refine lands_value (w := w34) ?_ h34; go_simp; rw [IntKind.wrap_u8] <;> omega) ?_
  intro w35 h35
  simp only [Act.put, List.setIfInBounds_toArray, List.set_cons_zero, List.set_cons_succ]
  clear h34
  refine wpList_val (R := KD w.heap.size w [(g22, 5, #[.int .u8 ((b % 256 : Nat) : Int), .int .u8 ((b / 256 : Nat) : Int)]), (g13, 5, #[.int .u8 ((a % 256 : Nat) : Int), .int .u8 ((a / 256 : Nat) : Int)])]) (.int .i64 (n : Int)) rfl (by refine lands_value (w := w35) ?_ h35; go_simp <;> rfl) ?_
  intro w36 h36
  simp only [Act.put, List.setIfInBounds_toArray, List.set_cons_zero, List.set_cons_succ]
  clear h35
  refine wpList_val (R := KD w.heap.size w [(g22, 5, #[.int .u8 ((b % 256 : Nat) : Int), .int .u8 ((b / 256 : Nat) : Int)]), (g13, 5, #[.int .u8 ((a % 256 : Nat) : Int), .int .u8 ((a / 256 : Nat) : Int)])]) (.int .i64 ((n / 65536 : Nat) : Int)) rfl (by refine lands_value (w := w36) ?_ h36; go_simp) ?_
  intro w37 h37
  simp only [Act.put, List.setIfInBounds_toArray, List.set_cons_zero, List.set_cons_succ]
  clear h36
  refine wpList_val (R := KD w.heap.size w [(g22, 5, #[.int .u8 ((b % 256 : Nat) : Int), .int .u8 ((b / 256 : Nat) : Int)]), (g13, 5, #[.int .u8 ((a % 256 : Nat) : Int), .int .u8 ((a / 256 : Nat) : Int)])]) (.int .u8 ((n / 65536 : Nat) : Int)) rfl (by refine lands_value (w := w37) ?_ h37; go_simp; rw [IntKind.wrap_u8] <;> omega) ?_
  intro w38 h38
  simp only [Act.put, List.setIfInBounds_toArray, List.set_cons_zero, List.set_cons_succ]
  clear h37
  refine wpList_val (R := KD w.heap.size w [(w38.heap.size, 5, #[.int .u8 ((n % 256 : Nat) : Int), .int .u8 ((n / 256 % 256 : Nat) : Int), .int .u8 ((n / 65536 : Nat) : Int)]), (g22, 5, #[.int .u8 ((b % 256 : Nat) : Int), .int .u8 ((b / 256 : Nat) : Int)]), (g13, 5, #[.int .u8 ((a % 256 : Nat) : Int), .int .u8 ((a / 256 : Nat) : Int)])]) (.slice (some ⟨w38.heap.size, 0, none⟩) 3 3) rfl (lands_run2 (by go_simp) (h38.add _ _)) ?_
  intro w39 h39
  simp only [Act.put, List.setIfInBounds_toArray, List.set_cons_zero, List.set_cons_succ]
  clear h38
  generalize w38.heap.size = g40 at h39 ⊢
  refine wpList_val (R := KD w.heap.size w [(g40, 5, #[.int .u8 ((n % 256 : Nat) : Int), .int .u8 ((n / 256 % 256 : Nat) : Int), .int .u8 ((n / 65536 : Nat) : Int)]), (g22, 5, #[.int .u8 ((b % 256 : Nat) : Int), .int .u8 ((b / 256 : Nat) : Int)]), (g13, 5, #[.int .u8 ((a % 256 : Nat) : Int), .int .u8 ((a / 256 : Nat) : Int)])]) (.string (threeB (n % 256) (n / 256 % 256) (n / 65536))) rfl (by exact lands_convert _ _ _ rfl rfl (three_back (n % 256) (n / 256 % 256) (n / 65536) (by omega) (by omega) (by omega) (h39.blk (g40, 5, #[.int .u8 ((n % 256 : Nat) : Int), .int .u8 ((n / 256 % 256 : Nat) : Int), .int .u8 ((n / 65536 : Nat) : Int)]) m0)) h39) ?_
  intro w41 h41
  simp only [Act.put, List.setIfInBounds_toArray, List.set_cons_zero, List.set_cons_succ]
  clear h39
  refine wpList_val (R := KD w.heap.size w [(g40, 5, #[.int .u8 ((n % 256 : Nat) : Int), .int .u8 ((n / 256 % 256 : Nat) : Int), .int .u8 ((n / 65536 : Nat) : Int)]), (g22, 5, #[.int .u8 ((b % 256 : Nat) : Int), .int .u8 ((b / 256 : Nat) : Int)]), (g13, 5, #[.int .u8 ((a % 256 : Nat) : Int), .int .u8 ((a / 256 : Nat) : Int)])]) (.string (threeB (n % 256) (n / 256 % 256) (n / 65536))) rfl (by refine lands_value (w := w41) ?_ h41; go_simp <;> rfl) ?_
  intro w42 h42
  simp only [Act.put, List.setIfInBounds_toArray, List.set_cons_zero, List.set_cons_succ]
  clear h41
  refine wpList_nil ?_
  repeat (first | (with_reducible apply wp_seq_k; intro _ _) | with_reducible apply wp_block | with_reducible apply wp_skip | with_reducible apply wp_exit | (go_at_K; go_step) | with_reducible apply then_normal | with_reducible apply then_exit | with_reducible apply block_normal | with_reducible apply block_same | with_reducible exact block_far rfl ?_)
  with_reducible apply wp_region_lit
  refine wpList_val (R := KD w.heap.size w [(g40, 5, #[.int .u8 ((n % 256 : Nat) : Int), .int .u8 ((n / 256 % 256 : Nat) : Int), .int .u8 ((n / 65536 : Nat) : Int)]), (g22, 5, #[.int .u8 ((b % 256 : Nat) : Int), .int .u8 ((b / 256 : Nat) : Int)]), (g13, 5, #[.int .u8 ((a % 256 : Nat) : Int), .int .u8 ((a / 256 : Nat) : Int)])]) (.agg (nums 2 (two bP.x bP.y))) rfl (by exact lands_calls (w := w42) ((qbase_any w42).mono fun _ _ ⟨he, hb⟩ => ⟨he, h42.below hb⟩) (by go_simp)) ?_
  intro w43 h43
  simp only [Act.put, List.setIfInBounds_toArray, List.set_cons_zero, List.set_cons_succ]
  clear h42
  refine wpList_val (R := KD w.heap.size w [(w43.heap.size, 26, nums 2 (two 0 0)), (g40, 5, #[.int .u8 ((n % 256 : Nat) : Int), .int .u8 ((n / 256 % 256 : Nat) : Int), .int .u8 ((n / 65536 : Nat) : Int)]), (g22, 5, #[.int .u8 ((b % 256 : Nat) : Int), .int .u8 ((b / 256 : Nat) : Int)]), (g13, 5, #[.int .u8 ((a % 256 : Nat) : Int), .int .u8 ((a / 256 : Nat) : Int)])]) (.pointer (some ⟨w43.heap.size, 0, none⟩)) rfl (lands_run2 (alloc_run _ _ rfl zero_pt _) (h43.add _ _)) ?_
  intro w44 h44
  simp only [Act.put, List.setIfInBounds_toArray, List.set_cons_zero, List.set_cons_succ]
  clear h43
  generalize w43.heap.size = g45 at h44 ⊢
  refine wpList_val (R := KD w.heap.size w [(g45, 26, nums 2 (two bP.x bP.y)), (g40, 5, #[.int .u8 ((n % 256 : Nat) : Int), .int .u8 ((n / 256 % 256 : Nat) : Int), .int .u8 ((n / 65536 : Nat) : Int)]), (g22, 5, #[.int .u8 ((b % 256 : Nat) : Int), .int .u8 ((b / 256 : Nat) : Int)]), (g13, 5, #[.int .u8 ((a % 256 : Nat) : Int), .int .u8 ((a / 256 : Nat) : Int)])]) undef rfl (lands_store _ _ _ rfl g45 (nums 2 (two bP.x bP.y)) rfl rfl _ _ (h44.blk _ m0) (by kernel_rfl) (by kernel_rfl) (row_one fun _ => rfl) (h44.put (k := 0) rfl _)) ?_
  intro w46 h46
  simp only [Act.put]
  clear h44
  refine wpList_nil ?_
  repeat (first | (with_reducible apply wp_seq_k; intro _ _) | with_reducible apply wp_block | with_reducible apply wp_skip | with_reducible apply wp_exit | (go_at_K; go_step) | with_reducible apply then_normal | with_reducible apply then_exit | with_reducible apply block_normal | with_reducible apply block_same | with_reducible exact block_far rfl ?_)
  with_reducible apply wp_region_lit
  refine wpList_val (R := KD w.heap.size w [(w46.heap.size, 5, r8 15 fun _ => (0 : BitVec 8)), (g45, 26, nums 2 (two bP.x bP.y)), (g40, 5, #[.int .u8 ((n % 256 : Nat) : Int), .int .u8 ((n / 256 % 256 : Nat) : Int), .int .u8 ((n / 65536 : Nat) : Int)]), (g22, 5, #[.int .u8 ((b % 256 : Nat) : Int), .int .u8 ((b / 256 : Nat) : Int)]), (g13, 5, #[.int .u8 ((a % 256 : Nat) : Int), .int .u8 ((a / 256 : Nat) : Int)])]) (.slice (some ⟨w46.heap.size, 0, none⟩) 15 15) rfl (lands_run2 (by go_simp) (h46.add _ _)) ?_
  intro w47 h47
  simp only [Act.put, List.setIfInBounds_toArray, List.set_cons_zero, List.set_cons_succ]
  clear h46
  generalize w46.heap.size = g48 at h47 ⊢
  refine wpList_val (R := KD w.heap.size w [(g48, 5, r8 15 fun _ => (0 : BitVec 8)), (g45, 26, nums 2 (two bP.x bP.y)), (g40, 5, #[.int .u8 ((n % 256 : Nat) : Int), .int .u8 ((n / 256 % 256 : Nat) : Int), .int .u8 ((n / 65536 : Nat) : Int)]), (g22, 5, #[.int .u8 ((b % 256 : Nat) : Int), .int .u8 ((b / 256 : Nat) : Int)]), (g13, 5, #[.int .u8 ((a % 256 : Nat) : Int), .int .u8 ((a / 256 : Nat) : Int)])]) (.string zero15) rfl (by exact lands_convert _ _ _ rfl rfl (zero_back (h47.blk (g48, 5, r8 15 fun _ => (0 : BitVec 8)) m0)) h47) ?_
  intro w49 h49
  simp only [Act.put, List.setIfInBounds_toArray, List.set_cons_zero, List.set_cons_succ]
  clear h47
  refine wpList_val (R := KD w.heap.size w [(g48, 5, r8 15 fun _ => (0 : BitVec 8)), (g45, 26, nums 2 (two bP.x bP.y)), (g40, 5, #[.int .u8 ((n % 256 : Nat) : Int), .int .u8 ((n / 256 % 256 : Nat) : Int), .int .u8 ((n / 65536 : Nat) : Int)]), (g22, 5, #[.int .u8 ((b % 256 : Nat) : Int), .int .u8 ((b / 256 : Nat) : Int)]), (g13, 5, #[.int .u8 ((a % 256 : Nat) : Int), .int .u8 ((a / 256 : Nat) : Int)])]) (.string (order16 ++ zero15)) rfl (by refine lands_value (w := w49) ?_ h49; go_simp; rw [size15, if_neg (by decide)]; rfl) ?_
  intro w50 h50
  simp only [Act.put, List.setIfInBounds_toArray, List.set_cons_zero, List.set_cons_succ]
  clear h49
  refine wpList_val (R := KD w.heap.size w [(g48, 5, r8 15 fun _ => (0 : BitVec 8)), (g45, 26, nums 2 (two bP.x bP.y)), (g40, 5, #[.int .u8 ((n % 256 : Nat) : Int), .int .u8 ((n / 256 % 256 : Nat) : Int), .int .u8 ((n / 65536 : Nat) : Int)]), (g22, 5, #[.int .u8 ((b % 256 : Nat) : Int), .int .u8 ((b / 256 : Nat) : Int)]), (g13, 5, #[.int .u8 ((a % 256 : Nat) : Int), .int .u8 ((a / 256 : Nat) : Int)])]) (.string orderT) rfl (by refine lands_value (w := w50) ?_ h50; go_simp; rw [if_neg (show ¬ 9223372036854775807 < order16.size + zero15.size + 1 by decide)]; rfl) ?_
  intro w51 h51
  simp only [Act.put, List.setIfInBounds_toArray, List.set_cons_zero, List.set_cons_succ]
  clear h50
  refine wpList_val (R := KD w.heap.size w [(g48, 5, r8 15 fun _ => (0 : BitVec 8)), (g45, 26, nums 2 (two bP.x bP.y)), (g40, 5, #[.int .u8 ((n % 256 : Nat) : Int), .int .u8 ((n / 256 % 256 : Nat) : Int), .int .u8 ((n / 65536 : Nat) : Int)]), (g22, 5, #[.int .u8 ((b % 256 : Nat) : Int), .int .u8 ((b / 256 : Nat) : Int)]), (g13, 5, #[.int .u8 ((a % 256 : Nat) : Int), .int .u8 ((a / 256 : Nat) : Int)])]) (.string orderT) rfl (by refine lands_value (w := w51) ?_ h51; go_simp <;> rfl) ?_
  intro w52 h52
  simp only [Act.put, List.setIfInBounds_toArray, List.set_cons_zero, List.set_cons_succ]
  clear h51
  refine wpList_nil ?_
  repeat (first | (with_reducible apply wp_seq_k; intro _ _) | with_reducible apply wp_block | with_reducible apply wp_skip | with_reducible apply wp_exit | (go_at_K; go_step) | with_reducible apply then_normal | with_reducible apply then_exit | with_reducible apply block_normal | with_reducible apply block_same | with_reducible exact block_far rfl ?_)
  obtain ⟨n53, hn53⟩ : ∃ n, n = w52.heap.size := ⟨_, rfl⟩
  refine wp_region_anyE (KM w.heap.size n53 w (fun _ _ => [(g48, 5, r8 15 fun _ => (0 : BitVec 8)), (g45, 26, nums 2 (two bP.x bP.y)), (g40, 5, #[.int .u8 ((n % 256 : Nat) : Int), .int .u8 ((n / 256 % 256 : Nat) : Int), .int .u8 ((n / 65536 : Nat) : Int)]), (g22, 5, #[.int .u8 ((b % 256 : Nat) : Int), .int .u8 ((b / 256 : Nat) : Int)]), (g13, 5, #[.int .u8 ((a % 256 : Nat) : Int), .int .u8 ((a / 256 : Nat) : Int)])]) 1000 1001 []) (fun _ => false) (by kernel_rfl) (KM.begin h52 hn53 (lows hn53 h52 (fun _ _ => rfl)) _) ?_
  refine anyE_take (i := 0) (.bool true) rfl rfl (by kernel_rfl) (by kernel_rfl) (by kernel_rfl) (fun qv => ym_other rfl rfl (fun L wx hT => ?_)) ?_
  · refine lands_value (w := wx) ?_ hT; go_simp <;> rfl
  simp only [Act.put, List.setIfInBounds_toArray, List.set_cons_zero, List.set_cons_succ]
  refine anyE_take (i := 1) (.bool true) rfl rfl (by kernel_rfl) (by kernel_rfl) (by kernel_rfl) (fun qv => ym_other rfl rfl (fun L wx hT => ?_)) ?_
  · refine lands_value (w := wx) ?_ hT; go_simp <;> rfl
  simp only [Act.put, List.setIfInBounds_toArray, List.set_cons_zero, List.set_cons_succ]
  refine anyE_take (i := 2) (.string (twoB (a % 256) (a / 256))) rfl rfl (by kernel_rfl) (by kernel_rfl) (by kernel_rfl) (fun qv => ym_other rfl rfl (fun L wx hT => ?_)) ?_
  · refine lands_value (w := wx) ?_ hT; go_simp <;> rfl
  simp only [Act.put, List.setIfInBounds_toArray, List.set_cons_zero, List.set_cons_succ]
  refine anyE_take (i := 3) (.agg (nums 2 (two bP.x bP.y))) rfl rfl (by kernel_rfl) (by kernel_rfl) (by kernel_rfl) (fun qv => ym_other rfl rfl (fun L wx hT => ?_)) ?_
  · exact lands_load _ _ rfl _ rfl _ _ _ (hT.k.blk _ m1) Try.underlying26 rfl (by kernel_rfl) hT
  simp only [Act.put, List.setIfInBounds_toArray, List.set_cons_zero, List.set_cons_succ]
  refine anyE_take (i := 4) (.agg (nums 2 (two A.x A.y))) rfl rfl (by kernel_rfl) (by kernel_rfl) (by kernel_rfl) (fun qv => ym_other rfl rfl (fun L wx hT => ?_)) ?_
  · exact lands_calls (w := wx) ((mul_is (twoB (a % 256) (a / 256)) bP A base_on.ok mA.out wx).mono fun _ _ ⟨he, hb⟩ => ⟨he, hT.below hb⟩) (by go_simp)
  simp only [Act.put, List.setIfInBounds_toArray, List.set_cons_zero, List.set_cons_succ]
  refine anyE_take (i := 5) (.string (twoB (b % 256) (b / 256))) rfl rfl (by kernel_rfl) (by kernel_rfl) (by kernel_rfl) (fun qv => ym_other rfl rfl (fun L wx hT => ?_)) ?_
  · refine lands_value (w := wx) ?_ hT; go_simp <;> rfl
  simp only [Act.put, List.setIfInBounds_toArray, List.set_cons_zero, List.set_cons_succ]
  refine anyE_take (i := 6) (.agg (nums 2 (two bP.x bP.y))) rfl rfl (by kernel_rfl) (by kernel_rfl) (by kernel_rfl) (fun qv => ym_other rfl rfl (fun L wx hT => ?_)) ?_
  · exact lands_load _ _ rfl _ rfl _ _ _ (hT.k.blk _ m1) Try.underlying26 rfl (by kernel_rfl) hT
  simp only [Act.put, List.setIfInBounds_toArray, List.set_cons_zero, List.set_cons_succ]
  refine anyE_take (i := 7) (.agg (nums 2 (two B.x B.y))) rfl rfl (by kernel_rfl) (by kernel_rfl) (by kernel_rfl) (fun qv => ym_other rfl rfl (fun L wx hT => ?_)) ?_
  · exact lands_calls (w := wx) ((mul_is (twoB (b % 256) (b / 256)) bP B base_on.ok mB.out wx).mono fun _ _ ⟨he, hb⟩ => ⟨he, hT.below hb⟩) (by go_simp)
  simp only [Act.put, List.setIfInBounds_toArray, List.set_cons_zero, List.set_cons_succ]
  refine anyE_take (i := 8) (.agg (nums 2 (two C.x C.y))) rfl rfl (by kernel_rfl) (by kernel_rfl) (by kernel_rfl) (fun qv => ym_other rfl rfl (fun L wx hT => ?_)) ?_
  · exact lands_calls (w := wx) ((add_is A B C oA.ok oB.ok aC.out wx).mono fun _ _ ⟨he, hb⟩ => ⟨he, hT.below hb⟩) (by go_simp)
  simp only [Act.put, List.setIfInBounds_toArray, List.set_cons_zero, List.set_cons_succ]
  refine anyE_take (i := 9) (.string (threeB (n % 256) (n / 256 % 256) (n / 65536))) rfl rfl (by kernel_rfl) (by kernel_rfl) (by kernel_rfl) (fun qv => ym_other rfl rfl (fun L wx hT => ?_)) ?_
  · refine lands_value (w := wx) ?_ hT; go_simp <;> rfl
  simp only [Act.put, List.setIfInBounds_toArray, List.set_cons_zero, List.set_cons_succ]
  refine anyE_take (i := 10) (.agg (nums 2 (two bP.x bP.y))) rfl rfl (by kernel_rfl) (by kernel_rfl) (by kernel_rfl) (fun qv => ym_other rfl rfl (fun L wx hT => ?_)) ?_
  · exact lands_load _ _ rfl _ rfl _ _ _ (hT.k.blk _ m1) Try.underlying26 rfl (by kernel_rfl) hT
  simp only [Act.put, List.setIfInBounds_toArray, List.set_cons_zero, List.set_cons_succ]
  refine anyE_take (i := 11) (.agg (nums 2 (two C.x C.y))) rfl rfl (by kernel_rfl) (by kernel_rfl) (by kernel_rfl) (fun qv => ym_other rfl rfl (fun L wx hT => ?_)) ?_
  · exact lands_calls (w := wx) ((mul_is (threeB (n % 256) (n / 256 % 256) (n / 65536)) bP C base_on.ok mC.out wx).mono fun _ _ ⟨he, hb⟩ => ⟨he, hT.below hb⟩) (by go_simp)
  simp only [Act.put, List.setIfInBounds_toArray, List.set_cons_zero, List.set_cons_succ]
  refine anyE_take (i := 12) (.bool true) rfl rfl (by kernel_rfl) (by kernel_rfl) (by kernel_rfl) (fun qv => ym_other rfl rfl (fun L wx hT => ?_)) ?_
  · exact lands_eqlP _ _ rfl C C rfl rfl oC.ok oC.ok true (eqP_iff.2 rfl) hT
  simp only [Act.put, List.setIfInBounds_toArray, List.set_cons_zero, List.set_cons_succ]
  refine anyE_take (i := 13) (.bool true) rfl rfl (by kernel_rfl) (by kernel_rfl) (by kernel_rfl) (fun qv => ym_other rfl rfl (fun L wx hT => ?_)) ?_
  · refine lands_value (w := wx) ?_ hT; go_simp <;> rfl
  simp only [Act.put, List.setIfInBounds_toArray, List.set_cons_zero, List.set_cons_succ]
  refine anyE_take (i := 14) (.bool true) rfl rfl (by kernel_rfl) (by kernel_rfl) (by kernel_rfl) (fun qv => ym_other rfl rfl (fun L wx hT => ?_)) ?_
  · refine lands_value (w := wx) ?_ hT; go_simp <;> rfl
  simp only [Act.put, List.setIfInBounds_toArray, List.set_cons_zero, List.set_cons_succ]
  refine anyE_take (i := 15) (.string orderT) rfl rfl (by kernel_rfl) (by kernel_rfl) (by kernel_rfl) (fun qv => ym_other rfl rfl (fun L wx hT => ?_)) ?_
  · refine lands_value (w := wx) ?_ hT; go_simp <;> rfl
  simp only [Act.put, List.setIfInBounds_toArray, List.set_cons_zero, List.set_cons_succ]
  refine anyE_take (i := 16) (.agg (nums 2 (two bP.x bP.y))) rfl rfl (by kernel_rfl) (by kernel_rfl) (by kernel_rfl) (fun qv => ym_other rfl rfl (fun L wx hT => ?_)) ?_
  · exact lands_load _ _ rfl _ rfl _ _ _ (hT.k.blk _ m1) Try.underlying26 rfl (by kernel_rfl) hT
  simp only [Act.put, List.setIfInBounds_toArray, List.set_cons_zero, List.set_cons_succ]
  refine anyE_take (i := 17) (.agg (nums 2 (two pZ.x pZ.y))) rfl rfl (by kernel_rfl) (by kernel_rfl) (by kernel_rfl) (fun qv => ym_other rfl rfl (fun L wx hT => ?_)) ?_
  · exact lands_calls (w := wx) ((mul_is orderT bP pZ base_on.ok mL.out wx).mono fun _ _ ⟨he, hb⟩ => ⟨he, hT.below hb⟩) (by go_simp)
  simp only [Act.put, List.setIfInBounds_toArray, List.set_cons_zero, List.set_cons_succ]
  refine anyE_take (i := 18) (.agg (nums 2 (two pZ.x pZ.y))) rfl rfl (by kernel_rfl) (by kernel_rfl) (by kernel_rfl) (fun qv => ym_other rfl rfl (fun L wx hT => ?_)) ?_
  · exact lands_calls (w := wx) ((qzero_any wx).mono fun _ _ ⟨he, hb⟩ => ⟨he, hT.below hb⟩) (by go_simp)
  simp only [Act.put, List.setIfInBounds_toArray, List.set_cons_zero, List.set_cons_succ]
  refine anyE_take (i := 19) (.bool true) rfl rfl (by kernel_rfl) (by kernel_rfl) (by kernel_rfl) (fun qv => ym_other rfl rfl (fun L wx hT => ?_)) ?_
  · exact lands_eqlP _ _ rfl pZ pZ rfl rfl pZ_on.ok pZ_on.ok true (eqP_iff.2 rfl) hT
  simp only [Act.put, List.setIfInBounds_toArray, List.set_cons_zero, List.set_cons_succ]
  refine anyE_take (i := 20) (.bool true) rfl rfl (by kernel_rfl) (by kernel_rfl) (by kernel_rfl) (fun qv => ym_other rfl rfl (fun L wx hT => ?_)) ?_
  · refine lands_value (w := wx) ?_ hT; go_simp <;> rfl
  simp only [Act.put, List.setIfInBounds_toArray, List.set_cons_zero, List.set_cons_succ]
  refine anyE_take (i := 21) (.bool true) rfl rfl (by kernel_rfl) (by kernel_rfl) (by kernel_rfl) (fun qv => ym_other rfl rfl (fun L wx hT => ?_)) ?_
  · refine lands_value (w := wx) ?_ hT; go_simp <;> rfl
  simp only [Act.put, List.setIfInBounds_toArray, List.set_cons_zero, List.set_cons_succ]
  refine anyE_take (i := 22) (.agg (nums 2 (two bP.x bP.y))) rfl rfl (by kernel_rfl) (by kernel_rfl) (by kernel_rfl) (fun qv => ym_other rfl rfl (fun L wx hT => ?_)) ?_
  · exact lands_load _ _ rfl _ rfl _ _ _ (hT.k.blk _ m1) Try.underlying26 rfl (by kernel_rfl) hT
  simp only [Act.put, List.setIfInBounds_toArray, List.set_cons_zero, List.set_cons_succ]
  refine anyE_take (i := 23) (.agg (nums 2 (two bP.x bP.y))) rfl rfl (by kernel_rfl) (by kernel_rfl) (by kernel_rfl) (fun qv => ym_other rfl rfl (fun L wx hT => ?_)) ?_
  · exact lands_calls (w := wx) ((mul_is (⟨#[1]⟩) bP bP base_on.ok k1.out wx).mono fun _ _ ⟨he, hb⟩ => ⟨he, hT.below hb⟩) (by go_simp)
  simp only [Act.put, List.setIfInBounds_toArray, List.set_cons_zero, List.set_cons_succ]
  refine anyE_take (i := 24) (.agg (nums 2 (two bP.x bP.y))) rfl rfl (by kernel_rfl) (by kernel_rfl) (by kernel_rfl) (fun qv => ym_other rfl rfl (fun L wx hT => ?_)) ?_
  · exact lands_load _ _ rfl _ rfl _ _ _ (hT.k.blk _ m1) Try.underlying26 rfl (by kernel_rfl) hT
  simp only [Act.put, List.setIfInBounds_toArray, List.set_cons_zero, List.set_cons_succ]
  refine anyE_take (i := 25) (.bool true) rfl rfl (by kernel_rfl) (by kernel_rfl) (by kernel_rfl) (fun qv => ym_other rfl rfl (fun L wx hT => ?_)) ?_
  · exact lands_eqlP _ _ rfl bP bP rfl rfl base_on.ok base_on.ok true (eqP_iff.2 rfl) hT
  simp only [Act.put, List.setIfInBounds_toArray, List.set_cons_zero, List.set_cons_succ]
  refine anyE_take (i := 26) (.bool true) rfl rfl (by kernel_rfl) (by kernel_rfl) (by kernel_rfl) (fun qv => ym_other rfl rfl (fun L wx hT => ?_)) ?_
  · refine lands_value (w := wx) ?_ hT; go_simp <;> rfl
  simp only [Act.put, List.setIfInBounds_toArray, List.set_cons_zero, List.set_cons_succ]
  refine anyE_take (i := 27) (.bool true) rfl rfl (by kernel_rfl) (by kernel_rfl) (by kernel_rfl) (fun qv => ym_other rfl rfl (fun L wx hT => ?_)) ?_
  · refine lands_value (w := wx) ?_ hT; go_simp <;> rfl
  simp only [Act.put, List.setIfInBounds_toArray, List.set_cons_zero, List.set_cons_succ]
  refine anyE_take (i := 28) (.agg (nums 2 (two bP.x bP.y))) rfl rfl (by kernel_rfl) (by kernel_rfl) (by kernel_rfl) (fun qv => ym_other rfl rfl (fun L wx hT => ?_)) ?_
  · exact lands_load _ _ rfl _ rfl _ _ _ (hT.k.blk _ m1) Try.underlying26 rfl (by kernel_rfl) hT
  simp only [Act.put, List.setIfInBounds_toArray, List.set_cons_zero, List.set_cons_succ]
  refine anyE_take (i := 29) (.agg (nums 2 (two pZ.x pZ.y))) rfl rfl (by kernel_rfl) (by kernel_rfl) (by kernel_rfl) (fun qv => ym_other rfl rfl (fun L wx hT => ?_)) ?_
  · exact lands_calls (w := wx) ((mul_is (⟨#[]⟩) bP pZ base_on.ok k0.out wx).mono fun _ _ ⟨he, hb⟩ => ⟨he, hT.below hb⟩) (by go_simp)
  simp only [Act.put, List.setIfInBounds_toArray, List.set_cons_zero, List.set_cons_succ]
  refine anyE_take (i := 30) (.agg (nums 2 (two pZ.x pZ.y))) rfl rfl (by kernel_rfl) (by kernel_rfl) (by kernel_rfl) (fun qv => ym_other rfl rfl (fun L wx hT => ?_)) ?_
  · exact lands_calls (w := wx) ((qzero_any wx).mono fun _ _ ⟨he, hb⟩ => ⟨he, hT.below hb⟩) (by go_simp)
  simp only [Act.put, List.setIfInBounds_toArray, List.set_cons_zero, List.set_cons_succ]
  refine anyE_take (i := 31) (.bool true) rfl rfl (by kernel_rfl) (by kernel_rfl) (by kernel_rfl) (fun qv => ym_other rfl rfl (fun L wx hT => ?_)) ?_
  · exact lands_eqlP _ _ rfl pZ pZ rfl rfl pZ_on.ok pZ_on.ok true (eqP_iff.2 rfl) hT
  simp only [Act.put, List.setIfInBounds_toArray, List.set_cons_zero, List.set_cons_succ]
  refine anyE_take (i := 32) (.bool true) rfl rfl (by kernel_rfl) (by kernel_rfl) (by kernel_rfl) (fun qv => ym_other rfl rfl (fun L wx hT => ?_)) ?_
  · refine lands_value (w := wx) ?_ hT; go_simp <;> rfl
  simp only [Act.put, List.setIfInBounds_toArray, List.set_cons_zero, List.set_cons_succ]
  refine anyE_take (i := 33) (.bool true) rfl rfl (by kernel_rfl) (by kernel_rfl) (by kernel_rfl) (fun qv => ym_other rfl rfl (fun L wx hT => ?_)) ?_
  · refine lands_value (w := wx) ?_ hT; go_simp <;> rfl
  simp only [Act.put, List.setIfInBounds_toArray, List.set_cons_zero, List.set_cons_succ]
  refine anyE_take (i := 34) (.agg (nums 2 (two bP.x bP.y))) rfl rfl (by kernel_rfl) (by kernel_rfl) (by kernel_rfl) (fun qv => ym_other rfl rfl (fun L wx hT => ?_)) ?_
  · exact lands_load _ _ rfl _ rfl _ _ _ (hT.k.blk _ m1) Try.underlying26 rfl (by kernel_rfl) hT
  simp only [Act.put, List.setIfInBounds_toArray, List.set_cons_zero, List.set_cons_succ]
  refine anyE_take (i := 35) (.agg (nums 2 (two pZ.x pZ.y))) rfl rfl (by kernel_rfl) (by kernel_rfl) (by kernel_rfl) (fun qv => ym_other rfl rfl (fun L wx hT => ?_)) ?_
  · exact lands_calls (w := wx) ((mul_is (⟨#[0]⟩) bP pZ base_on.ok k00.out wx).mono fun _ _ ⟨he, hb⟩ => ⟨he, hT.below hb⟩) (by go_simp)
  simp only [Act.put, List.setIfInBounds_toArray, List.set_cons_zero, List.set_cons_succ]
  refine anyE_take (i := 36) (.agg (nums 2 (two pZ.x pZ.y))) rfl rfl (by kernel_rfl) (by kernel_rfl) (by kernel_rfl) (fun qv => ym_other rfl rfl (fun L wx hT => ?_)) ?_
  · exact lands_calls (w := wx) ((qzero_any wx).mono fun _ _ ⟨he, hb⟩ => ⟨he, hT.below hb⟩) (by go_simp)
  simp only [Act.put, List.setIfInBounds_toArray, List.set_cons_zero, List.set_cons_succ]
  refine anyE_take (i := 37) (.bool true) rfl rfl (by kernel_rfl) (by kernel_rfl) (by kernel_rfl) (fun qv => ym_other rfl rfl (fun L wx hT => ?_)) ?_
  · exact lands_eqlP _ _ rfl pZ pZ rfl rfl pZ_on.ok pZ_on.ok true (eqP_iff.2 rfl) hT
  simp only [Act.put, List.setIfInBounds_toArray, List.set_cons_zero, List.set_cons_succ]
  refine anyE_take (i := 38) (.bool true) rfl rfl (by kernel_rfl) (by kernel_rfl) (by kernel_rfl) (fun qv => ym_other rfl rfl (fun L wx hT => ?_)) ?_
  · refine lands_value (w := wx) ?_ hT; go_simp <;> rfl
  simp only [Act.put, List.setIfInBounds_toArray, List.set_cons_zero, List.set_cons_succ]
  refine anyE_take (i := 39) (.bool true) rfl rfl (by kernel_rfl) (by kernel_rfl) (by kernel_rfl) (fun qv => ym_other rfl rfl (fun L wx hT => ?_)) ?_
  · refine lands_value (w := wx) ?_ hT; go_simp <;> rfl
  simp only [Act.put, List.setIfInBounds_toArray, List.set_cons_zero, List.set_cons_succ]
  refine anyE_done (by kernel_rfl) (fun qv w54 hK => ?_) _
  have hE := hK.outs (by kernel_rfl) (by kernel_rfl)  (b := false) (c := false) (by kernel_rfl) (by kernel_rfl)
  clear hK h52 hn53
  have h54 : KD w.heap.size w [(g48, 5, r8 15 fun _ => (0 : BitVec 8)), (g45, 26, nums 2 (two bP.x bP.y)), (g40, 5, #[.int .u8 ((n % 256 : Nat) : Int), .int .u8 ((n / 256 % 256 : Nat) : Int), .int .u8 ((n / 65536 : Nat) : Int)]), (g22, 5, #[.int .u8 ((b % 256 : Nat) : Int), .int .u8 ((b / 256 : Nat) : Int)]), (g13, 5, #[.int .u8 ((a % 256 : Nat) : Int), .int .u8 ((a / 256 : Nat) : Int)])] w54 := hE.k
  clear hE
  clear n53
  clear qv
  repeat (first | (with_reducible apply wp_seq_k; intro _ _) | with_reducible apply wp_block | with_reducible apply wp_skip | with_reducible apply wp_exit | (go_at_K; go_step) | with_reducible apply then_normal | with_reducible apply then_exit | with_reducible apply block_normal | with_reducible apply block_same | with_reducible exact block_far rfl ?_)
  with_reducible apply wp_ret
  repeat (first | with_reducible apply then_ret | with_reducible apply block_ret)
  exact bodyPost_ret (results_tmp rfl _ _ _) rfl ⟨rfl, h54.b⟩
theorem sums_any (a b : Int) (ha : (Lit.int .u16 a).wf = true) (hb : (Lit.int .u16 b).wf = true) (w : World) :
    Calls Try.prog 7 #[.int .u16 a, .int .u16 b] w fun e w' => e = .returned (.bool true) ∧ Below w.heap.size w w' := by
  obtain ⟨k, rfl, hk⟩ := of_wf16 ha
  obtain ⟨m, rfl, hm⟩ := of_wf16 hb
  exact sums_nat k m hk hm w
end Go.Proofs.Ytehcigidjghddaa
