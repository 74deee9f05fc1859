/- PointDoubles: the walk. (written by mkQ6.py) -/
import Derived.Test.YtehcigidjghddaaQCl
import Derived.Test.YtehcigidjghddaaQsb
namespace Go.Proofs.Ytehcigidjghddaa
open Go.RowKit
set_option maxRecDepth 100000 in
set_option maxHeartbeats 4000000 in
theorem doubles_nat (a : ByteArray) (x y : Nat) (hx : x < 256) (hy : y < 256) (w : World) :
    Calls Try.prog 9 #[.string a, .int .u8 (x : Int), .int .u8 (y : Int)] w fun e w' => e = .returned (.bool true) ∧ Below w.heap.size w w' := by
  obtain ⟨P, hP⟩ : ∃ z, leastV a = z := ⟨_, rfl⟩
  have oP : onC P := hP ▸ pmul_on base_on _
  have cP := least_any a
  rw [hP] at cP
  have CP := Lib.hid cP
  clear cP
  obtain ⟨Y, hY⟩ : ∃ z, pmul P y = z := ⟨_, rfl⟩
  have oY : onC Y := hY ▸ pmul_on oP _
  obtain ⟨X, hX⟩ : ∃ z, pmul P (x * y) = z := ⟨_, rfl⟩
  have oX : onC X := hX ▸ pmul_on oP _
  obtain ⟨D, hD⟩ : ∃ z, pmul P 2 = z := ⟨_, rfl⟩
  have oD : onC D := hD ▸ pmul_on oP _
  obtain ⟨Z, hZ⟩ : ∃ z, pmul P x = z := ⟨_, rfl⟩
  have oZ : onC Z := hZ ▸ pmul_on oP _
  obtain ⟨W, hW⟩ : ∃ z, pneg Z = z := ⟨_, rfl⟩
  have oW : onC W := hW ▸ pneg_on oZ
  obtain ⟨N, hN⟩ : ∃ z, pneg P = z := ⟨_, rfl⟩
  have oN : onC N := hN ▸ pneg_on oP
  have hxy : x * y < 65536 := Nat.lt_of_le_of_lt (Nat.mul_le_mul (show x ≤ 255 by omega) (show y ≤ 255 by omega)) (by decide)
  have mY : Hid (pmul (cnt P) (numV (oneB y) 32) = Y) := Lib.hid (by rw [cnt_C' oP, num_one y hy, hY])
  have mX : Hid (pmul (cnt Y) (numV (oneB x) 32) = X) := Lib.hid (by rw [cnt_C' oY, num_one x hx, ← hY, pmul_mul oP, hX])
  have mD : Hid (pmul (cnt P) (numV ⟨#[2]⟩ 32) = D) := Lib.hid (by rw [cnt_C' oP, show numV ⟨#[2]⟩ 32 = 2 from rfl, hD])
  have aD : Hid (padd (cnt P) (cnt P) = D) := Lib.hid (by rw [cnt_C' oP, ← hD]; have h1 := pmul_two oP 1; rwa [pmul_one oP] at h1)
  have mX2 : Hid (pmul (cnt P) (numV (twoB (x * y % 256) (x * y / 256)) 32) = X) := Lib.hid (by rw [cnt_C' oP, num_two _ _ (by omega) (by omega), show x * y % 256 + 256 * (x * y / 256) = x * y by omega, hX])
  have mZ : Hid (pmul (cnt P) (numV (oneB x) 32) = Z) := Lib.hid (by rw [cnt_C' oP, num_one x hx, hZ])
  have nW : Hid (pneg (cnt Z) = W) := Lib.hid (by rw [cnt_C' oZ, hW])
  have nN : Hid (pneg (cnt P) = N) := Lib.hid (by rw [cnt_C' oP, hN])
  have mW : Hid (pmul (cnt N) (numV (oneB x) 32) = W) := Lib.hid (by rw [cnt_C' oN, num_one x hx, ← hN, pmul_neg oP, hZ, hW])
  clear hP hY hX hD hZ hW hN
  obtain ⟨n, hn⟩ : ∃ n, n = x * y := ⟨_, rfl⟩
  have hnI : (x : Int) * y = (n : Int) := by rw [hn]; exact (Int.natCast_mul x y).symm
  rw [← hn] at hxy mX2
  clear hn
  go_enter Try.func9, Try.ntmps9
  repeat (first | (with_reducible apply wp_seq_k; intro _ _) | with_reducible apply wp_block | with_reducible apply wp_skip | with_reducible apply wp_exit | (go_at_K; go_step) | with_reducible apply then_normal | with_reducible apply then_exit | with_reducible apply block_normal | with_reducible apply block_same | with_reducible exact block_far rfl ?_)
  have h1 := KD.begin w
  with_reducible apply wp_region_lit
  refine wpList_val (R := KD w.heap.size w []) (.bool false) rfl (by refine lands_value (w := w) ?_ h1; go_simp <;> rfl) ?_
  intro w2 h2
  simp only [Act.put, List.setIfInBounds_toArray, List.set_cons_zero, List.set_cons_succ]
  clear h1
  refine wpList_nil ?_
  repeat (first | (with_reducible apply wp_seq_k; intro _ _) | with_reducible apply wp_block | with_reducible apply wp_skip | with_reducible apply wp_exit | (go_at_K; go_step) | with_reducible apply then_normal | with_reducible apply then_exit | with_reducible apply block_normal | with_reducible apply block_same | with_reducible exact block_far rfl ?_)
  with_reducible apply wp_region_lit
  refine wpList_val (R := KD w.heap.size w []) (.bool true) rfl (by exact lands_calls (w := w2) ((examples_any w2).mono fun _ _ ⟨he, hb⟩ => ⟨he, h2.below hb⟩) (by go_simp)) ?_
  intro w3 h3
  simp only [Act.put, List.setIfInBounds_toArray, List.set_cons_zero, List.set_cons_succ]
  clear h2
  refine wpList_val (R := KD w.heap.size w []) (.bool true) rfl (by refine lands_value (w := w3) ?_ h3; go_simp <;> rfl) ?_
  intro w4 h4
  simp only [Act.put, List.setIfInBounds_toArray, List.set_cons_zero, List.set_cons_succ]
  clear h3
  refine wpList_nil ?_
  repeat (first | (with_reducible apply wp_seq_k; intro _ _) | with_reducible apply wp_block | with_reducible apply wp_skip | with_reducible apply wp_exit | (go_at_K; go_step) | with_reducible apply then_normal | with_reducible apply then_exit | with_reducible apply block_normal | with_reducible apply block_same | with_reducible exact block_far rfl ?_)
  with_reducible apply wp_region_lit
  refine wpList_val (R := KD w.heap.size w []) (.bool true) rfl (by refine lands_value (w := w4) ?_ h4; go_simp <;> rfl) ?_
  intro w5 h5
  simp only [Act.put, List.setIfInBounds_toArray, List.set_cons_zero, List.set_cons_succ]
  clear h4
  refine wpList_val (R := KD w.heap.size w []) (.bool false) rfl (by refine lands_value (w := w5) ?_ h5; go_simp <;> rfl) ?_
  intro w6 h6
  simp only [Act.put, List.setIfInBounds_toArray, List.set_cons_zero, List.set_cons_succ]
  clear h5
  refine wpList_nil ?_
  repeat (first | (with_reducible apply wp_seq_k; intro _ _) | with_reducible apply wp_block | with_reducible apply wp_skip | with_reducible apply wp_exit | (go_at_K; go_step) | with_reducible apply then_normal | with_reducible apply then_exit | with_reducible apply block_normal | with_reducible apply block_same | with_reducible exact block_far rfl ?_)
  refine wp_cond_false rfl ?_
  repeat (first | (with_reducible apply wp_seq_k; intro _ _) | with_reducible apply wp_block | with_reducible apply wp_skip | with_reducible apply wp_exit | (go_at_K; go_step) | with_reducible apply then_normal | with_reducible apply then_exit | with_reducible apply block_normal | with_reducible apply block_same | with_reducible exact block_far rfl ?_)
  with_reducible apply wp_region_lit
  refine wpList_val (R := KD w.heap.size w []) (.string a) rfl (by refine lands_value (w := w6) ?_ h6; go_simp <;> rfl) ?_
  intro w7 h7
  simp only [Act.put, List.setIfInBounds_toArray, List.set_cons_zero, List.set_cons_succ]
  clear h6
  refine wpList_val (R := KD w.heap.size w []) (.agg (nums 2 (two P.x P.y))) rfl (by exact lands_calls (w := w7) ((CP.out w7).mono fun _ _ ⟨he, hb⟩ => ⟨he, h7.below hb⟩) (by go_simp)) ?_
  intro w8 h8
  simp only [Act.put, List.setIfInBounds_toArray, List.set_cons_zero, List.set_cons_succ]
  clear h7
  refine wpList_val (R := KD w.heap.size w [(w8.heap.size, 26, nums 2 (two 0 0))]) (.pointer (some ⟨w8.heap.size, 0, none⟩)) rfl (lands_run2 (alloc_run _ _ rfl zero_pt _) (h8.add _ _)) ?_
  intro w9 h9
  simp only [Act.put, List.setIfInBounds_toArray, List.set_cons_zero, List.set_cons_succ]
  clear h8
  generalize w8.heap.size = g10 at h9 ⊢
  refine wpList_val (R := KD w.heap.size w [(g10, 26, nums 2 (two P.x P.y))]) undef rfl (lands_store _ _ _ rfl g10 (nums 2 (two P.x P.y)) rfl rfl _ _ (h9.blk _ m0) (by kernel_rfl) (by kernel_rfl) (row_one fun _ => rfl) (h9.put (k := 0) rfl _)) ?_
  intro w11 h11
  simp only [Act.put]
  clear h9
  refine wpList_nil ?_
  repeat (first | (with_reducible apply wp_seq_k; intro _ _) | with_reducible apply wp_block | with_reducible apply wp_skip | with_reducible apply wp_exit | (go_at_K; go_step) | with_reducible apply then_normal | with_reducible apply then_exit | with_reducible apply block_normal | with_reducible apply block_same | with_reducible exact block_far rfl ?_)
  with_reducible apply wp_region_lit
  refine wpList_val (R := KD w.heap.size w [(g10, 26, nums 2 (two P.x P.y))]) (.int .u8 (x : Int)) rfl (by refine lands_value (w := w11) ?_ h11; go_simp <;> rfl) ?_
  intro w12 h12
  simp only [Act.put, List.setIfInBounds_toArray, List.set_cons_zero, List.set_cons_succ]
  clear h11
  refine wpList_val (R := KD w.heap.size w [(g10, 26, nums 2 (two P.x P.y))]) (.int .i64 (x : Int)) rfl (by refine lands_value (w := w12) ?_ h12; go_simp; exact IntWalk.i64_in _ (by omega)) ?_
  intro w13 h13
  simp only [Act.put, List.setIfInBounds_toArray, List.set_cons_zero, List.set_cons_succ]
  clear h12
  refine wpList_val (R := KD w.heap.size w [(g10, 26, nums 2 (two P.x P.y))]) (.int .u8 (y : Int)) rfl (by refine lands_value (w := w13) ?_ h13; go_simp <;> rfl) ?_
  intro w14 h14
  simp only [Act.put, List.setIfInBounds_toArray, List.set_cons_zero, List.set_cons_succ]
  clear h13
  refine wpList_val (R := KD w.heap.size w [(g10, 26, nums 2 (two P.x P.y))]) (.int .i64 (y : Int)) rfl (by refine lands_value (w := w14) ?_ h14; go_simp; exact IntWalk.i64_in _ (by omega)) ?_
  intro w15 h15
  simp only [Act.put, List.setIfInBounds_toArray, List.set_cons_zero, List.set_cons_succ]
  clear h14
  refine wpList_val (R := KD w.heap.size w [(g10, 26, nums 2 (two P.x P.y))]) (.int .i64 (n : Int)) rfl (by refine lands_value (w := w15) ?_ h15; go_simp; rw [IntWalk.i64_in _ (by omega)]) ?_
  intro w16 h16
  simp only [Act.put, List.setIfInBounds_toArray, List.set_cons_zero, List.set_cons_succ]
  clear h15
  refine wpList_val (R := KD w.heap.size w [(g10, 26, nums 2 (two P.x P.y))]) (.int .i64 (n : Int)) rfl (by refine lands_value (w := w16) ?_ h16; go_simp <;> rfl) ?_
  intro w17 h17
  simp only [Act.put, List.setIfInBounds_toArray, List.set_cons_zero, List.set_cons_succ]
  clear h16
  refine wpList_nil ?_
  repeat (first | (with_reducible apply wp_seq_k; intro _ _) | with_reducible apply wp_block | with_reducible apply wp_skip | with_reducible apply wp_exit | (go_at_K; go_step) | with_reducible apply then_normal | with_reducible apply then_exit | with_reducible apply block_normal | with_reducible apply block_same | with_reducible exact block_far rfl ?_)
  obtain ⟨n18, hn18⟩ : ∃ n, n = w17.heap.size := ⟨_, rfl⟩
  refine wp_region_anyE (KM w.heap.size n18 w (fun _ _ => [(g10, 26, nums 2 (two P.x P.y))]) 1000 1001 [⟨1, 2000, 5, #[.int .u8 (x : Int)], #[.int .u8 (x : Int)], (fun g => .slice (some ⟨g, 0, none⟩) 1 1)⟩, ⟨4, 2001, 5, #[.int .u8 (y : Int)], #[.int .u8 (y : Int)], (fun g => .slice (some ⟨g, 0, none⟩) 1 1)⟩, ⟨9, 10, 26, nums 2 (two 0 0), nums 2 (two X.x X.y), ptr⟩]) (fun i => i == 1 || i == 4 || i == 9) (by kernel_rfl) (KM.begin h17 hn18 (lows hn18 h17 (fun _ _ => rfl)) _) ?_
  refine anyE_take (i := 0) (.int .u8 (x : Int)) rfl rfl (by kernel_rfl) (by kernel_rfl) (by kernel_rfl) (fun qv => ym_other rfl rfl (fun L wx hT => ?_)) ?_
  · refine lands_value (w := wx) ?_ hT; go_simp <;> rfl
  simp only [Act.put, List.setIfInBounds_toArray, List.set_cons_zero, List.set_cons_succ]
  refine anyE_made (i := 1) rfl rfl (by kernel_rfl) (by kernel_rfl) (by kernel_rfl) (fun qv => ym_made (n := 9) ⟨1, 2000, 5, #[.int .u8 (x : Int)], #[.int .u8 (x : Int)], (fun g => .slice (some ⟨g, 0, none⟩) 1 1)⟩ (by kernel_rfl) m0 (.inr (by simp)) rfl (fun w => by go_simp)) ?_
  simp only [Act.put, List.setIfInBounds_toArray, List.set_cons_zero, List.set_cons_succ]
  refine anyE_take (i := 2) (.string (oneB x)) rfl rfl (by kernel_rfl) (by kernel_rfl) (by kernel_rfl) (fun qv => ym_behind ⟨1, 2000, 5, #[.int .u8 (x : Int)], #[.int .u8 (x : Int)], (fun g => .slice (some ⟨g, 0, none⟩) 1 1)⟩ m0 rfl (by kernel_rfl) (by simp) rfl (fun L wx g hq hb hT => ?_)) ?_
  · exact lands_convert _ _ _ rfl hq (one_back _ hx hb) hT
  simp only [Act.put, List.setIfInBounds_toArray, List.set_cons_zero, List.set_cons_succ]
  refine anyE_take (i := 3) (.int .u8 (y : Int)) rfl rfl (by kernel_rfl) (by kernel_rfl) (by kernel_rfl) (fun qv => ym_other rfl rfl (fun L wx hT => ?_)) ?_
  · refine lands_value (w := wx) ?_ hT; go_simp <;> rfl
  simp only [Act.put, List.setIfInBounds_toArray, List.set_cons_zero, List.set_cons_succ]
  refine anyE_made (i := 4) rfl rfl (by kernel_rfl) (by kernel_rfl) (by kernel_rfl) (fun qv => ym_made (n := 9) ⟨4, 2001, 5, #[.int .u8 (y : Int)], #[.int .u8 (y : Int)], (fun g => .slice (some ⟨g, 0, none⟩) 1 1)⟩ (by kernel_rfl) m1 (.inr (by simp)) rfl (fun w => by go_simp)) ?_
  simp only [Act.put, List.setIfInBounds_toArray, List.set_cons_zero, List.set_cons_succ]
  refine anyE_take (i := 5) (.string (oneB y)) rfl rfl (by kernel_rfl) (by kernel_rfl) (by kernel_rfl) (fun qv => ym_behind ⟨4, 2001, 5, #[.int .u8 (y : Int)], #[.int .u8 (y : Int)], (fun g => .slice (some ⟨g, 0, none⟩) 1 1)⟩ m1 rfl (by kernel_rfl) (by simp) rfl (fun L wx g hq hb hT => ?_)) ?_
  · exact lands_convert _ _ _ rfl hq (one_back _ hy hb) hT
  simp only [Act.put, List.setIfInBounds_toArray, List.set_cons_zero, List.set_cons_succ]
  refine anyE_take (i := 6) (.agg (nums 2 (two P.x P.y))) rfl rfl (by kernel_rfl) (by kernel_rfl) (by kernel_rfl) (fun qv => ym_other rfl rfl (fun L wx hT => ?_)) ?_
  · exact lands_load _ _ rfl _ rfl _ _ _ (hT.k.blk _ m0) Try.underlying26 rfl (by kernel_rfl) hT
  simp only [Act.put, List.setIfInBounds_toArray, List.set_cons_zero, List.set_cons_succ]
  refine anyE_take (i := 7) (.agg (nums 2 (two Y.x Y.y))) rfl rfl (by kernel_rfl) (by kernel_rfl) (by kernel_rfl) (fun qv => ym_other rfl rfl (fun L wx hT => ?_)) ?_
  · exact lands_calls (w := wx) ((mul_is (oneB y) P Y oP.ok mY.out wx).mono fun _ _ ⟨he, hb⟩ => ⟨he, hT.below hb⟩) (by go_simp)
  simp only [Act.put, List.setIfInBounds_toArray, List.set_cons_zero, List.set_cons_succ]
  refine anyE_take (i := 8) (.agg (nums 2 (two X.x X.y))) rfl rfl (by kernel_rfl) (by kernel_rfl) (by kernel_rfl) (fun qv => ym_other rfl rfl (fun L wx hT => ?_)) ?_
  · exact lands_calls (w := wx) ((mul_is (oneB x) Y X oY.ok mX.out wx).mono fun _ _ ⟨he, hb⟩ => ⟨he, hT.below hb⟩) (by go_simp)
  simp only [Act.put, List.setIfInBounds_toArray, List.set_cons_zero, List.set_cons_succ]
  refine anyE_made (i := 9) rfl rfl (by kernel_rfl) (by kernel_rfl) (by kernel_rfl) (fun qv => ym_made (n := 9) ⟨9, 10, 26, nums 2 (two 0 0), nums 2 (two X.x X.y), ptr⟩ (by kernel_rfl) m2 (.inl (show waits .any _ 9 10 9 = true from (by kernel_rfl))) rfl (alloc_run _ _ rfl zero_pt)) ?_
  simp only [Act.put, List.setIfInBounds_toArray, List.set_cons_zero, List.set_cons_succ]
  refine anyE_take (i := 10) undef rfl rfl (by kernel_rfl) (by kernel_rfl) (by kernel_rfl) (fun qv => ym_stored ⟨9, 10, 26, nums 2 (two 0 0), nums 2 (two X.x X.y), ptr⟩ _ _ _ (by kernel_rfl) m2 rfl (by kernel_rfl) rfl rfl rfl rfl (by kernel_rfl) (by kernel_rfl) (row_one fun _ => rfl)) ?_
  simp only [Act.put]
  refine anyE_done (by kernel_rfl) (fun qv w19 hK => ?_) _
  have hE := hK.out (by kernel_rfl) (by kernel_rfl) (fun x hx hge => by simp only [List.mem_cons, List.not_mem_nil, or_false] at hx; (try rcases hx with rfl | rfl | rfl) <;> first | rfl | (simp at hge)) (b := false) (c := false) (by kernel_rfl) (by kernel_rfl)
  clear hK h17 hn18
  obtain ⟨g20, eg20, hE'⟩ := hE.next
  clear hE
  replace eg20 : qv 1 = .slice (some ⟨g20, 0, none⟩) 1 1 := eg20
  obtain ⟨g21, eg21, hE''⟩ := hE'.next
  clear hE'
  replace eg21 : qv 4 = .slice (some ⟨g21, 0, none⟩) 1 1 := eg21
  obtain ⟨g22, eg22, hE'''⟩ := hE''.next
  clear hE''
  replace eg22 : qv 9 = .pointer (some ⟨g22, 0, none⟩) := eg22
  have h19 : KD w.heap.size w [(g22, 26, nums 2 (two X.x X.y)), (g21, 5, #[.int .u8 (y : Int)]), (g20, 5, #[.int .u8 (x : Int)]), (g10, 26, nums 2 (two P.x P.y))] w19 := hE'''.k
  clear hE'''
  clear n18
  rw [eg20, eg21, eg22]
  clear eg20 eg21 eg22
  clear qv
  repeat (first | (with_reducible apply wp_seq_k; intro _ _) | with_reducible apply wp_block | with_reducible apply wp_skip | with_reducible apply wp_exit | (go_at_K; go_step) | with_reducible apply then_normal | with_reducible apply then_exit | with_reducible apply block_normal | with_reducible apply block_same | with_reducible exact block_far rfl ?_)
  obtain ⟨n23, hn23⟩ : ∃ n, n = w19.heap.size := ⟨_, rfl⟩
  refine wp_region_anyE (KM w.heap.size n23 w (fun _ _ => [(g22, 26, nums 2 (two X.x X.y)), (g21, 5, #[.int .u8 (y : Int)]), (g20, 5, #[.int .u8 (x : Int)]), (g10, 26, nums 2 (two P.x P.y))]) 1000 1001 [⟨16, 2000, 5, #[.int .u8 ((n % 256 : Nat) : Int), .int .u8 ((n / 256 : Nat) : Int)], #[.int .u8 ((n % 256 : Nat) : Int), .int .u8 ((n / 256 : Nat) : Int)], (fun g => .slice (some ⟨g, 0, none⟩) 2 2)⟩, ⟨24, 2001, 5, #[.int .u8 (x : Int)], #[.int .u8 (x : Int)], (fun g => .slice (some ⟨g, 0, none⟩) 1 1)⟩, ⟨30, 2002, 5, #[.int .u8 (x : Int)], #[.int .u8 (x : Int)], (fun g => .slice (some ⟨g, 0, none⟩) 1 1)⟩]) (fun i => i == 16 || i == 24 || i == 30) (by kernel_rfl) (KM.begin h19 hn23 (lows hn23 h19 (fun _ _ => rfl)) _) ?_
  refine anyE_take (i := 0) (.bool true) rfl rfl (by kernel_rfl) (by kernel_rfl) (by kernel_rfl) (fun qv => ym_other rfl rfl (fun L wx hT => ?_)) ?_
  · refine lands_value (w := wx) ?_ hT; go_simp <;> rfl
  simp only [Act.put, List.setIfInBounds_toArray, List.set_cons_zero, List.set_cons_succ]
  refine anyE_take (i := 1) (.bool true) rfl rfl (by kernel_rfl) (by kernel_rfl) (by kernel_rfl) (fun qv => ym_other rfl rfl (fun L wx hT => ?_)) ?_
  · refine lands_value (w := wx) ?_ hT; go_simp <;> rfl
  simp only [Act.put, List.setIfInBounds_toArray, List.set_cons_zero, List.set_cons_succ]
  refine anyE_take (i := 2) (.agg (nums 2 (two P.x P.y))) rfl rfl (by kernel_rfl) (by kernel_rfl) (by kernel_rfl) (fun qv => ym_other rfl rfl (fun L wx hT => ?_)) ?_
  · exact lands_load _ _ rfl _ rfl _ _ _ (hT.k.blk _ m3) Try.underlying26 rfl (by kernel_rfl) hT
  simp only [Act.put, List.setIfInBounds_toArray, List.set_cons_zero, List.set_cons_succ]
  refine anyE_take (i := 3) (.agg (nums 2 (two D.x D.y))) rfl rfl (by kernel_rfl) (by kernel_rfl) (by kernel_rfl) (fun qv => ym_other rfl rfl (fun L wx hT => ?_)) ?_
  · exact lands_calls (w := wx) ((mul_is (⟨#[2]⟩) P D oP.ok mD.out wx).mono fun _ _ ⟨he, hb⟩ => ⟨he, hT.below hb⟩) (by go_simp)
  simp only [Act.put, List.setIfInBounds_toArray, List.set_cons_zero, List.set_cons_succ]
  refine anyE_take (i := 4) (.agg (nums 2 (two P.x P.y))) rfl rfl (by kernel_rfl) (by kernel_rfl) (by kernel_rfl) (fun qv => ym_other rfl rfl (fun L wx hT => ?_)) ?_
  · exact lands_load _ _ rfl _ rfl _ _ _ (hT.k.blk _ m3) Try.underlying26 rfl (by kernel_rfl) hT
  simp only [Act.put, List.setIfInBounds_toArray, List.set_cons_zero, List.set_cons_succ]
  refine anyE_take (i := 5) (.agg (nums 2 (two P.x P.y))) rfl rfl (by kernel_rfl) (by kernel_rfl) (by kernel_rfl) (fun qv => ym_other rfl rfl (fun L wx hT => ?_)) ?_
  · exact lands_load _ _ rfl _ rfl _ _ _ (hT.k.blk _ m3) Try.underlying26 rfl (by kernel_rfl) hT
  simp only [Act.put, List.setIfInBounds_toArray, List.set_cons_zero, List.set_cons_succ]
  refine anyE_take (i := 6) (.agg (nums 2 (two D.x D.y))) rfl rfl (by kernel_rfl) (by kernel_rfl) (by kernel_rfl) (fun qv => ym_other rfl rfl (fun L wx hT => ?_)) ?_
  · exact lands_calls (w := wx) ((add_is P P D oP.ok oP.ok aD.out wx).mono fun _ _ ⟨he, hb⟩ => ⟨he, hT.below hb⟩) (by go_simp)
  simp only [Act.put, List.setIfInBounds_toArray, List.set_cons_zero, List.set_cons_succ]
  refine anyE_take (i := 7) (.bool true) rfl rfl (by kernel_rfl) (by kernel_rfl) (by kernel_rfl) (fun qv => ym_other rfl rfl (fun L wx hT => ?_)) ?_
  · exact lands_eqlP _ _ rfl D D rfl rfl oD.ok oD.ok true (eqP_iff.2 rfl) hT
  simp only [Act.put, List.setIfInBounds_toArray, List.set_cons_zero, List.set_cons_succ]
  refine anyE_take (i := 8) (.bool true) rfl rfl (by kernel_rfl) (by kernel_rfl) (by kernel_rfl) (fun qv => ym_other rfl rfl (fun L wx hT => ?_)) ?_
  · refine lands_value (w := wx) ?_ hT; go_simp <;> rfl
  simp only [Act.put, List.setIfInBounds_toArray, List.set_cons_zero, List.set_cons_succ]
  refine anyE_take (i := 9) (.bool true) rfl rfl (by kernel_rfl) (by kernel_rfl) (by kernel_rfl) (fun qv => ym_other rfl rfl (fun L wx hT => ?_)) ?_
  · refine lands_value (w := wx) ?_ hT; go_simp <;> rfl
  simp only [Act.put, List.setIfInBounds_toArray, List.set_cons_zero, List.set_cons_succ]
  refine anyE_take (i := 10) (.agg (nums 2 (two X.x X.y))) rfl rfl (by kernel_rfl) (by kernel_rfl) (by kernel_rfl) (fun qv => ym_other rfl rfl (fun L wx hT => ?_)) ?_
  · exact lands_load _ _ rfl _ rfl _ _ _ (hT.k.blk _ m0) Try.underlying26 rfl (by kernel_rfl) hT
  simp only [Act.put, List.setIfInBounds_toArray, List.set_cons_zero, List.set_cons_succ]
  refine anyE_take (i := 11) (.int .i64 (n : Int)) rfl rfl (by kernel_rfl) (by kernel_rfl) (by kernel_rfl) (fun qv => ym_other rfl rfl (fun L wx hT => ?_)) ?_
  · refine lands_value (w := wx) ?_ hT; go_simp <;> rfl
  simp only [Act.put, List.setIfInBounds_toArray, List.set_cons_zero, List.set_cons_succ]
  refine anyE_take (i := 12) (.int .u8 ((n % 256 : Nat) : Int)) rfl rfl (by kernel_rfl) (by kernel_rfl) (by kernel_rfl) (fun qv => ym_other rfl rfl (fun L wx hT => ?_)) ?_
  · refine lands_value (w := wx) ?_ hT; go_simp; rw [IntKind.wrap_u8]
  simp only [Act.put, List.setIfInBounds_toArray, List.set_cons_zero, List.set_cons_succ]
  refine anyE_take (i := 13) (.int .i64 (n : Int)) rfl rfl (by kernel_rfl) (by kernel_rfl) (by kernel_rfl) (fun qv => ym_other rfl rfl (fun L wx hT => ?_)) ?_
  · refine lands_value (w := wx) ?_ hT; go_simp <;> rfl
  simp only [Act.put, List.setIfInBounds_toArray, List.set_cons_zero, List.set_cons_succ]
  refine anyE_take (i := 14) (.int .i64 ((n / 256 : Nat) : Int)) rfl rfl (by kernel_rfl) (by kernel_rfl) (by kernel_rfl) (fun qv => ym_other rfl rfl (fun L wx hT => ?_)) ?_
  · refine lands_value (w := wx) ?_ hT; go_simp
  simp only [Act.put, List.setIfInBounds_toArray, List.set_cons_zero, List.set_cons_succ]
  refine anyE_take (i := 15) (.int .u8 ((n / 256 : Nat) : Int)) rfl rfl (by kernel_rfl) (by kernel_rfl) (by kernel_rfl) (fun qv => ym_other rfl rfl (fun L wx hT => ?_)) ?_
  · refine lands_value (w := wx) ?_ hT; go_simp; rw [IntKind.wrap_u8]; omega
  simp only [Act.put, List.setIfInBounds_toArray, List.set_cons_zero, List.set_cons_succ]
  refine anyE_made (i := 16) rfl rfl (by kernel_rfl) (by kernel_rfl) (by kernel_rfl) (fun qv => ym_made (n := 9) ⟨16, 2000, 5, #[.int .u8 ((n % 256 : Nat) : Int), .int .u8 ((n / 256 : Nat) : Int)], #[.int .u8 ((n % 256 : Nat) : Int), .int .u8 ((n / 256 : Nat) : Int)], (fun g => .slice (some ⟨g, 0, none⟩) 2 2)⟩ (by kernel_rfl) m0 (.inr (by simp)) rfl (fun w => by go_simp)) ?_
  simp only [Act.put, List.setIfInBounds_toArray, List.set_cons_zero, List.set_cons_succ]
  refine anyE_take (i := 17) (.string (twoB (n % 256) (n / 256))) rfl rfl (by kernel_rfl) (by kernel_rfl) (by kernel_rfl) (fun qv => ym_behind ⟨16, 2000, 5, #[.int .u8 ((n % 256 : Nat) : Int), .int .u8 ((n / 256 : Nat) : Int)], #[.int .u8 ((n % 256 : Nat) : Int), .int .u8 ((n / 256 : Nat) : Int)], (fun g => .slice (some ⟨g, 0, none⟩) 2 2)⟩ m0 rfl (by kernel_rfl) (by simp) rfl (fun L wx g hq hb hT => ?_)) ?_
  · exact lands_convert _ _ _ rfl hq (two_back _ _ (by omega) (by omega) hb) hT
  simp only [Act.put, List.setIfInBounds_toArray, List.set_cons_zero, List.set_cons_succ]
  refine anyE_take (i := 18) (.agg (nums 2 (two P.x P.y))) rfl rfl (by kernel_rfl) (by kernel_rfl) (by kernel_rfl) (fun qv => ym_other rfl rfl (fun L wx hT => ?_)) ?_
  · exact lands_load _ _ rfl _ rfl _ _ _ (hT.k.blk _ m3) Try.underlying26 rfl (by kernel_rfl) hT
  simp only [Act.put, List.setIfInBounds_toArray, List.set_cons_zero, List.set_cons_succ]
  refine anyE_take (i := 19) (.agg (nums 2 (two X.x X.y))) rfl rfl (by kernel_rfl) (by kernel_rfl) (by kernel_rfl) (fun qv => ym_other rfl rfl (fun L wx hT => ?_)) ?_
  · exact lands_calls (w := wx) ((mul_is (twoB (n % 256) (n / 256)) P X oP.ok mX2.out wx).mono fun _ _ ⟨he, hb⟩ => ⟨he, hT.below hb⟩) (by go_simp)
  simp only [Act.put, List.setIfInBounds_toArray, List.set_cons_zero, List.set_cons_succ]
  refine anyE_take (i := 20) (.bool true) rfl rfl (by kernel_rfl) (by kernel_rfl) (by kernel_rfl) (fun qv => ym_other rfl rfl (fun L wx hT => ?_)) ?_
  · exact lands_eqlP _ _ rfl X X rfl rfl oX.ok oX.ok true (eqP_iff.2 rfl) hT
  simp only [Act.put, List.setIfInBounds_toArray, List.set_cons_zero, List.set_cons_succ]
  refine anyE_take (i := 21) (.bool true) rfl rfl (by kernel_rfl) (by kernel_rfl) (by kernel_rfl) (fun qv => ym_other rfl rfl (fun L wx hT => ?_)) ?_
  · refine lands_value (w := wx) ?_ hT; go_simp <;> rfl
  simp only [Act.put, List.setIfInBounds_toArray, List.set_cons_zero, List.set_cons_succ]
  refine anyE_take (i := 22) (.bool true) rfl rfl (by kernel_rfl) (by kernel_rfl) (by kernel_rfl) (fun qv => ym_other rfl rfl (fun L wx hT => ?_)) ?_
  · refine lands_value (w := wx) ?_ hT; go_simp <;> rfl
  simp only [Act.put, List.setIfInBounds_toArray, List.set_cons_zero, List.set_cons_succ]
  refine anyE_take (i := 23) (.int .u8 (x : Int)) rfl rfl (by kernel_rfl) (by kernel_rfl) (by kernel_rfl) (fun qv => ym_other rfl rfl (fun L wx hT => ?_)) ?_
  · refine lands_value (w := wx) ?_ hT; go_simp <;> rfl
  simp only [Act.put, List.setIfInBounds_toArray, List.set_cons_zero, List.set_cons_succ]
  refine anyE_made (i := 24) rfl rfl (by kernel_rfl) (by kernel_rfl) (by kernel_rfl) (fun qv => ym_made (n := 9) ⟨24, 2001, 5, #[.int .u8 (x : Int)], #[.int .u8 (x : Int)], (fun g => .slice (some ⟨g, 0, none⟩) 1 1)⟩ (by kernel_rfl) m1 (.inr (by simp)) rfl (fun w => by go_simp)) ?_
  simp only [Act.put, List.setIfInBounds_toArray, List.set_cons_zero, List.set_cons_succ]
  refine anyE_take (i := 25) (.string (oneB x)) rfl rfl (by kernel_rfl) (by kernel_rfl) (by kernel_rfl) (fun qv => ym_behind ⟨24, 2001, 5, #[.int .u8 (x : Int)], #[.int .u8 (x : Int)], (fun g => .slice (some ⟨g, 0, none⟩) 1 1)⟩ m1 rfl (by kernel_rfl) (by simp) rfl (fun L wx g hq hb hT => ?_)) ?_
  · exact lands_convert _ _ _ rfl hq (one_back _ hx hb) hT
  simp only [Act.put, List.setIfInBounds_toArray, List.set_cons_zero, List.set_cons_succ]
  refine anyE_take (i := 26) (.agg (nums 2 (two P.x P.y))) rfl rfl (by kernel_rfl) (by kernel_rfl) (by kernel_rfl) (fun qv => ym_other rfl rfl (fun L wx hT => ?_)) ?_
  · exact lands_load _ _ rfl _ rfl _ _ _ (hT.k.blk _ m3) Try.underlying26 rfl (by kernel_rfl) hT
  simp only [Act.put, List.setIfInBounds_toArray, List.set_cons_zero, List.set_cons_succ]
  refine anyE_take (i := 27) (.agg (nums 2 (two Z.x Z.y))) rfl rfl (by kernel_rfl) (by kernel_rfl) (by kernel_rfl) (fun qv => ym_other rfl rfl (fun L wx hT => ?_)) ?_
  · exact lands_calls (w := wx) ((mul_is (oneB x) P Z oP.ok mZ.out wx).mono fun _ _ ⟨he, hb⟩ => ⟨he, hT.below hb⟩) (by go_simp)
  simp only [Act.put, List.setIfInBounds_toArray, List.set_cons_zero, List.set_cons_succ]
  refine anyE_take (i := 28) (.agg (nums 2 (two W.x W.y))) rfl rfl (by kernel_rfl) (by kernel_rfl) (by kernel_rfl) (fun qv => ym_other rfl rfl (fun L wx hT => ?_)) ?_
  · exact lands_calls (w := wx) ((neg_is Z W oZ.ok nW.out wx).mono fun _ _ ⟨he, hb⟩ => ⟨he, hT.below hb⟩) (by go_simp)
  simp only [Act.put, List.setIfInBounds_toArray, List.set_cons_zero, List.set_cons_succ]
  refine anyE_take (i := 29) (.int .u8 (x : Int)) rfl rfl (by kernel_rfl) (by kernel_rfl) (by kernel_rfl) (fun qv => ym_other rfl rfl (fun L wx hT => ?_)) ?_
  · refine lands_value (w := wx) ?_ hT; go_simp <;> rfl
  simp only [Act.put, List.setIfInBounds_toArray, List.set_cons_zero, List.set_cons_succ]
  refine anyE_made (i := 30) rfl rfl (by kernel_rfl) (by kernel_rfl) (by kernel_rfl) (fun qv => ym_made (n := 9) ⟨30, 2002, 5, #[.int .u8 (x : Int)], #[.int .u8 (x : Int)], (fun g => .slice (some ⟨g, 0, none⟩) 1 1)⟩ (by kernel_rfl) m2 (.inr (by simp)) rfl (fun w => by go_simp)) ?_
  simp only [Act.put, List.setIfInBounds_toArray, List.set_cons_zero, List.set_cons_succ]
  refine anyE_take (i := 31) (.string (oneB x)) rfl rfl (by kernel_rfl) (by kernel_rfl) (by kernel_rfl) (fun qv => ym_behind ⟨30, 2002, 5, #[.int .u8 (x : Int)], #[.int .u8 (x : Int)], (fun g => .slice (some ⟨g, 0, none⟩) 1 1)⟩ m2 rfl (by kernel_rfl) (by simp) rfl (fun L wx g hq hb hT => ?_)) ?_
  · exact lands_convert _ _ _ rfl hq (one_back _ hx hb) hT
  simp only [Act.put, List.setIfInBounds_toArray, List.set_cons_zero, List.set_cons_succ]
  refine anyE_take (i := 32) (.agg (nums 2 (two P.x P.y))) rfl rfl (by kernel_rfl) (by kernel_rfl) (by kernel_rfl) (fun qv => ym_other rfl rfl (fun L wx hT => ?_)) ?_
  · exact lands_load _ _ rfl _ rfl _ _ _ (hT.k.blk _ m3) Try.underlying26 rfl (by kernel_rfl) hT
  simp only [Act.put, List.setIfInBounds_toArray, List.set_cons_zero, List.set_cons_succ]
  refine anyE_take (i := 33) (.agg (nums 2 (two N.x N.y))) rfl rfl (by kernel_rfl) (by kernel_rfl) (by kernel_rfl) (fun qv => ym_other rfl rfl (fun L wx hT => ?_)) ?_
  · exact lands_calls (w := wx) ((neg_is P N oP.ok nN.out wx).mono fun _ _ ⟨he, hb⟩ => ⟨he, hT.below hb⟩) (by go_simp)
  simp only [Act.put, List.setIfInBounds_toArray, List.set_cons_zero, List.set_cons_succ]
  refine anyE_take (i := 34) (.agg (nums 2 (two W.x W.y))) rfl rfl (by kernel_rfl) (by kernel_rfl) (by kernel_rfl) (fun qv => ym_other rfl rfl (fun L wx hT => ?_)) ?_
  · exact lands_calls (w := wx) ((mul_is (oneB x) N W oN.ok mW.out wx).mono fun _ _ ⟨he, hb⟩ => ⟨he, hT.below hb⟩) (by go_simp)
  simp only [Act.put, List.setIfInBounds_toArray, List.set_cons_zero, List.set_cons_succ]
  refine anyE_take (i := 35) (.bool true) rfl rfl (by kernel_rfl) (by kernel_rfl) (by kernel_rfl) (fun qv => ym_other rfl rfl (fun L wx hT => ?_)) ?_
  · exact lands_eqlP _ _ rfl W W rfl rfl oW.ok oW.ok true (eqP_iff.2 rfl) hT
  simp only [Act.put, List.setIfInBounds_toArray, List.set_cons_zero, List.set_cons_succ]
  refine anyE_take (i := 36) (.bool true) rfl rfl (by kernel_rfl) (by kernel_rfl) (by kernel_rfl) (fun qv => ym_other rfl rfl (fun L wx hT => ?_)) ?_
  · refine lands_value (w := wx) ?_ hT; go_simp <;> rfl
  simp only [Act.put, List.setIfInBounds_toArray, List.set_cons_zero, List.set_cons_succ]
  refine anyE_take (i := 37) (.bool true) rfl rfl (by kernel_rfl) (by kernel_rfl) (by kernel_rfl) (fun qv => ym_other rfl rfl (fun L wx hT => ?_)) ?_
  · refine lands_value (w := wx) ?_ hT; go_simp <;> rfl
  simp only [Act.put, List.setIfInBounds_toArray, List.set_cons_zero, List.set_cons_succ]
  refine anyE_done (by kernel_rfl) (fun qv w24 hK => ?_) _
  have hE := hK.out (by kernel_rfl) (by kernel_rfl) (fun x hx hge => by simp only [List.mem_cons, List.not_mem_nil, or_false] at hx; (try rcases hx with rfl | rfl | rfl) <;> first | rfl | (simp at hge)) (b := false) (c := false) (by kernel_rfl) (by kernel_rfl)
  clear hK h19 hn23
  obtain ⟨g25, eg25, hE'⟩ := hE.next
  clear hE
  replace eg25 : qv 16 = .slice (some ⟨g25, 0, none⟩) 2 2 := eg25
  obtain ⟨g26, eg26, hE''⟩ := hE'.next
  clear hE'
  replace eg26 : qv 24 = .slice (some ⟨g26, 0, none⟩) 1 1 := eg26
  obtain ⟨g27, eg27, hE'''⟩ := hE''.next
  clear hE''
  replace eg27 : qv 30 = .slice (some ⟨g27, 0, none⟩) 1 1 := eg27
  have h24 : KD w.heap.size w [(g27, 5, #[.int .u8 (x : Int)]), (g26, 5, #[.int .u8 (x : Int)]), (g25, 5, #[.int .u8 ((n % 256 : Nat) : Int), .int .u8 ((n / 256 : Nat) : Int)]), (g22, 26, nums 2 (two X.x X.y)), (g21, 5, #[.int .u8 (y : Int)]), (g20, 5, #[.int .u8 (x : Int)]), (g10, 26, nums 2 (two P.x P.y))] w24 := hE'''.k
  clear hE'''
  clear n23
  rw [eg25, eg26, eg27]
  clear eg25 eg26 eg27
  clear qv
  repeat (first | (with_reducible apply wp_seq_k; intro _ _) | with_reducible apply wp_block | with_reducible apply wp_skip | with_reducible apply wp_exit | (go_at_K; go_step) | with_reducible apply then_normal | with_reducible apply then_exit | with_reducible apply block_normal | with_reducible apply block_same | with_reducible exact block_far rfl ?_)
  with_reducible apply wp_ret
  repeat (first | with_reducible apply then_ret | with_reducible apply block_ret)
  exact bodyPost_ret (results_tmp rfl _ _ _) rfl ⟨rfl, h24.b⟩
theorem doubles_any (a : ByteArray) (x y : Int) (hx : (Lit.int .u8 x).wf = true) (hy : (Lit.int .u8 y).wf = true) (w : World) :
    Calls Try.prog 9 #[.string a, .int .u8 x, .int .u8 y] w fun e w' => e = .returned (.bool true) ∧ Below w.heap.size w w' := by
  obtain ⟨k, rfl, hk⟩ := of_wf8 hx
  obtain ⟨m, rfl, hm⟩ := of_wf8 hy
  exact doubles_nat a k m hk hm w
end Go.Proofs.Ytehcigidjghddaa
