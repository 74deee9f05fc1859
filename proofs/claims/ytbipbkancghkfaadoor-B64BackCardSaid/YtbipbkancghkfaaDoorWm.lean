/- Number. -/
import Derived.Test.YtbipbkancghkfaaDoorUe
import Derived.Test.YtbipbkancghkfaaDoorRows2
namespace Go.Proofs.YtbipbkancghkfaaDoor
open Go.RowKit
/-- n cells from o on, as a text. -/
theorem run_string_of_part {P : Program} (w : World) (src dst e : Nat) (hs : P.underlying src = some (.slice e)) (he : P.underlying e = some (.int .u8)) (hd : P.underlying dst = some .string)
    (g o n cap : Nat) (f : Nat → Nat) (hf : ∀ j, j < n → f j < 256) (h : ∀ j, j < n → w.cell? ⟨g, o + j, none⟩ = some (.int .u8 (f j : Int))) : (convert src dst (.slice (some ⟨g, o, none⟩) n cap)).run P w = .ok (.string (textN n f)) w := by
  rw [run_convert_bytes_string w src dst e _ _ _ hs he hd]
  rw [run_bytesToString w ⟨g, o, none⟩ n cap (((List.range n).map fun i => BitVec.ofNat 8 (f i)).map iw)]
  · rw [foldl_push]; rfl
  · have := run_loadCells_list (P := P) w ⟨g, o, none⟩ ((List.range n).map fun i => Value.int .u8 (f i : Int)) (fun j u hu => by
      have hadd : (⟨g, o, none⟩ : Addr).add j = ⟨g, o + j, none⟩ := by unfold Addr.add; split <;> simp_all
      rw [hadd]
      simp only [List.getElem?_map, Option.map_eq_some_iff] at hu
      obtain ⟨i, hi, rfl⟩ := hu
      obtain ⟨hlt, rfl⟩ : j < n ∧ i = j := by
        by_cases hj : j < n
        · rw [List.getElem?_range hj] at hi
          exact ⟨hj, (Option.some.inj hi).symm⟩
        · rw [List.getElem?_eq_none (by simp; omega)] at hi
          cases hi
      exact h _ hlt)
    rw [List.length_map, List.length_range] at this
    rw [this]
    congr 2
    rw [List.map_map, List.map_map]
    refine List.map_congr_left fun i hi => ?_
    show _ = Value.int .u8 (iw (BitVec.ofNat 8 (f i)))
    unfold iw
    rw [BitVec.toNat_ofNat, Nat.mod_eq_of_lt (show f i < 2 ^ 8 from hf i (List.mem_range.1 hi))]
/-- The array of digits when i + 1 of them stand, the last ones. -/
def numF (N i j : Nat) : Value := if 18 ≤ i + j ∧ j ≤ 18 then .int .u8 ((48 + N / 10 ^ (18 - j) % 10 : Nat) : Int) else .int .u8 0
theorem zero_num (w : World) : (zeroValue 40).run Tryd.prog w = .ok (.agg (row 19 fun _ => .int .u8 0)) w := by kernel_rfl
theorem neg_b64 (n : Int) (h : n < 0) (w : World) :
    Calls Tryd.prog 18 #[.int .i64 n] w fun e w' => e = .returned (.tuple #[.string ⟨#[]⟩, .bool false]) ∧ Below w.heap.size w w' := by
  go_enter Tryd.func18, Tryd.ntmps18
  go_wp2_with fail
  go_ret2
  exact ⟨rfl, Below.refl _ _⟩
theorem num_start (N : Nat) : (row 19 fun _ => Value.int .u8 0).setIfInBounds 18 (.int .u8 ((48 + N % 10 : Nat) : Int)) = row 19 (numF N 0) := by
  rw [row_set _ (by decide)]
  refine row_ext fun j hj => ?_
  unfold numF
  by_cases h : j = 18
  · rw [if_pos h, if_pos (by omega), h, Nat.sub_self, Nat.pow_zero, Nat.div_one]
  · rw [if_neg h, if_neg (by omega)]
theorem num_next (N i : Nat) (hi : i + 1 ≤ 18) : (row 19 (numF N i)).setIfInBounds (18 - (i + 1)) (.int .u8 ((48 + N / 10 ^ (i + 1) % 10 : Nat) : Int)) = row 19 (numF N (i + 1)) := by
  rw [row_set _ (by omega)]
  refine row_ext fun j hj => ?_
  unfold numF
  by_cases h : j = 18 - (i + 1)
  · rw [if_pos h, if_pos (by omega), h, show 18 - (18 - (i + 1)) = i + 1 by omega]
  · rw [if_neg h]
    by_cases h2 : 18 ≤ i + j ∧ j ≤ 18
    · rw [if_pos h2, if_pos (by omega)]
    · rw [if_neg h2, if_neg (by omega)]
theorem decN_19 (N : Nat) (h : N < 9223372036854775808) : decN N ≤ 19 := by
  rcases Nat.eq_zero_or_pos N with rfl | h0
  · have : decN 0 = 1 := by unfold decN; rfl
    omega
  · have h1 := decN_le N h0
    rcases Nat.lt_or_ge (decN N) 20 with h2 | h2
    · omega
    · have : 10 ^ 19 ≤ 10 ^ (decN N - 1) := Nat.pow_le_pow_right (by decide) (by omega)
      have h3 : (10 : Nat) ^ 19 = 10000000000000000000 := by decide
      omega
set_option maxRecDepth 100000 in
set_option maxHeartbeats 2000000 in
theorem num_b64 (N : Nat) (t : ByteArray) (h : N < 9223372036854775808) (ht : decT N = t) (w : World) :
    Calls Tryd.prog 18 #[.int .i64 (N : Int)] w fun e w' => e = .returned (.tuple #[.string t, .bool true]) ∧ Below w.heap.size w w' := by
  have hz := zero_num
  have hst := num_start N
  obtain ⟨P0, hP⟩ : ∃ P, P = row 19 fun _ => Value.int .u8 0 := ⟨_, rfl⟩
  have hsz : P0.size = 19 := by rw [hP]; exact row_size _ _
  rw [← hP] at hz hst
  clear hP
  have hst' : P0.setIfInBounds 18 (.int .u8 (48 + (N : Int) % 10)) = row 19 (numF N 0) := by rw [← hst]; push_cast; rfl
  clear hst
  have HT := Lib.hid ht
  clear ht
  have hneg : ¬ (N : Int) < 0 := by omega
  have hB0 := Lib.hid (Blk.new w 40 P0)
  have b0 := Lib.hid ((Below.refl w.heap.size w).alloc (o := .cells P0 40) (Nat.le_refl _))
  have h19 := decN_19 N h
  have hall : (row 19 (numF N 0)).all (·.oneCell') = true := row_one fun j => by unfold numF; split <;> rfl
  go_enter Tryd.func18, Tryd.ntmps18
  go_wp2_with (refine wpList_store_row rfl 40 _ _ rfl w.heap.size (row 19 (numF N 0)) rfl (by dsimp only [Act.eval]; first | exact congrArg Value.agg hst' | rfl) 40 _ hB0.out (by rw [row_size]; kernel_rfl) (by rw [row_size, hsz]) hall ?_)
  have hk := hB0.out.row_ (row 19 (numF N 0))
  have hb : Below w.heap.size w ((w.alloc (.cells P0 40)).setRow w.heap.size (row 19 (numF N 0))) := below_setRow' b0.out (Nat.le_refl _) _
  generalize (w.alloc (.cells P0 40)).setRow w.heap.size (row 19 (numF N 0)) = w1 at hk hb ⊢
  clear hz hst' hsz hall hB0 b0 hneg
  have hd1 := decN_pos N
  go_loopw [0, 5] (fun n a wr => ∃ i A : Nat, A + i = 18 ∧ n = .int .i64 ((N / 10 ^ (i + 1) : Nat) : Int) ∧ a = .int .i64 (A : Int) ∧ i + 1 ≤ decN N ∧ Blk wr w.heap.size 40 (row 19 (numF N i)) ∧ Below w.heap.size w wr) (fun n _ _ => (intOf n).toNat)
  case atStart => exact ⟨0, 18, rfl, by rw [show N / 10 ^ (0 + 1) = N / 10 from rfl, Int.natCast_ediv]; rfl, rfl, by omega, hk, hb⟩
  case round =>
    clear hk hb
    obtain ⟨i, A, hA, rfl, rfl, hi, hk, hb⟩ := hrel
    obtain ⟨q, hq⟩ : ∃ q, q = N / 10 ^ (i + 1) := ⟨_, rfl⟩
    have hqN : q ≤ N := by rw [hq]; exact Nat.div_le_self _ _
    rw [← hq]
    by_cases h0 : 0 < q
    · have h0i : (q : Int) > 0 := by omega
      have hd2 : i + 2 ≤ decN N := decN_more (by
        have h1 : 0 < N / 10 ^ (i + 1) := hq ▸ h0
        rw [Nat.pow_succ, ← Nat.div_div_eq_div_mul] at h1
        omega)
      obtain ⟨A', hA'⟩ : ∃ A', A = A' + 1 := ⟨A - 1, by omega⟩
      have hsub : IntKind.i64.wrap ((A : Int) - 1) = (A' : Int) := by rw [IntWalk.i64_in _ (by omega)]; omega
      have hA19 : A' < 19 := by omega
      have hA19i : (A' : Int) < 19 := by omega
      have q1 := (hk.cell A').trans (row_get _ hA19)
      have q2 := hk.frozen A'
      obtain ⟨r, hr⟩ : ∃ r, r = q % 10 := ⟨_, rfl⟩
      have hri : (q : Int) % 10 = (r : Int) := by omega
      have hr10 : r < 10 := by omega
      obtain ⟨z, hz⟩ : ∃ z, z = 48 + r := ⟨_, rfl⟩
      have hz8 : IntKind.u8.wrap (48 + (r : Int)) = (z : Int) := by simp [IntKind.wrap, IntKind.bits, IntKind.signed]; omega
      have hr8 : IntKind.u8.wrap (r : Int) = (r : Int) := by simp [IntKind.wrap, IntKind.bits, IntKind.signed]; omega
      obtain ⟨q', hq'⟩ : ∃ q', q' = q / 10 := ⟨_, rfl⟩
      have hqi : (q : Int) / 10 = (q' : Int) := by omega
      have HK : Hid (Blk (wr.setCell ⟨w.heap.size, A', none⟩ (.int .u8 (z : Int))) w.heap.size 40 (row 19 (numF N (i + 1)))) := Lib.hid (by
        rw [← num_next N i (by omega), show 18 - (i + 1) = A' by omega, ← hq, ← hr, ← hz]
        exact hk.set_ A' _)
      have HQ : Hid (q' = N / 10 ^ (i + 1 + 1)) := Lib.hid (by rw [hq', hq, Nat.div_div_eq_div_mul, ← Nat.pow_succ])
      have HLT : Hid (q' < q) := Lib.hid (by omega)
      clear hq hr hz hq' hk
      go_wp2_with fail
      go_roundw
      case rel => exact ⟨i + 1, A', by omega, by rw [HQ.out], rfl, hd2, HK.out, hb.setCell (p := ⟨w.heap.size, A', none⟩) (Nat.le_refl _) _⟩
      case measure => have := HLT.out; simp [intOf]; omega
    · have h0i : ¬ (q : Int) > 0 := by omega
      have hdn : decN N = i + 1 := decN_of (by
        have h1 : N / 10 ^ (i + 1) = 0 := by omega
        rw [Nat.pow_succ, ← Nat.div_div_eq_div_mul] at h1
        omega) hi
      have hA19 : A ≤ 19 := by omega
      have hA19i : (A : Int) ≤ 19 := by omega
      have hcv := run_string_of_part (P := Tryd.prog) wr 35 9 5 Tryd.underlying35 Tryd.underlying5 Tryd.underlying9 w.heap.size A (19 - A) (19 - A) (lastB N i) (fun j _ => lastB_lt N i j) (fun j hj => by
        rw [hk.at_ (show A + j < 19 by omega)]
        unfold numF lastB
        rw [if_pos (by omega), show 18 - (A + j) = i - j by omega])
      rw [show textN (19 - A) (lastB N i) = t by rw [← HT.out, ← last_all hdn, show 19 - A = i + 1 by omega]] at hcv
      clear hq hdn hk
      go_wp2_with fail
      go_ret2
      exact ⟨rfl, hb⟩
end Go.Proofs.YtbipbkancghkfaaDoor
