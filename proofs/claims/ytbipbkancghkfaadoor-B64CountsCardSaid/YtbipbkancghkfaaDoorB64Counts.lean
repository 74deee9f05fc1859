/- B64Counts: the walk. -/
import Derived.Test.YtbipbkancghkfaaDoorVb
namespace Go.Proofs.YtbipbkancghkfaaDoor
open Go.RowKit
theorem counts_take (N : Nat) : takeV (decT N) = if N ≤ 4611686018427387904 then (N, true) else (0, false) := by
  by_cases h : N ≤ 4611686018427387904
  · rw [if_pos h]; exact takeV_of h rfl
  · rw [if_neg h]; exact takeV_not fun n hn e => h (decT_inj e ▸ hn)
theorem counts_zero (N : Nat) : byteS (decT N) 0 = 48 ↔ N = 0 := by
  rw [decT_at N 0 (decN_pos N)]
  unfold decB
  rw [Nat.sub_zero]
  constructor
  · intro h
    rcases Nat.eq_zero_or_pos N with h0 | h0
    · exact h0
    · have h2 := decN_le N h0
      have h3 := decN_lt N
      have h4 : 1 ≤ N / 10 ^ (decN N - 1) := (Nat.le_div_iff_mul_le (Nat.pow_pos (by decide))).2 (by omega)
      have h5 : N / 10 ^ (decN N - 1) < 10 := (Nat.div_lt_iff_lt_mul (Nat.pow_pos (by decide))).2 (by rw [Nat.mul_comm, ← Nat.pow_succ, show (decN N - 1).succ = decN N by have := decN_pos N; omega]; exact h3)
      omega
  · rintro rfl
    rw [Nat.zero_div]
/-- What a list of digits says. -/
def valL (l : List UInt8) (x : Nat) : Nat := l.foldl (fun x b => 10 * x + (b.toNat - 48)) x
theorem valL_acc : ∀ (l : List UInt8) (x : Nat), valL l x = x * 10 ^ l.length + valL l 0
  | [], x => by simp [valL]
  | b :: l, x => by
    show valL l (10 * x + (b.toNat - 48)) = _ + valL l (10 * 0 + (b.toNat - 48))
    rw [valL_acc l (10 * x + _), valL_acc l (10 * 0 + _), List.length_cons, Nat.pow_succ, Nat.mul_zero, Nat.zero_add, Nat.add_mul]
    have : 10 * x * 10 ^ l.length = x * (10 ^ l.length * 10) := by rw [Nat.mul_comm 10 x, Nat.mul_assoc, Nat.mul_comm 10]
    omega
theorem valL_lt : ∀ (l : List UInt8), (∀ b ∈ l, 48 ≤ b.toNat ∧ b.toNat ≤ 57) → valL l 0 < 10 ^ l.length
  | [], _ => by simp [valL]
  | b :: l, h => by
    have h1 := valL_lt l fun c hc => h c (List.mem_cons_of_mem _ hc)
    have h2 := h b (List.mem_cons_self ..)
    show valL l (10 * 0 + (b.toNat - 48)) < _
    rw [valL_acc, List.length_cons, Nat.pow_succ, Nat.mul_zero, Nat.zero_add]
    have h3 : (b.toNat - 48) * 10 ^ l.length ≤ 9 * 10 ^ l.length := Nat.mul_le_mul_right _ (by omega)
    omega
theorem less_val : ∀ (l m : List UInt8), l.length = m.length → (∀ b ∈ l, 48 ≤ b.toNat ∧ b.toNat ≤ 57) → (∀ b ∈ m, 48 ≤ b.toNat ∧ b.toNat ≤ 57) → (Op.bytesLess l m = true ↔ valL l 0 < valL m 0)
  | [], [], _, _, _ => by simp [Op.bytesLess, valL]
  | [], _ :: _, h, _, _ => by cases h
  | _ :: _, [], h, _, _ => by cases h
  | a :: l, b :: m, h, hl, hm => by
    have hlen : l.length = m.length := by simpa using h
    have ih := less_val l m hlen (fun c hc => hl c (List.mem_cons_of_mem _ hc)) (fun c hc => hm c (List.mem_cons_of_mem _ hc))
    have l1 := valL_lt l fun c hc => hl c (List.mem_cons_of_mem _ hc)
    have m1 := valL_lt m fun c hc => hm c (List.mem_cons_of_mem _ hc)
    have ha := hl a (List.mem_cons_self ..)
    have hb := hm b (List.mem_cons_self ..)
    show (decide (a < b) || (a == b && Op.bytesLess l m)) = true ↔ valL l (10 * 0 + (a.toNat - 48)) < valL m (10 * 0 + (b.toNat - 48))
    rw [valL_acc l, valL_acc m, Nat.mul_zero, Nat.zero_add, Nat.zero_add, hlen, Bool.or_eq_true, decide_eq_true_eq, Bool.and_eq_true, beq_iff_eq, ih, UInt8.lt_iff_toNat_lt]
    rw [hlen] at l1
    generalize 10 ^ m.length = p at *
    constructor
    · rintro (h1 | ⟨rfl, h1⟩)
      · have h2 : (a.toNat - 48 + 1) * p ≤ (b.toNat - 48) * p := Nat.mul_le_mul_right _ (by omega)
        rw [Nat.add_mul] at h2
        omega
      · omega
    · intro h1
      rcases Nat.lt_trichotomy a.toNat b.toNat with h2 | h2 | h2
      · exact .inl h2
      · obtain rfl := UInt8.toNat_inj.1 h2
        exact .inr ⟨rfl, by omega⟩
      · have h3 : (b.toNat - 48 + 1) * p ≤ (a.toNat - 48) * p := Nat.mul_le_mul_right _ (by omega)
        rw [Nat.add_mul] at h3
        omega
theorem decT_list (N : Nat) : (decT N).toList = (List.range (decN N)).map fun i => UInt8.ofBitVec (BitVec.ofNat 8 (decB N i)) := by
  rw [ByteArray.toList_eq]
  unfold decT textN asBytes
  rw [List.map_map]
  rfl
theorem decT_u8 (N i : Nat) : (UInt8.ofBitVec (BitVec.ofNat 8 (decB N i))).toNat = decB N i := by
  show (BitVec.ofNat 8 (decB N i)).toNat = _
  rw [BitVec.toNat_ofNat]
  exact Nat.mod_eq_of_lt (by unfold decB; omega)
theorem decT_val (N : Nat) : valL (decT N).toList 0 = N := by
  rw [decT_list]
  unfold valL
  rw [List.foldl_map]
  have h := dec_first N (decN N) (Nat.le_refl _)
  rw [Nat.sub_self, Nat.pow_zero, Nat.div_one] at h
  have e : (fun (x : Nat) (j : Nat) => 10 * x + ((UInt8.ofBitVec (BitVec.ofNat 8 (decB N j))).toNat - 48)) = fun x j => 10 * x + (decB N j - 48) := by
    funext x j
    rw [decT_u8]
  rw [e]
  exact h
theorem decT_digits (N : Nat) : ∀ b ∈ (decT N).toList, 48 ≤ b.toNat ∧ b.toNat ≤ 57 := by
  intro b hb
  rw [decT_list] at hb
  obtain ⟨i, _, rfl⟩ := List.mem_map.1 hb
  rw [decT_u8]
  unfold decB
  omega
theorem decT_less (N M : Nat) (h : decN N = decN M) : Op.bytesLess (decT N).toList (decT M).toList = decide (N < M) := by
  have := less_val (decT N).toList (decT M).toList (by rw [decT_list, decT_list]; simp [h]) (decT_digits N) (decT_digits M)
  rw [decT_val, decT_val] at this
  rw [Bool.eq_iff_iff, decide_eq_true_eq]
  exact this
theorem decN_mono {N M : Nat} (h : N ≤ M) : decN N ≤ decN M := by
  rcases Nat.lt_or_ge (decN M) (decN N) with h1 | h1
  · exfalso
    have hN : 0 < N := by
      rcases Nat.eq_zero_or_pos N with rfl | h0
      · have : decN 0 = 1 := by unfold decN; rfl
        have := decN_pos M
        omega
      · exact h0
    have h2 := decN_le N hN
    have h3 := decN_lt M
    have : 10 ^ decN M ≤ 10 ^ (decN N - 1) := Nat.pow_le_pow_right (by decide) (by omega)
    omega
  · exact h1
theorem decT_first (N : Nat) : ((decT N).extract 0 1).toList = [UInt8.ofNat (byteS (decT N) 0)] := by
  have h : 0 < (decT N).size := by rw [decT_size]; exact decN_pos N
  have e : (decT N).extract 0 1 = textN 1 (fun _ => byteS (decT N) 0) := by
    refine (textN_is (by rw [ByteArray.size_extract]; omega) fun j hj => ?_).symm
    rw [byteS_ext _ 0 1 j (by omega) (by omega)]
    congr 1; omega
  rw [e, ByteArray.toList_eq]
  rfl
theorem decT_zero (N : Nat) : (((decT N).extract 0 1).toList == [48]) = decide (N = 0) := by
  rw [decT_first, Bool.eq_iff_iff, beq_iff_eq, decide_eq_true_eq, ← counts_zero N]
  have hlt := byteS_lt (decT N) 0
  constructor
  · intro h
    have h1 : UInt8.ofNat (byteS (decT N) 0) = 48 := by injection h
    have h2 := congrArg UInt8.toNat h1
    rw [UInt8.toNat_ofNat'] at h2
    have h3 : (48 : UInt8).toNat = 48 := rfl
    omega
  · intro h
    rw [h]; rfl
set_option maxRecDepth 100000 in
set_option maxHeartbeats 4000000 in
theorem counts7_nn (n : Int) (hn : n < 0) (m : Int) (hm : m < 0) (w : World) :
    Calls Tryd.prog 6 #[.int .i64 n, .int .i64 m] w fun e w' => e = .returned (.bool true) ∧ Below w.heap.size w w' := by
  have C1 := Lib.hid (neg_b64 n hn)
  have C2 := Lib.hid (neg_b64 m hm)
  have C3 := Lib.hid (take_b64 ⟨#[]⟩ 0 false (by decide) (take_none rfl))
  have hni : ¬ n ≥ 0 := by omega
  go_enter Tryd.func6, Tryd.ntmps6
  go_wp2_with fail
  refine (examples7_any _).mono ?_
  rintro e w1 ⟨rfl, b1⟩
  go_wp2_with fail
  refine (C1.out _).mono ?_
  rintro e w2 ⟨rfl, b2⟩
  have c2 := b1.trans (b2.mono b1.size)
  clear b1 b2
  go_wp2_with fail
  refine (C2.out _).mono ?_
  rintro e w3 ⟨rfl, b3⟩
  have c3 := c2.trans (b3.mono c2.size)
  clear c2 b3
  go_wp2_with fail
  refine (C3.out _).mono ?_
  rintro e w4 ⟨rfl, b4⟩
  have c4 := c3.trans (b4.mono c3.size)
  clear c3 b4
  clear C1 C2 C3
  go_wp2_with fail
  go_ret
  exact ⟨rfl, c4⟩
set_option maxRecDepth 100000 in
set_option maxHeartbeats 4000000 in
theorem counts7_np (n : Int) (hn : n < 0) (M : Nat) (hM : M < 9223372036854775808) (w : World) :
    Calls Tryd.prog 6 #[.int .i64 n, .int .i64 (M : Int)] w fun e w' => e = .returned (.bool true) ∧ Below w.heap.size w w' := by
  obtain ⟨t, ht⟩ : ∃ t, t = decT M := ⟨_, rfl⟩
  have C1 := Lib.hid (neg_b64 n hn)
  have C2 := Lib.hid (num_b64 M t hM ht.symm)
  have C3 := Lib.hid (take_b64 ⟨#[]⟩ 0 false (by decide) (take_none rfl))
  have hni : ¬ n ≥ 0 := by omega
  go_enter Tryd.func6, Tryd.ntmps6
  go_wp2_with fail
  refine (examples7_any _).mono ?_
  rintro e w1 ⟨rfl, b1⟩
  go_wp2_with fail
  refine (C1.out _).mono ?_
  rintro e w2 ⟨rfl, b2⟩
  have c2 := b1.trans (b2.mono b1.size)
  clear b1 b2
  go_wp2_with fail
  refine (C2.out _).mono ?_
  rintro e w3 ⟨rfl, b3⟩
  have c3 := c2.trans (b3.mono c2.size)
  clear c2 b3
  go_wp2_with fail
  refine (C3.out _).mono ?_
  rintro e w4 ⟨rfl, b4⟩
  have c4 := c3.trans (b4.mono c3.size)
  clear c3 b4
  clear C1 C2 C3
  go_wp2_with fail
  go_ret
  exact ⟨rfl, c4⟩
set_option maxRecDepth 100000 in
set_option maxHeartbeats 4000000 in
theorem counts7_walk (N : Nat) (m : Int) (s t : ByteArray) (k : Nat) (f g : Bool) (w : World) (C1 : Hid (∀ w, Calls Tryd.prog 18 #[.int .i64 (N : Int)] w fun e w' => e = .returned (.tuple #[.string s, .bool true]) ∧ Below w.heap.size w w'))
    (C2 : Hid (∀ w, Calls Tryd.prog 18 #[.int .i64 m] w fun e w' => e = .returned (.tuple #[.string t, .bool g]) ∧ Below w.heap.size w w'))
    (C3 : Hid (∀ w, Calls Tryd.prog 20 #[.string s] w fun e w' => e = .returned (.tuple #[.int .i64 (k : Int), .bool f]) ∧ Below w.heap.size w w'))
    (hs : 1 ≤ s.size ∧ s.size ≤ 19) (hz : ((s.extract 0 1).toList == [48]) = decide (N = 0))
    (h01 : N = 0 → s.size = 1)
    (hf : (N ≤ 4611686018427387904 ∧ f = true ∧ k = N) ∨ (¬ N ≤ 4611686018427387904 ∧ f = false ∧ 1 < s.size))
    (hl : g = false ∧ t.size = 0 ∨ g = true ∧ t.size ≤ 19 ∧ (s.size < t.size ∧ (N : Int) < m ∨ t.size < s.size ∧ ¬ (N : Int) < m ∨ s.size = t.size ∧ Op.bytesLess s.toList t.toList = decide ((N : Int) < m))) :
    Calls Tryd.prog 6 #[.int .i64 (N : Int), .int .i64 m] w fun e w' => e = .returned (.bool true) ∧ Below w.heap.size w w' := by
  have hni : (N : Int) ≥ 0 := by omega
  have hmin : (min (s.size : Int) 1).toNat = 1 := by omega
  have hmin2 : min (s.size : Int) 1 = 1 := by omega
  obtain ⟨hs1, hs2⟩ := hs
  go_enter Tryd.func6, Tryd.ntmps6
  go_wp2_with fail
  refine (examples7_any _).mono ?_
  rintro e w1 ⟨rfl, b1⟩
  go_wp2_with fail
  refine (C1.out _).mono ?_
  rintro e w2 ⟨rfl, b2⟩
  have c2 := b1.trans (b2.mono b1.size)
  clear b1 b2
  go_wp2_with fail
  refine (C2.out _).mono ?_
  rintro e w3 ⟨rfl, b3⟩
  have c3 := c2.trans (b3.mono c2.size)
  clear c2 b3
  go_wp2_with fail
  refine (C3.out _).mono ?_
  rintro e w4 ⟨rfl, b4⟩
  have c4 := c3.trans (b4.mono c3.size)
  clear c3 b4
  clear C1 C2 C3
  have HL := Lib.hid hl
  have HF := Lib.hid hf
  have H01 := Lib.hid h01
  have HZ := Lib.hid hz
  clear hl hf hz h01
  have hne : ¬ s = ByteArray.empty := fun e => by rw [e] at hs1; simp at hs1
  have hsz : s.size = 1 ∨ 1 < (s.size : Int) := by omega
  have HS := Lib.hid hsz
  clear hmin hmin2 hsz
  by_cases h0 : N = 0
  · have hs3 : s.size = 1 := H01.out h0
    subst h0
    obtain ⟨rfl, rfl⟩ : f = true ∧ k = 0 := by
      rcases HF.out with ⟨_, h1, h2⟩ | ⟨h1, _⟩
      · exact ⟨h1, h2⟩
      · omega
    have hz := HZ.out
    rw [decide_eq_true rfl, beq_iff_eq] at hz
    clear HF HZ HS H01
    rcases HL.out with ⟨rfl, ht⟩ | ⟨rfl, ht, ⟨h1, h2⟩ | ⟨h1, h2⟩ | ⟨h1, h2⟩⟩
    · clear HL
      go_wp2_with fail
      go_ret
      exact ⟨by first | rfl | (show Ending.returned (Value.bool (!decide _)) = _; rw [decide_eq_false (by omega)]; rfl), c4⟩
    · clear HL
      have h3 : (1 : Int) < t.size := by omega
      clear h1
      go_wp2_with fail
      go_ret
      exact ⟨by first | rfl | (show Ending.returned (Value.bool (!decide _)) = _; rw [decide_eq_false (by omega)]; rfl), c4⟩
    · clear HL
      have ht3 : t.size = 0 := by omega
      clear h1 ht
      go_wp2_with fail
      go_ret
      exact ⟨by first | rfl | (show Ending.returned (Value.bool (!decide _)) = _; rw [decide_eq_false (by omega)]; rfl), c4⟩
    · clear HL
      have ht3 : t.size = 1 := by omega
      clear h1 ht
      go_wp2_with fail
      go_ret
      exact ⟨by first | rfl | (show Ending.returned (Value.bool (!decide _)) = _; rw [decide_eq_false (by omega)]; rfl), c4⟩
  · have hz := HZ.out
    rw [decide_eq_false h0, beq_eq_false_iff_ne] at hz
    have h0i : ¬ (N : Int) = 0 := by omega
    clear h0 HZ H01
    rcases HF.out with ⟨hle, rfl, rfl⟩ | ⟨hle, rfl, hsb⟩
    · have hlei : (k : Int) ≤ 4611686018427387904 := by omega
      clear hle HF
      rcases HS.out with hs3 | hs3
      · clear HS
        rcases HL.out with ⟨rfl, ht⟩ | ⟨rfl, ht, ⟨h1, h2⟩ | ⟨h1, h2⟩ | ⟨h1, h2⟩⟩
        · clear HL
          go_wp2_with fail
          go_ret
          exact ⟨by first | rfl | (show Ending.returned (Value.bool (!decide _)) = _; rw [decide_eq_false (by omega)]; rfl), c4⟩
        · clear HL
          have h3 : (1 : Int) < t.size := by omega
          clear h1
          go_wp2_with fail
          go_ret
          exact ⟨by first | rfl | (show Ending.returned (Value.bool (!decide _)) = _; rw [decide_eq_false (by omega)]; rfl), c4⟩
        · clear HL
          have ht3 : t.size = 0 := by omega
          clear h1 ht
          go_wp2_with fail
          go_ret
          exact ⟨by first | rfl | (show Ending.returned (Value.bool (!decide _)) = _; rw [decide_eq_false (by omega)]; rfl), c4⟩
        · clear HL
          have ht3 : t.size = 1 := by omega
          clear h1 ht
          go_wp2_with fail
          go_ret
          exact ⟨by first | rfl | (show Ending.returned (Value.bool (!decide _)) = _; rw [decide_eq_false (by omega)]; rfl), c4⟩
      · clear HS
        rcases HL.out with ⟨rfl, ht⟩ | ⟨rfl, ht, ⟨h1, h2⟩ | ⟨h1, h2⟩ | ⟨h1, h2⟩⟩
        all_goals
          clear HL
          go_wp2_with fail
          go_ret
          exact ⟨by first | rfl | (show Ending.returned (Value.bool (!decide _)) = _; rw [decide_eq_false (by omega)]; rfl), c4⟩
    · have hlei : ¬ (N : Int) ≤ 4611686018427387904 := by omega
      have hs3 : 1 < (s.size : Int) := by omega
      clear hle HF HS hsb
      rcases HL.out with ⟨rfl, ht⟩ | ⟨rfl, ht, ⟨h1, h2⟩ | ⟨h1, h2⟩ | ⟨h1, h2⟩⟩
      all_goals
        clear HL
        go_wp2_with fail
        go_ret
        exact ⟨by first | rfl | (show Ending.returned (Value.bool (!decide _)) = _; rw [decide_eq_false (by omega)]; rfl), c4⟩
theorem counts7_f (N : Nat) : (N ≤ 4611686018427387904 ∧ (takeV (decT N)).2 = true ∧ (takeV (decT N)).1 = N) ∨ (¬ N ≤ 4611686018427387904 ∧ (takeV (decT N)).2 = false ∧ 1 < (decT N).size) := by
  rw [counts_take]
  by_cases h : N ≤ 4611686018427387904
  · rw [if_pos h]; exact .inl ⟨h, rfl, rfl⟩
  · rw [if_neg h]
    refine .inr ⟨h, rfl, ?_⟩
    rw [decT_size]
    have := decN_lt N
    rcases Nat.lt_or_ge 1 (decN N) with h1 | h1
    · exact h1
    · have h2 : decN N = 1 := by have := decN_pos N; omega
      rw [h2] at this
      omega
theorem counts7_pm (N : Nat) (hN : N < 9223372036854775808) (m : Int) (hm : m < 9223372036854775808) (w : World) :
    Calls Tryd.prog 6 #[.int .i64 (N : Int), .int .i64 m] w fun e w' => e = .returned (.bool true) ∧ Below w.heap.size w w' := by
  have hz1 := decN_pos N
  have hz2 := decN_19 N hN
  have h01 : N = 0 → (decT N).size = 1 := by
    rintro rfl
    rw [decT_size]
    unfold decN; rfl
  by_cases h : m < 0
  · exact counts7_walk N m (decT N) ⟨#[]⟩ _ _ false w (Lib.hid (num_b64 N _ hN rfl)) (Lib.hid (neg_b64 m h)) (Lib.hid (take_b64 (decT N) _ _ (by rw [decT_size]; omega) rfl)) (by rw [decT_size]; omega) (decT_zero N) h01 (counts7_f N) (.inl ⟨rfl, rfl⟩)
  · obtain ⟨M, rfl⟩ : ∃ M : Nat, m = M := ⟨m.toNat, by omega⟩
    have hM : M < 9223372036854775808 := by omega
    have hm1 := decN_pos M
    have hm2 := decN_19 M hM
    refine counts7_walk N M (decT N) (decT M) _ _ true w (Lib.hid (num_b64 N _ hN rfl)) (Lib.hid (num_b64 M _ hM rfl)) (Lib.hid (take_b64 (decT N) _ _ (by rw [decT_size]; omega) rfl)) (by rw [decT_size]; omega) (decT_zero N) h01 (counts7_f N) (.inr ⟨rfl, by rw [decT_size]; exact hm2, ?_⟩)
    rw [decT_size, decT_size]
    rcases Nat.lt_trichotomy (decN N) (decN M) with h1 | h1 | h1
    · refine .inl ⟨h1, ?_⟩
      rcases Nat.lt_or_ge N M with h2 | h2
      · omega
      · have := decN_mono h2; omega
    · refine .inr (.inr ⟨h1, ?_⟩)
      rw [decT_less N M h1, decide_eq_decide]
      omega
    · refine .inr (.inl ⟨h1, ?_⟩)
      rcases Nat.lt_or_ge M N with h2 | h2
      · omega
      · have := decN_mono h2; omega
theorem counts7_any (n m : Int) (w : World) (wn : (Lit.int .i64 n).wf = true) (wm : (Lit.int .i64 m).wf = true) :
    Calls Tryd.prog 6 #[.int .i64 n, .int .i64 m] w fun e w' => e = .returned (.bool true) ∧ Below w.heap.size w w' := by
  have hb : ∀ k : Int, (Lit.int .i64 k).wf = true → -9223372036854775808 ≤ k ∧ k < 9223372036854775808 := fun k hk => by
    simp [Lit.wf, IntKind.min, IntKind.max, IntKind.bits, IntKind.signed] at hk
    omega
  have h1 := hb n wn
  have h2 := hb m wm
  by_cases h : n < 0
  · by_cases hm : m < 0
    · exact counts7_nn n h m hm w
    · obtain ⟨M, rfl⟩ : ∃ M : Nat, m = M := ⟨m.toNat, by omega⟩
      exact counts7_np n h M (by omega) w
  · obtain ⟨N, rfl⟩ : ∃ N : Nat, n = N := ⟨n.toNat, by omega⟩
    exact counts7_pm N (by omega) m (by omega) w
end Go.Proofs.YtbipbkancghkfaaDoor
