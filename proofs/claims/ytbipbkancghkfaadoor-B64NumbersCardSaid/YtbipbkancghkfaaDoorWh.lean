/- read: digits as bits. -/
import Derived.Test.YtbipbkancghkfaaDoorWg
namespace Go.Proofs.YtbipbkancghkfaaDoor
open Go.RowKit
attribute [local go_sem] Oper.semAt_some
theorem values_any (p : Addr) (s : ByteArray) (w : World) :
    Calls Tryd.prog 34 #[.pointer (some p), .string s] w fun e w' =>
      e = .returned (.func (.func 40) #[] #[.pointer (some ⟨w.heap.size + 1, 0, none⟩), .pointer (some ⟨w.heap.size, 0, none⟩)]) ∧
      w' = (w.alloc (.cells #[.pointer (some p)] 48)).alloc (.cells #[.string s] 9) := by
  go_enter Tryd.func34, Tryd.ntmps34
  go_wp2_with fail
  go_ret
  exact ⟨rfl, rfl⟩
theorem CapRow.less {g cap n k : Nat} {f : Nat → Nat} {w : World} (h : CapRow g cap f n w) (hk : k ≤ n) : CapRow g cap f k w := by
  refine ⟨by simp, ?_⟩
  rcases h.2 with ⟨hv, _⟩ | ⟨g', cap', cur, hv, hb, hg, hnc, hcm, hcs, htake⟩
  · cases hv
  · simp only [Value.slice.injEq, Option.some.injEq, Addr.mk.injEq, and_true, true_and] at hv
    obtain ⟨rfl, rfl⟩ := hv
    refine .inr ⟨g, cap, cur, rfl, hb, hg, by omega, hcm, hcs, ?_⟩
    have e : cur.toList.take (k * 1) = (cur.toList.take (n * 1)).take k := by rw [List.take_take]; congr 1; omega
    rw [e, htake, ← List.map_take, List.take_range, Nat.min_eq_left hk]
theorem CapRow.at_ {g cap n j : Nat} {f : Nat → Nat} {w : World} (h : CapRow g cap f n w) (hj : j < n) : w.cell? ⟨g, j, none⟩ = some (.int .u8 (f j : Int)) := by
  rw [World.ownsRow.cellAt h j (by omega)]
  simp [hj]
theorem wpListIn_pushC {F : Fence} {m : Nat} {ops : Array Oper} {rest : List Oper} {o : Oper} {a : Act} {Q : Exit → Act → World → Prop} {g cap n : Nat} {wr : World} {f : Nat → Nat} (hgd : o.guard = none) (s x : Operand)
    (ho : o.op = .call { callee := .builtin .append, args := #[s, x], argTypes := #[35, 35] }) (hs : a.eval s = .slice (some ⟨g, 0, none⟩) n cap) (h : CapRow g cap f n wr) (hn : n + 1 ≤ cap)
    (hx : a.eval x = .slice (some ⟨wr.heap.size, 0, none⟩) 1 1) (z : Int) (hf : (f n : Int) = z)
    (k : ∀ w', CapRow g cap f (n + 1) w' → (wr.alloc (.cells #[.int .u8 z] 5)).grownBy w' (some g) → wpListIn F m Tryd.prog ops Q rest (a.put o.dst (.slice (some ⟨g, 0, none⟩) (n + 1) cap)) w') :
    wpListIn F m Tryd.prog ops Q (o :: rest) a (wr.alloc (.cells #[.int .u8 z] 5)) := by
  obtain ⟨i0, hi, hz0, hz1, hz2⟩ := info_parts u8_infoO
  have hr : CapRow g cap f n (wr.alloc (.cells #[.int .u8 z] 5)) := h.kept (Below.heap_alloc _ _ _ h.lt)
  refine wpListIn_append_fits _ hgd s x 35 ho 0 5 i0 1 Tryd.underlying35 hi hz1 g n cap _ hs hr ⟨wr.heap.size, 0, none⟩ 1 1 [.int .u8 (f n : Int)] hx rfl ?_ ?_ hn ?_
  · intro j u hu
    cases j with
    | zero => simp at hu; subst hu; rw [addr_add, Nat.zero_add, hf]; exact (Blk.new wr _ _).cell 0
    | succ j => simp at hu
  · intro u hu
    simp at hu; subst hu; rfl
  · intro w' h1 h2
    refine k w' ?_ h2
    unfold CapRow
    rw [List.range_succ, List.map_append]
    exact h1
set_option maxRecDepth 100000 in
set_option maxHeartbeats 4000000 in
theorem read_any (s D : ByteArray) (fr whole T : Nat) (F : Nat → Nat) (t : ByteArray) (b : Bool) (w : World) (hs : s.size ≤ 300000000000000) (hf : 1 ≤ fr ∧ fr ≤ 8) (h48 : s.size * fr / 8 < 281474976710656) (hD : D.size ≤ 2 ^ fr) (hD2 : D.size ≤ 128) (hd : ∀ j, j < D.size → byteS D j < 128)
    (hwh : whole = s.size * fr / 8) (hT : T = (s.size * fr + 8 - 1) / 8) (hF : F = fun k => num (bitG (fun i => plc D D.size (byteS s i) - 1) fr s.size) (k * 8) 8)
    (h0 : ¬ (∀ j, j < s.size → okD D (byteS s j)) → t = ⟨#[]⟩ ∧ b = false)
    (h1 : (∀ j, j < s.size → okD D (byteS s j)) → (∃ k, whole ≤ k ∧ k < T ∧ F k ≠ 0) → t = ⟨#[]⟩ ∧ b = false)
    (h2 : (∀ j, j < s.size → okD D (byteS s j)) → (∀ k, whole ≤ k → k < T → F k = 0) → t = textN whole F ∧ b = true) :
    Calls Tryd.prog 23 #[.string s, .string D, .int .i64 (fr : Int)] w fun e w' => e = .returned (.tuple #[.string t, .bool b]) ∧ Below w.heap.size w w' := by
  refine (callsIn_wide (n := 0)).1 ?_
  refine callsIn_of_wp_marks Tryd.func23 rfl trivial ?_
  simp only [Tryd.ntmps23, List.size_toArray, List.length_cons, List.length_nil, Nat.reduceAdd, Nat.reduceSub, Array.replicate_succ, Array.replicate_zero, List.push_toArray, List.append_toArray, List.nil_append, List.cons_append]
  have H0 := Lib.hid h0
  have H1 := Lib.hid h1
  have H2 := Lib.hid h2
  have HW := Lib.hid hwh
  have HT := Lib.hid hT
  have HF := Lib.hid hF
  have HD := Lib.hid hd
  have H48 := Lib.hid h48
  clear h0 h1 h2 hwh hT hF hd h48
  gi_wp2_with fail
  refine ⟨trivial, rfl, (calls_wr (ro := none) (placesOf_any D hD2 HD.out _)).mono ?_⟩
  rintro e w1 ⟨rfl, k1, b1⟩
  gi_wp2_with fail
  obtain ⟨ok, hok⟩ : ∃ ok : Bool, ok = true ↔ ∀ j, j < s.size → okD D (byteS s j) := by
    by_cases h : ∀ j, j < s.size → okD D (byteS s j)
    · exact ⟨true, by simpa using h⟩
    · exact ⟨false, by simpa using h⟩
  have HK := Lib.hid hok
  clear hok
  refine ⟨trivial, rfl, (calls_wr (ro := none) (haveAll_any D s w.heap.size ok _ k1 HK.out)).mono ?_⟩
  rintro e w2 ⟨rfl, b2⟩
  have k2 := k1.below b2 k1.lt
  have bb := b1.trans (b2.mono b1.size)
  clear k1 b1 b2
  cases ok with
  | false =>
    obtain ⟨rfl, rfl⟩ := H0.out (fun h => by cases HK.out.2 h)
    gi_wp2_with fail
    exact ⟨_, results_tmp2 rfl _ _ _, rfl, bb⟩
  | true =>
    have HA := Lib.hid (HK.out.1 rfl)
    clear HK H0
    have hfm : s.size * fr ≤ 2400000000000000 := by
      have := Nat.mul_le_mul hs hf.2
      omega
    have hmul : IntKind.i64.wrap ((s.size : Int) * fr) = ((s.size * fr : Nat) : Int) := by rw [IntWalk.i64_in _ (by rw [← Int.natCast_mul]; omega)]; push_cast; rfl
    obtain ⟨N, hN⟩ : ∃ N, N = s.size * fr := ⟨_, rfl⟩
    rw [← hN] at hmul hfm
    have hwN : whole ≤ N := by rw [HW.out, ← hN]; exact Nat.div_le_self _ _
    have hw48 : whole < 281474976710656 := by rw [HW.out]; exact H48.out
    have hqi : (N : Int) / 8 = (whole : Int) := by rw [HW.out, ← hN, Int.natCast_ediv]; rfl
    obtain ⟨m, hm⟩ : ∃ m, m = whole + 1 := ⟨_, rfl⟩
    have hqm : (whole : Int) + 1 = (m : Int) := by omega
    have hmx : m ≤ maxLen := by unfold maxLen; omega
    have hTm : ∀ i, i < T → i + 1 ≤ m := fun i hi => by
      have h1 := HT.out
      rw [← hN] at h1
      have h2 := HW.out
      rw [← hN] at h2
      omega
    have hmT : T ≤ m := by
      have h1 := HT.out
      rw [← hN] at h1
      have h2 := HW.out
      rw [← hN] at h2
      omega
    have hwT : whole ≤ T := by
      have h1 := HT.out
      rw [← hN] at h1
      have h2 := HW.out
      rw [← hN] at h2
      omega
    have HM := Lib.hid hm
    clear hN hm
    have hF256 : ∀ k, F k < 256 := fun k => by rw [HF.out]; exact num_lt _ _ 8
    obtain ⟨i0, hi0, hz0, hz1, hz2⟩ := info_parts u8_infoO
    gi_wp2_with (gi_at_make; refine wpListIn_make_own _ rfl _ _ 35 rfl 0 5 i0 (.int .u8 0) 1 Tryd.underlying35 hi0 hz0 hz1 .i64 .i64 _ m rfl rfl (by rfl) (by rw [hz2]; omega) hmx (Nat.zero_le _) ?_; intro w3 hrow1 hg1)
    clear hqi hmul hi0 hz0 hz1 hz2 hmx hw48
    have b3 : Below w.heap.size w w3 := bb.grown hg1 bb.size (fun k e => by cases e)
    have hsz3 := hg1.size
    have k3 : Blk w3 w.heap.size 59 (plcR D D.size) := (hg1.block _ k2.lt (by simp)).trans k2
    have r3 : CapRow w2.heap.size m F 0 w3 := hrow1
    have hlt3 := r3.lt
    have hl2 := k2.lt
    clear hrow1 hg1 bb k2
    have b4 := b3.alloc (o := .cells #[.slice (some ⟨w2.heap.size, 0, none⟩) 0 m] 35) b3.size
    have o4 := Blk.new w3 35 #[.slice (some ⟨w2.heap.size, 0, none⟩) 0 m]
    have r4 : CapRow w2.heap.size m F 0 (w3.alloc (.cells #[.slice (some ⟨w2.heap.size, 0, none⟩) 0 m] 35)) := r3.kept (Below.heap_alloc _ _ _ hlt3)
    have k4 := k3.alloc (.cells #[.slice (some ⟨w2.heap.size, 0, none⟩) 0 m] 35)
    have hsz4 : (w3.alloc (.cells #[.slice (some ⟨w2.heap.size, 0, none⟩) 0 m] 35)).heap.size = w3.heap.size + 1 := by simp
    generalize w3.alloc (.cells #[.slice (some ⟨w2.heap.size, 0, none⟩) 0 m] 35) = w4 at b4 o4 r4 k4 hsz4 ⊢
    refine ⟨trivial, rfl, (calls_wr (ro := none) (values_any ⟨w.heap.size, 0, none⟩ s _)).mono ?_⟩
    rintro e w5 ⟨rfl, rfl⟩
    gi_wp2_with fail
    refine ⟨trivial, rfl, (calls_wr (ro := none) (regrouped_any _ _ fr 8 _)).mono ?_⟩
    rintro e w5 ⟨rfl, rfl⟩
    gi_wp2_with fail
    have hz5 : (((((w4.alloc (.cells #[.pointer (some ⟨w.heap.size, 0, none⟩)] 48)).alloc (.cells #[.string s] 9)).alloc (.cells #[.func (.func 40) #[] #[.pointer (some ⟨w3.heap.size + 1 + 1, 0, none⟩), .pointer (some ⟨w3.heap.size + 1, 0, none⟩)]] 51)).alloc (.cells #[.int .i64 (fr : Int)] 3)).alloc (.cells #[.int .i64 8] 3)).heap.size = w3.heap.size + 6 := by simp; omega
    have b5 : Below (w3.heap.size + 1) w4 (((((w4.alloc (.cells #[.pointer (some ⟨w.heap.size, 0, none⟩)] 48)).alloc (.cells #[.string s] 9)).alloc (.cells #[.func (.func 40) #[] #[.pointer (some ⟨w3.heap.size + 1 + 1, 0, none⟩), .pointer (some ⟨w3.heap.size + 1, 0, none⟩)]] 51)).alloc (.cells #[.int .i64 (fr : Int)] 3)).alloc (.cells #[.int .i64 8] 3)) := (((((Below.refl _ w4).alloc (by omega) _).alloc (by simp; omega) _).alloc (by simp; omega) _).alloc (by simp; omega) _).alloc (by simp; omega) _
    have o5 : WO w w3.heap.size w2.heap.size m F 0 (((((w4.alloc (.cells #[.pointer (some ⟨w.heap.size, 0, none⟩)] 48)).alloc (.cells #[.string s] 9)).alloc (.cells #[.func (.func 40) #[] #[.pointer (some ⟨w3.heap.size + 1 + 1, 0, none⟩), .pointer (some ⟨w3.heap.size + 1, 0, none⟩)]] 51)).alloc (.cells #[.int .i64 (fr : Int)] 3)).alloc (.cells #[.int .i64 8] 3)) := WO.below ⟨o4, r4, b4⟩ (by omega) (by omega) (by omega) b5
    obtain ⟨L, hL⟩ : ∃ L : List (Nat × Obj), L = [(w.heap.size, .cells (plcR D D.size) 59 (0, 0)), (w3.heap.size + 1, .cells #[.pointer (some ⟨w.heap.size, 0, none⟩)] 48 (0, 0)), (w3.heap.size + 1 + 1, .cells #[.string s] 9 (0, 0)), (w3.heap.size + 1 + 1 + 1, .cells #[.func (.func 40) #[] #[.pointer (some ⟨w3.heap.size + 1 + 1, 0, none⟩), .pointer (some ⟨w3.heap.size + 1, 0, none⟩)]] 51 (0, 0)), (w3.heap.size + 1 + 1 + 1 + 1, .cells #[.int .i64 (fr : Int)] 3 (0, 0)), (w3.heap.size + 1 + 1 + 1 + 1 + 1, .cells #[.int .i64 8] 3 (0, 0))] := ⟨_, rfl⟩
    have l5 : HL L (((((w4.alloc (.cells #[.pointer (some ⟨w.heap.size, 0, none⟩)] 48)).alloc (.cells #[.string s] 9)).alloc (.cells #[.func (.func 40) #[] #[.pointer (some ⟨w3.heap.size + 1 + 1, 0, none⟩), .pointer (some ⟨w3.heap.size + 1, 0, none⟩)]] 51)).alloc (.cells #[.int .i64 (fr : Int)] 3)).alloc (.cells #[.int .i64 8] 3)) := by
      intro x hx
      rw [hL] at hx
      simp only [List.mem_cons, List.not_mem_nil, or_false] at hx
      rcases hx with rfl | rfl | rfl | rfl | rfl | rfl
      · exact k4.below b5 (by omega)
      · exact Blk.cast' (((((Blk.new w4 48 #[.pointer (some ⟨w.heap.size, 0, none⟩)]).alloc _).alloc _).alloc _).alloc _) ⟨hsz4, rfl⟩
      · exact Blk.cast' ((((Blk.new (w4.alloc _) 9 #[.string s]).alloc _).alloc _).alloc _) ⟨by simp [hsz4], rfl⟩
      · exact Blk.cast' (((Blk.new ((w4.alloc _).alloc _) 51 #[.func (.func 40) #[] #[.pointer (some ⟨w3.heap.size + 1 + 1, 0, none⟩), .pointer (some ⟨w3.heap.size + 1, 0, none⟩)]]).alloc _).alloc _) ⟨by simp [hsz4], rfl⟩
      · exact Blk.cast' ((Blk.new (((w4.alloc _).alloc _).alloc _) 3 #[.int .i64 (fr : Int)]).alloc _) ⟨by simp [hsz4], rfl⟩
      · exact Blk.cast' (Blk.new ((((w4.alloc _).alloc _).alloc _).alloc _) 3 #[.int .i64 8]) ⟨by simp [hsz4], rfl⟩
    have hLn : ∀ x ∈ L, x.1 ≠ w3.heap.size ∧ x.1 ≠ w2.heap.size := by
      intro x hx
      rw [hL] at hx
      simp only [List.mem_cons, List.not_mem_nil, or_false] at hx
      rcases hx with rfl | rfl | rfl | rfl | rfl | rfl <;> dsimp only <;> omega
    have hLz : ∀ x ∈ L, x.1 < w3.heap.size + 6 := by
      intro x hx
      rw [hL] at hx
      simp only [List.mem_cons, List.not_mem_nil, or_false] at hx
      rcases hx with rfl | rfl | rfl | rfl | rfl | rfl <;> dsimp only <;> omega
    have hst : ∀ W A C B, capV (w3.heap.size + 1 + 1) (w3.heap.size + 1) w.heap.size D s W → W.heap.size ≤ B → capV (w3.heap.size + 1 + 1) (w3.heap.size + 1) w.heap.size D s A → Below B A C → capV (w3.heap.size + 1 + 1) (w3.heap.size + 1) w.heap.size D s C :=
      fun W A C B h hB hA hb => h.below hB hA hb
    have hcp : ∀ A, HL L A → capR (capV (w3.heap.size + 1 + 1) (w3.heap.size + 1) w.heap.size D s) 40 #[.pointer (some ⟨w3.heap.size + 1 + 1, 0, none⟩), .pointer (some ⟨w3.heap.size + 1, 0, none⟩)] (w3.heap.size + 1 + 1 + 1) (w3.heap.size + 1 + 1 + 1 + 1) (w3.heap.size + 1 + 1 + 1 + 1 + 1) fr 8 A := fun A h => by
      rw [hL] at h
      exact ⟨⟨h (w3.heap.size + 1 + 1, .cells #[.string s] 9 (0, 0)) (by simp), h (w3.heap.size + 1, .cells #[.pointer (some ⟨w.heap.size, 0, none⟩)] 48 (0, 0)) (by simp), h (w.heap.size, .cells (plcR D D.size) 59 (0, 0)) (by simp)⟩, h (w3.heap.size + 1 + 1 + 1, .cells #[.func (.func 40) #[] #[.pointer (some ⟨w3.heap.size + 1 + 1, 0, none⟩), .pointer (some ⟨w3.heap.size + 1, 0, none⟩)]] 51 (0, 0)) (by simp), h (w3.heap.size + 1 + 1 + 1 + 1, .cells #[.int .i64 (fr : Int)] 3 (0, 0)) (by simp), h (w3.heap.size + 1 + 1 + 1 + 1 + 1, .cells #[.int .i64 8] 3 (0, 0)) (by simp)⟩
    have hseq : Gives Tryd.prog 39 #[.pointer (some ⟨w3.heap.size + 1 + 1 + 1, 0, none⟩), .pointer (some ⟨w3.heap.size + 1 + 1 + 1 + 1, 0, none⟩), .pointer (some ⟨w3.heap.size + 1 + 1 + 1 + 1 + 1, 0, none⟩)]
        (capR (capV (w3.heap.size + 1 + 1) (w3.heap.size + 1) w.heap.size D s) 40 #[.pointer (some ⟨w3.heap.size + 1 + 1, 0, none⟩), .pointer (some ⟨w3.heap.size + 1, 0, none⟩)] (w3.heap.size + 1 + 1 + 1) (w3.heap.size + 1 + 1 + 1 + 1) (w3.heap.size + 1 + 1 + 1 + 1 + 1) fr 8) T (fun k => .int .u64 (F k : Int)) := by
      rw [HT.out, HF.out]
      exact regrouped_gives _ 40 #[.pointer (some ⟨w3.heap.size + 1 + 1, 0, none⟩), .pointer (some ⟨w3.heap.size + 1, 0, none⟩)] _ _ _ fr 8 s.size (fun i => plc D D.size (byteS s i) - 1)
        (enters_of Tryd.func40 (by kernel_rfl) rfl) (values_gives D s hs hD2 HA.out _ _ _) hst hf (by decide) (fun i _ => by have := plc_le D (byteS s i) D.size; have := Nat.two_pow_pos fr; show plc D D.size (byteS s i) - 1 < 2 ^ fr; omega)
    generalize (((((w4.alloc (.cells #[.pointer (some ⟨w.heap.size, 0, none⟩)] 48)).alloc (.cells #[.string s] 9)).alloc (.cells #[.func (.func 40) #[] #[.pointer (some ⟨w3.heap.size + 1 + 1, 0, none⟩), .pointer (some ⟨w3.heap.size + 1, 0, none⟩)]] 51)).alloc (.cells #[.int .i64 (fr : Int)] 3)).alloc (.cells #[.int .i64 8] 3)) = w5 at hz5 b5 o5 l5 ⊢
    clear hL b4 o4 r4 k4 b5 r3 b3 k3
    refine wpIn_range rfl (enters_of Tryd.func39 (by kernel_rfl) rfl) hseq rfl (fun i A => WO w w3.heap.size w2.heap.size m F i A ∧ HL L A)
      (fun i A C h hz hb => ⟨h.1.below (by omega) (by omega) (by omega) hb, h.2.below (hz5 ▸ hLz) hb⟩) (hcp _ l5) (fun A C h hb => (hcp w5 l5).below hst (Nat.le_refl _) h hb) ⟨o5, l5⟩
      (fun i => { tmps := #[.string s, .string D, .int .i64 (fr : Int), undef, undef, undef, .string ⟨#[]⟩, .bool false, .pointer (some ⟨w.heap.size, 0, none⟩), .int .i64 (whole : Int), .pointer (some ⟨w3.heap.size, 0, none⟩), .int .u64 (F i : Int), undef, undef, .string D, .pointer (some ⟨w.heap.size, 0, none⟩), .pointer (some ⟨w.heap.size, 0, none⟩), .string s, .bool true, .bool false, .string s, .int .i64 (s.size : Int), .int .i64 (fr : Int), .int .i64 (N : Int), .int .i64 (whole : Int), .int .i64 (whole : Int), .int .i64 (m : Int), .slice (some ⟨w2.heap.size, 0, none⟩) 0 m, .pointer (some ⟨w.heap.size, 0, none⟩), .string s, .func (.func 40) #[] #[.pointer (some ⟨w3.heap.size + 1 + 1, 0, none⟩), .pointer (some ⟨w3.heap.size + 1, 0, none⟩)], .int .i64 (fr : Int), .func (.func 39) #[] #[.pointer (some ⟨w3.heap.size + 1 + 1 + 1, 0, none⟩), .pointer (some ⟨w3.heap.size + 1 + 1 + 1 + 1, 0, none⟩), .pointer (some ⟨w3.heap.size + 1 + 1 + 1 + 1 + 1, 0, none⟩)], .int .u64 (F i : Int), undef, undef, undef, undef, undef, undef, undef, undef, undef, undef, undef, undef, undef, undef, undef, undef, undef, undef, undef, undef], defers := [] }) ?assign ?body ?done
    case assign =>
      intro l2 i V K hK
      gi_wp2_with fail
      exact hK
    case body =>
      rintro l2 i V hi ⟨ho, hl⟩ hc hz
      have c0 : V.cell? ⟨w3.heap.size, 0, none⟩ = some (.slice (some ⟨w2.heap.size, 0, none⟩) i m) := ho.o.cell 0
      have hrow := ho.row
      have hfi := hF256 i
      have hw8 : IntKind.u8.wrap (F i : Int) = (F i : Int) := by
        have : ∀ x : Int, 0 ≤ x → x < 256 → IntKind.u8.wrap x = x := fun x h1 h2 => by simp [IntKind.wrap, IntKind.bits, IntKind.signed]; omega
        exact this _ (by omega) (by omega)
      gi_wp2_with (gi_at_builtin; refine wpListIn_pushC rfl (.tmp 34) (.tmp 37) rfl rfl hrow (hTm i hi) rfl _ rfl ?_; intro w6 r6 g6; have o6 : Blk w6 w3.heap.size 35 #[.slice (some ⟨w2.heap.size, 0, none⟩) i m] := (g6.block _ (by have := ho.o.lt; simp; omega) (by simp; omega)).trans (ho.o.alloc _); have c6 := o6.cell 0; have f6 := o6.frozen 0)
      have hlo := ho.o.lt
      have l7 : HL L (w6.setCell ⟨w3.heap.size, 0, none⟩ (.slice (some ⟨w2.heap.size, 0, none⟩) (i + 1) m)) := hl.block fun x hx => by
        have hxV := (Array.getElem?_eq_some_iff.1 (hl x hx)).1
        exact (Below.heap_setCell _ _ _ _ (hLn x hx).1).trans ((g6.block _ (by simp; omega) (by simpa using (hLn x hx).2)).trans (Below.heap_alloc _ _ _ hxV))
      refine ⟨⟨⟨o6.set_ 0 _, r6.setFar (by simp; omega) _, ?_⟩, l7⟩, hcp _ l7, ?_⟩
      · exact ((ho.b.alloc ho.b.size _).grown g6 (by have := ho.b.size; simp; omega) (fun k e => by cases e; omega)).setCell (p := ⟨w3.heap.size, 0, none⟩) (by dsimp only; omega) _
      · exact ((Upward.alloc _ _ _).trans (Upward.grown g6 fun k e => by cases e; omega)).trans (Upward.setCell _ _ _ (by dsimp only; omega))
    case done =>
      rintro Z V hZ ⟨ho, hl⟩ hc hK
      have c0 : V.cell? ⟨w3.heap.size, 0, none⟩ = some (.slice (some ⟨w2.heap.size, 0, none⟩) T m) := ho.o.cell 0
      have hwTi : (whole : Int) ≤ T := by omega
      have hmTi : (T : Int) ≤ m := by omega
      have hwmi : (whole : Int) ≤ m := by omega
      have bD : Below w.heap.size w (V.putObj Z (.deferred none)) := ho.b.trans (below_putObj _ hK (by omega))
      gi_wp2_with fail
      obtain ⟨R, hR⟩ : ∃ R, R = T - whole := ⟨_, rfl⟩
      rw [← hR]
      have hR1 : R ≤ 1 := by have := HM.out; omega
      have HR := Lib.hid hR
      clear hR
      gi_loopw [43] (fun v wr => ∃ j : Nat, v = .int .i64 (j : Int) ∧ j ≤ R ∧ wr = V ∧ ∀ k, whole ≤ k → k < whole + j → F k = 0) (fun v _ => R - (intOf v).toNat)
      case atStart => exact ⟨0, rfl, by omega, rfl, fun k h1 h2 => by omega⟩
      case round =>
        obtain ⟨j, rfl, hj, rfl, hzs⟩ := hrel
        by_cases hlt : j < R
        · have hlti : (j : Int) < R := by omega
          have HJ := Lib.hid hlt
          have q := ho.row.at_ (j := whole + j) (by have := HR.out; omega)
          have hz256 := hF256 (whole + j)
          obtain ⟨z, hz⟩ : ∃ z, z = F (whole + j) := ⟨_, rfl⟩
          rw [← hz] at q hz256
          have HZ := Lib.hid hz
          have HS := Lib.hid hzs
          clear hz hzs
          by_cases h0 : z = 0
          · have h0i : (z : Int) = 0 := by omega
            gi_wp2_with fail
            go_roundw
            case rel =>
              refine ⟨j + 1, by go_num, HJ.out, by trivial, fun k h1 h2 => ?_⟩
              by_cases hk : k = whole + j
              · rw [hk, ← HZ.out]; exact h0
              · exact HS.out k h1 (by omega)
            case measure => have := HJ.out; simp [intOf]; omega
          · have h0i : ¬ (z : Int) = 0 := by omega
            obtain ⟨rfl, rfl⟩ := H1.out HA.out ⟨whole + j, by omega, by have := HR.out; have := HJ.out; omega, by rw [← HZ.out]; exact h0⟩
            gi_wp2_with fail
            refine ⟨by simp, .inl ⟨_, _, rfl, run_takeDeferred hK, ?_⟩⟩
            exact ⟨_, results_tmp2 rfl _ _ _, rfl, bD⟩
        · have hlti : ¬ (j : Int) < R := by omega
          obtain ⟨ht, rfl⟩ := H2.out HA.out (fun k h1 h2 => hzs k h1 (by have := HR.out; omega))
          have hcv := (ho.row.less hwT).text hF256
          rw [← ht] at hcv
          clear hzs ht
          gi_wp2_with fail
          refine ⟨by simp, .inl ⟨_, _, rfl, run_takeDeferred hK, ?_⟩⟩
          exact ⟨_, results_tmp2 rfl _ _ _, rfl, bD⟩
end Go.Proofs.YtbipbkancghkfaaDoor
