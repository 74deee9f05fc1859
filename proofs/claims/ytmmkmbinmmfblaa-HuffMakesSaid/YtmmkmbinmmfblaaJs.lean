/- The developers' treeLengths of chapter 9. -/
import Derived.Test.YtmmkmbinmmfblaaJp
import Derived.Test.YtmmkmbinmmfblaaJq
namespace Go.Proofs.Ytmmkmbinmmfblaa
open Go.RowKit
attribute [local go_sem] Oper.semAt_some
theorem clip_any (g n N : Nat) (hn : n ≤ N) (w : World) :
    Calls Try.prog 36 #[.slice (some ⟨g, 0, none⟩) n N] w fun e w' => e = .returned (.slice (some ⟨g, 0, none⟩) n n) ∧ w' = w := by
  go_enter Try.func36, Try.ntmps36
  go_wp2_with fail
  go_ret
  exact ⟨rfl, rfl⟩
theorem sum_nds (c : Nat → Nat) (n : Nat) (h : ∀ i, i < n → c i ≤ 1099511627776) : sumK (nds c n) ≤ n * 1099511627776 := by
  have app : ∀ a b : List Kd, sumK (a ++ b) = sumK a + sumK b := fun a b => by
    induction a with
    | nil => exact (Nat.zero_add _).symm
    | cons x a ih => show x.1 + sumK (a ++ b) = x.1 + sumK a + sumK b; rw [ih]; omega
  induction n with
  | zero => exact Nat.zero_le _
  | succ n ih =>
    have h1 := ih fun i hi => h i (by omega)
    have h2 := h n (by omega)
    show sumK (nds c n ++ _) ≤ _
    rw [app, Nat.add_mul, Nat.one_mul]
    refine Nat.add_le_add h1 ?_
    split
    · show c n + 0 ≤ _; omega
    · exact Nat.zero_le _
theorem own_is {B g k cA : Nat} {ab : Nat → Nat} {w : World} (h : w.ownsRow B 3 1 (.slice (some ⟨g, 0, none⟩) k cA) k (intsN ab k)) (hb : ∀ i, i < k → ab i < 9223372036854775808) : IS (some ⟨g, 0, none⟩) k cA (fun i => (ab i : Int)) w :=
  ⟨(fun e => by cases e), (fun a e i hi => by
    cases e
    rw [addr_add, Nat.zero_add, h.cellAt i (by omega), intsN_get _ hi]), (fun a e => by cases e; exact (h.lt g rfl).2), (fun i _ => by omega), (fun i hi => by have := hb i hi; omega)⟩
theorem IS.belowB {p : Option Addr} {n cap B : Nat} {f : Nat → Int} {w w' : World} (h : IS p n cap f w) (hp : ∀ a, p = some a → a.block < B) (hb : Below B w w') : IS p n cap f w' :=
  ⟨h.nil_, fun a ha i hi => by
    have hl := hp a ha
    have : (a.add i).block = a.block := by unfold Addr.add; split <;> rfl
    rw [hb.cell (p := a.add i) (by rw [this]; exact hl)]; exact h.cell a ha i hi, fun a ha => Nat.lt_of_lt_of_le (h.lt a ha) hb.size, h.lo, h.hi⟩
theorem IS.drewI {p : Option Addr} {n cap : Nat} {f : Nat → Int} {w : World} (h : IS p n cap f w) : IS p n cap f w.drew := ⟨h.nil_, h.cell, h.lt, h.lo, h.hi⟩
theorem capB.belowB {b : Nat} {p : Option Addr} {n cap B : Nat} {f : Nat → Int} {w w' : World} (h : capB b p n cap f w) (hb0 : b < B) (hp : ∀ a, p = some a → a.block < B) (hb : Below B w w') : capB b p n cap f w' := ⟨h.1.below hb hb0, h.2.belowB hp hb⟩
/-- The depths from the last number on. -/
def dpF (D : Nat → Nat) (N i j : Nat) : Int := if N - i ≤ j then (D j : Int) else 0
theorem dpF_put (D : Nat → Nat) (N i k j : Nat) (hk : k = N - 1 - i) (hi : i < N) : (if j = k then Value.int .i64 (D k : Int) else Value.int .i64 (dpF D N i j)) = Value.int .i64 (dpF D N (i + 1) j) := by
  unfold dpF
  by_cases h : j = k
  · subst h; rw [if_pos rfl, if_pos (by omega)]
  · rw [if_neg h]
    by_cases h2 : N - i ≤ j
    · rw [if_pos h2, if_pos (by omega)]
    · rw [if_neg h2, if_neg (by omega)]
theorem dpF_same (D : Nat → Nat) (N i : Nat) (h0 : D (N - 1 - i) = 0) (hi : i < N) (j : Nat) : dpF D N i j = dpF D N (i + 1) j := by
  unfold dpF
  by_cases h : j = N - 1 - i
  · subst h; rw [if_neg (by omega), if_pos (by omega), h0]; rfl
  · by_cases h2 : N - i ≤ j
    · rw [if_pos h2, if_pos (by omega)]
    · rw [if_neg h2, if_neg (by omega)]
/-- What holds of the world while the lengths are written. -/
structure TL (w : World) (gl gb N : Nat) (D : Nat → Nat) (i : Nat) (wx : World) : Prop where
  b : Below w.heap.size w wx
  l : Blk wx gl 3 (rI N (dpF D N i))
  v : Blk wx gb 22 #[.slice (some ⟨gl, 0, none⟩) N N]
theorem TL.below {w : World} {gl gb N : Nat} {D : Nat → Nat} {i B : Nat} {A C : World} (h : TL w gl gb N D i A) (hB : w.heap.size ≤ B) (hl : gl < B) (hb : gb < B) (hbe : Below B A C) : TL w gl gb N D i C :=
  ⟨h.b.trans (hbe.mono hB), h.l.below hbe hl, h.v.below hbe hb⟩
set_option maxRecDepth 100000 in
set_option maxHeartbeats 4000000 in
theorem treeLengths_one (p : Option Addr) (n cap : Nat) (c : Nat → Nat) (w : World) (h : IS p n cap (fun i => (c i : Int)) w) (hn : n ≤ 300) (h1 : (nds c n).length = 1) :
    Calls Try.prog 24 #[.slice p n cap] w fun e w' => ∃ p2 c2, e = .returned (.slice p2 n c2) ∧ IS p2 n c2 (fun i => (lenO c n i : Int)) w' ∧ Below w.heap.size w w' := by
  have CS := symbolsOf_any p n cap c w h hn
  rw [h1] at CS
  have hm := run_ints n (by omega)
  refine (callsIn_wide (n := 0)).1 ?_
  refine callsIn_of_wp_marks Try.func24 rfl trivial ?_
  simp only [Try.ntmps24, List.size_toArray, List.length_cons, List.length_nil, Nat.reduceAdd, Nat.reduceSub, Array.replicate_succ, Array.replicate_zero, List.push_toArray, List.append_toArray, List.nil_append, List.cons_append]
  gi_wp2_with fail
  refine ⟨trivial, rfl, (calls_wr (ro := none) CS).mono ?_⟩
  rintro e w1 ⟨S, ao, cp, rfl, hp, hs, hq, hb⟩
  have hlS : S.length = 1 := hp.length_eq.trans h1
  match S, hlS with
  | [x], _ =>
  obtain ⟨g, off, rfl, hx0, hx1⟩ := hq.head
  have hgl : g < w1.heap.size := by
    have := hq.low (by have := hq.le; simp at this; omega) _ rfl
    exact this
  have hx := nds_mem.1 (hp.mem_iff.1 (List.mem_singleton.2 rfl))
  have hxn : x.2 < n := hx.1
  have hxi : (x.2 : Int) < (n : Int) := by omega
  have HX := Lib.hid hp
  have hgn : g ≠ w1.heap.size := by omega
  have hgn1 : g ≠ w1.heap.size + 1 := by omega
  obtain ⟨y, hy⟩ : ∃ y, y = x.2 := ⟨_, rfl⟩
  rw [← hy] at hx1 hxn hxi
  have HY := Lib.hid hy
  clear CS hs hq hx hp hx0 hy h
  have hb3 : Blk ((w1.alloc (.cells #[.slice (some ⟨g, off, none⟩) 1 cp, .slice none 0 0] 73)).alloc (.cells (rI n fun _ => 0) 3)) (w1.heap.size + 1) 3 (rI n fun _ => 0) := (Blk.new _ _ _).cast' ⟨by simp, rfl⟩
  have c3 := hb3.at_ hxn
  have f3 := hb3.frozen y
  have hbb : Below w.heap.size w ((w1.alloc (.cells #[.slice (some ⟨g, off, none⟩) 1 cp, .slice none 0 0] 73)).alloc (.cells (rI n fun _ => 0) 3)) := (hb.alloc hb.size _).alloc (by have := hb.size; simp; omega) _
  have HR : Hid (Blk ((w1.alloc (.cells #[.slice (some ⟨g, off, none⟩) 1 cp, .slice none 0 0] 73)).alloc (.cells ((rI n fun _ => 0).setIfInBounds y (.int .i64 1)) 3)) (w1.heap.size + 1) 3 (row n fun j => if j = y then Value.int .i64 1 else .int .i64 0)) := Lib.hid (((Blk.new _ _ _).cast' ⟨by simp, rfl⟩).cast_ (row_set _ hxn _))
  have HBB : Hid (Below w.heap.size w ((w1.alloc (.cells #[.slice (some ⟨g, off, none⟩) 1 cp, .slice none 0 0] 73)).alloc (.cells ((rI n fun _ => 0).setIfInBounds y (.int .i64 1)) 3))) := Lib.hid ((hb.alloc hb.size _).alloc (by have := hb.size; simp; omega) _)
  clear hb hb3 hbb
  gi_wp2_with fail
  refine ⟨_, results_tmp rfl _ _ _, ?_⟩
  refine ⟨some ⟨w1.heap.size + 1, 0, none⟩, n, rfl, IS.row (HR.out.cast_ (row_ext fun i hi => ?_)) (fun i _ => by omega) (fun i _ => by unfold lenO; rw [if_pos h1]; split <;> omega), HBB.out⟩
  have hmem : c i ≠ 0 ↔ i = y := by
    rw [HY.out]
    constructor
    · intro h0
      have := (HX.out).mem_iff.2 ((nds_mem (x := (c i, i))).2 ⟨hi, by show 0 < c i; omega, rfl⟩)
      rw [← List.mem_singleton.1 this]
    · rintro rfl
      have := nds_mem.1 (HX.out.mem_iff.1 (List.mem_singleton.2 rfl))
      omega
  show _ = Value.int .i64 ((lenO c n i : Nat) : Int)
  unfold lenO
  by_cases h0 : i = y
  · rw [if_pos h0, if_neg (hmem.2 h0), if_pos h1]; rfl
  · rw [if_neg h0, if_pos (Decidable.not_not.1 (fun hh => h0 (hmem.1 hh)))]; rfl
set_option maxRecDepth 100000 in
set_option maxHeartbeats 8000000 in
theorem treeLengths_more (p : Option Addr) (n cap : Nat) (c : Nat → Nat) (w : World) (h : IS p n cap (fun i => (c i : Int)) w) (hn : n ≤ 300) (hc : ∀ i, i < n → c i ≤ 1099511627776) (h1 : (nds c n).length ≠ 1) :
    Calls Try.prog 24 #[.slice p n cap] w fun e w' => ∃ p2 c2, e = .returned (.slice p2 n c2) ∧ IS p2 n c2 (fun i => (lenO c n i : Int)) w' ∧ Below w.heap.size w w' := by
  have CS := symbolsOf_any p n cap c w h hn
  have hln := nds_len c n
  have hsu := sum_nds c n hc
  obtain ⟨L, hL⟩ : ∃ L, L = (nds c n).length := ⟨_, rfl⟩
  rw [← hL] at CS h1 hln
  have HLL := Lib.hid hL
  have HSU := Lib.hid hsu
  clear hL hsu
  refine (callsIn_wide (n := 0)).1 ?_
  refine callsIn_of_wp_marks Try.func24 rfl trivial ?_
  simp only [Try.ntmps24, List.size_toArray, List.length_cons, List.length_nil, Nat.reduceAdd, Nat.reduceSub, Array.replicate_succ, Array.replicate_zero, List.push_toArray, List.append_toArray, List.nil_append, List.cons_append]
  gi_wp2_with fail
  refine ⟨trivial, rfl, (calls_wr (ro := none) CS).mono ?_⟩
  rintro e w1 ⟨S, ao, cp, rfl, hp, hs, hq, hb⟩
  clear CS h
  have hlS : S.length = L := hp.length_eq.trans HLL.out.symm
  obtain ⟨q, hqd⟩ : ∃ q, q = w1.heap.size := ⟨_, rfl⟩
  have hok := okK_perm hp.symm (nds_ok c n)
  have htq : TQ S [] n := ⟨by rw [List.append_nil]; exact hok, hs, List.Pairwise.nil, (fun x _ y hy => by cases hy), 0, (fun x _ => Nat.zero_le _), (fun x hx => by cases hx)⟩
  obtain ⟨A, N, hAN⟩ : ∃ A N, joinV S.length S [] (fun _ => 0) n = (A, N) := ⟨_, _, rfl⟩
  have hup := joinV_up S.length S [] (fun _ => 0) n htq (fun i h => absurd h (Nat.lt_irrefl 0))
  rw [hAN] at hup
  have hdep := fun i hi => join_dep (c := c) (n := n) hp hs S.length (Nat.le_refl _) i hi
  rw [hAN] at hdep
  have hNb : N ≤ 601 := by
    have h3 := joinV_size S.length S [] (fun _ => 0) n
    rw [hAN] at h3
    simp only [List.length_nil] at h3
    omega
  have b2 : Below w1.heap.size w1 (w1.alloc (.cells #[.slice ao L cp, .slice none 0 0] 73)) := (Below.refl _ _).alloc (Nat.le_refl _) _
  have CJ := Lib.hid (join_any w1.heap.size n S ao cp (w1.alloc (.cells #[.slice ao L cp, .slice none 0 0] 73)) (by rw [hlS]; exact Blk.new w1 _ _) ((hq.mono (Nat.zero_le _)).below b2) (fun h0 a ha => by have := hq.low h0 a ha; omega) htq (by rw [sumK_perm hp]; have := HSU.out; omega) hn (by omega) A N hAN)
  have HB1 := Lib.hid hb
  have hk : (w1.alloc (.cells #[.slice ao L cp, .slice none 0 0] 73)).cell? ⟨w1.heap.size, 0, none⟩ = some (.slice ao L cp) := (Blk.new w1 _ _).cell 0
  have h1i : ¬ (L : Int) = 1 := by omega
  have hbq : ((L : Int) == 1) = false := by simpa using h1i
  have HUP := Lib.hid hup
  have HDEP := Lib.hid hdep
  clear hp hs hq hb hlS hok htq hup hdep hqd q hAN b2
  gi_wp2_with fail
  refine ⟨trivial, rfl, (calls_wr (ro := none) CJ.out).mono ?_⟩
  rintro e w3 ⟨gA, cA, rfl, hown, hg3⟩
  clear CJ
  have HB3 : Hid (Below w.heap.size w w3) := Lib.hid ((HB1.out.alloc HB1.out.size _).grown hg3 (by have := HB1.out.size; simp; omega) (fun k e => by cases e; exact HB1.out.size))
  have HIS : Hid (IS (some ⟨gA, 0, none⟩) N cA (fun i => (A i : Int)) w3) := Lib.hid (own_is hown (fun i _ => by
    have h3 := HUP.out.2 i
    omega))
  have hm := run_ints N (by omega)
  clear hown hg3 HB1
  gi_wp2_with fail
  refine ⟨trivial, rfl, (calls_wr (ro := none) (backward_any _ _ _ _)).mono ?_⟩
  rintro e w4 ⟨rfl, rfl⟩
  gi_wp2_with fail
  obtain ⟨D, hD⟩ : ∃ D : Nat → Nat, D = dP A N := ⟨_, rfl⟩
  have HDI : Hid (∀ i, D i = if 0 < A i then D (A i) + 1 else 0) := Lib.hid fun i => by rw [hD]; exact dP_is HUP.out.2 i
  have HDL : Hid (∀ i, D i ≤ N) := Lib.hid fun i => by rw [hD]; exact dP_le A N i
  have HDN : Hid (∀ i, i < n → D i = if c i = 0 then 0 else dep c n i) := Lib.hid fun i hi => by rw [hD]; exact HDEP.out i hi
  have HNN : Hid (n ≤ N) := Lib.hid HUP.out.1
  have HUP2 : Hid (∀ i, 0 < A i → i < A i ∧ A i < N) := Lib.hid HUP.out.2
  have hgA : gA < w3.heap.size := HIS.out.lt _ rfl
  obtain ⟨w5, hw5⟩ : ∃ w5, w5 = ((w3.alloc (.cells (rI N fun _ => 0) 3)).alloc (.cells #[.slice (some ⟨w3.heap.size, 0, none⟩) N N] 22)).alloc (.cells #[.slice (some ⟨gA, 0, none⟩) N cA] 22) := ⟨_, rfl⟩
  have hz5 : w5.heap.size = w3.heap.size + 1 + 1 + 1 := by rw [hw5]; simp
  have b5 : Below w3.heap.size w3 w5 := by rw [hw5]; exact (((Below.refl _ _).alloc (Nat.le_refl _) _).alloc (by simp) _).alloc (by simp; omega) _
  have t5 : TL w w3.heap.size (w3.heap.size + 1) N D 0 w5 := by
    refine ⟨HB3.out.trans (b5.mono HB3.out.size), ?_, ?_⟩
    · rw [hw5]
      refine (((Blk.new w3 _ _).alloc _).alloc _).cast_ (row_ext fun i hi => ?_)
      show _ = Value.int .i64 (dpF D N 0 i)
      unfold dpF
      rw [if_neg (by omega)]
    · rw [hw5]
      exact ((Blk.new _ _ _).cast' ⟨by simp, rfl⟩).alloc _
  have k5 : capB (w3.heap.size + 1 + 1) (some ⟨gA, 0, none⟩) N cA (fun i => (A i : Int)) w5 := by
    refine ⟨?_, HIS.out.below b5⟩
    rw [hw5]
    exact (Blk.new _ _ _).cast' ⟨by simp, rfl⟩
  rw [← hw5]
  have HBW := Lib.hid HB3.out.size
  clear hw5 b5 hD HDEP HUP hm HB3
  refine wpIn_range2 rfl (enters_of Try.func45 (by kernel_rfl) rfl) (backward_gives (some ⟨gA, 0, none⟩) N cA (fun i => (A i : Int)) (by omega) (w3.heap.size + 1 + 1)) (fun _ => rfl) (fun i X => TL w w3.heap.size (w3.heap.size + 1) N D i X)
    (fun i X C hh hz hb => hh.below (B := w5.heap.size) (by have := HBW.out; omega) (by omega) (by omega) hb) k5 (fun X C hh hb => hh.belowB (B := w5.heap.size) (by omega) (fun a ha => by cases ha; show gA < _; omega) hb) t5
    (fun i => { tmps := #[.slice p n cap, undef, .slice none 0 0, .pointer (some ⟨w1.heap.size, 0, none⟩), undef, .slice (some ⟨gA, 0, none⟩) N cA, .pointer (some ⟨w3.heap.size + 1, 0, none⟩), .int .i64 ((N - 1 - i : Nat) : Int), .int .i64 (A (N - 1 - i) : Int), .slice p n cap, .slice ao L cp, .agg #[.slice ao L cp, .slice none 0 0], .pointer (some ⟨w1.heap.size, 0, none⟩), .slice ao L cp, .int .i64 (L : Int), .bool false, undef, undef, undef, undef, undef, undef, undef, undef, undef, undef, undef, .slice p n cap, .int .i64 (n : Int), .slice (some ⟨gA, 0, none⟩) N cA, .slice (some ⟨gA, 0, none⟩) N cA, .int .i64 (N : Int), .slice (some ⟨w3.heap.size, 0, none⟩) N N, .slice (some ⟨gA, 0, none⟩) N cA, .func (.func 45) #[] #[.pointer (some ⟨w3.heap.size + 1 + 1, 0, none⟩)], .int .i64 ((N - 1 - i : Nat) : Int), .int .i64 (A (N - 1 - i) : Int), undef, undef, undef, undef, undef, undef, undef, undef, undef, undef, undef, undef, undef, undef, undef], defers := [] }) ?assign ?body ?done
  case assign =>
    intro l2 i V K hK
    gi_wp2_with fail
    exact hK
  case body =>
    rintro l2 i V hi ht hcap hz
    obtain ⟨k, hk⟩ : ∃ k, k = N - 1 - i := ⟨_, rfl⟩
    obtain ⟨up, hup⟩ : ∃ up, up = A k := ⟨_, rfl⟩
    rw [← hk, ← hup]
    have hkN : k < N := by omega
    have hDk := HDI.out k
    rw [← hup] at hDk
    apply wpIn_block
    by_cases h0 : up = 0
    · rw [if_neg (by omega)] at hDk
      have hT2 : TL w w3.heap.size (w3.heap.size + 1) N D (i + 1) V := ⟨ht.b, ht.l.cast_ (row_ext fun j _ => congrArg (fun x : Int => Value.int .i64 x) (dpF_same D N i (by rw [← hk]; exact hDk) hi j)), ht.v⟩
      have H2 := Lib.hid hT2
      have HC := Lib.hid hcap
      subst h0
      clear ht hDk hT2 hcap hk hup
      gi_wp2_with fail
      exact ⟨H2.out, HC.out, Upward.refl _ _⟩
    · rw [if_pos (by omega)] at hDk
      have hupN := HUP2.out k (by omega)
      rw [← hup] at hupN
      have hui : (up : Int) > 0 := by omega
      have huN : (up : Int) < (N : Int) := by omega
      have hkNi : (k : Int) < (N : Int) := by omega
      have hDu := HDL.out up
      have HAD : Hid (IntKind.i64.wrap ((D up : Int) + 1) = (D up : Int) + 1) := Lib.hid (IntWalk.i64_in _ (by omega))
      have HCV : Hid (∀ (f1 : Bool) wx, (bif f1 then TL w w3.heap.size (w3.heap.size + 1) N D (i + 1) wx ∧ capB (w3.heap.size + 1 + 1) (some ⟨gA, 0, none⟩) N cA (fun i => (A i : Int)) wx ∧ Upward w5.heap.size V wx else TL w w3.heap.size (w3.heap.size + 1) N D i wx ∧ capB (w3.heap.size + 1 + 1) (some ⟨gA, 0, none⟩) N cA (fun i => (A i : Int)) wx ∧ Upward w5.heap.size V wx) → wx.cell? ⟨w3.heap.size + 1, 0, none⟩ = some (.slice (some ⟨w3.heap.size, 0, none⟩) N N)) := Lib.hid fun f1 wx hh => by
        cases f1 with
        | false => exact hh.1.v.cell 0
        | true => exact hh.1.v.cell 0
      have HCU : Hid (∀ wx, TL w w3.heap.size (w3.heap.size + 1) N D i wx ∧ capB (w3.heap.size + 1 + 1) (some ⟨gA, 0, none⟩) N cA (fun i => (A i : Int)) wx ∧ Upward w5.heap.size V wx → wx.cell? ⟨w3.heap.size, up, none⟩ = some (.int .i64 (D up : Int))) := Lib.hid fun wx hh => by
        rw [hh.1.l.at_ hupN.2]
        unfold dpF
        rw [if_pos (by omega)]
      have HCO : Hid (∀ wx, TL w w3.heap.size (w3.heap.size + 1) N D i wx ∧ capB (w3.heap.size + 1 + 1) (some ⟨gA, 0, none⟩) N cA (fun i => (A i : Int)) wx ∧ Upward w5.heap.size V wx → wx.cell? ⟨w3.heap.size, k, none⟩ = some (.int .i64 (dpF D N i k))) := Lib.hid fun wx hh => hh.1.l.at_ hkN
      have HFO : Hid (∀ wx, TL w w3.heap.size (w3.heap.size + 1) N D i wx ∧ capB (w3.heap.size + 1 + 1) (some ⟨gA, 0, none⟩) N cA (fun i => (A i : Int)) wx ∧ Upward w5.heap.size V wx → wx.frozen? ⟨w3.heap.size, k, none⟩ = false) := Lib.hid fun wx hh => hh.1.l.frozen k
      have HPUT : Hid (∀ wx, TL w w3.heap.size (w3.heap.size + 1) N D i wx ∧ capB (w3.heap.size + 1 + 1) (some ⟨gA, 0, none⟩) N cA (fun i => (A i : Int)) wx ∧ Upward w5.heap.size V wx → TL w w3.heap.size (w3.heap.size + 1) N D (i + 1) (wx.setCell ⟨w3.heap.size, k, none⟩ (.int .i64 ((D up + 1 : Nat) : Int))) ∧ capB (w3.heap.size + 1 + 1) (some ⟨gA, 0, none⟩) N cA (fun i => (A i : Int)) (wx.setCell ⟨w3.heap.size, k, none⟩ (.int .i64 ((D up + 1 : Nat) : Int))) ∧ Upward w5.heap.size V (wx.setCell ⟨w3.heap.size, k, none⟩ (.int .i64 ((D up + 1 : Nat) : Int)))) := Lib.hid fun wx ⟨hh1, hh2, hh3⟩ => by
        have hBW := HBW.out
        refine ⟨⟨hh1.b.setCell (p := ⟨w3.heap.size, k, none⟩) hBW _, (hh1.l.put hkN _).cast_ (row_ext fun j _ => ?_), hh1.v.far (show w3.heap.size + 1 ≠ w3.heap.size by omega) _⟩, ⟨hh2.1.far (show w3.heap.size + 1 + 1 ≠ w3.heap.size by omega) _, hh2.2.set _ _ (fun a ha => by cases ha; show gA ≠ w3.heap.size; omega)⟩, hh3.trans (Upward.setCell _ _ _ (show w3.heap.size < w5.heap.size by omega))⟩
        rw [← hDk]
        exact dpF_put D N i k j hk hi
      have HT0 := Lib.hid ht
      have HC0 := Lib.hid hcap
      clear ht hcap hDk hk hup hDu hz5
      gi_wp2_with fail
      have hst : TL w w3.heap.size (w3.heap.size + 1) N D i V.drew ∧ capB (w3.heap.size + 1 + 1) (some ⟨gA, 0, none⟩) N cA (fun i => (A i : Int)) V.drew ∧ Upward w5.heap.size V V.drew := ⟨⟨HT0.out.b.drew, HT0.out.l.drew, HT0.out.v.drew⟩, ⟨HC0.out.1.drew, HC0.out.2.drewI⟩, Upward.drew _ _⟩
      refine wpIn_region_anyR (ro := some l2) (Two 8 1000 fun f1 _ wx => bif f1 then TL w w3.heap.size (w3.heap.size + 1) N D (i + 1) wx ∧ capB (w3.heap.size + 1 + 1) (some ⟨gA, 0, none⟩) N cA (fun i => (A i : Int)) wx ∧ Upward w5.heap.size V wx else TL w w3.heap.size (w3.heap.size + 1) N D i wx ∧ capB (w3.heap.size + 1 + 1) (some ⟨gA, 0, none⟩) N cA (fun i => (A i : Int)) wx ∧ Upward w5.heap.size V wx) (by kernel_rfl) (by kernel_rfl) hst ?_
      refine anyR_take (i := 0) (v := .slice (some ⟨w3.heap.size, 0, none⟩) N N) rfl (by kernel_rfl) (by kernel_rfl) (by kernel_rfl) (yr_other (by decide) (by decide) rfl (fun f1 f2 wx hT => ?_)) ?_
      · have c0 := HCV.out f1 wx hT; refine Lands.r (lands_value (w := wx) ?_ hT); go_simp
      simp only [pu]
      refine anyR_take (i := 1) (v := ?_) rfl (by kernel_rfl) (by kernel_rfl) (by kernel_rfl) (yr_other (by decide) (by decide) rfl (fun f1 f2 wx hT => ?_)) ?_; rotate_left
      · refine Lands.r (lands_value (w := wx) ?_ hT); go_simp <;> rfl
      simp only [pu]
      refine anyR_take (i := 2) (v := .slice (some ⟨w3.heap.size, 0, none⟩) N N) rfl (by kernel_rfl) (by kernel_rfl) (by kernel_rfl) (yr_other (by decide) (by decide) rfl (fun f1 f2 wx hT => ?_)) ?_
      · have c0 := HCV.out f1 wx hT; refine Lands.r (lands_value (w := wx) ?_ hT); go_simp
      simp only [pu]
      refine anyR_take (i := 3) (v := ?_) rfl (by kernel_rfl) (by kernel_rfl) (by kernel_rfl) (yr_other (by decide) (by decide) rfl (fun f1 f2 wx hT => ?_)) ?_; rotate_left
      · refine Lands.r (lands_value (w := wx) ?_ hT); go_simp <;> rfl
      simp only [pu]
      refine anyR_take (i := 4) (v := ?_) rfl (by kernel_rfl) (by kernel_rfl) (by kernel_rfl) (yr_other (by decide) (by decide) rfl (fun f1 f2 wx hT => ?_)) ?_; rotate_left
      · refine Lands.r (lands_value (w := wx) ?_ hT); go_simp <;> rfl
      simp only [pu]
      refine anyR_take (i := 5) (v := .int .i64 (D up : Int)) rfl (by kernel_rfl) (by kernel_rfl) (by kernel_rfl) (yr_ahead (n := 12) (by decide) (by decide) (by kernel_rfl) rfl (fun f2 wx hT => ?_)) ?_
      · have c0 := HCU.out wx hT; refine Lands.r (lands_value (w := wx) ?_ hT); go_simp
      simp only [pu]
      refine anyR_take (i := 6) (v := .int .i64 ((D up + 1 : Nat) : Int)) rfl (by kernel_rfl) (by kernel_rfl) (by kernel_rfl) (yr_other (by decide) (by decide) rfl (fun f1 f2 wx hT => ?_)) ?_
      · refine Lands.r (lands_value (w := wx) ?_ hT); go_simp <;> exact HAD.out
      simp only [pu]
      refine anyR_take (i := 7) (v := ?_) rfl (by kernel_rfl) (by kernel_rfl) (by kernel_rfl) (yr_other (by decide) (by decide) rfl (fun f1 f2 wx hT => ?_)) ?_; rotate_left
      · refine Lands.r (lands_value (w := wx) ?_ hT); go_simp <;> rfl
      simp only [pu]
      refine anyR_take (i := 8) (v := undef) rfl (by kernel_rfl) (by kernel_rfl) (by kernel_rfl) (yr_first (by decide) rfl (fun f2 wx hT => ?_)) ?_
      · have co := HCO.out wx hT; have fo := HFO.out wx hT; have K := HPUT.out wx hT; go_simp; exact ⟨rfl, K⟩
      simp only [Act.put]
      refine anyR_done (by kernel_rfl) (fun w6 h6 => ?_) _
      exact h6
  case done =>
    rintro Z V hZ ht hcap hK
    have c0 : V.cell? ⟨w3.heap.size + 1, 0, none⟩ = some (.slice (some ⟨w3.heap.size, 0, none⟩) N N) := ht.v.cell 0
    have hnN := HNN.out
    have bD : Below w.heap.size w (V.putObj Z (.deferred none)) := ht.b.trans (below_putObj _ hK (by have := HBW.out; omega))
    have hblk : Blk (V.putObj Z (.deferred none)) w3.heap.size 3 (rI N (dpF D N N)) := (World.putObj_heap_other (by omega)).trans ht.l
    have HI : Hid (IS (some ⟨w3.heap.size, 0, none⟩) n n (fun i => (lenO c n i : Int)) (V.putObj Z (.deferred none))) := Lib.hid (by
      have hlen : ∀ i, i < n → (dpF D N N i) = (lenO c n i : Int) := fun i hi => by
        unfold dpF lenO
        rw [if_pos (by omega), HDN.out i hi]
        by_cases h0 : c i = 0
        · rw [if_pos h0, if_pos h0]
        · rw [if_neg h0, if_neg h0, if_neg (by rw [← HLL.out]; exact h1)]
      refine ⟨(fun e => by cases e), (fun a e i hi => ?_), (fun a e => by cases e; exact hblk.lt), (fun i _ => by omega), (fun i hi => ?_)⟩
      · cases e
        rw [addr_add, Nat.zero_add, hblk.at_ (by omega), hlen i hi]
      · rw [← hlen i hi]
        unfold dpF
        rw [if_pos (by omega)]
        have := HDL.out i
        omega)
    have HBD := Lib.hid bD
    clear ht hcap bD hblk
    gi_wp2_with fail
    refine ⟨trivial, rfl, (calls_wr (ro := none) (clip_any _ _ _ hnN _)).mono ?_⟩
    rintro e w8 ⟨rfl, rfl⟩
    gi_wp2_with fail
    refine ⟨by simp, .inl ⟨_, _, rfl, run_takeDeferred hK, ?_⟩⟩
    exact ⟨_, results_tmp rfl _ _ _, _, _, rfl, HI.out, HBD.out⟩
theorem treeLengths_any (p : Option Addr) (n cap : Nat) (c : Nat → Nat) (w : World) (h : IS p n cap (fun i => (c i : Int)) w) (hn : n ≤ 300) (hc : ∀ i, i < n → c i ≤ 1099511627776) :
    Calls Try.prog 24 #[.slice p n cap] w fun e w' => ∃ p2 c2, e = .returned (.slice p2 n c2) ∧ IS p2 n c2 (fun i => (lenO c n i : Int)) w' ∧ Below w.heap.size w w' := by
  by_cases h1 : (nds c n).length = 1
  · exact treeLengths_one p n cap c w h hn h1
  · exact treeLengths_more p n cap c w h hn hc h1
end Go.Proofs.Ytmmkmbinmmfblaa
