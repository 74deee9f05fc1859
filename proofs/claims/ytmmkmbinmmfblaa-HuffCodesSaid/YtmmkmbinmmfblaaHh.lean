/- The reference's Codes and single of chapter 9. -/
import Derived.Test.YtmmkmbinmmfblaaHg
import Derived.Laws.MakeOwn
namespace Go.Proofs.Ytmmkmbinmmfblaa
open Go.RowKit
theorem int_infoC : (Try.prog.info? 3).map (fun i => (i.zero, i.size, i.bytes)) = some (some (.int .i64 0), 1, 8) := by kernel_rfl
abbrev rI (n : Nat) (f : Nat → Int) : Array Value := row n fun i => Value.int .i64 (f i)
theorem made_ints (n : Nat) : madeCells #[Value.int .i64 0] n = rI n fun _ => 0 := by
  apply Array.ext
  · rw [size_madeCells, row_size]
  · intro i h1 h2
    have h : i < n := by rw [size_madeCells] at h1; exact h1
    have e := row_get (fun i => Value.int .i64 ((fun _ => (0 : Int)) i)) h
    rw [Array.getElem?_eq_getElem h2] at e
    rw [Option.some.inj e]
    simp only [madeCells, Array.getElem_map, Array.getElem_range]
    simp [Nat.mod_one]
theorem run_ints (n : Nat) (hn : n ≤ 35184372088832) (w : World) :
    (Instr.makeSlice 22 (.int .i64 (n : Int)) (.int .i64 (n : Int))).run Try.prog w = .ok (.slice (some ⟨w.heap.size, 0, none⟩) n n) (w.alloc (.cells (rI n fun _ => 0) 3)) := by
  obtain ⟨i0, hi, hz0, hz1, hz2⟩ := info_parts int_infoC
  have h := run_make (P := Try.prog) w 22 3 i0 (.int .i64 0) Try.underlying22 hi hz0 .i64 .i64 n n (by omega) (Int.le_refl _) (by rw [hz2]; omega) (by omega)
  rw [hz1, Int.toNat_natCast, Nat.mul_one, show Value.cells (.int .i64 0) = #[Value.int .i64 0] from rfl, made_ints] at h
  exact h
theorem IS.row {g n cap : Nat} {t : TypeId} {f : Nat → Int} {w : World} (h : Blk w g t (rI n f)) (lo : ∀ i, i < n → -9223372036854775808 ≤ f i) (hi : ∀ i, i < n → f i < 9223372036854775808) : IS (some ⟨g, 0, none⟩) n cap f w :=
  ⟨(fun e => by cases e), (fun a e i hi => by cases e; rw [addr_add, Nat.zero_add]; exact h.at_ hi), (fun a e => by cases e; exact h.lt), lo, hi⟩
/-- The codes that are told when the lengths below d + 1, and the first k of it, are done. -/
def coF (l : Nat → Nat) (n d k j : Nat) : Int := if l j ≠ 0 ∧ (l j ≤ d ∨ l j = d + 1 ∧ j < k) then (codeN l n j : Int) else 0
theorem coF_put (l : Nat → Nat) (n d k j : Nat) (hk : l k = d + 1) : (if j = k then Value.int .i64 ((cst l n d + cnt l (d + 1) k : Nat) : Int) else Value.int .i64 (coF l n d k j)) = Value.int .i64 (coF l n d (k + 1) j) := by
  by_cases h : j = k
  · subst h
    rw [if_pos rfl]
    unfold coF codeN
    rw [if_pos ⟨by omega, .inr ⟨hk, by omega⟩⟩, if_neg (by omega), hk, Nat.add_sub_cancel]
  · rw [if_neg h]
    unfold coF
    congr 1
    by_cases h2 : l j ≠ 0 ∧ (l j ≤ d ∨ l j = d + 1 ∧ j < k)
    · rw [if_pos h2, if_pos ⟨h2.1, by omega⟩]
    · rw [if_neg h2, if_neg (by omega)]
theorem coF_not (l : Nat → Nat) (n d k : Nat) (hk : l k ≠ d + 1) : coF l n d k = coF l n d (k + 1) := funext fun j => by
  unfold coF
  by_cases h2 : l j ≠ 0 ∧ (l j ≤ d ∨ l j = d + 1 ∧ j < k)
  · rw [if_pos h2, if_pos ⟨h2.1, by omega⟩]
  · rw [if_neg h2, if_neg]
    rintro ⟨h3, h4⟩
    refine h2 ⟨h3, ?_⟩
    rcases h4 with h4 | ⟨h4, h5⟩
    · exact .inl h4
    · refine .inr ⟨h4, ?_⟩
      rcases (show j < k ∨ j = k by omega) with h6 | rfl
      · exact h6
      · exact absurd h4 hk
theorem coF_end (l : Nat → Nat) (n d : Nat) : ∀ j, j < n → coF l n d n j = coF l n (d + 1) 0 j := fun j hj => by
  unfold coF
  by_cases h2 : l j ≠ 0 ∧ (l j ≤ d ∨ l j = d + 1 ∧ j < n)
  · rw [if_pos h2, if_pos ⟨h2.1, by omega⟩]
  · rw [if_neg h2, if_neg (by omega)]
theorem coF_all (l : Nat → Nat) (n : Nat) (h : ∀ j, j < n → l j ≤ 15) : ∀ j, j < n → coF l n 15 0 j = (codeN l n j : Int) := fun j hj => by
  have := h j hj
  unfold coF
  by_cases h0 : l j = 0
  · rw [if_neg (by omega)]; unfold codeN; rw [if_pos h0]; rfl
  · rw [if_pos ⟨h0, .inl this⟩]
theorem cnt_le (l : Nat → Nat) (d n : Nat) : cnt l d n ≤ n := by
  induction n with
  | zero => exact Nat.le_refl _
  | succ n ih => show cnt l d n + _ ≤ _; split <;> omega
theorem cst_le (l : Nat → Nat) (n : Nat) (h : ∀ i, i < n → l i ≤ 15) (hk : kr l n ≤ 32768) (hn : n ≤ 300) (d : Nat) (hd : d ≤ 15) : cst l n d ≤ 66136 := by
  have key : ∀ d, d ≤ 14 → cst l n d ≤ 32768 := fun d hd => by
    have e := cst_off l n d hd
    have h1 := offS_mono l n (show d ≤ 15 by omega)
    rw [offS_all l n h] at h1
    have h2 : 1 ≤ 2 ^ (15 - (d + 1)) := Nat.pow_pos (by decide)
    have h3 := Nat.le_mul_of_pos_right (cst l n d) h2
    omega
  rcases (show d ≤ 14 ∨ d = 15 by omega) with h1 | rfl
  · have := key d h1; omega
  · have h1 := key 14 (Nat.le_refl _)
    have h2 := cnt_le l 15 n
    show 2 * (cst l n 14 + cnt l 15 n) ≤ _
    omega
/-- Codes under way: what is told so far, the lengths read as they are. -/
structure CoW (p : Option Addr) (n : Nat) (f : Nat → Int) (F : Nat → Int) (g : Nat) (w wr : World) : Prop where
  o : Blk wr g 3 (rI n F)
  l : Below w.heap.size w wr
theorem CoW.put {p : Option Addr} {n : Nat} {f F G : Nat → Int} {g : Nat} {w wr : World} (h : CoW p n f F g w wr) (hg : w.heap.size ≤ g) {k : Nat} (hk : k < n) (v : Int)
    (e : ∀ j, (if j = k then Value.int .i64 v else Value.int .i64 (F j)) = Value.int .i64 (G j)) : CoW p n f G g w (wr.setCell ⟨g, k, none⟩ (.int .i64 v)) :=
  ⟨(h.o.put hk _).cast_ (row_ext fun i _ => e i), h.l.setCell hg _⟩
theorem CoW.cast {p : Option Addr} {n : Nat} {f F G : Nat → Int} {g : Nat} {w wr : World} (h : CoW p n f F g w wr) (e : ∀ j, j < n → F j = G j) : CoW p n f G g w wr :=
  ⟨h.o.cast_ (row_ext fun i hi => by rw [e i hi]), h.l⟩
/-- What Codes answers: how many codes, and the error. -/
def codesE (f : Nat → Int) (n : Nat) : Nat := if okB f n = true ∧ n ≤ 300 then if kr (toL f) n ≤ 32768 then 0 else 2 else 1
theorem toL_15 {f : Nat → Int} {n : Nat} (h : okB f n = true) : ∀ i, i < n → toL f i ≤ 15 := fun i hi => by
  have := okB_true.1 h i hi
  unfold toL; omega
theorem codeN_le {l : Nat → Nat} {n : Nat} (h : ∀ i, i < n → l i ≤ 15) (hk : kr l n ≤ 32768) : ∀ i, i < n → codeN l n i < 32768 := fun i hi => by
  by_cases h0 : l i = 0
  · unfold codeN; rw [if_pos h0]; omega
  · have h1 := code_lt l n i h hk hi h0
    have h2 : 2 ^ l i ≤ 2 ^ 15 := Nat.pow_le_pow_right (by decide) (h i hi)
    omega
set_option maxRecDepth 100000 in
set_option maxHeartbeats 4000000 in
theorem rcodes9_ok (p : Option Addr) (n cap : Nat) (f : Nat → Int) (w : World) (h : IS p n cap f w) (hn : n ≤ 300) (hok : okB f n = true) (hk : kr (toL f) n ≤ 32768) :
    Calls Try.prog 15 #[.slice p n cap] w fun e w' => e = .returned (.tuple #[.slice (some ⟨w.heap.size, 0, none⟩) n n, .int .i64 0]) ∧ IS (some ⟨w.heap.size, 0, none⟩) n n (fun i => (codeN (toL f) n i : Int)) w' ∧ Below w.heap.size w w' := by
  have hl := toL_15 hok
  have CS := Lib.hid (rsum9_any p n cap f w h (by omega))
  have HS : Hid (sumV f n = (kr (toL f) n, true)) := Lib.hid (by unfold sumV; rw [if_pos hok, decide_eq_true hn])
  rw [HS.out] at CS
  have hki : ¬ (kr (toL f) n : Int) > 32768 := by omega
  have hcst := Lib.hid (cst_le (toL f) n hl hk hn)
  have HL := Lib.hid hl
  have HK := Lib.hid hk
  have HO := Lib.hid hok
  have hmk : ∀ w, (Instr.makeSlice 22 (.int .i64 (n : Int)) (.int .i64 (n : Int))).run Try.prog w = .ok (.slice (some ⟨w.heap.size, 0, none⟩) n n) (w.alloc (.cells (rI n fun _ => 0) 3)) := run_ints n (by omega)
  clear hl hk hok HS
  go_enter Try.func15, Try.ntmps15
  go_wp2_with fail
  refine CS.out.mono ?_
  intro e w1 hw1
  obtain ⟨rfl, e1⟩ := hw1
  obtain rfl := e1.symm
  clear CS
  go_wp2_with fail
  obtain ⟨g, hg⟩ : ∃ g, g = w.heap.size := ⟨_, rfl⟩
  have HG : Hid (w.heap.size ≤ g) := Lib.hid (by omega)
  have H0 : Hid (CoW p n f (fun _ => 0) g w (w.alloc (.cells (rI n fun _ => 0) 3))) := Lib.hid ⟨by rw [hg]; exact Blk.new w _ _, (Below.refl _ w).alloc (Nat.le_refl _) _⟩
  have HGE := Lib.hid hg
  rw [← hg]
  clear hmk hki hg
  obtain ⟨l, hl0⟩ : ∃ l, l = toL f := ⟨_, rfl⟩
  rw [← hl0] at hcst HL HK ⊢
  have HLF := Lib.hid hl0
  clear hl0
  go_loopw [7, 8] (fun c i wr => ∃ d : Nat, d ≤ 15 ∧ i = .int .i64 ((d + 1 : Nat) : Int) ∧ c = .int .i64 (cst l n d : Int) ∧ CoW p n f (coF l n d 0) g w wr) (fun _ i _ => 16 - (intOf i).toNat)
  case atStart => exact ⟨0, by omega, rfl, rfl, H0.out.cast fun j _ => by unfold coF; rw [if_neg (by omega)]⟩
  case round =>
    obtain ⟨d, hd, rfl, rfl, hr⟩ := hrel
    have hc := hcst.out d hd
    by_cases hd15 : d < 15
    · have hdi : ((d + 1 : Nat) : Int) ≤ 15 := by omega
      obtain ⟨D, hD⟩ : ∃ D, D = d + 1 := ⟨_, rfl⟩
      rw [← hD] at hdi ⊢
      obtain ⟨C, hC⟩ : ∃ C, C = cst l n d := ⟨_, rfl⟩
      rw [← hC] at hc ⊢
      go_wp2_with fail
      go_loopw [7, 9] (fun c i wr => ∃ k : Nat, k ≤ n ∧ i = .int .i64 (k : Int) ∧ c = .int .i64 ((C + cnt l D k : Nat) : Int) ∧ CoW p n f (coF l n d k) g w wr) (fun _ i _ => n - (intOf i).toNat)
      case atStart => exact ⟨0, by omega, rfl, by rw [hC]; rfl, hr⟩
      case round =>
        obtain ⟨k, hk, rfl, rfl, hr⟩ := hrel
        have hck := cnt_le l D k
        by_cases hlt : k < n
        · cases p with
          | none => have := (h.nil_ rfl).1; omega
          | some a =>
            have hw := h.below hr.l
            have c0 := hw.cell a rfl k hlt
            have hv := okB_true.1 HO.out k hlt
            obtain ⟨v, hvv⟩ := Int.eq_ofNat_of_zero_le hv.1
            have hlk : l k = v := by rw [HLF.out]; unfold toL; omega
            rw [hvv] at c0
            by_cases heq : v = D
            · have hee : (v : Int) = (D : Int) := by omega
              have HN : Hid (cnt l D (k + 1) = cnt l D k + 1) := Lib.hid (by show _ + (if l k = D then 1 else 0) = _; rw [if_pos (by omega)])
              have HP := Lib.hid (hr.put HG.out hlt ((C + cnt l D k : Nat) : Int) fun j => by rw [hC, hD]; exact coF_put l n d k j (by omega))
              have co := hr.o.at_ hlt
              have fo := hr.o.frozen k
              obtain ⟨T, hT⟩ : ∃ T, T = C + cnt l D k := ⟨_, rfl⟩
              rw [← hT] at HP ⊢
              have HT : Hid (C + cnt l D (k + 1) = T + 1) := Lib.hid (by rw [HN.out, hT]; omega)
              have hT9 : T ≤ 100000 := by omega
              clear hv hvv hlk hw heq hT HN hr
              go_wp2_with fail
              go_roundw
              case rel => exact ⟨k + 1, by omega, by go_num, by rw [HT.out]; go_num, HP.out⟩
              case measure => simp [intOf]; omega
            · have hne : ¬ (v : Int) = (D : Int) := by omega
              have HN : Hid (cnt l D (k + 1) = cnt l D k) := Lib.hid (by show _ + (if l k = D then 1 else 0) = _; rw [if_neg (by omega)]; rfl)
              have HF := Lib.hid (coF_not l n d k (by omega))
              generalize cnt l D k = T at *
              clear hv hvv hlk hw heq
              go_wp2_with fail
              go_roundw
              case rel => exact ⟨k + 1, by omega, by go_num, by rw [HN.out], by rw [← HF.out]; exact hr⟩
              case measure => simp [intOf]; omega
        · obtain rfl : k = n := by omega
          have HE := Lib.hid (coF_end l k d)
          obtain ⟨T, hT⟩ : ∃ T, T = C + cnt l D k := ⟨_, rfl⟩
          rw [← hT]
          have HT : Hid (cst l k (d + 1) = 2 * T) := Lib.hid (by show 2 * (cst l k d + cnt l (d + 1) k) = _; rw [← hC, ← hD, hT])
          have hT9 : T ≤ 100000 := by omega
          have hwT : IntKind.i64.wrap ((T : Int) * 2) = ((2 * T : Nat) : Int) := by rw [IntWalk.i64_in _ (by omega)]; omega
          have hwD : IntKind.i64.wrap ((D : Int) + 1) = ((d + 1 + 1 : Nat) : Int) := by rw [IntWalk.i64_in _ (by omega)]; omega
          clear hT
          go_wp2_with fail
          go_roundw
          case rel => exact ⟨d + 1, by omega, by go_num, by rw [HT.out]; go_num, hr.cast HE.out⟩
          case measure => simp [intOf]; omega
    · obtain rfl : d = 15 := by omega
      have HA := Lib.hid (coF_all l n HL.out)
      have HB := Lib.hid (codeN_le HL.out HK.out)
      clear hc hcst
      go_wp2_with fail
      go_ret2
      rw [← HLF.out]
      obtain rfl := HGE.out
      exact ⟨rfl, IS.row (hr.cast HA.out).o (fun i hi => by omega) (fun i hi => by have := HB.out i hi; omega), hr.l⟩
theorem codesE_arg {f : Nat → Int} {n : Nat} (h : ¬ (okB f n = true ∧ n ≤ 300)) : codesE f n = 1 := by unfold codesE; rw [if_neg h]
theorem codesE_form {f : Nat → Int} {n : Nat} (h : okB f n = true ∧ n ≤ 300) (hk : ¬ kr (toL f) n ≤ 32768) : codesE f n = 2 := by unfold codesE; rw [if_pos h, if_neg hk]
theorem codesE_ok {f : Nat → Int} {n : Nat} (h : okB f n = true ∧ n ≤ 300) (hk : kr (toL f) n ≤ 32768) : codesE f n = 0 := by unfold codesE; rw [if_pos h, if_pos hk]
theorem sumV_arg {f : Nat → Int} {n : Nat} (h : ¬ (okB f n = true ∧ n ≤ 300)) : (sumV f n).2 = false := by
  unfold sumV
  by_cases h1 : okB f n = true
  · rw [if_pos h1]; exact decide_eq_false fun h2 => h ⟨h1, h2⟩
  · rw [if_neg h1]
theorem sumV_ok {f : Nat → Int} {n : Nat} (h : okB f n = true ∧ n ≤ 300) : sumV f n = (kr (toL f) n, true) := by
  unfold sumV
  rw [if_pos h.1, decide_eq_true h.2]
set_option maxRecDepth 100000 in
set_option maxHeartbeats 4000000 in
theorem rcodes9_not (p : Option Addr) (n cap : Nat) (f : Nat → Int) (w : World) (h : IS p n cap f w) (hn : n ≤ 17592186044416) (he : codesE f n ≠ 0) :
    Calls Try.prog 15 #[.slice p n cap] w fun e w' => e = .returned (.tuple #[.slice none 0 0, .int .i64 (codesE f n : Int)]) ∧ w' = w := by
  have CS := Lib.hid (rsum9_any p n cap f w h hn)
  by_cases h1 : okB f n = true ∧ n ≤ 300
  · have h2 : ¬ kr (toL f) n ≤ 32768 := fun hk => he (codesE_ok h1 hk)
    have HE : Hid (codesE f n = 2) := Lib.hid (codesE_form h1 h2)
    rw [sumV_ok h1] at CS
    have hki : (kr (toL f) n : Int) > 32768 := by omega
    generalize kr (toL f) n = S at *
    clear he h1 h2 h
    go_enter Try.func15, Try.ntmps15
    go_wp2_with fail
    refine CS.out.mono ?_
    intro e w1 hw1
    obtain ⟨rfl, e1⟩ := hw1
    obtain rfl := e1.symm
    go_wp2_with fail
    go_ret2
    rw [HE.out]
    exact ⟨rfl, rfl⟩
  · have HE : Hid (codesE f n = 1) := Lib.hid (codesE_arg h1)
    have h2 := sumV_arg h1
    generalize sumV f n = S at *
    obtain ⟨a, b⟩ := S
    simp only at h2 CS
    subst h2
    clear he h1 h
    go_enter Try.func15, Try.ntmps15
    go_wp2_with fail
    refine CS.out.mono ?_
    intro e w1 hw1
    obtain ⟨rfl, e1⟩ := hw1
    obtain rfl := e1.symm
    go_wp2_with fail
    go_ret2
    rw [HE.out]
    exact ⟨rfl, rfl⟩
/-- All lengths together. -/
def sgl (l : Nat → Nat) : Nat → Nat
  | 0 => 0
  | k + 1 => sgl l k + l k
theorem sgl_le {l : Nat → Nat} {n : Nat} (h : ∀ i, i < n → l i ≤ 15) : ∀ k, k ≤ n → sgl l k ≤ 15 * k := by
  intro k hk
  induction k with
  | zero => exact Nat.le_refl _
  | succ k ih => have := ih (by omega); have := h k (by omega); show sgl l k + l k ≤ _; omega
set_option maxRecDepth 100000 in
set_option maxHeartbeats 4000000 in
theorem rsingle9_any (p : Option Addr) (n cap : Nat) (f : Nat → Int) (w : World) (h : IS p n cap f w) (hn : n ≤ 300) (hok : okB f n = true) :
    Calls Try.prog 30 #[.slice p n cap] w fun e w' => e = .returned (.bool (decide (sgl (toL f) n = 1))) ∧ w' = w := by
  have hl := toL_15 hok
  have HS := Lib.hid (sgl_le hl)
  have HO := Lib.hid hok
  obtain ⟨l, hl0⟩ : ∃ l, l = toL f := ⟨_, rfl⟩
  rw [← hl0] at HS ⊢
  have HLF := Lib.hid hl0
  clear hl hok hl0
  go_enter Try.func30, Try.ntmps30
  go_wp2_with fail
  go_loopw [3, 4] (fun s i wr => ∃ k : Nat, k ≤ n ∧ i = .int .i64 (k : Int) ∧ s = .int .i64 (sgl l k : Int) ∧ w = wr) (fun _ i _ => n - (intOf i).toNat)
  case atStart => exact ⟨0, by omega, rfl, rfl, rfl⟩
  case round =>
    obtain ⟨k, hk, rfl, rfl, rfl⟩ := hrel
    have hs := HS.out k hk
    by_cases hlt : k < n
    · cases p with
      | none => have := (h.nil_ rfl).1; omega
      | some a =>
        have c0 := h.cell a rfl k hlt
        have hv := okB_true.1 HO.out k hlt
        obtain ⟨v, hvv⟩ := Int.eq_ofNat_of_zero_le hv.1
        have hlk : l k = v := by rw [HLF.out]; unfold toL; omega
        rw [hvv] at c0
        have HN : Hid (sgl l (k + 1) = sgl l k + v) := Lib.hid (by show sgl l k + l k = _; rw [hlk])
        generalize sgl l k = S at *
        have hv15 : v ≤ 15 := by omega
        have hw : IntKind.i64.wrap ((S : Int) + (v : Int)) = ((S + v : Nat) : Int) := by rw [IntWalk.i64_in _ (by omega)]; omega
        clear hv hvv hlk
        go_wp2_with fail
        go_roundw
        case rel => exact ⟨k + 1, by omega, by go_num, by rw [HN.out]; go_num, by trivial⟩
        case measure => simp [intOf]; omega
    · obtain rfl : k = n := by omega
      have HB : Hid ((((sgl l k : Nat) : Int) == 1) = decide (sgl l k = 1)) := Lib.hid (by rw [Bool.eq_iff_iff, beq_iff_eq, decide_eq_true_eq]; omega)
      go_wp2_with fail
      go_ret
      exact ⟨by show Ending.returned (.bool (((sgl l k : Nat) : Int) == 1)) = _; rw [HB.out], rfl⟩
end Go.Proofs.Ytmmkmbinmmfblaa
