/- Layer 9: lists of uint16, the law's counted; one integer more in a list of one's own. -/
import Derived.Test.YtmmkmbinmmfblaaVb9
import Derived.Test.YtmmkmbinmmfblaaHuffReads
namespace Go.Proofs.Ytmmkmbinmmfblaa
open Go.RowKit
/-- A slice of 16-bit numbers. -/
structure US (p : Option Addr) (n cap : Nat) (f : Nat → Nat) (w : World) : Prop where
  nil_ : p = none → n = 0 ∧ cap = 0
  cell : ∀ a, p = some a → ∀ i, i < n → w.cell? (a.add i) = some (.int .u16 ((f i : Nat) : Int))
  lt : ∀ a, p = some a → a.block < w.heap.size
  hi : ∀ i, i < n → f i < 65536
theorem US.below {p : Option Addr} {n cap : Nat} {f : Nat → Nat} {w w' : World} (h : US p n cap f w) (hb : Below w.heap.size w w') : US p n cap f w' :=
  ⟨h.nil_, fun a ha i hi => by
    have hl := h.lt a ha
    rw [← h.cell a ha i hi]
    have hb2 : (a.add i).block = a.block := by unfold Addr.add; split <;> rfl
    exact hb.cell (p := a.add i) (by rw [hb2]; exact hl), fun a ha => Nat.lt_of_lt_of_le (h.lt a ha) hb.size, h.hi⟩
theorem firstI_succ (f : Nat → Int) (n : Nat) : firstI f (n + 1) = firstI f n ++ [f n] := by simp [firstI, List.range_succ]
/-- One integer more. -/
theorem wpList_oneI {ops : Array Oper} {rest : List Oper} {o : Oper} {a : Act} {Q : Exit → Act → World → Prop} {B : Nat} {w0 w : World} {l : List Int} {v : Value} (hgd : o.guard = none) (s x : Operand)
    (ho : o.op = .call { callee := .builtin .append, args := #[s, x], argTypes := #[22, 22] }) (hs : a.eval s = v) (h : LI B w0 l v w) (y : Int)
    (hx : a.eval x = .slice (some ⟨w.heap.size, 0, none⟩) 1 1) (hn : l.length ≤ 1000)
    (k : ∀ v' w', LI B w0 (l ++ [y]) v' w' → wpList Try.prog ops Q rest (a.put o.dst v') w') :
    wpList Try.prog ops Q (o :: rest) a (w.alloc (.cells #[.int .i64 y] 3)) := by
  have hb : Below w.heap.size w (w.alloc (.cells #[.int .i64 y] 3)) := (Below.refl _ _).alloc (Nat.le_refl _) _
  have h2 := h.below hb
  obtain ⟨i0, hi, hz0, hz1, hz2⟩ := info_parts int_infoC
  refine wpList_append_own _ hgd s x 22 ho B 3 i0 (.int .i64 0) 1 8 Try.underlying22 hi hz0 hz1 hz2 rfl (by decide) v l.length _ hs h2.own ⟨w.heap.size, 0, none⟩ 1 1 [.int .i64 y] hx rfl ?_ ?_ ?_ ?_ h2.lo ?_
  · intro j u hu
    cases j with
    | zero =>
      cases hu
      rw [addr_add, Nat.zero_add, cell_of_row _ _ 0 _ _ (0, 0) (heap_alloc_new w _)]
      rfl
    | succ j => cases hu
  · intro u hu
    rw [List.mem_singleton.1 hu]; rfl
  · unfold maxLen; omega
  · omega
  · intro v' w2 hown hg _
    refine k v' w2 ⟨?_, ?_, Nat.le_trans h2.lo hg.size⟩
    · rw [List.length_append, List.map_append]; exact hown
    · refine h2.b.grown hg h2.lo fun k e => ?_
      rcases h.own.2 with ⟨h3, _⟩ | ⟨g, cap, cur, h3, h4, _⟩
      · rw [h3] at e; cases e
      · rw [h3] at e; cases e; exact h4
set_option maxRecDepth 100000 in
set_option maxHeartbeats 4000000 in
theorem counted9_any (p : Option Addr) (n cap : Nat) (f : Nat → Nat) (w : World) (h : US p n cap f w) (hn : n ≤ 70368744177664) (g : Nat → Int) (hg : ∀ i, i < n → g i = ((f i % 1001 : Nat) : Int)) :
    Calls Try.prog 20 #[.slice p n cap] w fun e w' => ∃ v, e = .returned v ∧ LI w.heap.size w (firstI g (min n 40)) v w' := by
  obtain ⟨m, hm⟩ : ∃ m, m = min n 40 := ⟨_, rfl⟩
  rw [← hm]
  have HM := Lib.hid hm
  have HG := Lib.hid hg
  clear hm hg
  go_enter Try.func20, Try.ntmps20
  go_wp2_with fail
  go_loopw [3, 4] (fun v i wr => ∃ k : Nat, k ≤ m ∧ i = .int .i64 (k : Int) ∧ LI w.heap.size w (firstI g k) v wr) (fun _ i _ => m - (intOf i).toNat)
  case atStart => exact ⟨0, by omega, rfl, LI.nil (Below.refl _ _) (Nat.le_refl _)⟩
  case round =>
    obtain ⟨k, hk, rfl, hl⟩ := hrel
    have hm := HM.out
    by_cases hlt : k < m
    · cases p with
      | none => have := (h.nil_ rfl).1; omega
      | some a =>
        have hb := hl.b
        have k0 := (h.below hb).cell a rfl k (by omega)
        have hk1 : (k : Int) < (n : Int) := by omega
        have hk2 : (k : Int) < 40 := by omega
        have hkn : k < n := by omega
        clear hm
        go_wp2_with (refine wpList_oneI rfl (.tmp 15) (.tmp 22) rfl rfl hl ((f k % 1001 : Nat) : Int) rfl (by rw [firstI_len]; omega) ?_; intro v2 w2 hL)
        exact ⟨⟨k + 1, by omega, rfl, by rw [firstI_succ, HG.out k hkn]; exact hL⟩, by simp only [intOf]; omega⟩
    · obtain rfl : k = m := by omega
      by_cases h40 : (k : Int) < (n : Int)
      · have h41 : ¬ (k : Int) < 40 := by omega
        clear hm
        go_wp2_with fail
        go_ret
        exact ⟨_, rfl, hl⟩
      · clear hm
        go_wp2_with fail
        go_ret
        exact ⟨_, rfl, hl⟩
theorem counted9_is (p : Option Addr) (n cap : Nat) (f : Nat → Nat) (w : World) (h : US p n cap f w) (hn : n ≤ 70368744177664) :
    Calls Try.prog 20 #[.slice p n cap] w fun e w' => ∃ p2 c2, e = .returned (.slice p2 (min n 40) c2) ∧ IS p2 (min n 40) c2 (fun i => ((f i % 1001 : Nat) : Int)) w' ∧ Below w.heap.size w w' :=
  (counted9_any p n cap f w h hn _ (fun _ _ => rfl)).mono fun e w' ⟨v, h1, h2⟩ => by
    obtain ⟨p2, c2, h3, h4, _⟩ := h2.is (fun i hi => by omega) (fun i hi => by omega)
    exact ⟨p2, c2, by rw [h1, h3], h4, h2.b⟩
/-- Lengths of what was counted: they are, and are at most 15, and a code. -/
theorem okC_nat {f : Nat → Int} {n : Nat} (h : ∀ i, i < n → 0 ≤ f i ∧ f i ≤ 1000) : okC f n = true := by
  exact okC_true.2 fun i hi => ⟨(h i hi).1, by have := (h i hi).2; omega⟩
theorem nds_none {c : Nat → Nat} {n : Nat} (h : ∀ i, i < n → c i = 0) : nds c n = [] := by
  cases e : nds c n with
  | nil => rfl
  | cons x l =>
    have hx : x ∈ nds c n := by rw [e]; exact List.mem_cons_self ..
    obtain ⟨h1, h2, _⟩ := nds_mem.1 hx
    have := h _ h1; omega
theorem kr_zero {l : Nat → Nat} {n : Nat} (h : ∀ i, i < n → l i = 0) : kr l n = 0 := by
  induction n with
  | zero => rfl
  | succ n ih => show kr l n + _ = 0; rw [ih fun i hi => h i (by omega), h n (by omega)]; rfl
theorem sgl_zero {l : Nat → Nat} {n : Nat} (h : ∀ i, i < n → l i = 0) : sgl l n = 0 := by
  induction n with
  | zero => rfl
  | succ n ih => show sgl l n + l n = 0; rw [ih fun i hi => h i (by omega), h n (by omega)]
/-- What one count makes: a single length, of 1. -/
theorem single_one {c : Nat → Nat} {n : Nat} (h : (nds c n).length ≤ 1) : kr (lenO c n) n ≤ 32768 ∧ (kr (lenO c n) n = 0 ∨ sgl (lenO c n) n = 1) := by
  have key : ∀ m (l : Nat → Nat), (∀ i, i < m → l i = if c i = 0 then 0 else 1) → (nds c m).length ≤ 1 → sgl l m = (nds c m).length ∧ kr l m = 16384 * (nds c m).length := by
    intro m l
    induction m with
    | zero => intro _ _; exact ⟨rfl, rfl⟩
    | succ m ih =>
      intro hl hm
      have e : nds c (m + 1) = nds c m ++ if 0 < c m then [(c m, m)] else [] := rfl
      rw [e, List.length_append] at hm
      have hi := ih (fun i hi => hl i (by omega)) (by omega)
      rw [e, List.length_append]
      show sgl l m + l m = _ ∧ kr l m + (if l m = 0 then 0 else 2 ^ (15 - l m)) = _
      rw [hi.1, hi.2, hl m (by omega)]
      by_cases hc : c m = 0
      · rw [if_pos hc, if_neg (by omega)]; simp
      · rw [if_neg hc, if_pos (by omega)]; simp; omega
  have hk := key n (lenO c n) (fun i hi => by
    unfold lenO
    by_cases hc : c i = 0
    · rw [if_pos hc, if_pos hc]
    · rw [if_neg hc, if_neg hc]
      have hx : (c i, i) ∈ nds c n := nds_mem.2 ⟨hi, by show 0 < c i; omega, rfl⟩
      have := List.length_pos_of_mem hx
      rw [if_pos (by omega)]) h
  omega
/-- The code that was made of what Lengths said. -/
theorem lens_counted (f : Nat → Nat) (n : Nat) (hn : n ≤ 40) (most : Int) (hM : 9 ≤ most ∧ most ≤ 15) : ∃ l, lensV (fun i => ((f i % 1001 : Nat) : Int)) n most = some l ∧ (∃ e, l = lenO e n ∧ depM e n n ≤ most.toNat ∧ ∀ i, 0 < e i ↔ 0 < f i % 1001) ∧
    okB (fun i => (l i : Int)) n = true ∧ codesE (fun i => (l i : Int)) n = 0 ∧ newE (fun i => (l i : Int)) n = 0 := by
  have hok : okC (fun i => ((f i % 1001 : Nat) : Int)) n = true := okC_nat fun i hi => ⟨by omega, by omega⟩
  obtain ⟨l, hl⟩ := lens_some (most := most) hok (by omega) (.inl hM)
  obtain ⟨e, h1, h2, h3⟩ := lenV_is 42 hl
  have h15 : ∀ i, i < n → l i ≤ 15 := fun i hi => by rw [h1]; have := lenO_le hi h2 (by omega); omega
  have hB : okB (fun i => (l i : Int)) n = true := okB_true.2 fun i hi => ⟨by omega, by have := h15 i hi; omega⟩
  have hT : toL (fun i => (l i : Int)) = l := funext fun i => by unfold toL; exact Int.toNat_natCast _
  have hkr : kr l n ≤ 32768 ∧ (kr l n = 32768 ∨ kr l n = 0 ∨ sgl l n = 1) := by
    rcases Nat.lt_or_ge 1 (nds e n).length with h4 | h4
    · have := lenO_kraft h4 h2 (by omega)
      rw [← h1] at this
      exact ⟨by omega, .inl this⟩
    · have := single_one h4
      rw [← h1] at this
      exact ⟨this.1, .inr this.2⟩
  have hE : codesE (fun i => (l i : Int)) n = 0 := by
    unfold codesE
    rw [if_pos ⟨hB, by omega⟩, hT, if_pos hkr.1]
  refine ⟨l, ?_, ⟨e, h1, h2, fun i => (h3 i).trans ?_⟩, hB, hE, ?_⟩
  · unfold lensV
    rw [if_pos ⟨hok, by omega, .inl hM⟩, hl]
  · unfold toL; rw [Int.toNat_natCast]
  · unfold newE
    rw [if_pos hE, hT, if_pos hkr.2]
end Go.Proofs.Ytmmkmbinmmfblaa
