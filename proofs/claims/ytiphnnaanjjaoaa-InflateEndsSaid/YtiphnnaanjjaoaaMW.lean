/- A run looks at no bit behind the last one that it reads; where that one is not there it errs. -/
import Derived.Test.YtiphnnaanjjaoaaMZ
namespace Go.Proofs.Ytiphnnaanjjaoaa
open Go.RowKit
/-- Two runs over bits that are the same below N: what the first one comes to by N the second one comes to, too; if the second one's bits end at N (q) it errs where the first one goes on. -/
structure OK {α : Type} (N : Nat) (q : Prop) (f f' : Fl → α × Fl) : Prop where
  mono : ∀ x, (f x).2.e = 0 → x.e = 0 ∧ x.p ≤ (f x).2.p
  err : ∀ x, x.e = 2 → (f' x).2.e = 2
  same : ∀ x, (f x).2.e = 0 → (f x).2.p ≤ N → f' x = f x
  short : q → ∀ x, x.e = 0 → x.p ≤ N → (f x).2.e = 0 → N < (f x).2.p → (f' x).2.e = 2
section
variable {α β : Type} {N : Nat} {q : Prop} {f f' g g' : Fl → α × Fl}
theorem OK.bind {k k' : α → Fl → β × Fl} (h : OK N q f f') (hk : ∀ a, OK N q (k a) (k' a)) : OK N q (fun x => k (f x).1 (f x).2) (fun x => k' (f' x).1 (f' x).2) := by
  refine ⟨fun x he => ?_, fun x hx => (hk _).err _ (h.err x hx), fun x he hp => ?_, fun hq x h0 hp he hN => ?_⟩
  · have h1 := (hk (f x).1).mono _ he
    have h2 := h.mono x h1.1
    exact ⟨h2.1, Nat.le_trans h2.2 h1.2⟩
  · have h1 := (hk (f x).1).mono _ he
    have e := h.same x h1.1 (Nat.le_trans h1.2 hp)
    show k' (f' x).1 (f' x).2 = _
    rw [e]
    exact (hk _).same _ he hp
  · have h1 := (hk (f x).1).mono _ he
    by_cases c : (f x).2.p ≤ N
    · have e := h.same x h1.1 c
      show (k' (f' x).1 (f' x).2).2.e = 2
      rw [e]
      exact (hk _).short hq _ h1.1 c he hN
    · exact (hk _).err _ (h.short hq x h0 hp h1.1 (by omega))
/-- What looks at no bit. -/
theorem OK.pure (h1 : ∀ x, (f x).2.e = 0 → x.e = 0 ∧ x.p ≤ (f x).2.p) (h2 : ∀ x, x.e = 2 → (f x).2.e = 2) (h3 : ∀ x, x.e = 0 → x.p ≤ N → (f x).2.e = 0 → (f x).2.p ≤ N) : OK N q f f :=
  ⟨h1, h2, fun _ _ _ => rfl, fun _ x h0 hp he hN => by have := h3 x h0 hp he; omega⟩
/-- It is enough to know it where there is no error. -/
theorem OK.on0 (h : OK N q f f') (e : ∀ x, x.e = 0 → g x = f x) (e' : ∀ x, x.e = 0 → g' x = f' x) (m : ∀ x, (g x).2.e = 0 → x.e = 0) (r : ∀ x, x.e = 2 → (g' x).2.e = 2) : OK N q g g' := by
  refine ⟨fun x he => ?_, r, fun x he hp => ?_, fun hq x h0 hp he hN => ?_⟩
  · have h0 := m x he
    rw [e x h0] at he ⊢
    exact h.mono x he
  · have h0 := m x he
    rw [e x h0] at he hp ⊢
    rw [e' x h0]
    exact h.same x he hp
  · rw [e x h0] at he hN
    rw [e' x h0]
    exact h.short hq x h0 hp he hN
theorem OK.cast (h : OK N q f f') (e : ∀ x, g x = f x) (e' : ∀ x, g' x = f' x) : OK N q g g' := by
  rw [show g = f from funext e, show g' = f' from funext e']; exact h
theorem OK.ite {c : Prop} [Decidable c] (h1 : OK N q f f') (h2 : OK N q g g') : OK N q (fun x => if c then f x else g x) (fun x => if c then f' x else g' x) := by
  by_cases h : c
  · simp only [if_pos h]; exact h1
  · simp only [if_neg h]; exact h2
/-- A state alone. -/
def Un (F : Fl → Fl) : Fl → Unit × Fl := fun x => ((), F x)
theorem pure_un {F : Fl → Fl} (h1 : ∀ x, (F x).e = 0 → x.e = 0 ∧ (F x).p = x.p) (h2 : ∀ x, x.e = 2 → (F x).e = 2) : OK N q (Un F) (Un F) :=
  OK.pure (fun x he => ⟨(h1 x he).1, Nat.le_of_eq (h1 x he).2.symm⟩) h2 fun x _ hp he => by rw [show (Un F x).2 = F x from rfl, (h1 x he).2]; exact hp
theorem err_un : OK N q (Un fun x => ⟨x.p, 2, x.o⟩) (Un fun x => ⟨x.p, 2, x.o⟩) := pure_un (fun _ h => absurd (show 2 = 0 from h) (by decide)) (fun _ _ => rfl)
theorem id_un : OK N q (Un fun x => x) (Un fun x => x) := pure_un (fun _ h => ⟨h, rfl⟩) (fun _ h => h)
end
/-- Bits that are the same below N. -/
structure Ag (N T' : Nat) (q : Prop) (B B' : Nat → Nat) : Prop where
  bit : ∀ i, i < N → B' i = B i
  le : N ≤ T'
  eq : q → T' = N
section
variable {N T T' M : Nat} {q : Prop} {B B' : Nat → Nat} (A : Ag N T' q B B')
include A
theorem vb_same {p n : Nat} (h : p + n ≤ N) : vb B' p n = vb B p n := by
  induction n with
  | zero => rfl
  | succ n ih =>
    show vb B' p n + B' (p + n) * 2 ^ n = vb B p n + B (p + n) * 2 ^ n
    rw [ih (by omega), A.bit _ (by omega)]
theorem bitsS_OK (n : Nat) : OK N q (bitsS B T n) (bitsS B' T' n) := by
  refine ⟨fun x he => ?_, fun x hx => ?_, fun x he hp => ?_, fun hq x h0 hp he hN => ?_⟩
  · unfold bitsS at he ⊢
    split at he
    · next h => exact absurd he h
    · next h =>
      rw [if_neg h]
      split at he
      · next h2 => rw [if_pos h2]; exact ⟨by omega, Nat.le_add_right _ _⟩
      · exact absurd (show 2 = 0 from he) (by decide)
  · rw [bitsS_err (by omega)]; exact hx
  · have h0 : x.e = 0 := by
      unfold bitsS at he
      split at he
      · next h => exact absurd he h
      · omega
    by_cases hT : x.p + n ≤ T
    · rw [bitsS_in h0 hT] at hp ⊢
      have hp : x.p + n ≤ N := hp
      rw [bitsS_in h0 (Nat.le_trans hp A.le), vb_same A hp]
    · rw [bitsS_out h0 hT] at he
      exact absurd (show 2 = 0 from he) (by decide)
  · by_cases hT : x.p + n ≤ T
    · rw [bitsS_in h0 hT] at hN
      have hN : N < x.p + n := hN
      rw [bitsS_out h0 (by rw [A.eq hq]; omega)]
    · rw [bitsS_out h0 hT] at he
      exact absurd (show 2 = 0 from he) (by decide)
theorem rv_same {p d : Nat} (h : p + d ≤ N) : rv B' p d = rv B p d := by
  induction d with
  | zero => rfl
  | succ d ih =>
    show 2 * rv B' p d + B' (p + d) = 2 * rv B p d + B (p + d)
    rw [ih (by omega), A.bit _ (by omega)]
theorem nextV_same {l : Nat → Nat} {n p : Nat} : ∀ (f d : Nat) {k z : Nat}, nextV l n B T p d f = (k, z, 0) → z ≤ N → nextV l n B' T' p d f = (k, z, 0)
  | 0, _, _, _, h, _ => by cases h
  | f + 1, d, k, z, h, hz => by
    have hin := nextV_in (f + 1) d h
    have hT' : ¬ T' ≤ p + d := by have := A.le; omega
    by_cases hT : T ≤ p + d
    · rw [nextV_end _ _ _ _ _ _ _ hT] at h; cases h
    · cases hf : fnd l n (d + 1) (rv B p (d + 1)) n with
      | some j =>
        rw [nextV_found hT hf] at h
        have hf2 : fnd l n (d + 1) (rv B' p (d + 1)) n = some j := by rw [rv_same A (by omega)]; exact hf
        rw [nextV_found hT' hf2]; exact h
      | none =>
        have hf2 : fnd l n (d + 1) (rv B' p (d + 1)) n = none := by rw [rv_same A (by omega)]; exact hf
        rw [nextV_not hT hf] at h
        rw [nextV_not hT' hf2]
        exact nextV_same f (d + 1) h hz
theorem nextV_short (hq : q) {l : Nat → Nat} {n p : Nat} : ∀ (f d : Nat) {k z : Nat}, nextV l n B T p d f = (k, z, 0) → N < z → p + d ≤ N → (nextV l n B' T' p d f).2.2 ≠ 0
  | 0, _, _, _, h, _, _ => by cases h
  | f + 1, d, k, z, h, hz, hd => by
    by_cases hT' : T' ≤ p + d
    · rw [nextV_end _ _ _ _ _ _ _ hT']; exact fun h => absurd (show 3 = 0 from h) (by decide)
    · have hN := A.eq hq
      by_cases hT : T ≤ p + d
      · rw [nextV_end _ _ _ _ _ _ _ hT] at h; cases h
      · cases hf : fnd l n (d + 1) (rv B p (d + 1)) n with
        | some j => rw [nextV_found hT hf] at h; cases h; omega
        | none =>
          have hf2 : fnd l n (d + 1) (rv B' p (d + 1)) n = none := by rw [rv_same A (by omega)]; exact hf
          rw [nextV_not hT hf] at h
          rw [nextV_not hT' hf2]
          exact nextV_short hq f (d + 1) h hz (by omega)
theorem symS_OK (l : Nat → Nat) (n : Nat) : OK N q (symS B T l n) (symS B' T' l n) := by
  refine ⟨fun x he => ?_, fun x hx => ?_, fun x he hp => ?_, fun hq x h0 hp he hN => ?_⟩
  all_goals try
    have h0 : x.e = 0 := by
      by_cases h : x.e = 0
      · exact h
      · rw [symS_err h] at he; exact absurd he h
  · obtain ⟨k, z, e0, e⟩ : ∃ k z e, nextV l n B T x.p 0 15 = (k, z, e) := ⟨_, _, _, rfl⟩
    cases e0 with
    | zero => rw [symS_in h0 e]; have := nextV_in 15 0 e; exact ⟨h0, by show x.p ≤ z; omega⟩
    | succ j => rw [symS_out h0 e] at he; exact absurd (show 2 = 0 from he) (by decide)
  · rw [symS_err (by omega)]; exact hx
  · obtain ⟨k, z, e0, e⟩ : ∃ k z e, nextV l n B T x.p 0 15 = (k, z, e) := ⟨_, _, _, rfl⟩
    cases e0 with
    | zero =>
      rw [symS_in h0 e] at hp ⊢
      rw [symS_in h0 (nextV_same A 15 0 e hp)]
    | succ j => rw [symS_out h0 e] at he; exact absurd (show 2 = 0 from he) (by decide)
  · obtain ⟨k, z, e0, e⟩ : ∃ k z e, nextV l n B T x.p 0 15 = (k, z, e) := ⟨_, _, _, rfl⟩
    cases e0 with
    | zero =>
      rw [symS_in h0 e] at hN
      have hs := nextV_short A hq 15 0 e hN (by omega)
      obtain ⟨k', z', e1, e'⟩ : ∃ k z e, nextV l n B' T' x.p 0 15 = (k, z, e) := ⟨_, _, _, rfl⟩
      cases e1 with
      | zero => rw [e'] at hs; exact absurd rfl hs
      | succ j => rw [symS_out h0 e']
    | succ j => rw [symS_out h0 e] at he; exact absurd (show 2 = 0 from he) (by decide)
end
end Go.Proofs.Ytiphnnaanjjaoaa
/- A run looks at no bit behind the last one that it reads: the blocks. -/
namespace Go.Proofs.Ytiphnnaanjjaoaa
open Go.RowKit
theorem bitsS_0 {B : Nat → Nat} {T n : Nat} {x : Fl} (h : (bitsS B T n x).2.e = 0) : x.e = 0 := by
  by_cases h0 : x.e = 0
  · exact h0
  · rw [bitsS_err h0] at h; exact absurd h h0
theorem symS_0 {B : Nat → Nat} {T n : Nat} {l : Nat → Nat} {x : Fl} (h : (symS B T l n x).2.e = 0) : x.e = 0 := by
  by_cases h0 : x.e = 0
  · exact h0
  · rw [symS_err h0] at h; exact absurd h h0
theorem sayS_err {M b : Nat} {x : Fl} (h : x.e ≠ 0) : sayS M b x = x := if_pos h
/-- An error that is set where something is not so. -/
theorem chk_un {N : Nat} {q : Prop} (c : Fl → Prop) [∀ x, Decidable (c x)] : OK N q (Un fun x => if x.e = 0 ∧ c x then ⟨x.p, 2, x.o⟩ else x) (Un fun x => if x.e = 0 ∧ c x then ⟨x.p, 2, x.o⟩ else x) := by
  refine pure_un (fun x h => ?_) (fun x h => ?_)
  · split at h
    · exact absurd (show 2 = 0 from h) (by decide)
    · next h2 => rw [if_neg h2]; exact ⟨h, rfl⟩
  · rw [if_neg (fun h2 => by rw [h] at h2; exact absurd h2.1 (by decide))]; exact h
theorem codeS_un {N : Nat} {q : Prop} (l : List Nat) : OK N q (Un (codeS l)) (Un (codeS l)) := by
  refine pure_un (fun x h => ?_) (fun x h => ?_)
  · unfold codeS at h ⊢
    split at h
    · next h2 => exact absurd h h2
    · next h2 =>
      rw [if_neg h2]
      split at h
      · next h3 => rw [if_pos h3]; exact ⟨h, rfl⟩
      · exact absurd (show 2 = 0 from h) (by decide)
  · rw [codeS_err (by rw [h]; decide)]; exact h
theorem sayS_un {N M : Nat} {q : Prop} (b : Nat) : OK N q (Un (sayS M b)) (Un (sayS M b)) := by
  refine pure_un (fun x h => ?_) (fun x h => ?_)
  · refine ⟨?_, sayS_p M b x⟩
    by_cases h0 : x.e = 0
    · exact h0
    · rw [sayS_err h0] at h; exact absurd h h0
  · rw [sayS_err (by rw [h]; decide)]; exact h
section
variable {N T T' M : Nat} {q : Prop} {B B' : Nat → Nat} (A : Ag N T' q B B')
theorem copyS_all (B : Nat → Nat) (T M n : Nat) (x : Fl) : copyS B T M (n + 1) x = copyS B T M n (sayS M (bitsS B T 8 x).1 (bitsS B T 8 x).2) := by
  by_cases h : x.e = 0
  · exact copyS_one h
  · rw [copyS_err h, bitsS_err h, sayS_err h, copyS_err h]
theorem backS_all (M d n : Nat) (x : Fl) : backS M d (n + 1) x = backS M d n (sayS M (x.o.getD (x.o.length - d) 0) x) := by
  by_cases h : x.e = 0
  · exact if_neg (by omega)
  · rw [backS_err h, sayS_err h, backS_err h]
theorem backS_un (d : Nat) : ∀ n, OK N q (Un (backS M d n)) (Un (backS M d n))
  | 0 => id_un
  | n + 1 => by
    have h0 : OK N q (fun x : Fl => (x.o.getD (x.o.length - d) 0, x)) (fun x : Fl => (x.o.getD (x.o.length - d) 0, x)) := OK.pure (fun _ h => ⟨h, Nat.le_refl _⟩) (fun _ h => h) (fun _ _ h _ => h)
    exact (h0.bind fun b => (sayS_un (M := M) b).bind fun _ => backS_un d n).cast (fun x => by unfold Un; (try dsimp only); rw [backS_all]) (fun x => by unfold Un; (try dsimp only); rw [backS_all])
include A
theorem copyS_un : ∀ n, OK N q (Un (copyS B T M n)) (Un (copyS B' T' M n))
  | 0 => id_un
  | n + 1 => ((bitsS_OK A 8).bind fun b => (sayS_un (M := M) b).bind fun _ => copyS_un n).cast (fun x => by unfold Un; (try dsimp only); rw [copyS_all]) (fun x => by unfold Un; (try dsimp only); rw [copyS_all])
theorem copiedS_un (k : Nat) (l : Nat → Nat) (n : Nat) : OK N q (Un (copiedS B T M k l n)) (Un (copiedS B' T' M k l n)) := by
  by_cases hl : (lengthV (k : Int)).2.2 = false
  · exact err_un.cast (fun x => by unfold Un copiedS; (try dsimp only); rw [if_pos hl]) (fun x => by unfold Un copiedS; (try dsimp only); rw [if_pos hl])
  · have key : ∀ (a s : Nat), OK N q (fun y : Fl => Un (fun y => if y.e ≠ 0 ∨ (distV (s : Int)).2.2 = false then ⟨y.p, 2, y.o⟩ else
        let b := bitsS B T (distV (s : Int)).2.1 y
        backS M ((distV (s : Int)).1 + b.1) ((lengthV (k : Int)).1 + a) (if b.2.e = 0 ∧ (distV (s : Int)).1 + b.1 > b.2.o.length then ⟨b.2.p, 2, b.2.o⟩ else b.2)) y)
        (fun y : Fl => Un (fun y => if y.e ≠ 0 ∨ (distV (s : Int)).2.2 = false then ⟨y.p, 2, y.o⟩ else
        let b := bitsS B' T' (distV (s : Int)).2.1 y
        backS M ((distV (s : Int)).1 + b.1) ((lengthV (k : Int)).1 + a) (if b.2.e = 0 ∧ (distV (s : Int)).1 + b.1 > b.2.o.length then ⟨b.2.p, 2, b.2.o⟩ else b.2)) y) := fun a s => by
      by_cases hd : (distV (s : Int)).2.2 = false
      · exact err_un.cast (fun x => by unfold Un; (try dsimp only); rw [if_pos (.inr hd)]) (fun x => by unfold Un; (try dsimp only); rw [if_pos (.inr hd)])
      · refine ((bitsS_OK (T := T) A (distV (s : Int)).2.1).bind fun b => (chk_un fun y => (distV (s : Int)).1 + b > y.o.length).bind fun _ => backS_un (M := M) ((distV (s : Int)).1 + b) ((lengthV (k : Int)).1 + a)).on0 (fun x h => ?_) (fun x h => ?_) (fun x h => ?_) (fun x h => ?_)
        · unfold Un; (try dsimp only); rw [if_neg (by rintro (h2 | h2); exact h2 h; exact hd h2)]
        · unfold Un; (try dsimp only); rw [if_neg (by rintro (h2 | h2); exact h2 h; exact hd h2)]
        · by_cases h0 : x.e = 0
          · exact h0
          · unfold Un at h; (try dsimp only at h); rw [if_pos (.inl h0)] at h; exact absurd (show 2 = 0 from h) (by decide)
        · unfold Un; (try dsimp only); rw [if_pos (.inl (by rw [h]; decide))]
    exact ((bitsS_OK (T := T) A (lengthV (k : Int)).2.1).bind fun a => (symS_OK (T := T) A l n).bind fun s => key a s).cast (fun x => by unfold Un copiedS; (try dsimp only); rw [if_neg hl]) (fun x => by unfold Un copiedS; (try dsimp only); rw [if_neg hl])
theorem symbolsS_un (l : Nat → Nat) (n : Nat) (g : Nat → Nat) (m : Nat) : ∀ t, OK N q (Un (symbolsS B T M l n g m t)) (Un (symbolsS B' T' M l n g m t))
  | 0 => id_un
  | t + 1 => by
    have ih := symbolsS_un l n g m t
    have key : ∀ s : Nat, OK N q (Un fun y => if y.e ≠ 0 ∨ s = 256 then y else if s < 256 then symbolsS B T M l n g m t (sayS M s y) else symbolsS B T M l n g m t (copiedS B T M s g m y))
        (Un fun y => if y.e ≠ 0 ∨ s = 256 then y else if s < 256 then symbolsS B' T' M l n g m t (sayS M s y) else symbolsS B' T' M l n g m t (copiedS B' T' M s g m y)) := fun s => by
      by_cases h256 : s = 256
      · exact id_un.cast (fun x => by unfold Un; (try dsimp only); rw [if_pos (.inr h256)]) (fun x => by unfold Un; (try dsimp only); rw [if_pos (.inr h256)])
      · have h0 : ∀ x : Fl, x.e = 0 → ¬ (x.e ≠ 0 ∨ s = 256) := fun x h => by rintro (h2 | h2); exact h2 h; exact h256 h2
        by_cases hlt : s < 256
        · refine ((sayS_un (M := M) s).bind fun _ => ih).on0 (fun x h => by unfold Un; (try dsimp only); rw [if_neg (h0 x h), if_pos hlt]) (fun x h => by unfold Un; (try dsimp only); rw [if_neg (h0 x h), if_pos hlt]) (fun x h => ?_) (fun x h => by unfold Un; (try dsimp only); rw [if_pos (.inl (by rw [h]; decide))]; exact h)
          by_cases hx : x.e = 0
          · exact hx
          · unfold Un at h; (try dsimp only at h); rw [if_pos (.inl hx)] at h; exact absurd h hx
        · refine ((copiedS_un A s g m).bind fun _ => ih).on0 (fun x h => by unfold Un; (try dsimp only); rw [if_neg (h0 x h), if_neg hlt]) (fun x h => by unfold Un; (try dsimp only); rw [if_neg (h0 x h), if_neg hlt]) (fun x h => ?_) (fun x h => by unfold Un; (try dsimp only); rw [if_pos (.inl (by rw [h]; decide))]; exact h)
          by_cases hx : x.e = 0
          · exact hx
          · unfold Un at h; (try dsimp only at h); rw [if_pos (.inl hx)] at h; exact absurd h hx
    have e : ∀ (B : Nat → Nat) (T : Nat) (x : Fl), symbolsS B T M l n g m (t + 1) x = (fun y : Fl => if y.e ≠ 0 ∨ (symS B T l n x).1 = 256 then y else if (symS B T l n x).1 < 256 then symbolsS B T M l n g m t (sayS M (symS B T l n x).1 y) else symbolsS B T M l n g m t (copiedS B T M (symS B T l n x).1 g m y)) (symS B T l n x).2 := fun B T x => by
      by_cases hx : x.e = 0
      · exact if_neg (by omega)
      · rw [symbolsS_err hx]
        dsimp only
        rw [symS_err hx, if_pos (.inl hx)]
    exact ((symS_OK (T := T) A l n).bind key).cast (fun x => by unfold Un; (try dsimp only); rw [e]) (fun x => by unfold Un; (try dsimp only); rw [e])
theorem fewS_OK : ∀ (n i : Nat) (f : Nat → Nat), OK N q (fewS B T n i f) (fewS B' T' n i f)
  | 0, _, _ => OK.pure (fun _ h => ⟨h, Nat.le_refl _⟩) (fun _ h => h) (fun _ _ h _ => h)
  | n + 1, i, f => (bitsS_OK (T := T) A 3).bind fun b => fewS_OK n (i + 1) fun j => if j = ordL.getD i 0 then b else f j
theorem tellS_OK (g : Nat → Nat) (all : Nat) : ∀ (f : Nat) (L : List Nat), OK N q (tellS B T g all f L) (tellS B' T' g all f L)
  | 0, L => OK.pure (fun _ h => ⟨h, Nat.le_refl _⟩) (fun _ h => h) (fun _ _ h _ => h)
  | f + 1, L => by
    by_cases hL : L.length ≥ all
    · have h0 : OK N q (fun x : Fl => (L, x)) (fun x : Fl => (L, x)) := OK.pure (fun _ h => ⟨h, Nat.le_refl _⟩) (fun _ h => h) (fun _ _ h _ => h)
      exact h0.cast (fun x => tellS_end hL) (fun x => tellS_end hL)
    · have more : ∀ (n v least : Nat), OK N q (fun y : Fl => tellS B T g all f (againS L v (least + (bitsS B T n y).1) (bitsS B T n y).2.e) (bitsS B T n y).2) (fun y : Fl => tellS B' T' g all f (againS L v (least + (bitsS B' T' n y).1) (bitsS B' T' n y).2.e) (bitsS B' T' n y).2) := fun n v least => by
        have inner : ∀ b : Nat, OK N q (fun y : Fl => tellS B T g all f (againS L v (least + b) y.e) y) (fun y : Fl => tellS B' T' g all f (againS L v (least + b) y.e) y) := fun b => by
          refine (tellS_OK g all f (againS L v (least + b) 0)).on0 (fun x h => by rw [h]) (fun x h => by rw [h]) (fun x h => ?_) (fun x h => ?_)
          · by_cases hx : x.e = 0
            · exact hx
            · rw [tellS_err hx] at h; exact absurd h hx
          · rw [tellS_err (by rw [h]; decide)]; exact h
        exact (bitsS_OK (T := T) A n).bind inner
      have key : ∀ s : Nat, OK N q (fun y : Fl => if y.e ≠ 0 then (L, y) else if s < 16 then tellS B T g all f (L ++ [s]) y else if s = 16 ∧ L.length = 0 then (L, ⟨y.p, 2, y.o⟩) else
          if s = 16 then tellS B T g all f (againS L (L.getD (L.length - 1) 0) (3 + (bitsS B T 2 y).1) (bitsS B T 2 y).2.e) (bitsS B T 2 y).2 else
          if s = 17 then tellS B T g all f (againS L 0 (3 + (bitsS B T 3 y).1) (bitsS B T 3 y).2.e) (bitsS B T 3 y).2 else
          tellS B T g all f (againS L 0 (11 + (bitsS B T 7 y).1) (bitsS B T 7 y).2.e) (bitsS B T 7 y).2)
          (fun y : Fl => if y.e ≠ 0 then (L, y) else if s < 16 then tellS B' T' g all f (L ++ [s]) y else if s = 16 ∧ L.length = 0 then (L, ⟨y.p, 2, y.o⟩) else
          if s = 16 then tellS B' T' g all f (againS L (L.getD (L.length - 1) 0) (3 + (bitsS B' T' 2 y).1) (bitsS B' T' 2 y).2.e) (bitsS B' T' 2 y).2 else
          if s = 17 then tellS B' T' g all f (againS L 0 (3 + (bitsS B' T' 3 y).1) (bitsS B' T' 3 y).2.e) (bitsS B' T' 3 y).2 else
          tellS B' T' g all f (againS L 0 (11 + (bitsS B' T' 7 y).1) (bitsS B' T' 7 y).2.e) (bitsS B' T' 7 y).2) := fun s => by
        have hE : OK N q (fun y : Fl => (L, (⟨y.p, 2, y.o⟩ : Fl))) (fun y : Fl => (L, (⟨y.p, 2, y.o⟩ : Fl))) := OK.pure (fun _ h => absurd (show 2 = 0 from h) (by decide)) (fun _ _ => rfl) (fun _ _ _ h => absurd (show 2 = 0 from h) (by decide))
        refine (OK.ite (c := s < 16) (tellS_OK g all f (L ++ [s])) (OK.ite (c := s = 16 ∧ L.length = 0) hE (OK.ite (c := s = 16) (more 2 (L.getD (L.length - 1) 0) 3) (OK.ite (c := s = 17) (more 3 0 3) (more 7 0 11))))).on0 (fun x h => by rw [if_neg (fun h2 => h2 h)]) (fun x h => by rw [if_neg (fun h2 => h2 h)]) (fun x h => ?_) (fun x h => ?_)
        · by_cases hx : x.e = 0
          · exact hx
          · rw [if_pos hx] at h; exact absurd h hx
        · rw [if_pos (by rw [h]; decide)]; exact h
      have e : ∀ (B : Nat → Nat) (T : Nat) (x : Fl), tellS B T g all (f + 1) L x = (fun y : Fl => if y.e ≠ 0 then (L, y) else if (symS B T g 19 x).1 < 16 then tellS B T g all f (L ++ [(symS B T g 19 x).1]) y else if (symS B T g 19 x).1 = 16 ∧ L.length = 0 then (L, ⟨y.p, 2, y.o⟩) else
          if (symS B T g 19 x).1 = 16 then tellS B T g all f (againS L (L.getD (L.length - 1) 0) (3 + (bitsS B T 2 y).1) (bitsS B T 2 y).2.e) (bitsS B T 2 y).2 else
          if (symS B T g 19 x).1 = 17 then tellS B T g all f (againS L 0 (3 + (bitsS B T 3 y).1) (bitsS B T 3 y).2.e) (bitsS B T 3 y).2 else
          tellS B T g all f (againS L 0 (11 + (bitsS B T 7 y).1) (bitsS B T 7 y).2.e) (bitsS B T 7 y).2) (symS B T g 19 x).2 := fun B T x => by
        by_cases hx : x.e = 0
        · exact if_neg (by rintro (h | h); exact hL h; exact h hx)
        · rw [tellS_err hx]
          dsimp only
          rw [symS_err hx, if_pos hx]
      exact ((symS_OK (T := T) A g 19).bind key).cast (fun x => e B T x) (fun x => e B' T' x)
theorem tailT_OK (many far few : Nat) : OK N q (tailT B T many far few) (tailT B' T' many far few) := by
  have fin : ∀ tl : List Nat, OK N q (fun y : Fl => let z := if y.e = 0 ∧ (tl.length > many + far ∨ tl.getD 256 0 = 0) then (⟨y.p, 2, y.o⟩ : Fl) else y
      (if z.e ≠ 0 then ((([], []) : List Nat × List Nat), z) else ((tl.take many, tl.drop many), z))) (fun y : Fl => let z := if y.e = 0 ∧ (tl.length > many + far ∨ tl.getD 256 0 = 0) then (⟨y.p, 2, y.o⟩ : Fl) else y
      (if z.e ≠ 0 then ((([], []) : List Nat × List Nat), z) else ((tl.take many, tl.drop many), z))) := fun tl => by
    have h1 : OK N q (fun z : Fl => if z.e ≠ 0 then ((([], []) : List Nat × List Nat), z) else ((tl.take many, tl.drop many), z)) (fun z : Fl => if z.e ≠ 0 then ((([], []) : List Nat × List Nat), z) else ((tl.take many, tl.drop many), z)) := by
      refine OK.pure (fun x h => ?_) (fun x h => ?_) (fun x h hp _ => ?_)
      · split at h
        · next h2 => exact absurd h h2
        · next h2 => rw [if_neg h2]; exact ⟨h, Nat.le_refl _⟩
      · rw [if_pos (by rw [h]; decide)]; exact h
      · rw [if_neg (fun h2 => h2 h)]; exact hp
    exact (chk_un fun _ => tl.length > many + far ∨ tl.getD 256 0 = 0).bind fun _ => h1
  exact (chk_un fun _ => many > 286 ∨ far > 30).bind fun _ => (fewS_OK A few 0 fun _ => 0).bind fun G => (codeS_un ((List.range 19).map G)).bind fun _ => (tellS_OK A G (many + far) (many + far + 1) []).bind fin
theorem toldS_OK : OK N q (toldS B T) (toldS B' T') :=
  ((bitsS_OK (T := T) A 5).bind fun a => (bitsS_OK (T := T) A 5).bind fun b => (bitsS_OK (T := T) A 4).bind fun c => tailT_OK A (257 + a) (1 + b) (4 + c)).cast (fun x => toldS_tail B T x) (fun x => toldS_tail B' T' x)
theorem storedS_un {m : Nat} (hm : N = 8 * m) : OK N q (Un (storedS B T M)) (Un (storedS B' T' M)) := by
  have h0 : OK N q (Un fun x => ⟨(x.p + 7) / 8 * 8, x.e, x.o⟩) (Un fun x => ⟨(x.p + 7) / 8 * 8, x.e, x.o⟩) := OK.pure (fun x h => ⟨h, by show x.p ≤ (x.p + 7) / 8 * 8; omega⟩) (fun x h => h) (fun x _ hp _ => by show (x.p + 7) / 8 * 8 ≤ N; omega)
  exact h0.bind fun _ => (bitsS_OK (T := T) A 16).bind fun a => (bitsS_OK (T := T) A 16).bind fun b => (chk_un fun _ => b + a ≠ 65535).bind fun _ => copyS_un (T := T) (M := M) A a
end
end Go.Proofs.Ytiphnnaanjjaoaa
/- A run looks at no bit behind the last one that it reads: Open. -/
namespace Go.Proofs.Ytiphnnaanjjaoaa
open Go.RowKit
/-- Where the next bit stands: the state's first half alone. -/
def Pn (p0 T : Nat) (x : Fl) : Prop := x.e = 0 → p0 ≤ x.p ∧ x.p ≤ T
theorem bits_p {B : Nat → Nat} {p0 T n : Nat} {x : Fl} (h : Pn p0 T x) : Pn p0 T (bitsS B T n x).2 := (bitsS_Rn (M := x.o.length) ⟨h, Nat.le_refl _⟩).1
theorem sym_p {B : Nat → Nat} {p0 T n : Nat} {l : Nat → Nat} {x : Fl} (h : Pn p0 T x) : Pn p0 T (symS B T l n x).2 := (symS_Rn (M := x.o.length) ⟨h, Nat.le_refl _⟩).1
theorem back_p {p0 T M d : Nat} : ∀ (n : Nat) {x : Fl}, Pn p0 T x → Pn p0 T (backS M d n x)
  | 0, _, h => h
  | n + 1, x, h => by
    rw [backS_all]
    refine back_p n fun he => ?_
    rw [sayS_p]
    refine h ?_
    by_cases h0 : x.e = 0
    · exact h0
    · rw [sayS_err h0] at he; exact absurd he h0
theorem copied_pn {B : Nat → Nat} {p0 T M k : Nat} {l : Nat → Nat} {n : Nat} {x : Fl} (h : Pn p0 T x) : Pn p0 T (copiedS B T M k l n x) := by
  have bad : ∀ y : Fl, Pn p0 T ⟨y.p, 2, y.o⟩ := fun y h => absurd (show 2 = 0 from h) (by decide)
  unfold copiedS
  split
  · exact bad x
  · dsimp only
    split
    · exact bad _
    · refine back_p _ ?_
      split
      · exact bad _
      · exact bits_p (sym_p (bits_p h))
theorem copied_p {B : Nat → Nat} {T M k : Nat} {l : Nat → Nat} {n : Nat} {x : Fl} (hp : x.p ≤ T) (h : (copiedS B T M k l n x).e = 0) : x.p ≤ (copiedS B T M k l n x).p ∧ (copiedS B T M k l n x).p ≤ T :=
  copied_pn (p0 := x.p) (fun _ => ⟨Nat.le_refl _, hp⟩) h
/-- More rounds than bits change nothing. -/
theorem symbolsS_fuel {B : Nat → Nat} {T M : Nat} {l : Nat → Nat} {n : Nat} {g : Nat → Nat} {m : Nat} : ∀ (t1 t2 : Nat) (x : Fl), T - x.p < t1 → T - x.p < t2 → symbolsS B T M l n g m t1 x = symbolsS B T M l n g m t2 x
  | 0, _, _, h, _ => absurd h (Nat.not_lt_zero _)
  | _ + 1, 0, _, _, h => absurd h (Nat.not_lt_zero _)
  | t1 + 1, t2 + 1, x, h1, h2 => by
    by_cases hx : x.e ≠ 0
    · rw [symbolsS_err hx, symbolsS_err hx]
    · have key : ∀ y : Fl, (y.e = 0 → x.p < y.p ∧ y.p ≤ T) → symbolsS B T M l n g m t1 y = symbolsS B T M l n g m t2 y := fun y hy => by
        by_cases h0 : y.e = 0
        · have := hy h0
          exact symbolsS_fuel t1 t2 y (by omega) (by omega)
        · rw [symbolsS_err h0, symbolsS_err h0]
      have hs : (symS B T l n x).2.e = 0 → x.p < (symS B T l n x).2.p ∧ (symS B T l n x).2.p ≤ T := fun h => by
        have h0 : x.e = 0 := by omega
        obtain ⟨k, z, e0, e⟩ : ∃ k z e, nextV l n B T x.p 0 15 = (k, z, e) := ⟨_, _, _, rfl⟩
        cases e0 with
        | zero => rw [symS_in h0 e]; have := nextV_in 15 0 e; exact ⟨by show x.p < z; omega, this.2⟩
        | succ j => rw [symS_out h0 e] at h; exact absurd (show 2 = 0 from h) (by decide)
      have e : ∀ t, symbolsS B T M l n g m (t + 1) x = (let s := symS B T l n x
        if s.2.e ≠ 0 ∨ s.1 = 256 then s.2 else if s.1 < 256 then symbolsS B T M l n g m t (sayS M s.1 s.2) else symbolsS B T M l n g m t (copiedS B T M s.1 g m s.2)) := fun t => if_neg hx
      rw [e t1, e t2]
      generalize symS B T l n x = s at hs
      dsimp only
      split
      · rfl
      · next hc =>
        have h0 : s.2.e = 0 := by
          by_cases h : s.2.e = 0
          · exact h
          · exact absurd (.inl h) hc
        have hp := hs h0
        split
        · refine key _ fun _ => ?_
          rw [sayS_p]; exact hp
        · refine key _ fun hy => ?_
          have := copied_p (B := B) (T := T) (M := M) (k := s.1) (l := g) (n := m) (x := s.2) hp.2 hy
          omega
def codedF (B : Nat → Nat) (T M F : Nat) (a b : List Nat) (x : Fl) : Fl :=
  symbolsS B T M (fun i => a.getD i 0) a.length (fun i => b.getD i 0) b.length F (codeS b (codeS a x))
theorem codedF_eq {B : Nat → Nat} {T M F : Nat} {a b : List Nat} {x : Fl} (hF : T < F) : codedS B T M a b x = codedF B T M F a b x := symbolsS_fuel _ _ _ (by omega) (by omega)
def blockF (B : Nat → Nat) (T M F : Nat) (x : Fl) : Bool × Fl :=
  let a := bitsS B T 1 x
  let k := bitsS B T 2 a.2
  (decide (a.1 = 1), if k.2.e ≠ 0 then k.2 else if k.1 = 0 then storedS B T M k.2 else if k.1 = 1 then codedF B T M F fixA fixB k.2 else
    if k.1 = 2 then codedF B T M F (toldS B T k.2).1.1 (toldS B T k.2).1.2 (toldS B T k.2).2 else ⟨k.2.p, 2, k.2.o⟩)
theorem blockF_eq {B : Nat → Nat} {T M F : Nat} {x : Fl} (hF : T < F) : blockS B T M x = blockF B T M F x := by
  unfold blockS blockF
  simp only [codedF_eq hF]
def blocksF (B : Nat → Nat) (T M F : Nat) : Nat → Bool → Fl → Fl
  | 0, _, x => x
  | f + 1, last, x => if last = true ∨ x.e ≠ 0 then x else blocksF B T M F f (blockF B T M F x).1 (blockF B T M F x).2
theorem blocksF_eq {B : Nat → Nat} {T M F : Nat} (hF : T < F) : ∀ (t : Nat) (b : Bool) (x : Fl), blocksS B T M t b x = blocksF B T M F t b x
  | 0, _, _ => rfl
  | t + 1, b, x => by
    unfold blocksS blocksF
    rw [blockF_eq hF, blocksF_eq hF t]
theorem blocksF_end {B : Nat → Nat} {T M F t : Nat} {b : Bool} {x : Fl} (h : b = true ∨ x.e ≠ 0) : blocksF B T M F t b x = x := by
  cases t with
  | zero => rfl
  | succ t => exact if_pos h
/-- A block without an error has three bits at least. -/
theorem blockF_p {B : Nat → Nat} {t M F : Nat} {x : Fl} (h : (blockF B (8 * t) M F x).2.e = 0) (h0 : x.e = 0) : x.p + 3 ≤ (blockF B (8 * t) M F x).2.p ∧ (blockF B (8 * t) M F x).2.p ≤ 8 * t := by
  by_cases h1 : x.p + 1 ≤ 8 * t
  · by_cases h2 : x.p + 1 + 2 ≤ 8 * t
    · have hk : bitsS B (8 * t) 2 (bitsS B (8 * t) 1 x).2 = (vb B (x.p + 1) 2, ⟨x.p + 1 + 2, 0, x.o⟩) := by rw [bitsS_in h0 h1]; exact bitsS_in rfl h2
      have hR : Rn (x.p + 3) (8 * t) (max M x.o.length) ⟨x.p + 1 + 2, 0, x.o⟩ := ⟨fun _ => ⟨Nat.le_refl _, h2⟩, Nat.le_max_right _ _⟩
      have hP : Pn (x.p + 3) (8 * t) ⟨x.p + 1 + 2, 0, x.o⟩ := fun _ => ⟨Nat.le_refl _, h2⟩
      have code_p : ∀ (l : List Nat) {y : Fl}, Pn (x.p + 3) (8 * t) y → Pn (x.p + 3) (8 * t) (codeS l y) := fun l y hy => (codeS_Rn (M := y.o.length) ⟨hy, Nat.le_refl _⟩).1
      have told_p : ∀ {y : Fl}, Pn (x.p + 3) (8 * t) y → Pn (x.p + 3) (8 * t) (toldS B (8 * t) y).2 := fun {y} hy => (toldS_Rn (M := y.o.length) ⟨hy, Nat.le_refl _⟩).1
      have syms_p : ∀ (l : Nat → Nat) (n : Nat) (g : Nat → Nat) (m f : Nat) {y : Fl}, Pn (x.p + 3) (8 * t) y → Pn (x.p + 3) (8 * t) (symbolsS B (8 * t) M l n g m f y) := fun l n g m f => by
        induction f with
        | zero => intro y hy; exact hy
        | succ f ih =>
          intro y hy
          unfold symbolsS
          split
          · exact hy
          · dsimp only
            have h2 := sym_p (B := B) (l := l) (n := n) hy
            split
            · exact h2
            · split
              · refine ih fun he => ?_
                rw [sayS_p]
                refine h2 ?_
                by_cases h0 : (symS B (8 * t) l n y).2.e = 0
                · exact h0
                · rw [sayS_err h0] at he; exact absurd he h0
              · exact ih (copied_pn h2)
      have stor_p : Pn (x.p + 3) (8 * t) (storedS B (8 * t) M ⟨x.p + 1 + 2, 0, x.o⟩) := by
        have copy_p : ∀ (n : Nat) {y : Fl}, Pn (x.p + 3) (8 * t) y → Pn (x.p + 3) (8 * t) (copyS B (8 * t) M n y) := fun n => by
          induction n with
          | zero => intro y hy; exact hy
          | succ n ih =>
            intro y hy
            rw [copyS_all]
            refine ih fun he => ?_
            rw [sayS_p]
            refine bits_p (B := B) (n := 8) hy ?_
            by_cases h0 : (bitsS B (8 * t) 8 y).2.e = 0
            · exact h0
            · rw [sayS_err h0] at he; exact absurd he h0
        unfold storedS
        dsimp only
        refine copy_p _ ?_
        split
        · exact fun h => absurd (show 2 = 0 from h) (by decide)
        · refine bits_p (bits_p fun _ => ?_)
          show x.p + 3 ≤ (x.p + 1 + 2 + 7) / 8 * 8 ∧ (x.p + 1 + 2 + 7) / 8 * 8 ≤ 8 * t
          omega
      unfold blockF at h ⊢
      dsimp only at h ⊢
      rw [hk] at h ⊢
      dsimp only at h ⊢
      rw [if_neg (fun h => h rfl)] at h ⊢
      split at h
      · next hc => rw [if_pos hc]; exact stor_p h
      · next hc =>
        rw [if_neg hc]
        split at h
        · next hc => rw [if_pos hc]; exact syms_p _ _ _ _ _ (code_p _ (code_p _ hP)) h
        · next hc =>
          rw [if_neg hc]
          split at h
          · next hc => rw [if_pos hc]; exact syms_p _ _ _ _ _ (code_p _ (code_p _ (told_p hP))) h
          · exact absurd (show 2 = 0 from h) (by decide)
    · have hk : bitsS B (8 * t) 2 (bitsS B (8 * t) 1 x).2 = (0, ⟨8 * t, 2, x.o⟩) := by rw [bitsS_in h0 h1]; exact bitsS_out rfl h2
      unfold blockF at h
      dsimp only at h
      rw [hk, if_pos (show (2 : Nat) ≠ 0 by decide)] at h
      exact absurd (show 2 = 0 from h) (by decide)
  · have hk : bitsS B (8 * t) 2 (bitsS B (8 * t) 1 x).2 = (0, ⟨8 * t, 2, x.o⟩) := by rw [bitsS_out h0 h1]; exact bitsS_err (show (2 : Nat) ≠ 0 by decide)
    unfold blockF at h
    dsimp only at h
    rw [hk, if_pos (show (2 : Nat) ≠ 0 by decide)] at h
    exact absurd (show 2 = 0 from h) (by decide)
theorem blocksF_fuel {B : Nat → Nat} {t M F : Nat} : ∀ (t1 t2 : Nat) (b : Bool) (x : Fl), 8 * t - x.p < t1 → 8 * t - x.p < t2 → blocksF B (8 * t) M F t1 b x = blocksF B (8 * t) M F t2 b x
  | 0, _, _, _, h, _ => absurd h (Nat.not_lt_zero _)
  | _ + 1, 0, _, _, _, h => absurd h (Nat.not_lt_zero _)
  | t1 + 1, t2 + 1, b, x, h1, h2 => by
    unfold blocksF
    by_cases hx : b = true ∨ x.e ≠ 0
    · rw [if_pos hx, if_pos hx]
    · rw [if_neg hx, if_neg hx]
      by_cases h0 : (blockF B (8 * t) M F x).2.e = 0
      · have hp := blockF_p h0 (by
          by_cases h : x.e = 0
          · exact h
          · exact absurd (.inr h) hx)
        exact blocksF_fuel t1 t2 _ _ (by omega) (by omega)
      · rw [blocksF_end (.inr h0), blocksF_end (.inr h0)]
section
variable {N T T' M : Nat} {q : Prop} {B B' : Nat → Nat} (A : Ag N T' q B B')
include A
theorem codedF_un (F : Nat) (a b : List Nat) : OK N q (Un (codedF B T M F a b)) (Un (codedF B' T' M F a b)) :=
  (codeS_un a).bind fun _ => (codeS_un b).bind fun _ => symbolsS_un A _ _ _ _ F
theorem blockF_OK (F : Nat) {m : Nat} (hm : N = 8 * m) : OK N q (blockF B T M F) (blockF B' T' M F) := by
  have val : ∀ (v : Bool) {f f' : Fl → Fl}, OK N q (Un f) (Un f') → OK N q (fun y => (v, f y)) (fun y => (v, f' y)) := fun v f f' h =>
    ⟨fun x he => h.mono x he, fun x hx => h.err x hx, fun x he hp => by have := h.same x he hp; unfold Un at this; injection this with _ this; rw [this], fun hq x h0 hp he hN => h.short hq x h0 hp he hN⟩
  have hA := codedF_un (T := T) (M := M) A F fixA fixB
  have key : ∀ (v : Bool) (k : Nat), OK N q (fun y : Fl => (v, if y.e ≠ 0 then y else if k = 0 then storedS B T M y else if k = 1 then codedF B T M F fixA fixB y else if k = 2 then codedF B T M F (toldS B T y).1.1 (toldS B T y).1.2 (toldS B T y).2 else ⟨y.p, 2, y.o⟩))
      (fun y : Fl => (v, if y.e ≠ 0 then y else if k = 0 then storedS B' T' M y else if k = 1 then codedF B' T' M F fixA fixB y else if k = 2 then codedF B' T' M F (toldS B' T' y).1.1 (toldS B' T' y).1.2 (toldS B' T' y).2 else ⟨y.p, 2, y.o⟩)) := fun v k => by
    have h2 : OK N q (Un fun y => codedF B T M F (toldS B T y).1.1 (toldS B T y).1.2 (toldS B T y).2) (Un fun y => codedF B' T' M F (toldS B' T' y).1.1 (toldS B' T' y).1.2 (toldS B' T' y).2) :=
      ((toldS_OK (T := T) A).bind (k := fun t => Un (codedF B T M F t.1 t.2)) (k' := fun t => Un (codedF B' T' M F t.1 t.2)) fun t => codedF_un (T := T) (M := M) A F t.1 t.2).cast (fun x => by unfold Un; rfl) (fun x => by unfold Un; rfl)
    refine (OK.ite (c := k = 0) (val v (storedS_un (T := T) (M := M) A hm)) (OK.ite (c := k = 1) (val v hA) (OK.ite (c := k = 2) (val v h2) (val v err_un)))).on0 (fun x h => ?_) (fun x h => ?_) (fun x h => ?_) (fun x h => ?_)
    · rw [if_neg (fun h2 => h2 h)]
      by_cases c0 : k = 0
      · rw [if_pos c0, if_pos c0]
      · rw [if_neg c0, if_neg c0]
        by_cases c1 : k = 1
        · rw [if_pos c1, if_pos c1]
        · rw [if_neg c1, if_neg c1]
          by_cases c2 : k = 2
          · rw [if_pos c2, if_pos c2]
          · rw [if_neg c2, if_neg c2]
    · rw [if_neg (fun h2 => h2 h)]
      by_cases c0 : k = 0
      · rw [if_pos c0, if_pos c0]
      · rw [if_neg c0, if_neg c0]
        by_cases c1 : k = 1
        · rw [if_pos c1, if_pos c1]
        · rw [if_neg c1, if_neg c1]
          by_cases c2 : k = 2
          · rw [if_pos c2, if_pos c2]
          · rw [if_neg c2, if_neg c2]
    · by_cases hx : x.e = 0
      · exact hx
      · dsimp only at h; rw [if_pos hx] at h; exact h
    · dsimp only; rw [if_pos (by rw [h]; decide)]; exact h
  exact (bitsS_OK A 1).bind fun a => (bitsS_OK A 2).bind fun k => key (decide (a = 1)) k
theorem blocksF_un (F : Nat) {m : Nat} (hm : N = 8 * m) : ∀ (t : Nat) (b : Bool), OK N q (Un (blocksF B T M F t b)) (Un (blocksF B' T' M F t b))
  | 0, _ => id_un
  | t + 1, true => id_un.cast (fun x => by unfold Un; rw [blocksF_end (.inl rfl)]) (fun x => by unfold Un; rw [blocksF_end (.inl rfl)])
  | t + 1, false => by
    have e : ∀ (B : Nat → Nat) (T : Nat) (x : Fl), x.e = 0 → blocksF B T M F (t + 1) false x = blocksF B T M F t (blockF B T M F x).1 (blockF B T M F x).2 := fun B T x h => if_neg (by rintro (h2 | h2); cases h2; exact h2 h)
    refine ((blockF_OK (T := T) (M := M) A F hm).bind fun v => blocksF_un F hm t v).on0 (fun x h => by unfold Un; rw [e _ _ _ h]) (fun x h => by unfold Un; rw [e _ _ _ h]) (fun x h => ?_) (fun x h => by unfold Un; rw [blocksF_end (.inr (by rw [h]; decide))]; exact h)
    by_cases hx : x.e = 0
    · exact hx
    · unfold Un at h; rw [blocksF_end (.inr hx)] at h; exact h
end
end Go.Proofs.Ytiphnnaanjjaoaa
/- Open looks at nothing behind the bytes that it takes; with fewer it errs. -/
namespace Go.Proofs.Ytiphnnaanjjaoaa
open Go.RowKit
/-- The state in which Open ends. -/
def endS (s : ByteArray) (M : Nat) : Fl := blocksS (bitH s) (8 * s.size) M (8 * s.size + 1) false ⟨0, 0, []⟩
theorem openS_end (s : ByteArray) (M : Nat) (hM : M ≤ 1048576) : openS s (M : Int) = if (endS s M).e ≠ 0 then ([], 0, (endS s M).e) else ((endS s M).o, ((endS s M).p + 7) / 8, 0) := by
  unfold openS
  rw [if_neg (by omega)]
  rfl
theorem endS_F (s : ByteArray) (M F : Nat) (hF : 8 * s.size < F) : endS s M = blocksF (bitH s) (8 * s.size) M F F false ⟨0, 0, []⟩ := by
  unfold endS
  rw [blocksF_eq hF]
  exact blocksF_fuel _ _ _ _ (by show 8 * s.size - 0 < _; omega) (by show 8 * s.size - 0 < _; omega)
theorem endS_p {s : ByteArray} {M : Nat} (h : (endS s M).e = 0) : 3 ≤ (endS s M).p ∧ (endS s M).p ≤ 8 * s.size := by
  rw [endS_F s M (8 * s.size + 1) (by omega)] at h ⊢
  have key : ∀ (t : Nat) (b : Bool) (x : Fl), x.p ≤ 8 * s.size → (blocksF (bitH s) (8 * s.size) M (8 * s.size + 1) t b x).e = 0 → x.p ≤ (blocksF (bitH s) (8 * s.size) M (8 * s.size + 1) t b x).p ∧ (blocksF (bitH s) (8 * s.size) M (8 * s.size + 1) t b x).p ≤ 8 * s.size := fun t => by
    induction t with
    | zero => intro b x hp _; exact ⟨Nat.le_refl _, hp⟩
    | succ t ih =>
      intro b x hp he
      by_cases hx : b = true ∨ x.e ≠ 0
      · rw [blocksF_end hx]; exact ⟨Nat.le_refl _, hp⟩
      · have e : blocksF (bitH s) (8 * s.size) M (8 * s.size + 1) (t + 1) b x = blocksF (bitH s) (8 * s.size) M (8 * s.size + 1) t (blockF (bitH s) (8 * s.size) M (8 * s.size + 1) x).1 (blockF (bitH s) (8 * s.size) M (8 * s.size + 1) x).2 := if_neg hx
        rw [e] at he ⊢
        have h0 : (blockF (bitH s) (8 * s.size) M (8 * s.size + 1) x).2.e = 0 := by
          by_cases h : (blockF (bitH s) (8 * s.size) M (8 * s.size + 1) x).2.e = 0
          · exact h
          · rw [blocksF_end (.inr h)] at he; exact he
        have h1 := blockF_p h0 (by
          by_cases h : x.e = 0
          · exact h
          · exact absurd (.inr h) hx)
        have := ih _ _ h1.2 he
        omega
  have e : blocksF (bitH s) (8 * s.size) M (8 * s.size + 1) (8 * s.size + 1) false ⟨0, 0, []⟩ = blocksF (bitH s) (8 * s.size) M (8 * s.size + 1) (8 * s.size) (blockF (bitH s) (8 * s.size) M (8 * s.size + 1) ⟨0, 0, []⟩).1 (blockF (bitH s) (8 * s.size) M (8 * s.size + 1) ⟨0, 0, []⟩).2 := if_neg (by rintro (h | h); cases h; exact h rfl)
  rw [e] at h ⊢
  have h0 : (blockF (bitH s) (8 * s.size) M (8 * s.size + 1) ⟨0, 0, []⟩).2.e = 0 := by
    by_cases h2 : (blockF (bitH s) (8 * s.size) M (8 * s.size + 1) ⟨0, 0, []⟩).2.e = 0
    · exact h2
    · rw [blocksF_end (.inr h2)] at h; exact h
  have h1 := blockF_p h0 rfl
  have := key _ _ _ h1.2 h
  dsimp only at h1
  omega
theorem endS_len {s : ByteArray} {M : Nat} : (endS s M).o.length ≤ M := by
  have key : ∀ (t : Nat) (b : Bool) {x : Fl}, Rn 0 (8 * s.size) M x → Rn 0 (8 * s.size) M (blocksS (bitH s) (8 * s.size) M t b x) := fun t => by
    induction t with
    | zero => intro b x h; exact h
    | succ t ih =>
      intro b x h
      unfold blocksS
      split
      · exact h
      · refine ih _ ?_
        have h1 : Rn 0 (8 * s.size) M (bitsS (bitH s) (8 * s.size) 2 (bitsS (bitH s) (8 * s.size) 1 x).2).2 := bitsS_Rn (bitsS_Rn h)
        unfold blockS
        dsimp only
        split
        · exact h1
        · split
          · exact storedS_Rn h1
          · split
            · exact codedS_Rn h1
            · split
              · exact codedS_Rn (toldS_Rn h1)
              · exact h1.err (by decide)
  exact (key _ _ ⟨fun _ => ⟨Nat.le_refl 0, Nat.zero_le _⟩, Nat.zero_le _⟩).2
/-- What stands behind is not looked at. -/
theorem endS_same {s t : ByteArray} {M n : Nat} (h : (endS s M).e = 0) (hn : ((endS s M).p + 7) / 8 ≤ n) (ht : n ≤ t.size) (hb : ∀ j, j < n → byteS t j = byteS s j) : endS t M = endS s M := by
  have A : Ag (8 * n) (8 * t.size) False (bitH s) (bitH t) := ⟨fun i hi => by unfold bitH; rw [hb _ (by omega)], by omega, fun h => h.elim⟩
  rw [endS_F s M (8 * s.size + 8 * t.size + 1) (by omega)] at h hn ⊢
  rw [endS_F t M (8 * s.size + 8 * t.size + 1) (by omega)]
  have := (blocksF_un (T := 8 * s.size) (M := M) A (8 * s.size + 8 * t.size + 1) (m := n) rfl (8 * s.size + 8 * t.size + 1) false).same ⟨0, 0, []⟩ h (by show (blocksF _ _ _ _ _ _ _).p ≤ _; omega)
  unfold Un at this
  injection this
theorem endS_short {s t : ByteArray} {M : Nat} (h : (endS s M).e = 0) (hn : 8 * t.size < (endS s M).p) (hb : ∀ j, j < t.size → byteS t j = byteS s j) : (endS t M).e = 2 := by
  have A : Ag (8 * t.size) (8 * t.size) True (bitH s) (bitH t) := ⟨fun i hi => by unfold bitH; rw [hb _ (by omega)], Nat.le_refl _, fun _ => rfl⟩
  rw [endS_F s M (8 * s.size + 8 * t.size + 1) (by omega)] at h hn
  rw [endS_F t M (8 * s.size + 8 * t.size + 1) (by omega)]
  exact (blocksF_un (T := 8 * s.size) (M := M) A (8 * s.size + 8 * t.size + 1) (m := t.size) rfl (8 * s.size + 8 * t.size + 1) false).short trivial ⟨0, 0, []⟩ rfl (Nat.zero_le _) h hn
theorem lands_maxR {o : Oper} {a : Act} {w : World} (x : Operand) (n k : Int) (ho : o.op = .call { callee := .builtin .max, args := #[x, .const (.int .i64 k)], argTypes := #[3, 3] }) (ht : o.type = 3) (hx : a.eval x = .int .i64 n) :
    Lands Try.prog (fun w' => w' = w) (.int .i64 (max n k)) ((execOp a.eval o).run Try.prog w) := by
  refine lands_value (w := w) ?_ rfl
  have hc : a.eval (.const (.int .i64 k)) = .int .i64 k := rfl
  simp [execOp, ho, ht, hx, hc, resolve, invoke, builtin]
  by_cases h : n ≤ k
  · rw [show max n k = k by omega]
    go_simp
    intro; omega
  · rw [show max n k = n by omega]
    have h' : k < n := by omega
    go_simp
    try (intro; omega)
theorem txtL_size (l : List Nat) : (txtL l).size = l.length := textN_size _ _
end Go.Proofs.Ytiphnnaanjjaoaa
