/- The developers' reader of chapter 13: what it answers. -/
import Derived.Test.YtfheedpoaomfeaaIc
namespace Go.Proofs.Ytfheedpoaomfeaa
open Go.RowKit
theorem take_any (g : Nat) (B : ByteArray) (E : Nat) (n : Int) (w : World) (h : RW g B E w) :
    Calls Try.prog 31 #[.pointer (some ⟨g, 0, none⟩), .int .i64 n] w fun e w' => Ho g w w' ∧ ∃ p m cap, e = .returned (.slice p m cap) ∧ TS p m cap (rawW B E n).1 w' ∧ (∀ a, p = some a → a.block ≠ g) ∧ RW g (rawW B E n).2.1 (rawW B E n).2.2 w' := by
  by_cases hE : E = 0
  · subst hE
    by_cases h0 : n < 0
    · exact take_neg g B n w h h0
    · by_cases hm : (B.size : Int) < n
      · exact take_more g B n w h (by omega) hm
      · obtain ⟨k, rfl⟩ : ∃ k : Nat, n = (k : Int) := ⟨n.toNat, by omega⟩
        exact take_ok g B k w h (by omega)
  · exact take_err g B E n w h hE
set_option maxRecDepth 100000 in
theorem raw_any (g : Nat) (B : ByteArray) (E : Nat) (n : Int) (w : World) (h : RW g B E w) :
    Calls Try.prog 21 #[.pointer (some ⟨g, 0, none⟩), .int .i64 n] w fun e w' => e = .returned (.string (rawW B E n).1) ∧ Ho g w w' ∧ RW g (rawW B E n).2.1 (rawW B E n).2.2 w' := by
  have C := take_any g B E n w h
  generalize rawW B E n = r at C ⊢
  clear h
  go_enter Try.func21, Try.ntmps21
  go_wp2_with fail
  refine C.mono ?_
  rintro e w1 ⟨h1, p, m, cap, rfl, h2, h3, h4⟩
  have hs := h2.string
  have HF := Lib.hid (⟨h1, h4⟩ : Ho g w w1 ∧ RW g r.2.1 r.2.2 w1)
  clear h1 h2 h3 h4 C
  go_wp2_with fail
  go_ret
  exact ⟨rfl, HF.out⟩
/-- How many are there yet. -/
def restW (B : ByteArray) (E : Nat) : Nat := if E = 0 then B.size else 0
/-- What the end tells. -/
def endW (B : ByteArray) (E : Nat) : Nat := if E = 0 ∧ 0 < B.size then 2 else E
set_option maxRecDepth 100000 in
theorem rest_any (g : Nat) (B : ByteArray) (E : Nat) (w : World) (h : RW g B E w) :
    Calls Try.prog 25 #[.pointer (some ⟨g, 0, none⟩)] w fun e w' => e = .returned (.int .i64 (restW B E : Int)) ∧ w' = w := by
  obtain ⟨p, m, cap, hb, h2, h3⟩ := h
  have c0 : w.cell? ⟨g, 0, none⟩ = some (.slice p m cap) := hb.cell 0
  have hr : restW B E = m := by
    unfold restW
    by_cases hE : E = 0
    · rw [if_pos hE]; exact (h2 hE).1.len
    · rw [if_neg hE]; exact (h3 hE).2.1.symm
  rw [hr]
  clear h2 h3 hr hb
  go_enter Try.func25, Try.ntmps25
  go_wp2_with fail
  go_ret
  exact ⟨rfl, rfl⟩
set_option maxRecDepth 100000 in
theorem end_any (g : Nat) (B : ByteArray) (E : Nat) (w : World) (h : RW g B E w) :
    Calls Try.prog 27 #[.pointer (some ⟨g, 0, none⟩)] w fun e w' => e = .returned (.int .i64 (endW B E : Int)) ∧ w' = w := by
  have C := rest_any g B E w h
  obtain ⟨p, m, cap, hb, h2, h3⟩ := h
  have c1 : w.cell? ⟨g, 1, none⟩ = some (.int .i64 (E : Int)) := hb.cell 1
  by_cases hr : 0 < restW B E
  · have he : endW B E = 2 := by
      unfold restW at hr
      unfold endW
      by_cases hE : E = 0
      · rw [if_pos hE] at hr; rw [if_pos ⟨hE, hr⟩]
      · rw [if_neg hE] at hr; omega
    rw [he]
    generalize restW B E = r at C hr
    have hr' : (r : Int) > 0 := by omega
    clear h2 h3 hb he
    go_enter Try.func27, Try.ntmps27
    go_wp2_with fail
    refine C.mono ?_
    rintro e w1 ⟨rfl, rfl⟩
    go_wp2_with fail
    go_ret
    exact ⟨rfl, rfl⟩
  · have he : endW B E = E := by
      unfold restW at hr
      unfold endW
      by_cases hE : E = 0
      · rw [if_pos hE] at hr; rw [if_neg (by omega)]
      · rw [if_neg (by omega)]
    rw [he]
    generalize restW B E = r at C hr
    have hr' : ¬ (r : Int) > 0 := by omega
    clear h2 h3 hb he
    go_enter Try.func27, Try.ntmps27
    go_wp2_with fail
    refine C.mono ?_
    rintro e w1 ⟨rfl, rfl⟩
    go_wp2_with fail
    go_ret
    exact ⟨rfl, rfl⟩
/-- Is it a size? -/
def sizeW (n : Int) : Bool := decide (1 ≤ n) && decide (n ≤ 7)
set_option maxRecDepth 100000 in
theorem size_err (g : Nat) (T : TypeId) (v : Value) (E n : Int) (w : World) (h : Blk w g T #[v, .int .i64 E]) (hE : ¬ E = 0) :
    Calls Try.prog 29 #[.pointer (some ⟨g, 0, none⟩), .int .i64 n] w fun r w' => r = .returned (.bool false) ∧ w' = w := by
  have C := fun b => needs_err g T v E 1 b w h hE
  clear h
  by_cases h1 : n ≥ 1
  · go_enter Try.func29, Try.ntmps29
    go_wp2_with fail
    refine (C (decide (n ≤ 7))).mono ?_
    rintro e w1 ⟨rfl, rfl⟩
    go_wp2_with fail
    go_ret
    exact ⟨rfl, rfl⟩
  · go_enter Try.func29, Try.ntmps29
    go_wp2_with fail
    refine (C false).mono ?_
    rintro e w1 ⟨rfl, rfl⟩
    go_wp2_with fail
    go_ret
    exact ⟨rfl, rfl⟩
set_option maxRecDepth 100000 in
theorem size_ok (g : Nat) (T : TypeId) (v : Value) (n : Int) (w : World) (h : Blk w g T #[v, .int .i64 0]) (hn : 1 ≤ n ∧ n ≤ 7) :
    Calls Try.prog 29 #[.pointer (some ⟨g, 0, none⟩), .int .i64 n] w fun r w' => r = .returned (.bool true) ∧ w' = w := by
  have C := needs_ok g T v 1 w h
  have h1 : n ≥ 1 := hn.1
  have h2 := hn.2
  clear h hn
  go_enter Try.func29, Try.ntmps29
  go_wp2_with fail
  refine C.mono ?_
  rintro e w1 ⟨rfl, rfl⟩
  go_wp2_with fail
  go_ret
  exact ⟨rfl, rfl⟩
set_option maxRecDepth 100000 in
theorem size_bad (g : Nat) (T : TypeId) (v : Value) (n : Int) (w : World) (h : Blk w g T #[v, .int .i64 0]) (hn : ¬ (1 ≤ n ∧ n ≤ 7)) :
    Calls Try.prog 29 #[.pointer (some ⟨g, 0, none⟩), .int .i64 n] w fun r w' => r = .returned (.bool false) ∧ w' = w.setRow g #[.slice none 0 0, .int .i64 1] := by
  have C := needs_bad g T v 1 w h (by decide)
  clear h
  by_cases h1 : n ≥ 1
  · have h2 : ¬ n ≤ 7 := fun h => hn ⟨h1, h⟩
    clear hn
    go_enter Try.func29, Try.ntmps29
    go_wp2_with fail
    refine C.mono ?_
    rintro e w1 ⟨rfl, rfl⟩
    go_wp2_with fail
    go_ret
    exact ⟨rfl, rfl⟩
  · clear hn
    go_enter Try.func29, Try.ntmps29
    go_wp2_with fail
    refine C.mono ?_
    rintro e w1 ⟨rfl, rfl⟩
    go_wp2_with fail
    go_ret
    exact ⟨rfl, rfl⟩
end Go.Proofs.Ytfheedpoaomfeaa
