/- Sum512Goes: the walk. -/
import Derived.Test.YtmmijnacgolopaaSbH
import Derived.Test.YtmmijnacgolopaaRb7
import Derived.OpenShut
import Derived.SliceStrings
namespace Go.Proofs.Ytmmijnacgolopaa
open Go.RowKit
theorem write_cat (t p : ByteArray) : (H0.write t.data.toList).write p.data.toList = H0.write (t ++ p).data.toList := by
  rw [← Hs.write_append, ByteArray.data_append, Array.toList_append]
theorem chg_below {g B : Nat} {w0 w w' : World} (hc : Chg g w w') (hb : Below B w0 w) (hg : B ≤ g) (hB : B ≤ w.heap.size) : Below B w0 w' := hc.below hb hg hB
set_option maxRecDepth 100000 in
set_option maxHeartbeats 1000000 in
theorem goes_some (a : Addr) (len cap : Nat) (f : Nat → ByteArray) (w : World) (hl : len ≤ 9223372036854775807)
    (hc : ∀ i, i < len → w.cell? (a.add i) = some (.string (f i))) (hs : ∀ i, (f i).size ≤ 9223372036854775807) :
    Calls Try.prog 4 #[.slice (some a) len cap] w fun e w' => e = .returned (.bool true) ∧ Below w.heap.size w w' := by
  go_enter Try.func4, Try.ntmps4
  go_wp2_with (first
    | (go_at_call 8; refine (examples_any _).mono ?_; rintro e w1 ⟨rfl, b1⟩)
    | (go_at_call 11; refine (new_any _).mono ?_; rintro e w2 ⟨rfl, h2, c2⟩))
  have b2 := b1.trans (c2.mono b1.size)
  have hn : w.heap.size ≤ w1.heap.size := b1.size
  generalize w1.heap.size = n at h2 hn ⊢
  clear c2 b1
  go_loopw [5, 6] (fun v i wr => ∃ (k : Nat) (t : ByteArray), k ≤ len ∧ k ≤ 10 ∧ i = .int .i64 k ∧ v = .string t ∧ t.size ≤ 200 * k ∧ HB wr n (H0.write t.data.toList) ∧ Below w.heap.size w wr) (fun _ i _ => len - (intOf i).toNat)
  case atStart => exact ⟨0, ⟨#[]⟩, by omega, by omega, rfl, rfl, Nat.le_refl 0, h2, b2⟩
  case round =>
    obtain ⟨k, t, hk, hk10, rfl, rfl, ht, hh, hb⟩ := hrel
    clear h2 b2
    by_cases hlt : k < len ∧ k < 10
    · obtain ⟨hlt, hk2⟩ := hlt
      have hcell : wr.cell? (a.add k) = some (.string (f k)) := by rw [hb.cell (World.block_lt_of_cell? _ _ (hc k hlt))]; exact hc k hlt
      obtain ⟨q, hq, hq1, hq2⟩ : ∃ q : Nat, min ((f k).size : Int) 200 = (q : Int) ∧ q ≤ (f k).size ∧ q ≤ 200 := ⟨min (f k).size 200, by omega, by omega, by omega⟩
      have hfk := hs k
      go_wp2_with fail
      go_quiet (fail)
      obtain ⟨p, hp⟩ : ∃ p : ByteArray, p = (f k).extract 0 q := ⟨_, rfl⟩
      have hps : p.size ≤ 200 := by rw [hp]; simp; omega
      rw [← hp]
      clear hp hq hq1 hq2 hcell
      have hW := Lib.hid (write_cat t p)
      have hts : (H0.write t.data.toList).size = t.size := by rw [size0, size_list]
      have hsz : (t ++ p).size ≤ 200 * (k + 1) := by rw [ByteArray.size_append]; omega
      have htps : (H0.write (t ++ p).data.toList).size = (t ++ p).size := by rw [size0, size_list]
      have HS := Lib.hid htps
      have hsz2 : (t ++ p).size ≤ 2200 := by omega
      have hh2 := hh.drewN nq
      have hb2 : Below w.heap.size w (wr.drewN nq) := ⟨hb.os, hb.tape, hb.output, hb.size, hb.block⟩
      clear hh hb htps
      refine any_gen (F := fun w => Exit.then _ _ _ _ w) (fun wx => HB wx n (H0.write t.data.toList) ∧ Below w.heap.size w wx) ⟨hh2, hb2⟩ (fun w4 h4 => ?_)
      obtain ⟨h4, b4⟩ := h4
      clear hh2 hb2
      go_wp2_with fail
      refine (write_any n _ p w4 h4.lt h4 (by rw [hts]; omega)).mono ?_
      rintro e w5 ⟨rfl, h5, c5⟩
      rw [hW.out] at h5
      have b5 := chg_below c5 b4 hn b4.size
      clear h4 b4 c5 hts
      go_wp2_with fail
      refine (sum_any n _ w5 h5 (by rw [HS.out]; omega)).mono ?_
      rintro e w6 ⟨rfl, b6⟩
      rw [out_eq]
      have h6 := h5.below b6 h5.lt
      have b6' := b5.trans (b6.mono b5.size)
      clear h5 b5 b6
      go_wp2_with fail
      refine (rone_any (t ++ p) w6 (by omega)).mono ?_
      rintro e w7 ⟨rfl, b7⟩
      have h7 := h6.below b7 h6.lt
      have b7' := b6'.trans (b7.mono b6'.size)
      clear h6 b6' b7
      go_wp2_with fail
      refine (len_any n _ w7 h7).mono ?_
      rintro e w8 ⟨rfl, rfl⟩
      rw [HS.out]
      go_wp2_with fail
      go_roundw
      case rel => exact ⟨k + 1, t ++ p, by omega, by omega, by go_num, rfl, hsz, h7, b7'⟩
      case measure => simp [intOf]; omega
    · have hk2 : ((k : Int) < len && (k : Int) < 10) = false := by rw [Bool.and_eq_false_iff, decide_eq_false_iff_not, decide_eq_false_iff_not]; omega
      by_cases h1 : k < len
      · have h2 : ¬ k < 10 := by omega
        go_wp2_with fail
        go_ret
        exact ⟨rfl, hb⟩
      · go_wp2_with fail
        go_ret
        exact ⟨rfl, hb⟩
set_option maxRecDepth 100000 in
set_option maxHeartbeats 1000000 in
theorem goes_nil (w : World) :
    Calls Try.prog 4 #[.slice none 0 0] w fun e w' => e = .returned (.bool true) ∧ Below w.heap.size w w' := by
  go_enter Try.func4, Try.ntmps4
  go_wp2_with (first
    | (go_at_call 8; refine (examples_any _).mono ?_; rintro e w1 ⟨rfl, b1⟩)
    | (go_at_call 11; refine (new_any _).mono ?_; rintro e w2 ⟨rfl, h2, c2⟩))
  have b2 := b1.trans (c2.mono b1.size)
  generalize w1.heap.size = n at h2 ⊢
  clear c2 b1
  go_loopw [5, 6] (fun v i wr => i = .int .i64 0 ∧ Below w.heap.size w wr) (fun _ _ _ => 0)
  case atStart => exact ⟨rfl, b2⟩
  case round =>
    obtain ⟨rfl, hb⟩ := hrel
    clear h2 b2
    go_wp2_with fail
    go_ret
    exact ⟨rfl, hb⟩
/-- A slice of strings, as a law is handed it. -/
def Strs (w : World) (v : Value) : Prop := v = .slice none 0 0 ∨ ∃ (a : Addr) (len cap : Nat) (f : Nat → ByteArray), v = .slice (some a) len cap ∧ len ≤ 9223372036854775807 ∧ len ≤ cap ∧
    (∀ i, i < len → w.cell? (a.add i) = some (.string (f i))) ∧ ∀ i, (f i).size ≤ 9223372036854775807
theorem strings_of {H : Type} {enc : TypeId × Value → H} {W : World} {base : Nat} {v : Value} {d : DataW H} {ps : List MemPlace}
    (h1 : Value.okWide Try.prog W .any base 25 v) (h : DataW.Trod enc Try.prog W 0 (fun _ => true) true 25 v d ps) : Strs W v := by
  obtain ⟨a0, len, cap, rfl⟩ := WideShapes.okWide_slice Try.underlying25 h1
  obtain ⟨fuel, hf⟩ := h
  rcases ChangeShapes.open_strings Try.underlying25 Try.underlying9 (by kernel_rfl) hf with ⟨hcs, hx⟩ | ⟨a, len', cap', ss, hcs, _, hl, hm, hz, hx, hcell, hws⟩
  · injection hcs with e1 e2; exact .inl e1
  · injection hcs with e1 e2
    injection e1 with e1 e3 e4
    subst e1 e3 e4
    refine .inr ⟨a, len, cap, fun i => ss.getD i ByteArray.empty, rfl, by unfold maxLen at hm; omega, hl, fun i hi => hcell i (by rw [hz]; simp; omega), fun i => ?_⟩
    show (ss.getD i ByteArray.empty).size ≤ _
    rw [List.getD_eq_getElem?_getD]
    cases hi : ss[i]? with
    | none => exact Nat.zero_le _
    | some s => exact hws s (List.mem_of_getElem? hi)
theorem goes_any (v : Value) (w : World) (h : Strs w v) :
    Calls Try.prog 4 #[v] w fun e w' => e = .returned (.bool true) ∧ Below w.heap.size w w' := by
  rcases h with rfl | ⟨a, len, cap, f, rfl, hl, _, hc, hs⟩
  · exact goes_nil w
  · exact goes_some a len cap f w hl hc hs
end Go.Proofs.Ytmmijnacgolopaa
