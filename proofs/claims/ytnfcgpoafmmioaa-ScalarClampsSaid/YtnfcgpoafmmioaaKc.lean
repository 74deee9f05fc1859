/- order of the document's answer: L's bytes. -/
import Derived.Test.YtnfcgpoafmmioaaKb
import Derived.Laws.AppendOwn
import Derived.OwnWalk
namespace Go.Proofs.Ytnfcgpoafmmioaa
open Go.RowKit
/-- A number's byte as a value. -/
def bK (n i : Nat) : Value := .int .i64 (byteK n i : Int)
/-- The first k bytes of n. -/
def lK (n k : Nat) : List Value := (List.range k).map (bK n)
theorem lK_length (n k : Nat) : (lK n k).length = k := by unfold lK; simp
theorem lK_succ (n k : Nat) : lK n (k + 1) = lK n k ++ [bK n k] := by unfold lK; rw [List.range_succ, List.map_append]; rfl
theorem int_info : (Try.prog.info? 3).map (fun i => (i.zero, i.size, i.bytes)) = some (some (.int .i64 0), 1, 8) := by kernel_rfl
theorem first16 : [Value.int .i64 237, .int .i64 211, .int .i64 245, .int .i64 92, .int .i64 26, .int .i64 99, .int .i64 18, .int .i64 88, .int .i64 214, .int .i64 156, .int .i64 247, .int .i64 162, .int .i64 222, .int .i64 249, .int .i64 222, .int .i64 20] = lK qL 16 := by kernel_rfl
theorem zero_bytes' : ∀ k : Fin 31, 16 ≤ k.val → byteK qL k.val = 0 := by decide +kernel
theorem zero_byte {k : Nat} (h : 16 ≤ k) (h2 : k < 31) : bK qL k = .int .i64 0 := by unfold bK; rw [zero_bytes' ⟨k, h2⟩ h]; rfl
theorem last_byte : bK qL 31 = .int .i64 16 := by kernel_rfl
def lenV : Value → Nat
  | .slice _ n _ => n
  | _ => 0
theorem own_len {w : World} {base : Nat} {e : TypeId} {size n : Nat} {v : Value} {xs : List Value} (h : w.ownsRow base e size v n xs) : lenV v = n := by
  rcases h.2 with ⟨rfl, rfl⟩ | ⟨g, cap, cur, rfl, _⟩ <;> rfl
theorem own_slice {w : World} {base : Nat} {e : TypeId} {size n : Nat} {v : Value} {xs : List Value} (h : w.ownsRow base e size v n xs) (hn : 0 < n) : ∃ g cap, v = .slice (some ⟨g, 0, none⟩) n cap := by
  rcases h.2 with ⟨rfl, rfl⟩ | ⟨g, cap, cur, rfl, _⟩
  · omega
  · exact ⟨g, cap, rfl⟩
/-- L's list, grown to k. -/
structure OrW (k : Nat) (w : World) (v : Value) (wr : World) : Prop where
  own : wr.ownsRow w.heap.size 3 1 v k (lK qL k)
  b : Below w.heap.size w wr
set_option maxRecDepth 100000 in
set_option maxHeartbeats 2000000 in
theorem rorder_any (w : World) :
    Calls Try.prog 25 #[] w fun e w' => ∃ v, e = .returned v ∧ OrW 32 w v w' := by
  obtain ⟨i0, hi, hz0, hz1, hz2⟩ := info_parts int_info
  go_enter Try.func25, Try.ntmps25
  go_wp2_with fail
  go_loopw [1] (fun v wr => ∃ k : Nat, 16 ≤ k ∧ k ≤ 31 ∧ OrW k w v wr) (fun v _ => 31 - lenV v)
  case atStart =>
    refine ⟨16, by omega, by omega, ⟨by rw [lK_length], .inr ⟨w.heap.size, 16, _, rfl, Nat.le_refl _, heap_alloc_new w _, Nat.le_refl _, by decide, rfl, ?_⟩⟩, (Below.refl _ _).alloc (Nat.le_refl _) _⟩
    rw [← first16]; rfl
  case round =>
    obtain ⟨k, hk16, hk, hr⟩ := hrel
    have hown := hr.own
    have hb := hr.b
    have hbs := hb.size
    clear hr
    obtain ⟨g, cap, rfl⟩ := own_slice hown (by omega)
    by_cases hlt : k < 31
    · have HZ := Lib.hid (zero_byte hk16 hlt)
      go_wp2_with (first
        | (at_builtin; refine wpList_append_own _ rfl _ _ 44 rfl w.heap.size 3 i0 (.int .i64 0) 1 8 Try.underlying44 hi hz0 hz1 hz2 rfl (by decide) _ _ _ rfl (hown.alloc _) ⟨wr.heap.size, 0, none⟩ 1 1 [.int .i64 0] rfl rfl ?c1 ?c2 ?c3 ?c4 ?c5 ?_))
      case c1 =>
        intro j u hu
        rw [addr_add, Nat.zero_add]
        exact (cell_of_row _ _ j _ _ (0, 0) (heap_alloc_new wr _)).trans (by rw [← hu]; simp)
      case c2 =>
        intro u hu
        simp at hu
        subst hu
        rfl
      case c3 => unfold maxLen; omega
      case c4 => omega
      case c5 => simp; exact Nat.le_succ_of_le hbs
      intro v' w2 hown2 hg2 _
      have hb3 : Below w.heap.size w w2 := (hb.alloc hbs _).grown hg2 (by simp; exact Nat.le_succ_of_le hbs) (own_le hown)
      have K : OrW (k + 1) w v' w2 := ⟨by rw [lK_succ, HZ.out]; exact hown2, hb3⟩
      have HL := Lib.hid (own_len hown2)
      clear hown hb hown2 hg2 hb3 hbs HZ
      go_wp2_with fail
      go_roundw
      case rel => exact ⟨k + 1, by omega, by omega, K⟩
      case measure => show 31 - lenV v' < 31 - k; rw [HL.out]; omega
    · obtain rfl : k = 31 := by omega
      go_wp2_with (first
        | (at_builtin; refine wpList_append_own _ rfl _ _ 44 rfl w.heap.size 3 i0 (.int .i64 0) 1 8 Try.underlying44 hi hz0 hz1 hz2 rfl (by decide) _ _ _ rfl (hown.alloc _) ⟨wr.heap.size, 0, none⟩ 1 1 [.int .i64 16] rfl rfl ?c1 ?c2 ?c3 ?c4 ?c5 ?_))
      case c1 =>
        intro j u hu
        rw [addr_add, Nat.zero_add]
        exact (cell_of_row _ _ j _ _ (0, 0) (heap_alloc_new wr _)).trans (by rw [← hu]; simp)
      case c2 =>
        intro u hu
        simp at hu
        subst hu
        rfl
      case c3 => unfold maxLen; omega
      case c4 => omega
      case c5 => simp; exact Nat.le_succ_of_le hbs
      intro v' w2 hown2 hg2 _
      have hb3 : Below w.heap.size w w2 := (hb.alloc hbs _).grown hg2 (by simp; exact Nat.le_succ_of_le hbs) (own_le hown)
      have K : OrW 32 w v' w2 := ⟨by rw [lK_succ, last_byte]; exact hown2, hb3⟩
      clear hown hb hown2 hg2 hb3 hbs
      go_wp2_with fail
      go_ret
      exact ⟨_, rfl, K⟩
end Go.Proofs.Ytnfcgpoafmmioaa
