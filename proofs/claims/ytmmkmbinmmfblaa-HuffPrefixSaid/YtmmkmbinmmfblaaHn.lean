/- lengths of the reference of chapter 9: the first nodes. -/
import Derived.Test.YtmmkmbinmmfblaaHm
namespace Go.Proofs.Ytmmkmbinmmfblaa
open Go.RowKit
/-- The nodes of the counts that are not 0, each with its symbol. -/
structure P1 (c : Nat → Nat) (k : Nat) (w : World) (l : List Ny) (v : Value) (wr : World) : Prop where
  pn : PN w.heap.size w l v wr
  ks : kys l = nds c k
  sy : ∀ x ∈ l, x.2.2 = [x.1.2]
theorem kys_app (l m : List Ny) : kys (l ++ m) = kys l ++ kys m := List.map_append ..
theorem kys_len (l : List Ny) : (kys l).length = l.length := List.length_map ..
theorem P1.skip {c : Nat → Nat} {k : Nat} {w wr : World} {l : List Ny} {v : Value} (h : P1 c k w l v wr) (h0 : c k = 0) : P1 c (k + 1) w l v wr :=
  ⟨h.pn, by rw [h.ks]; show _ = nds c k ++ _; rw [if_neg (by omega), List.append_nil], h.sy⟩
theorem P1.len {c : Nat → Nat} {k : Nat} {w wr : World} {l : List Ny} {v : Value} (h : P1 c k w l v wr) : l.length ≤ k := by
  rw [← kys_len, h.ks]; exact nds_len c k
theorem RL_one (w : World) (k : Nat) : RL (w.alloc (.cells #[.int .i64 (k : Int)] 3)) (.slice (some ⟨w.heap.size, 0, none⟩) 1 1) [k] :=
  ⟨rfl, .inr ⟨w.heap.size, 1, #[.int .i64 (k : Int)], rfl, Nat.zero_le _, heap_alloc_new w _, Nat.le_refl _, by unfold maxLen; omega, rfl, rfl⟩⟩
theorem P1.more {c : Nat → Nat} {k : Nat} {w w1 w2 : World} {l : List Ny} {v v' sv : Value} (h : P1 c k w l v w1) (h0 : 0 < c k) (h2 : PN w.heap.size w (l ++ [((c k, k), sv, [k])]) v' w2) : P1 c (k + 1) w (l ++ [((c k, k), sv, [k])]) v' w2 :=
  ⟨h2, by rw [kys_app, h.ks]; show _ = nds c k ++ _; rw [if_pos h0]; rfl, fun x hx => by
    rcases List.mem_append.1 hx with h3 | h3
    · exact h.sy x h3
    · rw [List.mem_singleton.1 h3]⟩
end Go.Proofs.Ytmmkmbinmmfblaa
