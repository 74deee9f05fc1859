/- The document's answer to chapter 2: block. -/
import Derived.Test.YtmmijnacgolopaaRb2
namespace Go.Proofs.Ytmmijnacgolopaa
open Go.RowKit
def addS (s n : S8) : S8 := ⟨addw s.a n.a, addw s.b n.b, addw s.c n.c, addw s.d n.d, addw s.e n.e, addw s.f n.f, addw s.g n.g, addw s.h n.h⟩
def blockS (s : S8) (b : Nat → BitVec 8) : S8 := addS s (rnd keysC (schd b 64) s 80)
def u64l (n : Nat) (f : Nat → BitVec 64) : List Value := (List.range n).map fun i => Value.int .u64 (iw (f i))
theorem u64l_snoc (n : Nat) (f g : Nat → BitVec 64) (v : BitVec 64) (h : ∀ i, i < n → g i = f i) (hv : g n = v) : u64l (n + 1) g = u64l n f ++ [.int .u64 (iw v)] := by
  unfold u64l
  rw [List.range_succ, List.map_append]
  congr 1
  · apply List.map_congr_left; intro i hi; rw [h i (List.mem_range.1 hi)]
  · simp [hv]
theorem u64l_get (n : Nat) (f : Nat → BitVec 64) (i : Nat) (h : i < n) : (u64l n f)[i]? = some (.int .u64 (iw (f i))) := by simp [u64l, h]
theorem u64_info : (Try.prog.info? 36).map (fun i => (i.zero, i.size, i.bytes)) = some (some (.int .u64 0), 1, 8) := by kernel_rfl
/-- Within block: the words so far in a row of the call's own. -/
structure BW (s : S8) (n : Nat) (f : Nat → BitVec 64) (w : World) (v : Value) (wr : World) : Prop where
  sb : SB s w wr
  own : wr.ownsRow (w.heap.size + 2) 36 1 v n (u64l n f)
  lt : w.heap.size + 2 ≤ wr.heap.size
theorem BW.drewN {s : S8} {n : Nat} {f : Nat → BitVec 64} {w wr : World} {v : Value} (h : BW s n f w v wr) (k : Nat) : BW s n f w v (wr.drewN k) := ⟨h.sb.drewN k, h.own, h.lt⟩
theorem BW.drew {s : S8} {n : Nat} {f : Nat → BitVec 64} {w wr : World} {v : Value} (h : BW s n f w v wr) : BW s n f w v wr.drew := ⟨⟨h.sb.s, h.sb.z, h.sb.b.drew⟩, h.own, h.lt⟩
theorem BW.grow {s : S8} {n : Nat} {f g : Nat → BitVec 64} {w wr w2 : World} {v v' : Value} {u : BitVec 64} (h : BW s n f w v wr) (o : Obj) (hg : (wr.alloc o).grownBy w2 v.ownBlock)
    (ho : w2.ownsRow (w.heap.size + 2) 36 1 v' (n + 1) (u64l n f ++ [.int .u64 (iw u)])) (e : ∀ i, i < n → g i = f i) (hu : g n = u) : BW s (n + 1) g w v' w2 := by
  have hle := own_le h.own
  have hb : Below (w.heap.size + 2) wr w2 := ((Below.refl _ _).alloc h.lt _).grown hg (by have := h.lt; simp; omega) hle
  refine ⟨⟨h.sb.s.below hb (by omega), h.sb.z.below hb (by omega), h.sb.b.trans (hb.mono (by omega))⟩, ?_, Nat.le_trans h.lt hb.size⟩
  rw [u64l_snoc n f g u e hu]
  exact ho
/-- Within block, behind the words: the state so far at block nb, the table at block gt, the words at block gv. -/
structure LW (s S : S8) (b : ByteArray) (nb gt gv cap : Nat) (w wx : World) : Prop where
  n : Blk wx nb 40 (s8v S)
  k : Blk wx gt 36 (r64 80 keysC)
  x : wx.ownsRow (w.heap.size + 2) 36 1 (.slice (some ⟨gv, 0, none⟩) 80 cap) 80 (u64l 80 (schd (bS b) 64))
  sb : SB s w wx
theorem ownsRow_below {w w' : World} {base e size n B g l c : Nat} {xs : List Value} (h : w.ownsRow base e size (.slice (some ⟨g, 0, none⟩) l c) n xs) (hb : Below B w w') (hg : g < B) : w'.ownsRow base e size (.slice (some ⟨g, 0, none⟩) l c) n xs := by
  refine ⟨h.1, ?_⟩
  rcases h.2 with h2 | ⟨g', cap, cur, hv, hg', hh, r⟩
  · exact .inl h2
  · injection hv with h1 h2 h3
    injection h1 with h1
    injection h1 with h1
    subst h1 h2 h3
    exact .inr ⟨g, _, cur, rfl, hg', by rw [hb.block g hg]; exact hh, r⟩
section
variable {s S S' : S8} {b : ByteArray} {nb gt gv cap : Nat} {w wx w' : World}
theorem LW.drew (h : LW s S b nb gt gv cap w wx) : LW s S b nb gt gv cap w wx.drew := ⟨h.n, h.k, h.x, ⟨h.sb.s, h.sb.z, h.sb.b.drew⟩⟩
theorem LW.below (h : LW s S b nb gt gv cap w wx) (hb : Below wx.heap.size wx w') (hgt : gt < nb) (hgv : gv < nb) (hB : w.heap.size + 2 ≤ nb) : LW s S b nb gt gv cap w w' := by
  have hn := h.n.lt
  exact ⟨h.n.below hb hn, h.k.below hb (by omega), ownsRow_below h.x hb (by omega), ⟨h.sb.s.below hb (by omega), h.sb.z.below hb (by omega), h.sb.b.trans (hb.mono (by omega))⟩⟩
theorem LW.put (h : LW s S b nb gt gv cap w wx) (hgt : gt < nb) (hgv : gv < nb) (hB : w.heap.size + 2 ≤ nb) : LW s S' b nb gt gv cap w (wx.setRow nb (s8v S')) := by
  have hb : Below nb wx (wx.setRow nb (s8v S')) := below_setRow' (Below.refl _ _) (Nat.le_refl _) _
  exact ⟨h.n.row_ _, h.k.below hb hgt, ownsRow_below h.x hb hgv, ⟨h.sb.s.below hb (by omega), h.sb.z.below hb (by omega), below_setRow' h.sb.b (by omega) _⟩⟩
theorem LW.word (h : LW s S b nb gt gv cap w wx) {j : Nat} (hj : j < 80) : wx.cell? ⟨gv, j, none⟩ = some (.int .u64 (iw (schd (bS b) 64 j))) := by
  have := h.x.cells (g := gv) (by simp [Value.ownBlock]) j _ (u64l_get 80 _ j hj)
  rwa [addr_add, Nat.zero_add] at this
end
end Go.Proofs.Ytmmijnacgolopaa
