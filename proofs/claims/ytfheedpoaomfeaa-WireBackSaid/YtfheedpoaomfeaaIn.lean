/- WireBack of chapter 13: a writer beside a list of parts; a part put behind. -/
import Derived.Test.YtfheedpoaomfeaaIm
namespace Go.Proofs.Ytfheedpoaomfeaa
open Go.RowKit
/-- A part: in the table of types. -/
theorem infoPt : (Try.prog.info? 30).map (fun i => (i.zero, i.size, i.bytes)) = some (some (.agg #[.int .i64 0, .int .i64 0, .int .i64 0, .string ⟨#[]⟩]), 4, 40) := by kernel_rfl
theorem eachPt (x : Pt) : Each 4 [encPt x] := fun y hy => by
  rw [List.mem_singleton.1 hy]
  refine ⟨rfl, fun u hu => ?_⟩
  unfold encPt at hu
  simp only [List.mem_cons, List.not_mem_nil, or_false] at hu
  rcases hu with rfl | rfl | rfl | rfl <;> rfl
/-- append(s, x): one more, that was laid just now. -/
theorem wpList_onePt {ops : Array Oper} {rest : List Oper} {o : Oper} {a : Act} {Q : Exit → Act → World → Prop} {B : Nat} {w0 w : World} {l : List (List Value)} {v : Value} (hgd : o.guard = none) (s x : Operand)
    (ho : o.op = .call { callee := .builtin .append, args := #[s, x], argTypes := #[22, 22] }) (hs : a.eval s = v) (h : LS 30 4 B w0 l v w) (y : Pt) (r : Nat) (hr : r = w.heap.size)
    (hx : a.eval x = .slice (some ⟨r, 0, none⟩) 1 1) (hn : l.length ≤ 999999)
    (k : ∀ v' w', LS 30 4 B w0 (l ++ [encPt y]) v' w' → Gr v w v' w' → wpList Try.prog ops Q rest (a.put o.dst v') w') :
    wpList Try.prog ops Q (o :: rest) a (w.alloc (.cells #[.int .i64 y.k, .int .i64 y.n, .int .i64 y.z, .string y.s] 30)) := by
  subst hr
  obtain ⟨i0, hi, hz0, hz1, hz2⟩ := info_parts infoPt
  have hal := (Below.refl _ w).alloc (Nat.le_refl _) (.cells #[.int .i64 y.k, .int .i64 y.n, .int .i64 y.z, .string y.s] 30)
  have h2 := h.below hal
  have hc : ∀ j u, [encPt y].flatten[j]? = some u → (w.alloc (.cells #[.int .i64 y.k, .int .i64 y.n, .int .i64 y.z, .string y.s] 30)).cell? ((⟨w.heap.size, 0, none⟩ : Addr).add j) = some u := fun j u hu => new_cells w _ _ j u (by simpa [encPt] using hu)
  refine wpList_append_lies _ hgd s x 22 ho B 30 i0 (.agg #[.int .i64 0, .int .i64 0, .int .i64 0, .string ⟨#[]⟩]) 4 40 Try.underlying22 hi hz0 hz1 hz2 rfl (by decide) v l.length _ hs h2.own ⟨w.heap.size, 0, none⟩ 1 1 [encPt y].flatten hx rfl hc (eachPt y).one (by decide) (by unfold maxLen; omega) (by omega) h2.lo _ rfl ?_
  intro q cap w2 hown hg hat hlt
  have hG : Gr v (w.alloc (.cells #[.int .i64 y.k, .int .i64 y.n, .int .i64 y.z, .string y.s] 30)) (.slice (some ⟨q, 0, none⟩) (l.length + 1) cap) w2 := ⟨hg.os, hg.tape, hg.output, hg.size, fun i hi hv => hg.block i hi (fun e => hv e.symm), fun i e => by
    have e : q = i := by injection e
    rcases hat with h1 | h1
    · exact .inl (by rw [h1, e])
    · right; omega⟩
  refine k _ w2 ⟨?_, h2.each.app (eachPt y), below_gr h2.b hG (fun i e => (h2.ownB i e).1) h2.lo, Nat.le_trans h2.lo hg.size⟩ ((Gr.of hal).trans hG)
  rw [List.length_append, List.flatten_append]; exact hown
section
variable {P : Program} {ops : Array Oper} {Q : Exit → Act → World → Prop} {md : Region.Mode} {J : World → Prop}
theorem heldJ_skip {i : Nat} {oi : Oper} {r : List Oper} {fuel : Nat} {listed : Array Bool} {a : Act} {w : World} (hi : ops.toList.drop i = oi :: r)
    (hs : Region.noSelect ops = true) (hf : Region.free md ops listed i = true) (hr : (Region.ready md ops listed).contains i = true)
    (hQ : ∀ c a w, Q (.panic c) (a.put oi.dst undef) w → Q (.panic c) a w) (hw : Region.wanted oi (yielded ops a.tmps) = false) (hJ : J w)
    (h : wpAnyH P md ops Q J fuel (listed.setIfInBounds i true) (a.put oi.dst undef) w) : wpAnyH P md ops Q J (fuel + 1) listed a w :=
  wpAnyH_take (at_drop hi) hs hf hr hQ (.inr ⟨hw, rfl⟩) hJ h
end
/-- A writer in block gw, and a list of parts u. -/
structure SB (gw N : Nat) (v : Value) (B : ByteArray) (D : List Pt) (u : Value) (w0 w : World) : Prop where
  a : WW gw v B 0 w
  b : LS 30 4 N w0 (D.map encPt) u w
  d : N ≤ gw
  e : ∀ i, v.ownBlock = some i → N ≤ i
  f : ∀ i, u.ownBlock = some i → i ≠ gw ∧ v.ownBlock ≠ some i
section
variable {gw N : Nat} {v v' u u' : Value} {B B' : ByteArray} {D D' : List Pt} {w0 w w' : World}
theorem SB.below (h : SB gw N v B D u w0 w) (hb : Below w.heap.size w w') : SB gw N v B D u w0 w' := ⟨h.a.below hb, h.b.below hb, h.d, h.e, h.f⟩
theorem SB.put (h : SB gw N v B D u w0 w) (h1 : WW gw v' B' 0 w') (h2 : Gg gw v w v' w') : SB gw N v' B' D u w0 w' := by
  have hd := h.d
  have hlo := h.b.lo
  refine ⟨h1, ⟨⟨h.b.own.1, ?_⟩, h.b.each, ?_, Nat.le_trans hlo h2.size⟩, hd, fun i e => ?_, fun i e => ⟨(h.f i e).1, fun e2 => ?_⟩⟩
  · rcases h.b.own.2 with k | ⟨q, cap, cur, k1, k2, k3, k4⟩
    · exact .inl k
    · have ho : u.ownBlock = some q := by rw [k1]; rfl
      exact .inr ⟨q, cap, cur, k1, k2, (h2.block q (h.b.ownB q ho).2 (h.f q ho).1 (h.f q ho).2).trans k3, k4⟩
  · exact h.b.b.trans ⟨h2.os, h2.tape, h2.output, h2.size, fun i hi => h2.block i (by omega) (by omega) (fun e => by have := h.e i e; omega)⟩
  · rcases h2.own i e with k | k
    · exact h.e i k
    · omega
  · rcases h2.own i e2 with k | k
    · exact (h.f i e).2 k
    · have := (h.b.ownB i e).2; omega
theorem SB.app (h : SB gw N v B D u w0 w) (h1 : LS 30 4 N w0 (D'.map encPt) u' w') (h2 : Gr u w u' w') : SB gw N v B D' u' w0 w' := by
  refine ⟨h.a.keep (h2.block gw h.a.blk.lt (fun e => (h.f gw e).1 rfl)) fun i e => h2.block i (h.a.ownB i e).2 fun e2 => (h.f i e2).2 e, h1, h.d, h.e, fun i e => ?_⟩
  rcases h2.own i e with k | k
  · exact h.f i k
  · exact ⟨by have := h.a.blk.lt; omega, fun e2 => by have := (h.a.ownB i e2).2; omega⟩
end
theorem blk_gr {q : Nat} {v v' : Value} {w w' : World} {t : TypeId} {cs : Array Value} (h : Blk w q t cs) (hg : Gr v w v' w') (h1 : v.ownBlock ≠ some q) : Blk w' q t cs := (hg.block q h.lt h1).trans h
theorem Gg.blk2 {g q : Nat} {v v' : Value} {w w' : World} {t : TypeId} {cs : Array Value} (h : Blk w q t cs) (hg : Gg g v w v' w') (h1 : q ≠ g) (h2 : v.ownBlock ≠ some q) : Blk w' q t cs := (hg.block q h.lt h1 h2).trans h
theorem below_set {B : Nat} {w0 w : World} (h : Below B w0 w) (q j : Nat) (u : Value) (hq : B ≤ q) : Below B w0 (w.setCell ⟨q, j, none⟩ u) :=
  ⟨h.os, h.tape, h.output, by simp [World.setCell]; exact h.size, fun i hi => (Below.heap_setCell w ⟨q, j, none⟩ u i (show i ≠ q by omega)).trans (h.block i hi)⟩
theorem i64_and24 (n : Int) : bits .and .i64 n 16777215 = n % 16777216 := by
  have h7 : (BitVec.ofInt 64 16777215).toNat = 2 ^ 24 - 1 := by decide
  have key : (BitVec.ofInt 64 n &&& BitVec.ofInt 64 16777215).toNat = (n % ((2 ^ 64 : Nat) : Int)).toNat % 2 ^ 24 := by
    rw [BitVec.toNat_and, BitVec.toNat_ofInt, h7, Nat.and_two_pow_sub_one_eq_mod]
  show IntKind.i64.wrap ((BitVec.ofInt 64 n &&& BitVec.ofInt 64 16777215).toNat : Nat) = n % 16777216
  rw [key, IntKind.wrap_i64]
  omega
end Go.Proofs.Ytfheedpoaomfeaa
