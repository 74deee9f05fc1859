/- Slices of bytes that the call owns: as a string. -/
import Derived.Test.YtmmkmbinmmfblaaRows2
import Derived.Deep.RegionLaw
import Derived.Laws.AppendOwn
namespace Go.Proofs.Ytmmkmbinmmfblaa
open Go.RowKit
def b8v (b : BitVec 8) : Value := .int .u8 (iw b)
def asBytes (l : List (BitVec 8)) : List UInt8 := l.map UInt8.ofBitVec
theorem foldl_push (l : List (BitVec 8)) : ∀ r : ByteArray, (l.map iw).foldl (fun r n => r.push (UInt8.ofNat n.toNat)) r = ⟨(r.data.toList ++ asBytes l).toArray⟩ := by
  induction l with
  | nil => intro r; simp [asBytes]
  | cons b l ih =>
    intro r
    rw [List.map_cons, List.foldl_cons, ih]
    have : UInt8.ofNat (iw b).toNat = UInt8.ofBitVec b := by
      unfold iw; rw [Int.toNat_natCast]; exact UInt8.toBitVec_inj.1 (by simp [UInt8.ofNat])
    simp [asBytes, this, ByteArray.push]
theorem run_string_of_own {P : Program} (w : World) (src dst e base : Nat) (hs : P.underlying src = some (.slice e)) (he : P.underlying e = some (.int .u8)) (hd : P.underlying dst = some .string)
    (v : Value) (n : Nat) (l : List (BitVec 8)) (h : w.ownsRow base e 1 v n (l.map b8v)) : (convert src dst v).run P w = .ok (.string ⟨(asBytes l).toArray⟩) w := by
  have hlen : l.length = n := by have := h.1; simpa using this
  rcases h.2 with ⟨rfl, h0⟩ | ⟨g, cap, cur, rfl, _⟩
  · subst h0
    obtain rfl : l = [] := List.eq_nil_of_length_eq_zero hlen
    rw [run_convert_bytes_string w src dst e _ _ _ hs he hd]
    rfl
  · rw [run_convert_bytes_string w src dst e _ _ _ hs he hd]
    rw [run_bytesToString w ⟨g, 0, none⟩ n cap (l.map iw)]
    · rw [foldl_push]; simp
    · have := run_loadCells_list (P := P) w ⟨g, 0, none⟩ (l.map b8v) (fun j u hu => h.cells (g := g) (by simp [Value.ownBlock]) j u hu)
      rw [List.length_map, hlen] at this
      rw [this]
      congr 2
      simp [b8v, Function.comp_def]
theorem step_append_own {P : Program} (w : World) {ops : Array Oper} {o : Oper} {a : Act} {K : Act → World → Prop} {Q : Exit → Act → World → Prop} {E : Prop} (hgd : o.guard = none) (s x : Operand) (t : TypeId)
    (ho : o.op = .call { callee := .builtin .append, args := #[s, x], argTypes := #[t, t] })
    (base : Nat) (e : TypeId) (i : TypeInfo) (z : Value) (size bytes : Nat) (ht : P.underlying t = some (.slice e)) (hi : P.info? e = some i) (hz : i.zero = some z)
    (hsize : i.size = size) (hby : i.bytes = bytes) (hzs : z.cells.size = size) (hsz : 0 < size)
    (v : Value) (n : Nat) (xs : List Value) (hs : a.eval s = v) (hown : w.ownsRow base e size v n xs)
    (ad : Addr) (m c : Nat) (news : List Value) (hx : a.eval x = .slice (some ad) m c) (hl : news.length = m * size) (hnews : ∀ j u, news[j]? = some u → w.cell? (ad.add j) = some u) (h1 : ∀ u ∈ news, u.oneCell' = true)
    (h63 : n + m ≤ maxLen) (hbytes : (n + m) * bytes ≤ 140737488355328) (hbase : base ≤ w.heap.size)
    (h : ∀ v' w', w'.ownsRow base e size v' (n + m) (xs ++ news) → w.grownBy w' v.ownBlock → (v' = .slice none 0 0 ↔ v = .slice none 0 0 ∧ m = 0) → K (a.put o.dst v') w') :
    if Region.wanted o (yielded ops a.tmps) = true then Oper.wp P o a w K Q else E := by
  rw [if_pos (by simp [Region.wanted, hgd])]
  exact wp_append_own w s x t ho base e i z size bytes ht hi hz hsize hby hzs hsz v n xs hs hown ad m c news hx hl hnews h1 h63 hbytes hbase h
theorem own_le {w : World} {base e size n : Nat} {v : Value} {xs : List Value} (h : w.ownsRow base e size v n xs) (q : Nat) (hq : v.ownBlock = some q) : base ≤ q := by
  rcases h.2 with ⟨rfl, _⟩ | ⟨g', cap, cur, rfl, hg', _⟩
  · simp [Value.ownBlock] at hq
  · have : g' = q := by simpa [Value.ownBlock] using hq
    omega
end Go.Proofs.Ytmmkmbinmmfblaa
