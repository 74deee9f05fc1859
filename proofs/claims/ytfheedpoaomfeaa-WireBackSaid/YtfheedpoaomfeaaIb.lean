/- Chapter 13's streams: a slice that reads a text; a reader's block; what needs tells. -/
import Derived.Test.YtfheedpoaomfeaaIa
namespace Go.Proofs.Ytfheedpoaomfeaa
open Go.RowKit
/-- A slice that reads a text. -/
structure TS (p : Option Addr) (n cap : Nat) (B : ByteArray) (w : World) : Prop where
  len : B.size = n
  nil_ : p = none → n = 0 ∧ cap = 0
  cell : ∀ a, p = some a → ∀ i, i < n → w.cell? (a.add i) = some (.int .u8 (byteS B i : Int))
  le : n ≤ cap
  mx : cap ≤ 9223372036854775807
  lt : ∀ a, p = some a → a.block < w.heap.size
theorem add_block (a : Addr) (i : Nat) : (a.add i).block = a.block := by unfold Addr.add; split <;> rfl
section
variable {p : Option Addr} {n cap g : Nat} {B : ByteArray} {w w' : World}
theorem TS.keep (h : TS p n cap B w) (hz : w.heap.size ≤ w'.heap.size) (hk : ∀ a, p = some a → w'.heap[a.block]? = w.heap[a.block]?) : TS p n cap B w' :=
  ⟨h.len, h.nil_, fun a ha i hi => by
    rw [World.cell?_of_block (a := a.add i) (w := w) (by rw [add_block]; exact hk a ha)]; exact h.cell a ha i hi, h.le, h.mx, fun a ha => Nat.lt_of_lt_of_le (h.lt a ha) hz⟩
theorem TS.below (h : TS p n cap B w) (hb : Below w.heap.size w w') : TS p n cap B w' := h.keep hb.size fun a ha => hb.block _ (h.lt a ha)
theorem TS.ho (h : TS p n cap B w) (hb : Ho g w w') (hg : ∀ a, p = some a → a.block ≠ g) : TS p n cap B w' := h.keep hb.size fun a ha => hb.block _ (h.lt a ha) (hg a ha)
theorem TS.none_ (w : World) : TS none 0 0 ⟨#[]⟩ w := ⟨rfl, fun _ => ⟨rfl, rfl⟩, (fun a e => by cases e), Nat.le_refl _, by decide, (fun a e => by cases e)⟩
theorem TS.first (h : TS p n cap B w) (k : Nat) (hk : k ≤ n) : TS p k cap (B.extract 0 k) w :=
  ⟨by rw [ByteArray.size_extract, h.len]; omega, fun e => by have := h.nil_ e; omega, fun a ha i hi => by
    rw [byteS_ext B 0 k i (by rw [h.len]; exact hk) (by omega), Nat.zero_add]; exact h.cell a ha i (by omega), by have := h.le; omega, h.mx, h.lt⟩
theorem TS.rest {a : Addr} (h : TS (some a) n cap B w) (k : Nat) (hk : k ≤ n) {q : Addr} (hq : q = a ∧ cap - k = 0 ∨ q = a.add k) : TS (some q) (n - k) (cap - k) (B.extract k n) w :=
  ⟨by rw [ByteArray.size_extract, h.len]; omega, (fun e => by cases e), fun b hb i hi => by
    cases hb
    have hle := h.le
    rcases hq with ⟨rfl, h0⟩ | rfl
    · omega
    · rw [addr_add2, byteS_ext B k n i (by rw [h.len]; exact Nat.le_refl _) (by omega)]; exact h.cell a rfl (k + i) (by omega), by have := h.le; omega, by have := h.mx; omega, fun b hb => by
    cases hb
    rcases hq with ⟨rfl, h0⟩ | rfl
    · exact h.lt _ rfl
    · rw [add_block]; exact h.lt _ rfl⟩
theorem TS.tail (h : TS p n cap B w) (k : Nat) (hk : k ≤ n) {q : Option Addr} (hq : q = p ∧ cap - k = 0 ∨ q = p.map (·.add k)) : TS q (n - k) (cap - k) (B.extract k n) w := by
  cases p with
  | none =>
    obtain ⟨rfl, rfl⟩ := h.nil_ rfl
    obtain rfl : q = none := by rcases hq with ⟨h, _⟩ | h <;> exact h
    exact ⟨by rw [ByteArray.size_extract, h.len]; omega, fun _ => by omega, (fun a e => by cases e), by omega, by omega, (fun a e => by cases e)⟩
  | some a =>
    rcases hq with ⟨rfl, h0⟩ | rfl
    · exact h.rest k hk (.inl ⟨rfl, h0⟩)
    · exact h.rest k hk (.inr rfl)
theorem bytes_list (B : ByteArray) : (⟨B.data.toList.toArray⟩ : ByteArray) = B := by cases B; simp
theorem TS.string (h : TS p n cap B w) : (convert 52 9 (.slice p n cap)).run Try.prog w = .ok (.string B) w := by
  cases p with
  | none =>
    obtain ⟨rfl, rfl⟩ := h.nil_ rfl
    have hB : B = ⟨#[]⟩ := by
      have := h.len
      cases B with
      | mk d => cases d with | mk l => cases l with
        | nil => rfl
        | cons x l => simp [ByteArray.size] at this
    rw [run_convert_bytes_string w 52 9 5 _ _ _ Try.underlying52 Try.underlying5 Try.underlying9, hB]
    rfl
  | some a =>
    have hl : B.data.toList.length = n := h.len
    have := run_convert_bytes_back (P := Try.prog) w 52 9 5 a cap B.data.toList Try.underlying52 Try.underlying5 Try.underlying9 (fun j hj => by
      rw [hl] at hj
      rw [h.cell a rfl j hj, ← byteS_at B j (by rw [h.len]; exact hj)]
      rfl)
    rwa [hl, bytes_list] at this
end
/-- A reader in block g: what it has yet, its error. -/
def RW (g : Nat) (B : ByteArray) (E : Nat) (w : World) : Prop :=
  ∃ p n cap, Blk w g 59 #[.slice p n cap, .int .i64 (E : Int)] ∧ (E = 0 → TS p n cap B w ∧ ∀ a, p = some a → a.block + 1 = g) ∧ (E ≠ 0 → p = none ∧ n = 0 ∧ cap = 0)
theorem RW.keep {g : Nat} {B : ByteArray} {E : Nat} {w w' : World} (h : RW g B E w) (hz : w.heap.size ≤ w'.heap.size) (hk : ∀ i, i < w.heap.size → i = g ∨ i + 1 = g → w'.heap[i]? = w.heap[i]?) : RW g B E w' := by
  obtain ⟨p, n, cap, h1, h2, h3⟩ := h
  exact ⟨p, n, cap, (hk g h1.lt (.inl rfl)).trans h1, fun e => ⟨(h2 e).1.keep hz fun a ha => hk _ ((h2 e).1.lt a ha) (.inr ((h2 e).2 a ha)), (h2 e).2⟩, h3⟩
theorem RW.below {g : Nat} {B : ByteArray} {E : Nat} {w w' : World} (h : RW g B E w) (hb : Below w.heap.size w w') : RW g B E w' := h.keep hb.size fun i hi _ => hb.block i hi
theorem RW.ho {g k : Nat} {B : ByteArray} {E : Nat} {w w' : World} (h : RW g B E w) (hb : Ho k w w') (h1 : g ≠ k) (h2 : k + 1 ≠ g) : RW g B E w' := h.keep hb.size fun i hi e => hb.block i hi (by omega)
theorem RW.gg {g k : Nat} {v v' : Value} {B : ByteArray} {E : Nat} {w w' : World} (h : RW g B E w) (hb : Gg k v w v' w') (h1 : g ≠ k) (h2 : k + 1 ≠ g) (h3 : ∀ i, v.ownBlock = some i → i ≠ g ∧ i + 1 ≠ g) : RW g B E w' :=
  h.keep hb.size fun i hi e => hb.block i hi (by omega) fun ev => by have := h3 i ev; omega
theorem RW.lt {g : Nat} {B : ByteArray} {E : Nat} {w : World} (h : RW g B E w) : g < w.heap.size := by
  obtain ⟨p, n, cap, h1, _⟩ := h
  exact h1.lt
theorem Ho.row {g : Nat} {w w1 : World} (h : Ho g w w1) (cs : Array Value) : Ho g w (w1.setRow g cs) :=
  ⟨h.os, h.tape, h.output, by simp [World.setRow]; exact h.size, fun i hi hg => (setRow_other w1 g i cs hg).trans (h.block i hi hg)⟩
theorem stream_size : (Try.prog.info? 54).map (·.size) = some 2 := by kernel_rfl
theorem stream_one (e : Int) : (#[Value.slice none 0 0, .int .i64 e] : Array Value).all (·.oneCell') = true := by simp [Value.oneCell']
set_option maxRecDepth 100000 in
theorem needs_ok (g : Nat) (T : TypeId) (v : Value) (e : Int) (w : World) (h : Blk w g T #[v, .int .i64 0]) :
    Calls Try.prog 30 #[.pointer (some ⟨g, 0, none⟩), .bool true, .int .i64 e] w fun r w' => r = .returned (.bool true) ∧ w' = w := by
  have c1 : w.cell? ⟨g, 1, none⟩ = some (.int .i64 0) := h.cell 1
  go_enter Try.func30, Try.ntmps30
  go_wp2_with fail
  go_ret
  exact ⟨rfl, rfl⟩
set_option maxRecDepth 100000 in
theorem needs_err (g : Nat) (T : TypeId) (v : Value) (E e : Int) (b : Bool) (w : World) (h : Blk w g T #[v, .int .i64 E]) (hE : ¬ E = 0) :
    Calls Try.prog 30 #[.pointer (some ⟨g, 0, none⟩), .bool b, .int .i64 e] w fun r w' => r = .returned (.bool false) ∧ w' = w := by
  have c1 : w.cell? ⟨g, 1, none⟩ = some (.int .i64 E) := h.cell 1
  have hE2 : (E == 0) = false := by simp [hE]
  go_enter Try.func30, Try.ntmps30
  go_wp2_with fail
  go_ret
  exact ⟨rfl, rfl⟩
set_option maxRecDepth 100000 in
theorem needs_bad (g : Nat) (T : TypeId) (v : Value) (e : Int) (w : World) (h : Blk w g T #[v, .int .i64 0]) (he : ¬ e = 0) :
    Calls Try.prog 30 #[.pointer (some ⟨g, 0, none⟩), .bool false, .int .i64 e] w fun r w' => r = .returned (.bool false) ∧ w' = w.setRow g #[.slice none 0 0, .int .i64 e] := by
  have c1 : w.cell? ⟨g, 1, none⟩ = some (.int .i64 0) := h.cell 1
  have he2 : (e == 0) = false := by simp [he]
  have d1 : (w.setRow g #[.slice none 0 0, .int .i64 e]).cell? ⟨g, 1, none⟩ = some (.int .i64 e) := (h.row_ #[.slice none 0 0, .int .i64 e]).cell 1
  go_enter Try.func30, Try.ntmps30
  go_wp2_with (refine wpList_store_row rfl 54 _ _ rfl g #[.slice none 0 0, .int .i64 e] rfl rfl T _ h stream_size rfl (stream_one e) ?_)
  go_ret
  exact ⟨rfl, rfl⟩
end Go.Proofs.Ytfheedpoaomfeaa
