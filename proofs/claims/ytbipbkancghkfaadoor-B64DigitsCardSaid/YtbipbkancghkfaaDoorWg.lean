/- written: bits as digits. -/
import Derived.Test.YtbipbkancghkfaaDoorWc
import Derived.Test.YtbipbkancghkfaaDoorWe
import Derived.Test.YtbipbkancghkfaaDoorWf
import Derived.Shelf.Abstract
namespace Go.Proofs.YtbipbkancghkfaaDoor
open Go.RowKit
attribute [local go_sem] Oper.semAt_some
theorem bytesOf_any (s : ByteArray) (w : World) :
    Calls Tryd.prog 35 #[.string s] w fun e w' => e = .returned (.func (.func 41) #[] #[.pointer (some ⟨w.heap.size, 0, none⟩)]) ∧ w' = w.alloc (.cells #[.string s] 9) := by
  go_enter Tryd.func35, Tryd.ntmps35
  go_wp2_with fail
  go_ret
  exact ⟨rfl, rfl⟩
theorem regrouped_any (f : Nat) (lb : Array Value) (fr to : Nat) (w : World) :
    Calls Tryd.prog 33 #[.func (.func f) #[] lb, .int .i64 (fr : Int), .int .i64 (to : Int)] w fun e w' =>
      e = .returned (.func (.func 39) #[] #[.pointer (some ⟨w.heap.size, 0, none⟩), .pointer (some ⟨w.heap.size + 1, 0, none⟩), .pointer (some ⟨w.heap.size + 1 + 1, 0, none⟩)]) ∧
      w' = ((w.alloc (.cells #[.func (.func f) #[] lb] 51)).alloc (.cells #[.int .i64 (fr : Int)] 3)).alloc (.cells #[.int .i64 (to : Int)] 3) := by
  go_enter Tryd.func33, Tryd.ntmps33
  go_wp2_with fail
  go_ret
  exact ⟨rfl, rfl⟩
/-- The slice that grows, in its box. -/
structure WO (w0 : World) (ob g cap : Nat) (f : Nat → Nat) (n : Nat) (w : World) : Prop where
  o : Blk w ob 35 #[.slice (some ⟨g, 0, none⟩) n cap]
  row : CapRow g cap f n w
  b : Below w0.heap.size w0 w
theorem WO.below {w0 A C : World} {ob g cap n B : Nat} {f : Nat → Nat} (h : WO w0 ob g cap f n A) (h1 : w0.heap.size ≤ B) (ho : ob < B) (hg : g < B) (hb : Below B A C) : WO w0 ob g cap f n C :=
  ⟨h.o.below hb ho, h.row.below hb hg, h.b.trans (hb.mono h1)⟩
/-- A round under way: the byte is made in block Z (f1), appended (f2), stored (f3). -/
structure WU (w0 V : World) (B ob g cap Z n z : Nat) (f : Nat → Nat) (R : World → Prop) (f1 f2 f3 : Bool) (w : World) : Prop where
  o : Blk w ob 35 #[.slice (some ⟨g, 0, none⟩) (if f3 then n + 1 else n) cap]
  row : CapRow g cap f (if f2 then n + 1 else n) w
  b : Below w0.heap.size w0 w
  c : f1 = true → w.cell? ⟨Z, 0, none⟩ = some (.int .u8 (z : Int))
  z : f1 = false → w.heap.size = Z
  r : R w
  u : Upward B V w
section
variable {w0 V w : World} {B ob g cap Z n z : Nat} {f : Nat → Nat} {R : World → Prop}
theorem WO.begin (h : WO w0 ob g cap f n V) (hR : R V) (hd : ∀ A, R A → R A.drew) : WU w0 V B ob g cap V.heap.size n z f R false false false V.drew :=
  ⟨h.o.drew, h.row.kept rfl, h.b.drew, (fun e => by cases e), fun _ => rfl, hd _ hR, Upward.drew _ _⟩
theorem WU.made (h : WU w0 V B ob g cap Z n z f R false false false w) (h0 : w0.heap.size ≤ Z) (hg : g < Z) (hR : ∀ A C, R A → Z ≤ A.heap.size → Upward 0 A C → Below Z A C → R C) :
    WU w0 V B ob g cap Z n z f R true false false (w.alloc (.cells #[.int .u8 (z : Int)] 5)) := by
  have hz : w.heap.size = Z := h.z rfl
  have hb : Below Z w (w.alloc (.cells #[.int .u8 (z : Int)] 5)) := (Below.refl _ w).alloc (by omega) _
  refine ⟨h.o.alloc _, h.row.below hb hg, h.b.trans (hb.mono h0), fun _ => ?_, (fun e => by cases e), hR _ _ h.r (by omega) (Upward.alloc _ _ _) hb, h.u.trans (Upward.alloc _ _ _)⟩
  rw [← hz]; exact (Blk.new w _ _).cell 0
theorem WU.stored (h : WU w0 V B ob g cap Z n z f R true true false w) (h0 : w0.heap.size ≤ ob) (hgo : g ≠ ob) (hZo : Z ≠ ob) (hoB : ob < B) (hR : ∀ A v, R A → R (A.setCell ⟨ob, 0, none⟩ v)) :
    WU w0 V B ob g cap Z n z f R true true true (w.setCell ⟨ob, 0, none⟩ (.slice (some ⟨g, 0, none⟩) (n + 1) cap)) := by
  refine ⟨h.o.set_ 0 _, h.row.setFar hgo _, h.b.setCell (p := ⟨ob, 0, none⟩) h0 _, fun e => ?_, (fun e => by cases e), hR _ _ h.r, h.u.trans (Upward.setCell _ _ _ hoB)⟩
  exact (World.cell?_of_block (Below.heap_setCell w ⟨ob, 0, none⟩ _ Z hZo)).trans (h.c e)
theorem WU.pushed (h : WU w0 V B ob g cap Z n z f R true false false w) (hn : n + 1 ≤ cap) (hf : f n = z) (h0 : w0.heap.size ≤ g) (hgo : ob ≠ g) (hgZ : Z ≠ g) (hgB : g < B) (hR : ∀ A C, R A → A.grownBy C (some g) → R C) (ty : TypeId) :
    ∃ w', (Builtin.append_ #[35, 35] ty #[.slice (some ⟨g, 0, none⟩) n cap, .slice (some ⟨Z, 0, none⟩) 1 1]).run Tryd.prog w = .ok (.slice (some ⟨g, 0, none⟩) (n + 1) cap) w' ∧ WU w0 V B ob g cap Z n z f R true true false w' := by
  obtain ⟨w', h1, h2, h3⟩ := CapRow.push (n := n) h.row hn (h.c rfl) (by rw [hf]) (c := 1) ty
  refine ⟨w', h1, ⟨(h3.block ob h.o.lt (by simpa using hgo)).trans h.o, h2, h.b.grown h3 (Nat.le_trans h0 (by have := h.row.lt; omega)) (fun k e => by cases e; exact h0), fun e => ?_, (fun e => by cases e), hR _ _ h.r h3, h.u.trans (Upward.grown h3 fun k e => by cases e; exact hgB)⟩⟩
  obtain ⟨o, ho, _⟩ := cells_of_cell (h.c e)
  exact (World.cell?_of_block (h3.block Z (Array.getElem?_eq_some_iff.1 ho).1 (by simpa using hgZ))).trans (h.c e)
end
/-- What lies in some blocks. -/
def HL (L : List (Nat × Obj)) (w : World) : Prop := ∀ x ∈ L, w.heap[x.1]? = some x.2
theorem HL.block {L : List (Nat × Obj)} {A C : World} (h : HL L A) (hb : ∀ x ∈ L, C.heap[x.1]? = A.heap[x.1]?) : HL L C := fun x hx => (hb x hx).trans (h x hx)
theorem HL.below {L : List (Nat × Obj)} {A C : World} {B : Nat} (h : HL L A) (hL : ∀ x ∈ L, x.1 < B) (hb : Below B A C) : HL L C := h.block fun x hx => hb.block _ (hL x hx)
set_option maxRecDepth 100000 in
set_option maxHeartbeats 4000000 in
theorem written_any (s D : ByteArray) (to : Nat) (w : World) (hs : s.size ≤ 300000000000000) (ht : 1 ≤ to ∧ to ≤ 8) (hD : 2 ^ to ≤ D.size) (h48 : s.size * 8 / to < 281474976710656) :
    Calls Tryd.prog 25 #[.string s, .string D, .int .i64 (to : Int)] w fun e w' =>
      e = .returned (.string (textN ((s.size * 8 + to - 1) / to) fun k => byteS D (num (bitG (byteS s) 8 s.size) (k * to) to))) ∧ Below w.heap.size w w' := by
  refine (callsIn_wide (n := 0)).1 ?_
  refine callsIn_of_wp_marks Tryd.func25 rfl trivial ?_
  simp only [Tryd.ntmps25, List.size_toArray, List.length_cons, List.length_nil, Nat.reduceAdd, Nat.reduceSub, Array.replicate_succ, Array.replicate_zero, List.push_toArray, List.append_toArray, List.nil_append, List.cons_append]
  obtain ⟨q, hq⟩ : ∃ q, q = s.size * 8 / to := ⟨_, rfl⟩
  have hqi : (s.size : Int) * 8 / to = (q : Int) := by rw [hq, Int.natCast_ediv]; push_cast; rfl
  have hqs : q < 281474976710656 := by rw [hq]; exact h48
  clear h48
  obtain ⟨m, hm⟩ : ∃ m, m = q + 1 := ⟨_, rfl⟩
  have hqm : (q : Int) + 1 = (m : Int) := by omega
  have HQ := Lib.hid hq
  have HM := Lib.hid hm
  have hmx : m ≤ maxLen := by unfold maxLen; omega
  clear hq hm
  obtain ⟨T, hT0⟩ : ∃ T, T = (s.size * 8 + to - 1) / to := ⟨_, rfl⟩
  obtain ⟨f, hf0⟩ : ∃ f : Nat → Nat, f = fun k => byteS D (num (bitG (byteS s) 8 s.size) (k * to) to) := ⟨_, rfl⟩
  rw [← hT0, ← hf0]
  obtain ⟨txt, htx⟩ : ∃ x, x = textN T f := ⟨_, rfl⟩
  rw [← htx]
  have HX := Lib.hid htx
  clear htx
  have hTm : ∀ i, i < T → i + 1 ≤ m := fun i hi => by
    have h1 := HM.out
    have h2 := HQ.out
    have h3 : T ≤ q + 1 := by
      rw [hT0, h2, ← Nat.add_div_right _ (by omega)]
      exact Nat.div_le_div_right (by omega)
    omega
  have HT0 := Lib.hid hT0
  have HF := Lib.hid hf0
  have hf256 : ∀ k, f k < 256 := fun k => by rw [hf0]; exact byteS_lt _ _
  clear hT0 hf0
  obtain ⟨i0, hi0, hz0, hz1, hz2⟩ := info_parts u8_infoO
  gi_wp2_with (gi_at_make; refine wpListIn_make_own _ rfl _ _ 35 rfl 0 5 i0 (.int .u8 0) 1 Tryd.underlying35 hi0 hz0 hz1 .i64 .i64 _ m rfl rfl (by rfl) (by rw [hz2]; omega) hmx (Nat.zero_le _) ?_; intro w1 hrow1 hg1)
  clear hqi hqm hi0 hz0 hz1 hz2 hmx
  have b1 : Below w.heap.size w w1 := ((Below.refl _ w).alloc (Nat.le_refl _) _).grown hg1 (by simp) (fun k e => by cases e)
  have hsz1 : w.heap.size + 1 ≤ w1.heap.size := by have := hg1.size; simpa using this
  have hd1 : Blk w1 w.heap.size 9 #[.string D] := (hg1.block w.heap.size (by simp) (by simp)).trans (Blk.new w _ _)
  have hr1 : CapRow (w.heap.size + 1) m f 0 w1 := by
    have : (w.alloc (.cells #[.string D] 9)).heap.size = w.heap.size + 1 := by simp
    rw [← this]; exact hrow1
  have hlt1 := hr1.lt
  clear hrow1 hg1
  have w2b := b1.alloc (o := .cells #[.slice (some ⟨w.heap.size + 1, 0, none⟩) 0 m] 35) (by omega)
  have w2o := Blk.new w1 35 #[.slice (some ⟨w.heap.size + 1, 0, none⟩) 0 m]
  have w2r : CapRow (w.heap.size + 1) m f 0 (w1.alloc (.cells #[.slice (some ⟨w.heap.size + 1, 0, none⟩) 0 m] 35)) := hr1.kept (Below.heap_alloc _ _ _ hlt1)
  have w2d := hd1.alloc (.cells #[.slice (some ⟨w.heap.size + 1, 0, none⟩) 0 m] 35)
  have hsz2 : (w1.alloc (.cells #[.slice (some ⟨w.heap.size + 1, 0, none⟩) 0 m] 35)).heap.size = w1.heap.size + 1 := by simp
  generalize w1.alloc (.cells #[.slice (some ⟨w.heap.size + 1, 0, none⟩) 0 m] 35) = w2 at w2b w2o w2r w2d hsz2 ⊢
  refine ⟨trivial, rfl, (calls_wr (ro := none) (bytesOf_any s _)).mono ?_⟩
  rintro e w3 ⟨rfl, rfl⟩
  gi_wp2_with fail
  refine ⟨trivial, rfl, (calls_wr (ro := none) (regrouped_any _ _ 8 to _)).mono ?_⟩
  rintro e w3 ⟨rfl, rfl⟩
  gi_wp2_with fail
  have hz4 : ((((w2.alloc (.cells #[.string s] 9)).alloc (.cells #[.func (.func 41) #[] #[.pointer (some ⟨w1.heap.size + 1, 0, none⟩)]] 51)).alloc (.cells #[.int .i64 8] 3)).alloc (.cells #[.int .i64 (to : Int)] 3)).heap.size = w1.heap.size + 5 := by simp; omega
  have b4 : Below (w1.heap.size + 1) w2 ((((w2.alloc (.cells #[.string s] 9)).alloc (.cells #[.func (.func 41) #[] #[.pointer (some ⟨w1.heap.size + 1, 0, none⟩)]] 51)).alloc (.cells #[.int .i64 8] 3)).alloc (.cells #[.int .i64 (to : Int)] 3)) := ((((Below.refl _ w2).alloc (by omega) _).alloc (by simp; omega) _).alloc (by simp; omega) _).alloc (by simp; omega) _
  have o4 : WO w w1.heap.size (w.heap.size + 1) m f 0 ((((w2.alloc (.cells #[.string s] 9)).alloc (.cells #[.func (.func 41) #[] #[.pointer (some ⟨w1.heap.size + 1, 0, none⟩)]] 51)).alloc (.cells #[.int .i64 8] 3)).alloc (.cells #[.int .i64 (to : Int)] 3)) := WO.below ⟨w2o, w2r, w2b⟩ (by omega) (by omega) (by omega) b4
  obtain ⟨L, hL⟩ : ∃ L : List (Nat × Obj), L = [(w.heap.size, .cells #[.string D] 9 (0, 0)), (w1.heap.size + 1, .cells #[.string s] 9 (0, 0)), (w1.heap.size + 1 + 1, .cells #[.func (.func 41) #[] #[.pointer (some ⟨w1.heap.size + 1, 0, none⟩)]] 51 (0, 0)), (w1.heap.size + 1 + 1 + 1, .cells #[.int .i64 8] 3 (0, 0)), (w1.heap.size + 1 + 1 + 1 + 1, .cells #[.int .i64 (to : Int)] 3 (0, 0))] := ⟨_, rfl⟩
  have l4 : HL L ((((w2.alloc (.cells #[.string s] 9)).alloc (.cells #[.func (.func 41) #[] #[.pointer (some ⟨w1.heap.size + 1, 0, none⟩)]] 51)).alloc (.cells #[.int .i64 8] 3)).alloc (.cells #[.int .i64 (to : Int)] 3)) := by
    intro x hx
    rw [hL] at hx
    simp only [List.mem_cons, List.not_mem_nil, or_false] at hx
    rcases hx with rfl | rfl | rfl | rfl | rfl
    · exact w2d.below b4 (by omega)
    · exact Blk.cast' ((((Blk.new w2 9 #[.string s]).alloc _).alloc _).alloc _) ⟨hsz2, rfl⟩
    · exact Blk.cast' (((Blk.new (w2.alloc _) 51 #[.func (.func 41) #[] #[.pointer (some ⟨w1.heap.size + 1, 0, none⟩)]]).alloc _).alloc _) ⟨by simp [hsz2], rfl⟩
    · exact Blk.cast' ((Blk.new ((w2.alloc _).alloc _) 3 #[.int .i64 8]).alloc _) ⟨by simp [hsz2], rfl⟩
    · exact Blk.cast' (Blk.new (((w2.alloc _).alloc _).alloc _) 3 #[.int .i64 (to : Int)]) ⟨by simp [hsz2], rfl⟩
  have hLn : ∀ x ∈ L, x.1 ≠ w1.heap.size ∧ x.1 ≠ w.heap.size + 1 := by
    intro x hx
    rw [hL] at hx
    simp only [List.mem_cons, List.not_mem_nil, or_false] at hx
    rcases hx with rfl | rfl | rfl | rfl | rfl <;> dsimp only <;> omega
  have hLz : ∀ x ∈ L, x.1 < w1.heap.size + 5 := by
    intro x hx
    rw [hL] at hx
    simp only [List.mem_cons, List.not_mem_nil, or_false] at hx
    rcases hx with rfl | rfl | rfl | rfl | rfl <;> dsimp only <;> omega
  have hcp : ∀ A, HL L A → capR (capS (w1.heap.size + 1) s) 41 #[.pointer (some ⟨w1.heap.size + 1, 0, none⟩)] (w1.heap.size + 1 + 1) (w1.heap.size + 1 + 1 + 1) (w1.heap.size + 1 + 1 + 1 + 1) 8 to A := fun A h => by
    rw [hL] at h
    exact ⟨h (w1.heap.size + 1, .cells #[.string s] 9 (0, 0)) (by simp), h (w1.heap.size + 1 + 1, .cells #[.func (.func 41) #[] #[.pointer (some ⟨w1.heap.size + 1, 0, none⟩)]] 51 (0, 0)) (by simp), h (w1.heap.size + 1 + 1 + 1, .cells #[.int .i64 8] 3 (0, 0)) (by simp), h (w1.heap.size + 1 + 1 + 1 + 1, .cells #[.int .i64 (to : Int)] 3 (0, 0)) (by simp)⟩
  have hseq := regrouped_gives (capS (w1.heap.size + 1) s) 41 #[.pointer (some ⟨w1.heap.size + 1, 0, none⟩)] (w1.heap.size + 1 + 1) (w1.heap.size + 1 + 1 + 1) (w1.heap.size + 1 + 1 + 1 + 1) 8 to s.size (byteS s)
    (enters_of Tryd.func41 (by kernel_rfl) rfl) (bytes_gives s hs (w1.heap.size + 1)) (fun W A C B h hB hA hb => capS_below hA hb (by have := Blk.lt h; omega)) (by decide) ht (fun i _ => byteS_lt s i)
  rw [← HT0.out] at hseq
  have hd0 : ∀ A, HL L A → Blk A w.heap.size 9 #[.string D] := fun A h => by
    rw [hL] at h
    exact h (w.heap.size, .cells #[.string D] 9 (0, 0)) (by simp)
  generalize ((((w2.alloc (.cells #[.string s] 9)).alloc (.cells #[.func (.func 41) #[] #[.pointer (some ⟨w1.heap.size + 1, 0, none⟩)]] 51)).alloc (.cells #[.int .i64 8] 3)).alloc (.cells #[.int .i64 (to : Int)] 3)) = w4 at hz4 b4 o4 l4 ⊢
  clear hL w2b w2o w2r w2d b4
  refine wpIn_range rfl (enters_of Tryd.func39 (by kernel_rfl) rfl) hseq rfl (fun i A => WO w w1.heap.size (w.heap.size + 1) m f i A ∧ HL L A)
    (fun i A C h hz hb => ⟨h.1.below (by omega) (by omega) (by omega) hb, h.2.below (hz4 ▸ hLz) hb⟩) (hcp _ l4) (fun A C h hb => (hcp w4 l4).below (fun W A C B h hB hA hb => capS_below hA hb (by have := Blk.lt h; omega)) (Nat.le_refl _) h hb) ⟨o4, l4⟩
    (fun i => { tmps := #[.string s, .string D, .int .i64 (to : Int), undef, .pointer (some ⟨w.heap.size, 0, none⟩), undef, .string ⟨#[]⟩, .pointer (some ⟨w1.heap.size, 0, none⟩), .int .u64 (num (bitG (byteS s) 8 s.size) (i * to) to : Int), .string s, .int .i64 (s.size : Int), .int .i64 ((s.size : Int) * 8), .int .i64 (to : Int), .int .i64 (q : Int), .int .i64 (m : Int), .slice (some ⟨w.heap.size + 1, 0, none⟩) 0 m, .string s, .func (.func 41) #[] #[.pointer (some ⟨w1.heap.size + 1, 0, none⟩)], .int .i64 (to : Int), .func (.func 39) #[] #[.pointer (some ⟨w1.heap.size + 1 + 1, 0, none⟩), .pointer (some ⟨w1.heap.size + 1 + 1 + 1, 0, none⟩), .pointer (some ⟨w1.heap.size + 1 + 1 + 1 + 1, 0, none⟩)], .int .u64 (num (bitG (byteS s) 8 s.size) (i * to) to : Int), undef, undef, undef, undef, undef, undef, undef, undef], defers := [] }) ?assign ?body ?done
  case assign =>
    intro l2 i V K hK
    gi_wp2_with fail
    exact hK
  case body =>
    rintro l2 i V hi ⟨ho, hl⟩ hc hz
    have hvl := num_lt (bitG (byteS s) 8 s.size) (i * to) to
    obtain ⟨v, hv⟩ : ∃ v, v = num (bitG (byteS s) 8 s.size) (i * to) to := ⟨_, rfl⟩
    rw [← hv] at hvl ⊢
    have hvD : v < D.size := by omega
    have hvi : (v : Int) < D.size := by omega
    have hfi : f i = (D[v]).toNat := by rw [HF.out, byteS_at D v hvD, hv]
    have hLZ : ∀ x ∈ L, x.1 < V.heap.size := fun x hx => by have := hLz x hx; omega
    rw [hz4] at hz ⊢
    clear hv hvl hz4
    apply wpIn_block
    refine wpIn_region_anyR (ro := some l2) (S3 4 5 6 (WU w V (w1.heap.size + 5) w1.heap.size (w.heap.size + 1) m V.heap.size i (D[v]).toNat f (HL L))) (by kernel_rfl) (by kernel_rfl) (ho.begin hl (fun A h => h)) ?_
    refine anyR_take (i := 0) (v := ?_) rfl (by kernel_rfl) (by kernel_rfl) (by kernel_rfl) (y3_ahead (n := 9) (by decide) (by decide) (by decide) (by kernel_rfl) rfl (fun f1 f2 wx hT => ?_)) ?_; rotate_left
    · have c0 : wx.cell? ⟨w1.heap.size, 0, none⟩ = some (.slice (some ⟨w.heap.size + 1, 0, none⟩) i m) := hT.o.cell 0; refine Lands.r (lands_value (w := wx) ?_ hT); go_simp <;> rfl
    simp only [pu]
    refine anyR_take (i := 1) (v := ?_) rfl (by kernel_rfl) (by kernel_rfl) (by kernel_rfl) (y3_other (by decide) (by decide) (by decide) rfl (fun f1 f2 f3 wx hT => ?_)) ?_; rotate_left
    · have c0 : wx.cell? ⟨w.heap.size, 0, none⟩ = some (.string D) := (hd0 _ hT.r).cell 0; refine Lands.r (lands_value (w := wx) ?_ hT); go_simp <;> rfl
    simp only [pu]
    refine anyR_take (i := 2) (v := ?_) rfl (by kernel_rfl) (by kernel_rfl) (by kernel_rfl) (y3_other (by decide) (by decide) (by decide) rfl (fun f1 f2 f3 wx hT => ?_)) ?_; rotate_left
    · refine Lands.r (lands_value (w := wx) ?_ hT); go_simp <;> rfl
    simp only [pu]
    refine anyR_take (i := 3) (v := ?_) rfl (by kernel_rfl) (by kernel_rfl) (by kernel_rfl) (y3_other (by decide) (by decide) (by decide) rfl (fun f1 f2 f3 wx hT => ?_)) ?_; rotate_left
    · refine Lands.r (lands_value (w := wx) ?_ hT); go_simp <;> rfl
    simp only [pu]
    refine anyR_take (i := 4) (v := .slice (some ⟨V.heap.size, 0, none⟩) 1 1) rfl (by kernel_rfl) (by kernel_rfl) (by kernel_rfl) (y3_1 (n := 9) (by decide) (by decide) (by kernel_rfl) (by kernel_rfl) rfl (fun wx hT => ?_)) ?_
    · have K := hT.made (by omega) (by omega) (fun A C h hz hu hb => h.below hLZ hb); have hz := hT.z rfl; go_simp; exact ⟨rfl, K⟩
    simp only [pu]
    refine anyR_take (i := 5) (v := .slice (some ⟨w.heap.size + 1, 0, none⟩) (i + 1) m) rfl (by kernel_rfl) (by kernel_rfl) (by kernel_rfl) (y3_2 (n := 9) (by decide) (by decide) (by kernel_rfl) (by kernel_rfl) rfl (fun wx hT => ?_)) ?_
    · obtain ⟨w', hr', K⟩ := hT.pushed (hTm i hi) hfi (by omega) (by omega) (by omega) (by omega) (fun A C h hg => h.block fun x hx => hg.block _ (Array.getElem?_eq_some_iff.1 (h x hx)).1 (by simpa using (hLn x hx).2)) 35; exact Lands.r (lands_append (.tmp 21) (.tmp 25) 35 rfl rfl rfl hr' K)
    simp only [pu]
    refine anyR_take (i := 6) (v := undef) rfl (by kernel_rfl) (by kernel_rfl) (by kernel_rfl) (y3_3 (by decide) (by decide) (by kernel_rfl) (by kernel_rfl) rfl (fun wx hT => ?_)) ?_
    · have K := hT.stored (by omega) (by omega) (by omega) (by omega) (fun A v h => h.block fun x hx => Below.heap_setCell _ _ _ _ (hLn x hx).1); have c0 := hT.o.cell 0; have c1 := hT.o.frozen 0; go_simp; exact ⟨rfl, K⟩
    simp only [Act.put]
    refine anyR_done (by kernel_rfl) (fun w6 h6 => ?_) _
    exact ⟨⟨⟨h6.o, h6.row, h6.b⟩, h6.r⟩, hcp _ h6.r, h6.u⟩
  case done =>
    rintro Z V hZ ⟨ho, hl⟩ hc hK
    have c0 : V.cell? ⟨w1.heap.size, 0, none⟩ = some (.slice (some ⟨w.heap.size + 1, 0, none⟩) T m) := ho.o.cell 0
    have hcv := ho.row.text hf256
    rw [← HX.out] at hcv
    have bD : Below w.heap.size w (V.putObj Z (.deferred none)) := ho.b.trans (below_putObj _ hK (by omega))
    clear ho hl hc
    gi_wp2_with fail
    refine ⟨by simp, .inl ⟨_, _, rfl, run_takeDeferred hK, ?_⟩⟩
    exact ⟨_, results_tmp rfl _ _ _, rfl, bD⟩
end Go.Proofs.YtbipbkancghkfaaDoor
