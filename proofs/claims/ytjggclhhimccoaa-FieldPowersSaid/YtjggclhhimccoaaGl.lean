/- Blocks of numbers as a list; Invert, nearRoot of the layer field. -/
import Derived.Test.YtjggclhhimccoaaGk
import Derived.Test.YtjggclhhimccoaaRega
namespace Go.Proofs.Ytjggclhhimccoaa
open Go.RowKit
/-- What is known of a world that grew: blocks of four words; below B all is as it was. -/
structure KF (B : Nat) (w0 : World) (l : List (Nat × (Nat → BitVec 64))) (w : World) : Prop where
  b : Below B w0 w
  lo : B ≤ w.heap.size
  blk : ∀ x ∈ l, Blk w x.1 24 (r64 4 x.2)
variable {B : Nat} {w0 w w' : World} {l : List (Nat × (Nat → BitVec 64))}
theorem KF.below (h : KF B w0 l w) (hb : Below w.heap.size w w') : KF B w0 l w' :=
  ⟨h.b.trans (hb.mono h.lo), Nat.le_trans h.lo hb.size, fun x hx => (h.blk x hx).below hb (h.blk x hx).lt⟩
theorem KF.drew (h : KF B w0 l w) : KF B w0 l w.drew := ⟨h.b.drew, h.lo, fun x hx => (h.blk x hx).drew⟩
theorem KF.lt (h : KF B w0 l w) : ∀ x ∈ l, x.1 < w.heap.size := fun x hx => (h.blk x hx).lt
theorem KF.alloc (h : KF B w0 l w) (cs : Array Value) (T : TypeId) : KF B w0 l (w.alloc (.cells cs T)) := ⟨h.b.alloc h.lo _, Nat.le_trans h.lo (by simp), fun x hx => (h.blk x hx).alloc _⟩
/-- A new variable, and its first value. -/
theorem KF.new (h : KF B w0 l w) (cs : Array Value) (f : Nat → BitVec 64) : KF B w0 ((w.heap.size, f) :: l) ((w.alloc (.cells cs 24)).setRow w.heap.size (r64 4 f)) :=
  ⟨below_setRow' (h.b.alloc h.lo _) h.lo _, by simp; have := h.lo; omega, fun x hx => by
    rcases List.mem_cons.1 hx with rfl | hx
    · exact (Blk.new w _ _).row_ _
    · exact ((h.blk x hx).alloc _).row_far (Nat.ne_of_lt (h.lt x hx)) _⟩
theorem KF.mk1 (w : World) (f : Nat → BitVec 64) : KF w.heap.size w [(w.heap.size, f)] (w.alloc (.cells (r64 4 f) 24)) :=
  ⟨(Below.refl _ _).alloc (Nat.le_refl _) _, by simp, fun x hx => by rcases List.mem_singleton.1 hx with rfl; exact Blk.new w _ _⟩
/-- A row stored anew. -/
theorem KF.put (h : KF B w0 l w) {g : Nat} {f0 : Nat → BitVec 64} (hg : Blk w g 24 (r64 4 f0)) (hB : B ≤ g) (f : Nat → BitVec 64) (l' : List (Nat × (Nat → BitVec 64))) (hl : ∀ x ∈ l', (x = (g, f)) ∨ (x ∈ l ∧ x.1 ≠ g)) : KF B w0 l' (w.setRow g (r64 4 f)) :=
  ⟨below_setRow' h.b hB _, by simp; exact h.lo, fun x hx => by
    rcases hl x hx with rfl | ⟨hx, hne⟩
    · exact hg.row_ _
    · exact (h.blk x hx).row_far hne _⟩
theorem KF.sub (h : KF B w0 l w) {l' : List (Nat × (Nat → BitVec 64))} (hl : ∀ x ∈ l', x ∈ l) : KF B w0 l' w := ⟨h.b, h.lo, fun x hx => h.blk x (hl x hx)⟩
theorem m0 {α : Type _} {a : α} {l : List α} : a ∈ a :: l := .head _
theorem m1 {α : Type _} {a b : α} {l : List α} : a ∈ b :: a :: l := .tail _ m0
theorem m2 {α : Type _} {a b c : α} {l : List α} : a ∈ b :: c :: a :: l := .tail _ m1
theorem m3 {α : Type _} {a b c d : α} {l : List α} : a ∈ b :: c :: d :: a :: l := .tail _ m2
theorem m4 {α : Type _} {a b c d e : α} {l : List α} : a ∈ b :: c :: d :: e :: a :: l := .tail _ m3
theorem m5 {α : Type _} {a b c d e f : α} {l : List α} : a ∈ b :: c :: d :: e :: f :: a :: l := .tail _ m4
theorem m6 {α : Type _} {a b c d e f g : α} {l : List α} : a ∈ b :: c :: d :: e :: f :: g :: a :: l := .tail _ m5
def zF : Nat → BitVec 64 := fun _ => litw 64 0
/-- A call's two numbers and its result. -/
theorem KF.start (a b : Nat) (w : World) : KF w.heap.size w [(w.heap.size, F4 a), (w.heap.size + 1, F4 b), (w.heap.size + 2, zF)] (((w.alloc (.cells (r64 4 (F4 a)) 24)).alloc (.cells (r64 4 (F4 b)) 24)).alloc (.cells #[.int .u64 0, .int .u64 0, .int .u64 0, .int .u64 0] 24)) := by
  have h := L3.start a b w
  refine ⟨h.l, h.l.size, fun x hx => ?_⟩
  simp only [List.mem_cons, List.not_mem_nil, or_false] at hx
  rcases hx with rfl | rfl | rfl
  · exact h.da
  · exact h.db
  · exact h.r
/-- In a region that makes a variable and stores into it once. -/
structure KQ (B : Nat) (w0 : World) (l : List (Nat × (Nat → BitVec 64))) (n : Nat) (f1 f2 : Bool) (q : Value) (w : World) : Prop where
  k : KF B w0 l w
  q : f2 = true → ∃ g, q = .pointer (some ⟨g, 0, none⟩) ∧ Blk w g 24 (r64 4 (onceF f1 n)) ∧ (∀ x ∈ l, x.1 < g) ∧ B ≤ g
theorem KQ.below {n : Nat} {f1 f2 : Bool} {q : Value} (h : KQ B w0 l n f1 f2 q w) (hb : Below w.heap.size w w') : KQ B w0 l n f1 f2 q w' :=
  ⟨h.k.below hb, fun hf => by obtain ⟨g, e, hg, hl, hB⟩ := h.q hf; exact ⟨g, e, hg.below hb hg.lt, hl, hB⟩⟩
theorem KQ.begin (h : KF B w0 l w) (n : Nat) : KQ B w0 l n false false undef w := ⟨h, fun hf => by cases hf⟩
theorem KQ.made {n : Nat} {q : Value} (h : KQ B w0 l n false false q w) : KQ B w0 l n false true (.pointer (some ⟨w.heap.size, 0, none⟩)) (w.alloc (.cells #[.int .u64 0, .int .u64 0, .int .u64 0, .int .u64 0] 24)) :=
  ⟨h.k.alloc _ _, fun _ => ⟨_, rfl, (Blk.new w _ _).cast_ zero4', h.k.lt, h.k.lo⟩⟩
theorem KQ.out {n : Nat} {q : Value} (h : KQ B w0 l n true true q w) : ∃ g, q = .pointer (some ⟨g, 0, none⟩) ∧ KF B w0 ((g, F4 n) :: l) w ∧ (∀ x ∈ l, x.1 < g) ∧ B ≤ g := by
  obtain ⟨g, e, hg, hl, hB⟩ := h.q rfl
  refine ⟨g, e, ⟨h.k.b, h.k.lo, fun x hx => ?_⟩, hl, hB⟩
  rcases List.mem_cons.1 hx with rfl | hx
  · exact hg
  · exact h.k.blk x hx
theorem KQ.stored {n : Nat} {q : Value} {o : Oper} {a : Act} (h : KQ B w0 l n false true q w) (x y : Operand) (ho : o.op = .store 24 x y) (hx : a.eval x = q) (hy : a.eval y = .agg (r64 4 (F4 n))) :
    Lands Try.prog (KQ B w0 l n true true q) undef ((execOp a.eval o).run Try.prog w) := by
  obtain ⟨g, e, hg, hl, hB⟩ := h.q rfl
  subst e
  refine stores_fe x y ho g (F4 n) _ hx hy hg ⟨⟨below_setRow' h.k.b hB _, by simp; exact h.k.lo, fun x hx => (h.k.blk x hx).row_far (Nat.ne_of_lt (hl x hx)) _⟩, fun _ => ⟨g, rfl, hg.row_ _, hl, hB⟩⟩
theorem inv_row : #[Value.int .u64 18446744073709551595, .int .u64 18446744073709551615, .int .u64 18446744073709551615, .int .u64 9223372036854775807] = r64 4 (F4 (pP - 2)) := by kernel_rfl
theorem inv_built : Try.prog.built 23 [(0, .int .u64 18446744073709551595), (1, .int .u64 18446744073709551615), (2, .int .u64 18446744073709551615), (3, .int .u64 9223372036854775807)] = some #[.int .u64 18446744073709551595, .int .u64 18446744073709551615, .int .u64 18446744073709551615, .int .u64 9223372036854775807] := by kernel_rfl
set_option maxHeartbeats 1000000 in
theorem finv_any (a : Nat) (w : World) (ha : a < M256) :
    Calls Try.prog 34 #[.agg (r64 4 (F4 a))] w fun e w' => e = .returned (.agg (r64 4 (F4 (a ^ (pP - 2) % pP)))) ∧ Below w.heap.size w w' := by
  have HS := Lib.hid fe_size
  have hb := inv_built
  have HI := Lib.hid inv_row
  have hlt : pP - 2 < M256 := by decide
  have LW0 : LW a w ((w.alloc (.cells (r64 4 (F4 a)) 24)).alloc (.cells #[.int .u64 0, .int .u64 0, .int .u64 0, .int .u64 0] 24)) := ⟨(Blk.new w _ _).alloc _, (Blk.new _ _ _).cast' ⟨by simp, zero4'⟩, ((Below.refl _ _).alloc (Nat.le_refl _) _).alloc (by simp) _⟩
  generalize hx : pP - 2 = x at HI hlt ⊢
  clear hx
  go_enter Try.func34, Try.ntmps34
  go_wp2_with (refine wpList_gen (LW a w) LW0 (fun w1 h1 => ?_); refine wpList_load_row rfl 24 _ rfl w.heap.size rfl 24 _ (0, 0) _ h1.d Try.underlying24 rfl (HS.out _) ?_)
  rw [HI.out]
  refine (fpow_any a x w1 ha hlt).mono ?_
  rintro e w2 ⟨rfl, hq⟩
  have h2 := h1.below hq
  clear h1 hq LW0
  go_wp2_with (refine wpList_store_row rfl 24 _ _ rfl (w.heap.size + 1) (r64 4 (F4 (a ^ x % pP))) rfl rfl 24 _ h2.r (HS.out _) (by simp only [row_size]) (row_one fun _ => rfl) ?_)
  simp only [Act.put]
  exact bodyPost_ret (results_cell_row rfl _ _ (w.heap.size + 1) 24 (r64 4 (F4 (a ^ x % pP))) (0, 0) _ rfl (h2.r.row_ _) Try.underlying24 rfl (HS.out _)) rfl ⟨rfl, below_setRow' h2.l (by omega) _⟩
def E8 : Nat := 7237005577332262213973186563042994240829374041602535252466099000494570602493
theorem e8_row : #[Value.int .u64 18446744073709551613, .int .u64 18446744073709551615, .int .u64 18446744073709551615, .int .u64 1152921504606846975] = r64 4 (F4 E8) := by kernel_rfl
theorem e8_built : Try.prog.built 23 [(0, .int .u64 18446744073709551613), (1, .int .u64 18446744073709551615), (2, .int .u64 18446744073709551615), (3, .int .u64 1152921504606846975)] = some #[.int .u64 18446744073709551613, .int .u64 18446744073709551615, .int .u64 18446744073709551615, .int .u64 1152921504606846975] := by kernel_rfl
def sqV (v : Nat) : Nat := v * v % pP
def cuV (v : Nat) : Nat := sqV v * v % pP
def seV (v : Nat) : Nat := (sqV v * sqV v % pP) * cuV v % pP
def pwV (u v : Nat) : Nat := (u * seV v % pP) ^ E8 % pP
def nearV (u v : Nat) : Nat := (u * cuV v % pP) * pwV u v % pP
set_option maxRecDepth 100000 in
set_option maxHeartbeats 4000000 in
theorem near_any (u v : Nat) (w : World) (hu : u < M256) (hv : v < M256) :
    Calls Try.prog 48 #[.agg (r64 4 (F4 u)), .agg (r64 4 (F4 v))] w fun e w' => e = .returned (.agg (r64 4 (F4 (nearV u v)))) ∧ Below w.heap.size w w' := by
  have HS := Lib.hid fe_size
  have hb := e8_built
  have HI := Lib.hid e8_row
  have he8 : E8 < M256 := by decide
  have L0 := KF.start u v w
  have csq := fun w => fmul_any v v w hv hv
  have ccu := fun w => fmul_any (sqV v) v w (mod_lt_M _) hv
  have css := fun w => fmul_any (sqV v) (sqV v) w (mod_lt_M _) (mod_lt_M _)
  have cse := fun w => fmul_any (sqV v * sqV v % pP) (cuV v) w (mod_lt_M _) (mod_lt_M _)
  have cus := fun w => fmul_any u (seV v) w hu (mod_lt_M _)
  have cpw := fun w => fpow_any (u * seV v % pP) E8 w (mod_lt_M _) he8
  have cuc := fun w => fmul_any u (cuV v) w hu (mod_lt_M _)
  have cre := fun w => fmul_any (u * cuV v % pP) (pwV u v) w (mod_lt_M _) (mod_lt_M _)
  go_enter Try.func48, Try.ntmps48
  go_wp2_with (first
    | (refine wpList_load_row rfl 24 _ rfl (w.heap.size + 1) rfl 24 _ (0, 0) _ (L0.blk _ m1) Try.underlying24 rfl (HS.out _) ?_))
  refine (csq _).mono ?_
  rintro e w1 ⟨rfl, hq⟩
  have h1 := L0.below hq
  clear L0 hq csq
  go_wp2_with (first
    | (refine wpList_store_row rfl 24 _ _ rfl w1.heap.size (r64 4 (F4 (sqV v))) rfl rfl 24 (r64 4 zF) ((Blk.new w1 _ _).cast_ zero4') (HS.out _) (by simp only [row_size]) (row_one fun _ => rfl) ?_; refine wpList_gen (KF w.heap.size w ((w1.heap.size, F4 (sqV v)) :: [(w.heap.size, F4 u), (w.heap.size + 1, F4 v), (w.heap.size + 2, zF)])) (h1.new _ _) (fun w2 h2 => ?_))
    | (refine wpList_load_row rfl 24 _ rfl (w1.heap.size) rfl 24 _ (0, 0) _ (h2.blk _ m0) Try.underlying24 rfl (HS.out _) ?_)
    | (refine wpList_load_row rfl 24 _ rfl (w.heap.size + 1) rfl 24 _ (0, 0) _ (h2.blk _ m2) Try.underlying24 rfl (HS.out _) ?_))
  refine (ccu _).mono ?_
  rintro e w3 ⟨rfl, hq⟩
  have h3 := h2.below hq
  clear h1 h2 hq ccu
  generalize w1.heap.size = g5 at h3 ⊢
  go_wp2_with (first
    | (refine wpList_store_row rfl 24 _ _ rfl w3.heap.size (r64 4 (F4 (cuV v))) rfl rfl 24 (r64 4 zF) ((Blk.new w3 _ _).cast_ zero4') (HS.out _) (by simp only [row_size]) (row_one fun _ => rfl) ?_; refine wpList_gen (KF w.heap.size w ((w3.heap.size, F4 (cuV v)) :: (g5, F4 (sqV v)) :: [(w.heap.size, F4 u), (w.heap.size + 1, F4 v), (w.heap.size + 2, zF)])) (h3.new _ _) (fun w4 h4 => ?_)))
  have l6 : w.heap.size + 2 < w3.heap.size := h3.lt _ m3
  clear h3
  generalize w3.heap.size = g6 at h4 l6 ⊢
  refine wp_region_anyA (TwoA 6 5 (KQ w.heap.size w [(g6, F4 (cuV v)), (g5, F4 (sqV v)), (w.heap.size, F4 u), (w.heap.size + 1, F4 v), (w.heap.size + 2, zF)] (seV v))) 5 (by kernel_rfl) (KQ.begin h4.drew _) ?_
  refine anyA_take (i := 0) (v := .agg (r64 4 (F4 (sqV v)))) rfl (by decide) (by kernel_rfl) (by kernel_rfl) (by kernel_rfl) (fun q => ya_other (by decide) (by decide) rfl (fun f1 f2 wx hT => ?_)) ?_
  · exact lands_fe _ rfl _ rfl _ (hT.k.blk _ m1) hT
  simp only [Act.put, List.setIfInBounds_toArray, List.set_cons_zero, List.set_cons_succ]
  refine anyA_take (i := 1) (v := .agg (r64 4 (F4 (sqV v)))) rfl (by decide) (by kernel_rfl) (by kernel_rfl) (by kernel_rfl) (fun q => ya_other (by decide) (by decide) rfl (fun f1 f2 wx hT => ?_)) ?_
  · exact lands_fe _ rfl _ rfl _ (hT.k.blk _ m1) hT
  simp only [Act.put, List.setIfInBounds_toArray, List.set_cons_zero, List.set_cons_succ]
  refine anyA_take (i := 2) (v := .agg (r64 4 (F4 (sqV v * sqV v % pP)))) rfl (by decide) (by kernel_rfl) (by kernel_rfl) (by kernel_rfl) (fun q => ya_other (by decide) (by decide) rfl (fun f1 f2 wx hT => ?_)) ?_
  · exact lands_calls (w := wx) ((css wx).mono fun _ _ ⟨he, hb⟩ => ⟨he, hT.below hb⟩) (by go_simp)
  simp only [Act.put, List.setIfInBounds_toArray, List.set_cons_zero, List.set_cons_succ]
  refine anyA_take (i := 3) (v := .agg (r64 4 (F4 (cuV v)))) rfl (by decide) (by kernel_rfl) (by kernel_rfl) (by kernel_rfl) (fun q => ya_other (by decide) (by decide) rfl (fun f1 f2 wx hT => ?_)) ?_
  · exact lands_fe _ rfl _ rfl _ (hT.k.blk _ m0) hT
  simp only [Act.put, List.setIfInBounds_toArray, List.set_cons_zero, List.set_cons_succ]
  refine anyA_take (i := 4) (v := .agg (r64 4 (F4 (seV v)))) rfl (by decide) (by kernel_rfl) (by kernel_rfl) (by kernel_rfl) (fun q => ya_other (by decide) (by decide) rfl (fun f1 f2 wx hT => ?_)) ?_
  · exact lands_calls (w := wx) ((cse wx).mono fun _ _ ⟨he, hb⟩ => ⟨he, hT.below hb⟩) (by go_simp)
  simp only [Act.put, List.setIfInBounds_toArray, List.set_cons_zero, List.set_cons_succ]
  refine anyA_made rfl (by kernel_rfl) (by kernel_rfl) (by kernel_rfl) (fun q => ya_made (n := 4) (by decide) (by kernel_rfl) rfl (fun q' wx hT => ?_)) ?_
  · exact ⟨_, _, (by go_simp <;> rfl), hT.made⟩
  simp only [Act.put, List.setIfInBounds_toArray, List.set_cons_zero, List.set_cons_succ]
  refine anyA_take (i := 6) (v := undef) rfl (by decide) (by kernel_rfl) (by kernel_rfl) (by kernel_rfl) (fun q => ya_store (by decide) (by kernel_rfl) rfl (fun wx hT => ?_)) ?_
  · exact hT.stored _ _ rfl rfl rfl
  simp only [Act.put]
  refine anyA_done (by kernel_rfl) (fun q w5 (K : KQ _ _ _ _ true true q w5) => ?_) _
  obtain ⟨g7, rfl, h5, hl7, hB7⟩ := K.out
  clear K h4 css cse
  go_wp2_with (first
    | (refine wpList_load_row rfl 24 _ rfl w.heap.size rfl 24 _ (0, 0) _ (h5.blk _ m3) Try.underlying24 rfl (HS.out _) ?_)
    | (refine wpList_load_row rfl 24 _ rfl g7 rfl 24 _ (0, 0) _ (h5.blk _ m0) Try.underlying24 rfl (HS.out _) ?_))
  refine (cus _).mono ?_
  rintro e w6 ⟨rfl, hq⟩
  have h6 := h5.below hq
  clear h5 hq cus
  go_wp2_with fail
  rw [HI.out]
  refine (cpw _).mono ?_
  rintro e w7 ⟨rfl, hq⟩
  have h7 := h6.below hq
  clear h6 hq cpw hb
  go_wp2_with (first
    | (refine wpList_store_row rfl 24 _ _ rfl w7.heap.size (r64 4 (F4 (pwV u v))) rfl rfl 24 (r64 4 zF) ((Blk.new w7 _ _).cast_ zero4') (HS.out _) (by simp only [row_size]) (row_one fun _ => rfl) ?_; refine wpList_gen (KF w.heap.size w ((w7.heap.size, F4 (pwV u v)) :: [(g7, F4 (seV v)), (g6, F4 (cuV v)), (g5, F4 (sqV v)), (w.heap.size, F4 u), (w.heap.size + 1, F4 v), (w.heap.size + 2, zF)])) (h7.new _ _) (fun w8 h8 => ?_)))
  have l8 : w.heap.size + 2 < w7.heap.size := h7.lt _ m5
  clear hl7 hB7
  clear h7
  generalize w7.heap.size = g8 at h8 l8 ⊢
  have h9 : KF w.heap.size w [(g8, F4 (pwV u v)), (g6, F4 (cuV v)), (w.heap.size, F4 u), (w.heap.size + 2, onceF false (nearV u v))] w8 := h8.sub (fun x hx => by
    simp only [List.mem_cons, List.not_mem_nil, or_false] at hx ⊢
    rcases hx with rfl | rfl | rfl | rfl
    · exact .inl rfl
    · exact .inr (.inr (.inl rfl))
    · exact .inr (.inr (.inr (.inr (.inl rfl))))
    · exact .inr (.inr (.inr (.inr (.inr (.inr rfl))))))
  clear h8
  have hput : ∀ x ∈ [(g8, F4 (pwV u v)), (g6, F4 (cuV v)), (w.heap.size, F4 u), (w.heap.size + 2, onceF true (nearV u v))], x = (w.heap.size + 2, F4 (nearV u v)) ∨ (x ∈ [(g8, F4 (pwV u v)), (g6, F4 (cuV v)), (w.heap.size, F4 u), (w.heap.size + 2, onceF false (nearV u v))] ∧ x.1 ≠ w.heap.size + 2) := by
    intro x hx
    simp only [List.mem_cons, List.not_mem_nil, or_false] at hx
    rcases hx with rfl | rfl | rfl | rfl
    · exact .inr ⟨m0, by show g8 ≠ _; omega⟩
    · exact .inr ⟨m1, by show g6 ≠ _; omega⟩
    · exact .inr ⟨m2, by show w.heap.size ≠ _; omega⟩
    · exact .inl rfl
  have HP := Lib.hid hput
  clear hput
  simp only [Act.put]
  refine wp_region_anyL (Two 5 1000 fun f1 _ wx => KF w.heap.size w [(g8, F4 (pwV u v)), (g6, F4 (cuV v)), (w.heap.size, F4 u), (w.heap.size + 2, onceF f1 (nearV u v))] wx) (by kernel_rfl) h9.drew ?_
  refine anyL_take (i := 0) (v := .agg (r64 4 (F4 u))) rfl (by kernel_rfl) (by kernel_rfl) (by kernel_rfl) (yl_other (by decide) (by decide) rfl (fun f1 f2 wx hT => ?_)) ?_
  · exact lands_fe _ rfl _ rfl _ (hT.blk _ m2) hT
  simp only [Act.put, List.setIfInBounds_toArray, List.set_cons_zero, List.set_cons_succ]
  refine anyL_take (i := 1) (v := .agg (r64 4 (F4 (cuV v)))) rfl (by kernel_rfl) (by kernel_rfl) (by kernel_rfl) (yl_other (by decide) (by decide) rfl (fun f1 f2 wx hT => ?_)) ?_
  · exact lands_fe _ rfl _ rfl _ (hT.blk _ m1) hT
  simp only [Act.put, List.setIfInBounds_toArray, List.set_cons_zero, List.set_cons_succ]
  refine anyL_take (i := 2) (v := .agg (r64 4 (F4 (u * cuV v % pP)))) rfl (by kernel_rfl) (by kernel_rfl) (by kernel_rfl) (yl_other (by decide) (by decide) rfl (fun f1 f2 wx hT => ?_)) ?_
  · exact lands_calls (w := wx) ((cuc wx).mono fun _ _ ⟨he, hb⟩ => ⟨he, hT.below hb⟩) (by go_simp)
  simp only [Act.put, List.setIfInBounds_toArray, List.set_cons_zero, List.set_cons_succ]
  refine anyL_take (i := 3) (v := .agg (r64 4 (F4 (pwV u v)))) rfl (by kernel_rfl) (by kernel_rfl) (by kernel_rfl) (yl_other (by decide) (by decide) rfl (fun f1 f2 wx hT => ?_)) ?_
  · exact lands_fe _ rfl _ rfl _ (hT.blk _ m0) hT
  simp only [Act.put, List.setIfInBounds_toArray, List.set_cons_zero, List.set_cons_succ]
  refine anyL_take (i := 4) (v := .agg (r64 4 (F4 (nearV u v)))) rfl (by kernel_rfl) (by kernel_rfl) (by kernel_rfl) (yl_other (by decide) (by decide) rfl (fun f1 f2 wx hT => ?_)) ?_
  · exact lands_calls (w := wx) ((cre wx).mono fun _ _ ⟨he, hb⟩ => ⟨he, hT.below hb⟩) (by go_simp)
  simp only [Act.put, List.setIfInBounds_toArray, List.set_cons_zero, List.set_cons_succ]
  refine anyL_take (i := 5) (v := undef) rfl (by kernel_rfl) (by kernel_rfl) (by kernel_rfl) (yl_first (by decide) rfl (fun f2 wx hT => ?_)) ?_
  · exact stores_fe _ _ rfl (w.heap.size + 2) _ _ rfl rfl (hT.blk _ m3) (hT.put (hT.blk _ m3) (by omega) _ _ HP.out)
  simp only [Act.put]
  refine anyL_done (by kernel_rfl) (fun w9 (K : KF w.heap.size w [(g8, F4 (pwV u v)), (g6, F4 (cuV v)), (w.heap.size, F4 u), (w.heap.size + 2, onceF true (nearV u v))] w9) => ?_) _
  go_wp2_with fail
  exact bodyPost_ret (results_cell_row rfl _ _ (w.heap.size + 2) 24 (r64 4 (F4 (nearV u v))) (0, 0) _ rfl (K.blk _ m3) Try.underlying24 rfl (HS.out _)) rfl ⟨rfl, K.b⟩
end Go.Proofs.Ytjggclhhimccoaa
