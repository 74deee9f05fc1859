/- The document's answer to chapter 3: Add, the walk. -/
import Derived.Test.YtjggclhhimccoaaFg
namespace Go.Proofs.Ytjggclhhimccoaa
open Go.RowKit
/-- Within Add: the digits of both at blocks xb, yb, the sum's at ob. -/
structure AW (x y m xb yb ob : Nat) (w wr : World) : Prop where
  dx : Blk wr xb 47 (r32 8 (N8 x))
  dy : Blk wr yb 47 (r32 8 (N8 y))
  o : Blk wr ob 47 (r32 8 (dF (x + y) m))
  r : Blk wr (w.heap.size + 2) 24 (r64 4 fun _ => litw 64 0)
  l : Below w.heap.size w wr
  lt : w.heap.size + 2 < xb ∧ xb < yb ∧ yb < ob
theorem AW.drewN {x y m xb yb ob : Nat} {w wr : World} (h : AW x y m xb yb ob w wr) (n : Nat) : AW x y m xb yb ob w (wr.drewN n) := ⟨h.dx, h.dy, h.o, h.r, below_draws h.l n, h.lt⟩
theorem AW.put {x y m xb yb ob : Nat} {w wr : World} (h : AW x y m xb yb ob w wr) (hm : m < 8) (v : BitVec 32) (hv : v = N8 (x + y) m) : AW x y (m + 1) xb yb ob w (wr.setCell ⟨ob, m, none⟩ (.int .u32 (iw v))) := by
  subst hv
  have hlt := h.lt
  exact ⟨h.dx.far (by simp; omega) _, h.dy.far (by simp; omega) _, (h.o.put hm _).cast_ (row_ext fun i _ => dF_put (x + y) m i), h.r.far (by simp; omega) _, h.l.setCell (by simp; omega) _, hlt⟩
structure A2 (a b : Nat) (w wr : World) : Prop where
  da : Blk wr w.heap.size 24 (r64 4 (F4 a))
  db : Blk wr (w.heap.size + 1) 24 (r64 4 (F4 b))
  r : Blk wr (w.heap.size + 2) 24 (r64 4 fun _ => litw 64 0)
  l : Below w.heap.size w wr
theorem A2.below {a b : Nat} {w wr w' : World} (h : A2 a b w wr) (hb : Below wr.heap.size wr w') : A2 a b w w' := ⟨h.da.below hb h.da.lt, h.db.below hb h.db.lt, h.r.below hb h.r.lt, h.l.trans (hb.mono h.l.size)⟩
set_option maxRecDepth 100000 in
set_option maxHeartbeats 1000000 in
theorem add_any (a b : Nat) (w : World) (ha : a < M256) (hb : b < M256) :
    Calls Try.prog 13 #[.agg (r64 4 (F4 a)), .agg (r64 4 (F4 b))] w fun e w' => e = .returned (.agg (r64 4 (F4 ((a + b) % pP)))) ∧ Below w.heap.size w w' := by
  have hs8 : ∀ f : Nat → BitVec 32, (Try.prog.info? 47).map (·.size) = some (r32 8 f).size := fun f => by rw [row_size]; kernel_rfl
  have hs4 : ∀ f : Nat → BitVec 64, (Try.prog.info? 24).map (·.size) = some (r64 4 f).size := fun f => by rw [row_size]; kernel_rfl
  have HS8 := Lib.hid hs8
  have HS4 := Lib.hid hs4
  clear hs8 hs4
  have hal : Try.prog.arrayLen 47 = 8 := by kernel_rfl
  go_enter Try.func13, Try.ntmps13
  go_wp2_with (refine wpList_gen (A2 a b w) ⟨((Blk.new w _ _).alloc _).alloc _, ((Blk.new (w.alloc _) _ _).cast' ⟨by simp, rfl⟩).alloc _, (Blk.new _ _ _).cast' ⟨by simp, zero4⟩, (((Below.refl _ _).alloc (Nat.le_refl _) _).alloc (by simp) _).alloc (by simp; omega) _⟩ (fun w1 h1 => ?_); refine wpList_load_row rfl 24 _ rfl w.heap.size rfl 24 _ (0, 0) _ h1.da Try.underlying24 rfl (HS4.out _) ?_)
  refine (digits_any a w1 ha).mono ?_
  rintro e w2 ⟨rfl, hq⟩
  have h2 := h1.below hq
  clear h1 hq
  generalize hx : a % pP = x
  have HX := Lib.hid hx
  have hx0 : x < pP := by rw [← hx]; exact Nat.mod_lt _ (by decide)
  clear hx
  have hl2 : w.heap.size + 2 < w2.heap.size := h2.r.lt
  go_wp2_with (first
    | (refine wpList_store_row rfl 47 _ _ rfl w2.heap.size (r32 8 (N8 x)) rfl rfl 47 (r32 8 fun _ => litw 32 0) ((Blk.new w2 _ _).cast_ zero8) (HS8.out _) (by rw [row_size, row_size]) (row_one fun _ => rfl) ?_; refine wpList_gen (fun wx => A2 a b w wx ∧ Blk wx w2.heap.size 47 (r32 8 (N8 x))) ⟨⟨(h2.da.alloc _).row_far (by omega) _, (h2.db.alloc _).row_far (by omega) _, (h2.r.alloc _).row_far (by omega) _, below_setRow' (h2.l.alloc h2.l.size _) h2.l.size _⟩, (Blk.new w2 _ _).row_ _⟩ (fun w3 h3 => ?_); obtain ⟨h3, k3⟩ := h3)
    | (refine wpList_load_row rfl 24 _ rfl (w.heap.size + 1) rfl 24 _ (0, 0) _ h3.db Try.underlying24 rfl (HS4.out _) ?_))
  refine (digits_any b w3 hb).mono ?_
  rintro e w4 ⟨rfl, hq⟩
  have h4 := h3.below hq
  have k4 := k3.below hq k3.lt
  clear h3 k3 hq h2
  generalize hy : b % pP = y
  have HY := Lib.hid hy
  have hy0 : y < pP := by rw [← hy]; exact Nat.mod_lt _ (by decide)
  clear hy
  have hl4 : w2.heap.size < w4.heap.size := k4.lt
  generalize w2.heap.size = xb at hl2 k4 hl4 ⊢
  go_wp2_with (refine wpList_store_row rfl 47 _ _ rfl w4.heap.size (r32 8 (N8 y)) rfl rfl 47 (r32 8 fun _ => litw 32 0) ((Blk.new w4 _ _).cast_ zero8) (HS8.out _) (by rw [row_size, row_size]) (row_one fun _ => rfl) ?_; refine wpList_gen (fun wx => A2 a b w wx ∧ Blk wx xb 47 (r32 8 (N8 x)) ∧ Blk wx w4.heap.size 47 (r32 8 (N8 y))) ⟨⟨(h4.da.alloc _).row_far (by omega) _, (h4.db.alloc _).row_far (by omega) _, (h4.r.alloc _).row_far (by omega) _, below_setRow' (h4.l.alloc h4.l.size _) h4.l.size _⟩, (k4.alloc _).row_far (by omega) _, (Blk.new w4 _ _).row_ _⟩ (fun w5 h5 => ?_); obtain ⟨h5, k5, y5⟩ := h5)
  have hl5 : w4.heap.size < w5.heap.size := y5.lt
  clear h4 k4
  generalize w4.heap.size = yb at hl4 y5 hl5 ⊢
  refine wp_gen (fun wx => AW x y 0 xb yb w5.heap.size w wx) ⟨k5.alloc _, y5.alloc _, (Blk.new w5 _ _).cast_ (zero8.trans (row_ext fun i _ => by rw [show dF (x + y) 0 i = litw 32 0 by unfold dF; rw [if_neg (by omega)]])), h5.r.alloc _, h5.l.alloc h5.l.size _, ⟨hl2, hl4, hl5⟩⟩ (fun w6 h6 => ?_)
  clear h5 k5 y5
  generalize w5.heap.size = ob at hl5 h6 ⊢
  go_loopw [8, 9] (fun v i wr => ∃ k : Nat, k ≤ 8 ∧ i = .int .i64 (k : Int) ∧ v = .int .u64 (iw (cy x y k)) ∧ AW x y k xb yb ob w wr) (fun _ i _ => 8 - (intOf i).toNat)
  case atStart => exact ⟨0, by omega, rfl, cy_zero x y, h6⟩
  case round =>
    obtain ⟨k, hk, rfl, rfl, hr⟩ := hrel
    clear h6
    by_cases hlt : k < 8
    · have ca := hr.dx.at_ hlt
      have cb := hr.dy.at_ hlt
      go_wp2_with fail
      go_quiet (fail)
      have h2 := hr.drewN nq
      clear ca cb hr
      refine any_gen (F := fun w => Exit.then _ _ _ _ w) (AW x y k xb yb ob w) h2 (fun w7 h7 => ?_)
      have co := h7.o.at_ hlt
      have fo := h7.o.frozen k
      have HD := sx_digit x y k
      have HB := sx_carry x y k
      unfold sx at HD HB
      have K := h7.put hlt _ HD
      have HB' := Lib.hid HB
      clear h7 HD HB
      go_wp2_with fail
      go_roundw
      case rel => exact ⟨k + 1, by omega, by go_num, by rw [← HB'.out], K⟩
      case measure => simp [intOf]; omega
    · obtain rfl : k = 8 := by omega
      have ho : Blk wr ob 47 (r32 8 (N8 (x + y))) := hr.o.cast_ (row_ext fun i hi => by rw [show dF (x + y) 8 i = N8 (x + y) i by unfold dF; rw [if_pos hi]])
      have hz := hr.r
      have hl := hr.l
      have hxy : x + y < M256 := by unfold pP at hx0 hy0; unfold M256; omega
      have hsum : (x + y) % pP = (a + b) % pP := by rw [← HX.out, ← HY.out, ← Nat.add_mod]
      have HSUM := Lib.hid hsum
      clear hr hsum hx0 hy0
      go_wp2_with (refine wpList_load_row rfl 47 _ rfl ob rfl 47 _ (0, 0) _ ho Try.underlying47 rfl (HS8.out _) ?_)
      refine (below_any (x + y) wr hxy).mono ?_
      rintro e w8 ⟨rfl, hq⟩
      have hz8 := hz.below hq hz.lt
      have hl8 := hl.trans (hq.mono hl.size)
      rw [HSUM.out]
      clear hz hl hq ho
      go_wp2_with fail
      refine (words_any ((a + b) % pP) w8).mono ?_
      rintro e w9 ⟨rfl, hq⟩
      have hz9 := hz8.below hq hz8.lt
      have hl9 := hl8.trans (hq.mono hl8.size)
      clear hz8 hl8 hq
      go_wp2_with (refine wpList_store_row rfl 24 _ _ rfl (w.heap.size + 2) (r64 4 (F4 ((a + b) % pP))) rfl rfl 24 _ hz9 (HS4.out _) (by rw [row_size, row_size]) (row_one fun _ => rfl) ?_)
      simp only [Act.put]
      exact bodyPost_ret (results_cell_row rfl _ _ (w.heap.size + 2) 24 (r64 4 (F4 ((a + b) % pP))) (0, 0) _ rfl (hz9.row_ _) Try.underlying24 rfl (HS4.out _)) rfl ⟨rfl, below_setRow' hl9 (by omega) _⟩
end Go.Proofs.Ytjggclhhimccoaa
