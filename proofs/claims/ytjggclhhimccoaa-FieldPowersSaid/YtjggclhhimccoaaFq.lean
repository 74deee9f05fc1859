/- The document's answer to chapter 3: Mul, the walk. -/
import Derived.Test.YtjggclhhimccoaaFh
import Derived.Test.YtjggclhhimccoaaFl
import Derived.Test.YtjggclhhimccoaaFp
namespace Go.Proofs.Ytjggclhhimccoaa
open Go.RowKit
/-- What the words are when x's first i digits, and of the next one k of y's, are in. -/
def qI (x y i : Nat) : Nat := x % 2 ^ (32 * i) * y
def xI (x i : Nat) : Nat := x / 2 ^ (32 * i) % 4294967296
def uF (x y i m j : Nat) : BitVec 64 := if j < m then D64 (qI x y (i + 1)) j else D64 (qI x y i) j
theorem qI_next (x y i : Nat) : qI x y (i + 1) = qI x y i + xI x i * y * 2 ^ (32 * i) := by
  unfold qI xI
  rw [mod_split, Nat.add_mul]
  congr 1
  rw [Nat.mul_comm (2 ^ (32 * i)), Nat.mul_assoc, Nat.mul_comm (2 ^ (32 * i)), ← Nat.mul_assoc]
theorem qI_lt (x y i : Nat) (hy : y < M256) : qI x y i < 2 ^ (32 * (i + 8)) := by
  unfold qI
  have h := Nat.mod_lt x (show 0 < 2 ^ (32 * i) from Nat.pow_pos (by decide))
  rw [Nat.mul_add, Nat.pow_add]
  exact Nat.mul_lt_mul'' h hy
theorem D64_nat (q j : Nat) : (D64 q j).toNat = q / 2 ^ (32 * j) % 4294967296 := by
  unfold D64; rw [BitVec.toNat_ofNat]; omega
/-- The last word of a row is what is carried. -/
theorem last_word (x y i : Nat) (hy : y < M256) : mw (qI x y i) (xI x i) y i 8 = D64 (qI x y (i + 1)) (i + 8) := by
  have hX : xI x i < 4294967296 := Nat.mod_lt _ (by decide)
  have h0 := mc_lt (qI x y i) (xI x i) y i 8 hX
  apply BitVec.eq_of_toNat_eq
  unfold mw
  rw [BitVec.toNat_ofNat, D64_nat, Nat.mod_eq_of_lt (Nat.lt_trans h0 (by decide)), qI_next]
  have e : mc (qI x y i) (xI x i) y i 8 = (qI x y i + xI x i * y * 2 ^ (32 * i)) / 2 ^ (32 * (i + 8)) := by
    unfold mc
    rw [Nat.mod_eq_of_lt (qI_lt x y i hy), show y % 2 ^ (32 * 8) = y from Nat.mod_eq_of_lt hy]
  rw [← e]
  exact (Nat.mod_eq_of_lt h0).symm
theorem word_zero (q j : Nat) (h : q < 2 ^ (32 * j)) : D64 q j = litw 64 0 := by
  unfold D64; rw [Nat.div_eq_of_lt h]; rfl
theorem uF_done (x y i : Nat) (hy : y < M256) (j : Nat) : (if j = i + 8 then D64 (qI x y (i + 1)) (i + 8) else uF x y i (i + 8) j) = D64 (qI x y (i + 1)) j := by
  by_cases h1 : j = i + 8
  · rw [if_pos h1, h1]
  · rw [if_neg h1]; unfold uF
    by_cases h2 : j < i + 8
    · rw [if_pos h2]
    · rw [if_neg h2, word_zero _ j (Nat.lt_of_lt_of_le (qI_lt x y i hy) (Nat.pow_le_pow_right (by decide) (by omega))), word_zero _ j (Nat.lt_of_lt_of_le (qI_lt x y (i + 1) hy) (Nat.pow_le_pow_right (by decide) (by omega)))]
theorem uF_none (x y i j : Nat) : uF x y i i j = D64 (qI x y i) j := by
  unfold uF
  by_cases h : j < i
  · rw [if_pos h]
    apply BitVec.eq_of_toNat_eq
    rw [D64_nat, D64_nat, qI_next]
    obtain ⟨d, rfl⟩ : ∃ d, i = j + 1 + d := ⟨i - (j + 1), by omega⟩
    have e : (2 : Nat) ^ (32 * (j + 1 + d)) = 2 ^ (32 * j) * (4294967296 * 2 ^ (32 * d)) := by
      rw [show (4294967296 : Nat) = 2 ^ 32 by rfl, ← Nat.pow_add, ← Nat.pow_add]; congr 1; omega
    rw [e, Nat.mul_left_comm, Nat.add_mul_div_left _ _ (Nat.pow_pos (by decide)), Nat.mul_left_comm, Nat.add_mul_mod_self_left]
  · rw [if_neg h]
structure UW (x y : Nat) (f : Nat → BitVec 64) (gx gy gl : Nat) (w wr : World) : Prop where
  dx : Blk wr gx 47 (r32 8 (N8 x))
  dy : Blk wr gy 47 (r32 8 (N8 y))
  l : Blk wr gl 22 (r64 16 f)
  r : Blk wr (w.heap.size + 2) 24 (r64 4 fun _ => litw 64 0)
  b : Below w.heap.size w wr
  lt : w.heap.size + 2 < gx ∧ gx < gy ∧ gy < gl
theorem UW.drewN {x y : Nat} {f : Nat → BitVec 64} {gx gy gl : Nat} {w wr : World} (h : UW x y f gx gy gl w wr) (n : Nat) : UW x y f gx gy gl w (wr.drewN n) := ⟨h.dx, h.dy, h.l, h.r, below_draws h.b n, h.lt⟩
theorem UW.put {x y : Nat} {f f' : Nat → BitVec 64} {gx gy gl : Nat} {w wr : World} (h : UW x y f gx gy gl w wr) {j : Nat} (hj : j < 16) (v : BitVec 64) (e : ∀ i, (if i = j then v else f i) = f' i) : UW x y f' gx gy gl w (wr.setCell ⟨gl, j, none⟩ (.int .u64 (iw v))) := by
  have hlt := h.lt
  refine ⟨h.dx.far (by simp; omega) _, h.dy.far (by simp; omega) _, (h.l.put hj _).cast_ (row_ext fun i _ => ?_), h.r.far (by simp; omega) _, h.b.setCell (by simp; omega) _, hlt⟩
  rw [← e i]
  by_cases h1 : i = j <;> simp [h1]
set_option maxRecDepth 100000 in
set_option maxHeartbeats 4000000 in
theorem mul_any (a b : Nat) (w : World) (ha : a < M256) (hb : b < M256) :
    Calls Try.prog 17 #[.agg (r64 4 (F4 a)), .agg (r64 4 (F4 b))] w fun e w' => e = .returned (.agg (r64 4 (F4 (a * b % pP)))) ∧ Below w.heap.size w w' := by
  have hs8 : ∀ f : Nat → BitVec 32, (Try.prog.info? 47).map (·.size) = some (r32 8 f).size := fun f => by rw [row_size]; kernel_rfl
  have hs4 : ∀ f : Nat → BitVec 64, (Try.prog.info? 24).map (·.size) = some (r64 4 f).size := fun f => by rw [row_size]; kernel_rfl
  have HS8 := Lib.hid hs8
  have HS4 := Lib.hid hs4
  clear hs8 hs4
  have hal : Try.prog.arrayLen 47 = 8 := by kernel_rfl
  have hmk : ∀ w, (Instr.makeSlice 54 (.int .i64 16) (.int .i64 16)).run Try.prog w = .ok (.slice (some ⟨w.heap.size, 0, none⟩) 16 16) (w.alloc (.cells (r64 16 (D64 0)) 22)) := fun w => by kernel_rfl
  go_enter Try.func17, Try.ntmps17
  go_wp2_with (refine wpList_gen (A2 a b w) ⟨((Blk.new w _ _).alloc _).alloc _, ((Blk.new (w.alloc _) _ _).cast' ⟨by simp, rfl⟩).alloc _, (Blk.new _ _ _).cast' ⟨by simp, zero4⟩, (((Below.refl _ _).alloc (Nat.le_refl _) _).alloc (by simp) _).alloc (by simp; omega) _⟩ (fun w1 h1 => ?_); refine wpList_load_row rfl 24 _ rfl w.heap.size rfl 24 _ (0, 0) _ h1.da Try.underlying24 rfl (HS4.out _) ?_)
  refine (digits_any a w1 ha).mono ?_
  rintro e w2 ⟨rfl, hq⟩
  have h2 := h1.below hq
  clear h1 hq
  generalize hx : a % pP = x
  have HX := Lib.hid hx
  have hx0 : x < pP := by rw [← hx]; exact Nat.mod_lt _ (by decide)
  clear hx
  have hl2 : w.heap.size + 2 < w2.heap.size := h2.r.lt
  go_wp2_with (first
    | (refine wpList_store_row rfl 47 _ _ rfl w2.heap.size (r32 8 (N8 x)) rfl rfl 47 (r32 8 fun _ => litw 32 0) ((Blk.new w2 _ _).cast_ zero8) (HS8.out _) (by rw [row_size, row_size]) (row_one fun _ => rfl) ?_; refine wpList_gen (fun wx => A2 a b w wx ∧ Blk wx w2.heap.size 47 (r32 8 (N8 x))) ⟨⟨(h2.da.alloc _).row_far (by omega) _, (h2.db.alloc _).row_far (by omega) _, (h2.r.alloc _).row_far (by omega) _, below_setRow' (h2.l.alloc h2.l.size _) h2.l.size _⟩, (Blk.new w2 _ _).row_ _⟩ (fun w3 h3 => ?_); obtain ⟨h3, k3⟩ := h3)
    | (refine wpList_load_row rfl 24 _ rfl (w.heap.size + 1) rfl 24 _ (0, 0) _ h3.db Try.underlying24 rfl (HS4.out _) ?_))
  refine (digits_any b w3 hb).mono ?_
  rintro e w4 ⟨rfl, hq⟩
  have h4 := h3.below hq
  have k4 := k3.below hq k3.lt
  clear h3 k3 hq h2
  generalize hy : b % pP = y
  have HY := Lib.hid hy
  have hy0 : y < pP := by rw [← hy]; exact Nat.mod_lt _ (by decide)
  clear hy
  have hl4 : w2.heap.size < w4.heap.size := k4.lt
  generalize w2.heap.size = xb at hl2 k4 hl4 ⊢
  go_wp2_with (refine wpList_store_row rfl 47 _ _ rfl w4.heap.size (r32 8 (N8 y)) rfl rfl 47 (r32 8 fun _ => litw 32 0) ((Blk.new w4 _ _).cast_ zero8) (HS8.out _) (by rw [row_size, row_size]) (row_one fun _ => rfl) ?_; refine wpList_gen (fun wx => A2 a b w wx ∧ Blk wx xb 47 (r32 8 (N8 x)) ∧ Blk wx w4.heap.size 47 (r32 8 (N8 y))) ⟨⟨(h4.da.alloc _).row_far (by omega) _, (h4.db.alloc _).row_far (by omega) _, (h4.r.alloc _).row_far (by omega) _, below_setRow' (h4.l.alloc h4.l.size _) h4.l.size _⟩, (k4.alloc _).row_far (by omega) _, (Blk.new w4 _ _).row_ _⟩ (fun w5 h5 => ?_); obtain ⟨h5, k5, y5⟩ := h5)
  have hl5 : w4.heap.size < w5.heap.size := y5.lt
  clear h4 k4
  generalize w4.heap.size = yb at hl4 y5 hl5 ⊢
  refine wp_gen (UW x y (fun j => D64 (qI x y 0) j) xb yb w5.heap.size w) ⟨k5.alloc _, y5.alloc _, (Blk.new w5 _ _).cast_ (row_ext fun i _ => by show _ = Value.int .u64 (iw (D64 (qI x y 0) i)); unfold qI; rw [Nat.mul_zero, Nat.pow_zero, Nat.mod_one, Nat.zero_mul]), h5.r.alloc _, h5.l.alloc h5.l.size _, ⟨hl2, hl4, hl5⟩⟩ (fun w6 h6 => ?_)
  clear h5 k5 y5 hmk
  generalize w5.heap.size = gl at hl5 h6 ⊢
  have hyM : y < M256 := Nat.lt_trans hy0 (by decide)
  have hxM : x < M256 := Nat.lt_trans hx0 (by decide)
  go_loopw [8] (fun i wr => ∃ m : Nat, m ≤ 8 ∧ i = .int .i64 (m : Int) ∧ UW x y (fun j => D64 (qI x y m) j) xb yb gl w wr) (fun i _ => 8 - (intOf i).toNat)
  case atStart => exact ⟨0, by omega, rfl, h6⟩
  case round =>
    obtain ⟨m, hm, rfl, hr⟩ := hrel
    clear h6
    by_cases hmlt : m < 8
    · go_wp2_with fail
      obtain ⟨wo, rfl⟩ : ∃ wo : World, wo = wr := ⟨_, rfl⟩
      go_loopw [9, 10] (fun v i wr => ∃ k : Nat, k ≤ 8 ∧ i = .int .i64 (k : Int) ∧ v = .int .u64 (iw (mw (qI x y m) (xI x m) y m k)) ∧ UW x y (uF x y m (m + k)) xb yb gl w wr) (fun _ i _ => 8 - (intOf i).toNat)
      case atStart => exact ⟨0, by omega, rfl, mw_zero _ _ _ _, ⟨hr.dx, hr.dy, hr.l.cast_ (row_ext fun j _ => by rw [Nat.add_zero, uF_none]), hr.r, hr.b, hr.lt⟩⟩
      case round =>
        obtain ⟨k, hk, rfl, rfl, hr2⟩ := hrel
        clear hr
        by_cases hlt : k < 8
        · obtain ⟨d, hd⟩ : ∃ d, d = m + k := ⟨_, rfl⟩
          have cx := hr2.dx.at_ hmlt
          have cyy := hr2.dy.at_ hlt
          rw [← hd] at hr2
          have cl : wr.cell? ⟨gl, d, none⟩ = some (.int .u64 (iw (D64 (qI x y m) d))) := by
            have := hr2.l.at_ (i := d) (by omega)
            rw [show uF x y m d d = D64 (qI x y m) d by unfold uF; rw [if_neg (by omega)]] at this
            exact this
          have e8 : IntKind.i64.wrap ((m : Int) + (k : Int)) = (d : Int) := by rw [IntWalk.i64_in _ (by omega)]; omega
          have e9 : IntKind.i64.wrap (d : Int) = (d : Int) := IntWalk.i64_in _ (by omega)
          have e10 : (m : Int) + (k : Int) = (d : Int) := by omega
          have hk16 : (d : Int) < 16 := by omega
          have HD : Hid (andw (ms (qI x y m) x y m k) (litw 64 4294967295) = D64 (qI x y (m + 1)) d) := Lib.hid (by rw [ms_digit, qI_next, hd]; rfl)
          have HB : Hid (shrw (ms (qI x y m) x y m k) 32 = mw (qI x y m) (xI x m) y m (k + 1)) := Lib.hid (ms_carry (qI x y m) x y m k)
          have HM : Hid (addw (addw (D64 (qI x y m) d) (mulw (castw 64 (N8 x m)) (castw 64 (N8 y k)))) (mw (qI x y m) (xI x m) y m k) = ms (qI x y m) x y m k) := Lib.hid (by rw [hd]; rfl)
          have HU : Hid (∀ i, (if i = d then D64 (qI x y (m + 1)) d else uF x y m d i) = uF x y m (m + (k + 1)) i) := Lib.hid (fun i => by
            unfold uF
            by_cases h1 : i = d
            · subst h1; rw [if_pos rfl, if_pos (by omega)]
            · rw [if_neg h1]
              by_cases h2 : i < d
              · rw [if_pos h2, if_pos (by omega)]
              · rw [if_neg h2, if_neg (by omega)])
          clear hd
          go_wp2_with fail
          go_quiet (fail)
          have h3 := hr2.drewN nq
          clear cx cyy cl hr2
          refine any_gen (F := fun w => Exit.then _ _ _ _ w) (UW x y (uF x y m d) xb yb gl w) h3 (fun w7 h7 => ?_)
          have co := h7.l.at_ (i := d) (by omega)
          have fo := h7.l.frozen d
          have K := h7.put (j := d) (by omega) (andw (ms (qI x y m) x y m k) (litw 64 4294967295)) (f' := uF x y m (m + (k + 1))) (fun i => by rw [HD.out]; exact HU.out i)
          clear h7 h3 HD HU
          have hand : ∀ x : BitVec 64, bits .and .u64 (iw x) 4294967295 = iw (andw x (litw 64 4294967295)) := fun x => and64_lit x _
          rw [HM.out]
          generalize ms (qI x y m) x y m k = z at K HB ⊢
          clear HM
          go_wp2_with fail
          go_roundw
          case rel => exact ⟨k + 1, by omega, by go_num, by rw [← HB.out], K⟩
          case measure => simp [intOf]; omega
        · obtain rfl : k = 8 := by omega
          obtain ⟨d, hd⟩ : ∃ d, d = m + 8 := ⟨_, rfl⟩
          have HL : Hid (mw (qI x y m) (xI x m) y m 8 = D64 (qI x y (m + 1)) d) := Lib.hid (by rw [hd]; exact last_word x y m hyM)
          have e8 : IntKind.i64.wrap ((m : Int) + 8) = (d : Int) := by rw [IntWalk.i64_in _ (by omega)]; omega
          have hk16 : (d : Int) < 16 := by omega
          rw [← hd] at hr2
          have co := hr2.l.at_ (i := d) (by omega)
          have fo := hr2.l.frozen d
          have K := hr2.put (j := d) (by omega) (mw (qI x y m) (xI x m) y m 8) (f' := fun j => D64 (qI x y (m + 1)) j) (fun i => by rw [HL.out, hd]; exact uF_done x y m hyM i)
          clear hr2 hd HL
          go_wp2_with fail
          go_roundw
          case rel => exact ⟨m + 1, by omega, by go_num, K⟩
          case measure => simp [intOf]; omega
    · obtain rfl : m = 8 := by omega
      have hc : x * y < M256 * M256 := Nat.mul_lt_mul'' hxM hyM
      have hL : Blk wr gl 22 (r64 16 (D64 (x * y))) := hr.l.cast_ (row_ext fun j _ => by
        show Value.int .u64 (iw (D64 (qI x y 8) j)) = _
        unfold qI; rw [show x % 2 ^ (32 * 8) = x from Nat.mod_eq_of_lt hxM])
      have hz := hr.r
      have hl := hr.b
      have hres : x * y % pP = a * b % pP := by rw [← HX.out, ← HY.out, ← Nat.mul_mod]
      have HR := Lib.hid hres
      clear hr hres hx0 hy0 hyM hxM hmlt hm
      go_wp2_with fail
      refine (fold_any (x * y) gl _ wr hc hL).mono ?_
      rintro e w8 ⟨rfl, hq⟩
      have hz8 := hz.below hq hz.lt
      have hl8 := hl.trans (hq.mono hl.size)
      rw [HR.out]
      clear hz hl hq hL
      go_wp2_with fail
      refine (words_any (a * b % pP) w8).mono ?_
      rintro e w9 ⟨rfl, hq⟩
      have hz9 := hz8.below hq hz8.lt
      have hl9 := hl8.trans (hq.mono hl8.size)
      clear hz8 hl8 hq
      go_wp2_with (refine wpList_store_row rfl 24 _ _ rfl (w.heap.size + 2) (r64 4 (F4 (a * b % pP))) rfl rfl 24 _ hz9 (HS4.out _) (by rw [row_size, row_size]) (row_one fun _ => rfl) ?_)
      simp only [Act.put]
      exact bodyPost_ret (results_cell_row rfl _ _ (w.heap.size + 2) 24 (r64 4 (F4 (a * b % pP))) (0, 0) _ rfl (hz9.row_ _) Try.underlying24 rfl (HS4.out _)) rfl ⟨rfl, below_setRow' hl9 (by omega) _⟩
end Go.Proofs.Ytjggclhhimccoaa
