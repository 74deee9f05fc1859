/- leastTimes, behind of the layer scalar. -/
import Derived.Test.YtnfcgpoafmmioaaLb
import Derived.Test.YtnfcgpoafmmioaaBl
namespace Go.Proofs.Ytnfcgpoafmmioaa
open Go.RowKit
/-- The least two words of L. -/
def lL : Nat := 27742317777372353535851937790883648493
def lo0 : BitVec 64 := litw 64 6346243789798364141
def lo1 : BitVec 64 := litw 64 1503914060200516822
theorem lo0_nat : lo0.toNat = 6346243789798364141 := by unfold lo0 litw; rfl
theorem lo1_nat : lo1.toNat = 1503914060200516822 := by unfold lo1 litw; rfl
theorem lo0_int : Value.int .u64 6346243789798364141 = .int .u64 (iw lo0) := by kernel_rfl
theorem lo1_int : Value.int .u64 1503914060200516822 = .int .u64 (iw lo1) := by kernel_rfl
theorem least_sum (v : BitVec 64) : v.toNat * lL = v.toNat * lo0.toNat + v.toNat * lo1.toNat * W64 := by
  rw [lo0_nat, lo1_nat, Nat.mul_assoc, ← Nat.mul_add]; rfl
theorem least0 (v : BitVec 64) : nw (v.toNat * lo0.toNat) = F4 (v.toNat * lL) 0 := by
  apply nw_eq
  rw [F4_nat', least_sum]
  generalize v.toNat * lo0.toNat = p
  generalize v.toNat * lo1.toNat = q
  unfold W64; omega
theorem lo_lt (v : BitVec 64) : v.toNat * lo0.toNat / W64 < W64 :=
  Nat.div_lt_of_lt_mul (Nat.mul_lt_mul'' (w_lt v) (w_lt lo0))
theorem hi_lt (v : BitVec 64) : v.toNat * lo1.toNat ≤ (W64 - 1) * (W64 - 1) := Nat.mul_le_mul (by have := w_lt v; omega) (by have := w_lt lo1; omega)
theorem least1 (v : BitVec 64) : nw (v.toNat * lo1.toNat + (nw (v.toNat * lo0.toNat / W64)).toNat) = F4 (v.toNat * lL) 1 := by
  have h := lo_lt v
  apply nw_eq
  rw [F4_nat', least_sum, nw_nat _ h]
  generalize v.toNat * lo0.toNat = p at *
  generalize v.toNat * lo1.toNat = q
  simp only [Nat.reduceMul, Nat.reducePow]
  unfold W64 at *; omega
theorem least2 (v : BitVec 64) : nw ((v.toNat * lo1.toNat + (nw (v.toNat * lo0.toNat / W64)).toNat) / W64) = F4 (v.toNat * lL) 2 := by
  have h := lo_lt v
  apply nw_eq
  rw [F4_nat', least_sum, nw_nat _ h]
  generalize v.toNat * lo0.toNat = p at *
  generalize v.toNat * lo1.toNat = q
  simp only [Nat.reduceMul, Nat.reducePow]
  unfold W64 at *; omega
theorem least3 (v : BitVec 64) : F4 (v.toNat * lL) 3 = litw 64 0 := by
  have h := lo_lt v
  have h2 := hi_lt v
  apply BitVec.eq_of_toNat_eq
  rw [F4_nat', show (litw 64 0).toNat = 0 from rfl, least_sum]
  generalize v.toNat * lo0.toNat = p at *
  generalize v.toNat * lo1.toNat = q at *
  simp only [Nat.reduceMul, Nat.reducePow]
  unfold W64 at *; omega
theorem least_row (v : BitVec 64) : #[Value.int .u64 (iw (F4 (v.toNat * lL) 0)), .int .u64 (iw (F4 (v.toNat * lL) 1)), .int .u64 (iw (F4 (v.toNat * lL) 2)), .int .u64 0] = r64 4 (F4 (v.toNat * lL)) := by
  rw [lit0w]; exact row4 _ _ _ _ _ rfl rfl rfl (least3 v).symm
theorem built3 (a b c : BitVec 64) : Try.prog.built 39 [(0, .int .u64 (iw a)), (1, .int .u64 (iw b)), (2, .int .u64 (iw c))] = some #[.int .u64 (iw a), .int .u64 (iw b), .int .u64 (iw c), .int .u64 0] := by kernel_rfl
theorem step_l0 (v : BitVec 64) (w : World) : Calls Try.prog 30 #[.int .u64 (iw v), .int .u64 6346243789798364141, .int .u64 0, .int .u64 0] w fun e w' => e = .returned (.tuple #[.int .u64 (iw (F4 (v.toNat * lL) 0)), .int .u64 (iw (nw (v.toNat * lo0.toNat / W64)))]) ∧ w = w' := by
  have h := qstep_any v lo0 (litw 64 0) (litw 64 0) w
  simp only [show (litw 64 0).toNat = 0 from rfl, Nat.add_zero] at h
  rw [← lit0w, ← lo0_int, least0] at h
  exact h
theorem step_l1 (v : BitVec 64) (w : World) : Calls Try.prog 30 #[.int .u64 (iw v), .int .u64 1503914060200516822, .int .u64 0, .int .u64 (iw (nw (v.toNat * lo0.toNat / W64)))] w fun e w' => e = .returned (.tuple #[.int .u64 (iw (F4 (v.toNat * lL) 1)), .int .u64 (iw (F4 (v.toNat * lL) 2))]) ∧ w = w' := by
  have h := qstep_any v lo1 (litw 64 0) (nw (v.toNat * lo0.toNat / W64)) w
  simp only [show (litw 64 0).toNat = 0 from rfl, Nat.add_zero] at h
  rw [← lit0w, ← lo1_int, least1, least2] at h
  exact h
set_option maxRecDepth 100000 in
theorem qleast_any (v : BitVec 64) (w : World) :
    Calls Try.prog 32 #[.int .u64 (iw v)] w fun e w' => e = .returned (.agg (r64 4 (F4 (v.toNat * lL)))) ∧ Below w.heap.size w w' := by
  have HS := Lib.hid num_size
  have H0 := Lib.hid (step_l0 v)
  have H1 := Lib.hid (step_l1 v)
  have HR := Lib.hid (least_row v)
  have hb := built3
  have Z0 : Blk (w.alloc (.cells #[.int .u64 0, .int .u64 0, .int .u64 0, .int .u64 0] 39)) w.heap.size 39 (r64 4 fun _ => litw 64 0) := (Blk.new w _ _).cast_ zero4'
  go_enter Try.func32, Try.ntmps32
  go_wp2_with fail
  refine (H0.out _).mono ?_
  rintro e w' ⟨rfl, rfl⟩
  go_wp2_with fail
  refine (H1.out _).mono ?_
  rintro e w' ⟨rfl, rfl⟩
  go_wp2_with (refine wpList_store_row rfl 39 _ _ rfl w.heap.size (r64 4 (F4 (v.toNat * lL))) rfl (congrArg Value.agg HR.out) 39 _ Z0 (HS.out _) (by simp only [row_size]) (row_one fun _ => rfl) ?_)
  exact bodyPost_ret (results_cell_row rfl _ _ w.heap.size 39 (r64 4 (F4 (v.toNat * lL))) (0, 0) _ rfl (Z0.row_ _) Try.underlying39 rfl (HS.out _)) rfl ⟨rfl, below_setRow' ((Below.refl _ _).alloc (Nat.le_refl _) _) (by omega) _⟩
/-- r times 2^32, and half, below 2^252. -/
def bR (r h : Nat) : Nat := (r * 4294967296 + h) % 7237005577332262213973186563042994240829374041602535252466099000494570602496
def bT (r : Nat) : Nat := r / 1684996666696914987166688442938726917102321526408785780068975640576
theorem bR_lt (r h : Nat) : bR r h < 7237005577332262213973186563042994240829374041602535252466099000494570602496 := Nat.mod_lt _ (by decide)
theorem bR_sum (r h : Nat) (hh : h < 4294967296) : r * 4294967296 + h = bT r * 7237005577332262213973186563042994240829374041602535252466099000494570602496 + bR r h := by
  unfold bT bR; omega
theorem or_shl (x y : BitVec 64) (hy : y.toNat < 4294967296) : (orw (shlw x 32) y).toNat = 4294967296 * (x.toNat % 4294967296) + y.toNat := by
  have e : (shlw x 32).toNat = 4294967296 * (x.toNat % 4294967296) := by
    unfold shlw; rw [BitVec.toNat_shiftLeft, Nat.shiftLeft_eq]; omega
  unfold orw
  rw [BitVec.toNat_or, e]
  exact (Nat.two_pow_add_eq_or_of_lt (i := 32) hy _).symm
theorem or_and (x y : BitVec 64) (hy : y.toNat < 4294967296) : (orw (andw (shlw x 32) (litw 64 1152921504606846975)) y).toNat = 4294967296 * (x.toNat % 268435456) + y.toNat := by
  have e : (andw (shlw x 32) (litw 64 1152921504606846975)).toNat = 4294967296 * (x.toNat % 268435456) := by
    unfold andw shlw litw
    rw [BitVec.toNat_and, show (BitVec.ofNat 64 1152921504606846975).toNat = 2 ^ 60 - 1 by rfl, Nat.and_two_pow_sub_one_eq_mod, BitVec.toNat_shiftLeft, Nat.shiftLeft_eq]; omega
  unfold orw
  rw [BitVec.toNat_or, e]
  exact (Nat.two_pow_add_eq_or_of_lt (i := 32) hy _).symm
theorem shr_nat (x : BitVec 64) : (shrw x 32).toNat = x.toNat / 4294967296 := by
  unfold shrw; rw [BitVec.toNat_ushiftRight, Nat.shiftRight_eq_div_pow]
theorem shr_lt (x : BitVec 64) : (shrw x 32).toNat < 4294967296 := by
  have := x.isLt
  rw [shr_nat]; omega
theorem half_nat (h : Nat) (hh : h < 4294967296) : (nw h).toNat = h := nw_nat _ (by unfold W64; omega)
theorem behind0 (r h : Nat) (hh : h < 4294967296) : orw (shlw (F4 r 0) 32) (nw h) = F4 (bR r h) 0 := by
  apply BitVec.eq_of_toNat_eq
  rw [or_shl _ _ (by rw [half_nat h hh]; exact hh), half_nat h hh, F4_nat', F4_nat']
  unfold bR W64; simp only [Nat.reduceMul, Nat.reducePow]; omega
theorem behind1 (r h : Nat) (hh : h < 4294967296) : orw (shlw (F4 r 1) 32) (shrw (F4 r 0) 32) = F4 (bR r h) 1 := by
  apply BitVec.eq_of_toNat_eq
  rw [or_shl _ _ (shr_lt _), shr_nat, F4_nat', F4_nat', F4_nat']
  unfold bR W64; simp only [Nat.reduceMul, Nat.reducePow]; omega
theorem behind2 (r h : Nat) (hh : h < 4294967296) : orw (shlw (F4 r 2) 32) (shrw (F4 r 1) 32) = F4 (bR r h) 2 := by
  apply BitVec.eq_of_toNat_eq
  rw [or_shl _ _ (shr_lt _), shr_nat, F4_nat', F4_nat', F4_nat']
  unfold bR W64; simp only [Nat.reduceMul, Nat.reducePow]; omega
theorem behind3 (r h : Nat) (hh : h < 4294967296) : orw (andw (shlw (F4 r 3) 32) (litw 64 1152921504606846975)) (shrw (F4 r 2) 32) = F4 (bR r h) 3 := by
  apply BitVec.eq_of_toNat_eq
  rw [or_and _ _ (shr_lt _), shr_nat, F4_nat', F4_nat', F4_nat']
  unfold bR W64; simp only [Nat.reduceMul, Nat.reducePow]; omega
theorem behindT (r : Nat) (hr : r < qL) : (shrw (F4 r 3) 28).toNat = bT r := by
  unfold shrw
  rw [BitVec.toNat_ushiftRight, Nat.shiftRight_eq_div_pow, F4_nat']
  unfold bT W64; unfold qL at hr; simp only [Nat.reduceMul, Nat.reducePow]; omega
theorem behind_row (r h : Nat) (hh : h < 4294967296) : #[Value.int .u64 (iw (orw (shlw (F4 r 0) 32) (nw h))), .int .u64 (iw (orw (shlw (F4 r 1) 32) (shrw (F4 r 0) 32))), .int .u64 (iw (orw (shlw (F4 r 2) 32) (shrw (F4 r 1) 32))), .int .u64 (iw (orw (andw (shlw (F4 r 3) 32) (litw 64 1152921504606846975)) (shrw (F4 r 2) 32)))] = r64 4 (F4 (bR r h)) :=
  row4 _ _ _ _ _ (behind0 r h hh) (behind1 r h hh) (behind2 r h hh) (behind3 r h hh)
theorem built_num (a b c d : BitVec 64) : Try.prog.built 39 [(0, .int .u64 (iw a)), (1, .int .u64 (iw b)), (2, .int .u64 (iw c)), (3, .int .u64 (iw d))] = some #[.int .u64 (iw a), .int .u64 (iw b), .int .u64 (iw c), .int .u64 (iw d)] := by kernel_rfl
/-- What is taken away. -/
def tL (r : Nat) : Nat := bT r * lL
theorem tL_lt (r : Nat) (hr : r < qL) : tL r < M256 := by unfold tL bT lL M256; unfold qL at hr; omega
theorem bR_M (r h : Nat) : bR r h < M256 := Nat.lt_trans (bR_lt r h) (by decide)
theorem behind_less (r h : Nat) (hr : r < qL) (hh : h < 4294967296) (hlt : bR r h < tL r) : (bR r h + M256 - tL r + qL) % M256 = (r * 4294967296 + h) % qL := by
  have h1 := bR_sum r h hh
  have h2 := bR_lt r h
  have h3 : bT r < 8589934592 := by unfold bT; unfold qL at hr; omega
  rw [h1]
  unfold tL lL at *
  generalize bT r = t at *
  generalize bR r h = x at *
  clear h1 hr hh
  obtain ⟨s, rfl⟩ : ∃ s, t = s + 1 := ⟨t - 1, by omega⟩
  obtain ⟨y, hy⟩ : ∃ y, y = x + qL - (s + 1) * 27742317777372353535851937790883648493 := ⟨_, rfl⟩
  have hyq : y < qL := by unfold qL at *; omega
  have e1 : (s + 1) * 7237005577332262213973186563042994240829374041602535252466099000494570602496 + x = y + qL * s := by unfold qL at *; omega
  have e2 : x + M256 - (s + 1) * 27742317777372353535851937790883648493 + qL = y + M256 := by unfold qL M256 at *; omega
  have hyM : y < M256 := Nat.lt_trans hyq (by decide)
  rw [e1, e2, Nat.add_mul_mod_self_left, Nat.mod_eq_of_lt hyq, Nat.add_mod_right, Nat.mod_eq_of_lt hyM]
theorem behind_more (r h : Nat) (hr : r < qL) (hh : h < 4294967296) (hlt : ¬ bR r h < tL r) : (bR r h + M256 - tL r) % M256 = (r * 4294967296 + h) % qL := by
  have h1 := bR_sum r h hh
  have h2 := bR_lt r h
  have h3 : bT r < 8589934592 := by unfold bT; unfold qL at hr; omega
  rw [h1]
  unfold tL lL at *
  generalize bT r = t at *
  generalize bR r h = x at *
  clear h1 hr hh
  obtain ⟨y, hy⟩ : ∃ y, y = x - t * 27742317777372353535851937790883648493 := ⟨_, rfl⟩
  have hyq : y < qL := by unfold qL at *; omega
  have e1 : t * 7237005577332262213973186563042994240829374041602535252466099000494570602496 + x = y + qL * t := by unfold qL at *; omega
  have e2 : x + M256 - t * 27742317777372353535851937790883648493 = y + M256 := by unfold M256 at *; omega
  have hyM : y < M256 := Nat.lt_trans hyq (by decide)
  rw [e1, e2, Nat.add_mul_mod_self_left, Nat.mod_eq_of_lt hyq, Nat.add_mod_right, Nat.mod_eq_of_lt hyM]
theorem F4_modM (m i : Nat) (hi : i < 4) : F4 m i = F4 (m % M256) i := by
  apply BitVec.eq_of_toNat_eq
  rw [F4_nat, F4_nat]
  unfold M256
  match i, hi with
  | 0, _ => simp only [Nat.reduceMul, Nat.reducePow]; omega
  | 1, _ => simp only [Nat.reduceMul, Nat.reducePow]; omega
  | 2, _ => simp only [Nat.reduceMul, Nat.reducePow]; omega
  | 3, _ => simp only [Nat.reduceMul, Nat.reducePow]; omega
theorem r64_modM (m : Nat) : r64 4 (F4 m) = r64 4 (F4 (m % M256)) := row_ext fun i hi => by rw [F4_modM m i hi]
theorem lands_num {R : World → Prop} {o : Oper} {a : Act} {w : World} (x : Operand) (ho : o.op = .load 39 x) (g : Nat) (hx : a.eval x = .pointer (some ⟨g, 0, none⟩)) (f : Nat → BitVec 64) (hg : Blk w g 39 (r64 4 f)) (hR : R w) :
    Lands Try.prog R (.agg (r64 4 f)) ((execOp a.eval o).run Try.prog w) := lands_load 39 x ho g hx _ _ _ hg Try.underlying39 rfl (num_size f) hR
theorem stores_num {R : World → Prop} {o : Oper} {a : Act} {w : World} (x y : Operand) (ho : o.op = .store 39 x y) (g : Nat) (f f0 : Nat → BitVec 64) (hx : a.eval x = .pointer (some ⟨g, 0, none⟩)) (hy : a.eval y = .agg (r64 4 f)) (hg : Blk w g 39 (r64 4 f0)) (hR : R (w.setRow g (r64 4 f))) :
    Lands Try.prog R undef ((execOp a.eval o).run Try.prog w) := lands_store 39 x y ho g _ hx hy _ _ hg (num_size f) (by simp only [row_size]) (row_one fun _ => rfl) hR
def zW : Nat → BitVec 64 := fun _ => litw 64 0
theorem zero4z : #[Value.int .u64 0, .int .u64 0, .int .u64 0, .int .u64 0] = r64 4 zW := zero4'
/-- The blocks of behind. -/
def bBl (g : Nat) (T : TypeId) (f : Nat → BitVec 64) : List (Nat × TypeId × Array Value) := [(g + 2, T, r64 4 f), (g + 1, T, r64 4 zW)]
theorem bBl_put (g : Nat) (T : TypeId) (f f' : Nat → BitVec 64) : ∀ x ∈ bBl g T f', (x = (g + 2, T, r64 4 f')) ∨ (x ∈ bBl g T f ∧ x.1 ≠ g + 2) := by
  intro x hx
  simp only [bBl, List.mem_cons, List.not_mem_nil, or_false] at hx
  rcases hx with rfl | rfl
  · exact .inl rfl
  · exact .inr ⟨m1, by show g + 1 ≠ _; omega⟩
set_option maxRecDepth 100000 in
set_option maxHeartbeats 2000000 in
theorem qbehind_any (r h : Nat) (hr : r < qL) (hh : h < 4294967296) (w : World) :
    Calls Try.prog 29 #[.agg (r64 4 (F4 r)), .int .u64 (iw (nw h))] w fun e w' => e = .returned (.agg (r64 4 (F4 ((r * 4294967296 + h) % qL)))) ∧ Below w.heap.size w w' := by
  have HS := Lib.hid num_size
  have HR := Lib.hid (behind_row r h hh)
  have HT := Lib.hid (behindT r hr)
  have hand : ∀ x : BitVec 64, bits .and .u64 (iw x) 1152921504606846975 = iw (andw x (litw 64 1152921504606846975)) := fun x => and64_lit x _
  have hbu := built_num
  have W0 : Blk ((w.alloc (.cells (r64 4 (F4 r)) 39)).alloc (.cells #[.int .u64 0, .int .u64 0, .int .u64 0, .int .u64 0] 39)) w.heap.size 39 (r64 4 (F4 r)) := (Blk.new w _ _).alloc _
  have K0 : Known w.heap.size w [(w.heap.size + 1, 39, r64 4 zW)] ((w.alloc (.cells (r64 4 (F4 r)) 39)).alloc (.cells #[.int .u64 0, .int .u64 0, .int .u64 0, .int .u64 0] 39)) := by
    refine ((((Known.begin w).alloc _).add _ 39).cast ?_)
    rw [zero4z]; simp
  have c0 := W0.at_ (i := 0) (by omega)
  have c1 := W0.at_ (i := 1) (by omega)
  have c2 := W0.at_ (i := 2) (by omega)
  have c3 := W0.at_ (i := 3) (by omega)
  go_enter Try.func29, Try.ntmps29
  go_wp2_with fail
  rw [HR.out]
  refine wp_gen (Known w.heap.size w (bBl w.heap.size 39 (F4 (bR r h)))) ((K0.add _ 39).cast (by simp [bBl])) (fun w1 h1 => ?_)
  clear K0 W0 c0 c1 c2 c3 hand hbu
  have CL : Hid (∀ w, Calls Try.prog 32 #[.int .u64 (iw (shrw (F4 r 3) 28))] w fun e w' => e = .returned (.agg (r64 4 (F4 (tL r)))) ∧ Below w.heap.size w w') := Lib.hid (fun w => by
    have h1 := qleast_any (shrw (F4 r 3) 28) w
    rw [HT.out] at h1
    exact h1)
  have CM := Lib.hid (fun w => qminus_any (bR r h) (tL r) (bR_M r h) (tL_lt r hr) w)
  have HM := Lib.hid (fun f f' => bBl_put w.heap.size 39 f f')
  have hbf := bb_four (bR r h) (tL r) (bR_M r h) (tL_lt r hr)
  have HL := Lib.hid (behind_less r h hr hh)
  have HG := Lib.hid (behind_more r h hr hh)
  clear HR HT
  generalize hX : (r * 4294967296 + h) % qL = X at HL HG ⊢
  have HXX := Lib.hid hX
  clear hX
  generalize bR r h = x at *
  generalize tL r = t at *
  generalize x + M256 - t = D at CM HL HG
  refine wp_region_anyL (Two 7 1000 fun f1 _ wx => Known w.heap.size w (bBl w.heap.size 39 (if f1 then F4 D else F4 x)) wx) (by kernel_rfl) h1.drew ?_
  refine anyL_take (i := 0) (v := .agg (r64 4 (F4 x))) rfl (by kernel_rfl) (by kernel_rfl) (by kernel_rfl) (yl_ahead (n := 9) (by decide) (by decide) (by kernel_rfl) rfl (fun f2 wx hT => ?_)) ?_
  · exact lands_num _ rfl _ rfl _ (hT.blk _ m0) hT
  simp only [Act.put, List.setIfInBounds_toArray, List.set_cons_zero, List.set_cons_succ]
  refine anyL_take (i := 1) (v := ?_) rfl (by kernel_rfl) (by kernel_rfl) (by kernel_rfl) (yl_other (by decide) (by decide) rfl (fun f1 f2 wx hT => ?_)) ?_; rotate_left
  · refine lands_value (w := wx) ?_ hT; go_simp <;> rfl
  simp only [Act.put, List.setIfInBounds_toArray, List.set_cons_zero, List.set_cons_succ]
  refine anyL_take (i := 2) (v := .agg (r64 4 (F4 t))) rfl (by kernel_rfl) (by kernel_rfl) (by kernel_rfl) (yl_other (by decide) (by decide) rfl (fun f1 f2 wx hT => ?_)) ?_
  · exact lands_calls (w := wx) ((CL.out wx).mono fun _ _ ⟨he, hb⟩ => ⟨he, hT.below hb⟩) (by go_simp)
  simp only [Act.put, List.setIfInBounds_toArray, List.set_cons_zero, List.set_cons_succ]
  refine anyL_take (i := 3) (v := .tuple #[.agg (r64 4 (F4 D)), .int .u64 (iw (b64 x t 4))]) rfl (by kernel_rfl) (by kernel_rfl) (by kernel_rfl) (yl_other (by decide) (by decide) rfl (fun f1 f2 wx hT => ?_)) ?_
  · exact lands_calls (w := wx) ((CM.out wx).mono fun _ _ ⟨he, hb⟩ => ⟨he, hT.below hb⟩) (by go_simp)
  simp only [Act.put, List.setIfInBounds_toArray, List.set_cons_zero, List.set_cons_succ]
  refine anyL_take (i := 4) (v := ?_) rfl (by kernel_rfl) (by kernel_rfl) (by kernel_rfl) (yl_other (by decide) (by decide) rfl (fun f1 f2 wx hT => ?_)) ?_; rotate_left
  · refine lands_value (w := wx) ?_ hT; go_simp <;> rfl
  simp only [Act.put, List.setIfInBounds_toArray, List.set_cons_zero, List.set_cons_succ]
  refine anyL_take (i := 5) (v := ?_) rfl (by kernel_rfl) (by kernel_rfl) (by kernel_rfl) (yl_other (by decide) (by decide) rfl (fun f1 f2 wx hT => ?_)) ?_; rotate_left
  · refine lands_value (w := wx) ?_ hT; go_simp <;> rfl
  simp only [Act.put, List.setIfInBounds_toArray, List.set_cons_zero, List.set_cons_succ]
  refine anyL_take (i := 6) (v := ?_) rfl (by kernel_rfl) (by kernel_rfl) (by kernel_rfl) (yl_other (by decide) (by decide) rfl (fun f1 f2 wx hT => ?_)) ?_; rotate_left
  · refine lands_value (w := wx) ?_ hT; go_simp <;> rfl
  simp only [Act.put, List.setIfInBounds_toArray, List.set_cons_zero, List.set_cons_succ]
  refine anyL_take (i := 7) (v := undef) rfl (by kernel_rfl) (by kernel_rfl) (by kernel_rfl) (yl_first (by decide) rfl (fun f2 wx hT => ?_)) ?_
  · exact stores_num _ _ rfl (w.heap.size + 2) _ _ rfl rfl (hT.blk _ m0) (hT.put (hT.blk _ m0) (by omega) _ _ (HM.out _ _))
  simp only [Act.put]
  refine anyL_take (i := 8) (v := ?_) rfl (by kernel_rfl) (by kernel_rfl) (by kernel_rfl) (yl_other (by decide) (by decide) rfl (fun f1 f2 wx hT => ?_)) ?_; rotate_left
  · refine lands_value (w := wx) ?_ hT; go_simp <;> rfl
  simp only [Act.put, List.setIfInBounds_toArray, List.set_cons_zero, List.set_cons_succ]
  refine anyL_done (by kernel_rfl) (fun w3 (K : Known w.heap.size w (bBl w.heap.size 39 (F4 D)) w3) => ?_) _
  clear h1 CL CM
  have CP := Lib.hid (fun w => qplus_any D qL w)
  by_cases hlt : x < t
  · have hiw : iw (b64 x t 4) = 1 := by unfold iw; rw [b64_nat, hbf, if_pos hlt]; rfl
    have hd : (iw (b64 x t 4) == 1) = true := by rw [hiw]; rfl
    have HX : Hid (r64 4 (F4 (D + qL)) = r64 4 (F4 X)) := Lib.hid (by rw [r64_modM, HL.out hlt])
    clear HL HG hbf hlt hiw
    generalize b64 x t 4 = bo at hd ⊢
    generalize D + qL = D2 at CP HX
    go_wp2_with fail
    refine wp_region_anyL (Two 3 1000 fun f1 _ wx => Known w.heap.size w (bBl w.heap.size 39 (if f1 then F4 D2 else F4 D)) wx) (by kernel_rfl) K.drew ?_
    refine anyL_take (i := 0) (v := .agg (r64 4 (F4 D))) rfl (by kernel_rfl) (by kernel_rfl) (by kernel_rfl) (yl_ahead (n := 9) (by decide) (by decide) (by kernel_rfl) rfl (fun f2 wx hT => ?_)) ?_
    · exact lands_num _ rfl _ rfl _ (hT.blk _ m0) hT
    simp only [Act.put, List.setIfInBounds_toArray, List.set_cons_zero, List.set_cons_succ]
    refine anyL_take (i := 1) (v := .agg (r64 4 (F4 qL))) rfl (by kernel_rfl) (by kernel_rfl) (by kernel_rfl) (yl_other (by decide) (by decide) rfl (fun f1 f2 wx hT => ?_)) ?_
    · exact lands_calls (w := wx) ((qorder_any wx).mono fun _ _ ⟨he, hb⟩ => ⟨he, hT.below hb⟩) (by go_simp)
    simp only [Act.put, List.setIfInBounds_toArray, List.set_cons_zero, List.set_cons_succ]
    refine anyL_take (i := 2) (v := .agg (r64 4 (F4 D2))) rfl (by kernel_rfl) (by kernel_rfl) (by kernel_rfl) (yl_other (by decide) (by decide) rfl (fun f1 f2 wx hT => ?_)) ?_
    · exact lands_calls (w := wx) ((CP.out wx).mono fun _ _ ⟨he, hb⟩ => ⟨he, hT.below hb⟩) (by go_simp)
    simp only [Act.put, List.setIfInBounds_toArray, List.set_cons_zero, List.set_cons_succ]
    refine anyL_take (i := 3) (v := undef) rfl (by kernel_rfl) (by kernel_rfl) (by kernel_rfl) (yl_first (by decide) rfl (fun f2 wx hT => ?_)) ?_
    · exact stores_num _ _ rfl (w.heap.size + 2) _ _ rfl rfl (hT.blk _ m0) (hT.put (hT.blk _ m0) (by omega) _ _ (HM.out _ _))
    simp only [Act.put]
    refine anyL_done (by kernel_rfl) (fun w4 (K2 : Known w.heap.size w (bBl w.heap.size 39 (F4 D2)) w4) => ?_) _
    clear K CP
    go_wp2_with (first
      | (refine wpList_load_row rfl 39 _ rfl (w.heap.size + 2) rfl 39 _ (0, 0) _ (K2.blk _ m0) Try.underlying39 rfl (HS.out _) ?_)
      | (refine wpList_store_row rfl 39 _ _ rfl (w.heap.size + 1) (r64 4 (F4 D2)) rfl rfl 39 _ (K2.blk _ m1) (HS.out _) (by simp only [row_size]) (row_one fun _ => rfl) ?_))
    exact bodyPost_ret (results_cell_row rfl _ _ (w.heap.size + 1) 39 (r64 4 (F4 D2)) (0, 0) _ rfl ((K2.blk _ m1).row_ _) Try.underlying39 rfl (HS.out _)) rfl ⟨by rw [HX.out, ← HXX.out], below_setRow' K2.b (by omega) _⟩
  · have hiw : iw (b64 x t 4) = 0 := by unfold iw; rw [b64_nat, hbf, if_neg hlt]; rfl
    have hd : (iw (b64 x t 4) == 1) = false := by rw [hiw]; rfl
    have HX : Hid (r64 4 (F4 D) = r64 4 (F4 X)) := Lib.hid (by rw [r64_modM, HG.out hlt])
    clear HL HG hbf hlt hiw CP
    generalize b64 x t 4 = bo at hd ⊢
    go_wp2_with (first
      | (refine wpList_load_row rfl 39 _ rfl (w.heap.size + 2) rfl 39 _ (0, 0) _ (K.blk _ m0) Try.underlying39 rfl (HS.out _) ?_)
      | (refine wpList_store_row rfl 39 _ _ rfl (w.heap.size + 1) (r64 4 (F4 D)) rfl rfl 39 _ (K.blk _ m1) (HS.out _) (by simp only [row_size]) (row_one fun _ => rfl) ?_))
    exact bodyPost_ret (results_cell_row rfl _ _ (w.heap.size + 1) 39 (r64 4 (F4 D)) (0, 0) _ rfl ((K.blk _ m1).row_ _) Try.underlying39 rfl (HS.out _)) rfl ⟨by rw [HX.out, ← HXX.out], below_setRow' K.b (by omega) _⟩
end Go.Proofs.Ytnfcgpoafmmioaa
