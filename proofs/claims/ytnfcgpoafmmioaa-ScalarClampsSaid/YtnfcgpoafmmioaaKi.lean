/- MulAdd of the document's answer. -/
import Derived.Test.YtnfcgpoafmmioaaKh
import Derived.Test.YtnfcgpoafmmioaaReg
namespace Go.Proofs.Ytnfcgpoafmmioaa
open Go.RowKit
theorem wpList_valK {ops : Array Oper} {Q : Exit → Act → World → Prop} {R : World → Prop} {o : Oper} {rest : List Oper} {a : Act} {w : World} (v : Value) (hg : o.guard = none) (h : Lands Try.prog R v ((execOp a.eval o).run Try.prog w)) (k : ∀ w', R w' → wpList Try.prog ops Q rest (a.put o.dst v) w') : wpList Try.prog ops Q (o :: rest) a w :=
  wpList_plain hg fun _ hK => h.upon fun w' hR => hK _ _ (k w' hR)
theorem lands_min {o : Oper} {a : Act} {w : World} (x : Operand) (n k : Nat) (ho : o.op = .call { callee := .builtin .min, args := #[x, .const (.int .i64 (k : Int))], argTypes := #[3, 3] }) (ht : o.type = 3) (hx : a.eval x = .int .i64 (n : Int)) :
    Lands Try.prog (fun w' => w' = w) (.int .i64 ((min n k : Nat) : Int)) ((execOp a.eval o).run Try.prog w) := by
  refine lands_value (w := w) ?_ rfl
  have hc : a.eval (.const (.int .i64 (k : Int))) = .int .i64 (k : Int) := rfl
  simp [execOp, ho, ht, hx, hc, resolve, invoke, builtin]
  by_cases h : n ≤ k
  · rw [show min n k = n by omega]
    have h2 : (n : Int) ≤ k := by omega
    go_simp
    intro; omega
  · rw [show min n k = k by omega]
    have h' : (k : Int) < n := by omega
    go_simp
def oV (o : Nat → Nat) (j : Nat) : Value := .int .i64 (o j : Int)
def addO (o : Nat → Nat) (d x : Nat) (j : Nat) : Nat := if j = d then o j + x else o j
/-- Within MulAdd: the list of sums. -/
structure MaW (o : Nat → Nat) (g : Nat) (w wr : World) : Prop where
  r : Blk wr g 3 (row 64 (oV o))
  b : Below w.heap.size w wr
  ge : w.heap.size ≤ g
theorem MaW.drew {o : Nat → Nat} {g : Nat} {w wr : World} (h : MaW o g w wr) : MaW o g w wr.drew := ⟨h.r, h.b.drew, h.ge⟩
theorem MaW.at_ {o : Nat → Nat} {g : Nat} {w wr : World} (h : MaW o g w wr) {j : Nat} (hj : j < 64) : wr.cell? ⟨g, j, none⟩ = some (.int .i64 (o j : Int)) := h.r.at_ hj
theorem MaW.add {o : Nat → Nat} {g : Nat} {w wr : World} (h : MaW o g w wr) {d : Nat} (hd : d < 64) (x : Nat) : MaW (addO o d x) g w (wr.setCell ⟨g, d, none⟩ (.int .i64 ((o d + x : Nat) : Int))) :=
  ⟨(h.r.put hd _).cast_ (row_ext fun j _ => by
    unfold oV addO
    by_cases h1 : j = d
    · subst h1; rw [if_pos rfl, if_pos rfl]
    · rw [if_neg h1, if_neg h1]), h.b.setCell h.ge _, h.ge⟩
theorem addO_bv (o : Nat → Nat) {d : Nat} (hd : d < 64) (x : Nat) : bv (addO o d x) 64 = bv o 64 + x * 2 ^ (8 * d) := bv_add o d x 64 hd
theorem addO_le {o : Nat → Nat} {m x d : Nat} (h : ∀ j, o j ≤ m) (j : Nat) : addO o d x j ≤ m + x := by
  unfold addO; have := h j; split <;> omega
theorem bv_none (n : Nat) : bv (fun _ => 0) n = 0 := by
  induction n with
  | zero => rfl
  | succ n ih => show bv _ n + 0 * _ = 0; rw [ih, Nat.zero_mul]
theorem zero64 : row 64 (oV fun _ => 0) = row 64 (fun _ => Value.int .i64 0) := rfl
theorem mul_next (S x B y k i : Nat) (h : S = B + x * y * 2 ^ (8 * i)) (z : Nat) : S + x * z * 2 ^ (8 * (i + k)) = B + x * (y + z * 2 ^ (8 * k)) * 2 ^ (8 * i) := by
  have e : x * z * 2 ^ (8 * (i + k)) = x * (z * 2 ^ (8 * k)) * 2 ^ (8 * i) := by
    rw [Nat.mul_add 8, Nat.pow_add, Nat.mul_comm (2 ^ (8 * i)), ← Nat.mul_assoc, Nat.mul_assoc x z]
  rw [h, e, Nat.mul_add, Nat.add_mul]; omega
theorem mul_row (A x B i : Nat) : A * B + x * B * 2 ^ (8 * i) = (A + x * 2 ^ (8 * i)) * B := by
  rw [Nat.add_mul, Nat.mul_assoc x, Nat.mul_comm B, ← Nat.mul_assoc]
/-- 64 bytes of a number as a text. -/
def t64 (V : Nat) : ByteArray := ⟨(asBytes ((List.range 64).map (bF V 64))).toArray⟩
theorem t64_size (V : Nat) : (t64 V).size = 64 := by
  show (asBytes _).toArray.size = 64
  simp [asBytes]
theorem t64_byte (V j : Nat) (hj : j < 64) : byteS (t64 V) j = byteK V j := by
  unfold byteS
  rw [dif_pos (by rw [t64_size]; exact hj)]
  show ((t64 V).data[j]'_).toNat = _
  simp only [t64, asBytes, List.getElem_toArray, List.getElem_map, List.getElem_range]
  show (bF V 64 j).toNat = _
  unfold bF
  rw [if_pos hj, BitVec.toNat_ofNat]
  exact Nat.mod_eq_of_lt (byteK_lt _ _)
theorem bv_twice (V i : Nat) (h : V < 2 ^ (8 * i) * 2 ^ (8 * i)) : bv (byteK V) (i + i) = V := by
  rw [bv_bytes, Nat.mul_add, Nat.pow_add, Nat.mod_eq_of_lt h]
/-- MulAdd: P4.1. -/
def maV (a b c : ByteArray) : ByteArray := bytesV ((numV a 32 * numV b 32 + numV c 32) % qL)
theorem numV_lt (s : ByteArray) : numV s 32 < 2 ^ (8 * 32) :=
  Nat.lt_of_lt_of_le (bv_lt _ (byteS_lt s) _) (Nat.pow_le_pow_right (by decide) (by omega))
theorem sum_lt {A B C M : Nat} (hA : A < M) (hB : B < M) (hC : C < M) : A * B + C < M * M := by
  have h1 := Nat.mul_le_mul_left A (Nat.le_of_lt hB)
  have h2 := Nat.mul_le_mul_right M (show A + 1 ≤ M from hA)
  rw [Nat.succ_mul] at h2
  omega
theorem red_t64 {V : Nat} (h : V < 2 ^ (8 * 32) * 2 ^ (8 * 32)) : redV (t64 V) = bytesV (V % qL) := by
  unfold redV numV
  rw [t64_size, show min 64 64 = 32 + 32 by rfl, bv_congr (32 + 32) (fun j hj => t64_byte V j hj), bv_twice V 32 h]
/-- Within MulAdd's end: the sums, the bytes so far. -/
structure MbW (o : Nat → Nat) (V k gb g : Nat) (w wr : World) : Prop where
  d : MaW o g w wr
  o : Blk wr gb 5 (r8 64 (bF V k))
  lt : g < gb
theorem MbW.put {o : Nat → Nat} {V k gb g : Nat} {w wr : World} (h : MbW o V k gb g w wr) (hk : k < 64) : MbW o V (k + 1) gb g w (wr.setCell ⟨gb, k, none⟩ (.int .u8 (byteK V k : Int))) := by
  have l1 := h.d.ge
  have l2 := h.lt
  exact ⟨⟨h.d.r.far (show g ≠ gb by omega) _, h.d.b.setCell (show w.heap.size ≤ gb by omega) _, l1⟩, (h.o.put hk _).cast_ (row_ext fun j _ => by rw [byte_iw]; exact bF_put _ _ _), l2⟩
set_option maxRecDepth 100000 in
set_option maxHeartbeats 8000000 in
theorem rmuladd_any (a b c : ByteArray) (w : World) :
    Calls Try.prog 15 #[.string a, .string b, .string c] w fun e w' => e = .returned (.string (maV a b c)) ∧ Below w.heap.size w w' := by
  obtain ⟨na, hna⟩ : ∃ n, n = min a.size 32 := ⟨_, rfl⟩
  have hMa : Hid (na = min a.size 32) := Lib.hid hna
  have h1a : (na : Int) ≤ a.size := by omega
  have h2a : na ≤ 32 := by omega
  have hsa : (a.extract 0 na).size = na := by rw [ByteArray.size_extract]; omega
  have hEa : bv (byteS (a.extract 0 na)) na = numV a 32 := by
    rw [bv_congr na (fun j hj => byteS_extract a na j (by omega) hj)]; unfold numV; rw [← hna]
  generalize hTa : a.extract 0 na = ta at hsa hEa
  have EA := Lib.hid hEa
  clear hEa
  have HA := Lib.hid hTa
  clear hTa hna
  obtain ⟨nb, hnb⟩ : ∃ n, n = min b.size 32 := ⟨_, rfl⟩
  have hMb : Hid (nb = min b.size 32) := Lib.hid hnb
  have h1b : (nb : Int) ≤ b.size := by omega
  have h2b : nb ≤ 32 := by omega
  have hsb : (b.extract 0 nb).size = nb := by rw [ByteArray.size_extract]; omega
  have hEb : bv (byteS (b.extract 0 nb)) nb = numV b 32 := by
    rw [bv_congr nb (fun j hj => byteS_extract b nb j (by omega) hj)]; unfold numV; rw [← hnb]
  generalize hTb : b.extract 0 nb = tb at hsb hEb
  have EB := Lib.hid hEb
  clear hEb
  have HB := Lib.hid hTb
  clear hTb hnb
  obtain ⟨nc, hnc⟩ : ∃ n, n = min c.size 32 := ⟨_, rfl⟩
  have hMc : Hid (nc = min c.size 32) := Lib.hid hnc
  have h1c : (nc : Int) ≤ c.size := by omega
  have h2c : nc ≤ 32 := by omega
  have hsc : (c.extract 0 nc).size = nc := by rw [ByteArray.size_extract]; omega
  have hEc : bv (byteS (c.extract 0 nc)) nc = numV c 32 := by
    rw [bv_congr nc (fun j hj => byteS_extract c nc j (by omega) hj)]; unfold numV; rw [← hnc]
  generalize hTc : c.extract 0 nc = tc at hsc hEc
  have EC := Lib.hid hEc
  clear hEc
  have HC := Lib.hid hTc
  clear hTc hnc
  have hmk : ∀ w, (Instr.makeSlice 44 (.int .i64 64) (.int .i64 64)).run Try.prog w = .ok (.slice (some ⟨w.heap.size, 0, none⟩) 64 64) (w.alloc (.cells (row 64 (oV fun _ => 0)) 3)) := fun w => by rw [zero64]; kernel_rfl
  have hmk2 : ∀ w V, (Instr.makeSlice 34 (.int .i64 64) (.int .i64 64)).run Try.prog w = .ok (.slice (some ⟨w.heap.size, 0, none⟩) 64 64) (w.alloc (.cells (r8 64 (bF V 0)) 5)) := fun w V => by
    rw [show r8 64 (bF V 0) = row 64 (fun _ => Value.int .u8 0) from row_ext fun i _ => by unfold bF; rw [if_neg (by omega), iw_zero]]; kernel_rfl
  have HK2 := Lib.hid hmk2
  clear hmk2
  have hd0 : MaW (fun _ => 0) w.heap.size w (w.alloc (.cells (row 64 (oV fun _ => 0)) 3)) := ⟨Blk.new w _ _, (Below.refl _ _).alloc (Nat.le_refl _) _, Nat.le_refl _⟩
  go_enter Try.func15, Try.ntmps15
  go_wp2_with (first
    | (refine wpList_valK (R := fun w' => w' = _) (.int .i64 (na : Int)) rfl (by rw [hMa.out]; exact lands_min (.tmp 17) a.size 32 rfl rfl rfl) ?_; intro w' hw'; rw [hw']; clear hw')
    | (refine wpList_valK (R := fun w' => w' = _) (.int .i64 (nb : Int)) rfl (by rw [hMb.out]; exact lands_min (.tmp 22) b.size 32 rfl rfl rfl) ?_; intro w' hw'; rw [hw']; clear hw')
    | (refine wpList_valK (R := fun w' => w' = _) (.int .i64 (nc : Int)) rfl (by rw [hMc.out]; exact lands_min (.tmp 27) c.size 32 rfl rfl rfl) ?_; intro w' hw'; rw [hw']; clear hw'))
  rw [HA.out, HB.out, HC.out]
  clear hmk HA HB HC hMa hMb hMc h1a h1b h1c
  generalize w.heap.size = g at hd0 ⊢
  go_loopw [8] (fun i wr => ∃ k : Nat, k ≤ na ∧ i = .int .i64 (k : Int) ∧ ∃ o : Nat → Nat, (∀ j, o j ≤ 65025 * (32 * k)) ∧ Hid (bv o 64 = bv (byteS ta) k * bv (byteS tb) nb) ∧ MaW o g w wr) (fun i _ => na - (intOf i).toNat)
  case atStart => exact ⟨0, by omega, rfl, _, fun j => by omega, Lib.hid (by rw [bv_none]; exact (Nat.zero_mul _).symm), hd0⟩
  case round =>
    obtain ⟨i, hi, rfl, o0, ho0, HO, hr⟩ := hrel
    clear hd0
    by_cases hlt : i < na
    · have hia : i < ta.size := by omega
      have HBA := Lib.hid (byteS_at ta i hia)
      have hbx := byteS_lt ta i
      go_wp2_with fail
      go_loopw [9] (fun kk wr => ∃ k : Nat, k ≤ nb ∧ kk = .int .i64 (k : Int) ∧ ∃ o : Nat → Nat, (∀ j, o j ≤ 65025 * (32 * i + k)) ∧ Hid (bv o 64 = bv (byteS ta) i * bv (byteS tb) nb + byteS ta i * bv (byteS tb) k * 2 ^ (8 * i)) ∧ MaW o g w wr) (fun kk _ => nb - (intOf kk).toNat)
      case atStart => exact ⟨0, by omega, rfl, o0, fun j => by have := ho0 j; omega, Lib.hid (by rw [HO.out]; show _ = _ + _ * 0 * _; rw [Nat.mul_zero, Nat.zero_mul, Nat.add_zero]), hr⟩
      case round =>
        obtain ⟨k, hk, rfl, o, ho, HO2, hr2⟩ := hrel
        clear hr HO ho0
        by_cases hlt2 : k < nb
        · have hkb : k < tb.size := by omega
          have HBB := Lib.hid (byteS_at tb k hkb)
          have hby := byteS_lt tb k
          obtain ⟨d, hd⟩ : ∃ d, d = i + k := ⟨_, rfl⟩
          have hd64 : d < 64 := by omega
          have hl0 : (d : Int) < 64 := by omega
          have hl1 : (0 : Int) ≤ d := by omega
          have hod := ho d
          have HN : Hid (bv (addO o d (byteS ta i * byteS tb k)) 64 = bv (byteS ta) i * bv (byteS tb) nb + byteS ta i * bv (byteS tb) (k + 1) * 2 ^ (8 * i)) := Lib.hid (by
            rw [addO_bv o hd64, hd]; exact mul_next _ _ _ _ _ _ HO2.out _)
          have HPUT : Hid (∀ wx m, MaW o g w wx → MaW (addO o d m) g w (wx.setCell ⟨g, d, none⟩ (.int .i64 ((o d + m : Nat) : Int)))) := Lib.hid (fun wx m hx => hx.add hd64 m)
          generalize byteS ta i = x at HBA hbx HN
          generalize byteS tb k = y at HBB hby HN
          have hm1 : x * y ≤ 65025 := Nat.le_trans (Nat.mul_le_mul (show x ≤ 255 by omega) (show y ≤ 255 by omega)) (by decide)
          obtain ⟨m, hm⟩ : ∃ m, m = x * y := ⟨_, rfl⟩
          rw [← hm] at HN hm1
          have hmi : (x : Int) * (y : Int) = (m : Int) := by rw [hm]; exact (Int.natCast_mul x y).symm
          have hdi : (i : Int) + (k : Int) = (d : Int) := by omega
          clear hm hd HO2
          have hbound : ∀ j, addO o d m j ≤ 65025 * (32 * i + (k + 1)) := fun j => by have := addO_le (x := m) (d := d) ho j; omega
          clear ho
          go_wp2_with fail
          refine wp_region_anyL (Two 21 1000 fun f1 _ wx => MaW (if f1 then addO o d m else o) g w wx) (by kernel_rfl) hr2.drew ?_
          refine anyL_take (i := 0) (v := ?_) rfl (by kernel_rfl) (by kernel_rfl) (by kernel_rfl) (yl_other (by decide) (by decide) rfl (fun f1 f2 wx hT => ?_)) ?_; rotate_left
          · refine lands_value (w := wx) ?_ hT; go_simp <;> rfl
          simp only [Act.put, List.setIfInBounds_toArray, List.set_cons_zero, List.set_cons_succ]
          refine anyL_take (i := 1) (v := ?_) rfl (by kernel_rfl) (by kernel_rfl) (by kernel_rfl) (yl_other (by decide) (by decide) rfl (fun f1 f2 wx hT => ?_)) ?_; rotate_left
          · refine lands_value (w := wx) ?_ hT; go_simp <;> rfl
          simp only [Act.put, List.setIfInBounds_toArray, List.set_cons_zero, List.set_cons_succ]
          refine anyL_take (i := 2) (v := ?_) rfl (by kernel_rfl) (by kernel_rfl) (by kernel_rfl) (yl_other (by decide) (by decide) rfl (fun f1 f2 wx hT => ?_)) ?_; rotate_left
          · refine lands_value (w := wx) ?_ hT; go_simp <;> rfl
          simp only [Act.put, List.setIfInBounds_toArray, List.set_cons_zero, List.set_cons_succ]
          refine anyL_take (i := 3) (v := .int .i64 (d : Int)) rfl (by kernel_rfl) (by kernel_rfl) (by kernel_rfl) (yl_other (by decide) (by decide) rfl (fun f1 f2 wx hT => ?_)) ?_
          · refine lands_value (w := wx) ?_ hT; go_simp <;> first | exact IntWalk.i64_in _ (by omega) | (rw [IntWalk.i64_in _ (by omega)]; omega) | (rw [IntWalk.i64_in _ (by omega)])
          simp only [Act.put, List.setIfInBounds_toArray, List.set_cons_zero, List.set_cons_succ]
          refine anyL_take (i := 4) (v := ?_) rfl (by kernel_rfl) (by kernel_rfl) (by kernel_rfl) (yl_other (by decide) (by decide) rfl (fun f1 f2 wx hT => ?_)) ?_; rotate_left
          · refine lands_value (w := wx) ?_ hT; go_simp <;> rfl
          simp only [Act.put, List.setIfInBounds_toArray, List.set_cons_zero, List.set_cons_succ]
          refine anyL_take (i := 5) (v := ?_) rfl (by kernel_rfl) (by kernel_rfl) (by kernel_rfl) (yl_other (by decide) (by decide) rfl (fun f1 f2 wx hT => ?_)) ?_; rotate_left
          · refine lands_value (w := wx) ?_ hT; go_simp <;> rfl
          simp only [Act.put, List.setIfInBounds_toArray, List.set_cons_zero, List.set_cons_succ]
          refine anyL_take (i := 6) (v := ?_) rfl (by kernel_rfl) (by kernel_rfl) (by kernel_rfl) (yl_other (by decide) (by decide) rfl (fun f1 f2 wx hT => ?_)) ?_; rotate_left
          · refine lands_value (w := wx) ?_ hT; go_simp <;> rfl
          simp only [Act.put, List.setIfInBounds_toArray, List.set_cons_zero, List.set_cons_succ]
          refine anyL_take (i := 7) (v := .int .i64 (d : Int)) rfl (by kernel_rfl) (by kernel_rfl) (by kernel_rfl) (yl_other (by decide) (by decide) rfl (fun f1 f2 wx hT => ?_)) ?_
          · refine lands_value (w := wx) ?_ hT; go_simp <;> first | exact IntWalk.i64_in _ (by omega) | (rw [IntWalk.i64_in _ (by omega)]; omega) | (rw [IntWalk.i64_in _ (by omega)])
          simp only [Act.put, List.setIfInBounds_toArray, List.set_cons_zero, List.set_cons_succ]
          refine anyL_take (i := 8) (v := ?_) rfl (by kernel_rfl) (by kernel_rfl) (by kernel_rfl) (yl_other (by decide) (by decide) rfl (fun f1 f2 wx hT => ?_)) ?_; rotate_left
          · refine lands_value (w := wx) ?_ hT; go_simp <;> rfl
          simp only [Act.put, List.setIfInBounds_toArray, List.set_cons_zero, List.set_cons_succ]
          refine anyL_take (i := 9) (v := .int .i64 (o d : Int)) rfl (by kernel_rfl) (by kernel_rfl) (by kernel_rfl) (yl_ahead (n := 12) (by decide) (by decide) (by kernel_rfl) rfl (fun f2 wx hT => ?_)) ?_
          · have c0 : wx.cell? ⟨g, d, none⟩ = some (Value.int .i64 (o d : Int)) := hT.at_ hd64; refine lands_value (w := wx) ?_ hT; go_simp
          simp only [Act.put, List.setIfInBounds_toArray, List.set_cons_zero, List.set_cons_succ]
          refine anyL_take (i := 10) (v := ?_) rfl (by kernel_rfl) (by kernel_rfl) (by kernel_rfl) (yl_other (by decide) (by decide) rfl (fun f1 f2 wx hT => ?_)) ?_; rotate_left
          · refine lands_value (w := wx) ?_ hT; go_simp <;> rfl
          simp only [Act.put, List.setIfInBounds_toArray, List.set_cons_zero, List.set_cons_succ]
          refine anyL_take (i := 11) (v := ?_) rfl (by kernel_rfl) (by kernel_rfl) (by kernel_rfl) (yl_other (by decide) (by decide) rfl (fun f1 f2 wx hT => ?_)) ?_; rotate_left
          · refine lands_value (w := wx) ?_ hT; go_simp <;> rfl
          simp only [Act.put, List.setIfInBounds_toArray, List.set_cons_zero, List.set_cons_succ]
          refine anyL_take (i := 12) (v := .int .u8 (x : Int)) rfl (by kernel_rfl) (by kernel_rfl) (by kernel_rfl) (yl_other (by decide) (by decide) rfl (fun f1 f2 wx hT => ?_)) ?_
          · refine lands_value (w := wx) ?_ hT; go_simp; rw [HBA.out]
          simp only [Act.put, List.setIfInBounds_toArray, List.set_cons_zero, List.set_cons_succ]
          refine anyL_take (i := 13) (v := .int .i64 (x : Int)) rfl (by kernel_rfl) (by kernel_rfl) (by kernel_rfl) (yl_other (by decide) (by decide) rfl (fun f1 f2 wx hT => ?_)) ?_
          · refine lands_value (w := wx) ?_ hT; go_simp <;> first | exact IntWalk.i64_in _ (by omega) | (rw [IntWalk.i64_in _ (by omega)]; omega) | (rw [IntWalk.i64_in _ (by omega)])
          simp only [Act.put, List.setIfInBounds_toArray, List.set_cons_zero, List.set_cons_succ]
          refine anyL_take (i := 14) (v := ?_) rfl (by kernel_rfl) (by kernel_rfl) (by kernel_rfl) (yl_other (by decide) (by decide) rfl (fun f1 f2 wx hT => ?_)) ?_; rotate_left
          · refine lands_value (w := wx) ?_ hT; go_simp <;> rfl
          simp only [Act.put, List.setIfInBounds_toArray, List.set_cons_zero, List.set_cons_succ]
          refine anyL_take (i := 15) (v := ?_) rfl (by kernel_rfl) (by kernel_rfl) (by kernel_rfl) (yl_other (by decide) (by decide) rfl (fun f1 f2 wx hT => ?_)) ?_; rotate_left
          · refine lands_value (w := wx) ?_ hT; go_simp <;> rfl
          simp only [Act.put, List.setIfInBounds_toArray, List.set_cons_zero, List.set_cons_succ]
          refine anyL_take (i := 16) (v := .int .u8 (y : Int)) rfl (by kernel_rfl) (by kernel_rfl) (by kernel_rfl) (yl_other (by decide) (by decide) rfl (fun f1 f2 wx hT => ?_)) ?_
          · refine lands_value (w := wx) ?_ hT; go_simp; rw [HBB.out]
          simp only [Act.put, List.setIfInBounds_toArray, List.set_cons_zero, List.set_cons_succ]
          refine anyL_take (i := 17) (v := .int .i64 (y : Int)) rfl (by kernel_rfl) (by kernel_rfl) (by kernel_rfl) (yl_other (by decide) (by decide) rfl (fun f1 f2 wx hT => ?_)) ?_
          · refine lands_value (w := wx) ?_ hT; go_simp <;> first | exact IntWalk.i64_in _ (by omega) | (rw [IntWalk.i64_in _ (by omega)]; omega) | (rw [IntWalk.i64_in _ (by omega)])
          simp only [Act.put, List.setIfInBounds_toArray, List.set_cons_zero, List.set_cons_succ]
          refine anyL_take (i := 18) (v := .int .i64 (m : Int)) rfl (by kernel_rfl) (by kernel_rfl) (by kernel_rfl) (yl_other (by decide) (by decide) rfl (fun f1 f2 wx hT => ?_)) ?_
          · refine lands_value (w := wx) ?_ hT; go_simp <;> first | exact IntWalk.i64_in _ (by omega) | (rw [IntWalk.i64_in _ (by omega)]; omega) | (rw [IntWalk.i64_in _ (by omega)])
          simp only [Act.put, List.setIfInBounds_toArray, List.set_cons_zero, List.set_cons_succ]
          refine anyL_take (i := 19) (v := .int .i64 ((o d + m : Nat) : Int)) rfl (by kernel_rfl) (by kernel_rfl) (by kernel_rfl) (yl_other (by decide) (by decide) rfl (fun f1 f2 wx hT => ?_)) ?_
          · refine lands_value (w := wx) ?_ hT; go_simp <;> first | exact IntWalk.i64_in _ (by omega) | (rw [IntWalk.i64_in _ (by omega)]; omega) | (rw [IntWalk.i64_in _ (by omega)])
          simp only [Act.put, List.setIfInBounds_toArray, List.set_cons_zero, List.set_cons_succ]
          refine anyL_take (i := 20) (v := ?_) rfl (by kernel_rfl) (by kernel_rfl) (by kernel_rfl) (yl_other (by decide) (by decide) rfl (fun f1 f2 wx hT => ?_)) ?_; rotate_left
          · refine lands_value (w := wx) ?_ hT; go_simp <;> rfl
          simp only [Act.put, List.setIfInBounds_toArray, List.set_cons_zero, List.set_cons_succ]
          refine anyL_take (i := 21) (v := undef) rfl (by kernel_rfl) (by kernel_rfl) (by kernel_rfl) (yl_first (by decide) rfl (fun f2 wx hT => ?_)) ?_
          · have c0 : wx.cell? ⟨g, d, none⟩ = some (Value.int .i64 (o d : Int)) := hT.at_ hd64; have fo := hT.r.frozen d; have K := HPUT.out _ m hT; go_simp; exact ⟨rfl, K⟩
          simp only [Act.put]
          refine anyL_done (by kernel_rfl) (fun w5 (K : MaW (addO o d m) g w w5) => ?_) _
          clear hr2 HPUT
          go_wp2_with fail
          go_roundw
          case rel => exact ⟨k + 1, by omega, by go_num, _, hbound, HN, K⟩
          case measure => simp [intOf]; omega
        · obtain rfl : k = nb := by omega
          have HN : Hid (bv o 64 = bv (byteS ta) (i + 1) * bv (byteS tb) k) := Lib.hid (by rw [HO2.out]; exact mul_row _ _ _ _)
          have hb2 : ∀ j, o j ≤ 65025 * (32 * (i + 1)) := fun j => by have := ho j; omega
          clear ho HO2
          go_wp2_with fail
          go_roundw
          case rel => exact ⟨i + 1, by omega, by go_num, _, hb2, HN, hr2⟩
          case measure => simp [intOf]; omega
    · obtain rfl : i = na := by omega
      have hob : ∀ j, o0 j ≤ 66585600 := fun j => by have := ho0 j; omega
      generalize hP : bv (byteS ta) i * bv (byteS tb) nb = P at HO
      have HP := Lib.hid hP
      clear hP ho0 hlt hi
      go_wp2_with fail
      go_loopw [10] (fun kk wr => ∃ k : Nat, k ≤ nc ∧ kk = .int .i64 (k : Int) ∧ ∃ o : Nat → Nat, (∀ j, o j ≤ 66585600 + 255 * k) ∧ Hid (bv o 64 = P + bv (byteS tc) k) ∧ MaW o g w wr) (fun kk _ => nc - (intOf kk).toNat)
      case atStart => exact ⟨0, by omega, rfl, o0, fun j => by have := hob j; omega, Lib.hid (by rw [HO.out]; rfl), hr⟩
      case round =>
        obtain ⟨k, hk, rfl, o, ho, HO2, hr2⟩ := hrel
        clear hr HO hob
        by_cases hlt2 : k < nc
        · have hkc : k < tc.size := by omega
          have HBC := Lib.hid (byteS_at tc k hkc)
          have hbz := byteS_lt tc k
          have hd64 : k < 64 := by omega
          have hl0 : (k : Int) < 64 := by omega
          have hl1 : (0 : Int) ≤ k := by omega
          have hod := ho k
          have HN : Hid (bv (addO o k (byteS tc k)) 64 = P + bv (byteS tc) (k + 1)) := Lib.hid (by
            rw [addO_bv o hd64, HO2.out, Nat.add_assoc]; rfl)
          have HPUT : Hid (∀ wx m, MaW o g w wx → MaW (addO o k m) g w (wx.setCell ⟨g, k, none⟩ (.int .i64 ((o k + m : Nat) : Int)))) := Lib.hid (fun wx m hx => hx.add hd64 m)
          generalize byteS tc k = z at HBC hbz HN
          have hbound : ∀ j, addO o k z j ≤ 66585600 + 255 * (k + 1) := fun j => by have := addO_le (x := z) (d := k) ho j; omega
          clear ho HO2
          go_wp2_with fail
          refine wp_region_anyL (Two 12 1000 fun f1 _ wx => MaW (if f1 then addO o k z else o) g w wx) (by kernel_rfl) hr2.drew ?_
          refine anyL_take (i := 0) (v := ?_) rfl (by kernel_rfl) (by kernel_rfl) (by kernel_rfl) (yl_other (by decide) (by decide) rfl (fun f1 f2 wx hT => ?_)) ?_; rotate_left
          · refine lands_value (w := wx) ?_ hT; go_simp <;> rfl
          simp only [Act.put, List.setIfInBounds_toArray, List.set_cons_zero, List.set_cons_succ]
          refine anyL_take (i := 1) (v := ?_) rfl (by kernel_rfl) (by kernel_rfl) (by kernel_rfl) (yl_other (by decide) (by decide) rfl (fun f1 f2 wx hT => ?_)) ?_; rotate_left
          · refine lands_value (w := wx) ?_ hT; go_simp <;> rfl
          simp only [Act.put, List.setIfInBounds_toArray, List.set_cons_zero, List.set_cons_succ]
          refine anyL_take (i := 2) (v := ?_) rfl (by kernel_rfl) (by kernel_rfl) (by kernel_rfl) (yl_other (by decide) (by decide) rfl (fun f1 f2 wx hT => ?_)) ?_; rotate_left
          · refine lands_value (w := wx) ?_ hT; go_simp <;> rfl
          simp only [Act.put, List.setIfInBounds_toArray, List.set_cons_zero, List.set_cons_succ]
          refine anyL_take (i := 3) (v := ?_) rfl (by kernel_rfl) (by kernel_rfl) (by kernel_rfl) (yl_other (by decide) (by decide) rfl (fun f1 f2 wx hT => ?_)) ?_; rotate_left
          · refine lands_value (w := wx) ?_ hT; go_simp <;> rfl
          simp only [Act.put, List.setIfInBounds_toArray, List.set_cons_zero, List.set_cons_succ]
          refine anyL_take (i := 4) (v := ?_) rfl (by kernel_rfl) (by kernel_rfl) (by kernel_rfl) (yl_other (by decide) (by decide) rfl (fun f1 f2 wx hT => ?_)) ?_; rotate_left
          · refine lands_value (w := wx) ?_ hT; go_simp <;> rfl
          simp only [Act.put, List.setIfInBounds_toArray, List.set_cons_zero, List.set_cons_succ]
          refine anyL_take (i := 5) (v := .int .i64 (o k : Int)) rfl (by kernel_rfl) (by kernel_rfl) (by kernel_rfl) (yl_ahead (n := 12) (by decide) (by decide) (by kernel_rfl) rfl (fun f2 wx hT => ?_)) ?_
          · have c0 : wx.cell? ⟨g, k, none⟩ = some (Value.int .i64 (o k : Int)) := hT.at_ hd64; refine lands_value (w := wx) ?_ hT; go_simp
          simp only [Act.put, List.setIfInBounds_toArray, List.set_cons_zero, List.set_cons_succ]
          refine anyL_take (i := 6) (v := ?_) rfl (by kernel_rfl) (by kernel_rfl) (by kernel_rfl) (yl_other (by decide) (by decide) rfl (fun f1 f2 wx hT => ?_)) ?_; rotate_left
          · refine lands_value (w := wx) ?_ hT; go_simp <;> rfl
          simp only [Act.put, List.setIfInBounds_toArray, List.set_cons_zero, List.set_cons_succ]
          refine anyL_take (i := 7) (v := ?_) rfl (by kernel_rfl) (by kernel_rfl) (by kernel_rfl) (yl_other (by decide) (by decide) rfl (fun f1 f2 wx hT => ?_)) ?_; rotate_left
          · refine lands_value (w := wx) ?_ hT; go_simp <;> rfl
          simp only [Act.put, List.setIfInBounds_toArray, List.set_cons_zero, List.set_cons_succ]
          refine anyL_take (i := 8) (v := .int .u8 (z : Int)) rfl (by kernel_rfl) (by kernel_rfl) (by kernel_rfl) (yl_other (by decide) (by decide) rfl (fun f1 f2 wx hT => ?_)) ?_
          · refine lands_value (w := wx) ?_ hT; go_simp; rw [HBC.out]
          simp only [Act.put, List.setIfInBounds_toArray, List.set_cons_zero, List.set_cons_succ]
          refine anyL_take (i := 9) (v := .int .i64 (z : Int)) rfl (by kernel_rfl) (by kernel_rfl) (by kernel_rfl) (yl_other (by decide) (by decide) rfl (fun f1 f2 wx hT => ?_)) ?_
          · refine lands_value (w := wx) ?_ hT; go_simp <;> first | exact IntWalk.i64_in _ (by omega) | (rw [IntWalk.i64_in _ (by omega)]; omega) | (rw [IntWalk.i64_in _ (by omega)])
          simp only [Act.put, List.setIfInBounds_toArray, List.set_cons_zero, List.set_cons_succ]
          refine anyL_take (i := 10) (v := .int .i64 ((o k + z : Nat) : Int)) rfl (by kernel_rfl) (by kernel_rfl) (by kernel_rfl) (yl_other (by decide) (by decide) rfl (fun f1 f2 wx hT => ?_)) ?_
          · refine lands_value (w := wx) ?_ hT; go_simp <;> first | exact IntWalk.i64_in _ (by omega) | (rw [IntWalk.i64_in _ (by omega)]; omega) | (rw [IntWalk.i64_in _ (by omega)])
          simp only [Act.put, List.setIfInBounds_toArray, List.set_cons_zero, List.set_cons_succ]
          refine anyL_take (i := 11) (v := ?_) rfl (by kernel_rfl) (by kernel_rfl) (by kernel_rfl) (yl_other (by decide) (by decide) rfl (fun f1 f2 wx hT => ?_)) ?_; rotate_left
          · refine lands_value (w := wx) ?_ hT; go_simp <;> rfl
          simp only [Act.put, List.setIfInBounds_toArray, List.set_cons_zero, List.set_cons_succ]
          refine anyL_take (i := 12) (v := undef) rfl (by kernel_rfl) (by kernel_rfl) (by kernel_rfl) (yl_first (by decide) rfl (fun f2 wx hT => ?_)) ?_
          · have c0 : wx.cell? ⟨g, k, none⟩ = some (Value.int .i64 (o k : Int)) := hT.at_ hd64; have fo := hT.r.frozen k; have K := HPUT.out _ z hT; go_simp; exact ⟨rfl, K⟩
          simp only [Act.put]
          refine anyL_done (by kernel_rfl) (fun w5 (K : MaW (addO o k z) g w w5) => ?_) _
          clear hr2 HPUT
          go_wp2_with fail
          go_roundw
          case rel => exact ⟨k + 1, by omega, by go_num, _, hbound, HN, K⟩
          case measure => simp [intOf]; omega
        · obtain rfl : k = nc := by omega
          have hob : ∀ j, o j ≤ 66593760 := fun j => by have := ho j; omega
          obtain ⟨V, hV⟩ : ∃ V, V = bv o 64 := ⟨_, rfl⟩
          have HVM : Hid (V = numV a 32 * numV b 32 + numV c 32) := Lib.hid (by rw [hV, HO2.out, ← HP.out, EA.out, EB.out, EC.out])
          have HV : Hid (∀ j, j < 64 → (o j + cK o j) % 256 = byteK V j) := Lib.hid (fun j hj => by rw [hV]; exact cK_byte o j 64 hj)
          have HRED : Hid (maV a b c = redV (t64 V)) := Lib.hid (by
            rw [red_t64 (by rw [HVM.out]; exact sum_lt (numV_lt _) (numV_lt _) (numV_lt _)), HVM.out]; rfl)
          have hmk := fun w => HK2.out w V
          have hy0 : MbW o V 0 wr.heap.size g w (wr.alloc (.cells (r8 64 (bF V 0)) 5)) := ⟨⟨hr2.r.alloc _, hr2.b.alloc hr2.b.size _, hr2.ge⟩, Blk.new wr _ _, hr2.r.lt⟩
          clear ho HO2 hV HVM HP hr2 hlt2 hk EA EB EC HK2
          go_wp2_with fail
          clear hmk
          generalize wr.heap.size = gb at hy0 ⊢
          go_loopw [11, 13] (fun cc i wr => ∃ k : Nat, k ≤ 64 ∧ i = .int .i64 (k : Int) ∧ cc = .int .i64 (cK o k : Int) ∧ MbW o V k gb g w wr) (fun _ i _ => 64 - (intOf i).toNat)
          case atStart => exact ⟨0, by omega, rfl, by rw [cK_zero]; rfl, hy0⟩
          case round =>
            obtain ⟨k, hk, rfl, rfl, hr⟩ := hrel
            clear hy0
            by_cases hlt3 : k < 64
            · have c0 : wr.cell? ⟨g, k, none⟩ = some (Value.int .i64 (o k : Int)) := hr.d.at_ hlt3
              have c1 := hr.o.at_ hlt3
              have fz := hr.o.frozen k
              have hx1 := hob k
              have hx2 := cK_le o 66593760 hob k
              have hx3 := cK_le o 66593760 hob (k + 1)
              obtain ⟨x, hx⟩ : ∃ x, x = o k + cK o k := ⟨_, rfl⟩
              have hsum : (o k : Int) + (cK o k : Int) = (x : Int) := by omega
              have hxb : x < 200000000 := by omega
              have hu : IntKind.u8.wrap (x : Int) = (byteK V k : Int) := by
                rw [IntKind.wrap_u8, ← HV.out k hlt3, ← hx]; omega
              have hdv : (x : Int).tdiv 256 = (cK o (k + 1) : Int) := by
                rw [Int.tdiv_eq_ediv_of_nonneg (by omega), ← cK_next, ← hx]; omega
              have hbk := byteK_lt V k
              have HPUT : Hid (∀ wx, MbW o V k gb g w wx → MbW o V (k + 1) gb g w (wx.setCell ⟨gb, k, none⟩ (.int .u8 (byteK V k : Int)))) := Lib.hid (fun wx hx => hx.put hlt3)
              generalize byteK V k = bk at hu hbk HPUT
              clear hx
              go_wp2_with fail
              go_roundw
              case rel => exact ⟨k + 1, by omega, by go_num, rfl, HPUT.out _ hr⟩
              case measure => simp [intOf]; omega
            · obtain rfl : k = 64 := by omega
              have hcv : (convert 34 9 (.slice (some ⟨gb, 0, none⟩) 64 64)).run Try.prog wr = .ok (.string (t64 V)) wr := run_string_of_blk wr _ _ 5 Try.underlying34 Try.underlying5 Try.underlying9 _ _ _ _ _ hr.o
              have hb := hr.d.b
              have CR := Lib.hid (fun w => rreduce_any (t64 V) w)
              generalize redV (t64 V) = OUT at CR HRED
              generalize t64 V = TT at hcv CR
              clear hr HV hob
              go_wp2_with fail
              refine (CR.out _).mono ?_
              rintro e w9 ⟨rfl, hq⟩
              go_wp2_with fail
              go_ret
              exact ⟨by rw [HRED.out]; rfl, hb.trans (hq.mono hb.size)⟩
end Go.Proofs.Ytnfcgpoafmmioaa
