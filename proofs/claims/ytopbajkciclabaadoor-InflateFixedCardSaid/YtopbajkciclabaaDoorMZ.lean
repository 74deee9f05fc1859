/- The library's Repeat over one number. -/
import Derived.Test.YtopbajkciclabaaDoorMY
import Derived.Laws.CopyRow
import Derived.Lib.AppendZerosOnto
import Derived.Laws.AppendOwn
import Derived.Test.YtopbajkciclabaaDoorCards
import Derived.Test.YtopbajkciclabaaDoorTie
import Derived.ProofKit
import Derived.OpenShut
import Derived.Deep.DeepHandedRow
import Derived.Lib.LaidTab
namespace Go.Proofs.YtopbajkciclabaaDoor
open Go.RowKit
set_option maxRecDepth 100000 in
set_option maxHeartbeats 2000000 in
theorem lmul_any (n : Nat) (hn : n ≤ 1000) (w : World) :
    Calls Tryd.prog 53 #[.int .u64 1, .int .u64 (n : Int)] w fun e w' => e = .returned (.tuple #[.int .u64 0, .int .u64 (n : Int)]) ∧ w = w' := by
  have C := mul64_any 1#64 (BitVec.ofNat 64 n) w
  have e1 : iw (1#64) = 1 := by unfold iw; rfl
  have e2 : iw (BitVec.ofNat 64 n) = (n : Int) := by unfold iw; rw [BitVec.toNat_ofNat, Nat.mod_eq_of_lt (by omega)]
  have e3 : iw (mulw 1#64 (BitVec.ofNat 64 n)) = (n : Int) := by
    unfold iw; rw [mul_lo, BitVec.toNat_ofNat, BitVec.toNat_ofNat, Nat.mod_eq_of_lt (show n < 2 ^ 64 by omega)]
    show (((1 * n) % W64 : Nat) : Int) = _
    rw [Nat.one_mul, Nat.mod_eq_of_lt (by unfold W64; omega)]
  have e4 : iw (mulHi 1#64 (BitVec.ofNat 64 n)) = 0 := by
    unfold iw; rw [mul_hi, BitVec.toNat_ofNat, BitVec.toNat_ofNat, Nat.mod_eq_of_lt (show n < 2 ^ 64 by omega)]
    show (((1 * n) / W64 : Nat) : Int) = _
    rw [Nat.one_mul, Nat.div_eq_of_lt (by unfold W64; omega)]; rfl
  rw [e1, e2, e3, e4] at C
  clear e1 e2 e3 e4
  go_enter Tryd.func53, Tryd.ntmps53
  go_wp2_with fail
  refine C.mono ?_
  rintro e w1 ⟨rfl, rfl⟩
  go_wp2_with fail
  go_ret2
  exact ⟨rfl, rfl⟩
end Go.Proofs.YtopbajkciclabaaDoor
/- The library's Repeat over one number. -/
namespace Go.Proofs.YtopbajkciclabaaDoor
open Go.RowKit
theorem Lands.mono {P : Program} {R R' : World → Prop} {v : Value} {r : Result Next} (h : Lands P R v r) (k : ∀ w, R w → R' w) : Lands P R' v r := by
  cases r with
  | ok n w' =>
    cases n with
    | value u => exact ⟨h.1, k _ h.2⟩
    | skip => exact ⟨h.1, k _ h.2⟩
    | enter f args =>
      have h : Calls P f args w' _ := h
      exact h.mono fun e w'' ⟨h1, h2⟩ => ⟨h1, k _ h2⟩
    | _ => exact h.elim
  | halt x w' => exact h.elim
theorem int_one : (Tryd.prog.info? 3).map (·.size) = some 1 := by kernel_rfl
theorem lands_copyI {o : Oper} {a : Act} {w : World} (d s : Operand) (ho : o.op = .call { callee := .builtin .copy, args := #[d, s], argTypes := #[34, 34] })
    (g off dl dc : Nat) (hd : a.eval d = .slice (some ⟨g, off, none⟩) dl dc) (ad : Addr) (sl sc : Nat) (hs : a.eval s = .slice (some ad) sl sc) (N : Nat) (F : Nat → Int) (hg : Blk w g 3 (rI N F)) {b : Int} (m : Nat) (hm : m = Nat.min sl dl) (hfit : off + m ≤ N)
    (hsrc : ∀ j, j < m → w.cell? (ad.add j) = some (.int .i64 ((fun _ => b) j))) :
    Lands Tryd.prog (fun w' => w' = w.setRow g (rI N fun i => if off ≤ i ∧ i < off + m then b else F i)) (.int .i64 (m : Int)) ((execOp a.eval o).run Tryd.prog w) := by
  have hl : (List.replicate m (Value.int .i64 b)).length = m := List.length_replicate
  have h := run_copy_row (P := Tryd.prog) w 34 34 o.type 3 g off dl dc ad sl sc (rI N F) 3 (List.replicate m (.int .i64 b)) Tryd.underlying34 int_one hg (by rw [hl]; exact hm) (fun j v hv => by
    rw [List.getElem?_replicate] at hv
    split at hv
    · next hj => injection hv with hv; rw [← hv]; exact hsrc j hj
    · cases hv) (by rw [hl, row_size]; exact hfit) (fun v hv => by rw [List.eq_of_mem_replicate hv]; rfl)
  have e : ((rI N F).toList.take off ++ List.replicate m (Value.int .i64 b) ++ (rI N F).toList.drop (off + (List.replicate m (Value.int .i64 b)).length)).toArray = rI N fun i => if off ≤ i ∧ i < off + m then b else F i := by
    apply Array.ext_getElem?
    intro i
    rw [List.getElem?_toArray, hl]
    by_cases hi : i < N
    · have e2 := row_get (fun i => Value.int .i64 (if off ≤ i ∧ i < off + m then b else F i)) hi
      have e3 := row_get (fun i => Value.int .i64 (F i)) hi
      rw [e2]
      by_cases h1 : i < off
      · rw [List.append_assoc, List.getElem?_append_left (by rw [List.length_take, Array.length_toList, row_size]; omega), List.getElem?_take_of_lt h1, Array.getElem?_toList, e3, if_neg (by omega)]
      · by_cases h2 : i < off + m
        · rw [List.append_assoc, List.getElem?_append_right (by rw [List.length_take, Array.length_toList, row_size]; omega), List.length_take, Array.length_toList, row_size, List.getElem?_append_left (by rw [hl]; omega), List.getElem?_replicate, if_pos (by omega), if_pos (by omega)]
        · have hlen : (List.take off (rI N F).toList ++ List.replicate m (Value.int .i64 b)).length = off + m := by rw [List.length_append, List.length_take, Array.length_toList, row_size, hl]; omega
          rw [List.getElem?_append_right (by rw [hlen]; omega), hlen, List.getElem?_drop, show off + m + (i - (off + m)) = i by omega, Array.getElem?_toList, e3, if_neg (by omega)]
    · rw [List.getElem?_eq_none, Array.getElem?_eq_none (by rw [row_size]; omega)]
      rw [List.length_append, List.length_append, List.length_take, List.length_drop, Array.length_toList, row_size, hl]; omega
  rw [e, hl] at h
  have : (execOp a.eval o).run Tryd.prog w = .ok (.value (.int .i64 (m : Int))) (w.setRow g (rI N fun i => if off ≤ i ∧ i < off + m then b else F i)) := by
    unfold execOp
    simp only [ho, resolve, invoke, builtin, Sem.run_bind, Sem.run_pure, Result.andThen_ok, List.map_toArray, List.map_cons, List.map_nil, hd, hs, h]
    rfl
  rw [this]; exact ⟨rfl, rfl⟩
theorem run_intsN (n : Nat) (hn : n ≤ 1000000) (w : World) :
    (Instr.makeSlice 34 (.int .i64 (n : Int)) (.int .i64 (n : Int))).run Tryd.prog w = .ok (.slice (some ⟨w.heap.size, 0, none⟩) n n) (w.alloc (.cells (rI n fun _ => 0) 3)) := by
  obtain ⟨i0, hi, hz0, hz1, hz2⟩ := info_parts int_infoC
  have h := run_make (P := Tryd.prog) w 34 3 i0 (.int .i64 0) Tryd.underlying34 hi hz0 .i64 .i64 (n : Int) n (by omega) (by omega) (by rw [hz2]; omega) (by omega)
  rw [hz1, Int.toNat_natCast, Nat.mul_one, show Value.cells (.int .i64 0) = #[Value.int .i64 0] from rfl, made_ints] at h
  exact h
set_option maxRecDepth 100000 in
set_option maxHeartbeats 8000000 in
theorem lrep_any (b : Int) (N q : Nat) (w : World) (h : Blk w q 3 #[.int .i64 b]) (h1 : 1 ≤ N) (hN : N ≤ 400) :
    Calls Tryd.prog 43 #[.slice (some ⟨q, 0, none⟩) 1 1, .int .i64 (N : Int)] w fun e w' => ∃ z, e = .returned (.slice (some ⟨z, 0, none⟩) N N) ∧ Blk w' z 3 (rI N fun _ => b) ∧ w.heap.size ≤ z ∧ Below w.heap.size w w' := by
  have C := lmul_any N (by omega) w
  have hmk : ∀ w, (Instr.makeSlice 34 (.int .i64 (N : Int)) (.int .i64 (N : Int))).run Tryd.prog w = .ok (.slice (some ⟨w.heap.size, 0, none⟩) N N) (w.alloc (.cells (rI N fun _ => 0) 3)) := run_intsN N (by omega)
  have hneg : ¬ (N : Int) < 0 := by omega
  have hu : IntKind.u64.wrap (N : Int) = (N : Int) := by rw [IntKind.wrap_u64]; omega
  have hi : IntKind.i64.wrap (N : Int) = (N : Int) := IntWalk.i64_in _ (by omega)
  have hum : (N : Int) % 18446744073709551616 = (N : Int) := by omega
  have hbig : ¬ (N : Int) > 9223372036854775807 := by omega
  have b0 := (Below.refl _ w).alloc (Nat.le_refl _) (.cells (rI N fun _ => 0) 3)
  have hq := h.lt
  have hz0 := Blk.new w 3 (rI N fun _ => 0)
  have hqa : Blk (w.alloc (.cells (rI N fun _ => 0) 3)) q 3 #[.int .i64 b] := h.alloc _
  have HB := Lib.hid (⟨hz0, hqa, b0⟩ : Blk (w.alloc (.cells (rI N fun _ => 0) 3)) w.heap.size 3 (rI N fun _ => 0) ∧ Blk (w.alloc (.cells (rI N fun _ => 0) 3)) q 3 #[.int .i64 b] ∧ Below w.heap.size w (w.alloc (.cells (rI N fun _ => 0) 3)))
  have HBN : Hid (1 ≤ N ∧ N ≤ 400) := Lib.hid ⟨h1, hN⟩
  clear h hz0 hqa b0 hN h1
  have HC : Hid (∀ (o : Oper) (a : Act), o.op = .call { callee := .builtin .copy, args := #[.tmp 31, .tmp 32], argTypes := #[34, 34] } → a.eval (.tmp 31) = .slice (some ⟨w.heap.size, 0, none⟩) N N → a.eval (.tmp 32) = .slice (some ⟨q, 0, none⟩) 1 1 →
      Lands Tryd.prog (fun w' => w' = (w.alloc (.cells (rI N fun _ => 0) 3)).setRow w.heap.size (rI N fun i => if 0 ≤ i ∧ i < 0 + 1 then b else 0)) (.int .i64 ((1 : Nat) : Int)) ((execOp a.eval o).run Tryd.prog (w.alloc (.cells (rI N fun _ => 0) 3)))) := Lib.hid fun o a ho hd hs =>
    lands_copyI (.tmp 31) (.tmp 32) ho w.heap.size 0 N N hd ⟨q, 0, none⟩ 1 1 hs N (fun _ => 0) HB.out.1 1 (by have := HBN.out; simp only [Nat.min_def]; split <;> omega) (by have := HBN.out; omega) (fun j hj => by
      obtain rfl : j = 0 := by omega
      exact HB.out.2.1.cell 0)
  have H1 : Hid (Blk ((w.alloc (.cells (rI N fun _ => 0) 3)).setRow w.heap.size (rI N fun i => if 0 ≤ i ∧ i < 0 + 1 then b else 0)) w.heap.size 3 (rI N fun i => if i < 1 then b else 0) ∧ Below w.heap.size w ((w.alloc (.cells (rI N fun _ => 0) 3)).setRow w.heap.size (rI N fun i => if 0 ≤ i ∧ i < 0 + 1 then b else 0))) := Lib.hid ⟨(HB.out.1.row_ _).cast_ (row_ext fun i _ => by
    dsimp only
    by_cases h : i < 1
    · rw [if_pos h, if_pos (show 0 ≤ i ∧ i < 0 + 1 by omega)]
    · rw [if_neg h, if_neg (show ¬ (0 ≤ i ∧ i < 0 + 1) by omega)]), below_setRow' HB.out.2.2 (Nat.le_refl _) _⟩
  have HZ : Hid (w.heap.size ≤ w.heap.size) := Lib.hid (Nat.le_refl _)
  go_enter Tryd.func43, Tryd.ntmps43
  go_wp2_with fail
  refine C.mono ?_
  rintro e w1 ⟨rfl, rfl⟩
  go_wp2_with (refine wpList_valK (.int .i64 ((1 : Nat) : Int)) rfl (HC.out _ _ rfl rfl rfl) ?_; rintro _ rfl; simp only [pu])
  generalize (w.alloc (.cells (rI N fun _ => 0) 3)).setRow w.heap.size (rI N fun i => if 0 ≤ i ∧ i < 0 + 1 then b else 0) = wa at H1 ⊢
  obtain ⟨z, hz⟩ : ∃ z, z = w.heap.size := ⟨_, rfl⟩
  have H1b := Lib.hid H1.out.2
  have H1a := Lib.hid H1.out.1
  rw [← hz] at H1a ⊢
  have HZ2 := Lib.hid hz
  clear H1
  have HON : Hid (1 ≤ N) := Lib.hid HBN.out.1
  clear hz hmk HC HB C hneg hu hum hbig HZ
  go_loopg [8] (N - 1) (fun gk c wr => ∃ n : Nat, gk = N - n ∧ c = .int .i64 (n : Int) ∧ 1 ≤ n ∧ n ≤ N ∧ Hid (Blk wr z 3 (rI N fun i => if i < n then b else 0) ∧ Below w.heap.size w wr))
  case atStart => exact ⟨1, rfl, rfl, Nat.le_refl 1, HON.out, Lib.hid ⟨H1a.out, H1b.out⟩⟩
  case round =>
    obtain ⟨n, hgk, rfl, hn1, hnN, HW⟩ := hrel
    by_cases hlt : n < N
    · obtain ⟨m, hm⟩ : ∃ m, m = Nat.min n (N - n) := ⟨_, rfl⟩
      have hmle : m ≤ n ∧ m ≤ N - n ∧ 1 ≤ m := by
        rw [hm]; simp only [Nat.min_def]; split <;> omega
      have HMN : Hid (m ≤ n ∧ m ≤ N - n ∧ 1 ≤ m ∧ n < N ∧ gk = N - n) := Lib.hid ⟨hmle.1, hmle.2.1, hmle.2.2, hlt, hgk⟩
      have HMM := Lib.hid hm
      have hlti : (n : Int) < (N : Int) := by omega
      have hnle : (n : Int) ≤ (N : Int) := by omega
      have hne : ¬ N = n := by omega
      have hbN := HBN.out
      have hw : IntKind.i64.wrap ((n : Int) + (m : Int)) = ((n + m : Nat) : Int) := by rw [IntWalk.i64_in _ (by omega)]; omega
      have HST : Hid (∀ wx, (Blk wx z 3 (rI N fun i => if i < n then b else 0) ∧ Below w.heap.size w wx) → Blk (wx.setRow z (rI N fun i => if n ≤ i ∧ i < n + m then b else if i < n then b else 0)) z 3 (rI N fun i => if i < n + m then b else 0) ∧ Below w.heap.size w (wx.setRow z (rI N fun i => if n ≤ i ∧ i < n + m then b else if i < n then b else 0))) := Lib.hid fun wx h => ⟨(h.1.row_ _).cast_ (row_ext fun i _ => by
        dsimp only
        by_cases h1 : n ≤ i ∧ i < n + m
        · rw [if_pos h1, if_pos h1.2]
        · rw [if_neg h1]
          by_cases h2 : i < n
          · rw [if_pos h2, if_pos (by omega)]
          · rw [if_neg h2, if_neg (by omega)]), below_setRow' h.2 (by have := HZ2.out; omega) _⟩
      clear hm hmle hgk hlt hbN
      go_wp2_with fail
      refine wp_region_anyL (Two 7 1001 fun b' _ wx => (b' = false → Blk wx z 3 (rI N fun i => if i < n then b else 0) ∧ Below w.heap.size w wx) ∧ (b' = true → Blk wx z 3 (rI N fun i => if i < n + m then b else 0) ∧ Below w.heap.size w wx)) (by kernel_rfl) ⟨fun _ => ⟨HW.out.1.drew, HW.out.2.drew⟩, fun h => by (cases h)⟩ ?_
      refine anyL_take (i := 0) (v := ?_) rfl (by kernel_rfl) (by kernel_rfl) (by kernel_rfl) (yl_other (by decide) (by decide) rfl (fun f1 f2 wx hT => ?_)) ?_; rotate_left
      · refine lands_value (w := wx) ?_ hT; go_simp <;> rfl
      simp only [pu]
      refine anyL_take (i := 1) (v := ?_) rfl (by kernel_rfl) (by kernel_rfl) (by kernel_rfl) (yl_other (by decide) (by decide) rfl (fun f1 f2 wx hT => ?_)) ?_; rotate_left
      · refine lands_value (w := wx) ?_ hT; go_simp <;> rfl
      simp only [pu]
      refine anyL_take (i := 2) (v := ?_) rfl (by kernel_rfl) (by kernel_rfl) (by kernel_rfl) (yl_other (by decide) (by decide) rfl (fun f1 f2 wx hT => ?_)) ?_; rotate_left
      · refine lands_value (w := wx) ?_ hT; go_simp <;> rfl
      simp only [pu]
      refine anyL_take (i := 3) (v := .slice (some ⟨z, n, none⟩) (N - n) (N - n)) rfl (by kernel_rfl) (by kernel_rfl) (by kernel_rfl) (yl_other (by decide) (by decide) rfl (fun f1 f2 wx hT => ?_)) ?_
      · refine lands_value (w := wx) ?_ hT; go_simp; skip
      simp only [pu]
      refine anyL_take (i := 4) (v := ?_) rfl (by kernel_rfl) (by kernel_rfl) (by kernel_rfl) (yl_other (by decide) (by decide) rfl (fun f1 f2 wx hT => ?_)) ?_; rotate_left
      · refine lands_value (w := wx) ?_ hT; go_simp <;> rfl
      simp only [pu]
      refine anyL_take (i := 5) (v := ?_) rfl (by kernel_rfl) (by kernel_rfl) (by kernel_rfl) (yl_other (by decide) (by decide) rfl (fun f1 f2 wx hT => ?_)) ?_; rotate_left
      · refine lands_value (w := wx) ?_ hT; go_simp <;> rfl
      simp only [pu]
      refine anyL_take (i := 6) (v := .slice (some ⟨z, 0, none⟩) n N) rfl (by kernel_rfl) (by kernel_rfl) (by kernel_rfl) (yl_other (by decide) (by decide) rfl (fun f1 f2 wx hT => ?_)) ?_
      · refine lands_value (w := wx) ?_ hT; go_simp; skip
      simp only [pu]
      refine anyL_take (i := 7) (v := .int .i64 (m : Int)) rfl (by kernel_rfl) (by kernel_rfl) (by kernel_rfl) (yl_first (by decide) rfl (fun f2 wx hT => ?_)) ?_
      · have h5 := hT.1 rfl; refine (lands_copyI (.tmp 41) (.tmp 44) rfl z n (N - n) (N - n) rfl ⟨z, 0, none⟩ n N rfl N (fun i => if i < n then b else 0) h5.1 m HMM.out (by have := HMN.out; omega) (fun j hj => by rw [addr_add, Nat.zero_add, h5.1.at_ (show j < N by have := HMN.out; omega)]; exact congrArg (fun x : Int => some (Value.int .i64 x)) (if_pos (show j < n by have := HMN.out; omega)))).mono fun w' hw => ⟨fun h => by (cases h), fun _ => ?_⟩; rw [hw]; exact HST.out wx h5
      simp only [pu]
      refine anyL_take (i := 8) (v := ?_) rfl (by kernel_rfl) (by kernel_rfl) (by kernel_rfl) (yl_other (by decide) (by decide) rfl (fun f1 f2 wx hT => ?_)) ?_; rotate_left
      · refine lands_value (w := wx) ?_ hT; go_simp <;> rfl
      simp only [pu]
      refine anyL_take (i := 9) (v := ?_) rfl (by kernel_rfl) (by kernel_rfl) (by kernel_rfl) (yl_other (by decide) (by decide) rfl (fun f1 f2 wx hT => ?_)) ?_; rotate_left
      · refine lands_value (w := wx) ?_ hT; go_simp <;> rfl
      simp only [pu]
      refine anyL_done rfl ?_ _
      intro w2 hT
      have H2 := Lib.hid (hT.2 rfl : Blk w2 z 3 (rI N fun i => if i < n + m then b else 0) ∧ Below w.heap.size w w2)
      clear hT HW
      go_wp2_with fail
      go_roundg (N - (n + m))
      case measure => have := HMN.out; omega
      case rel => exact ⟨n + m, rfl, by go_num, by have := HMN.out; omega, by have := HMN.out; omega, H2⟩
    · obtain rfl : n = N := by omega
      have hlti : ¬ (n : Int) < (n : Int) := by omega
      go_wp2_with fail
      go_ret
      exact ⟨z, rfl, HW.out.1.cast_ (row_ext fun i hi => by dsimp only; rw [if_pos hi]), by have := HZ2.out; omega, HW.out.2⟩
end Go.Proofs.YtopbajkciclabaaDoor
/- The library's Grow of nothing and Concat of four lists. -/
namespace Go.Proofs.YtopbajkciclabaaDoor
open Go.RowKit
theorem zeros_ints (n : Nat) : Builtin.zeroCells (Value.cells (.int .i64 0)) n = (List.replicate n (Value.int .i64 0)).toArray := by
  apply Array.ext_getElem?
  intro i
  unfold Builtin.zeroCells
  by_cases h : i < n
  · simp [h, Value.cells, Nat.mod_one]
  · simp [h, Value.cells]
set_option maxRecDepth 100000 in
set_option maxHeartbeats 2000000 in
theorem lgrow_any (n : Nat) (h1 : 1 ≤ n) (hn : n ≤ 2000) (w : World) :
    Calls Tryd.prog 52 #[.slice none 0 0, .int .i64 (n : Int)] w fun e w' => ∃ v, e = .returned v ∧ LI w.heap.size w [] v w' := by
  obtain ⟨i0, hi, hz0, hz1, hz2⟩ := info_parts int_infoC
  have hneg : ¬ (n : Int) < 0 := by omega
  have hpos : (n : Int) > 0 := by omega
  have hw : IntKind.i64.wrap (n : Int) = (n : Int) := IntWalk.i64_in _ (by omega)
  have hap := Go.Lib.run_append_grow_zeros (P := Tryd.prog) w 34 3 34 3 i0 (.int .i64 0) .i64 .i64 Tryd.underlying34 Tryd.underlying3 hi hz0 none 0 0 [] (run_firstCells_none w.drew i0.size 0 0 0) n (by omega) (by rw [hz1]; decide) (by omega) (by omega) (by rw [hz2]; omega) (by
    rw [hz2]
    unfold Builtin.nextslicecap
    rw [if_pos (by omega)]; omega)
  obtain ⟨C, hC⟩ : ∃ C, C = grownCap w (0 + n) 0 3 := ⟨_, rfl⟩
  have hC1 : n ≤ C := by have := grownCap_ge w (0 + n) 0 3; rw [hC]; omega
  have hC2 : C ≤ maxLen := by rw [hC]; exact grownCap_le_maxLen w (0 + n) 0 3 (by unfold maxLen; omega)
  rw [← hC] at hap
  have e0 : (#[] ++ Builtin.zeroCells (Value.int .i64 0).cells n ++ Builtin.zeroCells (Value.int .i64 0).cells (C - (0 + n)) : Array Value) = rI C fun _ => 0 := by
    rw [zeros_ints, zeros_ints]
    apply Array.ext_getElem?
    intro i
    by_cases h : i < C
    · have e2 := row_get (fun i => Value.int .i64 ((fun _ => (0 : Int)) i)) h
      rw [e2]
      simp only [List.append_toArray, List.getElem?_toArray, List.nil_append]
      by_cases h2 : i < n
      · rw [List.getElem?_append_left (by rw [List.length_replicate]; exact h2), List.getElem?_replicate, if_pos h2]
      · rw [List.getElem?_append_right (by rw [List.length_replicate]; omega), List.length_replicate, List.getElem?_replicate, if_pos (by omega)]
    · rw [Array.getElem?_eq_none (by simp; omega), Array.getElem?_eq_none (by rw [row_size]; omega)]
  rw [e0] at hap
  have HAP : Hid (∀ (o : Oper) (a : Act), o.op = .call { callee := .builtin .append, args := #[.tmp 20, .tmp 21], argTypes := #[34, 3] } → o.type = 34 → a.eval (.tmp 20) = .slice none 0 0 → a.eval (.tmp 21) = .int .i64 (n : Int) →
      Lands Tryd.prog (fun w' => w' = w.drew.alloc (.cells (rI C fun _ => 0) 3)) (.slice (some ⟨w.heap.size, 0, none⟩) n C) ((execOp a.eval o).run Tryd.prog w)) := Lib.hid fun o a ho ht h20 h21 => by
    have : (execOp a.eval o).run Tryd.prog w = .ok (.value (.slice (some ⟨w.heap.size, 0, none⟩) n C)) (w.drew.alloc (.cells (rI C fun _ => 0) 3)) := by
      unfold execOp
      simp only [ho, ht, resolve, invoke, builtin, Sem.run_bind, Sem.run_pure, Result.andThen_ok, List.map_toArray, List.map_cons, List.map_nil, h20, h21, hap, Nat.zero_add]
    rw [this]; exact ⟨rfl, rfl⟩
  have HC := Lib.hid (⟨hC1, hC2⟩ : n ≤ C ∧ C ≤ maxLen)
  have hb := (Below.refl w.heap.size w).drew.alloc (Nat.le_refl _) (.cells (rI C fun _ => 0) 3)
  have HB := Lib.hid (⟨hb, Blk.new w.drew 3 (rI C fun _ => 0)⟩ : Below w.heap.size w (w.drew.alloc (.cells (rI C fun _ => 0) 3)) ∧ Blk (w.drew.alloc (.cells (rI C fun _ => 0) 3)) w.heap.size 3 (rI C fun _ => 0))
  clear hap e0 hC hi hz0 hz1 hz2 hb h1 hn hC1 hC2
  go_enter Tryd.func52, Tryd.ntmps52
  go_wp2_with (refine wpList_valK (.slice (some ⟨w.heap.size, 0, none⟩) n C) rfl (HAP.out _ _ rfl rfl rfl rfl) ?_; rintro _ rfl; simp only [pu])
  go_ret
  refine ⟨_, rfl, ⟨rfl, .inr ⟨w.heap.size, C, rI C fun _ => 0, rfl, Nat.le_refl _, HB.out.2, Nat.zero_le _, HC.out.2, by rw [row_size, Nat.mul_one], rfl⟩⟩, HB.out.1, HB.out.1.size⟩
set_option maxRecDepth 100000 in
/-- A list of one number so often behind a list of one's own. -/
theorem wpList_appI {ops : Array Oper} {rest : List Oper} {o : Oper} {a : Act} {Q : Exit → Act → World → Prop} {B : Nat} {w0 wr : World} {l : List Int} {v : Value} (hgd : o.guard = none) (s x : Operand)
    (ho : o.op = .call { callee := .builtin .append, args := #[s, x], argTypes := #[34, 34] }) (hs : a.eval s = v) (h : LI B w0 l v wr) (q n : Nat) (b : Int) (hx : a.eval x = .slice (some ⟨q, 0, none⟩) n n) (hq : Blk wr q 3 (rI n fun _ => b)) (hn : l.length + n ≤ 1000000)
    (k : ∀ v' w', LI B w0 (l ++ List.replicate n b) v' w' → wpList Tryd.prog ops Q rest (a.put o.dst v') w') : wpList Tryd.prog ops Q (o :: rest) a wr := by
  obtain ⟨i0, hi, hz0, hz1, hz2⟩ := info_parts int_infoC
  refine wpList_append_own _ hgd s x 34 ho B 3 i0 (.int .i64 0) 1 8 Tryd.underlying34 hi hz0 hz1 hz2 rfl (by decide) v l.length _ hs h.own ⟨q, 0, none⟩ n n (List.replicate n (.int .i64 b)) hx (by rw [List.length_replicate, Nat.mul_one]) (fun j u hu => ?_) (fun u hu => by rw [List.eq_of_mem_replicate hu]; rfl) (by unfold maxLen; omega) (by omega) h.lo ?_
  · rw [List.getElem?_replicate] at hu
    split at hu
    · next hj => injection hu with hu; rw [← hu, addr_add, Nat.zero_add, hq.at_ hj]
    · cases hu
  · intro v' w2 hown2 hg2 _
    refine k v' w2 ⟨?_, h.b.grown hg2 h.lo (own_le h.own), Nat.le_trans h.lo hg2.size⟩
    rw [List.length_append, List.length_replicate, List.map_append, List.map_replicate]
    exact hown2
/-- The lists one behind the other. -/
def catL (nn : Nat → Nat) (bb : Nat → Int) : Nat → List Int
  | 0 => []
  | k + 1 => catL nn bb k ++ List.replicate (nn k) (bb k)
def sumN (nn : Nat → Nat) : Nat → Nat
  | 0 => 0
  | k + 1 => sumN nn k + nn k
theorem catL_len (nn : Nat → Nat) (bb : Nat → Int) (k : Nat) : (catL nn bb k).length = sumN nn k := by
  induction k with
  | zero => rfl
  | succ k ih =>
    show (catL nn bb k ++ List.replicate (nn k) (bb k)).length = sumN nn k + nn k
    rw [List.length_append, List.length_replicate, ih]
theorem sumN_le {nn : Nat → Nat} (h : ∀ i, nn i ≤ 400) (k : Nat) : sumN nn k ≤ 400 * k := by
  induction k with
  | zero => exact Nat.le_refl 0
  | succ k ih => have := h k; show sumN nn k + nn k ≤ _; omega
set_option maxRecDepth 100000 in
set_option maxHeartbeats 8000000 in
theorem lconcat_any (q : Nat) (zz nn : Nat → Nat) (bb : Nat → Int) (w : World) (h : Blk w q 34 (row 4 fun i => .slice (some ⟨zz i, 0, none⟩) (nn i) (nn i))) (hb : ∀ i, i < 4 → Blk w (zz i) 3 (rI (nn i) fun _ => bb i)) (hn : ∀ i, nn i ≤ 400) (h1 : 1 ≤ nn 0) :
    Calls Tryd.prog 42 #[.slice (some ⟨q, 0, none⟩) 4 4] w fun e w' => ∃ v, e = .returned v ∧ LI w.heap.size w (catL nn bb 4) v w' := by
  have HC : Hid (∀ k, k < 4 → ∀ wx, Below w.heap.size w wx → wx.cell? ⟨q, k, none⟩ = some (.slice (some ⟨zz k, 0, none⟩) (nn k) (nn k))) := Lib.hid fun k hk wx hx => (h.below hx h.lt).at_ hk
  have HB : Hid (∀ k, k < 4 → ∀ wx, Below w.heap.size w wx → Blk wx (zz k) 3 (rI (nn k) fun _ => bb k)) := Lib.hid fun k hk wx hx => (hb k hk).below hx (hb k hk).lt
  have HS : Hid (1 ≤ sumN nn 4 ∧ sumN nn 4 ≤ 1600) := Lib.hid ⟨by show 1 ≤ 0 + nn 0 + nn 1 + nn 2 + nn 3; omega, sumN_le hn 4⟩
  have HN := Lib.hid hn
  clear h hb hn h1
  go_enter Tryd.func42, Tryd.ntmps42
  go_wp2_with fail
  go_loopw [3, 11] (fun s i wr => ∃ k : Nat, k ≤ 4 ∧ s = .int .i64 (sumN nn k : Int) ∧ i = .int .i64 (k : Int) ∧ w = wr) (fun _ i _ => 4 - (intOf i).toNat)
  case atStart => exact ⟨0, by omega, rfl, rfl, rfl⟩
  case round =>
    obtain ⟨k, hk, rfl, rfl, rfl⟩ := hrel
    by_cases hlt : k < 4
    · have hki : (k : Int) < 4 := by omega
      have c0 := HC.out k hlt w (Below.refl _ _)
      have hl := HN.out k
      have hs := sumN_le HN.out k
      have hw : IntKind.i64.wrap ((sumN nn k : Int) + (nn k : Int)) = (sumN nn (k + 1) : Int) := by
        rw [IntWalk.i64_in _ (by omega)]; show _ = ((sumN nn k + nn k : Nat) : Int); omega
      have hneg : ¬ ((sumN nn (k + 1) : Nat) : Int) < 0 := by omega
      clear hl hs
      obtain ⟨Z, hZ⟩ : ∃ Z, Z = sumN nn (k + 1) := ⟨_, rfl⟩
      rw [← hZ] at hw hneg
      have HZ := Lib.hid hZ
      clear hZ
      generalize sumN nn k = Y at hw ⊢
      generalize nn k = X at c0 hw ⊢
      go_wp2_with fail
      go_roundw
      case rel => exact ⟨k + 1, by omega, by rw [HZ.out], by go_num, by trivial⟩
      case measure => simp only [intOf]; omega
    · obtain rfl : k = 4 := by omega
      have hki : ¬ (((4 : Nat) : Int)) < 4 := by omega
      have G := lgrow_any (sumN nn 4) HS.out.1 (by have := HS.out; omega) w
      go_wp2_with fail
      refine G.mono ?_
      rintro e w1 ⟨v, rfl, hL⟩
      have HL : Hid (LI w.heap.size w (catL nn bb 0) v w1) := Lib.hid hL
      clear G hL
      go_wp2_with fail
      go_loopw [6, 27] (fun v i wr => ∃ k : Nat, k ≤ 4 ∧ i = .int .i64 (k : Int) ∧ Hid (LI w.heap.size w (catL nn bb k) v wr)) (fun _ i _ => 4 - (intOf i).toNat)
      case atStart => exact ⟨0, by omega, rfl, HL⟩
      case round =>
        obtain ⟨k, hk, rfl, HL2⟩ := hrel
        clear HL
        by_cases hlt : k < 4
        · have hki : (k : Int) < 4 := by omega
          have c0 := HC.out k hlt _ HL2.out.b
          have hb := HB.out k hlt _ HL2.out.b
          have HLen : Hid ((catL nn bb k).length + nn k ≤ 1000000) := Lib.hid (by rw [catL_len]; have := sumN_le HN.out k; have := HN.out k; omega)
          have HBK := Lib.hid hb
          have HKK := Lib.hid hlt
          clear hb hlt
          go_wp2_with (at_builtin; refine wpList_appI rfl (.tmp 31) (.tmp 32) rfl rfl HL2.out (zz k) (nn k) (bb k) rfl HBK.out HLen.out ?_; intro v2 w2 h2)
          go_roundw
          case rel => exact ⟨k + 1, by have := HKK.out; omega, by go_num, Lib.hid h2⟩
          case measure => simp only [intOf]; omega
        · obtain rfl : k = 4 := by omega
          have hki : ¬ (((4 : Nat) : Int)) < 4 := by omega
          go_wp2_with fail
          go_ret
          exact ⟨_, rfl, HL2.out⟩
end Go.Proofs.YtopbajkciclabaaDoor
/- The developers' fixedCodes of chapter 10. -/
namespace Go.Proofs.YtopbajkciclabaaDoor
open Go.RowKit
theorem Known.cons {B : Nat} {w0 w : World} {l : List (Nat × TypeId × Array Value)} {z : Nat} {t : TypeId} {cs : Array Value} (h : Known B w0 l w) (hb : Blk w z t cs) : Known B w0 ((z, t, cs) :: l) w :=
  ⟨h.b, h.lo, fun x hx => by
    rcases List.mem_cons.1 hx with rfl | hx
    · exact hb
    · exact h.blk x hx⟩
theorem IS.castF {p : Option Addr} {n cap : Nat} {f g : Nat → Int} {w : World} (h : IS p n cap f w) (e : ∀ i, i < n → f i = g i) : IS p n cap g w :=
  ⟨h.nil_, fun a ha i hi => by rw [← e i hi]; exact h.cell a ha i hi, h.lt, fun i hi => by rw [← e i hi]; exact h.lo i hi, fun i hi => by rw [← e i hi]; exact h.hi i hi⟩
theorem fixA_cat : catL (fun i => [144, 112, 24, 8].getD i 0) (fun i => [8, 9, 7, 8].getD i 0) 4 = firstI (numF fixA) 288 := by decide +kernel
theorem fixA_len : fixA.length = 288 := by decide +kernel
theorem fixB_len : fixB.length = 32 := by decide +kernel
theorem fixA_ok : newE (numF fixA) 288 = 0 := by decide +kernel
theorem fixB_ok : newE (numF fixB) 32 = 0 := by decide +kernel
theorem fixB_is : ∀ i, i < 32 → (5 : Int) = numF fixB i := by
  have : ∀ i : Fin 32, (5 : Int) = numF fixB i.val := by decide +kernel
  exact fun i hi => this ⟨i, hi⟩
theorem fixA_small : ∀ i, i < 288 → 0 ≤ numF fixA i ∧ numF fixA i < 100 := by
  have : ∀ i : Fin 288, 0 ≤ numF fixA i.val ∧ numF fixA i.val < 100 := by decide +kernel
  exact fun i hi => this ⟨i, hi⟩
set_option maxRecDepth 100000 in
set_option maxHeartbeats 8000000 in
theorem dfixed_any (w : World) :
    Calls Tryd.prog 37 #[] w fun e w' => ∃ v1 v2, e = .returned (.tuple #[.agg #[.pointer v1, .pointer v2], .bool true]) ∧ Below w.heap.size w w' ∧ CodeV (.pointer v1) (numF fixA) 288 w' ∧ CodeV (.pointer v2) (numF fixB) 32 w' := by
  have hsz : (Tryd.prog.info? 47).map (·.size) = some 2 := by kernel_rfl
  have HSZ := Lib.hid hsz
  have K0 : Known w.heap.size w [(w.heap.size, 47, #[.pointer none, .pointer none])] (w.alloc (.cells #[.pointer none, .pointer none] 47)) := (Known.begin w).add _ _
  have HK0 := Lib.hid K0
  clear hsz K0
  go_enter Tryd.func37, Tryd.ntmps37
  go_wp2_with fail
  obtain ⟨q, hq⟩ : ∃ q, q = w.heap.size := ⟨_, rfl⟩
  have HQ := Lib.hid hq
  have HK : Hid (Known w.heap.size w [(q, 47, #[.pointer none, .pointer none])] (w.alloc (.cells #[.pointer none, .pointer none] 47))) := Lib.hid (by rw [hq]; exact HK0.out)
  rw [← hq]
  have HWS : Hid ((w.alloc (.cells #[.pointer none, .pointer none] 47)).heap.size = q + 1) := Lib.hid (by rw [hq]; simp)
  clear hq HK0
  generalize w.alloc (.cells #[.pointer none, .pointer none] 47) = wa at HK HWS ⊢
  refine (lrep_any 8 144 (q + 1) (wa.alloc (.cells #[.int .i64 8] 3)) (by rw [← HWS.out]; exact Blk.new wa _ _) (by decide) (by decide)).mono ?_
  rintro e wb0 ⟨z0, rfl, hz0, _, b0⟩
  have HK0 : Hid (Known w.heap.size w [(z0, 3, rI 144 fun _ => 8), (q, 47, #[.pointer none, .pointer none])] wb0) := Lib.hid (((HK.out.alloc _).below b0).cons hz0)
  clear HK hz0 b0
  go_wp2_with fail
  refine (lrep_any 9 112 wb0.heap.size (wb0.alloc (.cells #[.int .i64 9] 3)) (Blk.new wb0 _ _) (by decide) (by decide)).mono ?_
  rintro e wb1 ⟨z1, rfl, hz1, _, b1⟩
  have HK1 : Hid (Known w.heap.size w [(z1, 3, rI 112 fun _ => 9), (z0, 3, rI 144 fun _ => 8), (q, 47, #[.pointer none, .pointer none])] wb1) := Lib.hid (((HK0.out.alloc _).below b1).cons hz1)
  clear HK0 hz1 b1
  go_wp2_with fail
  refine (lrep_any 7 24 wb1.heap.size (wb1.alloc (.cells #[.int .i64 7] 3)) (Blk.new wb1 _ _) (by decide) (by decide)).mono ?_
  rintro e wb2 ⟨z2, rfl, hz2, _, b2⟩
  have HK2 : Hid (Known w.heap.size w [(z2, 3, rI 24 fun _ => 7), (z1, 3, rI 112 fun _ => 9), (z0, 3, rI 144 fun _ => 8), (q, 47, #[.pointer none, .pointer none])] wb2) := Lib.hid (((HK1.out.alloc _).below b2).cons hz2)
  clear HK1 hz2 b2
  go_wp2_with fail
  refine (lrep_any 8 8 wb2.heap.size (wb2.alloc (.cells #[.int .i64 8] 3)) (Blk.new wb2 _ _) (by decide) (by decide)).mono ?_
  rintro e wb3 ⟨z3, rfl, hz3, _, b3⟩
  have HK3 : Hid (Known w.heap.size w [(z3, 3, rI 8 fun _ => 8), (z2, 3, rI 24 fun _ => 7), (z1, 3, rI 112 fun _ => 9), (z0, 3, rI 144 fun _ => 8), (q, 47, #[.pointer none, .pointer none])] wb3) := Lib.hid (((HK2.out.alloc _).below b3).cons hz3)
  clear HK2 hz3 b3
  go_wp2_with fail
  have hbs : Blk (wb3.alloc (.cells #[.slice (some ⟨z0, 0, none⟩) 144 144, .slice (some ⟨z1, 0, none⟩) 112 112, .slice (some ⟨z2, 0, none⟩) 24 24, .slice (some ⟨z3, 0, none⟩) 8 8] 34)) wb3.heap.size 34 (row 4 fun i => .slice (some ⟨[z0, z1, z2, z3].getD i 0, 0, none⟩) ([144, 112, 24, 8].getD i 0) ([144, 112, 24, 8].getD i 0)) := Blk.new wb3 _ _
  have HKc := Lib.hid (HK3.out.alloc (.cells #[.slice (some ⟨z0, 0, none⟩) 144 144, .slice (some ⟨z1, 0, none⟩) 112 112, .slice (some ⟨z2, 0, none⟩) 24 24, .slice (some ⟨z3, 0, none⟩) 8 8] 34))
  have C := lconcat_any wb3.heap.size (fun i => [z0, z1, z2, z3].getD i 0) (fun i => [144, 112, 24, 8].getD i 0) (fun i => [8, 9, 7, 8].getD i 0) _ hbs (fun i hi => by
    rcases (show i = 0 ∨ i = 1 ∨ i = 2 ∨ i = 3 by omega) with rfl | rfl | rfl | rfl
    · exact HKc.out.blk _ (.tail _ (.tail _ (.tail _ (.head _))))
    · exact HKc.out.blk _ (.tail _ (.tail _ (.head _)))
    · exact HKc.out.blk _ (.tail _ (.head _))
    · exact HKc.out.blk _ (.head _)) (fun i => by
    rcases (show i = 0 ∨ i = 1 ∨ i = 2 ∨ i = 3 ∨ 4 ≤ i by omega) with rfl | rfl | rfl | rfl | h
    · decide
    · decide
    · decide
    · decide
    · simp [List.getD, List.getElem?_eq_none (show [144, 112, 24, 8].length ≤ i by exact h)]) (by decide)
  rw [fixA_cat] at C
  refine C.mono ?_
  rintro e wc ⟨v, rfl, hL⟩
  obtain ⟨p, cap, rfl, hIS, hpB⟩ := hL.is (fun i hi => by have := fixA_small i hi; omega) (fun i hi => by have := fixA_small i hi; omega)
  have HI := Lib.hid hIS
  have HKd := Lib.hid (HKc.out.below hL.b)
  clear hIS hL hpB hbs C HKc HK3
  go_wp2_with fail
  refine (lrep_any 5 32 wc.heap.size (wc.alloc (.cells #[.int .i64 5] 3)) (Blk.new wc _ _) (by decide) (by decide)).mono ?_
  rintro e wd ⟨z5, rfl, hz5, _, b5⟩
  have HKe := Lib.hid ((HKd.out.alloc (.cells #[.int .i64 5] 3)).below b5)
  have HI2 := Lib.hid ((HI.out.below ((Below.refl _ wc).alloc (Nat.le_refl _) (.cells #[.int .i64 5] 3))).below b5)
  have HJ : Hid (IS (some ⟨z5, 0, none⟩) 32 32 (numF fixB) wd) := Lib.hid ((IS.row hz5 (fun _ _ => by decide) (fun _ _ => by decide)).castF fixB_is)
  clear HKd HI hz5 b5
  go_wp2_with fail
  have C := dnew_any p 288 cap (numF fixA) (some ⟨z5, 0, none⟩) 32 32 (numF fixB) wd HI2.out HJ.out (by decide) (by decide)
  rw [decide_eq_true (⟨fixA_ok, fixB_ok⟩ : newE (numF fixA) 288 = 0 ∧ newE (numF fixB) 32 = 0)] at C
  refine C.mono ?_
  rintro e we ⟨v1, v2, rfl, be, k1, k2⟩
  have HKf := Lib.hid (HKe.out.below be)
  have HC1 := Lib.hid (k1 fixA_ok)
  have HC2 := Lib.hid (k2 fixB_ok)
  have HB : Hid (Blk we q 47 #[.pointer none, .pointer none]) := Lib.hid (HKf.out.blk _ (.tail _ (.tail _ (.tail _ (.tail _ (.head _))))))
  clear HKe be k1 k2 HI2 HJ C
  go_wp2_with (refine wpList_store_row rfl 47 _ _ rfl q #[.pointer v1, .pointer v2] rfl rfl 47 _ HB.out HSZ.out rfl (two_one _ _) ?_)
  exact bodyPost_ret (results_cell_row_slot rfl _ _ q 47 #[.pointer v1, .pointer v2] (0, 0) _ _ rfl (HB.out.row_ _) Tryd.underlying47 rfl HSZ.out rfl) rfl ⟨v1, v2, rfl, below_setRow' HKf.out.b (by have := HQ.out; omega) _, HC1.out.setRow HB.out (by decide) _, HC2.out.setRow HB.out (by decide) _⟩
end Go.Proofs.YtopbajkciclabaaDoor
/- The developers' sayByFixedCodes of chapter 10. -/
namespace Go.Proofs.YtopbajkciclabaaDoor
open Go.RowKit
theorem eq_nil (w : World) : (Op.equalIn 9999 45 (.pointer none) (.pointer none)).run Tryd.prog w = .ok true w := by kernel_rfl
theorem eq_some (a : Addr) (w : World) : (Op.equalIn 9999 45 (.pointer (some a)) (.pointer none)).run Tryd.prog w = .ok false w := by kernel_rfl
/-- The fixed codes that are kept, or none yet. -/
def FX (k1 k2 : Value) (w : World) : Prop := (k1 = .pointer none ∧ k2 = .pointer none) ∨ (CodeV k1 (numF fixA) 288 w ∧ CodeV k2 (numF fixB) 32 w)
/-- What a block's method leaves, the fixed codes with it. -/
def Dx (g : Nat) (s : ByteArray) (M : Nat) (x : Fl) (v : Value) (w w' : World) : Prop := ∃ v' k1 k2, Mv g v w v' w' ∧ (x.e = 0 → UW g s M x.p x.o v' k1 k2 w' ∧ FX k1 k2 w')
theorem UW.setC {g : Nat} {s : ByteArray} {M p : Nat} {o : List Nat} {v k1 k2 : Value} {w : World} (h : UW g s M p o v k1 k2 w) (c1 c2 : Value) : UW g s M p o v c1 c2 ((w.setCell ⟨g, 4, none⟩ c1).setCell ⟨g, 5, none⟩ c2) :=
  ⟨(h.blk.set_ 4 _).set_ 5 _, ownsRow_setCell_below (ownsRow_setCell_below h.own (a := ⟨g, 4, none⟩) (Nat.lt_succ_self g) _) (a := ⟨g, 5, none⟩) (Nat.lt_succ_self g) _⟩
theorem codedS_fix (B : Nat → Nat) (T M p : Nat) (o : List Nat) : codedS B T M fixA fixB ⟨p, 0, o⟩ = symbolsS B T M (toL (numF fixA)) 288 (toL (numF fixB)) 32 (T + 1) ⟨p, 0, o⟩ := by
  unfold codedS
  rw [codeS_num, fixA_len, if_pos fixA_ok, codeS_num, fixB_len, if_pos fixB_ok, toL_num, toL_num]
theorem CodeV.setU {c : Value} {f : Nat → Int} {n : Nat} {g : Nat} {s : ByteArray} {M p : Nat} {o : List Nat} {v k1 k2 : Value} {w : World} (h : CodeV c f n w) (hu : UW g s M p o v k1 k2 w) (j : Nat) (u : Value) : CodeV c f n (w.setCell ⟨g, j, none⟩ u) :=
  h.mv hu ((Mv.refl g v w).set j u)
set_option maxRecDepth 100000 in
set_option maxHeartbeats 8000000 in
theorem dsayFixed_any (g : Nat) (s : ByteArray) (M p : Nat) (o : List Nat) (v k1 k2 : Value) (w : World) (h : UW g s M p o v k1 k2 w) (hx : FX k1 k2 w) (hs : s.size ≤ 281474976710656) (hp : p ≤ 8 * s.size) (hM : M ≤ 1048576) (ho : o.length ≤ M) :
    Calls Tryd.prog 27 #[.pointer (some ⟨g, 0, none⟩)] w fun e w' => e = .returned (.int .i64 ((codedS (bitH s) (8 * s.size) M fixA fixB ⟨p, 0, o⟩).e : Int)) ∧ Dx g s M (codedS (bitH s) (8 * s.size) M fixA fixB ⟨p, 0, o⟩) v w w' := by
  rw [codedS_fix]
  have H := Lib.hid h
  have fin : Hid (∀ c1 c2 v' w1, CodeV c1 (numF fixA) 288 w1 → CodeV c2 (numF fixB) 32 w1 → UW g s M p o v' c1 c2 w1 → Mv g v w v' w1 → ∀ S, S = symbolsS (bitH s) (8 * s.size) M (toL (numF fixA)) 288 (toL (numF fixB)) 32 (8 * s.size + 1) ⟨p, 0, o⟩ →
      Calls Tryd.prog 38 #[.pointer (some ⟨g, 0, none⟩), .agg #[c1, c2]] w1 fun e w' => e = .returned (.int .i64 (S.e : Int)) ∧ Dx g s M S v w w') := Lib.hid fun c1 c2 v' w1 hc1 hc2 hu m S hS => by
    refine (dsayBy_any g s M p o v' c1 c2 c1 c2 _ _ _ _ w1 hu hc1 hc2 hs hp hM ho).mono ?_
    rintro e w' ⟨h1, v2, m2, h2⟩
    rw [← hS] at h1 h2
    exact ⟨h1, v2, c1, c2, m.trans m2, fun h0 => ⟨h2 h0, .inr ⟨hc1.mv hu m2, hc2.mv hu m2⟩⟩⟩
  obtain ⟨S, hS⟩ : ∃ S, S = symbolsS (bitH s) (8 * s.size) M (toL (numF fixA)) 288 (toL (numF fixB)) 32 (8 * s.size + 1) ⟨p, 0, o⟩ := ⟨_, rfl⟩
  rw [← hS]
  have HS := Lib.hid hS
  have c4 := h.c4
  have c5 := h.c5
  clear hS h
  rcases hx with ⟨rfl, rfl⟩ | ⟨hc1, hc2⟩
  · have C := dfixed_any w
    have q0 := eq_nil
    go_enter Tryd.func27, Tryd.ntmps27
    go_wp2_with fail
    refine C.mono ?_
    rintro e w1 ⟨v1, v2, rfl, b1, hc1, hc2⟩
    have h1 := H.out.below b1
    have h2 := h1.setC (.pointer v1) (.pointer v2)
    have m2 := (((Mv.refl g v w).below b1).set 4 (.pointer v1)).set 5 (.pointer v2)
    have hu4 : UW g s M p o v (.pointer v1) (.pointer none) (w1.setCell ⟨g, 4, none⟩ (.pointer v1)) := ⟨h1.blk.set_ 4 _, ownsRow_setCell_below h1.own (a := ⟨g, 4, none⟩) (Nat.lt_succ_self g) _⟩
    have C2 := fin.out (.pointer v1) (.pointer v2) v _ ((hc1.setU h1 4 _).setU hu4 5 (.pointer v2)) ((hc2.setU h1 4 _).setU hu4 5 (.pointer v2)) h2 m2 S HS.out
    have d4 := h1.c4
    have d5 := h1.c5
    have g4 := h1.fz 4
    have g5 := h1.fz 5
    have f5 := hu4.fz 5
    have e5 := hu4.c5
    have z4 := h2.c4
    have z5 := h2.c5
    clear c4 c5 h1 h2 m2 hu4 C b1 hc1 hc2
    go_wp2_with fail
    refine C2.mono ?_
    rintro e w2 ⟨rfl, hdx⟩
    have HDX := Lib.hid hdx
    clear hdx C2
    go_wp2_with fail
    go_ret
    exact ⟨rfl, HDX.out⟩
  · have C2 := fin.out k1 k2 v w hc1 hc2 H.out (Mv.refl g v w) S HS.out
    obtain ⟨a1, rfl⟩ := hc1.some
    obtain ⟨a2, rfl⟩ := hc2.some
    have q1 := eq_some
    clear hc1 hc2
    go_enter Tryd.func27, Tryd.ntmps27
    go_wp2_with fail
    refine C2.mono ?_
    rintro e w2 ⟨rfl, hdx⟩
    have HDX := Lib.hid hdx
    clear hdx C2
    go_wp2_with fail
    go_ret
    exact ⟨rfl, HDX.out⟩
end Go.Proofs.YtopbajkciclabaaDoor
/- Where the next bit stands behind a block, in numbers; a block in the developers' steps. -/
namespace Go.Proofs.YtopbajkciclabaaDoor
open Go.RowKit
/-- If there is no error, the next bit is from p0 on, and not behind the end. -/
def Rn (p0 T M : Nat) (x : Fl) : Prop := (x.e = 0 → p0 ≤ x.p ∧ x.p ≤ T) ∧ x.o.length ≤ M
section
variable {B : Nat → Nat} {p0 T M : Nat} {x : Fl}
theorem Rn.err (h : Rn p0 T M x) {p e : Nat} (he : e ≠ 0) : Rn p0 T M ⟨p, e, x.o⟩ := ⟨fun h0 => absurd h0 he, h.2⟩
theorem bitsS_Rn (h : Rn p0 T M x) {n : Nat} : Rn p0 T M (bitsS B T n x).2 := by
  unfold bitsS
  split
  · exact h
  · next he =>
    have := h.1 (by omega)
    split
    · next hn => exact ⟨fun _ => ⟨by show p0 ≤ x.p + n; omega, hn⟩, h.2⟩
    · exact h.err (by decide)
theorem symS_Rn (h : Rn p0 T M x) {l : Nat → Nat} {n : Nat} : Rn p0 T M (symS B T l n x).2 := by
  unfold symS
  split
  · exact h
  · next he =>
    have := h.1 (by omega)
    split
    · next k q e =>
      have := nextV_in 15 0 e
      exact ⟨fun _ => ⟨by show p0 ≤ q; omega, this.2⟩, h.2⟩
    · exact h.err (by decide)
theorem sayS_Rn (h : Rn p0 T M x) {b : Nat} : Rn p0 T M (sayS M b x) := by
  refine ⟨fun he => ?_, sayS_len h.2⟩
  rw [sayS_p]
  refine h.1 ?_
  unfold sayS at he
  split at he
  · exact he
  · next hx => omega
theorem copyS_Rn : ∀ (n : Nat) {x : Fl}, Rn p0 T M x → Rn p0 T M (copyS B T M n x)
  | 0, _, h => h
  | n + 1, x, h => by
    by_cases he : x.e ≠ 0
    · rw [copyS_err he]; exact h
    · rw [copyS_one (by omega)]; exact copyS_Rn n (sayS_Rn (bitsS_Rn h))
theorem backS_Rn {d : Nat} : ∀ (n : Nat) {x : Fl}, Rn p0 T M x → Rn p0 T M (backS M d n x)
  | 0, _, h => h
  | n + 1, x, h => by
    by_cases he : x.e ≠ 0
    · rw [backS_err he]; exact h
    · have e : backS M d (n + 1) x = backS M d n (sayS M (x.o.getD (x.o.length - d) 0) x) := if_neg he
      rw [e]; exact backS_Rn n (sayS_Rn h)
theorem copiedS_Rn (h : Rn p0 T M x) {k : Nat} {l : Nat → Nat} {n : Nat} : Rn p0 T M (copiedS B T M k l n x) := by
  unfold copiedS
  split
  · exact h.err (by decide)
  · dsimp only
    have h2 : Rn p0 T M (symS B T l n (bitsS B T (lengthV (k : Int)).2.1 x).2).2 := symS_Rn (bitsS_Rn h)
    split
    · exact h2.err (by decide)
    · refine backS_Rn _ ?_
      split
      · exact (bitsS_Rn h2).err (by decide)
      · exact bitsS_Rn h2
theorem symbolsS_Rn {l : Nat → Nat} {n : Nat} {g : Nat → Nat} {m : Nat} : ∀ (t : Nat) {x : Fl}, Rn p0 T M x → Rn p0 T M (symbolsS B T M l n g m t x)
  | 0, _, h => h
  | t + 1, x, h => by
    unfold symbolsS
    split
    · exact h
    · dsimp only
      have h2 : Rn p0 T M (symS B T l n x).2 := symS_Rn h
      split
      · exact h2
      · split
        · exact symbolsS_Rn t (sayS_Rn h2)
        · exact symbolsS_Rn t (copiedS_Rn h2)
theorem codeS_Rn (h : Rn p0 T M x) {l : List Nat} : Rn p0 T M (codeS l x) := by
  unfold codeS
  split
  · exact h
  · split
    · exact h
    · exact h.err (by decide)
theorem codedS_Rn (h : Rn p0 T M x) {a b : List Nat} : Rn p0 T M (codedS B T M a b x) := symbolsS_Rn _ (codeS_Rn (codeS_Rn h))
theorem fewS_Rn : ∀ (n i : Nat) (f : Nat → Nat) {x : Fl}, Rn p0 T M x → Rn p0 T M (fewS B T n i f x).2
  | 0, _, _, _, h => h
  | n + 1, i, _, _, h => fewS_Rn n (i + 1) _ (bitsS_Rn h)
theorem tellS_Rn {g : Nat → Nat} {all : Nat} : ∀ (f : Nat) (L : List Nat) {x : Fl}, Rn p0 T M x → Rn p0 T M (tellS B T g all f L x).2
  | 0, _, _, h => h
  | f + 1, L, x, h => by
    have h1 : Rn p0 T M (symS B T g 19 x).2 := symS_Rn h
    unfold tellS
    split
    · exact h
    · dsimp only
      split
      · exact h1
      · split
        · exact tellS_Rn f _ h1
        · split
          · exact h1.err (by decide)
          · split
            · exact tellS_Rn f _ (bitsS_Rn h1)
            · split
              · exact tellS_Rn f _ (bitsS_Rn h1)
              · exact tellS_Rn f _ (bitsS_Rn h1)
theorem tailT_Rn (h : Rn p0 T M x) {many far few : Nat} : Rn p0 T M (tailT B T many far few x).2 := by
  unfold tailT
  have h0 : Rn p0 T M (if x.e = 0 ∧ (many > 286 ∨ far > 30) then ⟨x.p, 2, x.o⟩ else x) := by
    split
    · exact h.err (by decide)
    · exact h
  generalize (if x.e = 0 ∧ (many > 286 ∨ far > 30) then (⟨x.p, 2, x.o⟩ : Fl) else x) = z at h0
  dsimp only
  have h1 : Rn p0 T M (tellS B T (fewS B T few 0 (fun _ => 0) z).1 (many + far) (many + far + 1) [] (codeS ((List.range 19).map (fewS B T few 0 (fun _ => 0) z).1) (fewS B T few 0 (fun _ => 0) z).2)).2 := tellS_Rn _ _ (codeS_Rn (fewS_Rn _ _ _ h0))
  generalize tellS B T (fewS B T few 0 (fun _ => 0) z).1 (many + far) (many + far + 1) [] (codeS ((List.range 19).map (fewS B T few 0 (fun _ => 0) z).1) (fewS B T few 0 (fun _ => 0) z).2) = t at h1
  have h2 : Rn p0 T M (if t.2.e = 0 ∧ (t.1.length > many + far ∨ t.1.getD 256 0 = 0) then ⟨t.2.p, 2, t.2.o⟩ else t.2) := by
    split
    · exact h1.err (by decide)
    · exact h1
  generalize (if t.2.e = 0 ∧ (t.1.length > many + far ∨ t.1.getD 256 0 = 0) then (⟨t.2.p, 2, t.2.o⟩ : Fl) else t.2) = y at h2
  split
  · exact h2
  · exact h2
theorem toldS_Rn (h : Rn p0 T M x) : Rn p0 T M (toldS B T x).2 := by rw [toldS_tail]; exact tailT_Rn (bitsS_Rn (bitsS_Rn (bitsS_Rn h)))
end
theorem storedS_Rn {B : Nat → Nat} {p0 t M : Nat} {x : Fl} (h : Rn p0 (8 * t) M x) : Rn p0 (8 * t) M (storedS B (8 * t) M x) := by
  have h0 : Rn p0 (8 * t) M ⟨(x.p + 7) / 8 * 8, x.e, x.o⟩ := ⟨fun he => by have := h.1 he; show p0 ≤ (x.p + 7) / 8 * 8 ∧ (x.p + 7) / 8 * 8 ≤ 8 * t; omega, h.2⟩
  have h1 : Rn p0 (8 * t) M (bitsS B (8 * t) 16 (bitsS B (8 * t) 16 ⟨(x.p + 7) / 8 * 8, x.e, x.o⟩).2).2 := bitsS_Rn (bitsS_Rn h0)
  unfold storedS
  dsimp only
  refine copyS_Rn _ ?_
  split
  · exact h1.err (by decide)
  · exact h1
theorem blockS_dev (B : Nat → Nat) (T M p : Nat) (o : List Nat) (r1 r2 : Nat × Bool × Nat) (h1 : r1 = numS B T p 0 1) (h2 : r2 = numS B T r1.2.2 0 2) :
    ((r1.2.1 = false ∨ r2.2.1 = false ∨ r2.1 = 3) → r2.1 < 4 → (blockS B T M ⟨p, 0, o⟩).2.e = 2) ∧
    (r1.2.1 = true → r2.2.1 = true → (blockS B T M ⟨p, 0, o⟩).1 = decide (r1.1 = 1) ∧ (r2.1 = 0 → (blockS B T M ⟨p, 0, o⟩).2 = storedS B T M ⟨r2.2.2, 0, o⟩) ∧ (r2.1 = 1 → (blockS B T M ⟨p, 0, o⟩).2 = codedS B T M fixA fixB ⟨r2.2.2, 0, o⟩) ∧
      (r2.1 = 2 → (blockS B T M ⟨p, 0, o⟩).2 = codedS B T M (toldS B T ⟨r2.2.2, 0, o⟩).1.1 (toldS B T ⟨r2.2.2, 0, o⟩).1.2 (toldS B T ⟨r2.2.2, 0, o⟩).2)) := by
  have X := bitsS_num B T p 1 o
  rw [← h1] at X
  have Y := bitsS_num B T r1.2.2 2 o
  rw [← h2] at Y
  clear h1 h2
  obtain ⟨a, b1, p1⟩ := r1
  obtain ⟨d, b2, p2⟩ := r2
  unfold blockS
  rcases X with ⟨e, xb⟩ | ⟨e, _, xb⟩
  · have e : b1 = true := e
    subst e
    rcases Y with ⟨e, yb⟩ | ⟨e, _, yb⟩
    · have e : b2 = true := e
      subst e
      dsimp only at xb yb
      simp only [xb, yb]
      refine ⟨fun h _ => ?_, fun _ _ => ⟨by trivial, fun h0 => ?_, fun h0 => ?_, fun h0 => ?_⟩⟩
      · have h3 : d = 3 := by
          rcases h with h | h | h
          · cases h
          · cases h
          · exact h
        rw [if_neg (fun h => h rfl), if_neg (by omega), if_neg (by omega), if_neg (by omega)]
      · rw [if_neg (fun h => h rfl), if_pos h0]
      · rw [if_neg (fun h => h rfl), if_neg (by omega), if_pos h0]
      · rw [if_neg (fun h => h rfl), if_neg (by omega), if_neg (by omega), if_pos h0]
    · have e : b2 = false := e
      subst e
      try dsimp only at xb yb
      simp only [xb, yb]
      refine ⟨fun _ _ => ?_, fun _ h => by cases h⟩
      rw [if_pos (show (2 : Nat) ≠ 0 by decide)]
  · have e : b1 = false := e
    subst e
    refine ⟨fun _ _ => ?_, fun h => by cases h⟩
    simp only [xb]
    rw [bitsS_err (show (2 : Nat) ≠ 0 by decide), if_pos (show (2 : Nat) ≠ 0 by decide)]
end Go.Proofs.YtopbajkciclabaaDoor
/- The developers' sayBlocks of chapter 10. -/
namespace Go.Proofs.YtopbajkciclabaaDoor
open Go.RowKit
theorem blocksS_one (B : Nat → Nat) (T M t : Nat) (p : Nat) (o : List Nat) : blocksS B T M (t + 1) false ⟨p, 0, o⟩ = blocksS B T M t (blockS B T M ⟨p, 0, o⟩).1 (blockS B T M ⟨p, 0, o⟩).2 := if_neg (by rintro (h | h); cases h; exact h rfl)
theorem blocksS_last {B : Nat → Nat} {T M t : Nat} {x : Fl} : blocksS B T M t true x = x := by
  cases t with
  | zero => rfl
  | succ t => exact if_pos (.inl rfl)
theorem blocksS_err {B : Nat → Nat} {T M t : Nat} {b : Bool} {x : Fl} (h : x.e ≠ 0) : blocksS B T M t b x = x := by
  cases t with
  | zero => rfl
  | succ t => exact if_pos (.inr h)
set_option maxRecDepth 100000 in
set_option maxHeartbeats 8000000 in
theorem dblocks_any (g : Nat) (s : ByteArray) (M : Nat) (v k1 k2 : Value) (w : World) (h : UW g s M 0 [] v k1 k2 w) (hx : FX k1 k2 w) (hT : TB w) (hg : 0 < g) (hs : s.size ≤ 281474976710656) (hM : M ≤ 1048576) :
    Calls Tryd.prog 17 #[.pointer (some ⟨g, 0, none⟩)] w fun e w' => e = .returned (.int .i64 ((blocksS (bitH s) (8 * s.size) M (8 * s.size + 1) false ⟨0, 0, []⟩).e : Int)) ∧ Dx g s M (blocksS (bitH s) (8 * s.size) M (8 * s.size + 1) false ⟨0, 0, []⟩) v w w' := by
  obtain ⟨S, hS⟩ : ∃ S, S = blocksS (bitH s) (8 * s.size) M (8 * s.size + 1) false ⟨0, 0, []⟩ := ⟨_, rfl⟩
  rw [← hS]
  have HS := Lib.hid hS
  have H0 := Lib.hid (⟨h, Mv.refl g v w, hx, hT⟩ : UW g s M 0 [] v k1 k2 w ∧ Mv g v w v w ∧ FX k1 k2 w ∧ TB w)
  have HSZ := Lib.hid hs
  have HM := Lib.hid hM
  clear h hx hT hS hs hM
  go_enter Tryd.func17, Tryd.ntmps17
  go_wp2_with fail
  go_step3
  go_wp2_with fail
  go_step3
  go_wp2_with fail
  go_loopg [2] (8 * s.size + 1) (fun gk r wr => ∃ (t q : Nat) (O : List Nat) (u c1 c2 : Value), gk = t ∧ r = .int .i64 0 ∧ Hid (S = blocksS (bitH s) (8 * s.size) M t false ⟨q, 0, O⟩) ∧ q ≤ 8 * s.size ∧ 8 * s.size - q < t ∧ Hid (O.length ≤ M) ∧ Hid (UW g s M q O u c1 c2 wr ∧ Mv g v w u wr ∧ FX c1 c2 wr ∧ TB wr))
  case atStart => exact ⟨_, 0, [], v, k1, k2, rfl, rfl, HS, by omega, by omega, Lib.hid (Nat.zero_le _), H0⟩
  case round =>
    obtain ⟨t, q, O, u, c1, c2, hgk, rfl, HK, hq, hqt, HO, HR⟩ := hrel
    clear H0 HS
    cases t with
    | zero => omega
    | succ t =>
      obtain ⟨r1, hr1⟩ : ∃ r, r = numS (bitH s) (8 * s.size) q 0 1 := ⟨_, rfl⟩
      obtain ⟨r2, hr2⟩ : ∃ r, r = numS (bitH s) (8 * s.size) r1.2.2 0 2 := ⟨_, rfl⟩
      have HD := Lib.hid (blockS_dev (bitH s) (8 * s.size) M q O r1 r2 hr1 hr2)
      have C1 := dnum_any g s M q O u c1 c2 0 1 wr HR.out.1 HSZ.out hq (by omega) (by omega)
      have hp1 : r1.2.2 ≤ 8 * s.size := by rw [hr1]; exact numS_le hq
      have hl1 : r1.1 < 0 + 2 ^ 1 := by rw [hr1]; exact numS_lt s _ _ _ _
      have hp2 : r2.2.2 ≤ 8 * s.size := by rw [hr2]; exact numS_le hp1
      have hl2 : r2.1 < 0 + 2 ^ 2 := by rw [hr2]; exact numS_lt s _ _ _ _
      have HPR : Hid (r1.2.1 = true → q < r1.2.2) := Lib.hid (by
        rw [hr1]; unfold numS; split
        · intro _; show q < q + 1; omega
        · intro h; cases h)
      have HPR2 : Hid (r1.2.2 ≤ r2.2.2) := Lib.hid (by rw [hr2]; unfold numS; split; exact Nat.le_add_right _ _; exact Nat.le_refl _)
      rw [← hr1] at C1
      have HGK := Lib.hid hgk
      have HQT := Lib.hid hqt
      clear hgk hqt
      go_wp2_with fail
      refine C1.mono ?_
      rintro e w1 ⟨rfl, h1, m1⟩
      have hfx : ∀ {w1 : World}, Mv g u wr u w1 → FX c1 c2 w1 := fun m => by
        rcases HR.out.2.2.1 with h | ⟨h1, h2⟩
        · exact .inl h
        · exact .inr ⟨h1.mv HR.out.1 m, h2.mv HR.out.1 m⟩
      have C2 := dnum_any g s M r1.2.2 O u c1 c2 0 2 w1 h1 HSZ.out hp1 (by omega) (by omega)
      rw [← hr2] at C2
      clear hr1 hr2 C1 h1
      go_wp2_with fail
      refine C2.mono ?_
      rintro e w2 ⟨rfl, h2, m2⟩
      have H2 := Lib.hid (⟨h2, HR.out.2.1.trans (m1.trans m2), hfx (m1.trans m2), HR.out.2.2.2.mv hg HR.out.1 (m1.trans m2)⟩ : UW g s M r2.2.2 O u c1 c2 w2 ∧ Mv g v w u w2 ∧ FX c1 c2 w2 ∧ TB w2)
      clear C2 m1 m2 h2 hfx HR
      obtain ⟨a, b1, p1⟩ := r1
      obtain ⟨d, b2, p2⟩ := r2
      dsimp only at hp1 hp2 hl1 hl2
      have HX : Hid (∃ X, X = (blockS (bitH s) (8 * s.size) M ⟨q, 0, O⟩).2) := Lib.hid ⟨_, rfl⟩
      obtain ⟨X, hX⟩ := HX.out
      clear HX
      have hRn : Rn p2 (8 * s.size) M ⟨p2, 0, O⟩ := ⟨fun _ => ⟨Nat.le_refl _, hp2⟩, HO.out⟩
      by_cases hbad : b1 = false ∨ b2 = false ∨ d = 3
      · have h2 : X.e = 2 := by rw [hX]; exact HD.out.1 hbad (by show d < 4; omega)
        have HE : Hid (S.e = 2) := Lib.hid (by rw [HK.out, blocksS_one, ← hX, blocksS_err (by rw [h2]; decide), h2])
        have hor : b1 = false ∨ (b1 = true ∧ b2 = false) ∨ (b1 = true ∧ b2 = true ∧ d = 3) := by
          cases b1 with
          | false => exact .inl rfl
          | true =>
            cases b2 with
            | false => exact .inr (.inl ⟨rfl, rfl⟩)
            | true =>
              rcases hbad with h | h | h
              · cases h
              · cases h
              · exact .inr (.inr ⟨rfl, rfl, h⟩)
        clear hbad h2 hX HD hRn
        rcases hor with rfl | ⟨rfl, rfl⟩ | ⟨rfl, rfl, rfl⟩
        all_goals
          go_wp2_with fail
          try rw [Exit.noGoto_ret]
          go_ret
          rw [HE.out]
          exact ⟨rfl, u, c1, c2, H2.out.2.1, fun h => by rw [HE.out] at h; cases h⟩
      · have hb1 : b1 = true := by cases b1; exact absurd (.inl rfl) hbad; rfl
        have hb2 : b2 = true := by cases b2; exact absurd (.inr (.inl rfl)) hbad; rfl
        subst hb1 hb2
        have hd3 : d = 0 ∨ d = 1 ∨ d = 2 := by
          have : ¬ d = 3 := fun h => hbad (.inr (.inr h))
          omega
        obtain ⟨e1, D0, D1, D2⟩ := HD.out.2 (by trivial) (by trivial)
        have HL : Hid (S = blocksS (bitH s) (8 * s.size) M t (decide (a = 1)) X) := Lib.hid (by rw [HK.out, blocksS_one, e1, ← hX])
        rw [← hX] at D0 D1 D2
        dsimp only at D0 D1 D2
        have hpr := HPR.out (by trivial)
        have hpr2 := HPR2.out
        dsimp only at hpr hpr2
        have HPQ : Hid (q < p2) := Lib.hid (by omega)
        have ha2 : a = 0 ∨ a = 1 := by omega
        have CX : Hid (X.e = 0 → p2 ≤ X.p ∧ X.p ≤ 8 * s.size ∧ X.o.length ≤ M) := Lib.hid fun h => by
          have : Rn p2 (8 * s.size) M X := by
            rcases hd3 with h | h | h
            · rw [D0 h]; exact storedS_Rn hRn
            · rw [D1 h]; exact codedS_Rn hRn
            · rw [D2 h]; exact codedS_Rn (toldS_Rn hRn)
          exact ⟨(this.1 h).1, (this.1 h).2, this.2⟩
        have CC : Hid ((d = 0 → Calls Tryd.prog 26 #[.pointer (some ⟨g, 0, none⟩)] w2 fun e w' => e = .returned (.int .i64 (X.e : Int)) ∧ Dx g s M X u w2 w') ∧
            (d = 1 → Calls Tryd.prog 27 #[.pointer (some ⟨g, 0, none⟩)] w2 fun e w' => e = .returned (.int .i64 (X.e : Int)) ∧ Dx g s M X u w2 w') ∧
            (d = 2 → Calls Tryd.prog 28 #[.pointer (some ⟨g, 0, none⟩)] w2 fun e w' => e = .returned (.int .i64 (X.e : Int)) ∧ Dx g s M X u w2 w')) := Lib.hid (by
          have keep : ∀ {w'}, Dn g s M X u c1 c2 w2 w' → Dx g s M X u w2 w' := fun {w'} ⟨v', m, hk⟩ => ⟨v', c1, c2, m, fun h0 => ⟨hk h0, by
            rcases H2.out.2.2.1 with h | ⟨h1, h2⟩
            · exact .inl h
            · exact .inr ⟨h1.mv H2.out.1 m, h2.mv H2.out.1 m⟩⟩⟩
          refine ⟨fun h => ?_, fun h => ?_, fun h => ?_⟩
          · rw [D0 h] at keep ⊢
            exact (dstored_any g s M p2 O u c1 c2 w2 H2.out.1 HSZ.out hp2 HM.out HO.out).mono fun e w' ⟨h1, h2⟩ => ⟨h1, keep h2⟩
          · rw [D1 h]
            exact dsayFixed_any g s M p2 O u c1 c2 w2 H2.out.1 H2.out.2.2.1 HSZ.out hp2 HM.out HO.out
          · rw [D2 h] at keep ⊢
            exact (dsayTold_any g s M p2 O u c1 c2 w2 H2.out.1 H2.out.2.2.2 hg HSZ.out hp2 HM.out HO.out).mono fun e w' ⟨h1, h2⟩ => ⟨h1, keep h2⟩)
        clear hbad HD HK D0 D1 D2 e1 hX hRn hpr hpr2 hl2 hl1
        obtain ⟨Xp, Xe, Xo⟩ := X
        have hF : Hid (∀ w3, Dx g s M ⟨Xp, Xe, Xo⟩ u w2 w3 → Dx g s M ⟨Xp, Xe, Xo⟩ v w w3) := Lib.hid fun w3 ⟨v', d1, d2, m, hk⟩ => ⟨v', d1, d2, H2.out.2.1.trans m, hk⟩
        by_cases he : Xe = 0
        · subst he
          rcases ha2 with rfl | rfl
          · have HS0 : Hid (S = blocksS (bitH s) (8 * s.size) M t false ⟨Xp, 0, Xo⟩) := HL
            rcases hd3 with rfl | rfl | rfl
            · have C := CC.out.1 rfl
              clear CC HL
              go_wp2_with fail
              refine C.mono ?_
              rintro e w3 ⟨rfl, hdx⟩
              obtain ⟨u3, d1, d2, m3, hk⟩ := hdx
              obtain ⟨h3, hf3⟩ := hk rfl
              have H3 := Lib.hid (⟨h3, H2.out.2.1.trans m3, hf3, H2.out.2.2.2.mv hg H2.out.1 m3⟩ : UW g s M Xp Xo u3 d1 d2 w3 ∧ Mv g v w u3 w3 ∧ FX d1 d2 w3 ∧ TB w3)
              clear C m3 hk h3 hf3 hF
              go_wp2_with fail
              go_roundg t
              case measure => have := HGK.out; omega
              case rel => exact ⟨t, Xp, Xo, u3, d1, d2, rfl, rfl, HS0, (CX.out (by trivial)).2.1, by have := (CX.out (by trivial)).1; have := HPQ.out; have := HQT.out; omega, Lib.hid (CX.out (by trivial)).2.2, H3⟩
            · have C := CC.out.2.1 rfl
              clear CC HL
              go_wp2_with fail
              refine C.mono ?_
              rintro e w3 ⟨rfl, hdx⟩
              obtain ⟨u3, d1, d2, m3, hk⟩ := hdx
              obtain ⟨h3, hf3⟩ := hk rfl
              have H3 := Lib.hid (⟨h3, H2.out.2.1.trans m3, hf3, H2.out.2.2.2.mv hg H2.out.1 m3⟩ : UW g s M Xp Xo u3 d1 d2 w3 ∧ Mv g v w u3 w3 ∧ FX d1 d2 w3 ∧ TB w3)
              clear C m3 hk h3 hf3 hF
              go_wp2_with fail
              go_roundg t
              case measure => have := HGK.out; omega
              case rel => exact ⟨t, Xp, Xo, u3, d1, d2, rfl, rfl, HS0, (CX.out (by trivial)).2.1, by have := (CX.out (by trivial)).1; have := HPQ.out; have := HQT.out; omega, Lib.hid (CX.out (by trivial)).2.2, H3⟩
            · have C := CC.out.2.2 rfl
              clear CC HL
              go_wp2_with fail
              refine C.mono ?_
              rintro e w3 ⟨rfl, hdx⟩
              obtain ⟨u3, d1, d2, m3, hk⟩ := hdx
              obtain ⟨h3, hf3⟩ := hk rfl
              have H3 := Lib.hid (⟨h3, H2.out.2.1.trans m3, hf3, H2.out.2.2.2.mv hg H2.out.1 m3⟩ : UW g s M Xp Xo u3 d1 d2 w3 ∧ Mv g v w u3 w3 ∧ FX d1 d2 w3 ∧ TB w3)
              clear C m3 hk h3 hf3 hF
              go_wp2_with fail
              go_roundg t
              case measure => have := HGK.out; omega
              case rel => exact ⟨t, Xp, Xo, u3, d1, d2, rfl, rfl, HS0, (CX.out (by trivial)).2.1, by have := (CX.out (by trivial)).1; have := HPQ.out; have := HQT.out; omega, Lib.hid (CX.out (by trivial)).2.2, H3⟩
          · have HE : Hid (S = ⟨Xp, 0, Xo⟩) := Lib.hid (by rw [HL.out]; exact blocksS_last)
            rcases hd3 with rfl | rfl | rfl
            · have C := CC.out.1 rfl
              clear CC HL
              go_wp2_with fail
              refine C.mono ?_
              rintro e w3 ⟨rfl, hdx⟩
              have HDX := Lib.hid (hF.out w3 hdx)
              clear C hdx
              go_wp2_with fail
              try rw [Exit.noGoto_ret]
              go_ret
              rw [HE.out]
              exact ⟨rfl, HDX.out⟩
            · have C := CC.out.2.1 rfl
              clear CC HL
              go_wp2_with fail
              refine C.mono ?_
              rintro e w3 ⟨rfl, hdx⟩
              have HDX := Lib.hid (hF.out w3 hdx)
              clear C hdx
              go_wp2_with fail
              try rw [Exit.noGoto_ret]
              go_ret
              rw [HE.out]
              exact ⟨rfl, HDX.out⟩
            · have C := CC.out.2.2 rfl
              clear CC HL
              go_wp2_with fail
              refine C.mono ?_
              rintro e w3 ⟨rfl, hdx⟩
              have HDX := Lib.hid (hF.out w3 hdx)
              clear C hdx
              go_wp2_with fail
              try rw [Exit.noGoto_ret]
              go_ret
              rw [HE.out]
              exact ⟨rfl, HDX.out⟩
        · have HE : Hid (S = ⟨Xp, Xe, Xo⟩) := Lib.hid (by rw [HL.out]; exact blocksS_err he)
          have hei : ¬ (Xe : Int) = 0 := by omega
          have hneb : ((Xe : Int) != 0) = true := by simp; omega
          clear he
          rcases hd3 with rfl | rfl | rfl
          · have C := CC.out.1 rfl
            clear CC HL
            go_wp2_with fail
            refine C.mono ?_
            rintro e w3 ⟨rfl, hdx⟩
            have HDX := Lib.hid (hF.out w3 hdx)
            clear C hdx
            go_wp2_with fail
            try rw [Exit.noGoto_ret]
            go_ret
            rw [HE.out]
            exact ⟨rfl, HDX.out⟩
          · have C := CC.out.2.1 rfl
            clear CC HL
            go_wp2_with fail
            refine C.mono ?_
            rintro e w3 ⟨rfl, hdx⟩
            have HDX := Lib.hid (hF.out w3 hdx)
            clear C hdx
            go_wp2_with fail
            try rw [Exit.noGoto_ret]
            go_ret
            rw [HE.out]
            exact ⟨rfl, HDX.out⟩
          · have C := CC.out.2.2 rfl
            clear CC HL
            go_wp2_with fail
            refine C.mono ?_
            rintro e w3 ⟨rfl, hdx⟩
            have HDX := Lib.hid (hF.out w3 hdx)
            clear C hdx
            go_wp2_with fail
            try rw [Exit.noGoto_ret]
            go_ret
            rw [HE.out]
            exact ⟨rfl, HDX.out⟩
end Go.Proofs.YtopbajkciclabaaDoor
/- The developers' Open of chapter 10. -/
namespace Go.Proofs.YtopbajkciclabaaDoor
open Go.RowKit
/-- Bytes, all of them. -/
def B8 (x : Fl) : Prop := ∀ i, x.o.getD i 0 < 256
theorem B8.one {o : List Nat} (h : ∀ i, o.getD i 0 < 256) {b : Nat} (hb : b < 256) : ∀ i, (o ++ [b]).getD i 0 < 256 := fun i => by
  by_cases hi : i < o.length
  · have := h i
    simp only [List.getD, List.getElem?_append_left hi] at this ⊢
    exact this
  · simp only [List.getD, List.getElem?_append_right (Nat.le_of_not_lt hi)]
    cases h0 : i - o.length with
    | zero => exact hb
    | succ n => show (0 : Nat) < 256; decide
theorem bitsS_B8 {B : Nat → Nat} {T n : Nat} {x : Fl} (h : B8 x) : B8 (bitsS B T n x).2 := by unfold B8; rw [bitsS_o]; exact h
theorem symS_o (B : Nat → Nat) (T : Nat) (l : Nat → Nat) (n : Nat) (x : Fl) : (symS B T l n x).2.o = x.o := by unfold symS; split; rfl; split <;> rfl
theorem symS_B8 {B : Nat → Nat} {T n : Nat} {l : Nat → Nat} {x : Fl} (h : B8 x) : B8 (symS B T l n x).2 := by unfold B8; rw [symS_o]; exact h
theorem sayS_B8 {M b : Nat} {x : Fl} (h : B8 x) (hb : b < 256) : B8 (sayS M b x) := by
  unfold sayS
  split
  · exact h
  · split
    · exact h
    · exact B8.one h hb
theorem copyS_B8 {s : ByteArray} {T M : Nat} : ∀ (n : Nat) {x : Fl}, B8 x → B8 (copyS (bitH s) T M n x)
  | 0, _, h => h
  | n + 1, x, h => by
    by_cases he : x.e ≠ 0
    · rw [copyS_err he]; exact h
    · rw [copyS_one (by omega)]; exact copyS_B8 n (sayS_B8 (bitsS_B8 h) (bitsS_lt s T 8 x))
theorem backS_B8 {M d : Nat} : ∀ (n : Nat) {x : Fl}, B8 x → B8 (backS M d n x)
  | 0, _, h => h
  | n + 1, x, h => by
    by_cases he : x.e ≠ 0
    · rw [backS_err he]; exact h
    · have e : backS M d (n + 1) x = backS M d n (sayS M (x.o.getD (x.o.length - d) 0) x) := if_neg he
      rw [e]; exact backS_B8 n (sayS_B8 h (h _))
theorem copiedS_B8 {B : Nat → Nat} {T M k : Nat} {l : Nat → Nat} {n : Nat} {x : Fl} (h : B8 x) : B8 (copiedS B T M k l n x) := by
  unfold copiedS
  split
  · exact h
  · dsimp only
    have h2 : B8 (symS B T l n (bitsS B T (lengthV (k : Int)).2.1 x).2).2 := symS_B8 (bitsS_B8 h)
    split
    · exact h2
    · refine backS_B8 _ ?_
      split
      · exact bitsS_B8 h2
      · exact bitsS_B8 h2
theorem symbolsS_B8 {B : Nat → Nat} {T M : Nat} {l : Nat → Nat} {n : Nat} {g : Nat → Nat} {m : Nat} : ∀ (t : Nat) {x : Fl}, B8 x → B8 (symbolsS B T M l n g m t x)
  | 0, _, h => h
  | t + 1, x, h => by
    unfold symbolsS
    split
    · exact h
    · dsimp only
      have h2 : B8 (symS B T l n x).2 := symS_B8 h
      split
      · exact h2
      · split
        · next hb => exact symbolsS_B8 t (sayS_B8 h2 hb)
        · exact symbolsS_B8 t (copiedS_B8 h2)
theorem codeS_o (l : List Nat) (x : Fl) : (codeS l x).o = x.o := by unfold codeS; split; rfl; split <;> rfl
theorem codedS_B8 {B : Nat → Nat} {T M : Nat} {a b : List Nat} {x : Fl} (h : B8 x) : B8 (codedS B T M a b x) := symbolsS_B8 _ (by unfold B8; rw [codeS_o, codeS_o]; exact h)
theorem toldS_o (B : Nat → Nat) (T : Nat) (x : Fl) : (toldS B T x).2.o = x.o := by
  have hb : ∀ n (x : Fl), (bitsS B T n x).2.o = x.o := fun n x => bitsS_o B T n x
  have hf : ∀ n i f (x : Fl), (fewS B T n i f x).2.o = x.o := fun n => by
    induction n with
    | zero => intro i f x; rfl
    | succ n ih => intro i f x; exact (ih (i + 1) _ _).trans (hb 3 x)
  have ht : ∀ f g all L (x : Fl), (tellS B T g all f L x).2.o = x.o := fun f => by
    induction f with
    | zero => intro g all L x; rfl
    | succ f ih =>
      intro g all L x
      unfold tellS
      split
      · rfl
      · dsimp only
        split
        · exact symS_o ..
        · split
          · rw [ih, symS_o]
          · split
            · exact symS_o ..
            · split
              · rw [ih, hb, symS_o]
              · split
                · rw [ih, hb, symS_o]
                · rw [ih, hb, symS_o]
  rw [toldS_tail]
  have h0 : ∀ (c : Prop) [Decidable c] (y : Fl), (if c then (⟨y.p, 2, y.o⟩ : Fl) else y).o = y.o := fun c _ y => by split <;> rfl
  have key : ∀ many far few (z : Fl), (tailT B T many far few z).2.o = z.o := fun many far few z => by
    unfold tailT
    have e0 := h0 (z.e = 0 ∧ (many > 286 ∨ far > 30)) z
    generalize (if z.e = 0 ∧ (many > 286 ∨ far > 30) then (⟨z.p, 2, z.o⟩ : Fl) else z) = y at e0
    dsimp only
    have e1 := ht (many + far + 1) (fewS B T few 0 (fun _ => 0) y).1 (many + far) [] (codeS ((List.range 19).map (fewS B T few 0 (fun _ => 0) y).1) (fewS B T few 0 (fun _ => 0) y).2)
    generalize tellS B T (fewS B T few 0 (fun _ => 0) y).1 (many + far) (many + far + 1) [] (codeS ((List.range 19).map (fewS B T few 0 (fun _ => 0) y).1) (fewS B T few 0 (fun _ => 0) y).2) = t at e1
    have e2 := h0 (t.2.e = 0 ∧ (t.1.length > many + far ∨ t.1.getD 256 0 = 0)) t.2
    generalize (if t.2.e = 0 ∧ (t.1.length > many + far ∨ t.1.getD 256 0 = 0) then (⟨t.2.p, 2, t.2.o⟩ : Fl) else t.2) = u at e2
    have e3 : u.o = z.o := by rw [e2, e1, codeS_o, hf, e0]
    split
    · exact e3
    · exact e3
  rw [key, hb, hb, hb]
theorem storedS_B8 {s : ByteArray} {T M : Nat} {x : Fl} (h : B8 x) : B8 (storedS (bitH s) T M x) := by
  have h1 : B8 (bitsS (bitH s) T 16 (bitsS (bitH s) T 16 ⟨(x.p + 7) / 8 * 8, x.e, x.o⟩).2).2 := bitsS_B8 (bitsS_B8 h)
  unfold storedS
  dsimp only
  refine copyS_B8 _ ?_
  split
  · exact h1
  · exact h1
theorem blockS_B8 {s : ByteArray} {T M : Nat} {x : Fl} (h : B8 x) : B8 (blockS (bitH s) T M x).2 := by
  have h1 : B8 (bitsS (bitH s) T 2 (bitsS (bitH s) T 1 x).2).2 := bitsS_B8 (bitsS_B8 h)
  unfold blockS
  dsimp only
  split
  · exact h1
  · split
    · exact storedS_B8 h1
    · split
      · exact codedS_B8 h1
      · split
        · refine codedS_B8 ?_
          unfold B8; rw [toldS_o]; exact h1
        · exact h1
theorem blocksS_B8 {s : ByteArray} {T M : Nat} : ∀ (t : Nat) (b : Bool) {x : Fl}, B8 x → B8 (blocksS (bitH s) T M t b x)
  | 0, _, _, h => h
  | t + 1, b, x, h => by
    unfold blocksS
    split
    · exact h
    · exact blocksS_B8 t _ (blockS_B8 h)
/-- A list of bytes as a text. -/
def txtL (l : List Nat) : ByteArray := textN l.length fun i => l.getD i 0
theorem UW.text {g : Nat} {s : ByteArray} {M p : Nat} {o : List Nat} {v k1 k2 : Value} {w : World} (h : UW g s M p o v k1 k2 w) (hf : ∀ i, o.getD i 0 < 256) : (convert 36 9 v).run Tryd.prog w = .ok (.string (txtL o)) w := by
  refine run_string_of_own w 36 9 5 (g + 1) Tryd.underlying36 Tryd.underlying5 Tryd.underlying9 v o.length ((List.range o.length).map fun i => BitVec.ofNat 8 (o.getD i 0)) ?_
  have e : ((List.range o.length).map fun i => BitVec.ofNat 8 (o.getD i 0)).map b8v = bys o := by
    rw [List.map_map]
    unfold bys
    apply List.ext_getElem (by simp)
    intro i h1 h2
    simp only [List.getElem_map, List.getElem_range]
    have hi : i < o.length := by simpa using h2
    show Value.int .u8 (iw (BitVec.ofNat 8 (o.getD i 0))) = Value.int .u8 ((o[i] : Nat) : Int)
    have e3 : o.getD i 0 = o[i] := by simp [List.getD, List.getElem?_eq_getElem hi]
    rw [e3]
    unfold iw
    rw [BitVec.toNat_ofNat, Nat.mod_eq_of_lt (show o[i] < 2 ^ 8 by rw [← e3]; exact hf i)]
  rw [e]; exact h.own
set_option maxRecDepth 100000 in
set_option maxHeartbeats 8000000 in
theorem dopen_any (s : ByteArray) (most : Int) (w : World) (hT : TB w) (hs : s.size ≤ 281474976710656) :
    Calls Tryd.prog 10 #[.string s, .int .i64 most] w fun e w' => e = .returned (.tuple #[.string (txtL (openS s most).1), .int .i64 ((openS s most).2.1 : Int), .int .i64 ((openS s most).2.2 : Int)]) ∧ Below w.heap.size w w' := by
  have et : txtL [] = ByteArray.empty := by decide +kernel
  by_cases hbad : most < 0 ∨ most > 1048576
  · have e : openS s most = ([], 0, 1) := if_pos hbad
    rw [e]
    dsimp only
    rw [et]
    have hor : most < 0 ∨ (¬ most < 0 ∧ most > 1048576) := by omega
    have HB : Hid (Below w.heap.size w w) := Lib.hid (Below.refl _ _)
    clear hbad e
    rcases hor with h1 | ⟨h1, h2⟩
    all_goals
      go_enter Tryd.func10, Tryd.ntmps10
      go_wp2_with fail
      go_ret3
      exact ⟨rfl, HB.out⟩
  · obtain ⟨M, rfl⟩ : ∃ M : Nat, most = M := ⟨most.toNat, by omega⟩
    have hM : M ≤ 1048576 := by omega
    obtain ⟨S, hS⟩ : ∃ S, S = blocksS (bitH s) (8 * s.size) M (8 * s.size + 1) false ⟨0, 0, []⟩ := ⟨_, rfl⟩
    have e : openS s (M : Int) = if S.e ≠ 0 then ([], 0, S.e) else (S.o, (S.p + 7) / 8, 0) := by
      unfold openS
      rw [if_neg hbad, hS]
      rfl
    have hB8 : B8 S := by rw [hS]; exact blocksS_B8 _ _ fun i => by simp
    have hRn : Rn 0 (8 * s.size) M S := by
      rw [hS]
      have key : ∀ (t : Nat) (b : Bool) {x : Fl}, Rn 0 (8 * s.size) M x → Rn 0 (8 * s.size) M (blocksS (bitH s) (8 * s.size) M t b x) := fun t => by
        induction t with
        | zero => intro b x h; exact h
        | succ t ih =>
          intro b x h
          unfold blocksS
          split
          · exact h
          · refine ih _ ?_
            have h1 : Rn 0 (8 * s.size) M (bitsS (bitH s) (8 * s.size) 2 (bitsS (bitH s) (8 * s.size) 1 x).2).2 := bitsS_Rn (bitsS_Rn h)
            unfold blockS
            dsimp only
            split
            · exact h1
            · split
              · exact storedS_Rn h1
              · split
                · exact codedS_Rn h1
                · split
                  · exact codedS_Rn (toldS_Rn h1)
                  · exact h1.err (by decide)
      exact key _ _ ⟨fun _ => ⟨Nat.le_refl 0, Nat.zero_le _⟩, Nat.zero_le _⟩
    have hb0 := (Below.refl _ w).alloc (Nat.le_refl _) (.cells #[.string s, .int .i64 0, .int .i64 (M : Int), .slice none 0 0, .pointer none, .pointer none] 49)
    have U0 : UW w.heap.size s M 0 [] (.slice none 0 0) (.pointer none) (.pointer none) (w.alloc (.cells #[.string s, .int .i64 0, .int .i64 (M : Int), .slice none 0 0, .pointer none, .pointer none] 49)) := ⟨Blk.new w _ _, rfl, .inl ⟨rfl, rfl⟩⟩
    have C := dblocks_any w.heap.size s M _ _ _ _ U0 (.inl ⟨rfl, rfl⟩) (hT.below hb0) hT.1 hs hM
    rw [← hS] at C
    have hlo : ¬ (M : Int) < 0 := by omega
    have hhi : ¬ (M : Int) > 1048576 := by omega
    have HB0 := Lib.hid hb0
    have HB8 := Lib.hid hB8
    have HRN := Lib.hid hRn
    have HET := Lib.hid et
    have HSZ := Lib.hid hs
    clear hS hB8 hRn hb0 U0 hbad hM hs
    by_cases he : S.e = 0
    · rw [e, if_neg (fun h => h he)]
      clear e et
      go_enter Tryd.func10, Tryd.ntmps10
      go_wp2_with fail
      refine C.mono ?_
      rintro e w1 ⟨rfl, v2, c1, c2, m, hk⟩
      have HM : Hid (Below w.heap.size w w1) := Lib.hid ⟨m.os.trans HB0.out.os, m.tape.trans HB0.out.tape, m.output.trans HB0.out.output, Nat.le_trans HB0.out.size m.size, fun k hk => (m.block k (Nat.lt_of_lt_of_le hk HB0.out.size) (by omega) (fun e => by cases e)).trans (HB0.out.block k hk)⟩
      obtain ⟨h1, _⟩ := hk he
      have hT2 := h1.text HB8.out
      have hp := HRN.out.1 he
      have HW : Hid (Below w.heap.size w w1.drew) := Lib.hid HM.out.drew
      have h2 := h1.drew
      have HU : Hid (∀ wx, wx = w1.drew → wx.cell? ⟨w.heap.size, 3, none⟩ = some v2 ∧ (convert 36 9 v2).run Tryd.prog wx = .ok (.string (txtL S.o)) wx ∧ Calls Tryd.prog 18 #[.pointer (some ⟨w.heap.size, 0, none⟩)] wx fun e w' => e = .returned (.int .i64 (((S.p + 7) / 8 : Nat) : Int)) ∧ wx = w') := Lib.hid fun wx e => by
        rw [e]
        exact ⟨h2.c3, h2.text HB8.out, dbytes_any w.heap.size s M S.p S.o v2 c1 c2 w1.drew h2 (by have := HSZ.out; omega)⟩
      rw [he]
      clear h1 hk m hT2 hp C h2 he
      go_wp2_with fail
      refine wp_region_anyL (Two 1000 1001 fun _ _ wx => wx = w1.drew) (by kernel_rfl) rfl ?_
      refine anyL_take (i := 0) (v := ?_) rfl (by kernel_rfl) (by kernel_rfl) (by kernel_rfl) (yl_other (by decide) (by decide) rfl (fun f1 f2 wx hT => ?_)) ?_; rotate_left
      · refine lands_value (w := wx) ?_ hT; go_simp <;> rfl
      simp only [pu]
      refine anyL_take (i := 1) (v := ?_) rfl (by kernel_rfl) (by kernel_rfl) (by kernel_rfl) (yl_other (by decide) (by decide) rfl (fun f1 f2 wx hT => ?_)) ?_; rotate_left
      · refine lands_value (w := wx) ?_ hT; go_simp <;> rfl
      simp only [pu]
      refine anyL_take (i := 2) (v := ?_) rfl (by kernel_rfl) (by kernel_rfl) (by kernel_rfl) (yl_other (by decide) (by decide) rfl (fun f1 f2 wx hT => ?_)) ?_; rotate_left
      · refine lands_value (w := wx) ?_ hT; go_simp <;> rfl
      simp only [pu]
      refine anyL_take (i := 3) (v := v2) rfl (by kernel_rfl) (by kernel_rfl) (by kernel_rfl) (yl_other (by decide) (by decide) rfl (fun f1 f2 wx hT => ?_)) ?_
      · have cc := (HU.out w1.drew rfl).1; rw [hT]; refine lands_value (w := w1.drew) ?_ rfl; go_simp; skip
      simp only [pu]
      refine anyL_take (i := 4) (v := .string (txtL S.o)) rfl (by kernel_rfl) (by kernel_rfl) (by kernel_rfl) (yl_other (by decide) (by decide) rfl (fun f1 f2 wx hT => ?_)) ?_
      · have cc := (HU.out w1.drew rfl).2.1; rw [hT]; refine lands_value (w := w1.drew) ?_ rfl; go_simp; skip
      simp only [pu]
      refine anyL_take (i := 5) (v := ?_) rfl (by kernel_rfl) (by kernel_rfl) (by kernel_rfl) (yl_other (by decide) (by decide) rfl (fun f1 f2 wx hT => ?_)) ?_; rotate_left
      · refine lands_value (w := wx) ?_ hT; go_simp <;> rfl
      simp only [pu]
      refine anyL_take (i := 6) (v := ?_) rfl (by kernel_rfl) (by kernel_rfl) (by kernel_rfl) (yl_other (by decide) (by decide) rfl (fun f1 f2 wx hT => ?_)) ?_; rotate_left
      · refine lands_value (w := wx) ?_ hT; go_simp <;> rfl
      simp only [pu]
      refine anyL_take (i := 7) (v := ?_) rfl (by kernel_rfl) (by kernel_rfl) (by kernel_rfl) (yl_other (by decide) (by decide) rfl (fun f1 f2 wx hT => ?_)) ?_; rotate_left
      · refine lands_value (w := wx) ?_ hT; go_simp <;> rfl
      simp only [pu]
      refine anyL_take (i := 8) (v := .int .i64 (((S.p + 7) / 8 : Nat) : Int)) rfl (by kernel_rfl) (by kernel_rfl) (by kernel_rfl) (yl_other (by decide) (by decide) rfl (fun f1 f2 wx hT => ?_)) ?_
      · refine lands_calls (f := 18) ((HU.out wx hT).2.2.mono fun e w' ⟨he, hb⟩ => ⟨he, hb ▸ hT⟩) ?_; go_simp; skip
      simp only [pu]
      refine anyL_take (i := 9) (v := ?_) rfl (by kernel_rfl) (by kernel_rfl) (by kernel_rfl) (yl_other (by decide) (by decide) rfl (fun f1 f2 wx hT => ?_)) ?_; rotate_left
      · refine lands_value (w := wx) ?_ hT; go_simp <;> rfl
      simp only [pu]
      refine anyL_take (i := 10) (v := ?_) rfl (by kernel_rfl) (by kernel_rfl) (by kernel_rfl) (yl_other (by decide) (by decide) rfl (fun f1 f2 wx hT => ?_)) ?_; rotate_left
      · refine lands_value (w := wx) ?_ hT; go_simp <;> rfl
      simp only [pu]
      refine anyL_take (i := 11) (v := ?_) rfl (by kernel_rfl) (by kernel_rfl) (by kernel_rfl) (yl_other (by decide) (by decide) rfl (fun f1 f2 wx hT => ?_)) ?_; rotate_left
      · refine lands_value (w := wx) ?_ hT; go_simp <;> rfl
      simp only [pu]
      refine anyL_done rfl ?_ _
      intro wx hT
      have hT : wx = w1.drew := hT
      subst hT
      go_wp2_with fail
      go_ret3
      exact ⟨rfl, HW.out⟩
    · rw [e, if_pos he]
      dsimp only
      rw [et]
      clear e et
      go_enter Tryd.func10, Tryd.ntmps10
      go_wp2_with fail
      refine C.mono ?_
      rintro e w1 ⟨rfl, v2, c1, c2, m, hk⟩
      have HM : Hid (Below w.heap.size w w1) := Lib.hid ⟨m.os.trans HB0.out.os, m.tape.trans HB0.out.tape, m.output.trans HB0.out.output, Nat.le_trans HB0.out.size m.size, fun k hk => (m.block k (Nat.lt_of_lt_of_le hk HB0.out.size) (by omega) (fun e => by cases e)).trans (HB0.out.block k hk)⟩
      have hei : ¬ (S.e : Int) = 0 := by omega
      have hneb : ((S.e : Int) != 0) = true := by simp; omega
      clear hk m C he
      go_wp2_with fail
      go_ret3
      exact ⟨rfl, HM.out⟩
end Go.Proofs.YtopbajkciclabaaDoor
/- The examples ahead of each law of chapter 10. -/
namespace Go.Proofs.YtopbajkciclabaaDoor
open Go.RowKit
def exA : ByteArray := ⟨#[3, 0]⟩
def exB : ByteArray := ⟨#[1, 2, 0, 253, 255, 97, 98]⟩
def exC : ByteArray := ⟨#[7]⟩
theorem exB_open : openS exB 2 = ([97, 98], 7, 0) := by decide +kernel
theorem exC_open : openS exC 9 = ([], 0, 2) := by decide +kernel
theorem exA_open : openS exA 0 = ([], 2, 0) := by decide +kernel
theorem txt0 : txtL [] = ⟨#[]⟩ := by decide +kernel
theorem txtB : txtL [97, 98] = ⟨#[97, 98]⟩ := by decide +kernel
set_option maxRecDepth 100000 in
set_option maxHeartbeats 4000000 in
theorem ex10_any (w : World) (hT : TB w) : Calls Tryd.prog 9 #[] w fun e w' => e = .returned (.bool true) ∧ Below w.heap.size w w' := by
  have C1 := dopen_any exA 0 w hT (by decide)
  rw [exA_open] at C1
  dsimp only at C1
  rw [txt0] at C1
  have HT := Lib.hid hT
  clear hT
  go_enter Tryd.func9, Tryd.ntmps9
  go_wp2_with fail
  refine C1.mono ?_
  rintro e w1 ⟨rfl, b1⟩
  have C2 := dopen_any exB 2 w1 (HT.out.below b1) (by decide)
  rw [exB_open] at C2
  dsimp only at C2
  rw [txtB] at C2
  have HB1 := Lib.hid b1
  clear C1 b1
  go_wp2_with fail
  refine C2.mono ?_
  rintro e w2 ⟨rfl, b2⟩
  have HB2 := Lib.hid (HB1.out.trans (b2.mono HB1.out.size))
  have C3 := dopen_any exC 9 w2 (HT.out.below HB2.out) (by decide)
  rw [exC_open] at C3
  dsimp only at C3
  rw [txt0] at C3
  clear C2 b2
  go_wp2_with fail
  refine C3.mono ?_
  rintro e w3 ⟨rfl, b3⟩
  have HB3 := Lib.hid (HB2.out.trans (b3.mono HB2.out.size))
  clear C3 b3
  go_wp2_with fail
  go_ret
  exact ⟨rfl, HB3.out⟩
end Go.Proofs.YtopbajkciclabaaDoor
/- A world that holds what layer 10's rows list; the table that they list. -/
namespace Go.Proofs.YtopbajkciclabaaDoor
open Go.RowKit
theorem ownL : ownKnob Tryd.prog.godebug = none := by kernel_rfl
def putCells (cs : Array Value) : Obj → Obj
  | .cells _ t frozen => .cells cs t frozen
  | o => o
noncomputable def laidWorld (os : Os) : World :=
  { World.holding Tryd.prog os ⟨#[], #[], []⟩ with heap := (World.holding Tryd.prog os ⟨#[], #[], []⟩).heap.modify 0 (putCells (ordL.map fun n : Nat => Value.int .i64 (Int.ofNat n)).toArray) }
theorem laid_met (os : Os) (args : Array Value) : laidMet Tryd.prog Rows.inflateOpensRow.laid ((laidWorld os).forCall (fun _ _ => 0) ⟨#[], args, []⟩).memory :=
  laidMet_of_run' 8 (by kernel_rfl) (by kernel_rfl)
theorem tb_of_laid {W : World} (h : laidMet Tryd.prog Rows.inflateOpensRow.laid W) : TB W := by
  have hT : Lib.TabIs Tryd.prog W "engrosser/inflate.toldOrder" .i64 [16, 17, 18, 0, 8, 7, 9, 6, 10, 5, 11, 4, 12, 3, 13, 2, 14, 1, 15] :=
    Lib.tabIs_of_head (rest := []) (g := 0) (t := 101) (e := 3) (n := 19) (by kernel_rfl) (by kernel_rfl) Tryd.underlying101 Tryd.underlying3 (by kernel_rfl) (by kernel_rfl) h
  have hc : ∀ i, i < 19 → W.cell? ⟨0, i, none⟩ = some (.int .i64 ((ordL.getD i 0 : Nat) : Int)) := fun i hi => by
    rw [hT.cell (g := 0) (by kernel_rfl) i hi]
    have : ∀ j : Fin 19, ([16, 17, 18, 0, 8, 7, 9, 6, 10, 5, 11, 4, 12, 3, 13, 2, 14, 1, 15] : List Int).getD j.val 0 = ((ordL.getD j.val 0 : Nat) : Int) := by decide +kernel
    rw [this ⟨i, hi⟩]
  refine ⟨?_, hc⟩
  rcases Nat.eq_zero_or_pos W.heap.size with h0 | h0
  · have := hc 0 (by decide)
    unfold World.cell? at this
    rw [Array.getElem?_eq_none (by omega)] at this
    cases this
  · exact h0
end Go.Proofs.YtopbajkciclabaaDoor
