/- Chapter 14 in numbers: items. -/
import Derived.Test.YtkbjgaobhbiieaaIa
import Derived.Laws.BitsAllLaws
namespace Go.Proofs.Ytkbjgaobhbiieaa
open Go.RowKit
/-- The number of k bytes from a place on, the greatest first. -/
def beA (s : ByteArray) (a : Nat) : Nat → Nat
  | 0 => 0
  | k + 1 => beA s a k * 256 + byteS s (a + k)
theorem beA_lt (s : ByteArray) (a : Nat) : ∀ k, beA s a k < 256 ^ k
  | 0 => by show (0 : Nat) < 256 ^ 0; decide
  | k + 1 => by
    have h1 := beA_lt s a k
    have h2 := byteS_lt s (a + k)
    show beA s a k * 256 + byteS s (a + k) < 256 ^ (k + 1)
    rw [Nat.pow_succ]
    omega
/-- The length, and where the text begins. -/
def lenD (s : ByteArray) : Option (Nat × Nat) :=
  if byteS s 1 < 128 then some (byteS s 1, 2)
  else if byteS s 1 < 129 ∨ 131 < byteS s 1 ∨ s.size < byteS s 1 - 126 then none
  else if beA s 2 (byteS s 1 - 128) < 128 ∨ 129 < byteS s 1 ∧ beA s 2 (byteS s 1 - 128) < 256 ^ (byteS s 1 - 129) then none
  else some (beA s 2 (byteS s 1 - 128), byteS s 1 - 126)
/-- The text, what stands behind, of so many bytes from a place on. -/
def finD (s : ByteArray) (n a : Nat) : Option (Nat × ByteArray × ByteArray) := if s.size < a + n then none else some (byteS s 0, s.extract a (a + n), s.extract (a + n) s.size)
/-- The first item: its tag, its text, what stands behind. -/
def nextD (s : ByteArray) : Option (Nat × ByteArray × ByteArray) :=
  if s.size < 2 ∨ byteS s 0 % 32 = 31 then none else
  (lenD s).bind fun x => finD s x.1 x.2
/-- An item's cells. -/
def cellsI : Option (Nat × ByteArray × ByteArray) → Array Value
  | none => #[.int .i64 0, .string ⟨#[]⟩, .string ⟨#[]⟩]
  | some (t, x, r) => #[.int .i64 (t : Int), .string x, .string r]
theorem cellsI_size (o : Option (Nat × ByteArray × ByteArray)) : (cellsI o).size = 3 := by rcases o with _ | ⟨t, x, r⟩ <;> rfl
theorem cellsI_one (o : Option (Nat × ByteArray × ByteArray)) : (cellsI o).all (·.oneCell') = true := by rcases o with _ | ⟨t, x, r⟩ <;> simp [cellsI, Value.oneCell']
section
variable {P : Program} {o : Oper} {a : Act} {w : World} {R : World → Prop}
theorem lands_store_row (ty : TypeId) (x y : Operand) (ho : o.op = .store ty x y)
    (g : Nat) (cells : Array Value) (hx : a.eval x = .pointer (some ⟨g, 0, none⟩)) (hy : a.eval y = .agg cells)
    (t : TypeId) (old : Array Value) (hg : w.heap[g]? = some (.cells old t (0, 0))) (hi : (P.info? ty).map (·.size) = some cells.size)
    (hold : old.size = cells.size) (h1 : cells.all (·.oneCell') = true) (h : R (w.setRow g cells)) : Lands P R undef ((execOp a.eval o).run P w) := by
  unfold execOp
  simp only [ho, hx, hy, Instr.storeAt, Instr.sureAddr, Sem.run_bind, Sem.run_pure, Result.andThen_ok, run_storeVar_row w g t ty old cells hg hi hold h1]
  exact ⟨rfl, h⟩
end
end Go.Proofs.Ytkbjgaobhbiieaa
/- The document's Next of chapter 14. -/
namespace Go.Proofs.Ytkbjgaobhbiieaa
open Go.RowKit
theorem itemR_size : (Try.prog.info? 28).map (·.size) = some 3 := by kernel_rfl
set_option maxRecDepth 100000 in
set_option maxHeartbeats 4000000 in
theorem rNext_any (s : ByteArray) (w : World) (hs : s.size ≤ 9223372036837998591) :
    Calls Try.prog 9 #[.string s] w fun e w' => e = .returned (.tuple #[.agg (cellsI (nextD s)), .bool (nextD s).isSome]) ∧ Below w.heap.size w w' := by
  obtain ⟨res, hres⟩ : ∃ res, res = nextD s := ⟨_, rfl⟩
  rw [← hres]
  have HQ : Hid (Blk (w.alloc (.cells #[.int .i64 0, .string ⟨#[]⟩, .string ⟨#[]⟩] 28)) w.heap.size 28 #[.int .i64 0, .string ⟨#[]⟩, .string ⟨#[]⟩]) := Lib.hid (Blk.new _ _ _)
  have HSZ := Lib.hid itemR_size
  have HB := Lib.hid (below_setRow' ((Below.refl _ w).alloc (Nat.le_refl _) (.cells #[.int .i64 0, .string ⟨#[]⟩, .string ⟨#[]⟩] 28)) (Nat.le_refl _) #[.int .i64 0, .string ⟨#[]⟩, .string ⟨#[]⟩])
  by_cases h2 : s.size < 2
  · have HRES : Hid (res = none) := Lib.hid (by rw [hres]; unfold nextD; rw [if_pos (.inl h2)])
    have h2i : (s.size : Int) < 2 := by omega
    clear h2 hs hres
    go_enter Try.func9, Try.ntmps9
    go_wp2_with (refine wpList_store_row rfl 28 _ _ rfl w.heap.size #[.int .i64 0, .string ⟨#[]⟩, .string ⟨#[]⟩] rfl rfl 28 _ HQ.out HSZ.out rfl (cellsI_one none) ?_)
    exact bodyPost_ret (results_cell_row_slot rfl _ _ w.heap.size 28 #[.int .i64 0, .string ⟨#[]⟩, .string ⟨#[]⟩] (0, 0) _ _ rfl (HQ.out.row_ _) Try.underlying28 rfl HSZ.out rfl) rfl ⟨by rw [HRES.out]; rfl, HB.out⟩
  · have h2i : ¬ (s.size : Int) < 2 := by omega
    obtain ⟨A, hA⟩ : ∃ A, A = byteS s 0 := ⟨_, rfl⟩
    have HA := Lib.hid hA
    have hA8 : A < 256 := by rw [hA]; exact byteS_lt _ _
    have hs0 : 0 < s.size := by omega
    have hs1 : 1 < s.size := by omega
    have g0 : (s[0].toNat : Int) = (A : Int) := by rw [byteS_at s 0 hs0, hA]
    clear hA
    have hi0 : (0 : Int) < (s.size : Int) := by omega
    have hi1 : (1 : Int) < (s.size : Int) := by omega
    by_cases ht : A % 32 = 31
    · have HRES : Hid (res = none) := Lib.hid (by rw [hres]; unfold nextD; rw [if_pos (.inr (by rw [← HA.out]; exact ht))])
      have hti : (A : Int) % 32 = 31 := by omega
      clear ht h2 hs hres
      go_enter Try.func9, Try.ntmps9
      go_wp2_with (refine wpList_store_row rfl 28 _ _ rfl w.heap.size #[.int .i64 0, .string ⟨#[]⟩, .string ⟨#[]⟩] rfl rfl 28 _ HQ.out HSZ.out rfl (cellsI_one none) ?_)
      exact bodyPost_ret (results_cell_row_slot rfl _ _ w.heap.size 28 #[.int .i64 0, .string ⟨#[]⟩, .string ⟨#[]⟩] (0, 0) _ _ rfl (HQ.out.row_ _) Try.underlying28 rfl HSZ.out rfl) rfl ⟨by rw [HRES.out]; rfl, HB.out⟩
    · have hti : ¬ (A : Int) % 32 = 31 := by omega
      have hti2 : ((A : Int) % 32 == 31) = false := by simpa using hti
      have hAw : IntKind.i64.wrap (A : Int) = (A : Int) := IntWalk.i64_in _ (by omega)
      obtain ⟨B, hB⟩ : ∃ B, B = byteS s 1 := ⟨_, rfl⟩
      have hB8 : B < 256 := by rw [hB]; exact byteS_lt _ _
      have g1 : (s[1].toNat : Int) = (B : Int) := by rw [byteS_at s 1 hs1, hB]
      have hBw : IntKind.i64.wrap (B : Int) = (B : Int) := IntWalk.i64_in _ (by omega)
      have hN : res = (lenD s).bind fun x => finD s x.1 x.2 := by rw [hres]; unfold nextD; rw [if_neg (by rw [← HA.out]; omega)]
      clear hres
      by_cases h128 : B < 128
      · have hl : lenD s = some (B, 2) := by unfold lenD; rw [if_pos (by omega), ← hB]
        have HFIN : Hid (res = finD s B 2) := Lib.hid (by rw [hN, hl]; rfl)
        have HNV : Hid (B < 256) := Lib.hid hB8
        have h128i : ¬ (B : Int) ≥ 128 := by omega
        clear hl ht h2 hs hB hN
        by_cases hlen : s.size < 2 + B
        · have HRES : Hid (res = none) := Lib.hid (by rw [HFIN.out]; unfold finD; rw [if_pos hlen])
          obtain ⟨E, hE⟩ : ∃ E, E = 2 + B := ⟨_, rfl⟩
          have hleni : (s.size : Int) < (E : Int) := by omega
          have hadd : IntKind.i64.wrap ((2 : Int) + (B : Int)) = (E : Int) := by have := HNV.out; rw [IntWalk.i64_in _ (by omega)]; omega
          clear hlen hE
          go_enter Try.func9, Try.ntmps9
          go_wp2_with (refine wpList_store_row rfl 28 _ _ rfl w.heap.size #[.int .i64 0, .string ⟨#[]⟩, .string ⟨#[]⟩] rfl rfl 28 _ HQ.out HSZ.out rfl (cellsI_one none) ?_)
          exact bodyPost_ret (results_cell_row_slot rfl _ _ w.heap.size 28 #[.int .i64 0, .string ⟨#[]⟩, .string ⟨#[]⟩] (0, 0) _ _ rfl (HQ.out.row_ _) Try.underlying28 rfl HSZ.out rfl) rfl ⟨by rw [HRES.out]; rfl, HB.out⟩
        · obtain ⟨E, hE⟩ : ∃ E, E = 2 + B := ⟨_, rfl⟩
          have HRES : Hid (res = some (A, s.extract 2 E, s.extract E s.size)) := Lib.hid (by rw [HFIN.out]; unfold finD; rw [if_neg hlen, ← HA.out, ← hE])
          have hleni : ¬ (s.size : Int) < (E : Int) := by omega
          have hadd : IntKind.i64.wrap ((2 : Int) + (B : Int)) = (E : Int) := by have := HNV.out; rw [IntWalk.i64_in _ (by omega)]; omega
          have hle1 : (2 : Int) ≤ (E : Int) := by omega
          have hle2 : (E : Int) ≤ (s.size : Int) := by omega
          have hle3 : (0 : Int) ≤ (E : Int) := by omega
          have hle4 : (0 : Int) ≤ (2 : Int) := by omega
          have HQ2 : Hid (Blk (w.alloc (.cells #[.int .i64 0, .string ⟨#[]⟩, .string ⟨#[]⟩] 28)).drew w.heap.size 28 #[.int .i64 0, .string ⟨#[]⟩, .string ⟨#[]⟩]) := Lib.hid HQ.out.drew
          have HB2 : Hid (Below w.heap.size w (((w.alloc (.cells #[.int .i64 0, .string ⟨#[]⟩, .string ⟨#[]⟩] 28)).drew).setRow w.heap.size #[.int .i64 (A : Int), .string (s.extract 2 E), .string (s.extract E s.size)])) := Lib.hid (below_setRow' (((Below.refl _ w).alloc (Nat.le_refl _) _).drew) (Nat.le_refl _) _)
          clear hlen hE
          go_enter Try.func9, Try.ntmps9
          go_wp2_with fail
          refine heldT_start (by kernel_rfl) ?_
          change wpAnyH _ _ _ _ _ _ _ _ (w.alloc (.cells #[.int .i64 0, .string ⟨#[]⟩, .string ⟨#[]⟩] 28)).drew
          generalize (w.alloc (.cells #[.int .i64 0, .string ⟨#[]⟩, .string ⟨#[]⟩] 28)).drew = w2 at HQ2 HB2 ⊢
          refine heldT_take (i := 0) (v := .string s) rfl (by kernel_rfl) (by kernel_rfl) (by kernel_rfl) (fun _ _ _ h => h) rfl (fun wx => ?_) ?_
          · go_simp; skip
          simp only [pu]
          refine heldT_take (i := 1) (v := .int .u8 (A : Int)) rfl (by kernel_rfl) (by kernel_rfl) (by kernel_rfl) (fun _ _ _ h => h) rfl (fun wx => ?_) ?_
          · go_simp; skip
          simp only [pu]
          refine heldT_take (i := 2) (v := .int .i64 (A : Int)) rfl (by kernel_rfl) (by kernel_rfl) (by kernel_rfl) (fun _ _ _ h => h) rfl (fun wx => ?_) ?_
          · go_simp; skip
          simp only [pu]
          refine heldT_take (i := 3) (v := .string s) rfl (by kernel_rfl) (by kernel_rfl) (by kernel_rfl) (fun _ _ _ h => h) rfl (fun wx => ?_) ?_
          · go_simp; skip
          simp only [pu]
          refine heldT_take (i := 4) (v := .int .i64 (2 : Int)) rfl (by kernel_rfl) (by kernel_rfl) (by kernel_rfl) (fun _ _ _ h => h) rfl (fun wx => ?_) ?_
          · go_simp; skip
          simp only [pu]
          refine heldT_take (i := 5) (v := .int .i64 (2 : Int)) rfl (by kernel_rfl) (by kernel_rfl) (by kernel_rfl) (fun _ _ _ h => h) rfl (fun wx => ?_) ?_
          · go_simp; skip
          simp only [pu]
          refine heldT_take (i := 6) (v := .int .i64 (B : Int)) rfl (by kernel_rfl) (by kernel_rfl) (by kernel_rfl) (fun _ _ _ h => h) rfl (fun wx => ?_) ?_
          · go_simp; skip
          simp only [pu]
          refine heldT_take (i := 7) (v := .int .i64 (E : Int)) rfl (by kernel_rfl) (by kernel_rfl) (by kernel_rfl) (fun _ _ _ h => h) rfl (fun wx => ?_) ?_
          · go_simp; skip
          simp only [pu]
          refine heldT_take (i := 8) (v := .string (s.extract 2 E)) rfl (by kernel_rfl) (by kernel_rfl) (by kernel_rfl) (fun _ _ _ h => h) rfl (fun wx => ?_) ?_
          · go_simp; skip
          simp only [pu]
          refine heldT_take (i := 9) (v := .string s) rfl (by kernel_rfl) (by kernel_rfl) (by kernel_rfl) (fun _ _ _ h => h) rfl (fun wx => ?_) ?_
          · go_simp; skip
          simp only [pu]
          refine heldT_take (i := 10) (v := .int .i64 (2 : Int)) rfl (by kernel_rfl) (by kernel_rfl) (by kernel_rfl) (fun _ _ _ h => h) rfl (fun wx => ?_) ?_
          · go_simp; skip
          simp only [pu]
          refine heldT_take (i := 11) (v := .int .i64 (B : Int)) rfl (by kernel_rfl) (by kernel_rfl) (by kernel_rfl) (fun _ _ _ h => h) rfl (fun wx => ?_) ?_
          · go_simp; skip
          simp only [pu]
          refine heldT_take (i := 12) (v := .int .i64 (E : Int)) rfl (by kernel_rfl) (by kernel_rfl) (by kernel_rfl) (fun _ _ _ h => h) rfl (fun wx => ?_) ?_
          · go_simp; skip
          simp only [pu]
          refine heldT_take (i := 13) (v := .string (s.extract E s.size)) rfl (by kernel_rfl) (by kernel_rfl) (by kernel_rfl) (fun _ _ _ h => h) rfl (fun wx => ?_) ?_
          · go_simp; skip
          simp only [pu]
          refine heldT_take (i := 14) (v := .agg #[.int .i64 (A : Int), .string (s.extract 2 E), .string (s.extract E s.size)]) rfl (by kernel_rfl) (by kernel_rfl) (by kernel_rfl) (fun _ _ _ h => h) rfl (fun wx => ?_) ?_
          · go_simp; skip
          simp only [pu]
          refine heldT_lands (i := 15) (v := undef) (R := fun wx => wx = w2.setRow w.heap.size #[.int .i64 (A : Int), .string (s.extract 2 E), .string (s.extract E s.size)]) (by kernel_rfl) rfl rfl (lands_store_row 28 _ _ rfl w.heap.size #[.int .i64 (A : Int), .string (s.extract 2 E), .string (s.extract E s.size)] rfl rfl 28 _ HQ2.out HSZ.out rfl (cellsI_one (some (A, s.extract 2 E, s.extract E s.size))) rfl) ?_
          rintro _ rfl
          simp only [pu]
          refine heldT_take (i := 16) (v := .bool true) rfl (by kernel_rfl) (by kernel_rfl) (by kernel_rfl) (fun _ _ _ h => h) rfl (fun wx => ?_) ?_
          · go_simp; skip
          simp only [pu]
          refine wpAnyH_done (by kernel_rfl) ?_ _
          go_wp2_with fail
          exact bodyPost_ret (results_cell_row_slot rfl _ _ w.heap.size 28 #[.int .i64 (A : Int), .string (s.extract 2 E), .string (s.extract E s.size)] (0, 0) _ _ rfl (HQ2.out.row_ _) Try.underlying28 rfl HSZ.out rfl) rfl ⟨by rw [HRES.out]; rfl, HB2.out⟩
      · have h128i : (B : Int) ≥ 128 := by omega
        obtain ⟨M, hM⟩ : ∃ M, M = B - 128 := ⟨_, rfl⟩
        have hsub : IntKind.i64.wrap ((B : Int) - 128) = (M : Int) := by rw [IntWalk.i64_in _ (by omega)]; omega
        have HM := Lib.hid hM
        have HBB := Lib.hid hB
        clear hB hM
        by_cases hbad : M < 1 ∨ 3 < M ∨ s.size < 2 + M
        · have hl : lenD s = none := by unfold lenD; rw [← HBB.out, if_neg h128, if_pos (by have := HM.out; omega)]
          have HRES : Hid (res = none) := Lib.hid (by rw [hN, hl]; rfl)
          have hadd2 : IntKind.i64.wrap (2 + (M : Int)) = ((2 + M : Nat) : Int) := by have := HM.out; rw [IntWalk.i64_in _ (by omega)]; rfl
          by_cases hb1 : M < 1
          · obtain rfl : M = 0 := by omega
            clear hbad hl h128 ht h2 hs hN
            go_enter Try.func9, Try.ntmps9
            go_wp2_with (refine wpList_store_row rfl 28 _ _ rfl w.heap.size #[.int .i64 0, .string ⟨#[]⟩, .string ⟨#[]⟩] rfl rfl 28 _ HQ.out HSZ.out rfl (cellsI_one none) ?_)
            exact bodyPost_ret (results_cell_row_slot rfl _ _ w.heap.size 28 #[.int .i64 0, .string ⟨#[]⟩, .string ⟨#[]⟩] (0, 0) _ _ rfl (HQ.out.row_ _) Try.underlying28 rfl HSZ.out rfl) rfl ⟨by rw [HRES.out]; rfl, HB.out⟩
          · by_cases hb3 : 3 < M
            · have k1 : ¬ (M : Int) < 1 := by omega
              have k3 : (M : Int) > 3 := by omega
              clear hbad hl h128 ht h2 hs hN hb1 hb3
              go_enter Try.func9, Try.ntmps9
              go_wp2_with (refine wpList_store_row rfl 28 _ _ rfl w.heap.size #[.int .i64 0, .string ⟨#[]⟩, .string ⟨#[]⟩] rfl rfl 28 _ HQ.out HSZ.out rfl (cellsI_one none) ?_)
              exact bodyPost_ret (results_cell_row_slot rfl _ _ w.heap.size 28 #[.int .i64 0, .string ⟨#[]⟩, .string ⟨#[]⟩] (0, 0) _ _ rfl (HQ.out.row_ _) Try.underlying28 rfl HSZ.out rfl) rfl ⟨by rw [HRES.out]; rfl, HB.out⟩
            · have k1 : ¬ (M : Int) < 1 := by omega
              have k3 : ¬ (M : Int) > 3 := by omega
              have k4 : (s.size : Int) < 2 + (M : Int) := by omega
              have k5 : (s.size : Int) < ((2 + M : Nat) : Int) := by omega
              clear hbad hl h128 ht h2 hs hN hb1 hb3
              go_enter Try.func9, Try.ntmps9
              go_wp2_with (refine wpList_store_row rfl 28 _ _ rfl w.heap.size #[.int .i64 0, .string ⟨#[]⟩, .string ⟨#[]⟩] rfl rfl 28 _ HQ.out HSZ.out rfl (cellsI_one none) ?_)
              exact bodyPost_ret (results_cell_row_slot rfl _ _ w.heap.size 28 #[.int .i64 0, .string ⟨#[]⟩, .string ⟨#[]⟩] (0, 0) _ _ rfl (HQ.out.row_ _) Try.underlying28 rfl HSZ.out rfl) rfl ⟨by rw [HRES.out]; rfl, HB.out⟩
        · obtain ⟨T, hT⟩ : ∃ T, T = 2 + M := ⟨_, rfl⟩
          have hl : lenD s = if beA s 2 M < 128 ∨ 1 < M ∧ beA s 2 M < 256 ^ (M - 1) then none else some (beA s 2 M, T) := by
            have h1 := HM.out
            have h2 : byteS s 1 = 128 + M := by have := HBB.out; omega
            unfold lenD
            rw [h2, if_neg (by omega), if_neg (by omega), show 128 + M - 128 = M by omega, show 128 + M - 129 = M - 1 by omega, show 128 + M - 126 = T by omega]
            by_cases hc : beA s 2 M < 128 ∨ 1 < M ∧ beA s 2 M < 256 ^ (M - 1)
            · rw [if_pos (hc.imp_right fun h => ⟨by omega, h.2⟩), if_pos hc]
            · rw [if_neg (fun h => hc (h.imp_right fun h => ⟨by omega, h.2⟩)), if_neg hc]
          have HLN : Hid (res = (if beA s 2 M < 128 ∨ 1 < M ∧ beA s 2 M < 256 ^ (M - 1) then none else some (beA s 2 M, T) : Option (Nat × Nat)).bind fun x => finD s x.1 x.2) := Lib.hid (by rw [hN, hl])
          have hadd2 : IntKind.i64.wrap (2 + (M : Int)) = (T : Int) := by rw [IntWalk.i64_in _ (by omega)]; omega
          have k1 : ¬ (M : Int) < 1 := by omega
          have k3 : ¬ (M : Int) > 3 := by omega
          have k4 : ¬ (s.size : Int) < (T : Int) := by omega
          have HT : Hid (T = 2 + M ∧ T ≤ s.size) := Lib.hid (by omega)
          have HM3 : Hid (M = 1 ∨ M = 2 ∨ M = 3) := Lib.hid (by omega)
          have HSS := Lib.hid hs
          clear hbad hl h128 ht h2 hs hT hN
          go_enter Try.func9, Try.ntmps9
          go_wp2_with fail
          go_loopw [4, 7] (fun x u wr => ∃ k : Nat, x = .int .i64 ((beA s 2 k : Nat) : Int) ∧ u = .int .i64 (k : Int) ∧ k ≤ M ∧ wr = w.alloc (.cells #[.int .i64 0, .string ⟨#[]⟩, .string ⟨#[]⟩] 28)) (fun _ u _ => M - (intOf u).toNat)
          case atStart => exact ⟨0, rfl, rfl, Nat.zero_le _, rfl⟩
          case round =>
            obtain ⟨k, rfl, rfl, hkm, rfl⟩ := hrel
            by_cases hlt : k < M
            · have hlti : (k : Int) < (M : Int) := by omega
              obtain ⟨I, hI⟩ : ∃ I, I = 2 + k := ⟨_, rfl⟩
              have hIB : I < s.size := by have := HT.out; omega
              have hIi : (I : Int) < (s.size : Int) := by omega
              have hk2 : IntKind.i64.wrap (2 + (k : Int)) = (I : Int) := by have := HM3.out; rw [IntWalk.i64_in _ (by omega)]; omega
              have gI : (s[I].toNat : Int) = (byteS s (2 + k) : Int) := by rw [byteS_at s I hIB, hI]
              have hb := byteS_lt s (2 + k)
              have hv := beA_lt s 2 k
              have hM := HM3.out
              have hp : 256 ^ k ≤ 256 ^ 3 := Nat.pow_le_pow_right (by decide) (by omega)
              have HV : Hid (beA s 2 (k + 1) = beA s 2 k * 256 + byteS s (2 + k)) := Lib.hid rfl
              generalize byteS s (2 + k) = b at gI hb HV
              generalize beA s 2 k = x at hv HV ⊢
              have hx : x ≤ 16777216 := by omega
              have hsh : IntKind.i64.wrap ((x : Int) * 256) = (x : Int) * 256 := IntWalk.i64_in _ (by omega)
              have hbw : IntKind.i64.wrap (b : Int) = (b : Int) := IntWalk.i64_in _ (by omega)
              have had : IntKind.i64.wrap ((x : Int) * 256 + (b : Int)) = (x : Int) * 256 + (b : Int) := IntWalk.i64_in _ (by omega)
              have hkw : IntKind.i64.wrap ((k : Int) + 1) = ((k + 1 : Nat) : Int) := by rw [IntWalk.i64_in _ (by omega)]; rfl
              have HK := Lib.hid hlt
              clear hp hv hx hb hM hlt hI
              go_wp2_with fail
              exact ⟨⟨k + 1, by rw [HV.out]; go_num, by go_num, by have := HK.out; omega, trivial⟩, by simp only [intOf]; have := HK.out; omega⟩
            · obtain rfl : k = M := by omega
              have hlti : ¬ (k : Int) < (k : Int) := by omega
              have hv := beA_lt s 2 k
              obtain ⟨N, hN⟩ : ∃ N, N = beA s 2 k := ⟨_, rfl⟩
              have hln := HLN.out
              rw [← hN] at hv hln ⊢
              clear hN hlt hkm HLN
              have hs : s.size ≤ 9223372036837998591 := HSS.out
              have hTT := HT.out
              have hM3 := HM3.out
              clear HM HM3 HT
              rcases hM3 with rfl | rfl | rfl
              · obtain rfl : T = 3 := by omega
                have HNV : Hid (N < 256) := Lib.hid (by simpa using hv)
                clear hv
                have hp : (256 : Nat) ^ (1 - 1) = 1 := by simp
                rw [hp] at hln
                clear hp
                by_cases n1 : N < 128
                · have HRES : Hid (res = none) := Lib.hid (by rw [hln, if_pos (.inl n1)]; rfl)
                  have n1i : (N : Int) < 128 := by omega
                  clear hln n1
                  go_wp2_with (refine wpList_store_row rfl 28 _ _ rfl w.heap.size #[.int .i64 0, .string ⟨#[]⟩, .string ⟨#[]⟩] rfl rfl 28 _ HQ.out HSZ.out rfl (cellsI_one none) ?_)
                  exact bodyPost_ret (results_cell_row_slot rfl _ _ w.heap.size 28 #[.int .i64 0, .string ⟨#[]⟩, .string ⟨#[]⟩] (0, 0) _ _ rfl (HQ.out.row_ _) Try.underlying28 rfl HSZ.out rfl) rfl ⟨by rw [HRES.out]; rfl, HB.out⟩
                · have n1i : ¬ (N : Int) < 128 := by omega
                  have HFIN : Hid (res = finD s N 3) := Lib.hid (by rw [hln, if_neg (fun h => h.elim n1 fun k => absurd k.1 (by decide))]; rfl)
                  clear hln n1
                  by_cases hlen : s.size < 3 + N
                  · have HRES : Hid (res = none) := Lib.hid (by rw [HFIN.out]; unfold finD; rw [if_pos hlen])
                    obtain ⟨E, hE⟩ : ∃ E, E = 3 + N := ⟨_, rfl⟩
                    have hleni : (s.size : Int) < (E : Int) := by omega
                    have hadd : IntKind.i64.wrap ((3 : Int) + (N : Int)) = (E : Int) := by have := HNV.out; rw [IntWalk.i64_in _ (by omega)]; omega
                    clear hlen hE
                    go_wp2_with (refine wpList_store_row rfl 28 _ _ rfl w.heap.size #[.int .i64 0, .string ⟨#[]⟩, .string ⟨#[]⟩] rfl rfl 28 _ HQ.out HSZ.out rfl (cellsI_one none) ?_)
                    exact bodyPost_ret (results_cell_row_slot rfl _ _ w.heap.size 28 #[.int .i64 0, .string ⟨#[]⟩, .string ⟨#[]⟩] (0, 0) _ _ rfl (HQ.out.row_ _) Try.underlying28 rfl HSZ.out rfl) rfl ⟨by rw [HRES.out]; rfl, HB.out⟩
                  · obtain ⟨E, hE⟩ : ∃ E, E = 3 + N := ⟨_, rfl⟩
                    have HRES : Hid (res = some (A, s.extract 3 E, s.extract E s.size)) := Lib.hid (by rw [HFIN.out]; unfold finD; rw [if_neg hlen, ← HA.out, ← hE])
                    have hleni : ¬ (s.size : Int) < (E : Int) := by omega
                    have hadd : IntKind.i64.wrap ((3 : Int) + (N : Int)) = (E : Int) := by have := HNV.out; rw [IntWalk.i64_in _ (by omega)]; omega
                    have hle1 : (3 : Int) ≤ (E : Int) := by omega
                    have hle2 : (E : Int) ≤ (s.size : Int) := by omega
                    have hle3 : (0 : Int) ≤ (E : Int) := by omega
                    have hle4 : (0 : Int) ≤ (3 : Int) := by omega
                    have HQ2 : Hid (Blk (w.alloc (.cells #[.int .i64 0, .string ⟨#[]⟩, .string ⟨#[]⟩] 28)).drew w.heap.size 28 #[.int .i64 0, .string ⟨#[]⟩, .string ⟨#[]⟩]) := Lib.hid HQ.out.drew
                    have HB2 : Hid (Below w.heap.size w (((w.alloc (.cells #[.int .i64 0, .string ⟨#[]⟩, .string ⟨#[]⟩] 28)).drew).setRow w.heap.size #[.int .i64 (A : Int), .string (s.extract 3 E), .string (s.extract E s.size)])) := Lib.hid (below_setRow' (((Below.refl _ w).alloc (Nat.le_refl _) _).drew) (Nat.le_refl _) _)
                    clear hlen hE
                    go_wp2_with fail
                    refine heldT_start (by kernel_rfl) ?_
                    change wpAnyH _ _ _ _ _ _ _ _ (w.alloc (.cells #[.int .i64 0, .string ⟨#[]⟩, .string ⟨#[]⟩] 28)).drew
                    generalize (w.alloc (.cells #[.int .i64 0, .string ⟨#[]⟩, .string ⟨#[]⟩] 28)).drew = w2 at HQ2 HB2 ⊢
                    refine heldT_take (i := 0) (v := .string s) rfl (by kernel_rfl) (by kernel_rfl) (by kernel_rfl) (fun _ _ _ h => h) rfl (fun wx => ?_) ?_
                    · go_simp; skip
                    simp only [pu]
                    refine heldT_take (i := 1) (v := .int .u8 (A : Int)) rfl (by kernel_rfl) (by kernel_rfl) (by kernel_rfl) (fun _ _ _ h => h) rfl (fun wx => ?_) ?_
                    · go_simp; skip
                    simp only [pu]
                    refine heldT_take (i := 2) (v := .int .i64 (A : Int)) rfl (by kernel_rfl) (by kernel_rfl) (by kernel_rfl) (fun _ _ _ h => h) rfl (fun wx => ?_) ?_
                    · go_simp; skip
                    simp only [pu]
                    refine heldT_take (i := 3) (v := .string s) rfl (by kernel_rfl) (by kernel_rfl) (by kernel_rfl) (fun _ _ _ h => h) rfl (fun wx => ?_) ?_
                    · go_simp; skip
                    simp only [pu]
                    refine heldT_take (i := 4) (v := .int .i64 (3 : Int)) rfl (by kernel_rfl) (by kernel_rfl) (by kernel_rfl) (fun _ _ _ h => h) rfl (fun wx => ?_) ?_
                    · go_simp; skip
                    simp only [pu]
                    refine heldT_take (i := 5) (v := .int .i64 (3 : Int)) rfl (by kernel_rfl) (by kernel_rfl) (by kernel_rfl) (fun _ _ _ h => h) rfl (fun wx => ?_) ?_
                    · go_simp; skip
                    simp only [pu]
                    refine heldT_take (i := 6) (v := .int .i64 (N : Int)) rfl (by kernel_rfl) (by kernel_rfl) (by kernel_rfl) (fun _ _ _ h => h) rfl (fun wx => ?_) ?_
                    · go_simp; skip
                    simp only [pu]
                    refine heldT_take (i := 7) (v := .int .i64 (E : Int)) rfl (by kernel_rfl) (by kernel_rfl) (by kernel_rfl) (fun _ _ _ h => h) rfl (fun wx => ?_) ?_
                    · go_simp; skip
                    simp only [pu]
                    refine heldT_take (i := 8) (v := .string (s.extract 3 E)) rfl (by kernel_rfl) (by kernel_rfl) (by kernel_rfl) (fun _ _ _ h => h) rfl (fun wx => ?_) ?_
                    · go_simp; skip
                    simp only [pu]
                    refine heldT_take (i := 9) (v := .string s) rfl (by kernel_rfl) (by kernel_rfl) (by kernel_rfl) (fun _ _ _ h => h) rfl (fun wx => ?_) ?_
                    · go_simp; skip
                    simp only [pu]
                    refine heldT_take (i := 10) (v := .int .i64 (3 : Int)) rfl (by kernel_rfl) (by kernel_rfl) (by kernel_rfl) (fun _ _ _ h => h) rfl (fun wx => ?_) ?_
                    · go_simp; skip
                    simp only [pu]
                    refine heldT_take (i := 11) (v := .int .i64 (N : Int)) rfl (by kernel_rfl) (by kernel_rfl) (by kernel_rfl) (fun _ _ _ h => h) rfl (fun wx => ?_) ?_
                    · go_simp; skip
                    simp only [pu]
                    refine heldT_take (i := 12) (v := .int .i64 (E : Int)) rfl (by kernel_rfl) (by kernel_rfl) (by kernel_rfl) (fun _ _ _ h => h) rfl (fun wx => ?_) ?_
                    · go_simp; skip
                    simp only [pu]
                    refine heldT_take (i := 13) (v := .string (s.extract E s.size)) rfl (by kernel_rfl) (by kernel_rfl) (by kernel_rfl) (fun _ _ _ h => h) rfl (fun wx => ?_) ?_
                    · go_simp; skip
                    simp only [pu]
                    refine heldT_take (i := 14) (v := .agg #[.int .i64 (A : Int), .string (s.extract 3 E), .string (s.extract E s.size)]) rfl (by kernel_rfl) (by kernel_rfl) (by kernel_rfl) (fun _ _ _ h => h) rfl (fun wx => ?_) ?_
                    · go_simp; skip
                    simp only [pu]
                    refine heldT_lands (i := 15) (v := undef) (R := fun wx => wx = w2.setRow w.heap.size #[.int .i64 (A : Int), .string (s.extract 3 E), .string (s.extract E s.size)]) (by kernel_rfl) rfl rfl (lands_store_row 28 _ _ rfl w.heap.size #[.int .i64 (A : Int), .string (s.extract 3 E), .string (s.extract E s.size)] rfl rfl 28 _ HQ2.out HSZ.out rfl (cellsI_one (some (A, s.extract 3 E, s.extract E s.size))) rfl) ?_
                    rintro _ rfl
                    simp only [pu]
                    refine heldT_take (i := 16) (v := .bool true) rfl (by kernel_rfl) (by kernel_rfl) (by kernel_rfl) (fun _ _ _ h => h) rfl (fun wx => ?_) ?_
                    · go_simp; skip
                    simp only [pu]
                    refine wpAnyH_done (by kernel_rfl) ?_ _
                    go_wp2_with fail
                    exact bodyPost_ret (results_cell_row_slot rfl _ _ w.heap.size 28 #[.int .i64 (A : Int), .string (s.extract 3 E), .string (s.extract E s.size)] (0, 0) _ _ rfl (HQ2.out.row_ _) Try.underlying28 rfl HSZ.out rfl) rfl ⟨by rw [HRES.out]; rfl, HB2.out⟩
              · obtain rfl : T = 4 := by omega
                have HNV : Hid (N < 65536) := Lib.hid (by simpa using hv)
                clear hv
                have hp : (256 : Nat) ^ (2 - 1) = 256 := by simp
                rw [hp] at hln
                clear hp
                by_cases n1 : N < 128
                · have HRES : Hid (res = none) := Lib.hid (by rw [hln, if_pos (.inl n1)]; rfl)
                  have n1i : (N : Int) < 128 := by omega
                  clear hln n1
                  go_wp2_with (refine wpList_store_row rfl 28 _ _ rfl w.heap.size #[.int .i64 0, .string ⟨#[]⟩, .string ⟨#[]⟩] rfl rfl 28 _ HQ.out HSZ.out rfl (cellsI_one none) ?_)
                  exact bodyPost_ret (results_cell_row_slot rfl _ _ w.heap.size 28 #[.int .i64 0, .string ⟨#[]⟩, .string ⟨#[]⟩] (0, 0) _ _ rfl (HQ.out.row_ _) Try.underlying28 rfl HSZ.out rfl) rfl ⟨by rw [HRES.out]; rfl, HB.out⟩
                · have n1i : ¬ (N : Int) < 128 := by omega
                  by_cases n2 : N < 256
                  · have HRES : Hid (res = none) := Lib.hid (by rw [hln, if_pos (.inr ⟨by decide, n2⟩)]; rfl)
                    have n2i : (N : Int) < 256 := by omega
                    clear hln n1 n2
                    go_wp2_with (refine wpList_store_row rfl 28 _ _ rfl w.heap.size #[.int .i64 0, .string ⟨#[]⟩, .string ⟨#[]⟩] rfl rfl 28 _ HQ.out HSZ.out rfl (cellsI_one none) ?_)
                    exact bodyPost_ret (results_cell_row_slot rfl _ _ w.heap.size 28 #[.int .i64 0, .string ⟨#[]⟩, .string ⟨#[]⟩] (0, 0) _ _ rfl (HQ.out.row_ _) Try.underlying28 rfl HSZ.out rfl) rfl ⟨by rw [HRES.out]; rfl, HB.out⟩
                  · have HFIN : Hid (res = finD s N 4) := Lib.hid (by rw [hln, if_neg (fun h => h.elim n1 fun k => n2 k.2)]; rfl)
                    have n2i : ¬ (N : Int) < 256 := by omega
                    clear hln n1 n2
                    by_cases hlen : s.size < 4 + N
                    · have HRES : Hid (res = none) := Lib.hid (by rw [HFIN.out]; unfold finD; rw [if_pos hlen])
                      obtain ⟨E, hE⟩ : ∃ E, E = 4 + N := ⟨_, rfl⟩
                      have hleni : (s.size : Int) < (E : Int) := by omega
                      have hadd : IntKind.i64.wrap ((4 : Int) + (N : Int)) = (E : Int) := by have := HNV.out; rw [IntWalk.i64_in _ (by omega)]; omega
                      clear hlen hE
                      go_wp2_with (refine wpList_store_row rfl 28 _ _ rfl w.heap.size #[.int .i64 0, .string ⟨#[]⟩, .string ⟨#[]⟩] rfl rfl 28 _ HQ.out HSZ.out rfl (cellsI_one none) ?_)
                      exact bodyPost_ret (results_cell_row_slot rfl _ _ w.heap.size 28 #[.int .i64 0, .string ⟨#[]⟩, .string ⟨#[]⟩] (0, 0) _ _ rfl (HQ.out.row_ _) Try.underlying28 rfl HSZ.out rfl) rfl ⟨by rw [HRES.out]; rfl, HB.out⟩
                    · obtain ⟨E, hE⟩ : ∃ E, E = 4 + N := ⟨_, rfl⟩
                      have HRES : Hid (res = some (A, s.extract 4 E, s.extract E s.size)) := Lib.hid (by rw [HFIN.out]; unfold finD; rw [if_neg hlen, ← HA.out, ← hE])
                      have hleni : ¬ (s.size : Int) < (E : Int) := by omega
                      have hadd : IntKind.i64.wrap ((4 : Int) + (N : Int)) = (E : Int) := by have := HNV.out; rw [IntWalk.i64_in _ (by omega)]; omega
                      have hle1 : (4 : Int) ≤ (E : Int) := by omega
                      have hle2 : (E : Int) ≤ (s.size : Int) := by omega
                      have hle3 : (0 : Int) ≤ (E : Int) := by omega
                      have hle4 : (0 : Int) ≤ (4 : Int) := by omega
                      have HQ2 : Hid (Blk (w.alloc (.cells #[.int .i64 0, .string ⟨#[]⟩, .string ⟨#[]⟩] 28)).drew w.heap.size 28 #[.int .i64 0, .string ⟨#[]⟩, .string ⟨#[]⟩]) := Lib.hid HQ.out.drew
                      have HB2 : Hid (Below w.heap.size w (((w.alloc (.cells #[.int .i64 0, .string ⟨#[]⟩, .string ⟨#[]⟩] 28)).drew).setRow w.heap.size #[.int .i64 (A : Int), .string (s.extract 4 E), .string (s.extract E s.size)])) := Lib.hid (below_setRow' (((Below.refl _ w).alloc (Nat.le_refl _) _).drew) (Nat.le_refl _) _)
                      clear hlen hE
                      go_wp2_with fail
                      refine heldT_start (by kernel_rfl) ?_
                      change wpAnyH _ _ _ _ _ _ _ _ (w.alloc (.cells #[.int .i64 0, .string ⟨#[]⟩, .string ⟨#[]⟩] 28)).drew
                      generalize (w.alloc (.cells #[.int .i64 0, .string ⟨#[]⟩, .string ⟨#[]⟩] 28)).drew = w2 at HQ2 HB2 ⊢
                      refine heldT_take (i := 0) (v := .string s) rfl (by kernel_rfl) (by kernel_rfl) (by kernel_rfl) (fun _ _ _ h => h) rfl (fun wx => ?_) ?_
                      · go_simp; skip
                      simp only [pu]
                      refine heldT_take (i := 1) (v := .int .u8 (A : Int)) rfl (by kernel_rfl) (by kernel_rfl) (by kernel_rfl) (fun _ _ _ h => h) rfl (fun wx => ?_) ?_
                      · go_simp; skip
                      simp only [pu]
                      refine heldT_take (i := 2) (v := .int .i64 (A : Int)) rfl (by kernel_rfl) (by kernel_rfl) (by kernel_rfl) (fun _ _ _ h => h) rfl (fun wx => ?_) ?_
                      · go_simp; skip
                      simp only [pu]
                      refine heldT_take (i := 3) (v := .string s) rfl (by kernel_rfl) (by kernel_rfl) (by kernel_rfl) (fun _ _ _ h => h) rfl (fun wx => ?_) ?_
                      · go_simp; skip
                      simp only [pu]
                      refine heldT_take (i := 4) (v := .int .i64 (4 : Int)) rfl (by kernel_rfl) (by kernel_rfl) (by kernel_rfl) (fun _ _ _ h => h) rfl (fun wx => ?_) ?_
                      · go_simp; skip
                      simp only [pu]
                      refine heldT_take (i := 5) (v := .int .i64 (4 : Int)) rfl (by kernel_rfl) (by kernel_rfl) (by kernel_rfl) (fun _ _ _ h => h) rfl (fun wx => ?_) ?_
                      · go_simp; skip
                      simp only [pu]
                      refine heldT_take (i := 6) (v := .int .i64 (N : Int)) rfl (by kernel_rfl) (by kernel_rfl) (by kernel_rfl) (fun _ _ _ h => h) rfl (fun wx => ?_) ?_
                      · go_simp; skip
                      simp only [pu]
                      refine heldT_take (i := 7) (v := .int .i64 (E : Int)) rfl (by kernel_rfl) (by kernel_rfl) (by kernel_rfl) (fun _ _ _ h => h) rfl (fun wx => ?_) ?_
                      · go_simp; skip
                      simp only [pu]
                      refine heldT_take (i := 8) (v := .string (s.extract 4 E)) rfl (by kernel_rfl) (by kernel_rfl) (by kernel_rfl) (fun _ _ _ h => h) rfl (fun wx => ?_) ?_
                      · go_simp; skip
                      simp only [pu]
                      refine heldT_take (i := 9) (v := .string s) rfl (by kernel_rfl) (by kernel_rfl) (by kernel_rfl) (fun _ _ _ h => h) rfl (fun wx => ?_) ?_
                      · go_simp; skip
                      simp only [pu]
                      refine heldT_take (i := 10) (v := .int .i64 (4 : Int)) rfl (by kernel_rfl) (by kernel_rfl) (by kernel_rfl) (fun _ _ _ h => h) rfl (fun wx => ?_) ?_
                      · go_simp; skip
                      simp only [pu]
                      refine heldT_take (i := 11) (v := .int .i64 (N : Int)) rfl (by kernel_rfl) (by kernel_rfl) (by kernel_rfl) (fun _ _ _ h => h) rfl (fun wx => ?_) ?_
                      · go_simp; skip
                      simp only [pu]
                      refine heldT_take (i := 12) (v := .int .i64 (E : Int)) rfl (by kernel_rfl) (by kernel_rfl) (by kernel_rfl) (fun _ _ _ h => h) rfl (fun wx => ?_) ?_
                      · go_simp; skip
                      simp only [pu]
                      refine heldT_take (i := 13) (v := .string (s.extract E s.size)) rfl (by kernel_rfl) (by kernel_rfl) (by kernel_rfl) (fun _ _ _ h => h) rfl (fun wx => ?_) ?_
                      · go_simp; skip
                      simp only [pu]
                      refine heldT_take (i := 14) (v := .agg #[.int .i64 (A : Int), .string (s.extract 4 E), .string (s.extract E s.size)]) rfl (by kernel_rfl) (by kernel_rfl) (by kernel_rfl) (fun _ _ _ h => h) rfl (fun wx => ?_) ?_
                      · go_simp; skip
                      simp only [pu]
                      refine heldT_lands (i := 15) (v := undef) (R := fun wx => wx = w2.setRow w.heap.size #[.int .i64 (A : Int), .string (s.extract 4 E), .string (s.extract E s.size)]) (by kernel_rfl) rfl rfl (lands_store_row 28 _ _ rfl w.heap.size #[.int .i64 (A : Int), .string (s.extract 4 E), .string (s.extract E s.size)] rfl rfl 28 _ HQ2.out HSZ.out rfl (cellsI_one (some (A, s.extract 4 E, s.extract E s.size))) rfl) ?_
                      rintro _ rfl
                      simp only [pu]
                      refine heldT_take (i := 16) (v := .bool true) rfl (by kernel_rfl) (by kernel_rfl) (by kernel_rfl) (fun _ _ _ h => h) rfl (fun wx => ?_) ?_
                      · go_simp; skip
                      simp only [pu]
                      refine wpAnyH_done (by kernel_rfl) ?_ _
                      go_wp2_with fail
                      exact bodyPost_ret (results_cell_row_slot rfl _ _ w.heap.size 28 #[.int .i64 (A : Int), .string (s.extract 4 E), .string (s.extract E s.size)] (0, 0) _ _ rfl (HQ2.out.row_ _) Try.underlying28 rfl HSZ.out rfl) rfl ⟨by rw [HRES.out]; rfl, HB2.out⟩
              · obtain rfl : T = 5 := by omega
                have HNV : Hid (N < 16777216) := Lib.hid (by simpa using hv)
                clear hv
                have hp : (256 : Nat) ^ (3 - 1) = 65536 := by simp
                rw [hp] at hln
                clear hp
                by_cases n1 : N < 128
                · have HRES : Hid (res = none) := Lib.hid (by rw [hln, if_pos (.inl n1)]; rfl)
                  have n1i : (N : Int) < 128 := by omega
                  clear hln n1
                  go_wp2_with (refine wpList_store_row rfl 28 _ _ rfl w.heap.size #[.int .i64 0, .string ⟨#[]⟩, .string ⟨#[]⟩] rfl rfl 28 _ HQ.out HSZ.out rfl (cellsI_one none) ?_)
                  exact bodyPost_ret (results_cell_row_slot rfl _ _ w.heap.size 28 #[.int .i64 0, .string ⟨#[]⟩, .string ⟨#[]⟩] (0, 0) _ _ rfl (HQ.out.row_ _) Try.underlying28 rfl HSZ.out rfl) rfl ⟨by rw [HRES.out]; rfl, HB.out⟩
                · have n1i : ¬ (N : Int) < 128 := by omega
                  by_cases n2 : N < 65536
                  · have HRES : Hid (res = none) := Lib.hid (by rw [hln, if_pos (.inr ⟨by decide, n2⟩)]; rfl)
                    have n2i : (N : Int) < 65536 := by omega
                    clear hln n1 n2
                    go_wp2_with (refine wpList_store_row rfl 28 _ _ rfl w.heap.size #[.int .i64 0, .string ⟨#[]⟩, .string ⟨#[]⟩] rfl rfl 28 _ HQ.out HSZ.out rfl (cellsI_one none) ?_)
                    exact bodyPost_ret (results_cell_row_slot rfl _ _ w.heap.size 28 #[.int .i64 0, .string ⟨#[]⟩, .string ⟨#[]⟩] (0, 0) _ _ rfl (HQ.out.row_ _) Try.underlying28 rfl HSZ.out rfl) rfl ⟨by rw [HRES.out]; rfl, HB.out⟩
                  · have HFIN : Hid (res = finD s N 5) := Lib.hid (by rw [hln, if_neg (fun h => h.elim n1 fun k => n2 k.2)]; rfl)
                    have n2i : ¬ (N : Int) < 65536 := by omega
                    clear hln n1 n2
                    by_cases hlen : s.size < 5 + N
                    · have HRES : Hid (res = none) := Lib.hid (by rw [HFIN.out]; unfold finD; rw [if_pos hlen])
                      obtain ⟨E, hE⟩ : ∃ E, E = 5 + N := ⟨_, rfl⟩
                      have hleni : (s.size : Int) < (E : Int) := by omega
                      have hadd : IntKind.i64.wrap ((5 : Int) + (N : Int)) = (E : Int) := by have := HNV.out; rw [IntWalk.i64_in _ (by omega)]; omega
                      clear hlen hE
                      go_wp2_with (refine wpList_store_row rfl 28 _ _ rfl w.heap.size #[.int .i64 0, .string ⟨#[]⟩, .string ⟨#[]⟩] rfl rfl 28 _ HQ.out HSZ.out rfl (cellsI_one none) ?_)
                      exact bodyPost_ret (results_cell_row_slot rfl _ _ w.heap.size 28 #[.int .i64 0, .string ⟨#[]⟩, .string ⟨#[]⟩] (0, 0) _ _ rfl (HQ.out.row_ _) Try.underlying28 rfl HSZ.out rfl) rfl ⟨by rw [HRES.out]; rfl, HB.out⟩
                    · obtain ⟨E, hE⟩ : ∃ E, E = 5 + N := ⟨_, rfl⟩
                      have HRES : Hid (res = some (A, s.extract 5 E, s.extract E s.size)) := Lib.hid (by rw [HFIN.out]; unfold finD; rw [if_neg hlen, ← HA.out, ← hE])
                      have hleni : ¬ (s.size : Int) < (E : Int) := by omega
                      have hadd : IntKind.i64.wrap ((5 : Int) + (N : Int)) = (E : Int) := by have := HNV.out; rw [IntWalk.i64_in _ (by omega)]; omega
                      have hle1 : (5 : Int) ≤ (E : Int) := by omega
                      have hle2 : (E : Int) ≤ (s.size : Int) := by omega
                      have hle3 : (0 : Int) ≤ (E : Int) := by omega
                      have hle4 : (0 : Int) ≤ (5 : Int) := by omega
                      have HQ2 : Hid (Blk (w.alloc (.cells #[.int .i64 0, .string ⟨#[]⟩, .string ⟨#[]⟩] 28)).drew w.heap.size 28 #[.int .i64 0, .string ⟨#[]⟩, .string ⟨#[]⟩]) := Lib.hid HQ.out.drew
                      have HB2 : Hid (Below w.heap.size w (((w.alloc (.cells #[.int .i64 0, .string ⟨#[]⟩, .string ⟨#[]⟩] 28)).drew).setRow w.heap.size #[.int .i64 (A : Int), .string (s.extract 5 E), .string (s.extract E s.size)])) := Lib.hid (below_setRow' (((Below.refl _ w).alloc (Nat.le_refl _) _).drew) (Nat.le_refl _) _)
                      clear hlen hE
                      go_wp2_with fail
                      refine heldT_start (by kernel_rfl) ?_
                      change wpAnyH _ _ _ _ _ _ _ _ (w.alloc (.cells #[.int .i64 0, .string ⟨#[]⟩, .string ⟨#[]⟩] 28)).drew
                      generalize (w.alloc (.cells #[.int .i64 0, .string ⟨#[]⟩, .string ⟨#[]⟩] 28)).drew = w2 at HQ2 HB2 ⊢
                      refine heldT_take (i := 0) (v := .string s) rfl (by kernel_rfl) (by kernel_rfl) (by kernel_rfl) (fun _ _ _ h => h) rfl (fun wx => ?_) ?_
                      · go_simp; skip
                      simp only [pu]
                      refine heldT_take (i := 1) (v := .int .u8 (A : Int)) rfl (by kernel_rfl) (by kernel_rfl) (by kernel_rfl) (fun _ _ _ h => h) rfl (fun wx => ?_) ?_
                      · go_simp; skip
                      simp only [pu]
                      refine heldT_take (i := 2) (v := .int .i64 (A : Int)) rfl (by kernel_rfl) (by kernel_rfl) (by kernel_rfl) (fun _ _ _ h => h) rfl (fun wx => ?_) ?_
                      · go_simp; skip
                      simp only [pu]
                      refine heldT_take (i := 3) (v := .string s) rfl (by kernel_rfl) (by kernel_rfl) (by kernel_rfl) (fun _ _ _ h => h) rfl (fun wx => ?_) ?_
                      · go_simp; skip
                      simp only [pu]
                      refine heldT_take (i := 4) (v := .int .i64 (5 : Int)) rfl (by kernel_rfl) (by kernel_rfl) (by kernel_rfl) (fun _ _ _ h => h) rfl (fun wx => ?_) ?_
                      · go_simp; skip
                      simp only [pu]
                      refine heldT_take (i := 5) (v := .int .i64 (5 : Int)) rfl (by kernel_rfl) (by kernel_rfl) (by kernel_rfl) (fun _ _ _ h => h) rfl (fun wx => ?_) ?_
                      · go_simp; skip
                      simp only [pu]
                      refine heldT_take (i := 6) (v := .int .i64 (N : Int)) rfl (by kernel_rfl) (by kernel_rfl) (by kernel_rfl) (fun _ _ _ h => h) rfl (fun wx => ?_) ?_
                      · go_simp; skip
                      simp only [pu]
                      refine heldT_take (i := 7) (v := .int .i64 (E : Int)) rfl (by kernel_rfl) (by kernel_rfl) (by kernel_rfl) (fun _ _ _ h => h) rfl (fun wx => ?_) ?_
                      · go_simp; skip
                      simp only [pu]
                      refine heldT_take (i := 8) (v := .string (s.extract 5 E)) rfl (by kernel_rfl) (by kernel_rfl) (by kernel_rfl) (fun _ _ _ h => h) rfl (fun wx => ?_) ?_
                      · go_simp; skip
                      simp only [pu]
                      refine heldT_take (i := 9) (v := .string s) rfl (by kernel_rfl) (by kernel_rfl) (by kernel_rfl) (fun _ _ _ h => h) rfl (fun wx => ?_) ?_
                      · go_simp; skip
                      simp only [pu]
                      refine heldT_take (i := 10) (v := .int .i64 (5 : Int)) rfl (by kernel_rfl) (by kernel_rfl) (by kernel_rfl) (fun _ _ _ h => h) rfl (fun wx => ?_) ?_
                      · go_simp; skip
                      simp only [pu]
                      refine heldT_take (i := 11) (v := .int .i64 (N : Int)) rfl (by kernel_rfl) (by kernel_rfl) (by kernel_rfl) (fun _ _ _ h => h) rfl (fun wx => ?_) ?_
                      · go_simp; skip
                      simp only [pu]
                      refine heldT_take (i := 12) (v := .int .i64 (E : Int)) rfl (by kernel_rfl) (by kernel_rfl) (by kernel_rfl) (fun _ _ _ h => h) rfl (fun wx => ?_) ?_
                      · go_simp; skip
                      simp only [pu]
                      refine heldT_take (i := 13) (v := .string (s.extract E s.size)) rfl (by kernel_rfl) (by kernel_rfl) (by kernel_rfl) (fun _ _ _ h => h) rfl (fun wx => ?_) ?_
                      · go_simp; skip
                      simp only [pu]
                      refine heldT_take (i := 14) (v := .agg #[.int .i64 (A : Int), .string (s.extract 5 E), .string (s.extract E s.size)]) rfl (by kernel_rfl) (by kernel_rfl) (by kernel_rfl) (fun _ _ _ h => h) rfl (fun wx => ?_) ?_
                      · go_simp; skip
                      simp only [pu]
                      refine heldT_lands (i := 15) (v := undef) (R := fun wx => wx = w2.setRow w.heap.size #[.int .i64 (A : Int), .string (s.extract 5 E), .string (s.extract E s.size)]) (by kernel_rfl) rfl rfl (lands_store_row 28 _ _ rfl w.heap.size #[.int .i64 (A : Int), .string (s.extract 5 E), .string (s.extract E s.size)] rfl rfl 28 _ HQ2.out HSZ.out rfl (cellsI_one (some (A, s.extract 5 E, s.extract E s.size))) rfl) ?_
                      rintro _ rfl
                      simp only [pu]
                      refine heldT_take (i := 16) (v := .bool true) rfl (by kernel_rfl) (by kernel_rfl) (by kernel_rfl) (fun _ _ _ h => h) rfl (fun wx => ?_) ?_
                      · go_simp; skip
                      simp only [pu]
                      refine wpAnyH_done (by kernel_rfl) ?_ _
                      go_wp2_with fail
                      exact bodyPost_ret (results_cell_row_slot rfl _ _ w.heap.size 28 #[.int .i64 (A : Int), .string (s.extract 5 E), .string (s.extract E s.size)] (0, 0) _ _ rfl (HQ2.out.row_ _) Try.underlying28 rfl HSZ.out rfl) rfl ⟨by rw [HRES.out]; rfl, HB2.out⟩
end Go.Proofs.Ytkbjgaobhbiieaa
/- Heads of items: bytes put one behind the other; chapter 14's Wrap in numbers. -/
namespace Go.Proofs.Ytkbjgaobhbiieaa
open Go.RowKit
/-- uint8: in the table of types. -/
theorem infoB : (Try.prog.info? 5).map (fun i => (i.zero, i.size, i.bytes)) = some (some (.int .u8 0), 1, 1) := by kernel_rfl
def encB (c0 : Int) : List Value := [.int .u8 c0]
theorem eachB (c0 : Int) : Each 1 [encB c0] := fun x hx => by
  rw [List.mem_singleton.1 hx]
  refine ⟨rfl, fun u hu => ?_⟩
  unfold encB at hu
  simp only [List.mem_cons, List.not_mem_nil, or_false] at hu
  rcases hu with rfl <;> rfl
/-- append(s, x..): more of them. -/
theorem wpList_moreB {ops : Array Oper} {rest : List Oper} {o : Oper} {a : Act} {Q : Exit → Act → World → Prop} {B : Nat} {w0 w : World} {l : List (List Value)} {v : Value} (hgd : o.guard = none) (s x : Operand) (T : TypeId) (hT : Try.prog.underlying T = Try.prog.underlying 43)
    (ho : o.op = .call { callee := .builtin .append, args := #[s, x], argTypes := #[T, T] }) (hs : a.eval s = v) (h : LS 5 1 B w0 l v w) (ad : Addr) (m c : Nat) (xs : List (List Value))
    (hx : a.eval x = .slice (some ad) m c) (hm : xs.length = m) (hz : Each 1 xs) (hc : ∀ j u, xs.flatten[j]? = some u → w.cell? (ad.add j) = some u) (hm0 : 0 < m) (hn : l.length + m ≤ 1000000000000)
    (k : ∀ v' w', LS 5 1 B w0 (l ++ xs) v' w' → Gr v w v' w' → wpList Try.prog ops Q rest (a.put o.dst v') w') :
    wpList Try.prog ops Q (o :: rest) a w := by
  obtain ⟨i0, hi, hz0, hz1, hz2⟩ := info_parts infoB
  refine wpList_append_lies _ hgd s x T ho B 5 i0 (.int .u8 0) 1 1 (hT.trans Try.underlying43) hi hz0 hz1 hz2 rfl (by decide) v l.length _ hs h.own ad m c xs.flatten hx (by rw [hz.len, hm]) hc hz.one hm0 (by unfold maxLen; omega) (by omega) h.lo _ rfl ?_
  intro q cap w2 hown hg hat hlt
  have hG : Gr v w (.slice (some ⟨q, 0, none⟩) (l.length + m) cap) w2 := ⟨hg.os, hg.tape, hg.output, hg.size, fun i hi hv => hg.block i hi (fun e => hv e.symm), fun i e => by
    have e : q = i := by injection e
    rcases hat with h1 | h1
    · exact .inl (by rw [h1, e])
    · right; omega⟩
  refine k _ w2 ⟨?_, h.each.app hz, below_gr h.b hG (fun i e => (h.ownB i e).1) h.lo, Nat.le_trans h.lo hg.size⟩ hG
  rw [List.length_append, List.flatten_append, hm]; exact hown
/-- append(s, x): one more, that was laid just now. -/
theorem wpList_oneB {ops : Array Oper} {rest : List Oper} {o : Oper} {a : Act} {Q : Exit → Act → World → Prop} {B : Nat} {w0 w : World} {l : List (List Value)} {v : Value} (hgd : o.guard = none) (s x : Operand) (T : TypeId) (hT : Try.prog.underlying T = Try.prog.underlying 43)
    (ho : o.op = .call { callee := .builtin .append, args := #[s, x], argTypes := #[T, T] }) (hs : a.eval s = v) (h : LS 5 1 B w0 l v w) (c0 : Int)
    (hx : a.eval x = .slice (some ⟨w.heap.size, 0, none⟩) 1 1) (hn : l.length ≤ 999999999999)
    (k : ∀ v' w', LS 5 1 B w0 (l ++ [encB c0]) v' w' → Gr v w v' w' → wpList Try.prog ops Q rest (a.put o.dst v') w') :
    wpList Try.prog ops Q (o :: rest) a (w.alloc (.cells #[.int .u8 c0] 5)) :=
  wpList_moreB hgd s x T hT ho hs (h.below ((Below.refl _ _).alloc (Nat.le_refl _) _)) ⟨w.heap.size, 0, none⟩ 1 1 [encB c0] hx rfl (eachB c0) (fun j u hu => new_cells w #[.int .u8 c0] 5 j u (by simpa [encB] using hu)) (by decide) (by omega) fun v' w' h2 h3 => k v' w' h2 ((Gr.of ((Below.refl _ _).alloc (Nat.le_refl _) _)).trans h3)
/-- Bytes as a text. -/
def tL (l : List Nat) : ByteArray := textN l.length fun i => l.getD i 0
theorem tL_size (l : List Nat) : (tL l).size = l.length := textN_size _ _
def bN (l : List Nat) : List (List Value) := l.map fun (n : Nat) => encB (n : Int)
theorem bN_cells (m : List Nat) : (bN m).flatten = m.map fun (n : Nat) => Value.int .u8 (n : Int) := by
  induction m with
  | nil => rfl
  | cons y m ih =>
    show encB (y : Int) ++ (bN m).flatten = _
    rw [ih]
    rfl
theorem bN_flat (l : List Nat) (h : ∀ x ∈ l, x < 256) : (bN l).flatten = (l.map fun n => BitVec.ofNat 8 n).map b8v := by
  induction l with
  | nil => rfl
  | cons x l ih =>
    show encB (x : Int) ++ (bN l).flatten = b8v (BitVec.ofNat 8 x) :: _
    rw [ih fun y hy => h y (.tail _ hy)]
    have e : b8v (BitVec.ofNat 8 x) = .int .u8 (x : Int) := by unfold b8v iw; rw [BitVec.toNat_ofNat, Nat.mod_eq_of_lt (h x (.head _))]
    rw [e]
    rfl
theorem tL_list (l : List Nat) : (⟨(asBytes (l.map fun n => BitVec.ofNat 8 n)).toArray⟩ : ByteArray) = tL l := by
  unfold tL textN
  congr 3
  apply List.ext_getElem (by simp)
  intro i h1 h2
  simp at h1
  simp [h1]
theorem eachBN (l : List Nat) : Each 1 (bN l) := fun x hx => by
  obtain ⟨n, _, rfl⟩ := List.mem_map.1 hx
  exact eachB _ _ (.head _)
theorem LS.text {N : Nat} {w0 w : World} {l : List Nat} {v : Value} (h : LS 5 1 N w0 (bN l) v w) (hl : ∀ x ∈ l, x < 256) : (convert 43 9 v).run Try.prog w = .ok (.string (tL l)) w := by
  have hown := h.own
  rw [bN_flat l hl] at hown
  have := run_string_of_own (P := Try.prog) w 43 9 5 N Try.underlying43 Try.underlying5 Try.underlying9 v (bN l).length _ hown
  rw [this, tL_list]
/-- A slice of one byte that was built. -/
theorem LS.one (N : Nat) (w : World) (x : Nat) (hN : N ≤ w.heap.size) {w0 : World} (hb : Below N w0 w) : LS 5 1 N w0 (bN [x]) (.slice (some ⟨w.heap.size, 0, none⟩) 1 1) (w.alloc (.cells #[.int .u8 (x : Int)] 5)) :=
  ⟨⟨rfl, .inr ⟨w.heap.size, 1, #[.int .u8 (x : Int)], rfl, hN, heap_alloc_new w _, Nat.le_refl _, by decide, rfl, rfl⟩⟩, eachBN _, hb.alloc hN _, by simp; omega⟩
theorem wpList_bytes {ops : Array Oper} {rest : List Oper} {o : Oper} {a : Act} {Q : Exit → Act → World → Prop} {B : Nat} {w0 w : World} {l : List Nat} {v : Value} (hgd : o.guard = none) (s x : Operand)
    (ho : o.op = .call { callee := .builtin .append, args := #[s, x], argTypes := #[43, 43] }) (hs : a.eval s = v) (h : LS 5 1 B w0 (bN l) v w) (m : List Nat) (cs : Array Value) (hcs : cs.toList = m.map fun (n : Nat) => Value.int .u8 (n : Int)) (k : Nat) (hk : m.length = k) (r : Nat) (hr : r = w.heap.size)
    (hx : a.eval x = .slice (some ⟨r, 0, none⟩) k k) (hm0 : 0 < k) (hn : l.length + k ≤ 1000000)
    (K : ∀ v' w', LS 5 1 B w0 (bN (l ++ m)) v' w' → Gr v w v' w' → wpList Try.prog ops Q rest (a.put o.dst v') w') :
    wpList Try.prog ops Q (o :: rest) a (w.alloc (.cells cs 5)) := by
  subst hr
  refine wpList_moreB hgd s x 43 rfl ho hs (h.below ((Below.refl _ _).alloc (Nat.le_refl _) _)) ⟨w.heap.size, 0, none⟩ k k (bN m) hx (by unfold bN; rw [List.length_map, hk]) (eachBN m) (fun j u hu => new_cells w cs 5 j u ?_) hm0 (by unfold bN; rw [List.length_map]; omega) fun v' w' h2 h3 => K v' w' (by unfold bN at h2 ⊢; rw [List.map_append]; exact h2) ((Gr.of ((Below.refl _ _).alloc (Nat.le_refl _) _)).trans h3)
  have e := bN_cells m
  rw [hcs, ← e]
  exact hu
/-- Bytes that were laid just now, as a text. -/
theorem conv_new (W : World) (l : List Nat) (hl : ∀ x ∈ l, x < 256) (cs zs : Array Value) (hcs : cs.toList = l.map fun (n : Nat) => Value.int .u8 (n : Int)) (h k c : Nat) (hk : l.length = k) (hh : h = W.heap.size) :
    (convert 43 9 (.slice (some ⟨h, 0, none⟩) k c)).run Try.prog ((W.alloc (.cells (cs ++ zs) 5)).drew) = .ok (.string (tL l)) ((W.alloc (.cells (cs ++ zs) 5)).drew) := by
  subst hh
  have hb : Blk ((W.alloc (.cells (cs ++ zs) 5)).drew) W.heap.size 5 (cs ++ zs) := (Blk.new W _ _).drew
  have hz : cs.size = l.length := by rw [← Array.length_toList, hcs, List.length_map]
  have hl2 : (asBytes (l.map fun n => BitVec.ofNat 8 n)).length = k := by rw [asBytes_len, List.length_map, hk]
  have := run_convert_bytes_back (P := Try.prog) ((W.alloc (.cells (cs ++ zs) 5)).drew) 43 9 5 ⟨W.heap.size, 0, none⟩ c (asBytes (l.map fun n => BitVec.ofNat 8 n)) Try.underlying43 Try.underlying5 Try.underlying9 (fun j hj => by
    rw [hl2] at hj
    have hj2 : j < l.length := by omega
    rw [addr_add, Nat.zero_add, hb.cell j, Array.getElem?_append_left (by omega), ← Array.getElem?_toList, hcs, List.getElem?_map, List.getElem?_eq_getElem hj2]
    have h8 := hl _ (List.getElem_mem hj2)
    simp only [asBytes, List.getElem_map]
    show some (Value.int .u8 (l[j] : Int)) = some (Value.int .u8 ((BitVec.ofNat 8 l[j]).toNat : Int))
    rw [BitVec.toNat_ofNat, Nat.mod_eq_of_lt h8])
  rw [hl2] at this
  rw [this, tL_list]
theorem conv_new2 (W : World) (l : List Nat) (hl : ∀ x ∈ l, x < 256) (c1 c2 zs : Array Value) (hcs : (c1 ++ c2).toList = l.map fun (n : Nat) => Value.int .u8 (n : Int)) (h k c : Nat) (hk : l.length = k) (hh : h = W.heap.size) :
    (convert 43 9 (.slice (some ⟨h, 0, none⟩) k c)).run Try.prog ((W.alloc (.cells (c1 ++ (c2 ++ zs)) 5)).drew) = .ok (.string (tL l)) ((W.alloc (.cells (c1 ++ (c2 ++ zs)) 5)).drew) := by
  rw [← Array.append_assoc]
  exact conv_new W l hl (c1 ++ c2) zs hcs h k c hk hh
/-- How a length is written. -/
def lenL (n : Nat) : List Nat := if n < 128 then [n] else if n < 256 then [129, n] else if n < 65536 then [130, n / 256, n % 256] else [131, n / 65536, n / 256 % 256, n % 256]
/-- An item. -/
def wrapT (tag : Nat) (x : ByteArray) : ByteArray := tL (tag :: lenL x.size) ++ x
/-- What Wrap answers. -/
def wrapS (tag : Int) (x : ByteArray) : ByteArray × Nat :=
  if tag < 0 ∨ 255 < tag ∨ tag % 32 = 31 then (⟨#[]⟩, 1) else if 16777216 ≤ x.size then (⟨#[]⟩, 9) else (wrapT tag.toNat x, 0)
end Go.Proofs.Ytkbjgaobhbiieaa
/- The document's Wrap of chapter 14; the law's item. -/
namespace Go.Proofs.Ytkbjgaobhbiieaa
open Go.RowKit
theorem lenL_lt (n : Nat) (hn : n < 16777216) : ∀ x ∈ lenL n, x < 256 := by
  unfold lenL
  intro x hx
  split at hx
  · simp only [List.mem_cons, List.not_mem_nil, or_false] at hx; omega
  · split at hx
    · simp only [List.mem_cons, List.not_mem_nil, or_false] at hx; omega
    · split at hx
      · simp only [List.mem_cons, List.not_mem_nil, or_false] at hx; omega
      · simp only [List.mem_cons, List.not_mem_nil, or_false] at hx; omega
set_option maxRecDepth 100000 in
set_option maxHeartbeats 4000000 in
theorem item_any (T : Nat) (x : ByteArray) (w : World) (hT : T < 256) (hn : x.size < 65536) :
    Calls Try.prog 14 #[.int .i64 (T : Int), .string x] w fun e w' => e = .returned (.string (wrapT T x)) ∧ Below w.heap.size w w' := by
  obtain ⟨n, hN⟩ : ∃ n, n = x.size := ⟨_, rfl⟩
  have HN := Lib.hid hN
  have HXS : Hid (x.size < 65536) := Lib.hid hn
  rw [← hN] at hn
  have hsz : (x.size : Int) = (n : Int) := by rw [hN]
  have HB : Hid (∀ L, lenL n = L → ∀ y ∈ [T] ++ L, y < 256) := Lib.hid fun L hL y hy => by
    rcases List.mem_append.1 hy with h | h
    · rw [List.mem_singleton.1 h]; exact hT
    · exact lenL_lt n (by omega) y (by rw [hL]; exact h)
  have wT : IntKind.u8.wrap (T : Int) = (T : Int) := by rw [IntKind.wrap_u8']; omega
  clear hN hT
  by_cases h1 : n < 128
  · have n16 : ¬ (n : Int) ≥ 65536 := by omega
    have n8 : ¬ (n : Int) ≥ 256 := by omega
    have n7 : ¬ (n : Int) ≥ 128 := by omega
    have w0 : IntKind.u8.wrap (n : Int) = (n : Int) := by rw [IntKind.wrap_u8']; omega
    have HLL : Hid (lenL n = [n]) := Lib.hid (by unfold lenL; rw [if_pos h1])
    have HTX : Hid (tL [T, n] ++ x = wrapT T x) := Lib.hid (by unfold wrapT; rw [← HN.out, HLL.out])
    have hz : ¬ (((tL [T, n]).size + x.size : Nat) : Int) > 9223372036854775807 := by have := HXS.out; rw [tL_size, show [T, n].length = 2 from rfl]; omega
    have hcv := fun (c : Nat) (zs : Array Value) => conv_new ((w.alloc (.cells #[.int .u8 (T : Int)] 5)).alloc (.cells #[.int .u8 (n : Int)] 5)) [T, n] (HB.out _ HLL.out) #[.int .u8 (T : Int), .int .u8 (n : Int)] zs rfl (w.heap.size + 1 + 1) 2 c rfl (by simp)
    have HF : Hid (∀ zs : Array Value, Below w.heap.size w ((((w.alloc (.cells #[.int .u8 (T : Int)] 5)).alloc (.cells #[.int .u8 (n : Int)] 5)).alloc (.cells (#[.int .u8 (T : Int), .int .u8 (n : Int)] ++ zs) 5)).drew)) := Lib.hid fun zs => ((((Below.refl _ w).alloc (Nat.le_refl _) _).alloc (by simp) _).alloc (by simp; omega) _).drew
    generalize tL [T, n] = X at HTX hz hcv
    clear h1 hn
    go_enter Try.func14, Try.ntmps14
    go_wp2_with fail
    go_ret
    rw [HTX.out]
    exact ⟨rfl, HF.out _⟩
  · by_cases h2 : n < 256
    · have n16 : ¬ (n : Int) ≥ 65536 := by omega
      have n8 : ¬ (n : Int) ≥ 256 := by omega
      have n7 : (n : Int) ≥ 128 := by omega
      have w0 : IntKind.u8.wrap (n : Int) = (n : Int) := by rw [IntKind.wrap_u8']; omega
      have HLL : Hid (lenL n = [129, n]) := Lib.hid (by unfold lenL; rw [if_neg h1, if_pos h2])
      have HTX : Hid (tL [T, 129, n] ++ x = wrapT T x) := Lib.hid (by unfold wrapT; rw [← HN.out, HLL.out])
      have hz : ¬ (((tL [T, 129, n]).size + x.size : Nat) : Int) > 9223372036854775807 := by have := HXS.out; rw [tL_size, show [T, 129, n].length = 3 from rfl]; omega
      have hcv := fun (c : Nat) (zs : Array Value) => conv_new2 ((w.alloc (.cells #[.int .u8 (T : Int)] 5)).alloc (.cells #[.int .u8 129, .int .u8 (n : Int)] 5)) [T, 129, n] (HB.out _ HLL.out) #[.int .u8 (T : Int)] #[.int .u8 129, .int .u8 (n : Int)] zs rfl (w.heap.size + 1 + 1) 3 c rfl (by simp)
      have HF : Hid (∀ zs : Array Value, Below w.heap.size w ((((w.alloc (.cells #[.int .u8 (T : Int)] 5)).alloc (.cells #[.int .u8 129, .int .u8 (n : Int)] 5)).alloc (.cells (#[.int .u8 (T : Int)] ++ (#[.int .u8 129, .int .u8 (n : Int)] ++ zs)) 5)).drew)) := Lib.hid fun zs => ((((Below.refl _ w).alloc (Nat.le_refl _) _).alloc (by simp) _).alloc (by simp; omega) _).drew
      generalize tL [T, 129, n] = X at HTX hz hcv
      clear h1 h2 hn
      go_enter Try.func14, Try.ntmps14
      go_wp2_with fail
      go_ret
      rw [HTX.out]
      exact ⟨rfl, HF.out _⟩
    · have h3 : n < 65536 := hn
      have n16 : ¬ (n : Int) ≥ 65536 := by omega
      have n8 : (n : Int) ≥ 256 := by omega
      obtain ⟨p1, hp1⟩ : ∃ p1, p1 = n / 256 := ⟨_, rfl⟩
      obtain ⟨p0, hp0⟩ : ∃ p0, p0 = n % 256 := ⟨_, rfl⟩
      have w1 : IntKind.u8.wrap ((n : Int) / 256) = (p1 : Int) := by rw [IntKind.wrap_u8']; omega
      have w0 : IntKind.u8.wrap (n : Int) = (p0 : Int) := by rw [IntKind.wrap_u8']; omega
      have HLL : Hid (lenL n = [130, p1, p0]) := Lib.hid (by unfold lenL; rw [if_neg h1, if_neg h2, if_pos h3, ← hp1, ← hp0])
      have HTX : Hid (tL [T, 130, p1, p0] ++ x = wrapT T x) := Lib.hid (by unfold wrapT; rw [← HN.out, HLL.out])
      have hz : ¬ (((tL [T, 130, p1, p0]).size + x.size : Nat) : Int) > 9223372036854775807 := by have := HXS.out; rw [tL_size, show [T, 130, p1, p0].length = 4 from rfl]; omega
      have hcv := fun (c : Nat) (zs : Array Value) => conv_new2 ((w.alloc (.cells #[.int .u8 (T : Int)] 5)).alloc (.cells #[.int .u8 130, .int .u8 (p1 : Int), .int .u8 (p0 : Int)] 5)) [T, 130, p1, p0] (HB.out _ HLL.out) #[.int .u8 (T : Int)] #[.int .u8 130, .int .u8 (p1 : Int), .int .u8 (p0 : Int)] zs rfl (w.heap.size + 1 + 1) 4 c rfl (by simp)
      have HF : Hid (∀ zs : Array Value, Below w.heap.size w ((((w.alloc (.cells #[.int .u8 (T : Int)] 5)).alloc (.cells #[.int .u8 130, .int .u8 (p1 : Int), .int .u8 (p0 : Int)] 5)).alloc (.cells (#[.int .u8 (T : Int)] ++ (#[.int .u8 130, .int .u8 (p1 : Int), .int .u8 (p0 : Int)] ++ zs)) 5)).drew)) := Lib.hid fun zs => ((((Below.refl _ w).alloc (Nat.le_refl _) _).alloc (by simp) _).alloc (by simp; omega) _).drew
      generalize tL [T, 130, p1, p0] = X at HTX hz hcv
      clear h1 h2 h3 hp1 hp0 hn
      go_enter Try.func14, Try.ntmps14
      go_wp2_with fail
      go_ret
      rw [HTX.out]
      exact ⟨rfl, HF.out _⟩
set_option maxRecDepth 100000 in
set_option maxHeartbeats 4000000 in
theorem rWrap_ok (T : Nat) (x : ByteArray) (w : World) (hT : T < 256) (hT31 : ¬ T % 32 = 31) (hn : x.size < 16777216) :
    Calls Try.prog 11 #[.int .i64 (T : Int), .string x] w fun e w' => e = .returned (.tuple #[.string (wrapT T x), .int .i64 0]) ∧ Below w.heap.size w w' := by
  obtain ⟨n, hN⟩ : ∃ n, n = x.size := ⟨_, rfl⟩
  have HN := Lib.hid hN
  have HXS : Hid (x.size < 16777216) := Lib.hid hn
  rw [← hN] at hn
  have hsz : (x.size : Int) = (n : Int) := by rw [hN]
  have HB : Hid (∀ L, lenL n = L → ∀ y ∈ [T] ++ L, y < 256) := Lib.hid fun L hL y hy => by
    rcases List.mem_append.1 hy with h | h
    · rw [List.mem_singleton.1 h]; exact hT
    · exact lenL_lt n hn y (by rw [hL]; exact h)
  have wT : IntKind.u8.wrap (T : Int) = (T : Int) := by rw [IntKind.wrap_u8']; omega
  have t1 : ¬ (T : Int) < 0 := by omega
  have t2 : ¬ (T : Int) > 255 := by omega
  have t3 : ¬ (T : Int) % 32 = 31 := by omega
  have t4 : ((T : Int) % 32 == 31) = false := by simpa using t3
  have n24 : ¬ (n : Int) ≥ 16777216 := by omega
  clear hN hT hT31
  by_cases h1 : n < 128
  · have n16 : ¬ (n : Int) ≥ 65536 := by omega
    have n8 : ¬ (n : Int) ≥ 256 := by omega
    have n7 : ¬ (n : Int) ≥ 128 := by omega
    have w0 : IntKind.u8.wrap (n : Int) = (n : Int) := by rw [IntKind.wrap_u8']; omega
    have HLL : Hid (lenL n = [n]) := Lib.hid (by unfold lenL; rw [if_pos h1])
    have HTX : Hid (tL [T, n] ++ x = wrapT T x) := Lib.hid (by unfold wrapT; rw [← HN.out, HLL.out])
    have hz : ¬ (((tL [T, n]).size + x.size : Nat) : Int) > 9223372036854775807 := by have := HXS.out; rw [tL_size, show [T, n].length = 2 from rfl]; omega
    have hcv := fun (c : Nat) (zs : Array Value) => conv_new ((w.alloc (.cells #[.int .u8 (T : Int)] 5)).alloc (.cells #[.int .u8 (n : Int)] 5)) [T, n] (HB.out _ HLL.out) #[.int .u8 (T : Int), .int .u8 (n : Int)] zs rfl (w.heap.size + 1 + 1) 2 c rfl (by simp)
    have HF : Hid (∀ zs : Array Value, Below w.heap.size w ((((w.alloc (.cells #[.int .u8 (T : Int)] 5)).alloc (.cells #[.int .u8 (n : Int)] 5)).alloc (.cells (#[.int .u8 (T : Int), .int .u8 (n : Int)] ++ zs) 5)).drew)) := Lib.hid fun zs => ((((Below.refl _ w).alloc (Nat.le_refl _) _).alloc (by simp) _).alloc (by simp; omega) _).drew
    generalize tL [T, n] = X at HTX hz hcv
    clear h1 hn
    go_enter Try.func11, Try.ntmps11
    go_wp2_with fail
    go_ret2
    rw [HTX.out]
    exact ⟨rfl, HF.out _⟩
  · by_cases h2 : n < 256
    · have n16 : ¬ (n : Int) ≥ 65536 := by omega
      have n8 : ¬ (n : Int) ≥ 256 := by omega
      have n7 : (n : Int) ≥ 128 := by omega
      have w0 : IntKind.u8.wrap (n : Int) = (n : Int) := by rw [IntKind.wrap_u8']; omega
      have HLL : Hid (lenL n = [129, n]) := Lib.hid (by unfold lenL; rw [if_neg h1, if_pos h2])
      have HTX : Hid (tL [T, 129, n] ++ x = wrapT T x) := Lib.hid (by unfold wrapT; rw [← HN.out, HLL.out])
      have hz : ¬ (((tL [T, 129, n]).size + x.size : Nat) : Int) > 9223372036854775807 := by have := HXS.out; rw [tL_size, show [T, 129, n].length = 3 from rfl]; omega
      have hcv := fun (c : Nat) (zs : Array Value) => conv_new2 ((w.alloc (.cells #[.int .u8 (T : Int)] 5)).alloc (.cells #[.int .u8 129, .int .u8 (n : Int)] 5)) [T, 129, n] (HB.out _ HLL.out) #[.int .u8 (T : Int)] #[.int .u8 129, .int .u8 (n : Int)] zs rfl (w.heap.size + 1 + 1) 3 c rfl (by simp)
      have HF : Hid (∀ zs : Array Value, Below w.heap.size w ((((w.alloc (.cells #[.int .u8 (T : Int)] 5)).alloc (.cells #[.int .u8 129, .int .u8 (n : Int)] 5)).alloc (.cells (#[.int .u8 (T : Int)] ++ (#[.int .u8 129, .int .u8 (n : Int)] ++ zs)) 5)).drew)) := Lib.hid fun zs => ((((Below.refl _ w).alloc (Nat.le_refl _) _).alloc (by simp) _).alloc (by simp; omega) _).drew
      generalize tL [T, 129, n] = X at HTX hz hcv
      clear h1 h2 hn
      go_enter Try.func11, Try.ntmps11
      go_wp2_with fail
      go_ret2
      rw [HTX.out]
      exact ⟨rfl, HF.out _⟩
    · by_cases h3 : n < 65536
      · have n16 : ¬ (n : Int) ≥ 65536 := by omega
        have n8 : (n : Int) ≥ 256 := by omega
        obtain ⟨p1, hp1⟩ : ∃ p1, p1 = n / 256 := ⟨_, rfl⟩
        obtain ⟨p0, hp0⟩ : ∃ p0, p0 = n % 256 := ⟨_, rfl⟩
        have w1 : IntKind.u8.wrap ((n : Int) / 256) = (p1 : Int) := by rw [IntKind.wrap_u8']; omega
        have w0 : IntKind.u8.wrap (n : Int) = (p0 : Int) := by rw [IntKind.wrap_u8']; omega
        have HLL : Hid (lenL n = [130, p1, p0]) := Lib.hid (by unfold lenL; rw [if_neg h1, if_neg h2, if_pos h3, ← hp1, ← hp0])
        have HTX : Hid (tL [T, 130, p1, p0] ++ x = wrapT T x) := Lib.hid (by unfold wrapT; rw [← HN.out, HLL.out])
        have hz : ¬ (((tL [T, 130, p1, p0]).size + x.size : Nat) : Int) > 9223372036854775807 := by have := HXS.out; rw [tL_size, show [T, 130, p1, p0].length = 4 from rfl]; omega
        have hcv := fun (c : Nat) (zs : Array Value) => conv_new2 ((w.alloc (.cells #[.int .u8 (T : Int)] 5)).alloc (.cells #[.int .u8 130, .int .u8 (p1 : Int), .int .u8 (p0 : Int)] 5)) [T, 130, p1, p0] (HB.out _ HLL.out) #[.int .u8 (T : Int)] #[.int .u8 130, .int .u8 (p1 : Int), .int .u8 (p0 : Int)] zs rfl (w.heap.size + 1 + 1) 4 c rfl (by simp)
        have HF : Hid (∀ zs : Array Value, Below w.heap.size w ((((w.alloc (.cells #[.int .u8 (T : Int)] 5)).alloc (.cells #[.int .u8 130, .int .u8 (p1 : Int), .int .u8 (p0 : Int)] 5)).alloc (.cells (#[.int .u8 (T : Int)] ++ (#[.int .u8 130, .int .u8 (p1 : Int), .int .u8 (p0 : Int)] ++ zs)) 5)).drew)) := Lib.hid fun zs => ((((Below.refl _ w).alloc (Nat.le_refl _) _).alloc (by simp) _).alloc (by simp; omega) _).drew
        generalize tL [T, 130, p1, p0] = X at HTX hz hcv
        clear h1 h2 h3 hp1 hp0 hn
        go_enter Try.func11, Try.ntmps11
        go_wp2_with fail
        go_ret2
        rw [HTX.out]
        exact ⟨rfl, HF.out _⟩
      · have n16 : (n : Int) ≥ 65536 := by omega
        obtain ⟨p2, hp2⟩ : ∃ p2, p2 = n / 65536 := ⟨_, rfl⟩
        obtain ⟨p1, hp1⟩ : ∃ p1, p1 = n / 256 % 256 := ⟨_, rfl⟩
        obtain ⟨p0, hp0⟩ : ∃ p0, p0 = n % 256 := ⟨_, rfl⟩
        have w2 : IntKind.u8.wrap ((n : Int) / 65536) = (p2 : Int) := by rw [IntKind.wrap_u8']; omega
        have w1 : IntKind.u8.wrap ((n : Int) / 256) = (p1 : Int) := by rw [IntKind.wrap_u8']; omega
        have w0 : IntKind.u8.wrap (n : Int) = (p0 : Int) := by rw [IntKind.wrap_u8']; omega
        have HLL : Hid (lenL n = [131, p2, p1, p0]) := Lib.hid (by unfold lenL; rw [if_neg h1, if_neg h2, if_neg h3, ← hp2, ← hp1, ← hp0])
        have HTX : Hid (tL [T, 131, p2, p1, p0] ++ x = wrapT T x) := Lib.hid (by unfold wrapT; rw [← HN.out, HLL.out])
        have hz : ¬ (((tL [T, 131, p2, p1, p0]).size + x.size : Nat) : Int) > 9223372036854775807 := by have := HXS.out; rw [tL_size, show [T, 131, p2, p1, p0].length = 5 from rfl]; omega
        have hcv := fun (c : Nat) (zs : Array Value) => conv_new2 ((w.alloc (.cells #[.int .u8 (T : Int)] 5)).alloc (.cells #[.int .u8 131, .int .u8 (p2 : Int), .int .u8 (p1 : Int), .int .u8 (p0 : Int)] 5)) [T, 131, p2, p1, p0] (HB.out _ HLL.out) #[.int .u8 (T : Int)] #[.int .u8 131, .int .u8 (p2 : Int), .int .u8 (p1 : Int), .int .u8 (p0 : Int)] zs rfl (w.heap.size + 1 + 1) 5 c rfl (by simp)
        have HF : Hid (∀ zs : Array Value, Below w.heap.size w ((((w.alloc (.cells #[.int .u8 (T : Int)] 5)).alloc (.cells #[.int .u8 131, .int .u8 (p2 : Int), .int .u8 (p1 : Int), .int .u8 (p0 : Int)] 5)).alloc (.cells (#[.int .u8 (T : Int)] ++ (#[.int .u8 131, .int .u8 (p2 : Int), .int .u8 (p1 : Int), .int .u8 (p0 : Int)] ++ zs)) 5)).drew)) := Lib.hid fun zs => ((((Below.refl _ w).alloc (Nat.le_refl _) _).alloc (by simp) _).alloc (by simp; omega) _).drew
        generalize tL [T, 131, p2, p1, p0] = X at HTX hz hcv
        clear h1 h2 h3 hp1 hp0 hp2 hn
        go_enter Try.func11, Try.ntmps11
        go_wp2_with fail
        go_ret2
        rw [HTX.out]
        exact ⟨rfl, HF.out _⟩
set_option maxRecDepth 100000 in
theorem rWrap_any (tag : Int) (x : ByteArray) (w : World) (hx : x.size ≤ 9223372036854775807) :
    Calls Try.prog 11 #[.int .i64 tag, .string x] w fun e w' => e = .returned (.tuple #[.string (wrapS tag x).1, .int .i64 ((wrapS tag x).2 : Int)]) ∧ Below w.heap.size w w' := by
  by_cases h : tag < 0 ∨ 255 < tag ∨ tag % 32 = 31
  · have hr : wrapS tag x = (⟨#[]⟩, 1) := by unfold wrapS; rw [if_pos h]
    rw [hr]
    have HB := Lib.hid (Below.refl w.heap.size w)
    clear hr hx
    by_cases h0 : tag < 0
    · clear h
      go_enter Try.func11, Try.ntmps11
      go_wp2_with fail
      go_ret2
      exact ⟨rfl, HB.out⟩
    · by_cases h1 : tag > 255
      · clear h
        go_enter Try.func11, Try.ntmps11
        go_wp2_with fail
        go_ret2
        exact ⟨rfl, HB.out⟩
      · obtain ⟨T, rfl⟩ : ∃ T : Nat, tag = (T : Int) := ⟨tag.toNat, by omega⟩
        have h3 : (T : Int) % 32 = 31 := by omega
        clear h
        go_enter Try.func11, Try.ntmps11
        go_wp2_with fail
        go_ret2
        exact ⟨rfl, HB.out⟩
  · obtain ⟨T, rfl⟩ : ∃ T : Nat, tag = (T : Int) := ⟨tag.toNat, by omega⟩
    by_cases hn : x.size < 16777216
    · have hr : wrapS (T : Int) x = (wrapT T x, 0) := by unfold wrapS; rw [if_neg h, if_neg (by omega), Int.toNat_natCast]
      rw [hr]
      exact rWrap_ok T x w (by omega) (by omega) hn
    · have hr : wrapS (T : Int) x = (⟨#[]⟩, 9) := by unfold wrapS; rw [if_neg h, if_pos (by omega)]
      rw [hr]
      have t1 : ¬ (T : Int) < 0 := by omega
      have t2 : ¬ (T : Int) > 255 := by omega
      have t3 : ¬ (T : Int) % 32 = 31 := by omega
      have t4 : ((T : Int) % 32 == 31) = false := by simpa using t3
      have n24 : (x.size : Int) ≥ 16777216 := by omega
      have wT : IntKind.u8.wrap (T : Int) = (T : Int) := by rw [IntKind.wrap_u8']; omega
      have HB := Lib.hid ((Below.refl _ w).alloc (Nat.le_refl _) (.cells #[.int .u8 (T : Int)] 5))
      clear hr hx h hn
      go_enter Try.func11, Try.ntmps11
      go_wp2_with fail
      go_ret2
      exact ⟨rfl, HB.out⟩
end Go.Proofs.Ytkbjgaobhbiieaa
/- The document's Parts of chapter 14. -/
namespace Go.Proofs.Ytkbjgaobhbiieaa
open Go.RowKit
abbrev It := Nat × ByteArray × ByteArray
/-- The items of which a text consists, at most f; the error. -/
def partsF : Nat → ByteArray → List It × Nat
  | 0, s => if s.size = 0 then ([], 0) else (nextD s).elim ([], 2) fun _ => ([], 9)
  | f + 1, s => if s.size = 0 then ([], 0) else (nextD s).elim ([], 2) fun y => if (partsF f y.2.2).2 = 0 then (y :: (partsF f y.2.2).1, 0) else ([], (partsF f y.2.2).2)
/-- What was there, and more. -/
def joinP (D : List It) (r : List It × Nat) : List It × Nat := if r.2 = 0 then (D ++ r.1, 0) else ([], r.2)
theorem joinP_end (D : List It) (f : Nat) (s : ByteArray) (h : s.size = 0) : joinP D (partsF f s) = (D, 0) := by
  have e : partsF f s = ([], 0) := by cases f <;> (unfold partsF; rw [if_pos h])
  rw [e]
  unfold joinP
  rw [if_pos rfl, List.append_nil]
theorem joinP_none (D : List It) (f : Nat) (s : ByteArray) (h : s.size ≠ 0) (hn : nextD s = none) : joinP D (partsF f s) = ([], 2) := by
  have e : partsF f s = ([], 2) := by cases f <;> (unfold partsF; rw [if_neg h, hn]; rfl)
  rw [e]
  rfl
theorem joinP_long (D : List It) (s : ByteArray) (h : s.size ≠ 0) {y : It} (hn : nextD s = some y) : joinP D (partsF 0 s) = ([], 9) := by
  have e : partsF 0 s = ([], 9) := by unfold partsF; rw [if_neg h, hn]; rfl
  rw [e]
  rfl
theorem joinP_more (D : List It) (f : Nat) (s : ByteArray) (h : s.size ≠ 0) {y : It} (hn : nextD s = some y) : joinP D (partsF (f + 1) s) = joinP (D ++ [y]) (partsF f y.2.2) := by
  have e : partsF (f + 1) s = if (partsF f y.2.2).2 = 0 then (y :: (partsF f y.2.2).1, 0) else ([], (partsF f y.2.2).2) := by
    show (if s.size = 0 then _ else _) = _
    rw [if_neg h, hn]
    rfl
  rw [e]
  unfold joinP
  by_cases k : (partsF f y.2.2).2 = 0
  · rw [if_pos k, if_pos rfl, if_pos k]
    simp
  · rw [if_neg k, if_neg k, if_neg k]
theorem lenD_at {s : ByteArray} {x : Nat × Nat} (h : lenD s = some x) : 2 ≤ x.2 := by
  unfold lenD at h
  generalize byteS s 1 = b at h
  generalize beA s 2 (b - 128) = n at h
  by_cases h1 : b < 128
  · rw [if_pos h1] at h; injection h with h; rw [← h]; exact Nat.le_refl _
  · rw [if_neg h1] at h
    by_cases h2 : b < 129 ∨ 131 < b ∨ s.size < b - 126
    · rw [if_pos h2] at h; cases h
    · rw [if_neg h2] at h
      split at h
      · cases h
      · injection h with h; rw [← h]; show 2 ≤ b - 126; omega
theorem partsF_err : ∀ f s, (partsF f s).2 ≠ 0 → (partsF f s).1 = []
  | 0, s => by
    unfold partsF
    split
    · exact fun h => absurd rfl h
    · cases nextD s <;> exact fun _ => rfl
  | f + 1, s => by
    unfold partsF
    split
    · exact fun h => absurd rfl h
    · cases nextD s with
      | none => exact fun _ => rfl
      | some y =>
        show (if _ then _ else _ : List It × Nat).2 ≠ 0 → (if _ then _ else _ : List It × Nat).1 = []
        split
        · exact fun h => absurd rfl h
        · exact fun _ => rfl
theorem joinP_nil (r : List It × Nat) (h : r.2 ≠ 0 → r.1 = []) : joinP [] r = r := by
  unfold joinP
  obtain ⟨a, b⟩ := r
  by_cases k : b = 0
  · subst k; rfl
  · rw [if_neg k]; rw [show a = [] from h k]
theorem nextD_size {s : ByteArray} {y : It} (h : nextD s = some y) : y.2.2.size < s.size ∧ y.1 < 256 := by
  unfold nextD at h
  split at h
  · cases h
  · rename_i h2
    obtain ⟨x, hx, hf⟩ := Option.bind_eq_some_iff.1 h
    unfold finD at hf
    split at hf
    · cases hf
    · injection hf with hf
      rw [← hf]
      have ha := lenD_at hx
      refine ⟨?_, byteS_lt _ _⟩
      show (s.extract _ _).size < _
      rw [ByteArray.size_extract]
      omega
def encIt (y : It) : List Value := [.int .i64 (y.1 : Int), .string y.2.1, .string y.2.2]
theorem eachIt (y : It) : Each 3 [encIt y] := fun x hx => by
  rw [List.mem_singleton.1 hx]
  refine ⟨rfl, fun u hu => ?_⟩
  unfold encIt at hu
  simp only [List.mem_cons, List.not_mem_nil, or_false] at hu
  rcases hu with rfl | rfl | rfl <;> rfl
theorem infoItR : (Try.prog.info? 28).map (fun i => (i.zero, i.size, i.bytes)) = some (some (.agg #[.int .i64 0, .string ⟨#[]⟩, .string ⟨#[]⟩]), 3, 40) := by kernel_rfl
/-- append(s, x): one more, that was laid just now. -/
theorem wpList_oneItR {ops : Array Oper} {rest : List Oper} {o : Oper} {a : Act} {Q : Exit → Act → World → Prop} {B : Nat} {w0 w : World} {l : List (List Value)} {v : Value} (hgd : o.guard = none) (s x : Operand)
    (ho : o.op = .call { callee := .builtin .append, args := #[s, x], argTypes := #[38, 38] }) (hs : a.eval s = v) (h : LS 28 3 B w0 l v w) (y : It) (r : Nat) (hr : r = w.heap.size)
    (hx : a.eval x = .slice (some ⟨r, 0, none⟩) 1 1) (hn : l.length ≤ 999999)
    (k : ∀ v' w', LS 28 3 B w0 (l ++ [encIt y]) v' w' → Gr v w v' w' → wpList Try.prog ops Q rest (a.put o.dst v') w') :
    wpList Try.prog ops Q (o :: rest) a (w.alloc (.cells #[.int .i64 (y.1 : Int), .string y.2.1, .string y.2.2] 28)) := by
  subst hr
  obtain ⟨i0, hi, hz0, hz1, hz2⟩ := info_parts infoItR
  have hal := (Below.refl _ w).alloc (Nat.le_refl _) (.cells #[.int .i64 (y.1 : Int), .string y.2.1, .string y.2.2] 28)
  have h2 := h.below hal
  have hc : ∀ j u, [encIt y].flatten[j]? = some u → (w.alloc (.cells #[.int .i64 (y.1 : Int), .string y.2.1, .string y.2.2] 28)).cell? ((⟨w.heap.size, 0, none⟩ : Addr).add j) = some u := fun j u hu => new_cells w _ _ j u (by simpa [encIt] using hu)
  refine wpList_append_lies _ hgd s x 38 ho B 28 i0 (.agg #[.int .i64 0, .string ⟨#[]⟩, .string ⟨#[]⟩]) 3 40 Try.underlying38 hi hz0 hz1 hz2 rfl (by decide) v l.length _ hs h2.own ⟨w.heap.size, 0, none⟩ 1 1 [encIt y].flatten hx rfl hc (eachIt y).one (by decide) (by unfold maxLen; omega) (by omega) h2.lo _ rfl ?_
  intro q cap w2 hown hg hat hlt
  have hG : Gr v (w.alloc (.cells #[.int .i64 (y.1 : Int), .string y.2.1, .string y.2.2] 28)) (.slice (some ⟨q, 0, none⟩) (l.length + 1) cap) w2 := ⟨hg.os, hg.tape, hg.output, hg.size, fun i hi hv => hg.block i hi (fun e => hv e.symm), fun i e => by
    have e : q = i := by injection e
    rcases hat with h1 | h1
    · exact .inl (by rw [h1, e])
    · right; omega⟩
  refine k _ w2 ⟨?_, h2.each.app (eachIt y), below_gr h2.b hG (fun i e => (h2.ownB i e).1) h2.lo, Nat.le_trans h2.lo hg.size⟩ ((Gr.of hal).trans hG)
  rw [List.length_append, List.flatten_append]; exact hown
theorem text_none14 {B : ByteArray} (h : B.size = 0) : B = ⟨#[]⟩ := by
  cases B with
  | mk d => cases d with | mk l => cases l with
    | nil => rfl
    | cons x l => simp [ByteArray.size] at h
theorem LS.len {E : TypeId} {z N : Nat} {w0 w : World} {l : List (List Value)} {v : Value} (h : LS E z N w0 l v w) : ∃ p c, v = .slice p l.length c := by
  rcases h.own.2 with ⟨rfl, e⟩ | ⟨g, cap, cur, rfl, _⟩
  · exact ⟨none, 0, by rw [e]⟩
  · exact ⟨_, _, rfl⟩
set_option maxRecDepth 100000 in
set_option maxHeartbeats 4000000 in
theorem rParts_any (s0 : ByteArray) (w : World) (hs : s0.size ≤ 9223372036837998591) :
    Calls Try.prog 13 #[.string s0] w fun e w' => ∃ v, e = .returned (.tuple #[v, .int .i64 ((partsF 100 s0).2 : Int)]) ∧ LS 28 3 w.heap.size w ((partsF 100 s0).1.map encIt) v w' := by
  obtain ⟨res, hres⟩ : ∃ res, res = partsF 100 s0 := ⟨_, rfl⟩
  rw [← hres]
  have HI : Hid (LS 28 3 w.heap.size w (([] : List It).map encIt) (.slice none 0 0) w ∧ res = joinP [] (partsF (100 - 0) s0) ∧ s0.size ≤ 9223372036837998591) := Lib.hid ⟨LS.nil (Below.refl _ _) (Nat.le_refl _), by rw [joinP_nil _ (partsF_err _ _)]; exact hres, hs⟩
  clear hres hs
  go_enter Try.func13, Try.ntmps13
  go_wp2_with fail
  go_loopw [0, 4] (fun x u wr => ∃ (D : List It) (s : ByteArray), x = .string s ∧ D.length ≤ 100 ∧ Hid (LS 28 3 w.heap.size w (D.map encIt) u wr ∧ res = joinP D (partsF (100 - D.length) s) ∧ s.size ≤ 9223372036837998591)) (fun x _ _ => match x with | .string s => s.size | _ => 0)
  case atStart => exact ⟨[], s0, rfl, by decide, HI⟩
  case round =>
    obtain ⟨D, s, rfl, hD, HJ⟩ := hrel
    clear HI
    by_cases h0 : s.size = 0
    · obtain rfl := text_none14 h0
      have HF : Hid (LS 28 3 w.heap.size w (res.1.map encIt) u4 wr ∧ res.2 = 0) := Lib.hid (by rw [HJ.out.2.1, joinP_end D _ _ rfl]; exact ⟨HJ.out.1, rfl⟩)
      clear HJ h0
      go_wp2_with fail
      go_ret2
      exact ⟨u4, by rw [HF.out.2]; rfl, HF.out.1⟩
    · have hne : (s.toList == []) = false := by
        rw [beq_eq_false_iff_ne]
        intro e
        rw [ByteArray.toList_eq] at e
        have := congrArg List.length e
        rw [Array.length_toList] at this
        exact h0 this
      have C := rNext_any s wr HJ.out.2.2
      obtain ⟨p, c, hu⟩ := HJ.out.1.len
      rw [List.length_map] at hu
      subst hu
      cases hn : nextD s with
      | none =>
        rw [hn] at C
        have HF : Hid (res = ([], 2)) := Lib.hid (by rw [HJ.out.2.1]; exact joinP_none D _ s h0 hn)
        have HL := Lib.hid HJ.out.1
        clear HJ h0 hn
        go_wp2_with fail
        refine C.mono ?_
        rintro e w1 ⟨rfl, b1⟩
        have HZ := Lib.hid (Blk.new w1 28 #[.int .i64 0, .string ⟨#[]⟩, .string ⟨#[]⟩])
        have HB := Lib.hid (LS.nil (E := 28) (z := 3) (HL.out.b.trans ((b1.trans (below_setRow' ((Below.refl w1.heap.size w1).alloc (Nat.le_refl _) (.cells #[.int .i64 0, .string ⟨#[]⟩, .string ⟨#[]⟩] 28)) (Nat.le_refl _) #[.int .i64 0, .string ⟨#[]⟩, .string ⟨#[]⟩] |>.mono b1.size)).mono HL.out.lo)) (by have := b1.size; have := HL.out.lo; simp [World.setRow]; omega))
        clear C b1
        go_wp2_with (refine wpList_store_row rfl 28 _ _ rfl w1.heap.size #[.int .i64 0, .string ⟨#[]⟩, .string ⟨#[]⟩] rfl rfl 28 _ HZ.out itemR_size rfl (cellsI_one none) ?_)
        go_ret2
        rw [HF.out]
        exact ⟨_, rfl, HB.out⟩
      | some y =>
        obtain ⟨ty, tx, tr⟩ := y
        rw [hn] at C
        have hsz := (nextD_size hn).1
        have hsz : tr.size < s.size := hsz
        have HSZ := Lib.hid hsz
        have HSL : Hid (tr.size ≤ 9223372036837998591) := Lib.hid (by have := HJ.out.2.2; omega)
        have HL := Lib.hid HJ.out.1
        by_cases h100 : D.length = 100
        · have HF : Hid (res = ([], 9)) := Lib.hid (by rw [HJ.out.2.1, h100]; exact joinP_long D s h0 hn)
          have h100i : (D.length : Int) = 100 := by omega
          clear HJ h0 hn hsz
          go_wp2_with fail
          refine C.mono ?_
          rintro e w1 ⟨rfl, b1⟩
          have HZ := Lib.hid (Blk.new w1 28 #[.int .i64 0, .string ⟨#[]⟩, .string ⟨#[]⟩])
          have HB := Lib.hid (LS.nil (E := 28) (z := 3) (HL.out.b.trans ((b1.trans (below_setRow' ((Below.refl w1.heap.size w1).alloc (Nat.le_refl _) (.cells #[.int .i64 0, .string ⟨#[]⟩, .string ⟨#[]⟩] 28)) (Nat.le_refl _) #[.int .i64 (ty : Int), .string tx, .string tr] |>.mono b1.size)).mono HL.out.lo)) (by have := b1.size; have := HL.out.lo; simp [World.setRow]; omega))
          clear C b1
          go_wp2_with (refine wpList_store_row rfl 28 _ _ rfl w1.heap.size #[.int .i64 (ty : Int), .string tx, .string tr] rfl rfl 28 _ HZ.out itemR_size rfl (cellsI_one (some (ty, tx, tr))) ?_)
          go_ret2
          rw [HF.out]
          exact ⟨_, rfl, HB.out⟩
        · have h100i : ¬ (D.length : Int) = 100 := by omega
          have h100b : ((D.length : Int) == 100) = false := by simpa using h100i
          have HF : Hid (res = joinP (D ++ [(ty, tx, tr)]) (partsF (100 - (D ++ [(ty, tx, tr)]).length) tr)) := Lib.hid (by
            rw [HJ.out.2.1, show 100 - D.length = (100 - (D ++ [(ty, tx, tr)]).length) + 1 by rw [List.length_append]; show _ = 100 - (D.length + 1) + 1; omega]
            exact joinP_more D _ s h0 hn)
          have HDL : Hid ((D ++ [(ty, tx, tr)]).length ≤ 100) := Lib.hid (by rw [List.length_append]; show D.length + 1 ≤ 100; omega)
          have HDN : Hid ((D.map encIt).length ≤ 999999) := Lib.hid (by rw [List.length_map]; omega)
          clear HJ h0 hn hsz h100 hD
          go_wp2_with fail
          refine C.mono ?_
          rintro e w1 ⟨rfl, b1⟩
          have HZ := Lib.hid (Blk.new w1 28 #[.int .i64 0, .string ⟨#[]⟩, .string ⟨#[]⟩])
          have hb2 := below_setRow' ((Below.refl w1.heap.size w1).alloc (Nat.le_refl _) (.cells #[.int .i64 0, .string ⟨#[]⟩, .string ⟨#[]⟩] 28)) (Nat.le_refl _) #[.int .i64 (ty : Int), .string tx, .string tr]
          have hz2 := HZ.out.row_ #[.int .i64 (ty : Int), .string tx, .string tr]
          obtain ⟨q, hq⟩ : ∃ q, q = w1.heap.size := ⟨_, rfl⟩
          obtain ⟨W2, hW2⟩ : ∃ W2, W2 = (w1.alloc (.cells #[.int .i64 0, .string ⟨#[]⟩, .string ⟨#[]⟩] 28)).setRow w1.heap.size #[.int .i64 (ty : Int), .string tx, .string tr] := ⟨_, rfl⟩
          rw [← hW2] at hb2 hz2
          rw [← hq] at hz2
          have HW2 := Lib.hid hW2
          have HQE := Lib.hid hq
          have HL2 := Lib.hid ((HL.out.below b1).below hb2)
          have HZ2 := Lib.hid hz2
          have HU : Hid ((Value.slice p D.length c).ownBlock ≠ some q) := Lib.hid fun e => by have := ((HL.out.below b1).ownB q e).2; omega
          have d0 : W2.cell? ⟨q, 0, none⟩ = some (.int .i64 (ty : Int)) := hz2.cell 0
          have d1 : W2.cell? ⟨q, 1, none⟩ = some (.string tx) := hz2.cell 1
          have d2 : W2.cell? ⟨q, 2, none⟩ = some (.string tr) := hz2.cell 2
          clear C b1 hb2 hz2 hW2 hq
          go_wp2_with (first | (refine wpList_store_row rfl 28 _ _ rfl w1.heap.size #[.int .i64 (ty : Int), .string tx, .string tr] rfl rfl 28 _ HZ.out itemR_size rfl (cellsI_one (some (ty, tx, tr))) ?_; rw [← HW2.out, ← HQE.out]) | (at_builtin; refine wpList_oneItR rfl (.tmp 19) (.tmp 21) rfl rfl HL2.out (ty, tx, tr) W2.heap.size rfl rfl HDN.out ?_; intro v5 w5 h5 g5; have hz5 := (g5.block q HZ2.out.lt HU.out).trans HZ2.out; have s2 : w5.cell? ⟨q, 2, none⟩ = some (.string tr) := Blk.cell hz5 2; have HL5 : Hid (LS 28 3 w.heap.size w ((D ++ [(ty, tx, tr)]).map encIt) v5 w5) := Lib.hid (by rw [List.map_append]; exact h5); clear h5 g5 hz5 d0 d1 d2))
          exact ⟨⟨D ++ [(ty, tx, tr)], tr, rfl, HDL.out, Lib.hid ⟨HL5.out, HF.out, HSL.out⟩⟩, HSZ.out⟩
end Go.Proofs.Ytkbjgaobhbiieaa
/- Chapter 14 in numbers: what is wrapped is read as it was, what is read is wrapped as it stood. -/
namespace Go.Proofs.Ytkbjgaobhbiieaa
open Go.RowKit
theorem byteS_tL (l : List Nat) (R : ByteArray) (i : Nat) (hi : i < l.length) (hl : ∀ x ∈ l, x < 256) : byteS (tL l ++ R) i = l.getD i 0 := by
  rw [byteS_app, tL_size, if_pos hi]
  refine byteS_textN l.length _ i hi ?_
  rw [List.getD_eq_getElem?_getD, List.getElem?_eq_getElem hi]
  exact hl _ (List.getElem_mem hi)
theorem front_restD (A R : ByteArray) : (A ++ R).extract A.size (A ++ R).size = R := by
  refine text_same (by rw [ByteArray.size_extract, size_app]; omega) fun j hj => ?_
  rw [ByteArray.size_extract, size_app] at hj
  rw [byteS_ext _ _ _ j (Nat.le_refl _) (by rw [size_app]; omega), byteS_app, if_neg (by omega), Nat.add_sub_cancel_left]
theorem mid_D (A x R : ByteArray) : (A ++ (x ++ R)).extract A.size (A.size + x.size) = x := by
  refine text_same (by rw [ByteArray.size_extract, size_app, size_app]; omega) fun j hj => ?_
  rw [ByteArray.size_extract, size_app, size_app] at hj
  rw [byteS_ext _ _ _ j (by rw [size_app, size_app]; omega) (by omega), byteS_app, if_neg (by omega), Nat.add_sub_cancel_left, byteS_app, if_pos (by omega)]
theorem tail_D (A x R : ByteArray) : (A ++ (x ++ R)).extract (A.size + x.size) (A ++ (x ++ R)).size = R := by
  refine text_same (by rw [ByteArray.size_extract, size_app, size_app]; omega) fun j hj => ?_
  rw [ByteArray.size_extract, size_app, size_app] at hj
  rw [byteS_ext _ _ _ j (Nat.le_refl _) (by rw [size_app, size_app]; omega), byteS_app, if_neg (by omega), byteS_app, if_neg (by omega)]
  congr 1
  omega
theorem fin_front (A x R : ByteArray) : finD (A ++ (x ++ R)) x.size A.size = some (byteS (A ++ (x ++ R)) 0, x, R) := by
  unfold finD
  rw [if_neg (by rw [size_app, size_app]; omega), mid_D, tail_D]
theorem app_assocD (A B C : ByteArray) : A ++ B ++ C = A ++ (B ++ C) := by apply ByteArray.ext; simp
theorem lenD_wrap (T n : Nat) (hT : T < 256) (hn : n < 16777216) (R : ByteArray) : lenD (tL (T :: lenL n) ++ R) = some (n, (T :: lenL n).length) := by
  have hl : ∀ y ∈ T :: lenL n, y < 256 := fun y hy => by
    rcases List.mem_cons.1 hy with rfl | h
    · exact hT
    · exact lenL_lt n hn y h
  have hz : (tL (T :: lenL n) ++ R).size = (T :: lenL n).length + R.size := by rw [size_app, tL_size]
  have hb := fun i hi => byteS_tL (T :: lenL n) R i hi hl
  generalize tL (T :: lenL n) ++ R = s at hz hb
  unfold lenL at hz hb ⊢
  by_cases h1 : n < 128
  · rw [if_pos h1] at hz hb ⊢
    have e1 : byteS s 1 = n := hb 1 (by simp)
    unfold lenD
    rw [e1, if_pos h1]
    rfl
  · rw [if_neg h1] at hz hb ⊢
    by_cases h2 : n < 256
    · rw [if_pos h2] at hz hb ⊢
      have e1 : byteS s 1 = 129 := hb 1 (by simp)
      have e2 : byteS s 2 = n := hb 2 (by simp)
      have hz : s.size = 3 + R.size := hz
      have eb : beA s 2 1 = n := by show 0 * 256 + byteS s (2 + 0) = n; rw [Nat.add_zero, e2]; omega
      unfold lenD
      rw [e1, if_neg (by decide), if_neg (by omega), show 129 - 128 = 1 from rfl, eb, if_neg (by omega)]
      rfl
    · rw [if_neg h2] at hz hb ⊢
      by_cases h3 : n < 65536
      · rw [if_pos h3] at hz hb ⊢
        have e1 : byteS s 1 = 130 := hb 1 (by simp)
        have e2 : byteS s 2 = n / 256 := hb 2 (by simp)
        have e3 : byteS s 3 = n % 256 := hb 3 (by simp)
        have hz : s.size = 4 + R.size := hz
        have eb : beA s 2 2 = n := by show (0 * 256 + byteS s (2 + 0)) * 256 + byteS s (2 + 1) = n; rw [Nat.add_zero, e2, e3]; omega
        unfold lenD
        rw [e1, if_neg (by decide), if_neg (by omega), show 130 - 128 = 2 from rfl, eb, show 130 - 129 = 1 from rfl, show 256 ^ 1 = 256 from rfl, if_neg (by omega)]
        rfl
      · rw [if_neg h3] at hz hb ⊢
        have e1 : byteS s 1 = 131 := hb 1 (by simp)
        have e2 : byteS s 2 = n / 65536 := hb 2 (by simp)
        have e3 : byteS s 3 = n / 256 % 256 := hb 3 (by simp)
        have e4 : byteS s 4 = n % 256 := hb 4 (by simp)
        have hz : s.size = 5 + R.size := hz
        have eb : beA s 2 3 = n := by show ((0 * 256 + byteS s (2 + 0)) * 256 + byteS s (2 + 1)) * 256 + byteS s (2 + 2) = n; rw [Nat.add_zero, e2, e3, e4]; omega
        unfold lenD
        rw [e1, if_neg (by decide), if_neg (by omega), show 131 - 128 = 3 from rfl, eb, show 131 - 129 = 2 from rfl, show 256 ^ 2 = 65536 from rfl, if_neg (by omega)]
        rfl
/-- What is wrapped is read as it was. -/
theorem next_wrap (T : Nat) (x more : ByteArray) (hT : T < 256) (h31 : T % 32 ≠ 31) (hx : x.size < 16777216) : nextD (wrapT T x ++ more) = some (T, x, more) := by
  unfold wrapT
  rw [app_assocD]
  have hl : ∀ y ∈ T :: lenL x.size, y < 256 := fun y hy => by
    rcases List.mem_cons.1 hy with rfl | h
    · exact hT
    · exact lenL_lt _ hx y h
  have h0 : byteS (tL (T :: lenL x.size) ++ (x ++ more)) 0 = T := byteS_tL _ _ 0 (by simp) hl
  have hlen : 2 ≤ (T :: lenL x.size).length := by
    unfold lenL
    split
    · simp
    · split
      · simp
      · split <;> simp
  unfold nextD
  rw [if_neg (by rw [h0, size_app, tL_size]; omega), lenD_wrap T x.size hT hx]
  show finD _ x.size (T :: lenL x.size).length = _
  have := fin_front (tL (T :: lenL x.size)) x more
  rw [tL_size] at this
  rw [this, h0]
theorem app_noneD (B : ByteArray) : B ++ (⟨#[]⟩ : ByteArray) = B := by apply ByteArray.ext; simp
theorem cut_D (m : ByteArray) (a b : Nat) (hab : a ≤ b) (hb : b ≤ m.size) : m = m.extract 0 a ++ (m.extract a b ++ m.extract b m.size) := by
  refine text_same (by rw [size_app, size_app, ByteArray.size_extract, ByteArray.size_extract, ByteArray.size_extract]; omega) fun j hj => ?_
  rw [byteS_app, byteS_app, ByteArray.size_extract, ByteArray.size_extract]
  by_cases h1 : j < a
  · rw [if_pos (by omega), byteS_ext _ _ _ j (by omega) (by omega), Nat.zero_add]
  · rw [if_neg (by omega)]
    by_cases h2 : j < b
    · rw [if_pos (by omega), byteS_ext _ _ _ _ (by omega) (by omega)]
      congr 1
      omega
    · rw [if_neg (by omega), byteS_ext _ _ _ _ (Nat.le_refl _) (by omega)]
      congr 1
      omega
theorem head_D (m : ByteArray) (l : List Nat) (hl : l.length ≤ m.size) (h : ∀ i, i < l.length → byteS m i = l.getD i 0) : m.extract 0 l.length = tL l := by
  refine text_same (by rw [ByteArray.size_extract, tL_size]; omega) fun j hj => ?_
  rw [ByteArray.size_extract] at hj
  rw [byteS_ext _ _ _ j hl (by omega), Nat.zero_add, h j (by omega)]
  have e := byteS_tL l ⟨#[]⟩ j (by omega) (fun x hx => by
    obtain ⟨i, hi, rfl⟩ := List.getElem_of_mem hx
    have := byteS_lt m i
    rw [h i hi, List.getD_eq_getElem?_getD, List.getElem?_eq_getElem hi] at this
    exact this)
  rw [app_noneD] at e
  exact e.symm
/-- What is read is wrapped as it stood. -/
theorem wrap_next {m : ByteArray} {T : Nat} {x r : ByteArray} (h : nextD m = some (T, x, r)) : T < 256 ∧ T % 32 ≠ 31 ∧ x.size < 16777216 ∧ wrapT T x ++ r = m := by
  unfold nextD at h
  by_cases h0 : m.size < 2 ∨ byteS m 0 % 32 = 31
  · rw [if_pos h0] at h; cases h
  · rw [if_neg h0] at h
    obtain ⟨⟨n, a⟩, hx, hf⟩ := Option.bind_eq_some_iff.1 h
    have hf : finD m n a = some (T, x, r) := hf
    unfold finD at hf
    by_cases hlen : m.size < a + n
    · rw [if_pos hlen] at hf; cases hf
    · rw [if_neg hlen] at hf
      injection hf with hf
      injection hf with e1 hf
      injection hf with e2 e3
      have hxs : x.size = n := by rw [← e2, ByteArray.size_extract]; omega
      have key : n < 16777216 ∧ a = (T :: lenL n).length ∧ ∀ i, i < (T :: lenL n).length → byteS m i = (T :: lenL n).getD i 0 := by
        unfold lenD at hx
        have hb1 := byteS_lt m 1
        by_cases k1 : byteS m 1 < 128
        · rw [if_pos k1] at hx
          injection hx with hx
          injection hx with en ea
          have hL : lenL n = [n] := by unfold lenL; rw [if_pos (by omega)]
          rw [hL]
          refine ⟨by omega, by show a = 2; omega, fun i hi => ?_⟩
          have : i = 0 ∨ i = 1 := by simp at hi; omega
          rcases this with rfl | rfl
          · exact e1
          · show byteS m 1 = n; omega
        · rw [if_neg k1] at hx
          by_cases k2 : byteS m 1 < 129 ∨ 131 < byteS m 1 ∨ m.size < byteS m 1 - 126
          · rw [if_pos k2] at hx; cases hx
          · rw [if_neg k2] at hx
            have hb := beA_lt m 2 (byteS m 1 - 128)
            have q2 := byteS_lt m 2
            have q3 := byteS_lt m 3
            have q4 := byteS_lt m 4
            have hk : byteS m 1 = 129 ∨ byteS m 1 = 130 ∨ byteS m 1 = 131 := by omega
            rcases hk with hk | hk | hk
            · rw [hk] at hx hb k2
              rw [show 129 - 128 = 1 from rfl] at hx hb
              have eb : beA m 2 1 = byteS m 2 := by show 0 * 256 + byteS m 2 = _; omega
              rw [eb] at hx
              split at hx
              · cases hx
              · rename_i hc
                injection hx with hx
                injection hx with en ea
                have hL : lenL n = [129, n] := by unfold lenL; rw [if_neg (by omega), if_pos (by omega)]
                rw [hL]
                refine ⟨by omega, by show a = 3; omega, fun i hi => ?_⟩
                have : i = 0 ∨ i = 1 ∨ i = 2 := by simp at hi; omega
                rcases this with rfl | rfl | rfl
                · exact e1
                · exact hk
                · exact en
            · rw [hk] at hx hb k2
              rw [show 130 - 128 = 2 from rfl] at hx hb
              have eb : beA m 2 2 = byteS m 2 * 256 + byteS m 3 := by show (0 * 256 + byteS m 2) * 256 + byteS m 3 = _; omega
              rw [eb, show 130 - 129 = 1 from rfl, show 256 ^ 1 = 256 from rfl] at hx
              split at hx
              · cases hx
              · rename_i hc
                injection hx with hx
                injection hx with en ea
                have hL : lenL n = [130, n / 256, n % 256] := by unfold lenL; rw [if_neg (by omega), if_neg (by omega), if_pos (by omega)]
                rw [hL]
                refine ⟨by omega, by show a = 4; omega, fun i hi => ?_⟩
                have : i = 0 ∨ i = 1 ∨ i = 2 ∨ i = 3 := by simp at hi; omega
                rcases this with rfl | rfl | rfl | rfl
                · exact e1
                · exact hk
                · show byteS m 2 = n / 256; omega
                · show byteS m 3 = n % 256; omega
            · rw [hk] at hx hb k2
              rw [show 131 - 128 = 3 from rfl] at hx hb
              have eb : beA m 2 3 = (byteS m 2 * 256 + byteS m 3) * 256 + byteS m 4 := by show ((0 * 256 + byteS m 2) * 256 + byteS m 3) * 256 + byteS m 4 = _; omega
              rw [eb, show 131 - 129 = 2 from rfl, show 256 ^ 2 = 65536 from rfl] at hx
              split at hx
              · cases hx
              · rename_i hc
                injection hx with hx
                injection hx with en ea
                have hL : lenL n = [131, n / 65536, n / 256 % 256, n % 256] := by unfold lenL; rw [if_neg (by omega), if_neg (by omega), if_neg (by omega)]
                rw [hL]
                refine ⟨by omega, by show a = 5; omega, fun i hi => ?_⟩
                have : i = 0 ∨ i = 1 ∨ i = 2 ∨ i = 3 ∨ i = 4 := by simp at hi; omega
                rcases this with rfl | rfl | rfl | rfl | rfl
                · exact e1
                · exact hk
                · show byteS m 2 = n / 65536; omega
                · show byteS m 3 = n / 256 % 256; omega
                · show byteS m 4 = n % 256; omega
      obtain ⟨hn, ha, hbs⟩ := key
      refine ⟨by rw [← e1]; exact byteS_lt _ _, by rw [← e1]; exact fun h => h0 (.inr h), by omega, ?_⟩
      unfold wrapT
      rw [hxs, app_assocD, ← head_D m (T :: lenL n) (by omega) hbs, ← ha, ← e2, ← e3]
      exact (cut_D m a (a + n) (by omega) (by omega)).symm
end Go.Proofs.Ytkbjgaobhbiieaa
/- The law's texts of chapter 14: cut, poison. -/
namespace Go.Proofs.Ytkbjgaobhbiieaa
open Go.RowKit
def cutT (s : ByteArray) : ByteArray := s.extract 0 (min s.size 60)
theorem cutT_size (s : ByteArray) : (cutT s).size ≤ 60 := by unfold cutT; rw [ByteArray.size_extract]; omega
set_option maxRecDepth 100000 in
theorem cut_any (s : ByteArray) (w : World) :
    Calls Try.prog 16 #[.string s] w fun e w' => e = .returned (.string (cutT s)) ∧ w' = w := by
  have hS : s.extract 0 (if (60 : Int) < (s.size : Int) then 60 else (s.size : Int)).toNat = cutT s := by
    unfold cutT
    congr 1
    split <;> omega
  generalize cutT s = X at hS ⊢
  go_enter Try.func16, Try.ntmps16
  go_wp2_with fail
  all_goals go_ret
  all_goals exact ⟨rfl, rfl⟩
def oidT : ByteArray := ⟨#[6, 10, 43, 6, 1, 4, 1, 214, 121, 2, 4, 3]⟩
def poisT : ByteArray := wrapT 48 (oidT ++ wrapT 1 ⟨#[255]⟩ ++ wrapT 4 ⟨#[5, 0]⟩)
theorem pois_is : poisT = ⟨#[48, 19, 6, 10, 43, 6, 1, 4, 1, 214, 121, 2, 4, 3, 1, 1, 255, 4, 2, 5, 0]⟩ := by decide +kernel
set_option maxRecDepth 100000 in
theorem poison_any (w : World) :
    Calls Try.prog 15 #[] w fun e w' => e = .returned (.string poisT) ∧ Below w.heap.size w w' := by
  have e1 : wrapT 1 ⟨#[255]⟩ = ⟨#[1, 1, 255]⟩ := by decide +kernel
  have e2 : wrapT 4 ⟨#[5, 0]⟩ = ⟨#[4, 2, 5, 0]⟩ := by decide +kernel
  have e3 : wrapT 48 ⟨#[6, 10, 43, 6, 1, 4, 1, 214, 121, 2, 4, 3, 1, 1, 255, 4, 2, 5, 0]⟩ = poisT := by decide +kernel
  have C1 := fun wx => item_any 1 ⟨#[255]⟩ wx (by decide) (by decide)
  have C2 := fun wx => item_any 4 ⟨#[5, 0]⟩ wx (by decide) (by decide)
  have C3 := fun wx => item_any 48 ⟨#[6, 10, 43, 6, 1, 4, 1, 214, 121, 2, 4, 3, 1, 1, 255, 4, 2, 5, 0]⟩ wx (by decide) (by decide)
  rw [e1] at C1
  rw [e2] at C2
  rw [e3] at C3
  clear e1 e2 e3
  generalize poisT = X at C3 ⊢
  go_enter Try.func15, Try.ntmps15
  go_wp2_with fail
  refine (C1 w).mono ?_
  rintro e w1 ⟨rfl, b1⟩
  go_wp2_with fail
  refine (C2 w1).mono ?_
  rintro e w2 ⟨rfl, b2⟩
  have b02 := b1.trans (b2.mono b1.size)
  clear b1 b2
  go_wp2_with fail
  trace_state
  refine (C3 w2).mono ?_
  rintro e w3 ⟨rfl, b3⟩
  have b03 := b02.trans (b3.mono b02.size)
  go_wp2_with fail
  go_ret
  exact ⟨rfl, b03⟩
end Go.Proofs.Ytkbjgaobhbiieaa
/- The law's certificate of chapter 14. -/
namespace Go.Proofs.Ytkbjgaobhbiieaa
open Go.RowKit
def verT (v : Bool) : ByteArray := if v then wrapT 160 ⟨#[2, 1, 2]⟩ else ⟨#[]⟩
def headT (v : Bool) (name key : ByteArray) : ByteArray := verT v ++ wrapT 2 ⟨#[7]⟩ ++ wrapT 48 ⟨#[5, 0]⟩ ++ wrapT 48 ⟨#[]⟩ ++ wrapT 48 ⟨#[]⟩ ++ wrapT 48 (wrapT 4 (cutT name)) ++ wrapT 48 (wrapT 3 (cutT key))
/-- An extension of the law's. -/
def oneE (s : ByteArray) : ByteArray := wrapT 48 (wrapT 6 ⟨#[85, 29, 15]⟩ ++ wrapT 4 (cutT s))
def extT (l : List ByteArray) (po : Int) : Nat → ByteArray
  | 0 => ⟨#[]⟩
  | k + 1 => (if (k : Int) = po then extT l po k ++ poisT else extT l po k) ++ oneE (l.getD k ⟨#[]⟩)
def allE (l : List ByteArray) (po : Int) : ByteArray := if po = ((min l.length 5 : Nat) : Int) then extT l po (min l.length 5) ++ poisT else extT l po (min l.length 5)
def bodyT (v : Bool) (name key : ByteArray) (l : List ByteArray) (po : Int) : ByteArray := if (allE l po).size = 0 then headT v name key else headT v name key ++ wrapT 163 (wrapT 48 (allE l po))
def certT (v : Bool) (name key : ByteArray) (l : List ByteArray) (po : Int) : ByteArray := wrapT 48 (wrapT 48 (bodyT v name key l po) ++ wrapT 48 ⟨#[5, 0]⟩ ++ wrapT 3 ⟨#[0, 115, 105, 103]⟩)
theorem wrapT_size (T : Nat) (x : ByteArray) : (wrapT T x).size ≤ x.size + 5 := by
  unfold wrapT
  rw [size_app, tL_size]
  unfold lenL
  split
  · simp; omega
  · split
    · simp; omega
    · split <;> (simp; omega)
theorem poisT_size : poisT.size = 21 := by rw [pois_is]; rfl
theorem headT_size (v : Bool) (name key : ByteArray) : (headT v name key).size ≤ 200 := by
  unfold headT verT
  simp only [size_app]
  have h1 := wrapT_size 2 ⟨#[7]⟩
  have h2 := wrapT_size 48 ⟨#[5, 0]⟩
  have h3 := wrapT_size 48 ⟨#[]⟩
  have h4 := wrapT_size 48 (wrapT 4 (cutT name))
  have h5 := wrapT_size 4 (cutT name)
  have h6 := cutT_size name
  have h7 := wrapT_size 48 (wrapT 3 (cutT key))
  have h8 := wrapT_size 3 (cutT key)
  have h9 := cutT_size key
  have h10 : (if v then wrapT 160 ⟨#[2, 1, 2]⟩ else ⟨#[]⟩ : ByteArray).size ≤ 8 := by
    split
    · exact wrapT_size 160 ⟨#[2, 1, 2]⟩
    · exact Nat.zero_le _
  have e1 : (⟨#[7]⟩ : ByteArray).size = 1 := rfl
  have e2 : (⟨#[5, 0]⟩ : ByteArray).size = 2 := rfl
  have e3 : (⟨#[]⟩ : ByteArray).size = 0 := rfl
  omega
theorem oneE_size (s : ByteArray) : (oneE s).size ≤ 78 := by
  unfold oneE
  have h1 := wrapT_size 48 (wrapT 6 ⟨#[85, 29, 15]⟩ ++ wrapT 4 (cutT s))
  have h2 := wrapT_size 6 ⟨#[85, 29, 15]⟩
  have h3 := wrapT_size 4 (cutT s)
  have h4 := cutT_size s
  have e1 : (⟨#[85, 29, 15]⟩ : ByteArray).size = 3 := rfl
  rw [size_app] at h1
  omega
theorem extT_size (l : List ByteArray) (po : Int) : ∀ k, (extT l po k).size ≤ 99 * k
  | 0 => Nat.le_refl _
  | k + 1 => by
    have ih := extT_size l po k
    have h := oneE_size (l.getD k ⟨#[]⟩)
    have hp := poisT_size
    show ((if (k : Int) = po then extT l po k ++ poisT else extT l po k) ++ oneE _).size ≤ _
    rw [size_app]
    split
    · rw [size_app]; omega
    · omega
theorem allE_size (l : List ByteArray) (po : Int) : (allE l po).size ≤ 516 := by
  have h := extT_size l po (min l.length 5)
  have hp := poisT_size
  unfold allE
  split
  · rw [size_app]; omega
  · omega
theorem bodyT_size (v : Bool) (name key : ByteArray) (l : List ByteArray) (po : Int) : (bodyT v name key l po).size ≤ 726 := by
  have h1 := headT_size v name key
  have h2 := allE_size l po
  have h3 := wrapT_size 48 (allE l po)
  have h4 := wrapT_size 163 (wrapT 48 (allE l po))
  unfold bodyT
  split
  · omega
  · rw [size_app]; omega
theorem certIn_size (v : Bool) (name key : ByteArray) (l : List ByteArray) (po : Int) : (wrapT 48 (bodyT v name key l po) ++ wrapT 48 ⟨#[5, 0]⟩ ++ wrapT 3 ⟨#[0, 115, 105, 103]⟩).size ≤ 747 := by
  have h1 := bodyT_size v name key l po
  have h2 := wrapT_size 48 (bodyT v name key l po)
  have h3 := wrapT_size 48 ⟨#[5, 0]⟩
  have h4 := wrapT_size 3 ⟨#[0, 115, 105, 103]⟩
  have e1 : (⟨#[5, 0]⟩ : ByteArray).size = 2 := rfl
  have e2 : (⟨#[0, 115, 105, 103]⟩ : ByteArray).size = 4 := rfl
  rw [size_app, size_app]
  omega
theorem certT_size (v : Bool) (name key : ByteArray) (l : List ByteArray) (po : Int) : (certT v name key l po).size ≤ 752 := by
  have h := certIn_size v name key l po
  have h2 := wrapT_size 48 (wrapT 48 (bodyT v name key l po) ++ wrapT 48 ⟨#[5, 0]⟩ ++ wrapT 3 ⟨#[0, 115, 105, 103]⟩)
  unfold certT
  omega
end Go.Proofs.Ytkbjgaobhbiieaa
