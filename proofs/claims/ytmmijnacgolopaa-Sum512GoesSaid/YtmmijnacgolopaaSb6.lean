/- mix: a block into the state. -/
import Derived.Test.YtmmijnacgolopaaSb5
namespace Go.Proofs.Ytmmijnacgolopaa
open Go.RowKit
/-- Of what was there when the call began just block g may have turned. -/
structure Chg (g : Nat) (w w' : World) : Prop where
  os : w'.os = w.os
  tape : w'.tape = w.tape
  output : w'.output = w.output
  size : w.heap.size ≤ w'.heap.size
  block : ∀ k, k < w.heap.size → k ≠ g → w'.heap[k]? = w.heap[k]?
section
variable {g : Nat} {w w1 w' : World}
theorem Chg.of_below (h : Below w.heap.size w w') : Chg g w w' := ⟨h.os, h.tape, h.output, h.size, fun k hk _ => h.block k hk⟩
theorem Chg.trans (h : Chg g w w1) (h' : Chg g w1 w') : Chg g w w' :=
  ⟨h'.os.trans h.os, h'.tape.trans h.tape, h'.output.trans h.output, Nat.le_trans h.size h'.size, fun k hk hn => (h'.block k (Nat.lt_of_lt_of_le hk h.size) hn).trans (h.block k hk hn)⟩
theorem Chg.refl (g : Nat) (w : World) : Chg g w w := ⟨rfl, rfl, rfl, Nat.le_refl _, fun _ _ _ => rfl⟩
theorem Chg.setCell (h : Chg g w w') (o : Nat) (v : Value) : Chg g w (w'.setCell ⟨g, o, none⟩ v) :=
  h.trans ⟨rfl, rfl, rfl, by simp [World.setCell], fun k _ hn => Below.heap_setCell _ _ _ _ hn⟩
theorem Chg.drew (h : Chg g w w') : Chg g w w'.drew := ⟨h.os, h.tape, h.output, h.size, h.block⟩
theorem Chg.drewN (h : Chg g w w') (n : Nat) : Chg g w (w'.drewN n) := ⟨h.os, h.tape, h.output, h.size, h.block⟩
theorem Chg.below {B : Nat} {w0 : World} (hb : Below B w0 w) (h : Chg g w w') (hg : B ≤ g) (hB : B ≤ w.heap.size) : Below B w0 w' :=
  hb.trans ⟨h.os, h.tape, h.output, h.size, fun k hk => h.block k (by omega) (by omega)⟩
theorem Chg.blk {k : Nat} {t : TypeId} {cs : Array Value} (h : Chg g w w') (hb : Blk w k t cs) (hn : k ≠ g) : Blk w' k t cs := (h.block k hb.lt hn).trans hb
end
structure S8 where
  a : BitVec 64
  b : BitVec 64
  c : BitVec 64
  d : BitVec 64
  e : BitVec 64
  f : BitVec 64
  g : BitVec 64
  h : BitVec 64
def S8.at (s : S8) : Nat → BitVec 64
  | 0 => s.a | 1 => s.b | 2 => s.c | 3 => s.d | 4 => s.e | 5 => s.f | 6 => s.g | _ => s.h
def S8.of (f : Nat → BitVec 64) : S8 := ⟨f 0, f 1, f 2, f 3, f 4, f 5, f 6, f 7⟩
def tS (s : S8) (k x : BitVec 64) : BitVec 64 :=
  addw (addw (addw (addw s.h (rot3 s.e 14 18 41)) (xorw (andw s.e s.f) (andw (notw s.e) s.g))) k) x
def uS (s : S8) : BitVec 64 := addw (rot3 s.a 28 34 39) (xorw (xorw (andw s.a s.b) (andw s.a s.c)) (andw s.b s.c))
def stepS (s : S8) (k x : BitVec 64) : S8 := ⟨addw (tS s k x) (uS s), s.a, s.b, s.c, addw s.d (tS s k x), s.e, s.f, s.g⟩
def rnd (keys x : Nat → BitVec 64) (s : S8) : Nat → S8
  | 0 => s
  | n + 1 => stepS (rnd keys x s n) (keys n) (x n)
def mixed (H : Hs) : S8 := rnd H.keys (schd H.block 64) (S8.of H.state) 80
def Hs.withState (H : Hs) (s : Nat → BitVec 64) : Hs := { H with state := s }
def Hs.mix (H : Hs) : Hs := H.withState fun i => addw (H.state i) ((mixed H).at i)
theorem S8.arr (s : S8) : #[Value.int .u64 (iw s.a), .int .u64 (iw s.b), .int .u64 (iw s.c), .int .u64 (iw s.d), .int .u64 (iw s.e), .int .u64 (iw s.f), .int .u64 (iw s.g), .int .u64 (iw s.h)] = r64 8 s.at := rfl
theorem Hs.f_state (h : Hs) {i : Nat} (hi : i < 8) : h.f (80 + i) = .int .u64 (iw (h.state i)) := by
  unfold Hs.f; rw [if_neg (by omega), if_pos (by omega), show 80 + i - 80 = i by omega]
theorem Hs.f_keys (h : Hs) {i : Nat} (hi : i < 80) : h.f i = .int .u64 (iw (h.keys i)) := by
  unfold Hs.f; rw [if_pos (by omega)]
theorem Hs.f_size (h : Hs) : h.f 216 = .int .i64 h.size := by simp [Hs.f]
theorem Hs.f_put (H : Hs) {s : Nat → BitVec 64} {j : Nat} (hj : j < 8) (v : BitVec 64) (e : ∀ i, i < 8 → s i = if i = j then v else H.state i) (i : Nat) :
    (H.withState s).f i = if i = 80 + j then .int .u64 (iw v) else H.f i := by
  by_cases h1 : i < 80
  · simp [Hs.f, Hs.withState, h1, show ¬ i = 80 + j by omega]
  · by_cases h3 : i < 88
    · have h5 := e (i - 80) (by omega)
      by_cases h4 : i = 80 + j
      · subst h4
        simp only [Nat.add_sub_cancel_left, if_true] at h5
        simp [Hs.f, Hs.withState, h1, h3, h5]
      · rw [if_neg (by omega)] at h5
        simp [Hs.f, Hs.withState, h1, h3, h4, h5]
    · simp [Hs.f, Hs.withState, h1, h3, show ¬ i = 80 + j by omega]
section
variable {g : Nat} {H : Hs} {w : World}
theorem HB.st (k : HB w g H) {i j : Nat} (hi : i < 8) (e : j = 80 + i) : w.cell? ⟨g, j, none⟩ = some (.int .u64 (iw (H.state i))) := by
  subst e; rw [← H.f_state hi]; exact k.at_ (by omega)
theorem HB.key (k : HB w g H) {i : Nat} (hi : i < 80) : w.cell? ⟨g, i, none⟩ = some (.int .u64 (iw (H.keys i))) := by
  rw [← H.f_keys hi]; exact k.at_ (by omega)
theorem HB.sz (k : HB w g H) : w.cell? ⟨g, 216, none⟩ = some (.int .i64 H.size) := by
  rw [← H.f_size]; exact k.at_ (by omega)
theorem HB.putSt (k : HB w g H) {s : Nat → BitVec 64} {j : Nat} (hj : j < 8) (v : BitVec 64) (e : ∀ i, i < 8 → s i = if i = j then v else H.state i) :
    HB (w.setCell ⟨g, 80 + j, none⟩ (.int .u64 (iw v))) g (H.withState s) :=
  (Blk.put k (i := 80 + j) (by omega) _).cast_ (row_ext fun i _ => (H.f_put hj v e i).symm)
end
theorem Hs.f_congr (H : Hs) {s s' : Nat → BitVec 64} (e : ∀ i, i < 8 → s i = s' i) (i : Nat) : (H.withState s).f i = (H.withState s').f i := by
  by_cases h1 : i < 80
  · simp [Hs.f, Hs.withState, h1]
  · by_cases h3 : i < 88
    · simp [Hs.f, Hs.withState, h1, h3, e (i - 80) (by omega)]
    · simp [Hs.f, Hs.withState, h1, h3]
theorem HB.stCongr {g : Nat} {H : Hs} {w : World} {s s' : Nat → BitVec 64} (k : HB w g (H.withState s)) (e : ∀ i, i < 8 → s i = s' i) : HB w g (H.withState s') :=
  Blk.cast_ k (row_ext fun i _ => H.f_congr e i)
def addTo (H : Hs) (S : S8) (j i : Nat) : BitVec 64 := if i < j then addw (H.state i) (S.at i) else H.state i
theorem HB.add0 {g : Nat} {H : Hs} {w : World} (S : S8) (k : HB w g H) : HB w g (H.withState (addTo H S 0)) :=
  HB.stCongr (H := H) (s := H.state) k fun i _ => by simp [addTo]
theorem HB.addPut {g : Nat} {H : Hs} {w : World} {S : S8} {j : Nat} (k : HB w g (H.withState (addTo H S j))) (hj : j < 8) :
    HB (w.setCell ⟨g, 80 + j, none⟩ (.int .u64 (iw (addw (H.state j) (S.at j))))) g (H.withState (addTo H S (j + 1))) :=
  HB.putSt (H := H.withState (addTo H S j)) k hj _ (s := addTo H S (j + 1)) fun i _ => by
    by_cases h1 : i = j
    · subst h1; simp [addTo]
    · by_cases h2 : i < j
      · simp [addTo, Hs.withState, h1, h2, Nat.lt_succ_of_lt h2]
      · simp [addTo, Hs.withState, h1, h2, show ¬ i < j + 1 by omega]
/-- Within mix, before the state is stored. -/
structure MX (g : Nat) (H : Hs) (w wr : World) : Prop where
  h : HB wr g H
  b : Below w.heap.size w wr
theorem MX.drewN {g : Nat} {H : Hs} {w wr : World} (h : MX g H w wr) (n : Nat) : MX g H w (wr.drewN n) := ⟨h.h, ⟨h.b.os, h.b.tape, h.b.output, h.b.size, h.b.block⟩⟩
set_option maxRecDepth 100000 in
set_option maxHeartbeats 2000000 in
theorem mix_any (g : Nat) (H : Hs) (w : World) (hg : g < w.heap.size) (hb : HB w g H) :
    Calls Try.prog 19 #[.pointer (some ⟨g, 0, none⟩)] w fun e w' => e = .returned (.tuple #[]) ∧ HB w' g H.mix ∧ Chg g w w' := by
  go_enter Try.func19, Try.ntmps19
  go_wp2_with fail
  refine wp_gen (MX g H w) ⟨hb, Below.refl _ _⟩ (fun w2 hM => ?_)
  have s0 : w2.cell? ⟨g, 80, none⟩ = some (.int .u64 (iw (H.state 0))) := hM.h.st (by omega) (by omega)
  have s1 : w2.cell? ⟨g, 81, none⟩ = some (.int .u64 (iw (H.state 1))) := hM.h.st (by omega) (by omega)
  have s2 : w2.cell? ⟨g, 82, none⟩ = some (.int .u64 (iw (H.state 2))) := hM.h.st (by omega) (by omega)
  have s3 : w2.cell? ⟨g, 83, none⟩ = some (.int .u64 (iw (H.state 3))) := hM.h.st (by omega) (by omega)
  have s4 : w2.cell? ⟨g, 84, none⟩ = some (.int .u64 (iw (H.state 4))) := hM.h.st (by omega) (by omega)
  have s5 : w2.cell? ⟨g, 85, none⟩ = some (.int .u64 (iw (H.state 5))) := hM.h.st (by omega) (by omega)
  have s6 : w2.cell? ⟨g, 86, none⟩ = some (.int .u64 (iw (H.state 6))) := hM.h.st (by omega) (by omega)
  have s7 : w2.cell? ⟨g, 87, none⟩ = some (.int .u64 (iw (H.state 7))) := hM.h.st (by omega) (by omega)
  go_quiet (fail)
  go_wp2_with fail
  refine wp_gen (MX g H w) (hM.drewN nq) (fun w3 hM3 => ?_)
  clear hM s0 s1 s2 s3 s4 s5 s6 s7 nq
  have s0 : w3.cell? ⟨g, 80, none⟩ = some (.int .u64 (iw (H.state 0))) := hM3.h.st (by omega) (by omega)
  have s1 : w3.cell? ⟨g, 81, none⟩ = some (.int .u64 (iw (H.state 1))) := hM3.h.st (by omega) (by omega)
  have s2 : w3.cell? ⟨g, 82, none⟩ = some (.int .u64 (iw (H.state 2))) := hM3.h.st (by omega) (by omega)
  have s3 : w3.cell? ⟨g, 83, none⟩ = some (.int .u64 (iw (H.state 3))) := hM3.h.st (by omega) (by omega)
  have s4 : w3.cell? ⟨g, 84, none⟩ = some (.int .u64 (iw (H.state 4))) := hM3.h.st (by omega) (by omega)
  have s5 : w3.cell? ⟨g, 85, none⟩ = some (.int .u64 (iw (H.state 5))) := hM3.h.st (by omega) (by omega)
  have s6 : w3.cell? ⟨g, 86, none⟩ = some (.int .u64 (iw (H.state 6))) := hM3.h.st (by omega) (by omega)
  have s7 : w3.cell? ⟨g, 87, none⟩ = some (.int .u64 (iw (H.state 7))) := hM3.h.st (by omega) (by omega)
  go_quiet (fail)
  go_wp2_with fail
  have hM := hM3.drewN nq
  clear hM3 s0 s1 s2 s3 s4 s5 s6 s7
  generalize w3.drewN nq = w4 at hM ⊢
  have hgM : g < w4.heap.size := Nat.lt_of_lt_of_le hg hM.b.size
  refine (words_any g H w4 hgM hM.h).mono ?_
  rintro e w5 ⟨rfl, hw5⟩
  have hM6 : MX g H w w5 := ⟨hM.h.below hw5 hgM, hM.b.trans (hw5.mono hM.b.size)⟩
  clear hM hgM hw5
  go_wp2_with fail
  have hS0 : rnd H.keys (schd H.block 64) (S8.of H.state) 0 = S8.of H.state := rfl
  go_loopw [2, 3, 4, 5, 6, 7, 8, 9, 58] (fun va vb vc vd ve vf vg vh i wr => ∃ k : Nat, k ≤ 80 ∧ i = .int .i64 k ∧
      va = .int .u64 (iw (rnd H.keys (schd H.block 64) (S8.of H.state) k).a) ∧ vb = .int .u64 (iw (rnd H.keys (schd H.block 64) (S8.of H.state) k).b) ∧
      vc = .int .u64 (iw (rnd H.keys (schd H.block 64) (S8.of H.state) k).c) ∧ vd = .int .u64 (iw (rnd H.keys (schd H.block 64) (S8.of H.state) k).d) ∧
      ve = .int .u64 (iw (rnd H.keys (schd H.block 64) (S8.of H.state) k).e) ∧ vf = .int .u64 (iw (rnd H.keys (schd H.block 64) (S8.of H.state) k).f) ∧
      vg = .int .u64 (iw (rnd H.keys (schd H.block 64) (S8.of H.state) k).g) ∧ vh = .int .u64 (iw (rnd H.keys (schd H.block 64) (S8.of H.state) k).h) ∧ MX g H w wr)
    (fun _ _ _ _ _ _ _ _ i _ => 80 - (intOf i).toNat)
  case atStart => exact ⟨0, by omega, rfl, rfl, rfl, rfl, rfl, rfl, rfl, rfl, rfl, hM6⟩
  case round =>
    obtain ⟨k, hk, rfl, rfl, rfl, rfl, rfl, rfl, rfl, rfl, rfl, hr⟩ := hrel
    clear hM6 hS0
    by_cases hlt : k < 80
    · generalize hS : rnd H.keys (schd H.block 64) (S8.of H.state) k = S
      have HS : Hid (rnd H.keys (schd H.block 64) (S8.of H.state) (k + 1) = stepS S (H.keys k) (schd H.block 64 k)) := by rw [← hS]; exact Lib.hid rfl
      clear hS
      have hix : ∀ w, (Instr.index 42 (.agg (r64 80 (schd H.block 64))) (.int .i64 (k : Int))).run Try.prog w = .ok (.int .u64 (iw (schd H.block 64 k))) w := fun w =>
        run_index_cell w _ 36 80 _ Try.underlying42 Try.underlying36 rfl (by kernel_rfl) _ _ k hlt (row_get _ hlt) _
      go_wp2_with fail
      clear hix
      have hn := not64'
      have hal : Try.prog.arrayLen 42 = 80 := by kernel_rfl
      have ck : wr.cell? ⟨g, k, none⟩ = some (.int .u64 (iw (H.keys k))) := hr.h.key hlt
      go_quiet ((go_at_call 28; exact Calls.quiet_of_same (turns_q S.e 14 18 41 _ (by omega) (by omega) (by omega))))
      have hr2 := hr.drewN nq
      clear hr ck
      generalize wr.drewN nq = w5 at hr2 ⊢
      go_wp2_with (go_at_call 28; refine (turns_any S.a 28 34 39 _ (by omega) (by omega) (by omega)).mono ?_; rintro e w' ⟨rfl, rfl⟩)
      go_roundw
      case rel => exact ⟨k + 1, by omega, by go_num, by rw [HS.out]; rfl, by rw [HS.out]; rfl, by rw [HS.out]; rfl, by rw [HS.out]; rfl, by rw [HS.out]; rfl, by rw [HS.out]; rfl, by rw [HS.out]; rfl, by rw [HS.out]; rfl, hr2⟩
      case measure => simp [intOf]; omega
    · obtain rfl : k = 80 := by omega
      clear hlt hk
      generalize hS : rnd H.keys (schd H.block 64) (S8.of H.state) 80 = S
      have HS : Hid (mixed H = S) := hS
      clear hS
      go_wp2_with fail
      have hr2 : HB wr g (H.withState (addTo H S 0)) ∧ Chg g w wr := ⟨HB.add0 S hr.h, Chg.of_below hr.b⟩
      clear hr
      obtain ⟨wo, rfl⟩ : ∃ wo : World, wo = wr := ⟨_, rfl⟩
      go_loopw [120] (fun i wr => ∃ j : Nat, j ≤ 8 ∧ i = .int .i64 j ∧ HB wr g (H.withState (addTo H S j)) ∧ Chg g w wr) (fun i _ => 8 - (intOf i).toNat)
      case atStart => exact ⟨0, by omega, rfl, hr2⟩
      case round =>
        obtain ⟨j, hj, rfl, hh, hc⟩ := hrel
        clear hr2
        by_cases hjl : j < 8
        · have hix : ∀ w, (Instr.index 43 (.agg #[Value.int .u64 (iw S.a), .int .u64 (iw S.b), .int .u64 (iw S.c), .int .u64 (iw S.d), .int .u64 (iw S.e), .int .u64 (iw S.f), .int .u64 (iw S.g), .int .u64 (iw S.h)]) (.int .i64 (j : Int))).run Try.prog w = .ok (.int .u64 (iw (S.at j))) w := fun w =>
            run_index_cell w _ 36 8 _ Try.underlying43 Try.underlying36 rfl (by kernel_rfl) _ _ j hjl (by rw [S8.arr]; exact row_get _ hjl) _
          go_wp2_with fail
          clear hix
          have hal : Try.prog.arrayLen 43 = 8 := by kernel_rfl
          have c1 : wr.cell? ⟨g, 80 + j, none⟩ = some (.int .u64 (iw (H.state j))) := by
            have := hh.st hjl rfl
            simpa [Hs.withState, addTo] using this
          go_still_tail 11, (by kernel_rfl)
          change wpList _ _ _ _ _ wr.drew
          refine wpList_gen (fun w' => (HB w' g (H.withState (addTo H S j)) ∧ Chg g w w') ∧ w'.cell? ⟨g, 80 + j, none⟩ = some (.int .u64 (iw (H.state j)))) ⟨⟨hh, hc.drew⟩, c1⟩ (fun w6 h6 => ?_)
          obtain ⟨⟨h6, hc6⟩, c6⟩ := h6
          clear c1 hh hc hal
          have hf := h6.frozen (80 + j)
          have K : HB (w6.setCell ⟨g, 80 + j, none⟩ (.int .u64 (iw (addw (H.state j) (S.at j))))) g (H.withState (addTo H S (j + 1))) := h6.addPut hjl
          have K' := hc6.setCell (80 + j) (.int .u64 (iw (addw (H.state j) (S.at j))))
          clear h6 hc6
          go_wp2_with fail
          go_roundw
          case rel => (repeat apply Exists.intro); exact ⟨⟨j + 1, by omega, by go_num, K, K'⟩, rfl⟩
          case measure => simp [intOf]; omega
        · obtain rfl : j = 8 := by omega
          clear hjl hj
          go_wp2_with fail
          go_end0
          refine ⟨rfl, ?_, hc⟩
          unfold Hs.mix
          rw [HS.out]
          exact hh.stCongr fun i hi => by simp [addTo, hi]
end Go.Proofs.Ytmmijnacgolopaa
