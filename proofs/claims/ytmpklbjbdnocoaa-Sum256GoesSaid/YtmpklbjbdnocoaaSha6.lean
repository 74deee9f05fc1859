/- mix: a block into the state. -/
import Derived.Test.YtmpklbjbdnocoaaSha5
namespace Go.Proofs.Ytmpklbjbdnocoaa
open Go.RowKit
/-- Of what was there when the call began just block g may have turned. -/
structure Chg (g : Nat) (w w' : World) : Prop where
  os : w'.os = w.os
  tape : w'.tape = w.tape
  output : w'.output = w.output
  size : w.heap.size ≤ w'.heap.size
  block : ∀ k, k < w.heap.size → k ≠ g → w'.heap[k]? = w.heap[k]?
section
variable {g : Nat} {w w1 w' : World}
theorem Chg.of_below (h : Below w.heap.size w w') : Chg g w w' := ⟨h.os, h.tape, h.output, h.size, fun k hk _ => h.block k hk⟩
theorem Chg.trans (h : Chg g w w1) (h' : Chg g w1 w') : Chg g w w' :=
  ⟨h'.os.trans h.os, h'.tape.trans h.tape, h'.output.trans h.output, Nat.le_trans h.size h'.size, fun k hk hn => (h'.block k (Nat.lt_of_lt_of_le hk h.size) hn).trans (h.block k hk hn)⟩
theorem Chg.refl (g : Nat) (w : World) : Chg g w w := ⟨rfl, rfl, rfl, Nat.le_refl _, fun _ _ _ => rfl⟩
theorem Chg.setCell (h : Chg g w w') (o : Nat) (v : Value) : Chg g w (w'.setCell ⟨g, o, none⟩ v) :=
  h.trans ⟨rfl, rfl, rfl, by simp [World.setCell], fun k _ hn => Below.heap_setCell _ _ _ _ hn⟩
theorem Chg.drew (h : Chg g w w') : Chg g w w'.drew := ⟨h.os, h.tape, h.output, h.size, h.block⟩
theorem Chg.drewN (h : Chg g w w') (n : Nat) : Chg g w (w'.drewN n) := ⟨h.os, h.tape, h.output, h.size, h.block⟩
theorem Chg.below {B : Nat} {w0 : World} (hb : Below B w0 w) (h : Chg g w w') (hg : B ≤ g) (hB : B ≤ w.heap.size) : Below B w0 w' :=
  hb.trans ⟨h.os, h.tape, h.output, h.size, fun k hk => h.block k (by omega) (by omega)⟩
theorem Chg.blk {k : Nat} {t : TypeId} {cs : Array Value} (h : Chg g w w') (hb : Blk w k t cs) (hn : k ≠ g) : Blk w' k t cs := (h.block k hb.lt hn).trans hb
end
structure S8 where
  a : BitVec 32
  b : BitVec 32
  c : BitVec 32
  d : BitVec 32
  e : BitVec 32
  f : BitVec 32
  g : BitVec 32
  h : BitVec 32
def S8.at (s : S8) : Nat → BitVec 32
  | 0 => s.a | 1 => s.b | 2 => s.c | 3 => s.d | 4 => s.e | 5 => s.f | 6 => s.g | _ => s.h
def S8.of (f : Nat → BitVec 32) : S8 := ⟨f 0, f 1, f 2, f 3, f 4, f 5, f 6, f 7⟩
def tS (s : S8) (k x : BitVec 32) : BitVec 32 :=
  addw (addw (addw (addw s.h (rot3 s.e 6 11 25)) (xorw (andw s.e s.f) (andw (notw s.e) s.g))) k) x
def uS (s : S8) : BitVec 32 := addw (rot3 s.a 2 13 22) (xorw (xorw (andw s.a s.b) (andw s.a s.c)) (andw s.b s.c))
def stepS (s : S8) (k x : BitVec 32) : S8 := ⟨addw (tS s k x) (uS s), s.a, s.b, s.c, addw s.d (tS s k x), s.e, s.f, s.g⟩
def rnd (keys x : Nat → BitVec 32) (s : S8) : Nat → S8
  | 0 => s
  | n + 1 => stepS (rnd keys x s n) (keys n) (x n)
def mixed (H : Hs) : S8 := rnd H.keys (schd H.block 48) (S8.of H.state) 64
def Hs.withState (H : Hs) (s : Nat → BitVec 32) : Hs := { H with state := s }
def Hs.mix (H : Hs) : Hs := H.withState fun i => addw (H.state i) ((mixed H).at i)
theorem S8.arr (s : S8) : #[Value.int .u32 (iw s.a), .int .u32 (iw s.b), .int .u32 (iw s.c), .int .u32 (iw s.d), .int .u32 (iw s.e), .int .u32 (iw s.f), .int .u32 (iw s.g), .int .u32 (iw s.h)] = r32 8 s.at := rfl
theorem Hs.f_state (h : Hs) {i : Nat} (hi : i < 8) : h.f (72 + i) = .int .u32 (iw (h.state i)) := by
  unfold Hs.f; rw [if_neg (by omega), if_neg (by omega), if_pos (by omega), show 72 + i - 72 = i by omega]
theorem Hs.f_keys (h : Hs) {i : Nat} (hi : i < 64) : h.f (8 + i) = .int .u32 (iw (h.keys i)) := by
  unfold Hs.f; rw [if_neg (by omega), if_pos (by omega), show 8 + i - 8 = i by omega]
theorem Hs.f_size (h : Hs) : h.f 144 = .int .i64 h.size := by simp [Hs.f]
theorem Hs.f_put (H : Hs) {s : Nat → BitVec 32} {j : Nat} (hj : j < 8) (v : BitVec 32) (e : ∀ i, i < 8 → s i = if i = j then v else H.state i) (i : Nat) :
    (H.withState s).f i = if i = 72 + j then .int .u32 (iw v) else H.f i := by
  by_cases h1 : i < 8
  · simp [Hs.f, Hs.withState, h1, show ¬ i = 72 + j by omega]
  · by_cases h2 : i < 72
    · simp [Hs.f, Hs.withState, h1, h2, show ¬ i = 72 + j by omega]
    · by_cases h3 : i < 80
      · have h5 := e (i - 72) (by omega)
        by_cases h4 : i = 72 + j
        · subst h4
          simp only [Nat.add_sub_cancel_left, if_true] at h5
          simp [Hs.f, Hs.withState, h1, h2, h3, h5]
        · rw [if_neg (by omega)] at h5
          simp [Hs.f, Hs.withState, h1, h2, h3, h4, h5]
      · simp [Hs.f, Hs.withState, h1, h2, h3, show ¬ i = 72 + j by omega]
section
variable {g : Nat} {H : Hs} {w : World}
theorem HB.st (k : HB w g H) {i j : Nat} (hi : i < 8) (e : j = 72 + i) : w.cell? ⟨g, j, none⟩ = some (.int .u32 (iw (H.state i))) := by
  subst e; rw [← H.f_state hi]; exact k.at_ (by omega)
theorem HB.key (k : HB w g H) {i j : Nat} (hi : i < 64) (e : j = 8 + i) : w.cell? ⟨g, j, none⟩ = some (.int .u32 (iw (H.keys i))) := by
  subst e; rw [← H.f_keys hi]; exact k.at_ (by omega)
theorem HB.sz (k : HB w g H) : w.cell? ⟨g, 144, none⟩ = some (.int .i64 H.size) := by
  rw [← H.f_size]; exact k.at_ (by omega)
theorem HB.putSt (k : HB w g H) {s : Nat → BitVec 32} {j : Nat} (hj : j < 8) (v : BitVec 32) (e : ∀ i, i < 8 → s i = if i = j then v else H.state i) :
    HB (w.setCell ⟨g, 72 + j, none⟩ (.int .u32 (iw v))) g (H.withState s) :=
  (Blk.put k (i := 72 + j) (by omega) _).cast_ (row_ext fun i _ => (H.f_put hj v e i).symm)
end
theorem Hs.f_congr (H : Hs) {s s' : Nat → BitVec 32} (e : ∀ i, i < 8 → s i = s' i) (i : Nat) : (H.withState s).f i = (H.withState s').f i := by
  by_cases h1 : i < 8
  · simp [Hs.f, Hs.withState, h1]
  · by_cases h2 : i < 72
    · simp [Hs.f, Hs.withState, h1, h2]
    · by_cases h3 : i < 80
      · simp [Hs.f, Hs.withState, h1, h2, h3, e (i - 72) (by omega)]
      · simp [Hs.f, Hs.withState, h1, h2, h3]
theorem HB.stCongr {g : Nat} {H : Hs} {w : World} {s s' : Nat → BitVec 32} (k : HB w g (H.withState s)) (e : ∀ i, i < 8 → s i = s' i) : HB w g (H.withState s') :=
  Blk.cast_ k (row_ext fun i _ => H.f_congr e i)
def addTo (H : Hs) (S : S8) (j i : Nat) : BitVec 32 := if i < j then addw (H.state i) (S.at i) else H.state i
theorem HB.add0 {g : Nat} {H : Hs} {w : World} (S : S8) (k : HB w g H) : HB w g (H.withState (addTo H S 0)) :=
  HB.stCongr (H := H) (s := H.state) k fun i _ => by simp [addTo]
theorem HB.addPut {g : Nat} {H : Hs} {w : World} {S : S8} {j : Nat} (k : HB w g (H.withState (addTo H S j))) (hj : j < 8) :
    HB (w.setCell ⟨g, 72 + j, none⟩ (.int .u32 (iw (addw (H.state j) (S.at j))))) g (H.withState (addTo H S (j + 1))) :=
  HB.putSt (H := H.withState (addTo H S j)) k hj _ (s := addTo H S (j + 1)) fun i _ => by
    by_cases h1 : i = j
    · subst h1; simp [addTo]
    · by_cases h2 : i < j
      · simp [addTo, Hs.withState, h1, h2, Nat.lt_succ_of_lt h2]
      · simp [addTo, Hs.withState, h1, h2, show ¬ i < j + 1 by omega]
/-- Within mix, the words laid at block b. -/
structure MX (g b : Nat) (H : Hs) (w wr : World) : Prop where
  h : HB wr g H
  x : Blk wr b 43 (r32 64 (schd H.block 48))
  b : Below w.heap.size w wr
theorem MX.drewN {g b : Nat} {H : Hs} {w wr : World} (h : MX g b H w wr) (n : Nat) : MX g b H w (wr.drewN n) := ⟨h.h, h.x, ⟨h.b.os, h.b.tape, h.b.output, h.b.size, h.b.block⟩⟩
set_option maxRecDepth 100000 in
set_option maxHeartbeats 2000000 in
theorem mix_any (g : Nat) (H : Hs) (w : World) (hg : g < w.heap.size) (hb : HB w g H) :
    Calls Try.prog 29 #[.pointer (some ⟨g, 0, none⟩)] w fun e w' => e = .returned (.tuple #[]) ∧ HB w' g H.mix ∧ Chg g w w' := by
  have hsz : (Try.prog.info? 43).map (·.size) = some (r32 64 (schd H.block 48)).size := by rw [row_size]; kernel_rfl
  have hzz' : #[Value.int .u32 0, Value.int .u32 0, Value.int .u32 0, Value.int .u32 0, Value.int .u32 0, Value.int .u32 0, Value.int .u32 0, Value.int .u32 0, Value.int .u32 0, Value.int .u32 0, Value.int .u32 0, Value.int .u32 0, Value.int .u32 0, Value.int .u32 0, Value.int .u32 0, Value.int .u32 0, Value.int .u32 0, Value.int .u32 0, Value.int .u32 0, Value.int .u32 0, Value.int .u32 0, Value.int .u32 0, Value.int .u32 0, Value.int .u32 0, Value.int .u32 0, Value.int .u32 0, Value.int .u32 0, Value.int .u32 0, Value.int .u32 0, Value.int .u32 0, Value.int .u32 0, Value.int .u32 0, Value.int .u32 0, Value.int .u32 0, Value.int .u32 0, Value.int .u32 0, Value.int .u32 0, Value.int .u32 0, Value.int .u32 0, Value.int .u32 0, Value.int .u32 0, Value.int .u32 0, Value.int .u32 0, Value.int .u32 0, Value.int .u32 0, Value.int .u32 0, Value.int .u32 0, Value.int .u32 0, Value.int .u32 0, Value.int .u32 0, Value.int .u32 0, Value.int .u32 0, Value.int .u32 0, Value.int .u32 0, Value.int .u32 0, Value.int .u32 0, Value.int .u32 0, Value.int .u32 0, Value.int .u32 0, Value.int .u32 0, Value.int .u32 0, Value.int .u32 0, Value.int .u32 0, Value.int .u32 0].size = (r32 64 (schd H.block 48)).size := by rw [row_size]; rfl
  go_enter Try.func29, Try.ntmps29
  go_wp2_with (first
    | (go_at_call 32; refine (words_any g H _ hg hb).mono ?_; rintro e w1 ⟨rfl, hw1⟩)
    | (refine wpList_store_row rfl 43 _ _ rfl w1.heap.size (r32 64 (schd H.block 48)) rfl rfl 43 _ (Blk.new w1 _ _) hsz hzz' (row_one fun _ => rfl) ?_))
  refine wp_gen (MX g w1.heap.size H w) ⟨(hb.below hw1 hg |>.alloc _).row_far (by have := hw1.size; omega) _, (Blk.new w1 _ _).row_ _, below_setRow' (hw1.alloc hw1.size _) hw1.size _⟩ (fun w2 hM => ?_)
  clear hb hsz hzz'
  generalize hbn : w1.heap.size = bn at hM ⊢
  have hgb : bn ≠ g := by have := hw1.size; omega
  have hBb : w.heap.size ≤ bn := by have := hw1.size; omega
  clear hbn hw1
  have s0 : w2.cell? ⟨g, 72, none⟩ = some (.int .u32 (iw (H.state 0))) := hM.h.st (by omega) (by omega)
  have s1 : w2.cell? ⟨g, 73, none⟩ = some (.int .u32 (iw (H.state 1))) := hM.h.st (by omega) (by omega)
  have s2 : w2.cell? ⟨g, 74, none⟩ = some (.int .u32 (iw (H.state 2))) := hM.h.st (by omega) (by omega)
  have s3 : w2.cell? ⟨g, 75, none⟩ = some (.int .u32 (iw (H.state 3))) := hM.h.st (by omega) (by omega)
  have s4 : w2.cell? ⟨g, 76, none⟩ = some (.int .u32 (iw (H.state 4))) := hM.h.st (by omega) (by omega)
  have s5 : w2.cell? ⟨g, 77, none⟩ = some (.int .u32 (iw (H.state 5))) := hM.h.st (by omega) (by omega)
  have s6 : w2.cell? ⟨g, 78, none⟩ = some (.int .u32 (iw (H.state 6))) := hM.h.st (by omega) (by omega)
  have s7 : w2.cell? ⟨g, 79, none⟩ = some (.int .u32 (iw (H.state 7))) := hM.h.st (by omega) (by omega)
  go_quiet (fail)
  go_wp2_with fail
  refine wp_gen (MX g bn H w) (hM.drewN nq) (fun w3 hM3 => ?_)
  clear hM s0 s1 s2 s3 s4 s5 s6 s7 nq
  have s0 : w3.cell? ⟨g, 72, none⟩ = some (.int .u32 (iw (H.state 0))) := hM3.h.st (by omega) (by omega)
  have s1 : w3.cell? ⟨g, 73, none⟩ = some (.int .u32 (iw (H.state 1))) := hM3.h.st (by omega) (by omega)
  have s2 : w3.cell? ⟨g, 74, none⟩ = some (.int .u32 (iw (H.state 2))) := hM3.h.st (by omega) (by omega)
  have s3 : w3.cell? ⟨g, 75, none⟩ = some (.int .u32 (iw (H.state 3))) := hM3.h.st (by omega) (by omega)
  have s4 : w3.cell? ⟨g, 76, none⟩ = some (.int .u32 (iw (H.state 4))) := hM3.h.st (by omega) (by omega)
  have s5 : w3.cell? ⟨g, 77, none⟩ = some (.int .u32 (iw (H.state 5))) := hM3.h.st (by omega) (by omega)
  have s6 : w3.cell? ⟨g, 78, none⟩ = some (.int .u32 (iw (H.state 6))) := hM3.h.st (by omega) (by omega)
  have s7 : w3.cell? ⟨g, 79, none⟩ = some (.int .u32 (iw (H.state 7))) := hM3.h.st (by omega) (by omega)
  go_quiet (fail)
  go_wp2_with fail
  refine wp_gen (MX g bn H w) (hM3.drewN nq) (fun w4 hM => ?_)
  clear hM3 s0 s1 s2 s3 s4 s5 s6 s7 nq
  have hS0 : rnd H.keys (schd H.block 48) (S8.of H.state) 0 = S8.of H.state := rfl
  go_loopw [3, 4, 5, 6, 7, 8, 9, 10, 58] (fun va vb vc vd ve vf vg vh i wr => ∃ k : Nat, k ≤ 64 ∧ i = .int .i64 k ∧
      va = .int .u32 (iw (rnd H.keys (schd H.block 48) (S8.of H.state) k).a) ∧ vb = .int .u32 (iw (rnd H.keys (schd H.block 48) (S8.of H.state) k).b) ∧
      vc = .int .u32 (iw (rnd H.keys (schd H.block 48) (S8.of H.state) k).c) ∧ vd = .int .u32 (iw (rnd H.keys (schd H.block 48) (S8.of H.state) k).d) ∧
      ve = .int .u32 (iw (rnd H.keys (schd H.block 48) (S8.of H.state) k).e) ∧ vf = .int .u32 (iw (rnd H.keys (schd H.block 48) (S8.of H.state) k).f) ∧
      vg = .int .u32 (iw (rnd H.keys (schd H.block 48) (S8.of H.state) k).g) ∧ vh = .int .u32 (iw (rnd H.keys (schd H.block 48) (S8.of H.state) k).h) ∧ MX g bn H w wr)
    (fun _ _ _ _ _ _ _ _ i _ => 64 - (intOf i).toNat)
  case atStart => exact ⟨0, by omega, rfl, rfl, rfl, rfl, rfl, rfl, rfl, rfl, rfl, hM⟩
  case round =>
    obtain ⟨k, hk, rfl, rfl, rfl, rfl, rfl, rfl, rfl, rfl, rfl, hr⟩ := hrel
    clear hM hS0
    by_cases hlt : k < 64
    · generalize hS : rnd H.keys (schd H.block 48) (S8.of H.state) k = S
      have HS : Hid (rnd H.keys (schd H.block 48) (S8.of H.state) (k + 1) = stepS S (H.keys k) (schd H.block 48 k)) := by rw [← hS]; exact Lib.hid rfl
      clear hS
      go_wp2_with fail
      have hn := not32'
      have hal : Try.prog.arrayLen 43 = 64 := by kernel_rfl
      have ck : wr.cell? ⟨g, 8 + k, none⟩ = some (.int .u32 (iw (H.keys k))) := hr.h.key hlt rfl
      have cx : wr.cell? ⟨bn, k, none⟩ = some (.int .u32 (iw (schd H.block 48 k))) := hr.x.at_ hlt
      go_quiet ((go_at_call 33; exact Calls.quiet_of_same (turns_q S.e 6 11 25 _ (by omega) (by omega) (by omega))))
      have hr2 := hr.drewN nq
      clear hr ck cx
      generalize wr.drewN nq = w5 at hr2 ⊢
      go_wp2_with (go_at_call 33; refine (turns_any S.a 2 13 22 _ (by omega) (by omega) (by omega)).mono ?_; rintro e w' ⟨rfl, rfl⟩)
      go_roundw
      case rel => exact ⟨k + 1, by omega, by go_num, by rw [HS.out]; rfl, by rw [HS.out]; rfl, by rw [HS.out]; rfl, by rw [HS.out]; rfl, by rw [HS.out]; rfl, by rw [HS.out]; rfl, by rw [HS.out]; rfl, by rw [HS.out]; rfl, hr2⟩
      case measure => simp [intOf]; omega
    · obtain rfl : k = 64 := by omega
      clear hlt hk
      generalize hS : rnd H.keys (schd H.block 48) (S8.of H.state) 64 = S
      have HS : Hid (mixed H = S) := hS
      clear hS
      go_wp2_with fail
      have hr2 : HB wr g (H.withState (addTo H S 0)) ∧ Chg g w wr := ⟨HB.add0 S hr.h, Chg.of_below hr.b⟩
      clear hr
      obtain ⟨wo, rfl⟩ : ∃ wo : World, wo = wr := ⟨_, rfl⟩
      go_loopw [121] (fun i wr => ∃ j : Nat, j ≤ 8 ∧ i = .int .i64 j ∧ HB wr g (H.withState (addTo H S j)) ∧ Chg g w wr) (fun i _ => 8 - (intOf i).toNat)
      case atStart => exact ⟨0, by omega, rfl, hr2⟩
      case round =>
        obtain ⟨j, hj, rfl, hh, hc⟩ := hrel
        clear hr2
        by_cases hjl : j < 8
        · have hix : ∀ w, (Instr.index 42 (.agg #[Value.int .u32 (iw S.a), .int .u32 (iw S.b), .int .u32 (iw S.c), .int .u32 (iw S.d), .int .u32 (iw S.e), .int .u32 (iw S.f), .int .u32 (iw S.g), .int .u32 (iw S.h)]) (.int .i64 (j : Int))).run Try.prog w = .ok (.int .u32 (iw (S.at j))) w := fun w =>
            run_index_cell w _ 37 8 _ Try.underlying42 Try.underlying37 rfl (by kernel_rfl) _ _ j hjl (by rw [S8.arr]; exact row_get _ hjl) _
          go_wp2_with fail
          clear hix
          have hal : Try.prog.arrayLen 42 = 8 := by kernel_rfl
          have c1 : wr.cell? ⟨g, 72 + j, none⟩ = some (.int .u32 (iw (H.state j))) := by
            have := hh.st hjl rfl
            simpa [Hs.withState, addTo] using this
          go_still_tail 11, (by kernel_rfl)
          change wpList _ _ _ _ _ wr.drew
          refine wpList_gen (fun w' => (HB w' g (H.withState (addTo H S j)) ∧ Chg g w w') ∧ w'.cell? ⟨g, 72 + j, none⟩ = some (.int .u32 (iw (H.state j)))) ⟨⟨hh, hc.drew⟩, c1⟩ (fun w6 h6 => ?_)
          obtain ⟨⟨h6, hc6⟩, c6⟩ := h6
          clear c1 hh hc hal
          have hf := h6.frozen (72 + j)
          have K : HB (w6.setCell ⟨g, 72 + j, none⟩ (.int .u32 (iw (addw (H.state j) (S.at j))))) g (H.withState (addTo H S (j + 1))) := h6.addPut hjl
          have K' := hc6.setCell (72 + j) (.int .u32 (iw (addw (H.state j) (S.at j))))
          clear h6 hc6
          go_wp2_with fail
          go_roundw
          case rel => (repeat apply Exists.intro); exact ⟨⟨j + 1, by omega, by go_num, K, K'⟩, rfl⟩
          case measure => simp [intOf]; omega
        · obtain rfl : j = 8 := by omega
          clear hjl hj
          go_wp2_with fail
          go_end0
          refine ⟨rfl, ?_, hc⟩
          unfold Hs.mix
          rw [HS.out]
          exact hh.stCongr fun i hi => by simp [addTo, hi]
end Go.Proofs.Ytmpklbjbdnocoaa
