/- The leaves of sum512: turned, turns. -/
import Derived.Test.YtggalphgnloneaaGreatRows
import Derived.Test.YtggalphgnloneaaGreatMA
import Derived.StillTailTactics
import Derived.BigQuiet
import Derived.Deep.QuietTactic
import Derived.BigRegion
import Derived.Laws.Externs
import Derived.Deep.LoopGhost
import Derived.Laws.Tables
namespace Go.Proofs.YtggalphgnloneaaGreat.L2
open Go.RowKit
/-- x turned right by k, as the program reckons it. -/
def rotr (x : BitVec 64) (k : Nat) : BitVec 64 := orw (shlw x (64 - k)) (shrw x k)
set_option maxHeartbeats 400000 in
theorem rotateLeft64_any (x : BitVec 64) (k : Nat) (w : World) (h0 : 1 ≤ k) (h1 : k ≤ 63) :
    Calls Tryz.prog 143 #[.int .u64 (iw x), .int .i64 (-(k : Int))] w fun e w' => e = .returned (.int .u64 (iw (rotr x k))) ∧ w = w' := by
  have hs : bits .and .u64 (IntKind.u64.wrap (-(k : Int))) 63 = ((64 - k : Nat) : Int) := by
    have : IntKind.u64.wrap (-(k : Int)) = ((18446744073709551616 - k : Nat) : Int) := by rw [IntKind.wrap_u64]; omega
    rw [this, show (63 : Int) = ((63 : Nat) : Int) from rfl, u64_and_nat _ _ (by omega) (by omega), nat_mask6]
    omega
  have hq : IntKind.u64.wrap (64 - ((64 - k : Nat) : Int)) = ((k : Nat) : Int) := by rw [IntKind.wrap_u64]; omega
  go_enter Tryz.func143, Tryz.ntmps143
  go_wp2
  go_ret
  exact ⟨rfl, rfl⟩
set_option maxHeartbeats 400000 in
theorem turned_any (x : BitVec 64) (k : Nat) (w : World) (h0 : 1 ≤ k) (h1 : k ≤ 63) :
    Calls Tryz.prog 140 #[.int .u64 (iw x), .int .i64 (k : Int)] w fun e w' => e = .returned (.int .u64 (iw (rotr x k))) ∧ w = w' := by
  go_enter Tryz.func140, Tryz.ntmps140
  go_wp2_with (go_at_call 143; refine (rotateLeft64_any _ _ _ h0 h1).mono ?_; rintro e w' ⟨rfl, rfl⟩)
  go_ret
  exact ⟨rfl, rfl⟩
def rot3 (x : BitVec 64) (i j k : Nat) : BitVec 64 := xorw (xorw (rotr x i) (rotr x j)) (rotr x k)
set_option maxHeartbeats 400000 in
theorem turns_any (x : BitVec 64) (i j k : Nat) (w : World) (h0 : 1 ≤ i ∧ i ≤ 63) (h1 : 1 ≤ j ∧ j ≤ 63) (h2 : 1 ≤ k ∧ k ≤ 63) :
    Calls Tryz.prog 134 #[.int .u64 (iw x), .int .i64 (i : Int), .int .i64 (j : Int), .int .i64 (k : Int)] w fun e w' => e = .returned (.int .u64 (iw (rot3 x i j k))) ∧ w = w' := by
  go_enter Tryz.func134, Tryz.ntmps134
  go_wp2_with (go_at_call 140; refine (turned_any _ _ _ (by omega) (by omega)).mono ?_; rintro e w' ⟨rfl, rfl⟩)
  go_ret
  exact ⟨rfl, rfl⟩
theorem turned_int (x : BitVec 64) (k : Int) (w : World) (h0 : 1 ≤ k) (h1 : k ≤ 63) :
    Calls Tryz.prog 140 #[.int .u64 (iw x), .int .i64 k] w fun e w' => e = .returned (.int .u64 (iw (rotr x k.toNat))) ∧ w = w' := by
  obtain ⟨n, rfl⟩ := Int.eq_ofNat_of_zero_le (show 0 ≤ k by omega)
  exact turned_any x n w (by omega) (by omega)
theorem turns_q (x : BitVec 64) (i j k : Nat) (w : World) (h0 : 1 ≤ i ∧ i ≤ 63) (h1 : 1 ≤ j ∧ j ≤ 63) (h2 : 1 ≤ k ∧ k ≤ 63) :
    Calls Tryz.prog 134 #[.int .u64 (iw x), .int .i64 (i : Int), .int .i64 (j : Int), .int .i64 (k : Int)] w fun e w' => e = .returned (.int .u64 (iw (rot3 x i j k))) ∧ w' = w :=
  (turns_any x i j k w h0 h1 h2).mono fun _ _ ⟨he, hw⟩ => ⟨he, hw.symm⟩
end Go.Proofs.YtggalphgnloneaaGreat.L2
/- The words of a block. -/
namespace Go.Proofs.YtggalphgnloneaaGreat.L2
open Go.RowKit
abbrev r64 (n : Nat) (f : Nat → BitVec 64) : Array Value := row n fun i => Value.int .u64 (iw (f i))
def sg0 (x : BitVec 64) : BitVec 64 := xorw (xorw (rotr x 1) (rotr x 8)) (shrw x 7)
def sg1 (x : BitVec 64) : BitVec 64 := xorw (xorw (rotr x 19) (rotr x 61)) (shrw x 6)
def nextw (f : Nat → BitVec 64) (i : Nat) : BitVec 64 := addw (addw (addw (sg1 (f (i - 2))) (f (i - 7))) (sg0 (f (i - 15)))) (f (i - 16))
/-- A hash in memory: constants, state, block, size. -/
structure Hs where
  keys : Nat → BitVec 64
  state : Nat → BitVec 64
  block : Nat → BitVec 8
  size : Nat
def Hs.f (h : Hs) (i : Nat) : Value :=
  if i < 80 then .int .u64 (iw (h.keys i)) else if i < 88 then .int .u64 (iw (h.state (i - 80)))
  else if i < 216 then .int .u8 (iw (h.block (i - 88))) else .int .i64 h.size
theorem Hs.f_block (h : Hs) {i : Nat} (hi : i < 128) : h.f (88 + i) = .int .u8 (iw (h.block i)) := by
  unfold Hs.f; rw [if_neg (by omega), if_neg (by omega), if_pos (by omega), show 88 + i - 88 = i by omega]
abbrev HB (w : World) (g : Nat) (h : Hs) : Prop := Blk w g 118 (row 217 h.f)
/-- A word as it grows: of its first k bytes. -/
def acc (b : Nat → BitVec 8) (i : Nat) : Nat → BitVec 64
  | 0 => litw 64 0
  | k + 1 => orw (shlw (acc b i k) 8) (castw 64 (b (8 * i + k)))
def wd (b : Nat → BitVec 8) (i : Nat) : BitVec 64 := acc b i 8
def accs (b : Nat → BitVec 8) (k j : Nat) : BitVec 64 := acc b j (min 8 (k - 8 * j))
theorem accs_next (b : Nat → BitVec 8) (k j : Nat) : accs b (k + 1) j = if j = k / 8 then orw (shlw (accs b k (k / 8)) 8) (castw 64 (b k)) else accs b k j := by
  by_cases h : j = k / 8
  · subst h
    rw [if_pos rfl]
    unfold accs
    rw [show min 8 (k + 1 - 8 * (k / 8)) = k % 8 + 1 by omega, show min 8 (k - 8 * (k / 8)) = k % 8 by omega]
    simp only [acc]
    rw [show 8 * (k / 8) + k % 8 = k by omega]
  · rw [if_neg h]
    unfold accs
    congr 1
    omega
structure WR (g : Nat) (h : Hs) (f : Nat → BitVec 64) (w wr : World) : Prop where
  h : HB wr g h
  r : Blk wr w.heap.size 115 (r64 80 f)
  b : Below w.heap.size w wr
theorem HB.byte {w : World} {g : Nat} {h : Hs} (k : HB w g h) {i j : Nat} (hi : i < 128) (e : j = 88 + i) : w.cell? ⟨g, j, none⟩ = some (.int .u8 (iw (h.block i))) := by
  subst e; rw [← h.f_block hi]; exact k.at_ (by omega)
def schd (b : Nat → BitVec 8) : Nat → (Nat → BitVec 64)
  | 0 => fun j => if j < 16 then wd b j else litw 64 0
  | n + 1 => fun j => if j = 16 + n then nextw (schd b n) (16 + n) else schd b n j
section
variable {g : Nat} {H : Hs} {f f' : Nat → BitVec 64} {w wr : World}
theorem WR.congr (h : WR g H f w wr) (e : ∀ i, i < 80 → f i = f' i) : WR g H f' w wr := ⟨h.h, h.r.cast_ (row_ext fun i hi => by rw [e i hi]), h.b⟩
theorem WR.drew (h : WR g H f w wr) : WR g H f w wr.drew := ⟨h.h, h.r, h.b.drew⟩
theorem WR.drewN (h : WR g H f w wr) (n : Nat) : WR g H f w (wr.drewN n) := ⟨h.h, h.r, ⟨h.b.os, h.b.tape, h.b.output, h.b.size, h.b.block⟩⟩
theorem WR.at_ (h : WR g H f w wr) {j : Nat} (hj : j < 80) : wr.cell? ⟨w.heap.size, j, none⟩ = some (.int .u64 (iw (f j))) := h.r.at_ hj
theorem WR.free (h : WR g H f w wr) (j : Nat) : wr.frozen? ⟨w.heap.size, j, none⟩ = false := h.r.frozen j
theorem WR.put (h : WR g H f w wr) (hg : g < w.heap.size) {j : Nat} (hj : j < 80) (v : BitVec 64) (e : ∀ i, i < 80 → f' i = if i = j then v else f i) :
    WR g H f' w (wr.setCell ⟨w.heap.size, j, none⟩ (.int .u64 (iw v))) := by
  refine ⟨h.h.far (by simp; omega) _, ?_, h.b.setCell (by simp) _⟩
  refine (h.r.put hj _).cast_ (row_ext fun i hi => ?_)
  rw [e i hi]
  by_cases hij : i = j <;> simp [hij]
end
theorem zeroW (w : World) : (zeroValue 115).run Tryz.prog w = .ok (.agg (r64 80 fun _ => litw 64 0)) w := by kernel_rfl
theorem accs_zero (b : Nat → BitVec 8) (j : Nat) : accs b 0 j = litw 64 0 := by
  unfold accs; rw [show min 8 (0 - 8 * j) = 0 by omega]; rfl
theorem accs_all (b : Nat → BitVec 8) (j : Nat) : accs b 128 j = schd b 0 j := by
  unfold accs
  simp only [schd]
  by_cases h : j < 16
  · rw [if_pos h, show min 8 (128 - 8 * j) = 8 by omega]; rfl
  · rw [if_neg h, show min 8 (128 - 8 * j) = 0 by omega]; rfl
set_option maxRecDepth 100000 in
set_option maxHeartbeats 2000000 in
theorem words_any (g : Nat) (H : Hs) (w : World) (hg : g < w.heap.size) (hb : HB w g H) :
    Calls Tryz.prog 133 #[.pointer (some ⟨g, 0, none⟩)] w fun e w' => e = .returned (.agg (r64 80 (schd H.block 64))) ∧ Below w.heap.size w w' := by
  have hz := zeroW w
  have hi8 : (Tryz.prog.info? 116).map (·.size) = some 128 := by kernel_rfl
  have hlb : (row 128 fun i => H.f (88 + i)) = row 128 fun i => Value.int .u8 (iw (H.block i)) := row_ext fun i hi => H.f_block hi
  go_enter Tryz.func133, Tryz.ntmps133
  go_wp2_with (refine wpList_load_part rfl 116 _ rfl g 88 128 217 H.f rfl 118 (hb.alloc _) (by decide) _ Tryz.underlying116 rfl hi8 ?_)
  clear hz hlb hi8
  go_loopw [14] (fun i wr => ∃ k : Nat, k ≤ 128 ∧ i = .int .i64 k ∧ WR g H (accs H.block k) w wr) (fun i _ => 128 - (intOf i).toNat)
  case atStart => exact ⟨0, by omega, rfl, hb.alloc _, (Blk.new _ _ _).cast_ (row_ext fun i _ => by rw [accs_zero]), (Below.refl _ _).alloc (by omega) _⟩
  case round =>
    obtain ⟨k, hk, rfl, hr⟩ := hrel
    clear hb
    by_cases hlt : k < 128
    · have hix : ∀ w, (Instr.index 116 (.agg (row 128 fun i => Value.int .u8 (iw (H.block i)))) (.int .i64 (k : Int))).run Tryz.prog w = .ok (.int .u8 (iw (H.block k))) w := fun w =>
        run_index_cell w _ 5 128 _ Tryz.underlying116 Tryz.underlying5 rfl (by kernel_rfl) _ _ k hlt (row_get _ hlt) _
      have hal : Tryz.prog.arrayLen 115 = 80 := by kernel_rfl
      have hq2 : (k : Int) / 8 = ((k / 8 : Nat) : Int) := by omega
      have hq3 : ((k / 8 : Nat) : Int) < 80 := by omega
      have hqk : k / 8 < 80 := by omega
      obtain ⟨q, hqq⟩ : ∃ q, q = k / 8 := ⟨_, rfl⟩
      rw [← hqq] at hq2 hq3 hqk
      have hd := hr.at_ (j := q) (by omega)
      have hf := hr.free q
      have K := hr.put hg (j := q) (by omega) (orw (shlw (accs H.block k q) 8) (castw 64 (H.block k))) (f' := accs H.block (k + 1)) (fun i hi => by rw [accs_next, hqq])
      clear hqq
      go_wp2_with fail
      go_roundw
      case rel => exact ⟨k + 1, by omega, by go_num, K⟩
      case measure => simp [intOf]; omega
    · obtain rfl : k = 128 := by omega
      clear hlt hk
      have hr' : WR g H (schd H.block 0) w wr := hr.congr fun i _ => accs_all _ _
      clear hr
      go_wp2_with fail
      obtain ⟨wo, rfl⟩ : ∃ wo : World, wo = wr := ⟨_, rfl⟩
      go_loopw [5] (fun i wr => ∃ m : Nat, 16 ≤ m ∧ m ≤ 80 ∧ i = .int .i64 (m : Int) ∧ WR g H (schd H.block (m - 16)) w wr) (fun i _ => 80 - (intOf i).toNat)
      case atStart => exact ⟨16, by omega, by omega, rfl, hr'⟩
      case round =>
        obtain ⟨m, hm, hn, rfl, hr⟩ := hrel
        clear hr'
        by_cases hlt : m < 80
        · have c15 := hr.at_ (j := m - 15) (by omega)
          have c2 := hr.at_ (j := m - 2) (by omega)
          go_wp2_with fail
          go_quiet (fail)
          have hr2 := hr.drewN nq
          clear c15 c2 hr
          refine any_gen (F := fun w => Exit.then _ _ _ _ w) (WR g H (schd H.block (m - 16)) w) hr2 (fun w2 hr2 => ?_)
          have c7 := hr2.at_ (j := m - 7) (by omega)
          have c16 := hr2.at_ (j := m - 16) (by omega)
          go_wp2_with (go_at_call 140; refine (turned_int _ _ _ (by omega) (by omega)).mono ?_; rintro e w' ⟨rfl, rfl⟩)
          have hal : Tryz.prog.arrayLen 115 = 80 := by kernel_rfl
          have q7 : IntKind.i64.wrap ((m : Int) - 7) = ((m - 7 : Nat) : Int) := by rw [IntWalk.i64_in _ (by omega)]; omega
          have q7' : ((m - 7 : Nat) : Int) < 80 := by omega
          have q16 : IntKind.i64.wrap ((m : Int) - 16) = ((m - 16 : Nat) : Int) := by rw [IntWalk.i64_in _ (by omega)]; omega
          have q16' : ((m - 16 : Nat) : Int) < 80 := by omega
          go_still_tail 14, (by kernel_rfl)
          change wpList _ _ _ _ _ w2.drew
          have hr3 := hr2.drew
          clear c7 c16 hr2 q7 q7' q16 q16'
          generalize w2.drew = w3 at hr3 ⊢
          have hd := hr3.at_ (j := m) (by omega)
          have hf := hr3.free m
          have K := hr3.put hg (j := m) (by omega) (nextw (schd H.block (m - 16)) m) (f' := schd H.block (m + 1 - 16)) (fun i hi => by
            rw [show m + 1 - 16 = (m - 16) + 1 by omega]
            simp only [schd]
            rw [show 16 + (m - 16) = m by omega])
          clear hr3
          go_wp2_with fail
          go_roundw
          case rel => (repeat apply Exists.intro); exact ⟨⟨m + 1, by omega, by omega, by go_num, K⟩, rfl⟩
          case measure => simp [intOf]; omega
        · obtain rfl : m = 80 := by omega
          clear hlt hn hm
          have hsz : (Tryz.prog.info? 115).map (·.size) = some (r64 80 (schd H.block 64)).size := by rw [row_size]; kernel_rfl
          go_wp2_with (first
            | (refine wpList_load_row rfl 115 _ rfl w.heap.size rfl 115 _ (0, 0) _ hr.r Tryz.underlying115 rfl (by kernel_rfl) ?_)
            | (refine wpList_store_row rfl 115 _ _ rfl w.heap.size (r64 80 (schd H.block 64)) rfl rfl 115 (r64 80 (schd H.block 64)) hr.r hsz rfl (row_one fun _ => rfl) ?_))
          simp only [Act.put]
          refine bodyPost_ret (results_cell_row rfl _ _ w.heap.size 115 (r64 80 (schd H.block 64)) (0, 0) _ rfl (hr.r.row_ _) Tryz.underlying115 rfl hsz) rfl ⟨rfl, below_setRow' hr.b (by omega) _⟩
end Go.Proofs.YtggalphgnloneaaGreat.L2
/- mix: a block into the state. -/
namespace Go.Proofs.YtggalphgnloneaaGreat.L2
open Go.RowKit
/-- Of what was there when the call began just block g may have turned. -/
structure Chg (g : Nat) (w w' : World) : Prop where
  os : w'.os = w.os
  tape : w'.tape = w.tape
  output : w'.output = w.output
  size : w.heap.size ≤ w'.heap.size
  block : ∀ k, k < w.heap.size → k ≠ g → w'.heap[k]? = w.heap[k]?
section
variable {g : Nat} {w w1 w' : World}
theorem Chg.of_below (h : Below w.heap.size w w') : Chg g w w' := ⟨h.os, h.tape, h.output, h.size, fun k hk _ => h.block k hk⟩
theorem Chg.trans (h : Chg g w w1) (h' : Chg g w1 w') : Chg g w w' :=
  ⟨h'.os.trans h.os, h'.tape.trans h.tape, h'.output.trans h.output, Nat.le_trans h.size h'.size, fun k hk hn => (h'.block k (Nat.lt_of_lt_of_le hk h.size) hn).trans (h.block k hk hn)⟩
theorem Chg.refl (g : Nat) (w : World) : Chg g w w := ⟨rfl, rfl, rfl, Nat.le_refl _, fun _ _ _ => rfl⟩
theorem Chg.setCell (h : Chg g w w') (o : Nat) (v : Value) : Chg g w (w'.setCell ⟨g, o, none⟩ v) :=
  h.trans ⟨rfl, rfl, rfl, by simp [World.setCell], fun k _ hn => Below.heap_setCell _ _ _ _ hn⟩
theorem Chg.drew (h : Chg g w w') : Chg g w w'.drew := ⟨h.os, h.tape, h.output, h.size, h.block⟩
theorem Chg.drewN (h : Chg g w w') (n : Nat) : Chg g w (w'.drewN n) := ⟨h.os, h.tape, h.output, h.size, h.block⟩
theorem Chg.below {B : Nat} {w0 : World} (hb : Below B w0 w) (h : Chg g w w') (hg : B ≤ g) (hB : B ≤ w.heap.size) : Below B w0 w' :=
  hb.trans ⟨h.os, h.tape, h.output, h.size, fun k hk => h.block k (by omega) (by omega)⟩
theorem Chg.blk {k : Nat} {t : TypeId} {cs : Array Value} (h : Chg g w w') (hb : Blk w k t cs) (hn : k ≠ g) : Blk w' k t cs := (h.block k hb.lt hn).trans hb
end
structure S8 where
  a : BitVec 64
  b : BitVec 64
  c : BitVec 64
  d : BitVec 64
  e : BitVec 64
  f : BitVec 64
  g : BitVec 64
  h : BitVec 64
def S8.at (s : S8) : Nat → BitVec 64
  | 0 => s.a | 1 => s.b | 2 => s.c | 3 => s.d | 4 => s.e | 5 => s.f | 6 => s.g | _ => s.h
def S8.of (f : Nat → BitVec 64) : S8 := ⟨f 0, f 1, f 2, f 3, f 4, f 5, f 6, f 7⟩
def tS (s : S8) (k x : BitVec 64) : BitVec 64 :=
  addw (addw (addw (addw s.h (rot3 s.e 14 18 41)) (xorw (andw s.e s.f) (andw (notw s.e) s.g))) k) x
def uS (s : S8) : BitVec 64 := addw (rot3 s.a 28 34 39) (xorw (xorw (andw s.a s.b) (andw s.a s.c)) (andw s.b s.c))
def stepS (s : S8) (k x : BitVec 64) : S8 := ⟨addw (tS s k x) (uS s), s.a, s.b, s.c, addw s.d (tS s k x), s.e, s.f, s.g⟩
def rnd (keys x : Nat → BitVec 64) (s : S8) : Nat → S8
  | 0 => s
  | n + 1 => stepS (rnd keys x s n) (keys n) (x n)
def mixed (H : Hs) : S8 := rnd H.keys (schd H.block 64) (S8.of H.state) 80
def Hs.withState (H : Hs) (s : Nat → BitVec 64) : Hs := { H with state := s }
def Hs.mix (H : Hs) : Hs := H.withState fun i => addw (H.state i) ((mixed H).at i)
theorem S8.arr (s : S8) : #[Value.int .u64 (iw s.a), .int .u64 (iw s.b), .int .u64 (iw s.c), .int .u64 (iw s.d), .int .u64 (iw s.e), .int .u64 (iw s.f), .int .u64 (iw s.g), .int .u64 (iw s.h)] = r64 8 s.at := rfl
theorem Hs.f_state (h : Hs) {i : Nat} (hi : i < 8) : h.f (80 + i) = .int .u64 (iw (h.state i)) := by
  unfold Hs.f; rw [if_neg (by omega), if_pos (by omega), show 80 + i - 80 = i by omega]
theorem Hs.f_keys (h : Hs) {i : Nat} (hi : i < 80) : h.f i = .int .u64 (iw (h.keys i)) := by
  unfold Hs.f; rw [if_pos (by omega)]
theorem Hs.f_size (h : Hs) : h.f 216 = .int .i64 h.size := by simp [Hs.f]
theorem Hs.f_put (H : Hs) {s : Nat → BitVec 64} {j : Nat} (hj : j < 8) (v : BitVec 64) (e : ∀ i, i < 8 → s i = if i = j then v else H.state i) (i : Nat) :
    (H.withState s).f i = if i = 80 + j then .int .u64 (iw v) else H.f i := by
  by_cases h1 : i < 80
  · simp [Hs.f, Hs.withState, h1, show ¬ i = 80 + j by omega]
  · by_cases h3 : i < 88
    · have h5 := e (i - 80) (by omega)
      by_cases h4 : i = 80 + j
      · subst h4
        simp only [Nat.add_sub_cancel_left, if_true] at h5
        simp [Hs.f, Hs.withState, h1, h3, h5]
      · rw [if_neg (by omega)] at h5
        simp [Hs.f, Hs.withState, h1, h3, h4, h5]
    · simp [Hs.f, Hs.withState, h1, h3, show ¬ i = 80 + j by omega]
section
variable {g : Nat} {H : Hs} {w : World}
theorem HB.st (k : HB w g H) {i j : Nat} (hi : i < 8) (e : j = 80 + i) : w.cell? ⟨g, j, none⟩ = some (.int .u64 (iw (H.state i))) := by
  subst e; rw [← H.f_state hi]; exact k.at_ (by omega)
theorem HB.key (k : HB w g H) {i : Nat} (hi : i < 80) : w.cell? ⟨g, i, none⟩ = some (.int .u64 (iw (H.keys i))) := by
  rw [← H.f_keys hi]; exact k.at_ (by omega)
theorem HB.sz (k : HB w g H) : w.cell? ⟨g, 216, none⟩ = some (.int .i64 H.size) := by
  rw [← H.f_size]; exact k.at_ (by omega)
theorem HB.putSt (k : HB w g H) {s : Nat → BitVec 64} {j : Nat} (hj : j < 8) (v : BitVec 64) (e : ∀ i, i < 8 → s i = if i = j then v else H.state i) :
    HB (w.setCell ⟨g, 80 + j, none⟩ (.int .u64 (iw v))) g (H.withState s) :=
  (Blk.put k (i := 80 + j) (by omega) _).cast_ (row_ext fun i _ => (H.f_put hj v e i).symm)
end
theorem Hs.f_congr (H : Hs) {s s' : Nat → BitVec 64} (e : ∀ i, i < 8 → s i = s' i) (i : Nat) : (H.withState s).f i = (H.withState s').f i := by
  by_cases h1 : i < 80
  · simp [Hs.f, Hs.withState, h1]
  · by_cases h3 : i < 88
    · simp [Hs.f, Hs.withState, h1, h3, e (i - 80) (by omega)]
    · simp [Hs.f, Hs.withState, h1, h3]
theorem HB.stCongr {g : Nat} {H : Hs} {w : World} {s s' : Nat → BitVec 64} (k : HB w g (H.withState s)) (e : ∀ i, i < 8 → s i = s' i) : HB w g (H.withState s') :=
  Blk.cast_ k (row_ext fun i _ => H.f_congr e i)
def addTo (H : Hs) (S : S8) (j i : Nat) : BitVec 64 := if i < j then addw (H.state i) (S.at i) else H.state i
theorem HB.add0 {g : Nat} {H : Hs} {w : World} (S : S8) (k : HB w g H) : HB w g (H.withState (addTo H S 0)) :=
  HB.stCongr (H := H) (s := H.state) k fun i _ => by simp [addTo]
theorem HB.addPut {g : Nat} {H : Hs} {w : World} {S : S8} {j : Nat} (k : HB w g (H.withState (addTo H S j))) (hj : j < 8) :
    HB (w.setCell ⟨g, 80 + j, none⟩ (.int .u64 (iw (addw (H.state j) (S.at j))))) g (H.withState (addTo H S (j + 1))) :=
  HB.putSt (H := H.withState (addTo H S j)) k hj _ (s := addTo H S (j + 1)) fun i _ => by
    by_cases h1 : i = j
    · subst h1; simp [addTo]
    · by_cases h2 : i < j
      · simp [addTo, Hs.withState, h1, h2, Nat.lt_succ_of_lt h2]
      · simp [addTo, Hs.withState, h1, h2, show ¬ i < j + 1 by omega]
/-- Within mix, before the state is stored. -/
structure MX (g : Nat) (H : Hs) (w wr : World) : Prop where
  h : HB wr g H
  b : Below w.heap.size w wr
theorem MX.drewN {g : Nat} {H : Hs} {w wr : World} (h : MX g H w wr) (n : Nat) : MX g H w (wr.drewN n) := ⟨h.h, ⟨h.b.os, h.b.tape, h.b.output, h.b.size, h.b.block⟩⟩
set_option maxRecDepth 100000 in
set_option maxHeartbeats 2000000 in
theorem mix_any (g : Nat) (H : Hs) (w : World) (hg : g < w.heap.size) (hb : HB w g H) :
    Calls Tryz.prog 112 #[.pointer (some ⟨g, 0, none⟩)] w fun e w' => e = .returned (.tuple #[]) ∧ HB w' g H.mix ∧ Chg g w w' := by
  go_enter Tryz.func112, Tryz.ntmps112
  go_wp2_with fail
  refine wp_gen (MX g H w) ⟨hb, Below.refl _ _⟩ (fun w2 hM => ?_)
  have s0 : w2.cell? ⟨g, 80, none⟩ = some (.int .u64 (iw (H.state 0))) := hM.h.st (by omega) (by omega)
  have s1 : w2.cell? ⟨g, 81, none⟩ = some (.int .u64 (iw (H.state 1))) := hM.h.st (by omega) (by omega)
  have s2 : w2.cell? ⟨g, 82, none⟩ = some (.int .u64 (iw (H.state 2))) := hM.h.st (by omega) (by omega)
  have s3 : w2.cell? ⟨g, 83, none⟩ = some (.int .u64 (iw (H.state 3))) := hM.h.st (by omega) (by omega)
  have s4 : w2.cell? ⟨g, 84, none⟩ = some (.int .u64 (iw (H.state 4))) := hM.h.st (by omega) (by omega)
  have s5 : w2.cell? ⟨g, 85, none⟩ = some (.int .u64 (iw (H.state 5))) := hM.h.st (by omega) (by omega)
  have s6 : w2.cell? ⟨g, 86, none⟩ = some (.int .u64 (iw (H.state 6))) := hM.h.st (by omega) (by omega)
  have s7 : w2.cell? ⟨g, 87, none⟩ = some (.int .u64 (iw (H.state 7))) := hM.h.st (by omega) (by omega)
  go_quiet (fail)
  go_wp2_with fail
  refine wp_gen (MX g H w) (hM.drewN nq) (fun w3 hM3 => ?_)
  clear hM s0 s1 s2 s3 s4 s5 s6 s7 nq
  have s0 : w3.cell? ⟨g, 80, none⟩ = some (.int .u64 (iw (H.state 0))) := hM3.h.st (by omega) (by omega)
  have s1 : w3.cell? ⟨g, 81, none⟩ = some (.int .u64 (iw (H.state 1))) := hM3.h.st (by omega) (by omega)
  have s2 : w3.cell? ⟨g, 82, none⟩ = some (.int .u64 (iw (H.state 2))) := hM3.h.st (by omega) (by omega)
  have s3 : w3.cell? ⟨g, 83, none⟩ = some (.int .u64 (iw (H.state 3))) := hM3.h.st (by omega) (by omega)
  have s4 : w3.cell? ⟨g, 84, none⟩ = some (.int .u64 (iw (H.state 4))) := hM3.h.st (by omega) (by omega)
  have s5 : w3.cell? ⟨g, 85, none⟩ = some (.int .u64 (iw (H.state 5))) := hM3.h.st (by omega) (by omega)
  have s6 : w3.cell? ⟨g, 86, none⟩ = some (.int .u64 (iw (H.state 6))) := hM3.h.st (by omega) (by omega)
  have s7 : w3.cell? ⟨g, 87, none⟩ = some (.int .u64 (iw (H.state 7))) := hM3.h.st (by omega) (by omega)
  go_quiet (fail)
  go_wp2_with fail
  have hM := hM3.drewN nq
  clear hM3 s0 s1 s2 s3 s4 s5 s6 s7
  generalize w3.drewN nq = w4 at hM ⊢
  have hgM : g < w4.heap.size := Nat.lt_of_lt_of_le hg hM.b.size
  refine (words_any g H w4 hgM hM.h).mono ?_
  rintro e w5 ⟨rfl, hw5⟩
  have hM6 : MX g H w w5 := ⟨hM.h.below hw5 hgM, hM.b.trans (hw5.mono hM.b.size)⟩
  clear hM hgM hw5
  go_wp2_with fail
  have hS0 : rnd H.keys (schd H.block 64) (S8.of H.state) 0 = S8.of H.state := rfl
  go_loopw [2, 3, 4, 5, 6, 7, 8, 9, 58] (fun va vb vc vd ve vf vg vh i wr => ∃ k : Nat, k ≤ 80 ∧ i = .int .i64 k ∧
      va = .int .u64 (iw (rnd H.keys (schd H.block 64) (S8.of H.state) k).a) ∧ vb = .int .u64 (iw (rnd H.keys (schd H.block 64) (S8.of H.state) k).b) ∧
      vc = .int .u64 (iw (rnd H.keys (schd H.block 64) (S8.of H.state) k).c) ∧ vd = .int .u64 (iw (rnd H.keys (schd H.block 64) (S8.of H.state) k).d) ∧
      ve = .int .u64 (iw (rnd H.keys (schd H.block 64) (S8.of H.state) k).e) ∧ vf = .int .u64 (iw (rnd H.keys (schd H.block 64) (S8.of H.state) k).f) ∧
      vg = .int .u64 (iw (rnd H.keys (schd H.block 64) (S8.of H.state) k).g) ∧ vh = .int .u64 (iw (rnd H.keys (schd H.block 64) (S8.of H.state) k).h) ∧ MX g H w wr)
    (fun _ _ _ _ _ _ _ _ i _ => 80 - (intOf i).toNat)
  case atStart => exact ⟨0, by omega, rfl, rfl, rfl, rfl, rfl, rfl, rfl, rfl, rfl, hM6⟩
  case round =>
    obtain ⟨k, hk, rfl, rfl, rfl, rfl, rfl, rfl, rfl, rfl, rfl, hr⟩ := hrel
    clear hM6 hS0
    by_cases hlt : k < 80
    · generalize hS : rnd H.keys (schd H.block 64) (S8.of H.state) k = S
      have HS : Hid (rnd H.keys (schd H.block 64) (S8.of H.state) (k + 1) = stepS S (H.keys k) (schd H.block 64 k)) := by rw [← hS]; exact Lib.hid rfl
      clear hS
      have hix : ∀ w, (Instr.index 115 (.agg (r64 80 (schd H.block 64))) (.int .i64 (k : Int))).run Tryz.prog w = .ok (.int .u64 (iw (schd H.block 64 k))) w := fun w =>
        run_index_cell w _ 38 80 _ Tryz.underlying115 Tryz.underlying38 rfl (by kernel_rfl) _ _ k hlt (row_get _ hlt) _
      go_wp2_with fail
      clear hix
      have hn := not64'
      have hal : Tryz.prog.arrayLen 115 = 80 := by kernel_rfl
      have ck : wr.cell? ⟨g, k, none⟩ = some (.int .u64 (iw (H.keys k))) := hr.h.key hlt
      go_quiet ((go_at_call 134; exact Calls.quiet_of_same (turns_q S.e 14 18 41 _ (by omega) (by omega) (by omega))))
      have hr2 := hr.drewN nq
      clear hr ck
      generalize wr.drewN nq = w5 at hr2 ⊢
      go_wp2_with (go_at_call 134; refine (turns_any S.a 28 34 39 _ (by omega) (by omega) (by omega)).mono ?_; rintro e w' ⟨rfl, rfl⟩)
      go_roundw
      case rel => exact ⟨k + 1, by omega, by go_num, by rw [HS.out]; rfl, by rw [HS.out]; rfl, by rw [HS.out]; rfl, by rw [HS.out]; rfl, by rw [HS.out]; rfl, by rw [HS.out]; rfl, by rw [HS.out]; rfl, by rw [HS.out]; rfl, hr2⟩
      case measure => simp [intOf]; omega
    · obtain rfl : k = 80 := by omega
      clear hlt hk
      generalize hS : rnd H.keys (schd H.block 64) (S8.of H.state) 80 = S
      have HS : Hid (mixed H = S) := hS
      clear hS
      go_wp2_with fail
      have hr2 : HB wr g (H.withState (addTo H S 0)) ∧ Chg g w wr := ⟨HB.add0 S hr.h, Chg.of_below hr.b⟩
      clear hr
      obtain ⟨wo, rfl⟩ : ∃ wo : World, wo = wr := ⟨_, rfl⟩
      go_loopw [120] (fun i wr => ∃ j : Nat, j ≤ 8 ∧ i = .int .i64 j ∧ HB wr g (H.withState (addTo H S j)) ∧ Chg g w wr) (fun i _ => 8 - (intOf i).toNat)
      case atStart => exact ⟨0, by omega, rfl, hr2⟩
      case round =>
        obtain ⟨j, hj, rfl, hh, hc⟩ := hrel
        clear hr2
        by_cases hjl : j < 8
        · have hix : ∀ w, (Instr.index 54 (.agg #[Value.int .u64 (iw S.a), .int .u64 (iw S.b), .int .u64 (iw S.c), .int .u64 (iw S.d), .int .u64 (iw S.e), .int .u64 (iw S.f), .int .u64 (iw S.g), .int .u64 (iw S.h)]) (.int .i64 (j : Int))).run Tryz.prog w = .ok (.int .u64 (iw (S.at j))) w := fun w =>
            run_index_cell w _ 38 8 _ Tryz.underlying54 Tryz.underlying38 rfl (by kernel_rfl) _ _ j hjl (by rw [S8.arr]; exact row_get _ hjl) _
          go_wp2_with fail
          clear hix
          have hal : Tryz.prog.arrayLen 54 = 8 := by kernel_rfl
          have c1 : wr.cell? ⟨g, 80 + j, none⟩ = some (.int .u64 (iw (H.state j))) := by
            have := hh.st hjl rfl
            simpa [Hs.withState, addTo] using this
          go_still_tail 11, (by kernel_rfl)
          change wpList _ _ _ _ _ wr.drew
          refine wpList_gen (fun w' => (HB w' g (H.withState (addTo H S j)) ∧ Chg g w w') ∧ w'.cell? ⟨g, 80 + j, none⟩ = some (.int .u64 (iw (H.state j)))) ⟨⟨hh, hc.drew⟩, c1⟩ (fun w6 h6 => ?_)
          obtain ⟨⟨h6, hc6⟩, c6⟩ := h6
          clear c1 hh hc hal
          have hf := h6.frozen (80 + j)
          have K : HB (w6.setCell ⟨g, 80 + j, none⟩ (.int .u64 (iw (addw (H.state j) (S.at j))))) g (H.withState (addTo H S (j + 1))) := h6.addPut hjl
          have K' := hc6.setCell (80 + j) (.int .u64 (iw (addw (H.state j) (S.at j))))
          clear h6 hc6
          go_wp2_with fail
          go_roundw
          case rel => (repeat apply Exists.intro); exact ⟨⟨j + 1, by omega, by go_num, K, K'⟩, rfl⟩
          case measure => simp [intOf]; omega
        · obtain rfl : j = 8 := by omega
          clear hjl hj
          go_wp2_with fail
          go_end0
          refine ⟨rfl, ?_, hc⟩
          unfold Hs.mix
          rw [HS.out]
          exact hh.stCongr fun i hi => by simp [addTo, hi]
end Go.Proofs.YtggalphgnloneaaGreat.L2
/- Write, Len. -/
namespace Go.Proofs.YtggalphgnloneaaGreat.L2
open Go.RowKit
def Hs.put1 (H : Hs) (b : BitVec 8) : Hs := { H with block := fun i => if i = H.size % 128 then b else H.block i, size := H.size + 1 }
def Hs.put (H : Hs) (b : BitVec 8) : Hs := if H.size % 128 = 127 then (H.put1 b).mix else H.put1 b
def Hs.write (H : Hs) (l : List UInt8) : Hs := l.foldl (fun H b => H.put b.toBitVec) H
theorem Hs.write_append (H : Hs) (a b : List UInt8) : H.write (a ++ b) = (H.write a).write b := List.foldl_append
theorem Hs.size_put (H : Hs) (b : BitVec 8) : (H.put b).size = H.size + 1 := by
  unfold Hs.put; split <;> rfl
theorem Hs.size_write (l : List UInt8) : ∀ H : Hs, (H.write l).size = H.size + l.length := by
  induction l with
  | nil => intro H; rfl
  | cons b l ih => intro H; show ((H.put b.toBitVec).write l).size = _; rw [ih, Hs.size_put]; simp; omega
/-- n bytes laid where the text goes on. -/
def Hs.chunk (H : Hs) (t : Nat → BitVec 8) (n : Nat) : Hs :=
  { H with block := fun i => if H.size % 128 ≤ i ∧ i < H.size % 128 + n then t (i - H.size % 128) else H.block i, size := H.size + n }
theorem take_snoc (l : List UInt8) (k : Nat) (h : k < l.length) : l.take (k + 1) = l.take k ++ [l.getD k 0] := by
  rw [List.take_add_one, List.getD_eq_getElem?_getD, List.getElem?_eq_getElem h]; rfl
theorem Hs.chunk_put1 (H : Hs) (l : List UInt8) (n : Nat) (h : H.size % 128 + n < 128) : (H.chunk (bL l) n).put1 (bL l n) = H.chunk (bL l) (n + 1) := by
  unfold Hs.put1 Hs.chunk
  simp only [Hs.mk.injEq, true_and]
  refine ⟨?_, by omega⟩
  funext i
  have hm : (H.size + n) % 128 = H.size % 128 + n := by omega
  rw [hm]
  by_cases h1 : i = H.size % 128 + n
  · subst h1; simp
  · by_cases h2 : H.size % 128 ≤ i ∧ i < H.size % 128 + n
    · rw [if_neg h1, if_pos h2, if_pos (by omega)]
    · rw [if_neg h1, if_neg h2, if_neg (by omega)]
theorem Hs.write_chunk (H : Hs) (l : List UInt8) : ∀ n, n ≤ l.length → H.size % 128 + n < 128 → H.write (l.take n) = H.chunk (bL l) n
  | 0, _, _ => by
    show H = _
    unfold Hs.chunk
    cases H
    simp only [Hs.mk.injEq, true_and]
    exact ⟨funext fun i => by rw [if_neg (by omega)], by omega⟩
  | n + 1, hn, h => by
    rw [take_snoc l n (by omega), Hs.write_append, Hs.write_chunk H l n (by omega) (by omega)]
    show (H.chunk (bL l) n).put (bL l n) = _
    have hs : (H.chunk (bL l) n).size = H.size + n := rfl
    unfold Hs.put
    rw [hs, if_neg (by omega), Hs.chunk_put1 H l n (by omega)]
theorem Hs.write_full (H : Hs) (l : List UInt8) (n : Nat) (hn : n ≤ l.length) (h0 : 0 < n) (h : H.size % 128 + n = 128) : H.write (l.take n) = (H.chunk (bL l) n).mix := by
  obtain ⟨m, rfl⟩ : ∃ m, n = m + 1 := ⟨n - 1, by omega⟩
  rw [take_snoc l m (by omega), Hs.write_append, Hs.write_chunk H l m (by omega) (by omega)]
  show (H.chunk (bL l) m).put (bL l m) = _
  have hs : (H.chunk (bL l) m).size = H.size + m := rfl
  unfold Hs.put
  rw [hs, if_pos (by omega), Hs.chunk_put1 H l m (by omega)]
theorem Hs.f_len (H : Hs) (n i : Nat) : ({ H with size := n } : Hs).f i = if 216 ≤ i then .int .i64 n else H.f i := by
  by_cases h1 : i < 80
  · simp [Hs.f, h1, show ¬ 216 ≤ i by omega]
  · by_cases h3 : i < 88
    · simp [Hs.f, h1, h3, show ¬ 216 ≤ i by omega]
    · by_cases h4 : i < 216
      · simp [Hs.f, h1, h3, h4, show ¬ 216 ≤ i by omega]
      · simp [Hs.f, h1, h3, h4, show 216 ≤ i by omega]
theorem Hs.f_blk (H : Hs) (p n : Nat) (t : Nat → BitVec 8) (i : Nat) (hp : p + n ≤ 128) :
    over H.f (88 + p) n (fun j => .int .u8 (iw (t j))) i = ({ H with block := fun i => if p ≤ i ∧ i < p + n then t (i - p) else H.block i } : Hs).f i := by
  unfold over
  by_cases h1 : i < 80
  · rw [if_neg (by omega)]; simp [Hs.f, h1]
  · by_cases h3 : i < 88
    · rw [if_neg (by omega)]; simp [Hs.f, h1, h3]
    · by_cases h4 : i < 216
      · by_cases h5 : 88 + p ≤ i ∧ i < 88 + p + n
        · rw [if_pos h5]
          simp only [Hs.f, if_neg h1, if_neg h3, if_pos h4]
          rw [if_pos (by omega), show i - (88 + p) = i - 88 - p by omega]
        · rw [if_neg h5]
          simp only [Hs.f, if_neg h1, if_neg h3, if_pos h4]
          rw [if_neg (by omega)]
      · rw [if_neg (by omega)]; simp [Hs.f, h1, h3, h4]
section
variable {g : Nat} {H : Hs} {w : World}
theorem HB.putLen (k : HB w g H) (n : Nat) : HB (w.setCell ⟨g, 216, none⟩ (.int .i64 n)) g { H with size := n } :=
  (Blk.put k (i := 216) (by omega) _).cast_ (row_ext fun i hi => by
    rw [H.f_len n i]
    by_cases h : i = 216
    · subst h; simp
    · simp [h, show ¬ 216 ≤ i by omega])
theorem Chg.setRow {g : Nat} {w w' : World} (h : Chg g w w') (cs : Array Value) : Chg g w (w'.setRow g cs) :=
  h.trans ⟨rfl, rfl, rfl, by simp [World.setRow], fun k _ hn => setRow_other _ _ _ _ (fun e => hn e)⟩
end
theorem run_sliceAt_tail {P : Program} (w : World) (T E n : Nat) (hT : P.underlying T = some (.array n E)) (hi : (P.info? E).map (·.size) = some 1)
    (g o l : Nat) (hl : l < n) (k : IntKind) (il : Int) (el : il = (l : Int)) :
    (Instr.sliceAt T (.pointer (some ⟨g, o, none⟩)) (some (.int k il)) none none).run P w = .ok (.slice (some ⟨g, o + l, none⟩) (n - l) (n - l)) w := by
  subst el
  cases hq : P.info? E with
  | none => simp [hq] at hi
  | some i =>
    have hs : i.size = 1 := by simpa [hq] using hi
    simp [Instr.sliceAt, Instr.sureAddr, run_underlying hT, Instr.sliceBounds, Instr.sliceBound, asIntOf, Sem.run_bind, sizeOf, typeInfo, hq, hs, addr_add, show l ≤ n by omega, show ¬ n = l by omega]
def strLen : Value → Nat
  | .string t => t.size
  | _ => 0
set_option maxRecDepth 100000 in
set_option maxHeartbeats 1000000 in
theorem write_any (g : Nat) (H : Hs) (s : ByteArray) (w : World) (hg : g < w.heap.size) (hb : HB w g H) (hn : H.size + s.size < 4611686018427387904) :
    Calls Tryz.prog 79 #[.pointer (some ⟨g, 0, none⟩), .string s] w fun e w' => e = .returned (.tuple #[]) ∧ HB w' g (H.write s.data.toList) ∧ Chg g w w' := by
  go_enter Tryz.func79, Tryz.ntmps79
  go_wp2_with fail
  go_loopw [1] (fun v wr => ∃ (J : Hs) (t : ByteArray), v = .string t ∧ Hid (J.write t.data.toList = H.write s.data.toList) ∧ J.size + t.size = H.size + s.size ∧ HB wr g J ∧ Chg g w wr) (fun v _ => strLen v)
  case atStart => exact ⟨H, s, rfl, Lib.hid rfl, rfl, hb, Chg.refl g w⟩
  case round =>
    obtain ⟨J, t, rfl, HW, hsz, hj, hc⟩ := hrel
    have hJ : J.size + t.size < 4611686018427387904 := by omega
    have hgr : g < wr.heap.size := Nat.lt_of_lt_of_le hg hc.size
    clear hb
    by_cases hlt : 0 < t.size
    · have cs := hj.sz
      obtain ⟨p, hp⟩ : ∃ p, p = J.size % 128 := ⟨_, rfl⟩
      have hp128 : p < 128 := by omega
      have hpe : (J.size : Int) % 128 = (p : Int) := by omega
      have hpi : (J.size : Int).tmod 128 = (p : Int) := by rw [Int.tmod_eq_emod_of_nonneg (by omega)]; omega
      have hsl : ∀ w, (Instr.sliceAt 116 (.pointer (some ⟨g, 88, none⟩)) (some (.int .i64 (p : Int))) none none).run Tryz.prog w = .ok (.slice (some ⟨g, 88 + p, none⟩) (128 - p) (128 - p)) w := by
        intro w
        exact run_sliceAt_tail w _ 5 128 Tryz.underlying116 (by kernel_rfl) g 88 p hp128 _ _ rfl
      obtain ⟨n, hnn⟩ : ∃ n, n = min t.size (128 - p) := ⟨_, rfl⟩
      have hnp : 88 + p + n ≤ 217 := by omega
      have HP := Lib.hid hp
      have HN := Lib.hid hnn
      clear hp hnn
      have hi1 : (Tryz.prog.info? 5).map (·.size) = some 1 := by kernel_rfl
      go_wp2_with fail
      go_region_law (
        (refine step_copy_string rfl (.tmp 16) (.tmp 17) 29 9 rfl 5 Tryz.underlying29 hi1 g (88 + p) (128 - p) (128 - p) 217 J.f t rfl rfl hj n HN.out hnp ?_))
      obtain ⟨J1, hJ1⟩ : ∃ J1 : Hs, J1 = { J with block := fun i => if p ≤ i ∧ i < p + n then bS t (i - p) else J.block i } := ⟨_, rfl⟩
      have h1 : HB (wr.drew.setRow g (row 217 (over J.f (88 + p) n fun i => .int .u8 (iw (bS t i))))) g J1 := by
        subst hJ1
        exact (hj.drew.row_ _).cast_ (row_ext fun i _ => J.f_blk p n (bS t) i (by have := HN.out; omega))
      have hsz1 : J1.size = J.size := by rw [hJ1]
      have hJc : J.chunk (bS t) n = { J1 with size := J.size + n } := by rw [hJ1]; unfold Hs.chunk; rw [← HP.out]
      have HJ := Lib.hid hJc
      clear hJ1 hJc
      refine any_gen (F := fun w => Exit.then _ _ _ _ w) (fun wx => HB wx g J1 ∧ Chg g w wx) ⟨h1, hc.drew.setRow _⟩ (fun w4 h4 => ?_)
      obtain ⟨h4, c4⟩ := h4
      have cs4 := h4.sz
      rw [hsz1] at cs4
      have fs4 := h4.frozen 216
      have h5 : HB (w4.setCell ⟨g, 216, none⟩ (.int .i64 ((J.size : Int) + (n : Int)))) g (J.chunk (bS t) n) := by
        rw [HJ.out]; exact h4.putLen (J.size + n)
      have c5 := c4.setCell 216 (.int .i64 ((J.size : Int) + (n : Int)))
      have hg5 : g < (w4.setCell ⟨g, 216, none⟩ (.int .i64 ((J.size : Int) + (n : Int)))).heap.size := Nat.lt_of_lt_of_le hg c5.size
      have hnt : n ≤ t.size := by have := HN.out; omega
      have hn0 : 0 < n := by have := HN.out; omega
      have cs5 : (w4.setCell ⟨g, 216, none⟩ (.int .i64 ((J.size : Int) + (n : Int)))).cell? ⟨g, 216, none⟩ = some (.int .i64 ((J.size : Int) + (n : Int))) := h5.sz
      have hrest : (t.extract n t.size).data.toList = t.data.toList.drop n := by
        rw [ByteArray.data_extract, Array.toList_extract]
        show (t.data.toList.drop n).take (t.size - n) = _
        rw [List.take_of_length_le (by rw [List.length_drop, Array.length_toList]; show t.data.size - n ≤ t.size - n; exact Nat.le_refl _)]
      have htl : n ≤ t.data.toList.length := by rw [Array.length_toList]; exact hnt
      have HS := Lib.hid (⟨hrest, htl⟩ : _ ∧ _)
      have hes : (t.extract n t.size).size = t.size - n := by simp
      have HE := Lib.hid hes
      clear h1 hj hc cs h4 c4 hrest htl hes hsl hpe hpi
      by_cases hful : (J.size + n) % 128 = 0
      · have hfi : ((J.size : Int) + (n : Int)) % 128 = 0 := by omega
        have HW2 : Hid ((J.chunk (bS t) n).mix = J.write (t.data.toList.take n)) := by
          rw [J.write_full t.data.toList n HS.out.2 hn0 (by have := HP.out; have := HN.out; omega), bS_bL]
          exact Lib.hid rfl
        go_wp2_with fail
        refine (mix_any g _ _ hg5 h5).mono ?_
        rintro e w6 ⟨rfl, h6, c6⟩
        have c6' := c5.trans c6
        clear h5 c5 cs4 fs4 cs5 hg5 c6
        go_wp2_with fail
        go_roundw
        case rel =>
          refine ⟨_, _, rfl, ?_, ?_, h6, c6'⟩
          · rw [HW2.out, HS.out.1, ← Hs.write_append, List.take_append_drop]; exact Lib.hid HW.out
          · rw [HE.out]; show J.size + n + (t.size - n) = _; omega
        case measure => show (t.extract n t.size).size < t.size; rw [HE.out]; omega
      · have hfi : ¬ (((J.size : Int) + (n : Int)) % 128 = 0) := by omega
        have HW2 : Hid (J.chunk (bS t) n = J.write (t.data.toList.take n)) := by
          rw [J.write_chunk t.data.toList n HS.out.2 (by have := HP.out; have := HN.out; omega), bS_bL]
          exact Lib.hid rfl
        go_wp2_with fail
        go_roundw
        case rel =>
          refine ⟨_, _, rfl, ?_, ?_, h5, c5⟩
          · rw [HW2.out, HS.out.1, ← Hs.write_append, List.take_append_drop]; exact Lib.hid HW.out
          · rw [HE.out]; show J.size + n + (t.size - n) = _; omega
        case measure => show (t.extract n t.size).size < t.size; rw [HE.out]; omega
    · go_wp2_with fail
      go_end0
      have e : t.data.toList = [] := List.eq_nil_of_length_eq_zero (by rw [Array.length_toList]; show t.size = 0; omega)
      have hw := HW.out
      rw [e] at hw
      refine ⟨rfl, ?_, hc⟩
      rw [← hw]; exact hj
end Go.Proofs.YtggalphgnloneaaGreat.L2
/- appendWord, ending, Sum. -/
namespace Go.Proofs.YtggalphgnloneaaGreat.L2
open Go.RowKit
theorem u8_info : (Tryz.prog.info? 5).map (fun i => (i.zero, i.size, i.bytes)) = some (some (.int .u8 0), 1, 1) := by kernel_rfl
/-- Bytes in a slice that has been made since w0. -/
structure App (w0 : World) (l : List (BitVec 8)) (v : Value) (wr : World) : Prop where
  own : wr.ownsRow w0.heap.size 5 1 v l.length (l.map b8v)
  b : Below w0.heap.size w0 wr
theorem App.nil (w0 w : World) (h : Below w0.heap.size w0 w) : App w0 [] (.slice none 0 0) w := ⟨⟨rfl, .inl ⟨rfl, rfl⟩⟩, h⟩
def byteAt (x : BitVec 64) (k : Nat) : BitVec 8 := castw 8 (shrw x (56 - 8 * k))
def eightK (x : BitVec 64) : Nat → List (BitVec 8)
  | 0 => []
  | k + 1 => eightK x k ++ [byteAt x k]
def eight (x : BitVec 64) : List (BitVec 8) := eightK x 8
theorem eightK_length (x : BitVec 64) : ∀ k, (eightK x k).length = k
  | 0 => rfl
  | k + 1 => by simp [eightK, eightK_length x k]
set_option maxRecDepth 100000 in
set_option maxHeartbeats 1000000 in
theorem appendWord_any (w0 : World) (l : List (BitVec 8)) (v : Value) (x : BitVec 64) (w : World) (h : App w0 l v w) (hl : l.length ≤ 100000) :
    Calls Tryz.prog 114 #[v, .int .u64 (iw x)] w fun e w' => ∃ v', e = .returned v' ∧ App w0 (l ++ eight x) v' w' := by
  obtain ⟨i0, hi, hz0, hz1, hz2⟩ := info_parts u8_info
  go_enter Tryz.func114, Tryz.ntmps114
  go_wp2_with fail
  go_loopw [0, 5] (fun v i wr => ∃ k : Nat, k ≤ 8 ∧ i = .int .i64 (56 - 8 * (k : Int)) ∧ App w0 (l ++ eightK x k) v wr) (fun _ i _ => (intOf i + 8).toNat)
  case atStart => exact ⟨0, by omega, rfl, by rw [show l ++ eightK x 0 = l by simp [eightK]]; exact h⟩
  case round =>
    obtain ⟨k, hk, rfl, hr⟩ := hrel
    clear h
    by_cases hlt : k < 8
    · have hsh : (iw x : Int) / 2 ^ (56 - 8 * (k : Int)).toNat = iw (shrw x (56 - 8 * k)) := by
        rw [show (56 - 8 * (k : Int)).toNat = 56 - 8 * k by omega]
        unfold iw shrw
        rw [BitVec.toNat_ushiftRight, Nat.shiftRight_eq_div_pow, Int.natCast_ediv, Int.natCast_pow]
        rfl
      have hown := hr.own
      have hbr := hr.b
      have hll : (l ++ eightK x k).length = l.length + k := by rw [List.length_append, eightK_length]
      generalize hL : l ++ eightK x k = L at hown hll
      have HL : Hid (l ++ eightK x (k + 1) = L ++ [byteAt x k]) := by rw [← hL]; exact Lib.hid (by simp [eightK])
      clear hr hL
      go_wp2_with (at_builtin; refine wpList_append_own _ rfl (.tmp 10) (.tmp 15) 29 rfl w0.heap.size 5 i0 (.int .u8 0) 1 1 Tryz.underlying29 hi hz0 hz1 hz2 rfl (by decide) _ L.length (L.map b8v) rfl (hown.alloc _) ⟨wr.heap.size, 0, none⟩ 1 1 [.int .u8 (iw (castw 8 (shrw x (56 - 8 * k))))] rfl rfl ?c1 ?c2 ?c3 ?c4 ?c5 ?_)
      case c1 =>
        intro j u hu
        rw [addr_add, Nat.zero_add]
        exact (cell_of_row _ _ j _ _ (0, 0) (heap_alloc_new wr _)).trans (by rw [← hu]; simp)
      case c2 =>
        intro u hu
        simp at hu
        subst hu; rfl
      case c3 => unfold maxLen; omega
      case c4 => omega
      case c5 => have := hbr.size; simp; omega
      intro v' w2 hown2 hg2 _
      have hb3 : Below w0.heap.size w0 w2 := (hbr.alloc hbr.size _).grown hg2 (by have := hbr.size; simp; exact Nat.le_succ_of_le this) (own_le hown)
      have K : App w0 (l ++ eightK x (k + 1)) v' w2 := by
        rw [HL.out]
        have e : (L ++ [byteAt x k]).length = l.length + k + 1 := by rw [List.length_append, hll]; rfl
        exact ⟨by rw [e, List.map_append]; exact hown2, hb3⟩
      clear hown hbr hown2 hg2 hb3 hsh
      go_wp2_with fail
      go_roundw
      case rel => exact ⟨k + 1, by omega, by go_num, K⟩
      case measure => simp [intOf]; omega
    · obtain rfl : k = 8 := by omega
      go_wp2_with fail
      go_ret
      exact ⟨_, rfl, hr⟩
/-- How many bytes 0 stand behind a text and its bit. -/
def zeros (n : Nat) : Nat := (239 - n % 128) % 128
def hiW (n : Nat) : BitVec 64 := shrw (BitVec.ofNat 64 n) 61
def loW (n : Nat) : BitVec 64 := shlw (BitVec.ofNat 64 n) 3
def padB (n : Nat) : List (BitVec 8) := (litw 8 128 :: List.replicate (zeros n) (litw 8 0)) ++ eight (hiW n) ++ eight (loW n)
def padding (n : Nat) : List UInt8 := asBytes (padB n)
theorem App.shape {w0 wr : World} {l : List (BitVec 8)} {v : Value} (h : App w0 l v wr) : ∃ p c, v = .slice p l.length c := by
  rcases h.own.2 with ⟨h1, h2⟩ | ⟨g, cap, cur, h1, _⟩
  · exact ⟨none, 0, by rw [h1, h2]⟩
  · exact ⟨_, _, h1⟩
theorem b128 : Value.int .u8 128 = b8v (litw 8 128) := by kernel_rfl
theorem b0 : Value.int .u8 0 = b8v (litw 8 0) := by kernel_rfl
theorem App.one (w : World) : App w [litw 8 128] (.slice (some ⟨w.heap.size, 0, none⟩) 1 1) (w.alloc (.cells #[.int .u8 128] 5)) :=
  ⟨⟨rfl, .inr ⟨w.heap.size, 1, _, rfl, Nat.le_refl _, heap_alloc_new _ _, by simp, by unfold maxLen; omega, rfl, by rw [b128]; rfl⟩⟩, (Below.refl _ _).alloc (Nat.le_refl _) _⟩
def sliceLen : Value → Nat
  | .slice _ n _ => n
  | _ => 0
set_option maxRecDepth 100000 in
set_option maxHeartbeats 1000000 in
theorem ending_any (n : Nat) (w : World) (hn : n < 4611686018427387904) :
    Calls Tryz.prog 113 #[.int .i64 (n : Int)] w fun e w' => e = .returned (.string ⟨(padding n).toArray⟩) ∧ Below w.heap.size w w' := by
  obtain ⟨i0, hi, hz0, hz1, hz2⟩ := info_parts u8_info
  have hX : IntKind.u64.wrap (n : Int) = iw (BitVec.ofNat 64 n) := wrap_of_nat64 n
  go_enter Tryz.func113, Tryz.ntmps113
  go_wp2_with fail
  go_loopw [3] (fun v wr => ∃ j : Nat, j ≤ zeros n ∧ App w (litw 8 128 :: List.replicate j (litw 8 0)) v wr) (fun v _ => 200 - sliceLen v)
  case atStart => exact ⟨0, by omega, App.one w⟩
  case round =>
    obtain ⟨j, hj, hr⟩ := hrel
    obtain ⟨p, c, hv⟩ := hr.shape
    have hz : zeros n < 128 := by unfold zeros; omega
    have hll : (litw 8 128 :: List.replicate j (litw 8 0)).length = j + 1 := by simp
    rw [hll] at hv
    subst hv
    by_cases hlt : j < zeros n
    · have t1 : ((n : Int) % 128 + ((j : Int) + 1)) % 128 ≠ 112 := by unfold zeros at hlt; omega
      have t1' : ((((n : Int) % 128 + ((j : Int) + 1)) % 128) != 112) = true := by rw [bne_iff_ne]; exact t1
      have hown := hr.own
      have hbr := hr.b
      generalize hL : litw 8 128 :: List.replicate j (litw 8 0) = L at hown hll
      have HL : Hid (litw 8 128 :: List.replicate (j + 1) (litw 8 0) = L ++ [litw 8 0]) := by rw [← hL]; exact Lib.hid (by simp [List.replicate_succ'])
      clear hr hL
      rw [hll] at hown
      go_wp2_with (at_builtin; refine wpList_append_own _ rfl (.tmp 12) (.tmp 13) 29 rfl w.heap.size 5 i0 (.int .u8 0) 1 1 Tryz.underlying29 hi hz0 hz1 hz2 rfl (by decide) _ (j + 1) (L.map b8v) rfl (hown.alloc _) ⟨wr.heap.size, 0, none⟩ 1 1 [.int .u8 0] rfl rfl ?c1 ?c2 ?c3 ?c4 ?c5 ?_)
      case c1 =>
        intro j u hu
        rw [addr_add, Nat.zero_add]
        exact (cell_of_row _ _ j _ _ (0, 0) (heap_alloc_new wr _)).trans (by rw [← hu]; simp)
      case c2 =>
        intro u hu
        simp at hu
        subst hu; rfl
      case c3 => unfold maxLen; omega
      case c4 => omega
      case c5 => have := hbr.size; simp; omega
      intro v' w2 hown2 hg2 _
      have hb3 : Below w.heap.size w w2 := (hbr.alloc hbr.size _).grown hg2 (by have := hbr.size; simp; exact Nat.le_succ_of_le this) (own_le hown)
      have K : App w (litw 8 128 :: List.replicate (j + 1) (litw 8 0)) v' w2 := by
        rw [HL.out]
        have e : (L ++ [litw 8 0]).length = j + 1 + 1 := by rw [List.length_append, hll]; rfl
        rw [b0] at hown2
        exact ⟨by rw [e, List.map_append]; exact hown2, hb3⟩
      clear hown hbr hown2 hg2 hb3
      go_wp2_with fail
      go_roundw
      case rel => exact ⟨j + 1, by omega, K⟩
      case measure =>
        obtain ⟨p', c', hv'⟩ := K.shape
        rw [hv']
        simp [sliceLen]; omega
    · obtain rfl : j = zeros n := by omega
      have t1 : ((n : Int) % 128 + (((zeros n : Nat) : Int) + 1)) % 128 = 112 := by unfold zeros; omega
      go_wp2_with fail
      refine (appendWord_any w _ _ (hiW n) wr hr (by rw [hll]; omega)).mono ?_
      rintro e w2 ⟨v2, rfl, h2⟩
      clear hr
      go_wp2_with fail
      refine (appendWord_any w _ _ (loW n) w2 h2 (by rw [List.length_append, hll, eight, eightK_length]; omega)).mono ?_
      rintro e w3 ⟨v3, rfl, h3⟩
      clear h2
      have hcv : (convert 29 9 v3).run Tryz.prog w3 = .ok (.string ⟨(padding n).toArray⟩) w3 :=
        run_string_of_own w3 _ _ 5 _ Tryz.underlying29 Tryz.underlying5 Tryz.underlying9 _ _ _ h3.own
      have hb3 := h3.b
      clear h3
      go_wp2_with fail
      go_ret
      exact ⟨rfl, hb3⟩
def outB (s : Nat → BitVec 64) : Nat → List (BitVec 8)
  | 0 => []
  | k + 1 => outB s k ++ eight (s k)
theorem eight_length (x : BitVec 64) : (eight x).length = 8 := eightK_length x 8
theorem outB_length (s : Nat → BitVec 64) : ∀ k, (outB s k).length = 8 * k
  | 0 => rfl
  | k + 1 => by simp [outB, outB_length s k, eight_length, Nat.mul_add]
def Hs.ended (H : Hs) : Hs := H.write (padding H.size)
def Hs.out (H : Hs) : List UInt8 := asBytes (outB H.ended.state 8)
theorem padB_length (n : Nat) : (padB n).length = zeros n + 17 := by simp [padB, eight_length]
def zeroF (i : Nat) : Value := if i < 88 then .int .u64 0 else if i < 216 then .int .u8 0 else .int .i64 0
theorem zeroHash (w : World) : (zeroValue 118).run Tryz.prog w = .ok (.agg (row 217 zeroF)) w := by kernel_rfl
theorem Hs.f_one (H : Hs) (i : Nat) : (H.f i).oneCell' = true := by unfold Hs.f; (repeat' split) <;> rfl
set_option maxRecDepth 100000 in
set_option maxHeartbeats 2000000 in
theorem sum_any (g : Nat) (H : Hs) (w : World) (hb : HB w g H) (hn : H.size < 576460752303423488) :
    Calls Tryz.prog 80 #[.pointer (some ⟨g, 0, none⟩)] w fun e w' => e = .returned (.string ⟨H.out.toArray⟩) ∧ Below w.heap.size w w' := by
  have hsz : (Tryz.prog.info? 118).map (·.size) = some (row 217 H.f).size := by rw [row_size]; kernel_rfl
  have hone : (row 217 H.f).all (·.oneCell') = true := row_one H.f_one
  have hzv := zeroHash
  have hps : (⟨(padding H.size).toArray⟩ : ByteArray).size = zeros H.size + 17 := by
    show (padding H.size).toArray.size = _
    simp [padding, asBytes, padB_length]
  have hz : zeros H.size < 128 := by unfold zeros; omega
  have cs := hb.sz
  go_enter Tryz.func80, Tryz.ntmps80
  go_wp2_with (first
    | (refine wpList_load_row rfl 118 _ rfl g rfl 118 _ (0, 0) _ hb Tryz.underlying118 rfl hsz ?_)
    | (refine wpList_store_row rfl 118 _ _ rfl w.heap.size (row 217 H.f) rfl rfl 118 _ (Blk.new w _ _) hsz (by rw [row_size, row_size]) hone ?_; refine wpList_gen (fun wx => HB wx g H ∧ HB wx w.heap.size H ∧ Below w.heap.size w wx) ⟨(hb.alloc _).row_far (Nat.ne_of_lt hb.lt) _, (Blk.new w _ _).row_ _, below_setRow' ((Below.refl _ _).alloc (by omega) _) (by omega) _⟩ (fun w1 h1 => ?_); obtain ⟨h1, k1, b1⟩ := h1; have cs1 := h1.sz)
    | fail)
  refine (ending_any H.size w1 (by omega)).mono ?_
  rintro e w2 ⟨rfl, c2⟩
  have k2 := k1.below c2 k1.lt
  have b2 := b1.trans (c2.mono b1.size)
  clear h1 k1 b1 c2 cs1 hb hsz hone hzv cs
  go_wp2_with fail
  refine (write_any w.heap.size H _ w2 k2.lt k2 (by rw [hps]; omega)).mono ?_
  rintro e w3 ⟨rfl, k3, c3⟩
  have b3 : Below w.heap.size w w3 := c3.below b2 (Nat.le_refl _) b2.size
  have k3' : HB w3 w.heap.size H.ended := by simpa [Hs.ended] using k3
  clear k2 b2 c3 k3 hps hz
  have hi8 : (Tryz.prog.info? 54).map (·.size) = some 8 := by kernel_rfl
  have hlb : (row 8 fun i => H.ended.f (80 + i)) = row 8 fun i => Value.int .u64 (iw (H.ended.state i)) := row_ext fun i hi => H.ended.f_state hi
  go_wp2_with (refine wpList_load_part rfl 54 _ rfl w.heap.size 80 8 217 H.ended.f rfl 118 k3' (by decide) _ Tryz.underlying54 rfl hi8 ?_)
  clear hlb hi8 k3'
  have HO : Hid (H.out = asBytes (outB H.ended.state 8)) := Lib.hid rfl
  generalize H.ended.state = st at HO ⊢
  go_loopw [4, 18] (fun v i wr => ∃ k : Nat, k ≤ 8 ∧ i = .int .i64 k ∧ App w (outB st k) v wr) (fun _ i _ => 8 - (intOf i).toNat)
  case atStart => exact ⟨0, by omega, rfl, App.nil w w3 b3⟩
  case round =>
    obtain ⟨k, hk, rfl, hr⟩ := hrel
    clear b3
    by_cases hlt : k < 8
    · have hix : ∀ w, (Instr.index 54 (.agg (row 8 fun i => Value.int .u64 (iw (st i)))) (.int .i64 (k : Int))).run Tryz.prog w = .ok (.int .u64 (iw (st k))) w := fun w =>
        run_index_cell w _ 38 8 _ Tryz.underlying54 Tryz.underlying38 rfl (by kernel_rfl) _ _ k hlt (row_get _ hlt) _
      go_wp2_with fail
      refine (appendWord_any w _ _ (st k) wr hr (by rw [outB_length]; omega)).mono ?_
      rintro e w4 ⟨v4, rfl, h4⟩
      clear hr hix
      go_wp2_with fail
      go_roundw
      case rel => exact ⟨k + 1, by omega, by go_num, h4⟩
      case measure => simp [intOf]; omega
    · obtain rfl : k = 8 := by omega
      have hcv : (convert 29 9 u4).run Tryz.prog wr = .ok (.string ⟨(asBytes (outB st 8)).toArray⟩) wr :=
        run_string_of_own wr _ _ 5 _ Tryz.underlying29 Tryz.underlying5 Tryz.underlying9 _ _ _ hr.own
      have hb9 := hr.b
      clear hr hlt hk
      generalize asBytes (outB st 8) = OUT at hcv HO
      go_wp2_with fail
      go_ret
      exact ⟨by rw [HO.out]; rfl, hb9⟩
end Go.Proofs.YtggalphgnloneaaGreat.L2
/- Mul64, Add64, addAll, times. -/
namespace Go.Proofs.YtggalphgnloneaaGreat.L2
open Go.RowKit
def m32 : BitVec 64 := litw 64 4294967295
def mulT (x y : BitVec 64) : BitVec 64 :=
  addw (mulw (shrw x 32) (andw y m32)) (shrw (mulw (andw x m32) (andw y m32)) 32)
def mulHi (x y : BitVec 64) : BitVec 64 :=
  addw (addw (mulw (shrw x 32) (shrw y 32)) (shrw (mulT x y) 32)) (shrw (addw (andw (mulT x y) m32) (mulw (andw x m32) (shrw y 32))) 32)
set_option maxHeartbeats 400000 in
theorem mul64_any (x y : BitVec 64) (w : World) :
    Calls Tryz.prog 119 #[.int .u64 (iw x), .int .u64 (iw y)] w fun e w' => e = .returned (.tuple #[.int .u64 (iw (mulHi x y)), .int .u64 (iw (mulw x y))]) ∧ w = w' := by
  have hm : ∀ x : BitVec 64, bits .and .u64 (iw x) 4294967295 = iw (andw x m32) := fun x => and64_lit x _
  go_enter Tryz.func119, Tryz.ntmps119
  go_wp2
  go_ret2
  exact ⟨rfl, rfl⟩
def carryOf (x y : BitVec 64) : BitVec 64 := BitVec.ofNat 64 ((x.toNat + y.toNat) / 18446744073709551616)
theorem run_add (x y : BitVec 64) (w : World) : (callFunc 120 #[.int .u64 (iw x), .int .u64 (iw y), .int .u64 0]).run Tryz.prog w = .ok (.value (.tuple #[.int .u64 (iw (addw x y)), .int .u64 (iw (carryOf x y))])) w := by
  have h1 : (0 : Int) ≤ iw x := by unfold iw; omega
  have h2 : (0 : Int) ≤ iw y := by unfold iw; omega
  rw [run_callFunc_extern Tryz.func120 (by kernel_rfl) (by kernel_rfl) (by kernel_rfl) (e := add64Entry) (by kernel_rfl), run_add64 _ _ 0 h1 h2 (by omega) (by omega)]
  have e1 : (iw x + iw y + 0) % 18446744073709551616 = iw (addw x y) := by unfold iw addw; rw [BitVec.toNat_add]; omega
  have e2 : (iw x + iw y + 0) / 18446744073709551616 = iw (carryOf x y) := by
    have := x.isLt
    have := y.isLt
    unfold iw carryOf
    rw [BitVec.toNat_ofNat]; omega
  rw [e1, e2]
  rfl
/-- The sum of the first k numbers, and how often it went round. -/
def adds (f : Nat → BitVec 64) : Nat → BitVec 64 × BitVec 64
  | 0 => (litw 64 0, litw 64 0)
  | k + 1 => (addw (adds f k).1 (f k), addw (adds f k).2 (carryOf (adds f k).1 (f k)))
theorem lit0 : Value.int .u64 0 = .int .u64 (iw (litw 64 0)) := by kernel_rfl
set_option maxHeartbeats 1000000 in
theorem addAll_any (g n : Nat) (f : Nat → BitVec 64) (t : TypeId) (w : World) (hn : n ≤ 100) (hb : Blk w g t (r64 n f)) :
    Calls Tryz.prog 144 #[.slice (some ⟨g, 0, none⟩) n n] w fun e w' => e = .returned (.tuple #[.int .u64 (iw (adds f n).1), .int .u64 (iw (adds f n).2)]) ∧ w = w' := by
  have hrun := run_add
  go_enter Tryz.func144, Tryz.ntmps144
  go_wp2_with fail
  go_loopw [2, 3, 10] (fun a b i wr => ∃ k : Nat, k ≤ n ∧ i = .int .i64 k ∧ a = .int .u64 (iw (adds f k).1) ∧ b = .int .u64 (iw (adds f k).2) ∧ w = wr) (fun _ _ i _ => n - (intOf i).toNat)
  case atStart => exact ⟨0, by omega, rfl, lit0, lit0, rfl⟩
  case round =>
    obtain ⟨k, hk, rfl, rfl, rfl, rfl⟩ := hrel
    by_cases hlt : k < n
    · have cx : w.cell? ⟨g, k, none⟩ = some (.int .u64 (iw (f k))) := hb.at_ hlt
      have hk1 : adds f (k + 1) = (addw (adds f k).1 (f k), addw (adds f k).2 (carryOf (adds f k).1 (f k))) := rfl
      have HK := Lib.hid hk1
      clear hk1
      generalize adds f k = P at HK ⊢
      go_wp2_with fail
      go_roundw
      case rel => exact ⟨k + 1, by omega, by go_num, by rw [HK.out], by rw [HK.out], by trivial⟩
      case measure => simp [intOf]; omega
    · obtain rfl : k = n := by omega
      go_wp2_with fail
      go_ret2
      exact ⟨rfl, by trivial⟩
structure Fx where
  a : BitVec 64
  b : BitVec 64
  c : BitVec 64
abbrev fxv (x : Fx) : Array Value := #[.int .u64 (iw x.a), .int .u64 (iw x.b), .int .u64 (iw x.c)]
def low3 (n x : Fx) : Nat → BitVec 64
  | 0 => mulw n.b x.b
  | 1 => mulw n.c x.a
  | _ => mulHi n.c x.b
def mid5 (n x : Fx) : Nat → BitVec 64
  | 0 => mulw n.a x.b
  | 1 => mulw n.b x.a
  | 2 => mulHi n.b x.b
  | 3 => mulHi n.c x.a
  | _ => (adds (low3 n x) 3).2
def timesS (n x : Fx) : Fx :=
  ⟨addw (addw (addw (mulw n.a x.a) (mulHi n.a x.b)) (mulHi n.b x.a)) (adds (mid5 n x) 5).2, (adds (mid5 n x) 5).1, (adds (low3 n x) 3).1⟩
theorem fx_one (s : Fx) : (fxv s).all (·.oneCell') = true := by kernel_rfl
theorem row3 (a b c : BitVec 64) (f : Nat → BitVec 64) (h0 : f 0 = a) (h1 : f 1 = b) (h2 : f 2 = c) : #[Value.int .u64 (iw a), .int .u64 (iw b), .int .u64 (iw c)] = r64 3 f := by subst h0 h1 h2; rfl
theorem row5 (a b c d e : BitVec 64) (f : Nat → BitVec 64) (h0 : f 0 = a) (h1 : f 1 = b) (h2 : f 2 = c) (h3 : f 3 = d) (h4 : f 4 = e) : #[Value.int .u64 (iw a), .int .u64 (iw b), .int .u64 (iw c), .int .u64 (iw d), .int .u64 (iw e)] = r64 5 f := by subst h0 h1 h2 h3 h4; rfl
/-- Within times: the receiver and the result. -/
structure TW (n : Fx) (w wr : World) : Prop where
  n : Blk wr w.heap.size 142 (fxv n)
  z : Blk wr (w.heap.size + 2) 142 #[.int .u64 0, .int .u64 0, .int .u64 0]
  b : Below w.heap.size w wr
theorem below_draws {B : Nat} {w0 w : World} (h : Below B w0 w) (n : Nat) : Below B w0 (w.drewN n) := ⟨h.os, h.tape, h.output, h.size, h.block⟩
theorem TW.alloc {n : Fx} {w wr : World} (h : TW n w wr) (o : Obj) : TW n w (wr.alloc o) := ⟨h.n.alloc _, h.z.alloc _, h.b.alloc h.b.size _⟩
set_option maxRecDepth 100000 in
set_option maxHeartbeats 1000000 in
theorem times_any (n x : Fx) (w : World) :
    Calls Tryz.prog 141 #[.agg (fxv n), .agg (fxv x)] w fun e w' => e = .returned (.agg (fxv (timesS n x))) ∧ Below w.heap.size w w' := by
  have hsz : (Tryz.prog.info? 142).map (·.size) = some 3 := by kernel_rfl
  go_enter Tryz.func141, Tryz.ntmps141
  go_wp2_with fail
  go_quiet (fail)
  refine any_gen (F := fun w => Exit.then _ _ _ _ w) (TW n w) ⟨((Blk.new w _ _).alloc _).alloc _, (Blk.new _ _ _).cast' ⟨by simp, rfl⟩, below_draws ((((Below.refl _ _).alloc (Nat.le_refl _) _).alloc (by simp) _).alloc (by simp; omega) _) _⟩ (fun w1 h1 => ?_)
  have n0 : w1.cell? ⟨w.heap.size, 0, none⟩ = some (.int .u64 (iw n.a)) := h1.n.cell 0
  have n1 : w1.cell? ⟨w.heap.size, 1, none⟩ = some (.int .u64 (iw n.b)) := h1.n.cell 1
  have n2 : w1.cell? ⟨w.heap.size, 2, none⟩ = some (.int .u64 (iw n.c)) := h1.n.cell 2
  go_wp2_with (go_at_call 119; refine (mul64_any _ _ _).mono ?_; rintro e w' ⟨rfl, rfl⟩)
  refine any_gen (F := fun w => Calls _ _ _ w _) (fun wx => Blk wx w1.heap.size 38 (r64 3 (low3 n x)) ∧ TW n w wx) ⟨(Blk.new w1 _ _).cast_ (row3 _ _ _ (low3 n x) rfl rfl rfl), h1.alloc _⟩ (fun w2 h2 => ?_)
  obtain ⟨k2, h2⟩ := h2
  refine (addAll_any _ 3 (low3 n x) _ w2 (by omega) k2).mono ?_
  rintro e w2' ⟨rfl, rfl⟩
  generalize hP : adds (low3 n x) 3 = P
  have HP := Lib.hid hP
  clear n0 n1 n2 h1 k2 hP
  go_wp2_with fail
  refine any_gen (F := fun w => Calls _ _ _ w _) (fun wx => Blk wx w2.heap.size 38 (r64 5 (mid5 n x)) ∧ TW n w wx) ⟨(Blk.new w2 _ _).cast_ (row5 _ _ _ _ _ (mid5 n x) rfl rfl rfl rfl (by rw [← HP.out]; rfl)), h2.alloc _⟩ (fun w3 h3 => ?_)
  obtain ⟨k3, h3⟩ := h3
  refine (addAll_any _ 5 (mid5 n x) _ w3 (by omega) k3).mono ?_
  rintro e w3' ⟨rfl, rfl⟩
  generalize hR : adds (mid5 n x) 5 = R
  have HR : Hid (timesS n x = ⟨addw (addw (addw (mulw n.a x.a) (mulHi n.a x.b)) (mulHi n.b x.a)) R.2, R.1, P.1⟩) := by
    rw [← hR, ← HP.out]; exact Lib.hid rfl
  clear h2 k3 hR HP
  have n0 : w3.cell? ⟨w.heap.size, 0, none⟩ = some (.int .u64 (iw n.a)) := h3.n.cell 0
  have hz := h3.z
  have hb := h3.b
  clear h3
  go_wp2_with (refine wpList_store_row rfl 142 _ _ rfl (w.heap.size + 2) (fxv ⟨addw (addw (addw (mulw n.a x.a) (mulHi n.a x.b)) (mulHi n.b x.a)) R.2, R.1, P.1⟩) rfl rfl 142 _ hz hsz rfl (fx_one _) ?_)
  exact bodyPost_ret (results_cell_row rfl _ _ (w.heap.size + 2) 142 _ (0, 0) _ rfl (hz.row_ _) Tryz.underlying142 rfl hsz) rfl ⟨by rw [HR.out], below_setRow' hb (by omega) _⟩
end Go.Proofs.YtggalphgnloneaaGreat.L2
/- Len64, LeadingZeros64, Div64. -/
namespace Go.Proofs.YtggalphgnloneaaGreat.L2
open Go.RowKit
theorem run_byte {P : Program} (w : World) (t : TypeId) (h : P.underlying t = some .string) (s : ByteArray) (i : Nat) (hi : i < s.size) (k : IntKind) (x : Int) (hx : x = (i : Int)) :
    (Instr.index t (.string s) (.int k x)).run P w = .ok (.int .u8 (iw (bS s i))) w := by
  subst hx
  have e : s[i]? = some s[i] := by simp [hi]
  have e2 : ((s[i]).toNat : Int) = iw (bS s i) := by unfold iw bS; rw [e]; rfl
  simp [Instr.index, run_underlying h, asIntOf, Sem.run_bind, e, e2]
def bl (i : Nat) : Nat := if i = 0 then 0 else Nat.log2 i + 1
def tab : ByteArray := ⟨((List.range 256).map fun i => UInt8.ofNat (bl i)).toArray⟩
theorem tab_at : ∀ z, z < 256 → (tab[z]?.getD 0).toNat = bl z := by decide +kernel
theorem run_tab {P : Program} (w : World) (t : TypeId) (h : P.underlying t = some .string) (x : BitVec 8) : (Instr.index t (.string tab) (.int .u8 (iw x))).run P w = .ok (.int .u8 (bl x.toNat : Int)) w := by
  have hx : x.toNat < 256 := x.isLt
  rw [run_byte w t h tab x.toNat (by rw [show tab.size = 256 by kernel_rfl]; exact hx) .u8 (iw x) (by unfold iw; rfl)]
  have : iw (bS tab x.toNat) = (bl x.toNat : Int) := by
    rw [← tab_at _ hx]; unfold iw bS; rfl
  rw [this]
theorem wpList_index_run {P : Program} {ops : Array Oper} {rest : List Oper} {o : Oper} {a : Act} {w : World} {Q : Exit → Act → World → Prop} (hg : o.guard = none) (t : TypeId) (x y : Operand) (ho : o.op = .index t x y)
    (X Y : Value) (hx : a.eval x = X) (hy : a.eval y = Y) (v : Value) (hrun : (Instr.index t X Y).run P w = .ok v w)
    (h : wpList P ops Q rest (a.put o.dst v) w) : wpList P ops Q (o :: rest) a w := by
  refine wpList_plain hg fun K hK => ?_
  unfold Oper.wp execOp
  simp only [ho, hx, hy, Sem.run_bind, hrun, Result.andThen_ok]
  exact hK _ _ h
/-- How far y is from having its highest bit. -/
def lz (y : BitVec 64) : Nat := 8 - bl (castw 8 (shrw (shrw (shrw y 32) 16) 8)).toNat
theorem bl_le : ∀ z, z < 256 → bl z ≤ 8 := by decide +kernel
set_option maxRecDepth 100000 in
set_option maxHeartbeats 1000000 in
theorem len64_any (y : BitVec 64) (w : World) (h1 : 4294967296 ≤ iw y) (h2 : 65536 ≤ iw (shrw y 32)) (h3 : 256 ≤ iw (shrw (shrw y 32) 16)) :
    Calls Tryz.prog 146 #[.int .u64 (iw y)] w fun e w' => e = .returned (.int .i64 ((64 - lz y : Nat) : Int)) ∧ w = w' := by
  have hb := bl_le (castw 8 (shrw (shrw (shrw y 32) 16) 8)).toNat (castw 8 (shrw (shrw (shrw y 32) 16) 8)).isLt
  have hlz : ((64 - lz y : Nat) : Int) = 56 + (bl (castw 8 (shrw (shrw (shrw y 32) 16) 8)).toNat : Int) := by unfold lz; omega
  have HL := Lib.hid hlz
  clear hlz
  go_enter Tryz.func146, Tryz.ntmps146
  go_wp2_with (refine wpList_index_run rfl 9 _ _ rfl (.string tab) (.int .u8 (iw (castw 8 (shrw (shrw (shrw y 32) 16) 8)))) (by kernel_rfl) rfl _ (run_tab w _ Tryz.underlying9 _) ?_)
  go_ret
  exact ⟨by rw [HL.out]; rfl, rfl⟩
set_option maxHeartbeats 1000000 in
theorem leading_any (y : BitVec 64) (w : World) (h1 : 4294967296 ≤ iw y) (h2 : 65536 ≤ iw (shrw y 32)) (h3 : 256 ≤ iw (shrw (shrw y 32) 16)) :
    Calls Tryz.prog 145 #[.int .u64 (iw y)] w fun e w' => e = .returned (.int .i64 (lz y : Int)) ∧ w = w' := by
  have hz : lz y ≤ 8 := by unfold lz; omega
  have hs : (64 : Int) - ((64 - lz y : Nat) : Int) = (lz y : Int) := by omega
  go_enter Tryz.func145, Tryz.ntmps145
  go_wp2_with (go_at_call 146; refine (len64_any y _ h1 h2 h3).mono ?_; rintro e w' ⟨rfl, rfl⟩)
  go_ret
  exact ⟨rfl, rfl⟩
def divw (x y : BitVec 64) : BitVec 64 := BitVec.ofNat 64 (x.toNat / y.toNat)
theorem iw_div (x y : BitVec 64) : iw x / iw y = iw (divw x y) := by
  have := x.isLt
  unfold iw divw
  rw [BitVec.toNat_ofNat, Nat.mod_eq_of_lt (Nat.lt_of_le_of_lt (Nat.div_le_self _ _) this)]
  exact (Int.natCast_ediv _ _).symm
def two32 : BitVec 64 := litw 64 4294967296
/-- The two steps that put a guessed digit right. -/
def fixq (yn1 yn0 un : BitVec 64) : Nat → BitVec 64 → BitVec 64 → Option (BitVec 64)
  | 0, _, _ => none
  | k + 1, q, r =>
    if 4294967296 ≤ iw q ∨ iw (addw (mulw r two32) un) < iw (mulw q yn0) then
      if 4294967296 ≤ iw (addw r yn1) then some (subw q (litw 64 1)) else fixq yn1 yn0 un k (subw q (litw 64 1)) (addw r yn1)
    else some q
def un21 (Y un32 un1 q1 : BitVec 64) : BitVec 64 := subw (addw (mulw un32 two32) un1) (mulw q1 Y)
def divL (yn1 yn0 un0 u : BitVec 64) : Option (BitVec 64) := fixq yn1 yn0 un0 4 (divw u yn1) (subw u (mulw (divw u yn1) yn1))
def divK (yn1 yn0 Y un32 un1 un0 : BitVec 64) : Option (BitVec 64) :=
  match fixq yn1 yn0 un1 4 (divw un32 yn1) (subw un32 (mulw (divw un32 yn1) yn1)) with
  | none => none
  | some q1 => (divL yn1 yn0 un0 (un21 Y un32 un1 q1)).map fun q0 => addw (mulw q1 two32) q0
def div64 (hi lo y : BitVec 64) : Option (BitVec 64) :=
  if iw hi = 0 then (if iw hi < iw y then some (divw lo y) else none)
  else if 4294967296 ≤ iw y ∧ iw hi < iw y ∧ iw hi ≠ 0 ∧ 65536 ≤ iw (shrw y 32) ∧ 256 ≤ iw (shrw (shrw y 32) 16) ∧ iw (shrw (shlw y (lz y)) 32) ≠ 0 then
    divK (shrw (shlw y (lz y)) 32) (andw (shlw y (lz y)) m32) (shlw y (lz y)) (orw (shlw hi (lz y)) (shrw lo (64 - lz y))) (shrw (shlw lo (lz y)) 32) (andw (shlw lo (lz y)) m32)
  else none
set_option maxRecDepth 100000 in
set_option maxHeartbeats 2000000 in
theorem div64_go (hi lo y : BitVec 64) (Q : BitVec 64) (w : World) (h1 : 4294967296 ≤ iw y) (g1 : iw hi < iw y) (g2 : iw hi ≠ 0)
    (h2 : 65536 ≤ iw (shrw y 32)) (h3 : 256 ≤ iw (shrw (shrw y 32) 16)) (g3 : iw (shrw (shlw y (lz y)) 32) ≠ 0)
    (HQ : Hid (divK (shrw (shlw y (lz y)) 32) (andw (shlw y (lz y)) m32) (shlw y (lz y)) (orw (shlw hi (lz y)) (shrw lo (64 - lz y))) (shrw (shlw lo (lz y)) 32) (andw (shlw lo (lz y)) m32) = some Q)) :
    Calls Tryz.prog 142 #[.int .u64 (iw hi), .int .u64 (iw lo), .int .u64 (iw y)] w fun e w' => ∃ r, e = .returned (.tuple #[.int .u64 (iw Q), r]) ∧ w = w' := by
  have hand : ∀ x : BitVec 64, bits .and .u64 (iw x) 4294967295 = iw (andw x m32) := fun x => and64_lit x _
  have hdv : ∀ a b : BitVec 64, IntKind.u64.wrap ((iw a).tdiv (iw b)) = iw (divw a b) := fun a b => by
    rw [Int.tdiv_eq_ediv_of_nonneg (by unfold iw; omega), iw_div, IntKind.wrap_u64]
    have := (divw a b).isLt
    unfold iw
    omega
  have hml : ∀ x : BitVec 64, IntKind.u64.wrap (4294967296 * iw x) = iw (mulw x two32) := fun x => by rw [Int.mul_comm]; exact wrap64_mul_lit x 4294967296
  have hmr : ∀ x : BitVec 64, IntKind.u64.wrap (iw x * 4294967296) = iw (mulw x two32) := fun x => wrap64_mul_lit x 4294967296
  have hs1 : ∀ x : BitVec 64, IntKind.u64.wrap (iw x - 1) = iw (subw x (litw 64 1)) := fun x => wrap64_sub_lit x 1
  have g0 : iw y ≠ 0 := by omega
  have g0' : ¬ iw y ≤ iw hi := by omega
  have hz : lz y ≤ 8 := by unfold lz; omega
  go_enter Tryz.func142, Tryz.ntmps142
  go_wp2_with (first | (go_at_call 145; refine (leading_any y _ h1 h2 h3).mono ?_; rintro e w' ⟨rfl, rfl⟩) | fail)
  generalize shlw y (lz y) = Y at HQ g3 ⊢
  generalize orw (shlw hi (lz y)) (shrw lo (64 - lz y)) = un32 at HQ ⊢
  generalize shrw (shlw lo (lz y)) 32 = un1 at HQ ⊢
  generalize andw (shlw lo (lz y)) m32 = un0 at HQ ⊢
  generalize shrw Y 32 = yn1 at HQ g3 ⊢
  generalize andw Y m32 = yn0 at HQ ⊢
  obtain ⟨q1, hq1⟩ : ∃ q1, fixq yn1 yn0 un1 4 (divw un32 yn1) (subw un32 (mulw (divw un32 yn1) yn1)) = some q1 := by
    have := HQ.out
    unfold divK at this
    split at this
    · cases this
    · exact ⟨_, by assumption⟩
  obtain ⟨q0, hq0, hQQ⟩ : ∃ q0, divL yn1 yn0 un0 (un21 Y un32 un1 q1) = some q0 ∧ addw (mulw q1 two32) q0 = Q := by
    have := HQ.out
    unfold divK at this
    rw [hq1] at this
    simpa [Option.map_eq_some_iff] using this
  have HL := Lib.hid hq0
  subst hQQ
  clear hq0
  have H1 := Lib.hid hq1
  clear hq1 HQ h1 h2 h3 g0 g0' g1 g2
  go_loopg [15, 16] 4 (fun gk a b wr => ∃ k q r, gk = k ∧ Hid (fixq yn1 yn0 un1 k q r = some q1) ∧ a = .int .u64 (iw q) ∧ b = .int .u64 (iw r) ∧ w = wr)
  case atStart => exact ⟨4, _, _, rfl, H1, rfl, rfl, rfl⟩
  case round =>
    obtain ⟨k, q, r, hgk, HF, rfl, rfl, rfl⟩ := hrel
    have HG := Lib.hid hgk
    clear hgk
    cases k with
    | zero => have := HF.out; simp [fixq] at this
    | succ k =>
      have hF := HF.out
      unfold fixq at hF
      clear HF
      by_cases c : 4294967296 ≤ iw q ∨ iw (addw (mulw r two32) un1) < iw (mulw q yn0)
      · rw [if_pos c] at hF
        by_cases c2 : 4294967296 ≤ iw (addw r yn1)
        · rw [if_pos c2] at hF
          have e1 : subw q (litw 64 1) = q1 := by injection hF
          clear hF
          by_cases c1 : 4294967296 ≤ iw q
          · clear c
            clear H1
            go_wp2_with fail
            obtain ⟨U, hU⟩ : ∃ U, U = subw (addw (mulw un32 two32) un1) (mulw q1 Y) := ⟨_, rfl⟩
            have HL2 : Hid (fixq yn1 yn0 un0 4 (divw U yn1) (subw U (mulw (divw U yn1) yn1)) = some q0) := by rw [hU]; exact HL
            rw [← hU]
            clear hU HL
            obtain ⟨wo, rfl⟩ : ∃ wo : World, wo = w := ⟨_, rfl⟩
            go_loopg [16, 18] 4 (fun gk b a wr => ∃ k q r, gk = k ∧ Hid (fixq yn1 yn0 un0 k q r = some q0) ∧ a = .int .u64 (iw q) ∧ b = .int .u64 (iw r) ∧ wo = wr)
            case atStart => exact ⟨4, _, _, rfl, HL2, rfl, rfl, rfl⟩
            case round =>
              obtain ⟨k, q, r, hgk, HF, rfl, rfl, rfl⟩ := hrel
              have HG := Lib.hid hgk
              clear hgk
              cases k with
              | zero => have := HF.out; simp [fixq] at this
              | succ k =>
                have hF := HF.out
                unfold fixq at hF
                clear HF
                by_cases c : 4294967296 ≤ iw q ∨ iw (addw (mulw r two32) un0) < iw (mulw q yn0)
                · rw [if_pos c] at hF
                  by_cases c2 : 4294967296 ≤ iw (addw r yn1)
                  · rw [if_pos c2] at hF
                    have e1 : subw q (litw 64 1) = q0 := by injection hF
                    clear hF
                    by_cases c1 : 4294967296 ≤ iw q
                    · clear c
                      go_wp2_with fail
                      go_ret2
                      first | exact ⟨_, rfl, by trivial⟩ | exact ⟨_, by rw [← e1]; rfl, by trivial⟩ | exact ⟨⟨_, rfl⟩, by trivial⟩ | exact ⟨⟨_, by rw [← e1]; rfl⟩, by trivial⟩
                    · have c3 : iw (addw (mulw r two32) un0) < iw (mulw q yn0) := by rcases c with h | h; exact absurd h c1; exact h
                      clear c
                      go_wp2_with fail
                      go_ret2
                      first | exact ⟨_, rfl, by trivial⟩ | exact ⟨_, by rw [← e1]; rfl, by trivial⟩ | exact ⟨⟨_, rfl⟩, by trivial⟩ | exact ⟨⟨_, by rw [← e1]; rfl⟩, by trivial⟩
                  · rw [if_neg c2] at hF
                    have HF := Lib.hid hF
                    clear hF
                    by_cases c1 : 4294967296 ≤ iw q
                    · clear c
                      go_wp2_with fail
                      go_roundg k
                      case measure => have := HG.out; omega
                      case rel => exact ⟨k, _, _, rfl, HF, rfl, rfl, by trivial⟩
                    · have c3 : iw (addw (mulw r two32) un0) < iw (mulw q yn0) := by rcases c with h | h; exact absurd h c1; exact h
                      clear c
                      go_wp2_with fail
                      go_roundg k
                      case measure => have := HG.out; omega
                      case rel => exact ⟨k, _, _, rfl, HF, rfl, rfl, by trivial⟩
                · rw [if_neg c] at hF
                  have c1 : ¬ 4294967296 ≤ iw q := fun h => c (.inl h)
                  have c3 : ¬ iw (addw (mulw r two32) un0) < iw (mulw q yn0) := fun h => c (.inr h)
                  have e1 : q = q0 := by injection hF
                  clear hF c
                  subst e1
                  go_wp2_with fail
                  go_ret2
                  first | exact ⟨_, rfl, by trivial⟩ | exact ⟨_, by rw [← e1]; rfl, by trivial⟩ | exact ⟨⟨_, rfl⟩, by trivial⟩ | exact ⟨⟨_, by rw [← e1]; rfl⟩, by trivial⟩
          · have c3 : iw (addw (mulw r two32) un1) < iw (mulw q yn0) := by rcases c with h | h; exact absurd h c1; exact h
            clear c
            clear H1
            go_wp2_with fail
            obtain ⟨U, hU⟩ : ∃ U, U = subw (addw (mulw un32 two32) un1) (mulw q1 Y) := ⟨_, rfl⟩
            have HL2 : Hid (fixq yn1 yn0 un0 4 (divw U yn1) (subw U (mulw (divw U yn1) yn1)) = some q0) := by rw [hU]; exact HL
            rw [← hU]
            clear hU HL
            obtain ⟨wo, rfl⟩ : ∃ wo : World, wo = w := ⟨_, rfl⟩
            go_loopg [16, 18] 4 (fun gk b a wr => ∃ k q r, gk = k ∧ Hid (fixq yn1 yn0 un0 k q r = some q0) ∧ a = .int .u64 (iw q) ∧ b = .int .u64 (iw r) ∧ wo = wr)
            case atStart => exact ⟨4, _, _, rfl, HL2, rfl, rfl, rfl⟩
            case round =>
              obtain ⟨k, q, r, hgk, HF, rfl, rfl, rfl⟩ := hrel
              have HG := Lib.hid hgk
              clear hgk
              cases k with
              | zero => have := HF.out; simp [fixq] at this
              | succ k =>
                have hF := HF.out
                unfold fixq at hF
                clear HF
                by_cases c : 4294967296 ≤ iw q ∨ iw (addw (mulw r two32) un0) < iw (mulw q yn0)
                · rw [if_pos c] at hF
                  by_cases c2 : 4294967296 ≤ iw (addw r yn1)
                  · rw [if_pos c2] at hF
                    have e1 : subw q (litw 64 1) = q0 := by injection hF
                    clear hF
                    by_cases c1 : 4294967296 ≤ iw q
                    · clear c
                      go_wp2_with fail
                      go_ret2
                      first | exact ⟨_, rfl, by trivial⟩ | exact ⟨_, by rw [← e1]; rfl, by trivial⟩ | exact ⟨⟨_, rfl⟩, by trivial⟩ | exact ⟨⟨_, by rw [← e1]; rfl⟩, by trivial⟩
                    · have c3 : iw (addw (mulw r two32) un0) < iw (mulw q yn0) := by rcases c with h | h; exact absurd h c1; exact h
                      clear c
                      go_wp2_with fail
                      go_ret2
                      first | exact ⟨_, rfl, by trivial⟩ | exact ⟨_, by rw [← e1]; rfl, by trivial⟩ | exact ⟨⟨_, rfl⟩, by trivial⟩ | exact ⟨⟨_, by rw [← e1]; rfl⟩, by trivial⟩
                  · rw [if_neg c2] at hF
                    have HF := Lib.hid hF
                    clear hF
                    by_cases c1 : 4294967296 ≤ iw q
                    · clear c
                      go_wp2_with fail
                      go_roundg k
                      case measure => have := HG.out; omega
                      case rel => exact ⟨k, _, _, rfl, HF, rfl, rfl, by trivial⟩
                    · have c3 : iw (addw (mulw r two32) un0) < iw (mulw q yn0) := by rcases c with h | h; exact absurd h c1; exact h
                      clear c
                      go_wp2_with fail
                      go_roundg k
                      case measure => have := HG.out; omega
                      case rel => exact ⟨k, _, _, rfl, HF, rfl, rfl, by trivial⟩
                · rw [if_neg c] at hF
                  have c1 : ¬ 4294967296 ≤ iw q := fun h => c (.inl h)
                  have c3 : ¬ iw (addw (mulw r two32) un0) < iw (mulw q yn0) := fun h => c (.inr h)
                  have e1 : q = q0 := by injection hF
                  clear hF c
                  subst e1
                  go_wp2_with fail
                  go_ret2
                  first | exact ⟨_, rfl, by trivial⟩ | exact ⟨_, by rw [← e1]; rfl, by trivial⟩ | exact ⟨⟨_, rfl⟩, by trivial⟩ | exact ⟨⟨_, by rw [← e1]; rfl⟩, by trivial⟩
        · rw [if_neg c2] at hF
          have HF := Lib.hid hF
          clear hF
          by_cases c1 : 4294967296 ≤ iw q
          · clear c
            go_wp2_with fail
            go_roundg k
            case measure => have := HG.out; omega
            case rel => exact ⟨k, _, _, rfl, HF, rfl, rfl, by trivial⟩
          · have c3 : iw (addw (mulw r two32) un1) < iw (mulw q yn0) := by rcases c with h | h; exact absurd h c1; exact h
            clear c
            go_wp2_with fail
            go_roundg k
            case measure => have := HG.out; omega
            case rel => exact ⟨k, _, _, rfl, HF, rfl, rfl, by trivial⟩
      · rw [if_neg c] at hF
        have c1 : ¬ 4294967296 ≤ iw q := fun h => c (.inl h)
        have c3 : ¬ iw (addw (mulw r two32) un1) < iw (mulw q yn0) := fun h => c (.inr h)
        have e1 : q = q1 := by injection hF
        clear hF c
        subst e1
        clear H1
        go_wp2_with fail
        obtain ⟨U, hU⟩ : ∃ U, U = subw (addw (mulw un32 two32) un1) (mulw q Y) := ⟨_, rfl⟩
        have HL2 : Hid (fixq yn1 yn0 un0 4 (divw U yn1) (subw U (mulw (divw U yn1) yn1)) = some q0) := by rw [hU]; exact HL
        rw [← hU]
        clear hU HL
        obtain ⟨wo, rfl⟩ : ∃ wo : World, wo = w := ⟨_, rfl⟩
        go_loopg [16, 18] 4 (fun gk b a wr => ∃ k q r, gk = k ∧ Hid (fixq yn1 yn0 un0 k q r = some q0) ∧ a = .int .u64 (iw q) ∧ b = .int .u64 (iw r) ∧ wo = wr)
        case atStart => exact ⟨4, _, _, rfl, HL2, rfl, rfl, rfl⟩
        case round =>
          obtain ⟨k, q, r, hgk, HF, rfl, rfl, rfl⟩ := hrel
          have HG := Lib.hid hgk
          clear hgk
          cases k with
          | zero => have := HF.out; simp [fixq] at this
          | succ k =>
            have hF := HF.out
            unfold fixq at hF
            clear HF
            by_cases c : 4294967296 ≤ iw q ∨ iw (addw (mulw r two32) un0) < iw (mulw q yn0)
            · rw [if_pos c] at hF
              by_cases c2 : 4294967296 ≤ iw (addw r yn1)
              · rw [if_pos c2] at hF
                have e1 : subw q (litw 64 1) = q0 := by injection hF
                clear hF
                by_cases c1 : 4294967296 ≤ iw q
                · clear c
                  go_wp2_with fail
                  go_ret2
                  first | exact ⟨_, rfl, by trivial⟩ | exact ⟨_, by rw [← e1]; rfl, by trivial⟩ | exact ⟨⟨_, rfl⟩, by trivial⟩ | exact ⟨⟨_, by rw [← e1]; rfl⟩, by trivial⟩
                · have c3 : iw (addw (mulw r two32) un0) < iw (mulw q yn0) := by rcases c with h | h; exact absurd h c1; exact h
                  clear c
                  go_wp2_with fail
                  go_ret2
                  first | exact ⟨_, rfl, by trivial⟩ | exact ⟨_, by rw [← e1]; rfl, by trivial⟩ | exact ⟨⟨_, rfl⟩, by trivial⟩ | exact ⟨⟨_, by rw [← e1]; rfl⟩, by trivial⟩
              · rw [if_neg c2] at hF
                have HF := Lib.hid hF
                clear hF
                by_cases c1 : 4294967296 ≤ iw q
                · clear c
                  go_wp2_with fail
                  go_roundg k
                  case measure => have := HG.out; omega
                  case rel => exact ⟨k, _, _, rfl, HF, rfl, rfl, by trivial⟩
                · have c3 : iw (addw (mulw r two32) un0) < iw (mulw q yn0) := by rcases c with h | h; exact absurd h c1; exact h
                  clear c
                  go_wp2_with fail
                  go_roundg k
                  case measure => have := HG.out; omega
                  case rel => exact ⟨k, _, _, rfl, HF, rfl, rfl, by trivial⟩
            · rw [if_neg c] at hF
              have c1 : ¬ 4294967296 ≤ iw q := fun h => c (.inl h)
              have c3 : ¬ iw (addw (mulw r two32) un0) < iw (mulw q yn0) := fun h => c (.inr h)
              have e1 : q = q0 := by injection hF
              clear hF c
              subst e1
              go_wp2_with fail
              go_ret2
              first | exact ⟨_, rfl, by trivial⟩ | exact ⟨_, by rw [← e1]; rfl, by trivial⟩ | exact ⟨⟨_, rfl⟩, by trivial⟩ | exact ⟨⟨_, by rw [← e1]; rfl⟩, by trivial⟩
set_option maxRecDepth 100000 in
set_option maxHeartbeats 1000000 in
theorem div64_zero (hi lo y : BitVec 64) (w : World) (g1 : iw hi < iw y) (g2 : iw hi = 0) :
    Calls Tryz.prog 142 #[.int .u64 (iw hi), .int .u64 (iw lo), .int .u64 (iw y)] w fun e w' => ∃ r, e = .returned (.tuple #[.int .u64 (iw (divw lo y)), r]) ∧ ∃ m, w' = w.drewN m := by
  have hdv : ∀ a b : BitVec 64, IntKind.u64.wrap ((iw a).tdiv (iw b)) = iw (divw a b) := fun a b => by
    rw [Int.tdiv_eq_ediv_of_nonneg (by unfold iw; omega), iw_div, IntKind.wrap_u64]
    have := (divw a b).isLt
    unfold iw
    omega
  have g0 : iw y ≠ 0 := by omega
  have g0' : ¬ iw y ≤ iw hi := by omega
  have g0'' : ¬ iw y ≤ 0 := by omega
  go_enter Tryz.func142, Tryz.ntmps142
  go_wp2_with fail
  go_quiet (fail)
  go_wp2_with fail
  go_ret2
  exact ⟨_, rfl, nq, rfl⟩
theorem div64_any (hi lo y Q : BitVec 64) (w : World) (h : div64 hi lo y = some Q) :
    Calls Tryz.prog 142 #[.int .u64 (iw hi), .int .u64 (iw lo), .int .u64 (iw y)] w fun e w' => ∃ r, e = .returned (.tuple #[.int .u64 (iw Q), r]) ∧ ∃ m, w' = w.drewN m := by
  unfold div64 at h
  split at h
  · rename_i c0
    split at h
    · rename_i c
      have : divw lo y = Q := by injection h
      subst this
      exact div64_zero hi lo y w c c0
    · cases h
  · split at h
    · rename_i c
      exact (div64_go hi lo y Q w c.1 c.2.1 c.2.2.1 c.2.2.2.1 c.2.2.2.2.1 c.2.2.2.2.2 (Lib.hid h)).mono fun e w' ⟨r, he, hw⟩ => ⟨r, he, 0, by rw [← hw]; rfl⟩
    · cases h
end Go.Proofs.YtggalphgnloneaaGreat.L2
/- wholeRoot, fall, rootPart. -/
namespace Go.Proofs.YtggalphgnloneaaGreat.L2
open Go.RowKit
def pw (x : BitVec 64) : Nat → BitVec 64
  | 0 => x
  | k + 1 => mulw (pw x k) x
/-- The first number whose power is above p, less one; m factors beside the first. -/
def wholeK (p : BitVec 64) (m : Nat) : Nat → BitVec 64 → Option (BitVec 64)
  | 0, _ => none
  | k + 1, x => if iw p < iw (pw x m) then some (subw x (litw 64 1)) else wholeK p m k (addw x (litw 64 1))
theorem lit2 : Value.int .u64 2 = .int .u64 (iw (litw 64 2)) := by kernel_rfl
set_option maxRecDepth 100000 in
set_option maxHeartbeats 1000000 in
theorem whole_any (p : BitVec 64) (m k : Nat) (A : BitVec 64) (w : World) (hm : m ≤ 100) (h : wholeK p m k (litw 64 2) = some A) :
    Calls Tryz.prog 138 #[.int .u64 (iw p), .int .i64 ((m : Int) + 1)] w fun e w' => e = .returned (.int .u64 (iw A)) ∧ w = w' := by
  have hs1 : ∀ x : BitVec 64, IntKind.u64.wrap (iw x - 1) = iw (subw x (litw 64 1)) := fun x => wrap64_sub_lit x 1
  have hp1 : ∀ x : BitVec 64, IntKind.u64.wrap (iw x + 1) = iw (addw x (litw 64 1)) := fun x => wrap64_add_lit x 1
  have H := Lib.hid h
  clear h
  go_enter Tryz.func138, Tryz.ntmps138
  go_wp2_with fail
  go_loopg [5] k (fun gk v wr => ∃ j x, gk = j ∧ Hid (wholeK p m j x = some A) ∧ v = .int .u64 (iw x) ∧ w = wr)
  case atStart => exact ⟨k, _, rfl, H, lit2, rfl⟩
  case round =>
    obtain ⟨j, x, hgk, HF, rfl, rfl⟩ := hrel
    have HG := Lib.hid hgk
    clear hgk H
    cases j with
    | zero => have := HF.out; simp [wholeK] at this
    | succ j =>
      have hF := HF.out
      unfold wholeK at hF
      clear HF
      go_wp2_with fail
      obtain ⟨wo, rfl⟩ : ∃ wo : World, wo = w := ⟨_, rfl⟩
      go_loopw [6, 12] (fun v i wr => ∃ t : Nat, t ≤ m ∧ i = .int .i64 t ∧ v = .int .u64 (iw (pw x t)) ∧ wo = wr) (fun _ i _ => m - (intOf i).toNat)
      case atStart => exact ⟨0, by omega, rfl, rfl, rfl⟩
      case round =>
        obtain ⟨t, ht, rfl, rfl, rfl⟩ := hrel
        by_cases hlt : t < m
        · go_wp2_with fail
          go_roundw
          case rel => exact ⟨t + 1, by omega, by go_num, rfl, by trivial⟩
          case measure => simp [intOf]; omega
        · obtain rfl : t = m := by omega
          by_cases c : iw p < iw (pw x t)
          · rw [if_pos c] at hF
            have e1 : subw x (litw 64 1) = A := by injection hF
            clear hF
            go_wp2_with fail
            go_ret
            exact ⟨rfl, by trivial⟩
          · rw [if_neg c] at hF
            have HF := Lib.hid hF
            clear hF
            go_wp2_with fail
            go_roundg j
            case measure => have := HG.out; omega
            case rel => exact ⟨j, _, rfl, HF, rfl, by trivial⟩
def lowerS (x : Fx) : Nat → Fx
  | 0 => x
  | k + 1 => timesS (lowerS x k) x
def slopeS (d : Nat) (l : Fx) : BitVec 64 := mulw (BitVec.ofNat 64 d) (addw (orw (shlw l.a 56) (shrw l.b 8)) (litw 64 1))
def fallT (p : BitVec 64) (d : Nat) (l power : Fx) : Option (BitVec 64 × Bool) :=
  if iw power.a < iw p then some (litw 64 0, false)
  else (div64 (orw (shlw (subw power.a p) 56) (shrw power.b 8)) (shlw power.b 56) (slopeS d l)).map fun Q => (Q, true)
/-- How far, and whether, one falls from x; j + 2 the degree. -/
def fallS (p : BitVec 64) (x : Fx) (j : Nat) : Option (BitVec 64 × Bool) := fallT p (j + 2) (lowerS x j) (timesS (lowerS x j) x)
structure FW (x L : Fx) (w wr : World) : Prop where
  x : Blk wr w.heap.size 142 (fxv x)
  l : Blk wr (w.heap.size + 1) 142 (fxv L)
  b : Below w.heap.size w wr
theorem FW.below {x L : Fx} {w wr w' : World} (h : FW x L w wr) (hb : Below wr.heap.size wr w') : FW x L w w' :=
  ⟨h.x.below hb h.x.lt, h.l.below hb h.l.lt, h.b.trans (hb.mono h.b.size)⟩
theorem FW.put {x L L' : Fx} {w wr : World} (h : FW x L w wr) : FW x L' w (wr.setRow (w.heap.size + 1) (fxv L')) :=
  ⟨h.x.row_far (by omega) _, h.l.row_ _, below_setRow' h.b (by omega) _⟩
set_option maxRecDepth 100000 in
set_option maxHeartbeats 1000000 in
theorem fall_any (p : BitVec 64) (x : Fx) (j : Nat) (R : BitVec 64 × Bool) (w : World) (hj : j ≤ 100) (h : fallS p x j = some R) :
    Calls Tryz.prog 139 #[.int .u64 (iw p), .agg (fxv x), .int .i64 ((j : Int) + 2)] w fun e w' => e = .returned (.tuple #[.int .u64 (iw R.1), .bool R.2]) ∧ Below w.heap.size w w' := by
  have hsz : (Tryz.prog.info? 142).map (·.size) = some 3 := by kernel_rfl
  have hX : IntKind.u64.wrap ((j : Int) + 2) = iw (BitVec.ofNat 64 (j + 2)) := by
    rw [show (j : Int) + 2 = ((j + 2 : Nat) : Int) by omega]; exact wrap_of_nat64 _
  have hp1 : ∀ x : BitVec 64, IntKind.u64.wrap (iw x + 1) = iw (addw x (litw 64 1)) := fun x => wrap64_add_lit x 1
  have H := Lib.hid h
  clear h
  go_enter Tryz.func139, Tryz.ntmps139
  go_wp2_with (first
    | (refine wpList_load_row rfl 142 _ rfl w.heap.size rfl 142 _ (0, 0) _ (Blk.new w _ (fxv x)) Tryz.underlying142 rfl hsz ?_)
    | (refine wpList_store_row rfl 142 _ _ rfl (w.heap.size + 1) (fxv x) rfl rfl 142 #[.int .u64 0, .int .u64 0, .int .u64 0] ((Blk.new _ _ _).cast' ⟨by simp, rfl⟩) hsz rfl (fx_one _) ?_; refine wpList_gen (FW x x w) ⟨((Blk.new w _ _).alloc _).row_far (by omega) _, ((Blk.new _ _ _).cast' ⟨by simp, rfl⟩ : Blk _ (w.heap.size + 1) 142 #[.int .u64 0, .int .u64 0, .int .u64 0]).row_ _, below_setRow' (((Below.refl _ _).alloc (Nat.le_refl _) _).alloc (by simp) _) (by omega) _⟩ (fun w1 h1 => ?_)))
  go_loopw [15] (fun i wr => ∃ t : Nat, t ≤ j ∧ i = .int .i64 t ∧ FW x (lowerS x t) w wr) (fun i _ => j - (intOf i).toNat)
  case atStart => exact ⟨0, by omega, rfl, h1⟩
  case round =>
    obtain ⟨t, ht, rfl, hr⟩ := hrel
    clear h1
    by_cases hlt : t < j
    · obtain ⟨L, hL⟩ : ∃ L, L = lowerS x t := ⟨_, rfl⟩
      have HL : Hid (lowerS x (t + 1) = timesS L x) := by rw [hL]; exact Lib.hid rfl
      rw [← hL] at hr
      clear hL
      go_wp2_with (first
        | (refine wpList_load_row rfl 142 _ rfl w.heap.size rfl 142 _ (0, 0) _ hr.x Tryz.underlying142 rfl hsz ?_)
        | (refine wpList_load_row rfl 142 _ rfl (w.heap.size + 1) rfl 142 _ (0, 0) _ hr.l Tryz.underlying142 rfl hsz ?_))
      refine (times_any L x wr).mono ?_
      rintro e w2 ⟨rfl, b2⟩
      have h2 := hr.below b2
      clear hr b2
      generalize timesS L x = L2 at HL ⊢
      go_wp2_with (refine wpList_store_row rfl 142 _ _ rfl (w.heap.size + 1) (fxv L2) rfl rfl 142 _ h2.l hsz rfl (fx_one _) ?_)
      go_roundw
      case rel => exact ⟨t + 1, by omega, by go_num, by rw [HL.out]; exact h2.put⟩
      case measure => simp [intOf]; omega
    · obtain rfl : t = j := by omega
      have hT : fallT p (t + 2) (lowerS x t) (timesS (lowerS x t) x) = some R := H.out
      obtain ⟨L, hL⟩ : ∃ L, L = lowerS x t := ⟨_, rfl⟩
      rw [← hL] at hr hT
      clear hL H
      go_wp2_with (first
        | (refine wpList_load_row rfl 142 _ rfl w.heap.size rfl 142 _ (0, 0) _ hr.x Tryz.underlying142 rfl hsz ?_)
        | (refine wpList_load_row rfl 142 _ rfl (w.heap.size + 1) rfl 142 _ (0, 0) _ hr.l Tryz.underlying142 rfl hsz ?_))
      refine (times_any L x wr).mono ?_
      rintro e w2 ⟨rfl, b2⟩
      have h2 := hr.below b2
      clear hr b2
      generalize timesS L x = Y at hT ⊢
      have hl2 := h2.l.lt
      unfold fallT at hT
      by_cases c : iw Y.a < iw p
      · rw [if_pos c] at hT
        have HT := Lib.hid hT
        clear hT
        go_wp2_with (refine wpList_store_row rfl 142 _ _ rfl w2.heap.size (fxv Y) rfl rfl 142 #[.int .u64 0, .int .u64 0, .int .u64 0] (Blk.new w2 _ _) hsz rfl (fx_one _) ?_; refine wpList_gen (fun wx => FW x L w wx ∧ Blk wx w2.heap.size 142 (fxv Y)) ⟨⟨(h2.x.alloc _).row_far (by omega) _, (h2.l.alloc _).row_far (by omega) _, below_setRow' (h2.b.alloc h2.b.size _) h2.b.size _⟩, (Blk.new w2 _ _).row_ _⟩ (fun w3 h3 => ?_); obtain ⟨h3, k3⟩ := h3; have y0 : w3.cell? ⟨w2.heap.size, 0, none⟩ = some (.int .u64 (iw Y.a)) := k3.cell 0; have y1 : w3.cell? ⟨w2.heap.size, 1, none⟩ = some (.int .u64 (iw Y.b)) := k3.cell 1; have l0 : w3.cell? ⟨w.heap.size + 1, 0, none⟩ = some (.int .u64 (iw L.a)) := h3.l.cell 0; have l1 : w3.cell? ⟨w.heap.size + 1, 1, none⟩ = some (.int .u64 (iw L.b)) := h3.l.cell 1)
        have := HT.out
        injection this with hR
        go_ret2
        exact ⟨by rw [← hR, lit0]; rfl, h3.b⟩
      · rw [if_neg c] at hT
        obtain ⟨Q, hQ, hR⟩ : ∃ Q, div64 (orw (shlw (subw Y.a p) 56) (shrw Y.b 8)) (shlw Y.b 56) (slopeS (t + 2) L) = some Q ∧ (Q, true) = R := by
          simpa [Option.map_eq_some_iff] using hT
        have HQ := Lib.hid hQ
        subst hR
        clear hT hQ
        go_wp2_with (refine wpList_store_row rfl 142 _ _ rfl w2.heap.size (fxv Y) rfl rfl 142 #[.int .u64 0, .int .u64 0, .int .u64 0] (Blk.new w2 _ _) hsz rfl (fx_one _) ?_; refine wpList_gen (fun wx => FW x L w wx ∧ Blk wx w2.heap.size 142 (fxv Y)) ⟨⟨(h2.x.alloc _).row_far (by omega) _, (h2.l.alloc _).row_far (by omega) _, below_setRow' (h2.b.alloc h2.b.size _) h2.b.size _⟩, (Blk.new w2 _ _).row_ _⟩ (fun w3 h3 => ?_); obtain ⟨h3, k3⟩ := h3; have y0 : w3.cell? ⟨w2.heap.size, 0, none⟩ = some (.int .u64 (iw Y.a)) := k3.cell 0; have y1 : w3.cell? ⟨w2.heap.size, 1, none⟩ = some (.int .u64 (iw Y.b)) := k3.cell 1; have l0 : w3.cell? ⟨w.heap.size + 1, 0, none⟩ = some (.int .u64 (iw L.a)) := h3.l.cell 0; have l1 : w3.cell? ⟨w.heap.size + 1, 1, none⟩ = some (.int .u64 (iw L.b)) := h3.l.cell 1)
        refine (div64_any _ _ _ Q w3 HQ.out).mono ?_
        rintro e w4 ⟨r4, rfl, m4, rfl⟩
        go_wp2_with fail
        go_ret2
        exact ⟨rfl, below_draws h3.b _⟩
end Go.Proofs.YtggalphgnloneaaGreat.L2
/- rootPart. -/
namespace Go.Proofs.YtggalphgnloneaaGreat.L2
open Go.RowKit
def fx (a b : BitVec 64) : Fx := ⟨a, b, litw 64 0⟩
/-- The falling: a what is ahead of the point, j + 2 the degree, b what is behind the point. -/
def rootK (p a : BitVec 64) (j : Nat) : Nat → BitVec 64 → Option (BitVec 64)
  | 0, _ => none
  | k + 1, b =>
    match fallS p (fx a b) j with
    | none => none
    | some (_, false) => some b
    | some (len, true) => if iw len = 0 then rootK p a j k (subw b (litw 64 1)) else rootK p a j k (subw b len)
def ones : BitVec 64 := litw 64 18446744073709551615
def rootS (p : BitVec 64) (j : Nat) : Option (BitVec 64) :=
  match wholeK p (j + 1) 600 (litw 64 2) with
  | none => none
  | some a => rootK p a j 600 ones
theorem built_root (a : BitVec 64) : Tryz.prog.built 142 [(0, .int .u64 (iw a)), (1, .int .u64 18446744073709551615)] = some (fxv (fx a ones)) := by kernel_rfl
structure RW (a b : BitVec 64) (w wr : World) : Prop where
  x : Blk wr w.heap.size 142 (fxv (fx a b))
  b : Below w.heap.size w wr
theorem RW.put {a b : BitVec 64} {w wr : World} (h : RW a b w wr) (c : BitVec 64) : RW a c w (wr.setCell ⟨w.heap.size, 1, none⟩ (.int .u64 (iw c))) :=
  ⟨(Blk.set_ h.x 1 _).cast_ rfl, h.b.setCell (by simp) _⟩
set_option maxRecDepth 100000 in
set_option maxHeartbeats 1000000 in
theorem root_any (p : BitVec 64) (j : Nat) (R : BitVec 64) (w : World) (hj : j ≤ 50) (h : rootS p j = some R) :
    Calls Tryz.prog 132 #[.int .u64 (iw p), .int .i64 ((j : Int) + 2)] w fun e w' => e = .returned (.int .u64 (iw R)) ∧ Below w.heap.size w w' := by
  have hsz : (Tryz.prog.info? 142).map (·.size) = some 3 := by kernel_rfl
  obtain ⟨a, ha, hR⟩ : ∃ a, wholeK p (j + 1) 600 (litw 64 2) = some a ∧ rootK p a j 600 ones = some R := by
    unfold rootS at h
    split at h
    · cases h
    · exact ⟨_, by assumption, h⟩
  have H := Lib.hid hR
  have HA := Lib.hid ha
  clear h ha hR
  have hj2 : (j : Int) + 2 = ((j + 1 : Nat) : Int) + 1 := by omega
  have hw := whole_any p (j + 1) 600 a w (show j + 1 ≤ 100 by omega) HA.out
  rw [← hj2] at hw
  have hbu : ∀ w : World, (Instr.build 142 #[(0, Value.int .u64 (iw a)), (1, Value.int .u64 18446744073709551615)]).run Tryz.prog w = .ok (.agg (fxv (fx a ones))) w := fun w => run_build w _ _ _ (built_root a)
  clear HA hj2
  go_enter Tryz.func132, Tryz.ntmps132
  go_wp2_with fail
  go_step3
  go_wp2_with (first
    | (go_at_call 138; refine hw.mono ?_; rintro e w' ⟨rfl, rfl⟩; clear hw)
    | (refine wpList_store_row rfl 142 _ _ rfl w.heap.size (fxv (fx a ones)) rfl (by kernel_rfl) 142 #[.int .u64 0, .int .u64 0, .int .u64 0] (Blk.new w _ _) hsz rfl (fx_one _) ?_; refine wpList_gen (RW a ones w) ⟨(Blk.new w _ _).row_ _, below_setRow' ((Below.refl _ _).alloc (Nat.le_refl _) _) (by omega) _⟩ (fun w1 h1 => ?_))
    | fail)
  clear hbu
  go_step3
  refine any_gen (F := fun w => Exit.then _ _ _ _ w) (RW a ones w) h1 (fun w1 h1 => ?_)
  go_wp2_with fail
  simp only [Act.put]
  go_loopg [] 600 (fun gk wr => ∃ k b, gk = k ∧ Hid (rootK p a j k b = some R) ∧ RW a b w wr)
  case atStart => exact ⟨600, _, rfl, H, h1⟩
  case round =>
    obtain ⟨k, b, hgk, HF, hr⟩ := hrel
    have HG := Lib.hid hgk
    clear hgk H h1
    cases k with
    | zero => have := HF.out; simp [rootK] at this
    | succ k =>
      have hF := HF.out
      unfold rootK at hF
      clear HF
      cases hf : fallS p (fx a b) j with
      | none => rw [hf] at hF; cases hF
      | some LR =>
        rw [hf] at hF
        obtain ⟨len, ab⟩ := LR
        have HW := Lib.hid hf
        clear hf
        go_wp2_with (refine wpList_load_row rfl 142 _ rfl w.heap.size rfl 142 _ (0, 0) _ hr.x Tryz.underlying142 rfl hsz ?_)
        refine (fall_any p (fx a b) j (len, ab) wr (by omega) HW.out).mono ?_
        rintro e w2 ⟨rfl, b2⟩
        have h2 : RW a b w w2 := ⟨hr.x.below b2 hr.x.lt, hr.b.trans (b2.mono hr.b.size)⟩
        clear hr b2
        have c1 : w2.cell? ⟨w.heap.size, 1, none⟩ = some (.int .u64 (iw b)) := h2.x.cell 1
        have f1 := h2.x.frozen 1
        cases ab with
        | false =>
          have hbR : b = R := by simpa using hF
          subst hbR
          go_wp2_with fail
          try rw [Exit.noGoto_ret]
          go_ret
          exact ⟨rfl, h2.b⟩
        | true =>
          simp only at hF
          by_cases c : iw len = 0
          · rw [if_pos c] at hF
            have HF := Lib.hid hF
            have hs1 : ∀ x : BitVec 64, IntKind.u64.wrap (iw x - 1) = iw (subw x (litw 64 1)) := fun x => wrap64_sub_lit x 1
            have K := h2.put (subw b (litw 64 1))
            clear hF h2
            go_wp2_with fail
            go_roundg k
            case measure => have := HG.out; omega
            case rel => exact ⟨k, _, rfl, HF, K⟩
          · rw [if_neg c] at hF
            have HF := Lib.hid hF
            have K := h2.put (subw b len)
            clear hF h2
            go_wp2_with fail
            go_roundg k
            case measure => have := HG.out; omega
            case rel => exact ⟨k, _, rfl, HF, K⟩
end Go.Proofs.YtggalphgnloneaaGreat.L2
/- The first 80 primes. -/
namespace Go.Proofs.YtggalphgnloneaaGreat.L2
open Go.RowKit
def primesL : List Nat := [2, 3, 5, 7, 11, 13, 17, 19, 23, 29, 31, 37, 41, 43, 47, 53, 59, 61, 67, 71, 73, 79, 83, 89, 97, 101, 103, 107, 109, 113, 127, 131, 137, 139, 149, 151, 157, 163, 167, 173, 179, 181, 191, 193, 197, 199, 211, 223, 227, 229, 233, 239, 241, 251, 257, 263, 269, 271, 277, 281, 283, 293, 307, 311, 313, 317, 331, 337, 347, 349, 353, 359, 367, 373, 379, 383, 389, 397, 401, 409]
def pr (i : Nat) : Nat := primesL.getD i 0
def cnt (n : Nat) : Nat := (primesL.takeWhile (· < n)).length
/-- Is i struck out, when all numbers below n were looked at? -/
def dv (n i : Nat) : Bool := primesL.any fun d => decide (d < n) && (decide (d * d ≤ i) && decide (i % d = 0))
def okP (n : Nat) : Bool :=
  if dv n n then cnt (n + 1) == cnt n && !primesL.contains n else pr (cnt n) == n && decide (cnt n < 80) && cnt (n + 1) == cnt n + 1 && primesL.contains n
theorem ok_all : ∀ n, n < 410 → 2 ≤ n → okP n = true := by decide +kernel
theorem cnt_all : cnt 410 = 80 := by decide +kernel
theorem pr_pos : ∀ i, i < 80 → 2 ≤ pr i ∧ pr i ≤ 409 := by decide +kernel
theorem ok_true {n : Nat} (h : n < 410) (h2 : 2 ≤ n) (e : dv n n = true) : cnt (n + 1) = cnt n ∧ n ∉ primesL := by
  have := ok_all n h h2
  simp only [okP, e, if_true, Bool.and_eq_true, beq_iff_eq, Bool.not_eq_true', List.contains_eq_mem, decide_eq_false_iff_not] at this
  exact this
theorem ok_false {n : Nat} (h : n < 410) (h2 : 2 ≤ n) (e : dv n n = false) : pr (cnt n) = n ∧ cnt n < 80 ∧ cnt (n + 1) = cnt n + 1 ∧ n ∈ primesL := by
  have := ok_all n h h2
  simp only [okP, e, Bool.false_eq_true, if_false, Bool.and_eq_true, beq_iff_eq, decide_eq_true_eq, List.contains_eq_mem] at this
  exact ⟨this.1.1.1, this.1.1.2, this.1.2, this.2⟩
theorem dv_iff (n i : Nat) : dv n i = true ↔ ∃ d ∈ primesL, d < n ∧ d * d ≤ i ∧ i % d = 0 := by
  simp [dv, List.any_eq_true]
theorem dv_skip {n : Nat} (h : n ∉ primesL) (i : Nat) : dv (n + 1) i = dv n i := by
  rw [Bool.eq_iff_iff, dv_iff, dv_iff]
  constructor
  · rintro ⟨d, hd, h1, h2⟩
    exact ⟨d, hd, by have : d ≠ n := fun e => h (e ▸ hd); omega, h2⟩
  · rintro ⟨d, hd, h1, h2⟩
    exact ⟨d, hd, by omega, h2⟩
/-- Struck out by n too, up to m. -/
def dm (n m i : Nat) : Bool := dv n i || (decide (n * n ≤ i) && (decide (i < m) && decide (i % n = 0)))
theorem dv_take {n m i : Nat} (h : n ∈ primesL) (hm : i < m) : dv (n + 1) i = dm n m i := by
  rw [Bool.eq_iff_iff, dv_iff]
  unfold dm
  rw [Bool.or_eq_true, dv_iff]
  simp only [Bool.and_eq_true, decide_eq_true_eq]
  constructor
  · rintro ⟨d, hd, h1, h2, h3⟩
    by_cases e : d = n
    · subst e; exact .inr ⟨h2, hm, h3⟩
    · exact .inl ⟨d, hd, by omega, h2, h3⟩
  · rintro (⟨d, hd, h1, h2⟩ | ⟨h1, _, h3⟩)
    · exact ⟨d, hd, by omega, h2⟩
    · exact ⟨n, h, by omega, h1, h3⟩
theorem dm_zero (n i : Nat) : dm n (n * n) i = dv n i := by
  unfold dm
  by_cases h : n * n ≤ i
  · simp [h, show ¬ i < n * n by omega]
  · simp [h]
theorem dm_next {n m i : Nat} (hn : 0 < n) (h1 : n * n ≤ m) (h2 : m % n = 0) : dm n (m + n) i = if i = m then true else dm n m i := by
  by_cases e : i = m
  · subst e; simp [dm, h1, h2]; omega
  · rw [if_neg e]
    unfold dm
    congr 2
    by_cases hi : i < m
    · simp [hi, show i < m + n by omega]
    · by_cases hi2 : i < m + n
      · have : i % n ≠ 0 := by
          intro h3
          obtain ⟨a, ha⟩ := Nat.dvd_of_mod_eq_zero h2
          obtain ⟨b, hb⟩ := Nat.dvd_of_mod_eq_zero h3
          subst ha hb
          have h4 : a < b := Nat.lt_of_mul_lt_mul_left (a := n) (by omega)
          have h5 : b < a + 1 := Nat.lt_of_mul_lt_mul_left (a := n) (by rw [Nat.mul_add]; omega)
          omega
        simp [this]
      · simp [hi, hi2]
def foundF (c i : Nat) : Value := .int .u64 ((if i < c then pr i else 0 : Nat) : Int)
structure PW (w : World) (c : Nat) (f : Nat → Bool) (wr : World) : Prop where
  r : Blk wr w.heap.size 115 (row 80 (foundF c))
  d : Blk wr (w.heap.size + 1) 140 (row 410 fun i => Value.bool (f i))
  b : Below w.heap.size w wr
section
variable {w wr : World} {c : Nat} {f f' : Nat → Bool}
theorem PW.put (h : PW w c f wr) (hc : c < 80) {N : Nat} (e : pr c = N) : PW w (c + 1) f (wr.setCell ⟨w.heap.size, c, none⟩ (.int .u64 (N : Int))) := by
  subst e
  refine ⟨(h.r.put hc _).cast_ (row_ext fun i _ => ?_), h.d.far (by simp) _, h.b.setCell (by simp) _⟩
  by_cases h1 : i = c
  · subst h1; simp [foundF]
  · by_cases h2 : i < c
    · simp [foundF, h1, h2, Nat.lt_succ_of_lt h2]
    · simp [foundF, h1, h2, show ¬ i < c + 1 by omega]
theorem PW.strike (h : PW w c f wr) {m : Nat} (hm : m < 410) (e : ∀ i, f' i = if i = m then true else f i) : PW w c f' (wr.setCell ⟨w.heap.size + 1, m, none⟩ (.bool true)) := by
  refine ⟨h.r.far (by simp) _, (h.d.put hm _).cast_ (row_ext fun i _ => ?_), h.b.setCell (by simp) _⟩
  rw [e i]
  by_cases h1 : i = m <;> simp [h1]
theorem PW.congr (h : PW w c f wr) (e : ∀ i, i < 410 → f i = f' i) : PW w c f' wr := ⟨h.r, h.d.cast_ (row_ext fun i hi => by rw [e i hi]), h.b⟩
theorem PW.whole (h : PW w 80 f wr) : Blk wr w.heap.size 115 (r64 80 fun i => litw 64 (pr i)) :=
  h.r.cast_ (row_ext fun i hi => by
    have hp := pr_pos i hi
    have e : iw (litw 64 (pr i)) = (pr i : Int) := by rw [iw_lit]; omega
    simp [foundF, hi, e])
end
theorem zeroFound (w : World) : (zeroValue 115).run Tryz.prog w = .ok (.agg (row 80 (foundF 0))) w := by kernel_rfl
theorem zeroDiv0 (w : World) : (zeroValue 140).run Tryz.prog w = .ok (.agg (row 410 fun _ => Value.bool false)) w := by kernel_rfl
theorem zeroDiv (w : World) : (zeroValue 140).run Tryz.prog w = .ok (.agg (row 410 fun i => Value.bool (dv 2 i))) w := by
  have : (row 410 fun i => Value.bool (dv 2 i)) = row 410 fun _ => Value.bool false := row_ext fun i _ => by
    have : dv 2 i = false := by
      rw [Bool.eq_false_iff, Ne, dv_iff]
      rintro ⟨d, hd, h1, _⟩
      have : ∀ d ∈ primesL, 2 ≤ d := by decide +kernel
      have := this d hd
      omega
    rw [this]
  rw [this]
  exact zeroDiv0 w
set_option maxRecDepth 100000 in
set_option maxHeartbeats 1000000 in
theorem primes_any (w : World) :
    Calls Tryz.prog 131 #[] w fun e w' => e = .returned (.agg (r64 80 fun i => litw 64 (pr i))) ∧ Below w.heap.size w w' := by
  have hz1 := zeroFound
  have hz2 := zeroDiv
  have hal : Tryz.prog.arrayLen 115 = 80 := by kernel_rfl
  have hal2 : Tryz.prog.arrayLen 140 = 410 := by kernel_rfl
  go_enter Tryz.func131, Tryz.ntmps131
  go_wp2_with fail
  clear hz1 hz2
  go_loopw [2, 3] (fun vc vn wr => ∃ n : Nat, 2 ≤ n ∧ n ≤ 410 ∧ vc = .int .i64 (cnt n : Int) ∧ vn = .int .i64 (n : Int) ∧ PW w (cnt n) (dv n) wr) (fun _ v _ => 410 - (intOf v).toNat)
  case atStart => exact ⟨2, by omega, by omega, rfl, rfl, (Blk.new w _ _).alloc _, (Blk.new _ _ _).cast' ⟨by simp, rfl⟩, ((Below.refl _ _).alloc (by omega) _).alloc (by simp) _⟩
  case round =>
    obtain ⟨n, hn2, hn, rfl, rfl, hr⟩ := hrel
    by_cases hlt : n < 410
    · cases hd : dv n n with
      | true =>
        obtain ⟨h1, h2⟩ := ok_true hlt hn2 hd
        have cd : wr.cell? ⟨w.heap.size + 1, n, none⟩ = some (.bool true) := by rw [← hd]; exact hr.d.at_ hlt
        have K : PW w (cnt (n + 1)) (dv (n + 1)) wr := by rw [h1]; exact hr.congr fun i _ => (dv_skip h2 i).symm
        have HC := Lib.hid h1
        clear hr h1 h2
        go_wp2_with fail
        go_roundw
        case rel => exact ⟨n + 1, by omega, by omega, by rw [HC.out], by go_num, K⟩
        case measure => simp [intOf]; omega
      | false =>
        obtain ⟨h1, h2, h3, h4⟩ := ok_false hlt hn2 hd
        have cd : wr.cell? ⟨w.heap.size + 1, n, none⟩ = some (.bool false) := by rw [← hd]; exact hr.d.at_ hlt
        have hfr := hr.r.frozen (cnt n)
        have hcell := hr.r.at_ (i := cnt n) h2
        have K := hr.put h2 h1
        have HC := Lib.hid (⟨h3, h4⟩ : _ ∧ _)
        have hnn : n * n ≤ 167281 := Nat.mul_le_mul (show n ≤ 409 by omega) (show n ≤ 409 by omega)
        have hq : IntKind.i64.wrap ((n : Int) * (n : Int)) = ((n * n : Nat) : Int) := by
          rw [show (n : Int) * (n : Int) = ((n * n : Nat) : Int) from (Int.natCast_mul n n).symm, IntWalk.i64_in _ (by omega)]
        have hw64 : IntKind.u64.wrap (n : Int) = (n : Int) := by rw [IntKind.wrap_u64]; omega
        have K0 := K.congr fun i _ => (dm_zero n i).symm
        clear hr h1 h3 h4 K
        generalize cnt n = c at *
        go_wp2_with fail
        obtain ⟨wo, rfl⟩ : ∃ wo : World, wo = w := ⟨_, rfl⟩
        go_loopw [4] (fun vm wr => ∃ m : Nat, vm = .int .i64 (m : Int) ∧ m ≤ 170000 ∧ n * n ≤ m ∧ Hid (m % n = 0) ∧ PW wo (c + 1) (dm n m) wr) (fun v _ => 170000 - (intOf v).toNat)
        case atStart => exact ⟨n * n, rfl, by omega, Nat.le_refl _, Lib.hid (Nat.mul_mod_left n n), K0⟩
        case round =>
          obtain ⟨m, rfl, hm, hnm, HM, hr⟩ := hrel
          clear K0
          by_cases hml : m ≤ 409
          · have hc2 := hr.d.at_ (i := m) (by omega)
            have hf2 := hr.d.frozen m
            have K := hr.strike (m := m) (by omega) (f' := dm n (m + n)) (fun i => dm_next (by omega) hnm HM.out)
            clear hr
            go_wp2_with fail
            go_roundw
            case rel => exact ⟨m + n, by go_num, by omega, by omega, Lib.hid (by have := HM.out; rw [Nat.add_mod_right]; exact this), K⟩
            case measure => simp [intOf]; omega
          · have K : PW wo (c + 1) (dv (n + 1)) wr := hr.congr fun i hi => (dv_take HC.out.2 (by omega)).symm
            clear hr
            go_wp2_with fail
            go_roundw
            case rel => exact ⟨n + 1, by omega, by omega, by rw [HC.out.1]; go_num, by go_num, by rw [HC.out.1]; exact K⟩
            case measure => simp [intOf]; omega
    · obtain rfl : n = 410 := by omega
      rw [cnt_all] at hr
      have hwh := hr.whole
      have hsz : (Tryz.prog.info? 115).map (·.size) = some (r64 80 fun i => litw 64 (pr i)).size := by rw [row_size]; kernel_rfl
      go_wp2_with (first
        | (refine wpList_load_row rfl 115 _ rfl w.heap.size rfl 115 _ (0, 0) _ hwh Tryz.underlying115 rfl hsz ?_)
        | (refine wpList_store_row rfl 115 _ _ rfl w.heap.size (r64 80 fun i => litw 64 (pr i)) rfl rfl 115 _ hwh hsz rfl (row_one fun _ => rfl) ?_))
      simp only [Act.put]
      refine bodyPost_ret (results_cell_row rfl _ _ w.heap.size 115 (r64 80 fun i => litw 64 (pr i)) (0, 0) _ rfl (hwh.row_ _) Tryz.underlying115 rfl hsz) rfl ⟨rfl, below_setRow' hr.b (by omega) _⟩
end Go.Proofs.YtggalphgnloneaaGreat.L2
/- constants. -/
namespace Go.Proofs.YtggalphgnloneaaGreat.L2
open Go.RowKit
theorem results_cell2_row {P : Program} {fn : Func} {p q : Tmp} {tp tq : TypeId} (h : fn.results = #[.cell p tp, .cell q tq]) (tmps : Array Value) (w : World) (g k : Nat) (t u : TypeId) (cs ds : Array Value) (d e : TypeDesc)
    (hp : tmps.getD p undef = .pointer (some ⟨g, 0, none⟩)) (hq : tmps.getD q undef = .pointer (some ⟨k, 0, none⟩)) (hg : Blk w g t cs) (hk : Blk w k u ds)
    (hu : P.underlying tp = some d) (hd : (match d with | .struct _ | .array _ _ => true | _ => false) = true) (hi : (P.info? tp).map (·.size) = some cs.size)
    (hv : P.underlying tq = some e) (he : (match e with | .struct _ | .array _ _ => true | _ => false) = true) (hj : (P.info? tq).map (·.size) = some ds.size) :
    (results fn tmps).run P w = .ok (.tuple #[.agg cs, .agg ds]) w := by
  have hp' : tmps[p]?.getD undef = .pointer (some ⟨g, 0, none⟩) := by simpa using hp
  have hq' : tmps[q]?.getD undef = .pointer (some ⟨k, 0, none⟩) := by simpa using hq
  simp [results, h, hp', hq', asAddr, run_loadVar_row w g t tp cs (0, 0) d hg hu hd hi, run_loadVar_row w k u tq ds (0, 0) e hk hv he hj]
def firstL : List Nat := [7640891576956012808, 13503953896175478587, 4354685564936845355, 11912009170470909681, 5840696475078001361, 11170449401992604703, 2270897969802886507, 6620516959819538809]
def keysL : List Nat := [4794697086780616226, 8158064640168781261, 13096744586834688815, 16840607885511220156, 4131703408338449720, 6480981068601479193, 10538285296894168987, 12329834152419229976, 15566598209576043074, 1334009975649890238, 2608012711638119052, 6128411473006802146, 8268148722764581231, 9286055187155687089, 11230858885718282805, 13951009754708518548, 16472876342353939154, 17275323862435702243, 1135362057144423861, 2597628984639134821, 3308224258029322869, 5365058923640841347, 6679025012923562964, 8573033837759648693, 10970295158949994411, 12119686244451234320, 12683024718118986047, 13788192230050041572, 14330467153632333762, 15395433587784984357, 489312712824947311, 1452737877330783856, 2861767655752347644, 3322285676063803686, 5560940570517711597, 5996557281743188959, 7280758554555802590, 8532644243296465576, 9350256976987008742, 10552545826968843579, 11727347734174303076, 12113106623233404929, 14000437183269869457, 14369950271660146224, 15101387698204529176, 15463397548674623760, 17586052441742319658, 1182934255886127544, 1847814050463011016, 2177327727835720531, 2830643537854262169, 3796741975233480872, 4115178125766777443, 5681478168544905931, 6601373596472566643, 7507060721942968483, 8399075790359081724, 8693463985226723168, 9568029438360202098, 10144078919501101548, 10430055236837252648, 11840083180663258601, 13761210420658862357, 14299343276471374635, 14566680578165727644, 15097957966210449927, 16922976911328602910, 17689382322260857208, 500013540394364858, 748580250866718886, 1242879168328830382, 1977374033974150939, 2944078676154940804, 3659926193048069267, 4368137639120453308, 4836135668995329356, 5532061633213252278, 6448918945643986474, 6902733635092675308, 7801388544844847127]
def firstC (i : Nat) : BitVec 64 := litw 64 (firstL.getD i 0)
def keysC (i : Nat) : BitVec 64 := litw 64 (keysL.getD i 0)
theorem first_ok : ∀ i, i < 8 → rootS (litw 64 (pr i)) 0 = some (firstC i) := by decide +kernel
theorem keys_ok : ∀ i, i < 80 → rootS (litw 64 (pr i)) 1 = some (keysC i) := by decide +kernel
def upto (j : Nat) (f : Nat → BitVec 64) (i : Nat) : BitVec 64 := if i < j then f i else litw 64 0
structure CW (w : World) (b : Nat) (f k : Nat → BitVec 64) (wr : World) : Prop where
  f : Blk wr w.heap.size 54 (r64 8 f)
  k : Blk wr (w.heap.size + 1) 115 (r64 80 k)
  l : Blk wr b 115 (r64 80 fun i => litw 64 (pr i))
  o : Below w.heap.size w wr
  lt : w.heap.size + 1 < b
section
variable {w wr : World} {bl j : Nat} {f k : Nat → BitVec 64}
theorem upto_step (f : Nat → BitVec 64) (n j i : Nat) (v : BitVec 64) (hv : v = f j) (_h : i < n) : (if i = j then Value.int .u64 (iw v) else .int .u64 (iw (upto j f i))) = .int .u64 (iw (upto (j + 1) f i)) := by
  by_cases h1 : i = j
  · subst h1; simp [upto, hv]
  · by_cases h2 : i < j
    · simp [upto, h1, h2, Nat.lt_succ_of_lt h2]
    · simp [upto, h1, h2, show ¬ i < j + 1 by omega]
theorem CW.putF (h : CW w bl (upto j f) k wr) (hj : j < 8) (v : BitVec 64) (hv : v = f j) : CW w bl (upto (j + 1) f) k (wr.setCell ⟨w.heap.size, j, none⟩ (.int .u64 (iw v))) :=
  ⟨(h.f.put hj _).cast_ (row_ext fun i hi => upto_step f 8 j i v hv hi), h.k.far (by simp) _, h.l.far (by have := h.lt; simp; omega) _, h.o.setCell (by simp) _, h.lt⟩
theorem CW.putK (h : CW w bl f (upto j k) wr) (hj : j < 80) (v : BitVec 64) (hv : v = k j) : CW w bl f (upto (j + 1) k) (wr.setCell ⟨w.heap.size + 1, j, none⟩ (.int .u64 (iw v))) :=
  ⟨h.f.far (by simp) _, (h.k.put hj _).cast_ (row_ext fun i hi => upto_step k 80 j i v hv hi), h.l.far (by have := h.lt; simp; omega) _, h.o.setCell (by simp) _, h.lt⟩
end
theorem root2 (p R : BitVec 64) (w : World) (h : rootS p 0 = some R) :
    Calls Tryz.prog 132 #[.int .u64 (iw p), .int .i64 2] w fun e w' => e = .returned (.int .u64 (iw R)) ∧ Below w.heap.size w w' := root_any p 0 R w (by omega) h
theorem root3 (p R : BitVec 64) (w : World) (h : rootS p 1 = some R) :
    Calls Tryz.prog 132 #[.int .u64 (iw p), .int .i64 3] w fun e w' => e = .returned (.int .u64 (iw R)) ∧ Below w.heap.size w w' := root_any p 1 R w (by omega) h
theorem zero8 : #[Value.int .u64 0, .int .u64 0, .int .u64 0, .int .u64 0, .int .u64 0, .int .u64 0, .int .u64 0, .int .u64 0] = r64 8 fun _ => litw 64 0 := by simp only [r64, iw_zero]; rfl
theorem CW.below {w wr w' : World} {bl : Nat} {f k : Nat → BitVec 64} (h : CW w bl f k wr) (hb : Below wr.heap.size wr w') : CW w bl f k w' :=
  ⟨h.f.below hb h.f.lt, h.k.below hb h.k.lt, h.l.below hb h.l.lt, h.o.trans (hb.mono h.o.size), h.lt⟩
set_option maxRecDepth 100000 in
set_option maxHeartbeats 2000000 in
theorem constants_any (w : World) :
    Calls Tryz.prog 111 #[] w fun e w' => e = .returned (.tuple #[.agg (r64 8 firstC), .agg (r64 80 keysC)]) ∧ Below w.heap.size w w' := by
  have hsz : (Tryz.prog.info? 115).map (·.size) = some (r64 80 fun i => litw 64 (pr i)).size := by rw [row_size]; kernel_rfl
  have hzw := zeroW
  go_enter Tryz.func111, Tryz.ntmps111
  go_wp2_with (first
    | (go_at_call 131; refine (primes_any _).mono ?_; rintro e w1 ⟨rfl, hb1⟩)
    | (refine wpList_store_row rfl 115 _ _ rfl w1.heap.size (r64 80 fun i => litw 64 (pr i)) rfl rfl 115 (r64 80 fun _ => litw 64 0) (Blk.new w1 _ _) hsz (by rw [row_size, row_size]) (row_one fun _ => rfl) ?_)
    | fail)
  clear hsz
  have hs1 : w.heap.size + 1 < w1.heap.size := by have := hb1.size; simp at this; omega
  refine wp_gen (CW w w1.heap.size (upto 0 firstC) (upto 0 keysC)) ?_ (fun w2 hw2 => ?_)
  · have h0 : Blk w1 w.heap.size 54 (r64 8 fun _ => litw 64 0) := (((Blk.new w _ _).alloc _).below hb1 (by simp; omega)).cast_ zero8
    have h1 : Blk w1 (w.heap.size + 1) 115 (r64 80 fun _ => litw 64 0) := (((Blk.new (w.alloc _) _ _).cast' ⟨by simp, rfl⟩).below hb1 (by simp))
    refine ⟨?_, ?_, ?_, ?_, hs1⟩
    · exact ((h0.alloc _).row_far (by omega) _).cast_ (row_ext fun i _ => by simp [upto])
    · exact ((h1.alloc _).row_far (by omega) _).cast_ (row_ext fun i _ => by simp [upto])
    · exact (Blk.new w1 _ _).row_ _
    · exact below_setRow' ((((Below.refl w.heap.size w).alloc (by omega) _).alloc (by simp) _).trans (hb1.mono (by simp; omega)) |>.alloc (by omega) _) (by omega) _
  clear hb1 hs1 hzw
  generalize w1.heap.size = bl at hw2 ⊢
  go_loopw [6] (fun i wr => ∃ j : Nat, j ≤ 8 ∧ i = .int .i64 j ∧ CW w bl (upto j firstC) (upto 0 keysC) wr) (fun i _ => 8 - (intOf i).toNat)
  case atStart => exact ⟨0, by omega, rfl, hw2⟩
  case round =>
    obtain ⟨j, hj, rfl, hr⟩ := hrel
    clear hw2
    by_cases hjl : j < 8
    · have hal : Tryz.prog.arrayLen 54 = 8 := by kernel_rfl
      have hal2 : Tryz.prog.arrayLen 115 = 80 := by kernel_rfl
      have hj80 : (j : Int) < 80 := by omega
      have hp := hr.l.at_ (i := j) (by omega)
      go_wp2_with fail
      refine (root2 _ _ wr (first_ok j hjl)).mono ?_
      rintro e w3 ⟨rfl, hb3⟩
      have h3 := hr.below hb3
      clear hr hb3 hp
      have hc := h3.f.at_ hjl
      have hf := h3.f.frozen j
      have K := h3.putF hjl (firstC j) rfl
      clear h3
      go_wp2_with fail
      go_roundw
      case rel => exact ⟨j + 1, by omega, by go_num, K⟩
      case measure => simp [intOf]; omega
    · obtain rfl : j = 8 := by omega
      clear hjl hj
      go_wp2_with fail
      obtain ⟨wo, rfl⟩ : ∃ wo : World, wo = w := ⟨_, rfl⟩
      go_loopw [16] (fun i wr => ∃ j : Nat, j ≤ 80 ∧ i = .int .i64 j ∧ CW wo bl (upto 8 firstC) (upto j keysC) wr) (fun i _ => 80 - (intOf i).toNat)
      case atStart => exact ⟨0, by omega, rfl, hr⟩
      case round =>
        obtain ⟨j, hj, rfl, h4⟩ := hrel
        clear hr
        by_cases hjl : j < 80
        · have hal2 : Tryz.prog.arrayLen 115 = 80 := by kernel_rfl
          have hp := h4.l.at_ (i := j) (by omega)
          go_wp2_with fail
          refine (root3 _ _ wr (keys_ok j hjl)).mono ?_
          rintro e w3 ⟨rfl, hb3⟩
          have h3 := h4.below hb3
          clear h4 hb3 hp
          have hc := h3.k.at_ hjl
          have hf := h3.k.frozen j
          have K := h3.putK hjl (keysC j) rfl
          clear h3
          go_wp2_with fail
          go_roundw
          case rel => (repeat apply Exists.intro); exact ⟨⟨j + 1, by omega, by go_num, K⟩, rfl⟩
          case measure => simp [intOf]; omega
        · obtain rfl : j = 80 := by omega
          clear hjl hj
          obtain ⟨w, rfl⟩ : ∃ w : World, w = wo := ⟨_, rfl⟩
          have hr := h4
          clear h4
          go_wp2_with fail
          have hf : Blk wr.drew w.heap.size 54 (r64 8 firstC) := hr.f.cast_ (row_ext fun i hi => by simp [upto, hi])
          have hk : Blk wr.drew (w.heap.size + 1) 115 (r64 80 keysC) := hr.k.cast_ (row_ext fun i hi => by simp [upto, hi])
          have hb := hr.o.drew
          have i8 : (Tryz.prog.info? 54).map (·.size) = some (r64 8 firstC).size := by rw [row_size]; kernel_rfl
          have i80 : (Tryz.prog.info? 115).map (·.size) = some (r64 80 keysC).size := by rw [row_size]; kernel_rfl
          have o8 : (r64 8 firstC).all (·.oneCell') = true := row_one fun _ => rfl
          have o80 : (r64 80 keysC).all (·.oneCell') = true := row_one fun _ => rfl
          clear hr
          refine wp_region_any (by kernel_rfl) ?_
          change wpAny _ _ _ _ _ _ _ wr.drew
          generalize wr.drew = w9 at hf hk hb ⊢
          refine wpAny_ready (rs := [0, 1]) (by kernel_rfl) (by simp) (AllReady.cons rfl (fun K hK => ?_) (AllReady.cons rfl (fun K hK => ?_) AllReady.nil))
          · refine step_load_row rfl _ _ rfl w.heap.size rfl _ _ _ hf Tryz.underlying54 rfl i8 (hK _ _ ?_)
            refine wpAny_ready (rs := [1, 2]) (by kernel_rfl) (by simp) (AllReady.cons rfl (fun K hK => ?_) (AllReady.cons rfl (fun K hK => ?_) AllReady.nil))
            · refine step_load_row rfl _ _ rfl (w.heap.size + 1) rfl _ _ _ hk Tryz.underlying115 rfl i80 (hK _ _ ?_)
              refine wpAny_ready (rs := [2]) (by kernel_rfl) (by simp) (AllReady.cons rfl (fun K hK => ?_) AllReady.nil)
              refine step_store_same rfl _ _ _ rfl w.heap.size _ rfl rfl _ hf i8 o8 (hK _ _ ?_)
              refine wpAny_ready (rs := [3]) (by kernel_rfl) (by simp) (AllReady.cons rfl (fun K hK => ?_) AllReady.nil)
              refine step_store_same rfl _ _ _ rfl (w.heap.size + 1) _ rfl rfl _ hk i80 o80 (hK _ _ ?_)
              refine wpAny_done (by kernel_rfl) ?_ _
              go_wp2_with fail
              exact bodyPost_ret (results_cell2_row rfl _ _ w.heap.size (w.heap.size + 1) _ _ _ _ _ _ rfl rfl hf hk Tryz.underlying54 rfl i8 Tryz.underlying115 rfl i80) rfl ⟨rfl, hb⟩
            · refine step_store_same rfl _ _ _ rfl w.heap.size _ rfl rfl _ hf i8 o8 (hK _ _ ?_)
              refine wpAny_ready (rs := [1]) (by kernel_rfl) (by simp) (AllReady.cons rfl (fun K hK => ?_) AllReady.nil)
              refine step_load_row rfl _ _ rfl (w.heap.size + 1) rfl _ _ _ hk Tryz.underlying115 rfl i80 (hK _ _ ?_)
              refine wpAny_ready (rs := [3]) (by kernel_rfl) (by simp) (AllReady.cons rfl (fun K hK => ?_) AllReady.nil)
              refine step_store_same rfl _ _ _ rfl (w.heap.size + 1) _ rfl rfl _ hk i80 o80 (hK _ _ ?_)
              refine wpAny_done (by kernel_rfl) ?_ _
              go_wp2_with fail
              exact bodyPost_ret (results_cell2_row rfl _ _ w.heap.size (w.heap.size + 1) _ _ _ _ _ _ rfl rfl hf hk Tryz.underlying54 rfl i8 Tryz.underlying115 rfl i80) rfl ⟨rfl, hb⟩
          · refine step_load_row rfl _ _ rfl (w.heap.size + 1) rfl _ _ _ hk Tryz.underlying115 rfl i80 (hK _ _ ?_)
            refine wpAny_ready (rs := [0]) (by kernel_rfl) (by simp) (AllReady.cons rfl (fun K hK => ?_) AllReady.nil)
            refine step_load_row rfl _ _ rfl w.heap.size rfl _ _ _ hf Tryz.underlying54 rfl i8 (hK _ _ ?_)
            refine wpAny_ready (rs := [2]) (by kernel_rfl) (by simp) (AllReady.cons rfl (fun K hK => ?_) AllReady.nil)
            refine step_store_same rfl _ _ _ rfl w.heap.size _ rfl rfl _ hf i8 o8 (hK _ _ ?_)
            refine wpAny_ready (rs := [3]) (by kernel_rfl) (by simp) (AllReady.cons rfl (fun K hK => ?_) AllReady.nil)
            refine step_store_same rfl _ _ _ rfl (w.heap.size + 1) _ rfl rfl _ hk i80 o80 (hK _ _ ?_)
            refine wpAny_done (by kernel_rfl) ?_ _
            go_wp2_with fail
            exact bodyPost_ret (results_cell2_row rfl _ _ w.heap.size (w.heap.size + 1) _ _ _ _ _ _ rfl rfl hf hk Tryz.underlying54 rfl i8 Tryz.underlying115 rfl i80) rfl ⟨rfl, hb⟩
end Go.Proofs.YtggalphgnloneaaGreat.L2
/- New, One. -/
namespace Go.Proofs.YtggalphgnloneaaGreat.L2
open Go.RowKit
def H0 : Hs := ⟨keysC, firstC, fun _ => litw 8 0, 0⟩
abbrev w64 (f : Nat → BitVec 64) (i : Nat) : Value := .int .u64 (iw (f i))
def nF1 : Nat → Value := over zeroF 80 8 (w64 firstC)
def nF2 : Nat → Value := over nF1 0 80 (w64 keysC)
def NW (w : World) (F : Nat → Value) (w' : World) : Prop := Blk w' w.heap.size 118 (row 217 F) ∧ Below w.heap.size w w'
theorem nF2_eq (i : Nat) (hi : i < 217) : nF2 i = H0.f i := by
  by_cases h1 : i < 80
  · simp [nF2, over, H0, Hs.f, h1]
  · by_cases h2 : i < 88
    · simp [nF2, nF1, over, H0, Hs.f, h1, h2, show 80 ≤ i by omega]
    · by_cases h4 : i < 216
      · simp [nF2, nF1, over, zeroF, H0, Hs.f, h1, h2, h4, iw_zero]
      · simp [nF2, nF1, over, zeroF, H0, Hs.f, h1, h2, h4]
set_option maxRecDepth 100000 in
set_option maxHeartbeats 400000 in
theorem new_any (w : World) :
    Calls Tryz.prog 78 #[] w fun e w' => e = .returned (.pointer (some ⟨w.heap.size, 0, none⟩)) ∧ HB w' w.heap.size H0 ∧ Below w.heap.size w w' := by
  have hz := zeroHash
  go_enter Tryz.func78, Tryz.ntmps78
  go_wp2_with (first
    | (go_at_call 111; refine (constants_any _).mono ?_; rintro e w1 ⟨rfl, hb1⟩; have hZ : Blk w1 w.heap.size 118 (row 217 zeroF) := (Blk.new w _ _).below hb1 (by simp); have hB : Below w.heap.size w w1 := ((Below.refl _ _).alloc (by omega) _).trans (hb1.mono (by simp)); clear hb1)
    | (refine wpList_store_part rfl 54 _ _ rfl w.heap.size 80 8 217 zeroF (w64 firstC) rfl rfl 118 hZ (by omega) (by kernel_rfl) (fun _ => rfl) ?_; refine wpList_gen (NW w nF1) ⟨hZ.row_ _, below_setRow' hB (by omega) _⟩ (fun w2 h2 => ?_))
    | (refine wpList_store_part rfl 115 _ _ rfl w.heap.size 0 80 217 nF1 (w64 keysC) rfl rfl 118 h2.1 (by omega) (by kernel_rfl) (fun _ => rfl) ?_; refine wpList_gen (NW w nF2) ⟨h2.1.row_ _, below_setRow' h2.2 (by omega) _⟩ (fun w3 h3 => ?_)))
  go_ret
  exact ⟨rfl, h3.1.cast_ (row_ext nF2_eq), h3.2⟩
end Go.Proofs.YtggalphgnloneaaGreat.L2
/- Texts cut in two: what a Hash has then. -/
namespace Go.Proofs.YtggalphgnloneaaGreat.L2
open Go.RowKit
theorem size0 (l : List UInt8) : (H0.write l).size = l.length := by rw [Hs.size_write]; show 0 + _ = _; omega
end Go.Proofs.YtggalphgnloneaaGreat.L2
