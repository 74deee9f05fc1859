/- The words of a block. -/
import Derived.Test.YtmmijnacgolopaaRows2
import Derived.Test.YtmmijnacgolopaaPart
import Derived.Test.YtmmijnacgolopaaBytes
import Derived.Test.YtmmijnacgolopaaSb1
import Derived.StillTailTactics
import Derived.BigQuiet
import Derived.Deep.QuietTactic
import Derived.BigRegion
namespace Go.Proofs.Ytmmijnacgolopaa
open Go.RowKit
abbrev r64 (n : Nat) (f : Nat → BitVec 64) : Array Value := row n fun i => Value.int .u64 (iw (f i))
def sg0 (x : BitVec 64) : BitVec 64 := xorw (xorw (rotr x 1) (rotr x 8)) (shrw x 7)
def sg1 (x : BitVec 64) : BitVec 64 := xorw (xorw (rotr x 19) (rotr x 61)) (shrw x 6)
def nextw (f : Nat → BitVec 64) (i : Nat) : BitVec 64 := addw (addw (addw (sg1 (f (i - 2))) (f (i - 7))) (sg0 (f (i - 15)))) (f (i - 16))
/-- A hash in memory: constants, state, block, size. -/
structure Hs where
  keys : Nat → BitVec 64
  state : Nat → BitVec 64
  block : Nat → BitVec 8
  size : Nat
def Hs.f (h : Hs) (i : Nat) : Value :=
  if i < 80 then .int .u64 (iw (h.keys i)) else if i < 88 then .int .u64 (iw (h.state (i - 80)))
  else if i < 216 then .int .u8 (iw (h.block (i - 88))) else .int .i64 h.size
theorem Hs.f_block (h : Hs) {i : Nat} (hi : i < 128) : h.f (88 + i) = .int .u8 (iw (h.block i)) := by
  unfold Hs.f; rw [if_neg (by omega), if_neg (by omega), if_pos (by omega), show 88 + i - 88 = i by omega]
abbrev HB (w : World) (g : Nat) (h : Hs) : Prop := Blk w g 46 (row 217 h.f)
/-- A word as it grows: of its first k bytes. -/
def acc (b : Nat → BitVec 8) (i : Nat) : Nat → BitVec 64
  | 0 => litw 64 0
  | k + 1 => orw (shlw (acc b i k) 8) (castw 64 (b (8 * i + k)))
def wd (b : Nat → BitVec 8) (i : Nat) : BitVec 64 := acc b i 8
def accs (b : Nat → BitVec 8) (k j : Nat) : BitVec 64 := acc b j (min 8 (k - 8 * j))
theorem accs_next (b : Nat → BitVec 8) (k j : Nat) : accs b (k + 1) j = if j = k / 8 then orw (shlw (accs b k (k / 8)) 8) (castw 64 (b k)) else accs b k j := by
  by_cases h : j = k / 8
  · subst h
    rw [if_pos rfl]
    unfold accs
    rw [show min 8 (k + 1 - 8 * (k / 8)) = k % 8 + 1 by omega, show min 8 (k - 8 * (k / 8)) = k % 8 by omega]
    simp only [acc]
    rw [show 8 * (k / 8) + k % 8 = k by omega]
  · rw [if_neg h]
    unfold accs
    congr 1
    omega
structure WR (g : Nat) (h : Hs) (f : Nat → BitVec 64) (w wr : World) : Prop where
  h : HB wr g h
  r : Blk wr w.heap.size 42 (r64 80 f)
  b : Below w.heap.size w wr
theorem HB.byte {w : World} {g : Nat} {h : Hs} (k : HB w g h) {i j : Nat} (hi : i < 128) (e : j = 88 + i) : w.cell? ⟨g, j, none⟩ = some (.int .u8 (iw (h.block i))) := by
  subst e; rw [← h.f_block hi]; exact k.at_ (by omega)
def schd (b : Nat → BitVec 8) : Nat → (Nat → BitVec 64)
  | 0 => fun j => if j < 16 then wd b j else litw 64 0
  | n + 1 => fun j => if j = 16 + n then nextw (schd b n) (16 + n) else schd b n j
section
variable {g : Nat} {H : Hs} {f f' : Nat → BitVec 64} {w wr : World}
theorem WR.congr (h : WR g H f w wr) (e : ∀ i, i < 80 → f i = f' i) : WR g H f' w wr := ⟨h.h, h.r.cast_ (row_ext fun i hi => by rw [e i hi]), h.b⟩
theorem WR.drew (h : WR g H f w wr) : WR g H f w wr.drew := ⟨h.h, h.r, h.b.drew⟩
theorem WR.drewN (h : WR g H f w wr) (n : Nat) : WR g H f w (wr.drewN n) := ⟨h.h, h.r, ⟨h.b.os, h.b.tape, h.b.output, h.b.size, h.b.block⟩⟩
theorem WR.at_ (h : WR g H f w wr) {j : Nat} (hj : j < 80) : wr.cell? ⟨w.heap.size, j, none⟩ = some (.int .u64 (iw (f j))) := h.r.at_ hj
theorem WR.free (h : WR g H f w wr) (j : Nat) : wr.frozen? ⟨w.heap.size, j, none⟩ = false := h.r.frozen j
theorem WR.put (h : WR g H f w wr) (hg : g < w.heap.size) {j : Nat} (hj : j < 80) (v : BitVec 64) (e : ∀ i, i < 80 → f' i = if i = j then v else f i) :
    WR g H f' w (wr.setCell ⟨w.heap.size, j, none⟩ (.int .u64 (iw v))) := by
  refine ⟨h.h.far (by simp; omega) _, ?_, h.b.setCell (by simp) _⟩
  refine (h.r.put hj _).cast_ (row_ext fun i hi => ?_)
  rw [e i hi]
  by_cases hij : i = j <;> simp [hij]
end
theorem zeroW (w : World) : (zeroValue 42).run Try.prog w = .ok (.agg (r64 80 fun _ => litw 64 0)) w := by kernel_rfl
theorem accs_zero (b : Nat → BitVec 8) (j : Nat) : accs b 0 j = litw 64 0 := by
  unfold accs; rw [show min 8 (0 - 8 * j) = 0 by omega]; rfl
theorem accs_all (b : Nat → BitVec 8) (j : Nat) : accs b 128 j = schd b 0 j := by
  unfold accs
  simp only [schd]
  by_cases h : j < 16
  · rw [if_pos h, show min 8 (128 - 8 * j) = 8 by omega]; rfl
  · rw [if_neg h, show min 8 (128 - 8 * j) = 0 by omega]; rfl
set_option maxRecDepth 100000 in
set_option maxHeartbeats 2000000 in
theorem words_any (g : Nat) (H : Hs) (w : World) (hg : g < w.heap.size) (hb : HB w g H) :
    Calls Try.prog 27 #[.pointer (some ⟨g, 0, none⟩)] w fun e w' => e = .returned (.agg (r64 80 (schd H.block 64))) ∧ Below w.heap.size w w' := by
  have hz := zeroW w
  have hi8 : (Try.prog.info? 44).map (·.size) = some 128 := by kernel_rfl
  have hlb : (row 128 fun i => H.f (88 + i)) = row 128 fun i => Value.int .u8 (iw (H.block i)) := row_ext fun i hi => H.f_block hi
  go_enter Try.func27, Try.ntmps27
  go_wp2_with (refine wpList_load_part rfl 44 _ rfl g 88 128 217 H.f rfl 46 (hb.alloc _) (by decide) _ Try.underlying44 rfl hi8 ?_)
  clear hz hlb hi8
  go_loopw [14] (fun i wr => ∃ k : Nat, k ≤ 128 ∧ i = .int .i64 k ∧ WR g H (accs H.block k) w wr) (fun i _ => 128 - (intOf i).toNat)
  case atStart => exact ⟨0, by omega, rfl, hb.alloc _, (Blk.new _ _ _).cast_ (row_ext fun i _ => by rw [accs_zero]), (Below.refl _ _).alloc (by omega) _⟩
  case round =>
    obtain ⟨k, hk, rfl, hr⟩ := hrel
    clear hb
    by_cases hlt : k < 128
    · have hix : ∀ w, (Instr.index 44 (.agg (row 128 fun i => Value.int .u8 (iw (H.block i)))) (.int .i64 (k : Int))).run Try.prog w = .ok (.int .u8 (iw (H.block k))) w := fun w =>
        run_index_cell w _ 5 128 _ Try.underlying44 Try.underlying5 rfl (by kernel_rfl) _ _ k hlt (row_get _ hlt) _
      have hal : Try.prog.arrayLen 42 = 80 := by kernel_rfl
      have hq2 : (k : Int) / 8 = ((k / 8 : Nat) : Int) := by omega
      have hq3 : ((k / 8 : Nat) : Int) < 80 := by omega
      have hqk : k / 8 < 80 := by omega
      obtain ⟨q, hqq⟩ : ∃ q, q = k / 8 := ⟨_, rfl⟩
      rw [← hqq] at hq2 hq3 hqk
      have hd := hr.at_ (j := q) (by omega)
      have hf := hr.free q
      have K := hr.put hg (j := q) (by omega) (orw (shlw (accs H.block k q) 8) (castw 64 (H.block k))) (f' := accs H.block (k + 1)) (fun i hi => by rw [accs_next, hqq])
      clear hqq
      go_wp2_with fail
      go_roundw
      case rel => exact ⟨k + 1, by omega, by go_num, K⟩
      case measure => simp [intOf]; omega
    · obtain rfl : k = 128 := by omega
      clear hlt hk
      have hr' : WR g H (schd H.block 0) w wr := hr.congr fun i _ => accs_all _ _
      clear hr
      go_wp2_with fail
      obtain ⟨wo, rfl⟩ : ∃ wo : World, wo = wr := ⟨_, rfl⟩
      go_loopw [5] (fun i wr => ∃ m : Nat, 16 ≤ m ∧ m ≤ 80 ∧ i = .int .i64 (m : Int) ∧ WR g H (schd H.block (m - 16)) w wr) (fun i _ => 80 - (intOf i).toNat)
      case atStart => exact ⟨16, by omega, by omega, rfl, hr'⟩
      case round =>
        obtain ⟨m, hm, hn, rfl, hr⟩ := hrel
        clear hr'
        by_cases hlt : m < 80
        · have c15 := hr.at_ (j := m - 15) (by omega)
          have c2 := hr.at_ (j := m - 2) (by omega)
          go_wp2_with fail
          go_quiet (fail)
          have hr2 := hr.drewN nq
          clear c15 c2 hr
          refine any_gen (F := fun w => Exit.then _ _ _ _ w) (WR g H (schd H.block (m - 16)) w) hr2 (fun w2 hr2 => ?_)
          have c7 := hr2.at_ (j := m - 7) (by omega)
          have c16 := hr2.at_ (j := m - 16) (by omega)
          go_wp2_with (go_at_call 31; refine (turned_int _ _ _ (by omega) (by omega)).mono ?_; rintro e w' ⟨rfl, rfl⟩)
          have hal : Try.prog.arrayLen 42 = 80 := by kernel_rfl
          have q7 : IntKind.i64.wrap ((m : Int) - 7) = ((m - 7 : Nat) : Int) := by rw [IntWalk.i64_in _ (by omega)]; omega
          have q7' : ((m - 7 : Nat) : Int) < 80 := by omega
          have q16 : IntKind.i64.wrap ((m : Int) - 16) = ((m - 16 : Nat) : Int) := by rw [IntWalk.i64_in _ (by omega)]; omega
          have q16' : ((m - 16 : Nat) : Int) < 80 := by omega
          go_still_tail 14, (by kernel_rfl)
          change wpList _ _ _ _ _ w2.drew
          have hr3 := hr2.drew
          clear c7 c16 hr2 q7 q7' q16 q16'
          generalize w2.drew = w3 at hr3 ⊢
          have hd := hr3.at_ (j := m) (by omega)
          have hf := hr3.free m
          have K := hr3.put hg (j := m) (by omega) (nextw (schd H.block (m - 16)) m) (f' := schd H.block (m + 1 - 16)) (fun i hi => by
            rw [show m + 1 - 16 = (m - 16) + 1 by omega]
            simp only [schd]
            rw [show 16 + (m - 16) = m by omega])
          clear hr3
          go_wp2_with fail
          go_roundw
          case rel => (repeat apply Exists.intro); exact ⟨⟨m + 1, by omega, by omega, by go_num, K⟩, rfl⟩
          case measure => simp [intOf]; omega
        · obtain rfl : m = 80 := by omega
          clear hlt hn hm
          have hsz : (Try.prog.info? 42).map (·.size) = some (r64 80 (schd H.block 64)).size := by rw [row_size]; kernel_rfl
          go_wp2_with (first
            | (refine wpList_load_row rfl 42 _ rfl w.heap.size rfl 42 _ (0, 0) _ hr.r Try.underlying42 rfl (by kernel_rfl) ?_)
            | (refine wpList_store_row rfl 42 _ _ rfl w.heap.size (r64 80 (schd H.block 64)) rfl rfl 42 (r64 80 (schd H.block 64)) hr.r hsz rfl (row_one fun _ => rfl) ?_))
          simp only [Act.put]
          refine bodyPost_ret (results_cell_row rfl _ _ w.heap.size 42 (r64 80 (schd H.block 64)) (0, 0) _ rfl (hr.r.row_ _) Try.underlying42 rfl hsz) rfl ⟨rfl, below_setRow' hr.b (by omega) _⟩
end Go.Proofs.Ytmmijnacgolopaa
