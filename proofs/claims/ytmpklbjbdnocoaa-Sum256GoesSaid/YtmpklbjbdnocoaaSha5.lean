/- The words of a block. -/
import Derived.Test.YtmpklbjbdnocoaaRows2
import Derived.Test.YtmpklbjbdnocoaaSha1
import Derived.StillTailTactics
import Derived.BigQuiet
import Derived.Deep.QuietTactic
import Derived.BigRegion
namespace Go.Proofs.Ytmpklbjbdnocoaa
open Go.RowKit
abbrev r32 (n : Nat) (f : Nat → BitVec 32) : Array Value := row n fun i => Value.int .u32 (iw (f i))
def sg0 (x : BitVec 32) : BitVec 32 := xorw (xorw (rotr x 7) (rotr x 18)) (shrw x 3)
def sg1 (x : BitVec 32) : BitVec 32 := xorw (xorw (rotr x 17) (rotr x 19)) (shrw x 10)
def nextw (f : Nat → BitVec 32) (i : Nat) : BitVec 32 := addw (addw (addw (sg1 (f (i - 2))) (f (i - 7))) (sg0 (f (i - 15)))) (f (i - 16))
/-- A hash in memory: constants, state, block, size. -/
structure Hs where
  first : Nat → BitVec 32
  keys : Nat → BitVec 32
  state : Nat → BitVec 32
  block : Nat → BitVec 8
  size : Nat
def Hs.f (h : Hs) (i : Nat) : Value :=
  if i < 8 then .int .u32 (iw (h.first i)) else if i < 72 then .int .u32 (iw (h.keys (i - 8))) else if i < 80 then .int .u32 (iw (h.state (i - 72)))
  else if i < 144 then .int .u8 (iw (h.block (i - 80))) else .int .i64 h.size
theorem Hs.f_block (h : Hs) {i : Nat} (hi : i < 64) : h.f (80 + i) = .int .u8 (iw (h.block i)) := by
  unfold Hs.f; rw [if_neg (by omega), if_neg (by omega), if_neg (by omega), if_pos (by omega), show 80 + i - 80 = i by omega]
abbrev HB (w : World) (g : Nat) (h : Hs) : Prop := Blk w g 46 (row 145 h.f)
def wd (b : Nat → BitVec 8) (i : Nat) : BitVec 32 :=
  orw (orw (orw (shlw (castw 32 (b (4 * i))) 24) (shlw (castw 32 (b (4 * i + 1))) 16)) (shlw (castw 32 (b (4 * i + 2))) 8)) (castw 32 (b (4 * i + 3)))
structure WR (g : Nat) (h : Hs) (f : Nat → BitVec 32) (w wr : World) : Prop where
  h : HB wr g h
  z : Blk wr w.heap.size 43 (r32 64 fun _ => litw 32 0)
  r : Blk wr (w.heap.size + 1) 43 (r32 64 f)
  b : Below w.heap.size w wr
theorem zero32 : #[Value.int .u32 0, Value.int .u32 0, Value.int .u32 0, Value.int .u32 0, Value.int .u32 0, Value.int .u32 0, Value.int .u32 0, Value.int .u32 0, Value.int .u32 0, Value.int .u32 0, Value.int .u32 0, Value.int .u32 0, Value.int .u32 0, Value.int .u32 0, Value.int .u32 0, Value.int .u32 0, Value.int .u32 0, Value.int .u32 0, Value.int .u32 0, Value.int .u32 0, Value.int .u32 0, Value.int .u32 0, Value.int .u32 0, Value.int .u32 0, Value.int .u32 0, Value.int .u32 0, Value.int .u32 0, Value.int .u32 0, Value.int .u32 0, Value.int .u32 0, Value.int .u32 0, Value.int .u32 0, Value.int .u32 0, Value.int .u32 0, Value.int .u32 0, Value.int .u32 0, Value.int .u32 0, Value.int .u32 0, Value.int .u32 0, Value.int .u32 0, Value.int .u32 0, Value.int .u32 0, Value.int .u32 0, Value.int .u32 0, Value.int .u32 0, Value.int .u32 0, Value.int .u32 0, Value.int .u32 0, Value.int .u32 0, Value.int .u32 0, Value.int .u32 0, Value.int .u32 0, Value.int .u32 0, Value.int .u32 0, Value.int .u32 0, Value.int .u32 0, Value.int .u32 0, Value.int .u32 0, Value.int .u32 0, Value.int .u32 0, Value.int .u32 0, Value.int .u32 0, Value.int .u32 0, Value.int .u32 0] = r32 64 fun _ => litw 32 0 := by simp only [r32, iw_zero]; rfl
theorem HB.byte {w : World} {g : Nat} {h : Hs} (k : HB w g h) {i j : Nat} (hi : i < 64) (e : j = 80 + i) : w.cell? ⟨g, j, none⟩ = some (.int .u8 (iw (h.block i))) := by
  subst e; rw [← h.f_block hi]; exact k.at_ (by omega)

def schd (b : Nat → BitVec 8) : Nat → (Nat → BitVec 32)
  | 0 => fun j => if j < 16 then wd b j else litw 32 0
  | n + 1 => fun j => if j = 16 + n then nextw (schd b n) (16 + n) else schd b n j
section
variable {g : Nat} {H : Hs} {f f' : Nat → BitVec 32} {w wr : World}
theorem WR.congr (h : WR g H f w wr) (e : ∀ i, i < 64 → f i = f' i) : WR g H f' w wr := ⟨h.h, h.z, h.r.cast_ (row_ext fun i hi => by rw [e i hi]), h.b⟩
theorem WR.drew (h : WR g H f w wr) : WR g H f w wr.drew := ⟨h.h, h.z, h.r, h.b.drew⟩
theorem WR.drewN (h : WR g H f w wr) (n : Nat) : WR g H f w (wr.drewN n) := ⟨h.h, h.z, h.r, ⟨h.b.os, h.b.tape, h.b.output, h.b.size, h.b.block⟩⟩
theorem WR.at_ (h : WR g H f w wr) {j : Nat} (hj : j < 64) : wr.cell? ⟨w.heap.size + 1, j, none⟩ = some (.int .u32 (iw (f j))) := h.r.at_ hj
theorem WR.free (h : WR g H f w wr) (j : Nat) : wr.frozen? ⟨w.heap.size + 1, j, none⟩ = false := h.r.frozen j
theorem WR.put (h : WR g H f w wr) (hg : g < w.heap.size) {j : Nat} (hj : j < 64) (v : BitVec 32) (e : ∀ i, i < 64 → f' i = if i = j then v else f i) :
    WR g H f' w (wr.setCell ⟨w.heap.size + 1, j, none⟩ (.int .u32 (iw v))) := by
  refine ⟨h.h.far (by simp; omega) _, h.z.far (by simp) _, ?_, h.b.setCell (by simp) _⟩
  refine (h.r.put hj _).cast_ (row_ext fun i hi => ?_)
  rw [e i hi]
  by_cases hij : i = j <;> simp [hij]
end
set_option maxRecDepth 100000 in
set_option maxHeartbeats 2000000 in
theorem words_any (g : Nat) (H : Hs) (w : World) (hg : g < w.heap.size) (hb : HB w g H) :
    Calls Try.prog 32 #[.pointer (some ⟨g, 0, none⟩)] w fun e w' => e = .returned (.agg (r32 64 (schd H.block 48))) ∧ Below w.heap.size w w' := by
  go_enter Try.func32, Try.ntmps32
  go_wp2_with fail
  go_loopw [11] (fun i wr => ∃ k : Nat, k ≤ 16 ∧ i = .int .i64 k ∧ WR g H (fun j => if j < k then wd H.block j else litw 32 0) w wr) (fun i _ => 16 - (intOf i).toNat)
  case atStart => exact ⟨0, by omega, rfl, ((hb.alloc _).alloc _), ((Blk.new _ _ _).alloc _).cast' ⟨rfl, zero32⟩, (Blk.new _ _ _).cast' ⟨by simp, by simpa using zero32⟩, ((Below.refl _ _).alloc (by omega) _).alloc (by simp) _⟩
  case round =>
    obtain ⟨k, hk, rfl, hr⟩ := hrel
    by_cases hlt : k < 16
    · have hsl : ∀ w, (Instr.sliceAt 44 (.pointer (some ⟨g, 80, none⟩)) (some (.int .i64 (4 * (k : Int)))) (some (.int .i64 (4 * (k : Int) + 4))) none).run Try.prog w = .ok (.slice (some ⟨g, 80 + 4 * k, none⟩) (4 * k + 4 - 4 * k) (64 - 4 * k)) w :=
        fun w => run_sliceAt_cell w _ 5 64 Try.underlying44 (by kernel_rfl) g 80 (4 * k) (4 * k + 4) (by omega) (by omega) (by omega) _ _ _ _ (by omega) (by omega)
      rw [show 4 * k + 4 - 4 * k = 4 by omega] at hsl
      have c0 : wr.cell? ⟨g, 80 + 4 * k, none⟩ = some (.int .u8 (iw (H.block (4 * k)))) := hr.h.byte (by omega) rfl
      have c1 : wr.cell? ⟨g, 80 + 4 * k + 1, none⟩ = some (.int .u8 (iw (H.block (4 * k + 1)))) := hr.h.byte (by omega) (by omega)
      have c2 : wr.cell? ⟨g, 80 + 4 * k + 2, none⟩ = some (.int .u8 (iw (H.block (4 * k + 2)))) := hr.h.byte (by omega) (by omega)
      have c3 : wr.cell? ⟨g, 80 + 4 * k + 3, none⟩ = some (.int .u8 (iw (H.block (4 * k + 3)))) := hr.h.byte (by omega) (by omega)
      go_wp2_with fail
      clear hsl
      go_still_tail 23, (by kernel_rfl)
      change wpList _ _ _ _ _ wr.drew
      have hr2 := hr.drew
      generalize wr.drew = w2 at hr2 ⊢
      have hd := hr2.at_ (j := k) (by omega)
      have hf := hr2.free k
      have K := hr2.put hg (j := k) (by omega) (wd H.block k) (f' := fun j => if j < k + 1 then wd H.block j else litw 32 0) (fun i hi => by
        by_cases h1 : i = k
        · subst h1; simp
        · by_cases h2 : i < k
          · simp [h1, h2, Nat.lt_succ_of_lt h2]
          · simp [h1, h2, show ¬ i < k + 1 by omega])
      clear hr hr2 c0 c1 c2 c3
      go_wp2_with fail
      go_roundw
      case rel => exact ⟨k + 1, by omega, by go_num, K⟩
      case measure => simp [intOf]; omega
    · obtain rfl : k = 16 := by omega
      clear hlt hk
      have hr' : WR g H (schd H.block 0) w wr := hr
      clear hr
      go_wp2_with fail
      obtain ⟨wo, rfl⟩ : ∃ wo : World, wo = wr := ⟨_, rfl⟩
      go_loopw [6] (fun i wr => ∃ m : Nat, 16 ≤ m ∧ m ≤ 64 ∧ i = .int .i64 (m : Int) ∧ WR g H (schd H.block (m - 16)) w wr) (fun i _ => 64 - (intOf i).toNat)
      case atStart => exact ⟨16, by omega, by omega, rfl, hr'⟩
      case round =>
        obtain ⟨m, hm, hn, rfl, hr⟩ := hrel
        clear hr'
        by_cases hlt : m < 64
        · have c15 := hr.at_ (j := m - 15) (by omega)
          have c2 := hr.at_ (j := m - 2) (by omega)
          have c7 := hr.at_ (j := m - 7) (by omega)
          have c16 := hr.at_ (j := m - 16) (by omega)
          go_wp2_with fail
          go_quiet (fail)
          have hr2 := hr.drewN nq
          clear c15 c2 c7 c16 hr
          generalize wr.drewN nq = w2 at hr2 ⊢
          have c7 := hr2.at_ (j := m - 7) (by omega)
          have c16 := hr2.at_ (j := m - 16) (by omega)
          go_wp2_with (go_at_call 34; refine (turned_int _ _ _ (by omega) (by omega)).mono ?_; rintro e w' ⟨rfl, rfl⟩)
          have hal : Try.prog.arrayLen 43 = 64 := by kernel_rfl
          have q7 : IntKind.i64.wrap ((m : Int) - 7) = ((m - 7 : Nat) : Int) := by rw [IntWalk.i64_in _ (by omega)]; omega
          have q7' : ((m - 7 : Nat) : Int) < 64 := by omega
          have q16 : IntKind.i64.wrap ((m : Int) - 16) = ((m - 16 : Nat) : Int) := by rw [IntWalk.i64_in _ (by omega)]; omega
          have q16' : ((m - 16 : Nat) : Int) < 64 := by omega
          go_still_tail 14, (by kernel_rfl)
          change wpList _ _ _ _ _ w2.drew
          have hr3 := hr2.drew
          clear c7 c16 hr2 q7 q7' q16 q16'
          generalize w2.drew = w3 at hr3 ⊢
          have hd := hr3.at_ (j := m) (by omega)
          have hf := hr3.free m
          have K := hr3.put hg (j := m) (by omega) (nextw (schd H.block (m - 16)) m) (f' := schd H.block (m + 1 - 16)) (fun i hi => by
            rw [show m + 1 - 16 = (m - 16) + 1 by omega]
            simp only [schd]
            rw [show 16 + (m - 16) = m by omega])
          clear hr3
          go_wp2_with fail
          go_roundw
          case rel => (repeat apply Exists.intro); exact ⟨⟨m + 1, by omega, by omega, by go_num, K⟩, rfl⟩
          case measure => simp [intOf]; omega
        · obtain rfl : m = 64 := by omega
          clear hlt hn hm
          have hsz : (Try.prog.info? 43).map (·.size) = some (r32 64 (schd H.block 48)).size := by rw [row_size]; kernel_rfl
          have hzz : (r32 64 fun _ => litw 32 0).size = (r32 64 (schd H.block 48)).size := by rw [row_size, row_size]
          go_wp2_with (first
            | (refine wpList_load_row rfl 43 _ rfl (w.heap.size + 1) rfl 43 _ (0, 0) _ hr.r Try.underlying43 rfl (by kernel_rfl) ?_)
            | (refine wpList_store_row rfl 43 _ _ rfl w.heap.size (r32 64 (schd H.block 48)) rfl rfl 43 (r32 64 fun _ => litw 32 0) hr.z hsz hzz (row_one fun _ => rfl) ?_))
          simp only [Act.put]
          refine bodyPost_ret (results_cell_row rfl _ _ w.heap.size 43 (r32 64 (schd H.block 48)) (0, 0) _ rfl (hr.z.row_ _) Try.underlying43 rfl hsz) rfl ⟨rfl, below_setRow' hr.b (by omega) _⟩
end Go.Proofs.Ytmpklbjbdnocoaa
