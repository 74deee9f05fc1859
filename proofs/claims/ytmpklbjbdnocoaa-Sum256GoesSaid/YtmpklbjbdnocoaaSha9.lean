/- Sum. -/
import Derived.Test.YtmpklbjbdnocoaaSha8
import Derived.Test.YtmpklbjbdnocoaaBytes
import Derived.OwnWalk
namespace Go.Proofs.Ytmpklbjbdnocoaa
open Go.RowKit
def four (x : BitVec 32) : List (BitVec 8) := [castw 8 (shrw x 24), castw 8 (shrw x 16), castw 8 (shrw x 8), castw 8 x]
def outB (s : Nat → BitVec 32) : Nat → List (BitVec 8)
  | 0 => []
  | k + 1 => outB s k ++ four (s k)
theorem outB_length (s : Nat → BitVec 32) : ∀ k, (outB s k).length = 4 * k
  | 0 => rfl
  | k + 1 => by simp [outB, outB_length s k, four]; omega
def Hs.out (H : Hs) : List UInt8 := asBytes (outB H.ended.state 8)
theorem u8_info : (Try.prog.info? 5).map (fun i => (i.zero, i.size, i.bytes)) = some (some (.int .u8 0), 1, 1) := by kernel_rfl
def zeroF (i : Nat) : Value := if i < 80 then .int .u32 0 else if i < 144 then .int .u8 0 else .int .i64 0
theorem zeroHash (w : World) : (zeroValue 46).run Try.prog w = .ok (.agg (row 145 zeroF)) w := by kernel_rfl
structure SR9 (st : Nat → BitVec 32) (w : World) (k : Nat) (v : Value) (wr : World) : Prop where
  own : wr.ownsRow (w.heap.size + 1) 5 1 v (4 * k) ((outB st k).map b8v)
  b : Below w.heap.size w wr
  lt : w.heap.size < wr.heap.size
set_option maxRecDepth 100000 in
set_option maxHeartbeats 2000000 in
theorem sum_any (g : Nat) (H : Hs) (w : World) (hb : HB w g H) (hn : H.size < 576460752303423488) :
    Calls Try.prog 13 #[.pointer (some ⟨g, 0, none⟩)] w fun e w' => e = .returned (.string ⟨H.out.toArray⟩) ∧ Below w.heap.size w w' := by
  have hsz : (Try.prog.info? 46).map (·.size) = some (row 145 H.f).size := by rw [row_size]; kernel_rfl
  have hone : (row 145 H.f).all (·.oneCell') = true := row_one fun i => by unfold Hs.f; (repeat' split) <;> rfl
  have hzv := zeroHash
  have hmk : ∀ w, (Instr.makeSlice 34 (.int .i64 0) (.int .i64 32)).run Try.prog w = .ok (.slice (some ⟨w.heap.size, 0, none⟩) 0 32) (w.alloc (.cells #[Value.int .u8 0, Value.int .u8 0, Value.int .u8 0, Value.int .u8 0, Value.int .u8 0, Value.int .u8 0, Value.int .u8 0, Value.int .u8 0, Value.int .u8 0, Value.int .u8 0, Value.int .u8 0, Value.int .u8 0, Value.int .u8 0, Value.int .u8 0, Value.int .u8 0, Value.int .u8 0, Value.int .u8 0, Value.int .u8 0, Value.int .u8 0, Value.int .u8 0, Value.int .u8 0, Value.int .u8 0, Value.int .u8 0, Value.int .u8 0, Value.int .u8 0, Value.int .u8 0, Value.int .u8 0, Value.int .u8 0, Value.int .u8 0, Value.int .u8 0, Value.int .u8 0, Value.int .u8 0] 5)) := fun _ => by kernel_rfl
  go_enter Try.func13, Try.ntmps13
  go_wp2_with (first
    | (refine wpList_load_row rfl 46 _ rfl g rfl 46 _ (0, 0) _ hb Try.underlying46 rfl hsz ?_)
    | (refine wpList_store_row rfl 46 _ _ rfl w.heap.size (row 145 H.f) rfl rfl 46 _ (Blk.new w _ _) hsz (by rw [row_size, row_size]) hone ?_)
    | (go_at_call 21; refine (putEnd_any w.heap.size H _ (by simp) ((Blk.new w _ _).row_ _) hn).mono ?_; rintro e w1 ⟨rfl, hm, hcm⟩; have hl1 : w.heap.size < w1.heap.size := hm.lt; have s0 : w1.cell? ⟨w.heap.size, 72, none⟩ = some (.int .u32 (iw (H.ended.state 0))) := hm.st (by omega) (by omega); have s1 : w1.cell? ⟨w.heap.size, 73, none⟩ = some (.int .u32 (iw (H.ended.state 1))) := hm.st (by omega) (by omega); have s2 : w1.cell? ⟨w.heap.size, 74, none⟩ = some (.int .u32 (iw (H.ended.state 2))) := hm.st (by omega) (by omega); have s3 : w1.cell? ⟨w.heap.size, 75, none⟩ = some (.int .u32 (iw (H.ended.state 3))) := hm.st (by omega) (by omega); have s4 : w1.cell? ⟨w.heap.size, 76, none⟩ = some (.int .u32 (iw (H.ended.state 4))) := hm.st (by omega) (by omega); have s5 : w1.cell? ⟨w.heap.size, 77, none⟩ = some (.int .u32 (iw (H.ended.state 5))) := hm.st (by omega) (by omega); have s6 : w1.cell? ⟨w.heap.size, 78, none⟩ = some (.int .u32 (iw (H.ended.state 6))) := hm.st (by omega) (by omega); have s7 : w1.cell? ⟨w.heap.size, 79, none⟩ = some (.int .u32 (iw (H.ended.state 7))) := hm.st (by omega) (by omega)))
  have hb1 : Below w.heap.size w w1 := hcm.below (below_setRow' ((Below.refl _ _).alloc (by omega) _) (by omega) _) (by omega) (by simp)
  generalize hst : H.ended.state = st
  have HO : Hid (H.out = asBytes (outB st 8)) := by unfold Hs.out; rw [hst]; exact Lib.hid rfl
  have hrow : #[Value.int .u8 0].size = 1 := rfl
  clear hst hm hcm s0 s1 s2 s3 s4 s5 s6 s7 hb hsz hone hmk hzv hrow
  obtain ⟨i0, hi, hz0, hz1, hz2⟩ := info_parts u8_info
  go_loopw [4, 14] (fun v i wr => ∃ k : Nat, k ≤ 8 ∧ i = .int .i64 k ∧ SR9 st w k v wr) (fun _ i _ => 8 - (intOf i).toNat)
  case atStart => exact ⟨0, by omega, rfl, ⟨rfl, .inr ⟨w1.heap.size, 32, _, rfl, hl1, heap_alloc_new _ _, by omega, by unfold maxLen; omega, rfl, rfl⟩⟩, hb1.alloc hb1.size _, by simp; omega⟩
  case round =>
    obtain ⟨k, hk, rfl, hr⟩ := hrel
    by_cases hlt : k < 8
    · have hix : ∀ w, (Instr.index 42 (.agg #[Value.int .u32 (iw (st 0)), .int .u32 (iw (st 1)), .int .u32 (iw (st 2)), .int .u32 (iw (st 3)), .int .u32 (iw (st 4)), .int .u32 (iw (st 5)), .int .u32 (iw (st 6)), .int .u32 (iw (st 7))]) (.int .i64 (k : Int))).run Try.prog w = .ok (.int .u32 (iw (st k))) w := fun w =>
        run_index_cell w _ 37 8 _ Try.underlying42 Try.underlying37 rfl (by kernel_rfl) _ _ k hlt (row_get (n := 8) (fun i => Value.int .u32 (iw (st i))) hlt) _
      have hown := hr.own
      have hbr := hr.b
      have hlr := hr.lt
      go_wp2_with (at_builtin; refine wpList_append_own _ rfl (.tmp 17) (.tmp 29) 34 rfl (w.heap.size + 1) 5 i0 (.int .u8 0) 1 1 Try.underlying34 hi hz0 hz1 hz2 rfl (by decide) _ (4 * k) ((outB st k).map b8v) rfl (hown.alloc _) ⟨wr.heap.size, 0, none⟩ 4 4 ((four (st k)).map b8v) rfl rfl ?c1 ?c2 ?c3 ?c4 ?c5 ?_)
      case c1 =>
        intro j u hu
        rw [addr_add, Nat.zero_add, cell_of_row _ _ j _ _ (0, 0) (heap_alloc_new _ _)]
        rw [← hu]
        simp [four, b8v]
      case c2 =>
        intro u hu
        simp [four, b8v] at hu
        rcases hu with rfl | rfl | rfl | rfl <;> rfl
      case c3 => unfold maxLen; omega
      case c4 => omega
      case c5 => simp; omega
      intro v' w2 hown2 hg2 _
      have hb2 : Below w.heap.size w w2 := (hbr.alloc hbr.size _).grown hg2 (by simp; omega) (fun q hq => by
        rcases hown.2 with ⟨rfl, _⟩ | ⟨g', cap, cur, rfl, hg', _⟩
        · simp [Value.ownBlock] at hq
        · have : g' = q := by simpa [Value.ownBlock] using hq
          omega)
      have hl2 : w.heap.size < w2.heap.size := by have := hg2.size; simp at this; omega
      have K : SR9 st w (k + 1) v' w2 := ⟨by have := hown2; rw [← List.map_append] at this; rwa [show 4 * (k + 1) = 4 * k + 4 by omega], hb2, hl2⟩
      clear hown hbr hlr hown2 hg2 hb2 hl2 hr hix
      go_wp2_with fail
      go_roundw
      case rel => exact ⟨k + 1, by omega, by go_num, K⟩
      case measure => simp [intOf]; omega
    · obtain rfl : k = 8 := by omega
      have hcv : (convert 34 9 u4).run Try.prog wr = .ok (.string ⟨(asBytes (outB st 8)).toArray⟩) wr :=
        run_string_of_own wr _ _ 5 _ Try.underlying34 Try.underlying5 Try.underlying9 _ _ _ hr.own
      have hb9 := hr.b
      clear hr hlt hk
      generalize asBytes (outB st 8) = OUT at hcv HO
      go_wp2_with fail
      go_ret
      exact ⟨by rw [HO.out]; rfl, hb9⟩
end Go.Proofs.Ytmpklbjbdnocoaa
