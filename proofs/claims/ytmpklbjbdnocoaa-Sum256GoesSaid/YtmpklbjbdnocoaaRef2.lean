/- The document's answer to chapter 1: four, table, step. -/
import Derived.Test.YtmpklbjbdnocoaaRef1
namespace Go.Proofs.Ytmpklbjbdnocoaa
open Go.RowKit
theorem own_new (w : World) (l : List (BitVec 8)) (n : Nat) (hn : l.length = n) (hm : n ≤ 84) : (w.alloc (.cells (l.map b8v).toArray 5)).ownsRow w.heap.size 5 1 (.slice (some ⟨w.heap.size, 0, none⟩) n n) n (l.map b8v) :=
  ⟨by simp [hn], .inr ⟨w.heap.size, n, _, rfl, by omega, heap_alloc_new _ _, by omega, by unfold maxLen; omega, by simp [hn], by simp [hn, List.take_of_length_le]⟩⟩
set_option maxHeartbeats 400000 in
theorem rfour_any (x : BitVec 32) (w : World) :
    Calls Try.prog 17 #[.int .u32 (iw x)] w fun e w' => e = .returned (.string ⟨(asBytes (four x)).toArray⟩) ∧ Below w.heap.size w w' := by
  have hcv : (convert 34 9 (.slice (some ⟨w.heap.size, 0, none⟩) 4 4)).run Try.prog (w.alloc (.cells #[.int .u8 (iw (castw 8 (shrw x 24))), .int .u8 (iw (castw 8 (shrw x 16))), .int .u8 (iw (castw 8 (shrw x 8))), .int .u8 (iw (castw 8 x))] 5)) = .ok (.string ⟨(asBytes (four x)).toArray⟩) (w.alloc (.cells #[.int .u8 (iw (castw 8 (shrw x 24))), .int .u8 (iw (castw 8 (shrw x 16))), .int .u8 (iw (castw 8 (shrw x 8))), .int .u8 (iw (castw 8 x))] 5)) :=
    run_string_of_own _ _ _ 5 _ Try.underlying34 Try.underlying5 Try.underlying9 _ _ _ (own_new w (four x) 4 rfl (by omega))
  generalize asBytes (four x) = L at hcv ⊢
  go_enter Try.func17, Try.ntmps17
  go_wp2
  go_ret
  exact ⟨rfl, (Below.refl _ _).alloc (Nat.le_refl _) _⟩
theorem table_row : #[.int .u32 1116352408, .int .u32 1899447441, .int .u32 3049323471, .int .u32 3921009573, .int .u32 961987163, .int .u32 1508970993, .int .u32 2453635748, .int .u32 2870763221, .int .u32 3624381080, .int .u32 310598401, .int .u32 607225278, .int .u32 1426881987, .int .u32 1925078388, .int .u32 2162078206, .int .u32 2614888103, .int .u32 3248222580, .int .u32 3835390401, .int .u32 4022224774, .int .u32 264347078, .int .u32 604807628, .int .u32 770255983, .int .u32 1249150122, .int .u32 1555081692, .int .u32 1996064986, .int .u32 2554220882, .int .u32 2821834349, .int .u32 2952996808, .int .u32 3210313671, .int .u32 3336571891, .int .u32 3584528711, .int .u32 113926993, .int .u32 338241895, .int .u32 666307205, .int .u32 773529912, .int .u32 1294757372, .int .u32 1396182291, .int .u32 1695183700, .int .u32 1986661051, .int .u32 2177026350, .int .u32 2456956037, .int .u32 2730485921, .int .u32 2820302411, .int .u32 3259730800, .int .u32 3345764771, .int .u32 3516065817, .int .u32 3600352804, .int .u32 4094571909, .int .u32 275423344, .int .u32 430227734, .int .u32 506948616, .int .u32 659060556, .int .u32 883997877, .int .u32 958139571, .int .u32 1322822218, .int .u32 1537002063, .int .u32 1747873779, .int .u32 1955562222, .int .u32 2024104815, .int .u32 2227730452, .int .u32 2361852424, .int .u32 2428436474, .int .u32 2756734187, .int .u32 3204031479, .int .u32 3329325298] = r32 64 keysC := by kernel_rfl
set_option maxRecDepth 100000 in
set_option maxHeartbeats 400000 in
theorem table_any (w : World) :
    Calls Try.prog 24 #[] w fun e w' => e = .returned (.slice (some ⟨w.heap.size, 0, none⟩) 64 64) ∧ Blk w' w.heap.size 37 (r32 64 keysC) ∧ Below w.heap.size w w' := by
  go_enter Try.func24, Try.ntmps24
  go_wp2
  go_ret
  exact ⟨rfl, (Blk.new _ _ _).cast_ table_row, (Below.refl _ _).alloc (Nat.le_refl _) _⟩
theorem rturn_int (x : BitVec 32) (k : Int) (w : World) (h0 : 1 ≤ k) (h1 : k ≤ 31) :
    Calls Try.prog 23 #[.int .u32 (iw x), .int .u64 k] w fun e w' => e = .returned (.int .u32 (iw (rotr x k.toNat))) ∧ w' = w := by
  obtain ⟨n, rfl⟩ := Int.eq_ofNat_of_zero_le (show 0 ≤ k by omega)
  exact rturn_any x n w (by omega) (by omega)
abbrev s8v (s : S8) : Array Value := #[Value.int .u32 (iw s.a), .int .u32 (iw s.b), .int .u32 (iw s.c), .int .u32 (iw s.d), .int .u32 (iw s.e), .int .u32 (iw s.f), .int .u32 (iw s.g), .int .u32 (iw s.h)]
theorem s8_one (s : S8) : (s8v s).all (·.oneCell') = true := by kernel_rfl
abbrev z8v : Array Value := #[Value.int .u32 0, .int .u32 0, .int .u32 0, .int .u32 0, .int .u32 0, .int .u32 0, .int .u32 0, .int .u32 0]
structure SB (s : S8) (w w' : World) : Prop where
  s : Blk w' w.heap.size 40 (s8v s)
  z : Blk w' (w.heap.size + 1) 40 z8v
  b : Below w.heap.size w w'
theorem SB.drewN {s : S8} {w w' : World} (h : SB s w w') (n : Nat) : SB s w (w'.drewN n) := ⟨h.s, h.z, ⟨h.b.os, h.b.tape, h.b.output, h.b.size, h.b.block⟩⟩
theorem built_state (s : S8) : Try.prog.built 40 [(0, .int .u32 (iw s.a)), (1, .int .u32 (iw s.b)), (2, .int .u32 (iw s.c)), (3, .int .u32 (iw s.d)), (4, .int .u32 (iw s.e)), (5, .int .u32 (iw s.f)), (6, .int .u32 (iw s.g)), (7, .int .u32 (iw s.h))] = some (s8v s) := by kernel_rfl
set_option maxRecDepth 100000 in
set_option maxHeartbeats 600000 in
theorem step_any (s : S8) (k x : BitVec 32) (w : World) :
    Calls Try.prog 25 #[.agg (s8v s), .int .u32 (iw k), .int .u32 (iw x)] w fun e w' => e = .returned (.agg (s8v (stepS s k x))) ∧ Below w.heap.size w w' := by
  go_enter Try.func25, Try.ntmps25
  go_wp2_with fail
  refine wp_gen (SB s w) ⟨(Blk.new w _ _).alloc _, (Blk.new (w.alloc _) _ _).cast' ⟨by simp, rfl⟩, ((Below.refl _ _).alloc (by omega) _).alloc (by simp) _⟩ (fun w1 h1 => ?_)
  have c0 : w1.cell? ⟨w.heap.size, 0, none⟩ = some (.int .u32 (iw s.a)) := h1.s.cell 0
  have c1 : w1.cell? ⟨w.heap.size, 1, none⟩ = some (.int .u32 (iw s.b)) := h1.s.cell 1
  have c2 : w1.cell? ⟨w.heap.size, 2, none⟩ = some (.int .u32 (iw s.c)) := h1.s.cell 2
  have c3 : w1.cell? ⟨w.heap.size, 3, none⟩ = some (.int .u32 (iw s.d)) := h1.s.cell 3
  have c4 : w1.cell? ⟨w.heap.size, 4, none⟩ = some (.int .u32 (iw s.e)) := h1.s.cell 4
  have c5 : w1.cell? ⟨w.heap.size, 5, none⟩ = some (.int .u32 (iw s.f)) := h1.s.cell 5
  have c6 : w1.cell? ⟨w.heap.size, 6, none⟩ = some (.int .u32 (iw s.g)) := h1.s.cell 6
  have c7 : w1.cell? ⟨w.heap.size, 7, none⟩ = some (.int .u32 (iw s.h)) := h1.s.cell 7
  go_quiet ((go_at_call 23; exact Calls.quiet_of_same (rturn_int _ _ _ (by omega) (by omega))))
  go_wp2_with fail
  refine wp_gen (SB s w) (h1.drewN nq) (fun w2 h2 => ?_)
  clear h1 c0 c1 c2 c3 c4 c5 c6 c7 nq
  have c0 : w2.cell? ⟨w.heap.size, 0, none⟩ = some (.int .u32 (iw s.a)) := h2.s.cell 0
  have c1 : w2.cell? ⟨w.heap.size, 1, none⟩ = some (.int .u32 (iw s.b)) := h2.s.cell 1
  have c2 : w2.cell? ⟨w.heap.size, 2, none⟩ = some (.int .u32 (iw s.c)) := h2.s.cell 2
  have c3 : w2.cell? ⟨w.heap.size, 3, none⟩ = some (.int .u32 (iw s.d)) := h2.s.cell 3
  have c4 : w2.cell? ⟨w.heap.size, 4, none⟩ = some (.int .u32 (iw s.e)) := h2.s.cell 4
  have c5 : w2.cell? ⟨w.heap.size, 5, none⟩ = some (.int .u32 (iw s.f)) := h2.s.cell 5
  have c6 : w2.cell? ⟨w.heap.size, 6, none⟩ = some (.int .u32 (iw s.g)) := h2.s.cell 6
  have c7 : w2.cell? ⟨w.heap.size, 7, none⟩ = some (.int .u32 (iw s.h)) := h2.s.cell 7
  go_quiet ((go_at_call 23; exact Calls.quiet_of_same (rturn_int _ _ _ (by omega) (by omega))))
  have h3 : SB s w (w2.drewN nq) := h2.drewN nq
  clear c0 c1 c2 c3 c4 c5 c6 c7
  refine any_gen (F := fun w => Exit.then _ _ _ _ w) (SB s w) h3 (fun w3 h3 => ?_)
  clear h2
  have c0 : w3.cell? ⟨w.heap.size, 0, none⟩ = some (.int .u32 (iw s.a)) := h3.s.cell 0
  have c1 : w3.cell? ⟨w.heap.size, 1, none⟩ = some (.int .u32 (iw s.b)) := h3.s.cell 1
  have c2 : w3.cell? ⟨w.heap.size, 2, none⟩ = some (.int .u32 (iw s.c)) := h3.s.cell 2
  have c3 : w3.cell? ⟨w.heap.size, 3, none⟩ = some (.int .u32 (iw s.d)) := h3.s.cell 3
  have c4 : w3.cell? ⟨w.heap.size, 4, none⟩ = some (.int .u32 (iw s.e)) := h3.s.cell 4
  have c5 : w3.cell? ⟨w.heap.size, 5, none⟩ = some (.int .u32 (iw s.f)) := h3.s.cell 5
  have c6 : w3.cell? ⟨w.heap.size, 6, none⟩ = some (.int .u32 (iw s.g)) := h3.s.cell 6
  have c7 : w3.cell? ⟨w.heap.size, 7, none⟩ = some (.int .u32 (iw s.h)) := h3.s.cell 7
  have hsz : (Try.prog.info? 40).map (·.size) = some (s8v (stepS s k x)).size := by show _ = some 8; kernel_rfl
  go_wp2_with (refine wpList_store_row rfl 40 _ _ rfl (w.heap.size + 1) (s8v (stepS s k x)) rfl rfl 40 _ h3.z hsz rfl (s8_one _) ?_)
  exact bodyPost_ret (results_cell_row rfl _ _ (w.heap.size + 1) 40 (s8v (stepS s k x)) (0, 0) _ rfl (h3.z.row_ _) Try.underlying40 rfl hsz) rfl ⟨rfl, below_setRow' h3.b (by omega) _⟩
end Go.Proofs.Ytmpklbjbdnocoaa
