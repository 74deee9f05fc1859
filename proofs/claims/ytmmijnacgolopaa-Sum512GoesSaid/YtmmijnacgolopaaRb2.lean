/- The document's answer to chapter 2: turn, table, step. -/
import Derived.Test.YtmmijnacgolopaaSbN
namespace Go.Proofs.Ytmmijnacgolopaa
open Go.RowKit
theorem rotr_comm (x : BitVec 64) (k : Nat) : orw (shrw x k) (shlw x (64 - k)) = rotr x k := by
  unfold rotr orw; exact BitVec.or_comm _ _
set_option maxHeartbeats 400000 in
theorem rturn_any (x : BitVec 64) (k : Nat) (w : World) (h0 : 1 ≤ k) (h1 : k ≤ 63) :
    Calls Try.prog 22 #[.int .u64 (iw x), .int .u64 (k : Int)] w fun e w' => e = .returned (.int .u64 (iw (rotr x k))) ∧ w' = w := by
  have hq : IntKind.u64.wrap (64 - (k : Int)) = ((64 - k : Nat) : Int) := by rw [IntKind.wrap_u64]; omega
  have hr := rotr_comm x k
  go_enter Try.func22, Try.ntmps22
  go_wp2
  go_ret
  exact ⟨rfl, rfl⟩
set_option maxRecDepth 100000 in
set_option maxHeartbeats 400000 in
theorem table_any (w : World) :
    Calls Try.prog 23 #[] w fun e w' => e = .returned (.slice (some ⟨w.heap.size, 0, none⟩) 80 80) ∧ Blk w' w.heap.size 36 (r64 80 keysC) ∧ Below w.heap.size w w' := by
  go_enter Try.func23, Try.ntmps23
  go_wp2
  go_ret
  exact ⟨rfl, (Blk.new _ _ _).cast_ (by kernel_rfl), (Below.refl _ _).alloc (Nat.le_refl _) _⟩
theorem rturn_int (x : BitVec 64) (k : Int) (w : World) (h0 : 1 ≤ k) (h1 : k ≤ 63) :
    Calls Try.prog 22 #[.int .u64 (iw x), .int .u64 k] w fun e w' => e = .returned (.int .u64 (iw (rotr x k.toNat))) ∧ w' = w := by
  obtain ⟨n, rfl⟩ := Int.eq_ofNat_of_zero_le (show 0 ≤ k by omega)
  exact rturn_any x n w (by omega) (by omega)
abbrev s8v (s : S8) : Array Value := #[Value.int .u64 (iw s.a), .int .u64 (iw s.b), .int .u64 (iw s.c), .int .u64 (iw s.d), .int .u64 (iw s.e), .int .u64 (iw s.f), .int .u64 (iw s.g), .int .u64 (iw s.h)]
theorem s8_one (s : S8) : (s8v s).all (·.oneCell') = true := by kernel_rfl
abbrev z8v : Array Value := #[Value.int .u64 0, .int .u64 0, .int .u64 0, .int .u64 0, .int .u64 0, .int .u64 0, .int .u64 0, .int .u64 0]
structure SB (s : S8) (w w' : World) : Prop where
  s : Blk w' w.heap.size 40 (s8v s)
  z : Blk w' (w.heap.size + 1) 40 z8v
  b : Below w.heap.size w w'
theorem SB.drewN {s : S8} {w w' : World} (h : SB s w w') (n : Nat) : SB s w (w'.drewN n) := ⟨h.s, h.z, ⟨h.b.os, h.b.tape, h.b.output, h.b.size, h.b.block⟩⟩
theorem built_state (s : S8) : Try.prog.built 40 [(0, .int .u64 (iw s.a)), (1, .int .u64 (iw s.b)), (2, .int .u64 (iw s.c)), (3, .int .u64 (iw s.d)), (4, .int .u64 (iw s.e)), (5, .int .u64 (iw s.f)), (6, .int .u64 (iw s.g)), (7, .int .u64 (iw s.h))] = some (s8v s) := by kernel_rfl
set_option maxRecDepth 100000 in
set_option maxHeartbeats 600000 in
theorem step_any (s : S8) (k x : BitVec 64) (w : World) :
    Calls Try.prog 24 #[.agg (s8v s), .int .u64 (iw k), .int .u64 (iw x)] w fun e w' => e = .returned (.agg (s8v (stepS s k x))) ∧ Below w.heap.size w w' := by
  go_enter Try.func24, Try.ntmps24
  go_wp2_with fail
  refine wp_gen (SB s w) ⟨(Blk.new w _ _).alloc _, (Blk.new (w.alloc _) _ _).cast' ⟨by simp, rfl⟩, ((Below.refl _ _).alloc (by omega) _).alloc (by simp) _⟩ (fun w1 h1 => ?_)
  have c0 : w1.cell? ⟨w.heap.size, 0, none⟩ = some (.int .u64 (iw s.a)) := h1.s.cell 0
  have c1 : w1.cell? ⟨w.heap.size, 1, none⟩ = some (.int .u64 (iw s.b)) := h1.s.cell 1
  have c2 : w1.cell? ⟨w.heap.size, 2, none⟩ = some (.int .u64 (iw s.c)) := h1.s.cell 2
  have c3 : w1.cell? ⟨w.heap.size, 3, none⟩ = some (.int .u64 (iw s.d)) := h1.s.cell 3
  have c4 : w1.cell? ⟨w.heap.size, 4, none⟩ = some (.int .u64 (iw s.e)) := h1.s.cell 4
  have c5 : w1.cell? ⟨w.heap.size, 5, none⟩ = some (.int .u64 (iw s.f)) := h1.s.cell 5
  have c6 : w1.cell? ⟨w.heap.size, 6, none⟩ = some (.int .u64 (iw s.g)) := h1.s.cell 6
  have c7 : w1.cell? ⟨w.heap.size, 7, none⟩ = some (.int .u64 (iw s.h)) := h1.s.cell 7
  go_quiet ((go_at_call 22; exact Calls.quiet_of_same (rturn_int _ _ _ (by omega) (by omega))))
  go_wp2_with fail
  refine wp_gen (SB s w) (h1.drewN nq) (fun w2 h2 => ?_)
  clear h1 c0 c1 c2 c3 c4 c5 c6 c7 nq
  have c0 : w2.cell? ⟨w.heap.size, 0, none⟩ = some (.int .u64 (iw s.a)) := h2.s.cell 0
  have c1 : w2.cell? ⟨w.heap.size, 1, none⟩ = some (.int .u64 (iw s.b)) := h2.s.cell 1
  have c2 : w2.cell? ⟨w.heap.size, 2, none⟩ = some (.int .u64 (iw s.c)) := h2.s.cell 2
  have c3 : w2.cell? ⟨w.heap.size, 3, none⟩ = some (.int .u64 (iw s.d)) := h2.s.cell 3
  have c4 : w2.cell? ⟨w.heap.size, 4, none⟩ = some (.int .u64 (iw s.e)) := h2.s.cell 4
  have c5 : w2.cell? ⟨w.heap.size, 5, none⟩ = some (.int .u64 (iw s.f)) := h2.s.cell 5
  have c6 : w2.cell? ⟨w.heap.size, 6, none⟩ = some (.int .u64 (iw s.g)) := h2.s.cell 6
  have c7 : w2.cell? ⟨w.heap.size, 7, none⟩ = some (.int .u64 (iw s.h)) := h2.s.cell 7
  go_quiet ((go_at_call 22; exact Calls.quiet_of_same (rturn_int _ _ _ (by omega) (by omega))))
  have h3 : SB s w (w2.drewN nq) := h2.drewN nq
  clear c0 c1 c2 c3 c4 c5 c6 c7
  refine any_gen (F := fun w => Exit.then _ _ _ _ w) (SB s w) h3 (fun w3 h3 => ?_)
  clear h2
  have c0 : w3.cell? ⟨w.heap.size, 0, none⟩ = some (.int .u64 (iw s.a)) := h3.s.cell 0
  have c1 : w3.cell? ⟨w.heap.size, 1, none⟩ = some (.int .u64 (iw s.b)) := h3.s.cell 1
  have c2 : w3.cell? ⟨w.heap.size, 2, none⟩ = some (.int .u64 (iw s.c)) := h3.s.cell 2
  have c3 : w3.cell? ⟨w.heap.size, 3, none⟩ = some (.int .u64 (iw s.d)) := h3.s.cell 3
  have c4 : w3.cell? ⟨w.heap.size, 4, none⟩ = some (.int .u64 (iw s.e)) := h3.s.cell 4
  have c5 : w3.cell? ⟨w.heap.size, 5, none⟩ = some (.int .u64 (iw s.f)) := h3.s.cell 5
  have c6 : w3.cell? ⟨w.heap.size, 6, none⟩ = some (.int .u64 (iw s.g)) := h3.s.cell 6
  have c7 : w3.cell? ⟨w.heap.size, 7, none⟩ = some (.int .u64 (iw s.h)) := h3.s.cell 7
  have hsz : (Try.prog.info? 40).map (·.size) = some (s8v (stepS s k x)).size := by show _ = some 8; kernel_rfl
  go_wp2_with (refine wpList_store_row rfl 40 _ _ rfl (w.heap.size + 1) (s8v (stepS s k x)) rfl rfl 40 _ h3.z hsz rfl (s8_one _) ?_)
  exact bodyPost_ret (results_cell_row rfl _ _ (w.heap.size + 1) 40 (s8v (stepS s k x)) (0, 0) _ rfl (h3.z.row_ _) Try.underlying40 rfl hsz) rfl ⟨rfl, below_setRow' h3.b (by omega) _⟩
end Go.Proofs.Ytmmijnacgolopaa
