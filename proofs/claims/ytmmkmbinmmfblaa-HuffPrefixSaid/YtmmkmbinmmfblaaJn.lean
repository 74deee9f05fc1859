/- The developers' take of chapter 9: the first node of two queues. -/
import Derived.Test.YtmmkmbinmmfblaaJl
import Derived.Test.YtmmkmbinmmfblaaMB
namespace Go.Proofs.Ytmmkmbinmmfblaa
open Go.RowKit
theorem zeroNode (w : World) : (zeroValue 75).run Try.prog w = .ok (.agg #[.int .i64 0, .int .i64 0]) w := by kernel_rfl
theorem grown_drew {w w' : World} {row : Option Nat} (h : w.grownBy w' row) : w.grownBy w'.drew row := ⟨h.os, h.tape, h.output, h.size, h.block⟩
theorem grown_set {w w' : World} {row : Option Nat} (h : w.grownBy w' row) (a : Addr) (ha : w.heap.size ≤ a.block ∨ row = some a.block) (v : Value) : w.grownBy (w'.setCell a v) row :=
  ⟨h.os, h.tape, h.output, Nat.le_trans h.size (by simp [World.setCell]), fun k hk hne => (Below.heap_setCell w' a v k (fun e => by
    rcases ha with h1 | h1
    · omega
    · exact hne (by rw [h1, e]))).trans (h.block k hk hne)⟩
theorem grown_alloc {w w' : World} {row : Option Nat} (h : w.grownBy w' row) (o : Obj) : w.grownBy (w'.alloc o) row :=
  ⟨h.os, h.tape, h.output, Nat.le_trans h.size (by simp), fun k hk hne => (Below.heap_alloc w' o k (Nat.lt_of_lt_of_le hk h.size)).trans (h.block k hk hne)⟩
theorem size_node : (Try.prog.info? 75).map (·.size) = some 2 := by kernel_rfl
set_option maxRecDepth 100000 in
set_option maxHeartbeats 1000000 in
theorem take_s0 (q : Nat) (g off n c x y : Nat) (aj : Option Addr) (cj : Nat) (w : World) (hf : Blk w q 73 #[.slice (some ⟨g, off, none⟩) (n + 1) c, .slice aj 0 cj]) (hn : n + 1 ≤ c)
    (h0 : w.cell? ⟨g, off, none⟩ = some (.int .i64 (x : Int))) (h1 : w.cell? ⟨g, off + 1, none⟩ = some (.int .i64 (y : Int))) :
    Calls Try.prog 44 #[.pointer (some ⟨q, 0, none⟩)] w fun e w' => e = .returned (.agg #[.int .i64 (x : Int), .int .i64 (y : Int)]) ∧ Blk w' q 73 #[.slice (cutA (some ⟨g, off, none⟩) c) n (c - 1), .slice aj 0 cj] ∧ w.grownBy w' (some q) := by
  have z0 := zeroNode
  have hq := hf.lt
  have hgl : ∀ a : Addr, ∀ v, w.cell? a = some v → a.block < w.heap.size := fun a v h => by
    rcases Nat.lt_or_ge a.block w.heap.size with h2 | h2
    · exact h2
    · simp [World.cell?, Array.getElem?_eq_none h2] at h
  obtain ⟨W, hW⟩ : ∃ W, W = (w.alloc (.cells #[.int .i64 0, .int .i64 0] 75)).drew := ⟨_, rfl⟩
  have bW : Below w.heap.size w W := by rw [hW]; exact ((Below.refl _ w).alloc (Nat.le_refl _) _).drew
  have HFW : Hid (Blk W q 73 #[.slice (some ⟨g, off, none⟩) (n + 1) c, .slice aj 0 cj]) := Lib.hid (hf.below bW hq)
  have HRW : Hid (Blk W w.heap.size 75 #[.int .i64 0, .int .i64 0]) := Lib.hid (by rw [hW]; exact (Blk.new w _ _).drew)
  have HZW : Hid (W.heap.size = w.heap.size + 1) := Lib.hid (by rw [hW]; simp [World.drew])
  have HGW : Hid (w.grownBy W (some q)) := Lib.hid (by rw [hW]; exact grown_drew (World.grownBy_alloc w _ _))
  have HF0 : Hid (W.cell? ⟨q, 0, none⟩ = some (.slice (some ⟨g, off, none⟩) (n + 1) c)) := Lib.hid (HFW.out.cell 0)
  have HF1 : Hid (W.cell? ⟨q, 1, none⟩ = some (.slice aj 0 cj)) := Lib.hid (HFW.out.cell 1)
  have HS0 : Hid (W.cell? ⟨g, off, none⟩ = some (.int .i64 (x : Int))) := Lib.hid ((bW.cell (p := ⟨g, off, none⟩) (hgl _ _ h0)).trans h0)
  have HS1 : Hid (W.cell? ⟨g, off + 1, none⟩ = some (.int .i64 (y : Int))) := Lib.hid ((bW.cell (p := ⟨g, off + 1, none⟩) (hgl _ _ h1)).trans h1)
  have HHQ : Hid (q < w.heap.size ∧ g < w.heap.size) := Lib.hid ⟨hq, hgl _ _ h0⟩
  have HWE := Lib.hid hW
  clear h0 h1 hgl hf bW hW
  go_enter Try.func44, Try.ntmps44
  go_wp2_with fail
  refine wp_region_anyL (Two 1000 1001 fun _ _ wx => wx = W) (by kernel_rfl) HWE.out.symm ?_
  refine anyL_take (i := 0) (v := ?_) rfl (by kernel_rfl) (by kernel_rfl) (by kernel_rfl) (yl_other (by decide) (by decide) rfl (fun f1 f2 wx hT => ?_)) ?_; rotate_left
  · have hT : wx = W := hT; rw [hT]; refine lands_value (w := W) ?_ rfl; go_simp <;> rfl
  simp only [pu]
  refine anyL_take (i := 1) (v := ?_) rfl (by kernel_rfl) (by kernel_rfl) (by kernel_rfl) (yl_other (by decide) (by decide) rfl (fun f1 f2 wx hT => ?_)) ?_; rotate_left
  · have hT : wx = W := hT; rw [hT]; refine lands_value (w := W) ?_ rfl; go_simp <;> rfl
  simp only [pu]
  refine anyL_take (i := 2) (v := ?_) rfl (by kernel_rfl) (by kernel_rfl) (by kernel_rfl) (yl_other (by decide) (by decide) rfl (fun f1 f2 wx hT => ?_)) ?_; rotate_left
  · have hT : wx = W := hT; rw [hT]; refine lands_value (w := W) ?_ rfl; go_simp <;> rfl
  simp only [pu]
  refine anyL_take (i := 3) (v := .slice (some ⟨g, off, none⟩) (n + 1) c) rfl (by kernel_rfl) (by kernel_rfl) (by kernel_rfl) (yl_other (by decide) (by decide) rfl (fun f1 f2 wx hT => ?_)) ?_
  · have hT : wx = W := hT; rw [hT]; have c0 := HF0.out; refine lands_value (w := W) ?_ rfl; go_simp
  simp only [pu]
  refine anyL_take (i := 4) (v := ?_) rfl (by kernel_rfl) (by kernel_rfl) (by kernel_rfl) (yl_other (by decide) (by decide) rfl (fun f1 f2 wx hT => ?_)) ?_; rotate_left
  · have hT : wx = W := hT; rw [hT]; refine lands_value (w := W) ?_ rfl; go_simp <;> rfl
  simp only [pu]
  refine anyL_take (i := 5) (v := ?_) rfl (by kernel_rfl) (by kernel_rfl) (by kernel_rfl) (yl_other (by decide) (by decide) rfl (fun f1 f2 wx hT => ?_)) ?_; rotate_left
  · have hT : wx = W := hT; rw [hT]; refine lands_value (w := W) ?_ rfl; go_simp <;> rfl
  simp only [pu]
  refine anyL_take (i := 6) (v := ?_) rfl (by kernel_rfl) (by kernel_rfl) (by kernel_rfl) (yl_other (by decide) (by decide) rfl (fun f1 f2 wx hT => ?_)) ?_; rotate_left
  · have hT : wx = W := hT; rw [hT]; refine lands_value (w := W) ?_ rfl; go_simp <;> rfl
  simp only [pu]
  refine anyL_take (i := 7) (v := ?_) rfl (by kernel_rfl) (by kernel_rfl) (by kernel_rfl) (yl_other (by decide) (by decide) rfl (fun f1 f2 wx hT => ?_)) ?_; rotate_left
  · have hT : wx = W := hT; rw [hT]; refine lands_value (w := W) ?_ rfl; go_simp <;> rfl
  simp only [pu]
  refine anyL_take (i := 8) (v := ?_) rfl (by kernel_rfl) (by kernel_rfl) (by kernel_rfl) (yl_other (by decide) (by decide) rfl (fun f1 f2 wx hT => ?_)) ?_; rotate_left
  · have hT : wx = W := hT; rw [hT]; refine lands_value (w := W) ?_ rfl; go_simp <;> rfl
  simp only [pu]
  refine anyL_take (i := 9) (v := ?_) rfl (by kernel_rfl) (by kernel_rfl) (by kernel_rfl) (yl_other (by decide) (by decide) rfl (fun f1 f2 wx hT => ?_)) ?_; rotate_left
  · have hT : wx = W := hT; rw [hT]; refine lands_value (w := W) ?_ rfl; go_simp <;> rfl
  simp only [pu]
  refine anyL_take (i := 10) (v := .slice aj 0 cj) rfl (by kernel_rfl) (by kernel_rfl) (by kernel_rfl) (yl_other (by decide) (by decide) rfl (fun f1 f2 wx hT => ?_)) ?_
  · have hT : wx = W := hT; rw [hT]; have c0 := HF1.out; refine lands_value (w := W) ?_ rfl; go_simp
  simp only [pu]
  refine anyL_take (i := 11) (v := ?_) rfl (by kernel_rfl) (by kernel_rfl) (by kernel_rfl) (yl_other (by decide) (by decide) rfl (fun f1 f2 wx hT => ?_)) ?_; rotate_left
  · have hT : wx = W := hT; rw [hT]; refine lands_value (w := W) ?_ rfl; go_simp <;> rfl
  simp only [pu]
  refine anyL_take (i := 12) (v := ?_) rfl (by kernel_rfl) (by kernel_rfl) (by kernel_rfl) (yl_other (by decide) (by decide) rfl (fun f1 f2 wx hT => ?_)) ?_; rotate_left
  · have hT : wx = W := hT; rw [hT]; refine lands_value (w := W) ?_ rfl; go_simp <;> rfl
  simp only [pu]
  refine anyL_take (i := 13) (v := ?_) rfl (by kernel_rfl) (by kernel_rfl) (by kernel_rfl) (yl_other (by decide) (by decide) rfl (fun f1 f2 wx hT => ?_)) ?_; rotate_left
  · have hT : wx = W := hT; rw [hT]; refine lands_value (w := W) ?_ rfl; go_simp <;> rfl
  simp only [pu]
  refine anyL_take (i := 14) rfl (by kernel_rfl) (by kernel_rfl) (by kernel_rfl) (yl_skip (by decide) (by decide) rfl) ?_
  simp only [pu]
  refine anyL_take (i := 15) rfl (by kernel_rfl) (by kernel_rfl) (by kernel_rfl) (yl_skip (by decide) (by decide) rfl) ?_
  simp only [pu]
  refine anyL_take (i := 16) rfl (by kernel_rfl) (by kernel_rfl) (by kernel_rfl) (yl_skip (by decide) (by decide) rfl) ?_
  simp only [pu]
  refine anyL_take (i := 17) rfl (by kernel_rfl) (by kernel_rfl) (by kernel_rfl) (yl_skip (by decide) (by decide) rfl) ?_
  simp only [pu]
  refine anyL_take (i := 18) rfl (by kernel_rfl) (by kernel_rfl) (by kernel_rfl) (yl_skip (by decide) (by decide) rfl) ?_
  simp only [pu]
  refine anyL_take (i := 19) rfl (by kernel_rfl) (by kernel_rfl) (by kernel_rfl) (yl_skip (by decide) (by decide) rfl) ?_
  simp only [pu]
  refine anyL_take (i := 20) rfl (by kernel_rfl) (by kernel_rfl) (by kernel_rfl) (yl_skip (by decide) (by decide) rfl) ?_
  simp only [pu]
  refine anyL_take (i := 21) rfl (by kernel_rfl) (by kernel_rfl) (by kernel_rfl) (yl_skip (by decide) (by decide) rfl) ?_
  simp only [pu]
  refine anyL_take (i := 22) rfl (by kernel_rfl) (by kernel_rfl) (by kernel_rfl) (yl_skip (by decide) (by decide) rfl) ?_
  simp only [pu]
  refine anyL_take (i := 23) rfl (by kernel_rfl) (by kernel_rfl) (by kernel_rfl) (yl_skip (by decide) (by decide) rfl) ?_
  simp only [pu]
  refine anyL_take (i := 24) rfl (by kernel_rfl) (by kernel_rfl) (by kernel_rfl) (yl_skip (by decide) (by decide) rfl) ?_
  simp only [pu]
  refine anyL_take (i := 25) rfl (by kernel_rfl) (by kernel_rfl) (by kernel_rfl) (yl_skip (by decide) (by decide) rfl) ?_
  simp only [pu]
  refine anyL_take (i := 26) rfl (by kernel_rfl) (by kernel_rfl) (by kernel_rfl) (yl_skip (by decide) (by decide) rfl) ?_
  simp only [pu]
  refine anyL_take (i := 27) rfl (by kernel_rfl) (by kernel_rfl) (by kernel_rfl) (yl_skip (by decide) (by decide) rfl) ?_
  simp only [pu]
  refine anyL_take (i := 28) rfl (by kernel_rfl) (by kernel_rfl) (by kernel_rfl) (yl_skip (by decide) (by decide) rfl) ?_
  simp only [pu]
  refine anyL_take (i := 29) (v := ?_) rfl (by kernel_rfl) (by kernel_rfl) (by kernel_rfl) (yl_other (by decide) (by decide) rfl (fun f1 f2 wx hT => ?_)) ?_; rotate_left
  · have hT : wx = W := hT; rw [hT]; refine lands_value (w := W) ?_ rfl; go_simp <;> rfl
  simp only [pu]
  refine anyL_take (i := 30) (v := ?_) rfl (by kernel_rfl) (by kernel_rfl) (by kernel_rfl) (yl_other (by decide) (by decide) rfl (fun f1 f2 wx hT => ?_)) ?_; rotate_left
  · have hT : wx = W := hT; rw [hT]; refine lands_value (w := W) ?_ rfl; go_simp <;> rfl
  simp only [pu]
  refine anyL_done (by kernel_rfl) (fun wr2 hT => ?_) _
  obtain rfl : W = wr2 := Eq.symm hT
  clear z0
  have hqW : q < W.heap.size := by rw [HZW.out]; omega
  have hgW : g < W.heap.size := by rw [HZW.out]; have := HHQ.out.2; omega
  have hwW : w.heap.size < W.heap.size := by rw [HZW.out]; omega
  have s0 := HS0.out
  have s1 := HS1.out
  have f0 := HF0.out
  have f1 := HF1.out
  have z0 := zeroNode
  have fq := HFW.out.frozen 0
  have r0 : W.cell? ⟨w.heap.size, 0, none⟩ = some (.int .i64 0) := HRW.out.cell 0
  have r1 : W.cell? ⟨w.heap.size, 1, none⟩ = some (.int .i64 0) := HRW.out.cell 1
  have fr0 := HRW.out.frozen 0
  have fr1 := HRW.out.frozen 1
  have hqw : q ≠ w.heap.size := by omega
  by_cases hc1 : c = 1
  · obtain rfl : n = 0 := by omega
    subst hc1
    go_wp2_with fail
    have hres := (((HRW.out.far (p := ⟨q, 0, none⟩) hqw.symm (.slice (some ⟨g, off, none⟩) 0 0)).set_ 0 (.int .i64 (x : Int))).set_ 1 (.int .i64 (y : Int))).alloc (.cells #[.int .i64 (x : Int), .int .i64 (y : Int)] 75)
    have hblk := (((HFW.out.set_ 0 (.slice (some ⟨g, off, none⟩) 0 0)).far (p := ⟨w.heap.size, 0, none⟩) hqw (.int .i64 (x : Int))).far (p := ⟨w.heap.size, 1, none⟩) hqw (.int .i64 (y : Int))).alloc (.cells #[.int .i64 (x : Int), .int .i64 (y : Int)] 75)
    have hgr := grown_alloc (grown_set (grown_set (grown_set HGW.out ⟨q, 0, none⟩ (.inr rfl) (.slice (some ⟨g, off, none⟩) 0 0)) ⟨w.heap.size, 0, none⟩ (.inl (Nat.le_refl _)) (.int .i64 (x : Int))) ⟨w.heap.size, 1, none⟩ (.inl (Nat.le_refl _)) (.int .i64 (y : Int))) (.cells #[.int .i64 (x : Int), .int .i64 (y : Int)] 75)
    exact bodyPost_ret (results_cell_row rfl _ _ w.heap.size 75 _ (0, 0) _ rfl hres Try.underlying75 rfl size_node) rfl ⟨rfl, hblk.cast_ (by rfl), hgr⟩
  · have hcc : 1 < c := by omega
    have ecut : cutA (some ⟨g, off, none⟩) c = some ⟨g, off + 2, none⟩ := by
      unfold cutA
      rw [if_neg hc1]
      show some (Addr.add _ 2) = _
      rw [addr_add]
    go_wp2_with fail
    have hres := (((HRW.out.far (p := ⟨q, 0, none⟩) hqw.symm (.slice (some ⟨g, off + 2, none⟩) n (c - 1))).set_ 0 (.int .i64 (x : Int))).set_ 1 (.int .i64 (y : Int))).alloc (.cells #[.int .i64 (x : Int), .int .i64 (y : Int)] 75)
    have hblk := (((HFW.out.set_ 0 (.slice (some ⟨g, off + 2, none⟩) n (c - 1))).far (p := ⟨w.heap.size, 0, none⟩) hqw (.int .i64 (x : Int))).far (p := ⟨w.heap.size, 1, none⟩) hqw (.int .i64 (y : Int))).alloc (.cells #[.int .i64 (x : Int), .int .i64 (y : Int)] 75)
    have hgr := grown_alloc (grown_set (grown_set (grown_set HGW.out ⟨q, 0, none⟩ (.inr rfl) (.slice (some ⟨g, off + 2, none⟩) n (c - 1))) ⟨w.heap.size, 0, none⟩ (.inl (Nat.le_refl _)) (.int .i64 (x : Int))) ⟨w.heap.size, 1, none⟩ (.inl (Nat.le_refl _)) (.int .i64 (y : Int))) (.cells #[.int .i64 (x : Int), .int .i64 (y : Int)] 75)
    exact bodyPost_ret (results_cell_row rfl _ _ w.heap.size 75 _ (0, 0) _ rfl hres Try.underlying75 rfl size_node) rfl ⟨rfl, hblk.cast_ (by rw [ecut]; rfl), hgr⟩
set_option maxRecDepth 100000 in
set_option maxHeartbeats 1000000 in
theorem take_j0 (q : Nat) (g off n c x y : Nat) (aj : Option Addr) (cj : Nat) (w : World) (hf : Blk w q 73 #[.slice aj 0 cj, .slice (some ⟨g, off, none⟩) (n + 1) c]) (hn : n + 1 ≤ c)
    (h0 : w.cell? ⟨g, off, none⟩ = some (.int .i64 (x : Int))) (h1 : w.cell? ⟨g, off + 1, none⟩ = some (.int .i64 (y : Int))) :
    Calls Try.prog 44 #[.pointer (some ⟨q, 0, none⟩)] w fun e w' => e = .returned (.agg #[.int .i64 (x : Int), .int .i64 (y : Int)]) ∧ Blk w' q 73 #[.slice aj 0 cj, .slice (cutA (some ⟨g, off, none⟩) c) n (c - 1)] ∧ w.grownBy w' (some q) := by
  have z0 := zeroNode
  have hq := hf.lt
  have hgl : ∀ a : Addr, ∀ v, w.cell? a = some v → a.block < w.heap.size := fun a v h => by
    rcases Nat.lt_or_ge a.block w.heap.size with h2 | h2
    · exact h2
    · simp [World.cell?, Array.getElem?_eq_none h2] at h
  obtain ⟨W, hW⟩ : ∃ W, W = (w.alloc (.cells #[.int .i64 0, .int .i64 0] 75)).drew := ⟨_, rfl⟩
  have bW : Below w.heap.size w W := by rw [hW]; exact ((Below.refl _ w).alloc (Nat.le_refl _) _).drew
  have HFW : Hid (Blk W q 73 #[.slice aj 0 cj, .slice (some ⟨g, off, none⟩) (n + 1) c]) := Lib.hid (hf.below bW hq)
  have HRW : Hid (Blk W w.heap.size 75 #[.int .i64 0, .int .i64 0]) := Lib.hid (by rw [hW]; exact (Blk.new w _ _).drew)
  have HZW : Hid (W.heap.size = w.heap.size + 1) := Lib.hid (by rw [hW]; simp [World.drew])
  have HGW : Hid (w.grownBy W (some q)) := Lib.hid (by rw [hW]; exact grown_drew (World.grownBy_alloc w _ _))
  have HF0 : Hid (W.cell? ⟨q, 0, none⟩ = some (.slice aj 0 cj)) := Lib.hid (HFW.out.cell 0)
  have HF1 : Hid (W.cell? ⟨q, 1, none⟩ = some (.slice (some ⟨g, off, none⟩) (n + 1) c)) := Lib.hid (HFW.out.cell 1)
  have HS0 : Hid (W.cell? ⟨g, off, none⟩ = some (.int .i64 (x : Int))) := Lib.hid ((bW.cell (p := ⟨g, off, none⟩) (hgl _ _ h0)).trans h0)
  have HS1 : Hid (W.cell? ⟨g, off + 1, none⟩ = some (.int .i64 (y : Int))) := Lib.hid ((bW.cell (p := ⟨g, off + 1, none⟩) (hgl _ _ h1)).trans h1)
  have HHQ : Hid (q < w.heap.size ∧ g < w.heap.size) := Lib.hid ⟨hq, hgl _ _ h0⟩
  have HWE := Lib.hid hW
  clear h0 h1 hgl hf bW hW
  go_enter Try.func44, Try.ntmps44
  go_wp2_with fail
  refine wp_region_anyL (Two 1000 1001 fun _ _ wx => wx = W) (by kernel_rfl) HWE.out.symm ?_
  refine anyL_take (i := 0) (v := ?_) rfl (by kernel_rfl) (by kernel_rfl) (by kernel_rfl) (yl_other (by decide) (by decide) rfl (fun f1 f2 wx hT => ?_)) ?_; rotate_left
  · have hT : wx = W := hT; rw [hT]; refine lands_value (w := W) ?_ rfl; go_simp <;> rfl
  simp only [pu]
  refine anyL_take (i := 1) (v := ?_) rfl (by kernel_rfl) (by kernel_rfl) (by kernel_rfl) (yl_other (by decide) (by decide) rfl (fun f1 f2 wx hT => ?_)) ?_; rotate_left
  · have hT : wx = W := hT; rw [hT]; refine lands_value (w := W) ?_ rfl; go_simp <;> rfl
  simp only [pu]
  refine anyL_take (i := 2) (v := ?_) rfl (by kernel_rfl) (by kernel_rfl) (by kernel_rfl) (yl_other (by decide) (by decide) rfl (fun f1 f2 wx hT => ?_)) ?_; rotate_left
  · have hT : wx = W := hT; rw [hT]; refine lands_value (w := W) ?_ rfl; go_simp <;> rfl
  simp only [pu]
  refine anyL_take (i := 3) (v := .slice aj 0 cj) rfl (by kernel_rfl) (by kernel_rfl) (by kernel_rfl) (yl_other (by decide) (by decide) rfl (fun f1 f2 wx hT => ?_)) ?_
  · have hT : wx = W := hT; rw [hT]; have c0 := HF0.out; refine lands_value (w := W) ?_ rfl; go_simp
  simp only [pu]
  refine anyL_take (i := 4) (v := ?_) rfl (by kernel_rfl) (by kernel_rfl) (by kernel_rfl) (yl_other (by decide) (by decide) rfl (fun f1 f2 wx hT => ?_)) ?_; rotate_left
  · have hT : wx = W := hT; rw [hT]; refine lands_value (w := W) ?_ rfl; go_simp <;> rfl
  simp only [pu]
  refine anyL_take (i := 5) (v := ?_) rfl (by kernel_rfl) (by kernel_rfl) (by kernel_rfl) (yl_other (by decide) (by decide) rfl (fun f1 f2 wx hT => ?_)) ?_; rotate_left
  · have hT : wx = W := hT; rw [hT]; refine lands_value (w := W) ?_ rfl; go_simp <;> rfl
  simp only [pu]
  refine anyL_take (i := 6) (v := ?_) rfl (by kernel_rfl) (by kernel_rfl) (by kernel_rfl) (yl_other (by decide) (by decide) rfl (fun f1 f2 wx hT => ?_)) ?_; rotate_left
  · have hT : wx = W := hT; rw [hT]; refine lands_value (w := W) ?_ rfl; go_simp <;> rfl
  simp only [pu]
  refine anyL_take (i := 7) rfl (by kernel_rfl) (by kernel_rfl) (by kernel_rfl) (yl_skip (by decide) (by decide) rfl) ?_
  simp only [pu]
  refine anyL_take (i := 8) rfl (by kernel_rfl) (by kernel_rfl) (by kernel_rfl) (yl_skip (by decide) (by decide) rfl) ?_
  simp only [pu]
  refine anyL_take (i := 9) rfl (by kernel_rfl) (by kernel_rfl) (by kernel_rfl) (yl_skip (by decide) (by decide) rfl) ?_
  simp only [pu]
  refine anyL_take (i := 10) rfl (by kernel_rfl) (by kernel_rfl) (by kernel_rfl) (yl_skip (by decide) (by decide) rfl) ?_
  simp only [pu]
  refine anyL_take (i := 11) rfl (by kernel_rfl) (by kernel_rfl) (by kernel_rfl) (yl_skip (by decide) (by decide) rfl) ?_
  simp only [pu]
  refine anyL_take (i := 12) rfl (by kernel_rfl) (by kernel_rfl) (by kernel_rfl) (yl_skip (by decide) (by decide) rfl) ?_
  simp only [pu]
  refine anyL_take (i := 13) rfl (by kernel_rfl) (by kernel_rfl) (by kernel_rfl) (yl_skip (by decide) (by decide) rfl) ?_
  simp only [pu]
  refine anyL_take (i := 14) rfl (by kernel_rfl) (by kernel_rfl) (by kernel_rfl) (yl_skip (by decide) (by decide) rfl) ?_
  simp only [pu]
  refine anyL_take (i := 15) rfl (by kernel_rfl) (by kernel_rfl) (by kernel_rfl) (yl_skip (by decide) (by decide) rfl) ?_
  simp only [pu]
  refine anyL_take (i := 16) rfl (by kernel_rfl) (by kernel_rfl) (by kernel_rfl) (yl_skip (by decide) (by decide) rfl) ?_
  simp only [pu]
  refine anyL_take (i := 17) rfl (by kernel_rfl) (by kernel_rfl) (by kernel_rfl) (yl_skip (by decide) (by decide) rfl) ?_
  simp only [pu]
  refine anyL_take (i := 18) rfl (by kernel_rfl) (by kernel_rfl) (by kernel_rfl) (yl_skip (by decide) (by decide) rfl) ?_
  simp only [pu]
  refine anyL_take (i := 19) rfl (by kernel_rfl) (by kernel_rfl) (by kernel_rfl) (yl_skip (by decide) (by decide) rfl) ?_
  simp only [pu]
  refine anyL_take (i := 20) rfl (by kernel_rfl) (by kernel_rfl) (by kernel_rfl) (yl_skip (by decide) (by decide) rfl) ?_
  simp only [pu]
  refine anyL_take (i := 21) rfl (by kernel_rfl) (by kernel_rfl) (by kernel_rfl) (yl_skip (by decide) (by decide) rfl) ?_
  simp only [pu]
  refine anyL_take (i := 22) rfl (by kernel_rfl) (by kernel_rfl) (by kernel_rfl) (yl_skip (by decide) (by decide) rfl) ?_
  simp only [pu]
  refine anyL_take (i := 23) rfl (by kernel_rfl) (by kernel_rfl) (by kernel_rfl) (yl_skip (by decide) (by decide) rfl) ?_
  simp only [pu]
  refine anyL_take (i := 24) rfl (by kernel_rfl) (by kernel_rfl) (by kernel_rfl) (yl_skip (by decide) (by decide) rfl) ?_
  simp only [pu]
  refine anyL_take (i := 25) rfl (by kernel_rfl) (by kernel_rfl) (by kernel_rfl) (yl_skip (by decide) (by decide) rfl) ?_
  simp only [pu]
  refine anyL_take (i := 26) rfl (by kernel_rfl) (by kernel_rfl) (by kernel_rfl) (yl_skip (by decide) (by decide) rfl) ?_
  simp only [pu]
  refine anyL_take (i := 27) rfl (by kernel_rfl) (by kernel_rfl) (by kernel_rfl) (yl_skip (by decide) (by decide) rfl) ?_
  simp only [pu]
  refine anyL_take (i := 28) rfl (by kernel_rfl) (by kernel_rfl) (by kernel_rfl) (yl_skip (by decide) (by decide) rfl) ?_
  simp only [pu]
  refine anyL_take (i := 29) rfl (by kernel_rfl) (by kernel_rfl) (by kernel_rfl) (yl_skip (by decide) (by decide) rfl) ?_
  simp only [pu]
  refine anyL_take (i := 30) (v := ?_) rfl (by kernel_rfl) (by kernel_rfl) (by kernel_rfl) (yl_other (by decide) (by decide) rfl (fun f1 f2 wx hT => ?_)) ?_; rotate_left
  · have hT : wx = W := hT; rw [hT]; refine lands_value (w := W) ?_ rfl; go_simp <;> rfl
  simp only [pu]
  refine anyL_done (by kernel_rfl) (fun wr2 hT => ?_) _
  obtain rfl : W = wr2 := Eq.symm hT
  clear z0
  have hqW : q < W.heap.size := by rw [HZW.out]; omega
  have hgW : g < W.heap.size := by rw [HZW.out]; have := HHQ.out.2; omega
  have hwW : w.heap.size < W.heap.size := by rw [HZW.out]; omega
  have s0 := HS0.out
  have s1 := HS1.out
  have f0 := HF0.out
  have f1 := HF1.out
  have z0 := zeroNode
  have fq := HFW.out.frozen 1
  have r0 : W.cell? ⟨w.heap.size, 0, none⟩ = some (.int .i64 0) := HRW.out.cell 0
  have r1 : W.cell? ⟨w.heap.size, 1, none⟩ = some (.int .i64 0) := HRW.out.cell 1
  have fr0 := HRW.out.frozen 0
  have fr1 := HRW.out.frozen 1
  have hqw : q ≠ w.heap.size := by omega
  by_cases hc1 : c = 1
  · obtain rfl : n = 0 := by omega
    subst hc1
    go_wp2_with fail
    have hres := (((HRW.out.far (p := ⟨q, 1, none⟩) hqw.symm (.slice (some ⟨g, off, none⟩) 0 0)).set_ 0 (.int .i64 (x : Int))).set_ 1 (.int .i64 (y : Int))).alloc (.cells #[.int .i64 (x : Int), .int .i64 (y : Int)] 75)
    have hblk := (((HFW.out.set_ 1 (.slice (some ⟨g, off, none⟩) 0 0)).far (p := ⟨w.heap.size, 0, none⟩) hqw (.int .i64 (x : Int))).far (p := ⟨w.heap.size, 1, none⟩) hqw (.int .i64 (y : Int))).alloc (.cells #[.int .i64 (x : Int), .int .i64 (y : Int)] 75)
    have hgr := grown_alloc (grown_set (grown_set (grown_set HGW.out ⟨q, 1, none⟩ (.inr rfl) (.slice (some ⟨g, off, none⟩) 0 0)) ⟨w.heap.size, 0, none⟩ (.inl (Nat.le_refl _)) (.int .i64 (x : Int))) ⟨w.heap.size, 1, none⟩ (.inl (Nat.le_refl _)) (.int .i64 (y : Int))) (.cells #[.int .i64 (x : Int), .int .i64 (y : Int)] 75)
    exact bodyPost_ret (results_cell_row rfl _ _ w.heap.size 75 _ (0, 0) _ rfl hres Try.underlying75 rfl size_node) rfl ⟨rfl, hblk.cast_ (by rfl), hgr⟩
  · have hcc : 1 < c := by omega
    have ecut : cutA (some ⟨g, off, none⟩) c = some ⟨g, off + 2, none⟩ := by
      unfold cutA
      rw [if_neg hc1]
      show some (Addr.add _ 2) = _
      rw [addr_add]
    go_wp2_with fail
    have hres := (((HRW.out.far (p := ⟨q, 1, none⟩) hqw.symm (.slice (some ⟨g, off + 2, none⟩) n (c - 1))).set_ 0 (.int .i64 (x : Int))).set_ 1 (.int .i64 (y : Int))).alloc (.cells #[.int .i64 (x : Int), .int .i64 (y : Int)] 75)
    have hblk := (((HFW.out.set_ 1 (.slice (some ⟨g, off + 2, none⟩) n (c - 1))).far (p := ⟨w.heap.size, 0, none⟩) hqw (.int .i64 (x : Int))).far (p := ⟨w.heap.size, 1, none⟩) hqw (.int .i64 (y : Int))).alloc (.cells #[.int .i64 (x : Int), .int .i64 (y : Int)] 75)
    have hgr := grown_alloc (grown_set (grown_set (grown_set HGW.out ⟨q, 1, none⟩ (.inr rfl) (.slice (some ⟨g, off + 2, none⟩) n (c - 1))) ⟨w.heap.size, 0, none⟩ (.inl (Nat.le_refl _)) (.int .i64 (x : Int))) ⟨w.heap.size, 1, none⟩ (.inl (Nat.le_refl _)) (.int .i64 (y : Int))) (.cells #[.int .i64 (x : Int), .int .i64 (y : Int)] 75)
    exact bodyPost_ret (results_cell_row rfl _ _ w.heap.size 75 _ (0, 0) _ rfl hres Try.underlying75 rfl size_node) rfl ⟨rfl, hblk.cast_ (by rw [ecut]; rfl), hgr⟩
set_option maxRecDepth 100000 in
set_option maxHeartbeats 1000000 in
theorem take_s (q : Nat) (g off n c x y : Nat) (g2 off2 n2 c2 z : Nat) (w : World) (hf : Blk w q 73 #[.slice (some ⟨g, off, none⟩) (n + 1) c, .slice (some ⟨g2, off2, none⟩) (n2 + 1) c2]) (hn : n + 1 ≤ c)
    (h0 : w.cell? ⟨g, off, none⟩ = some (.int .i64 (x : Int))) (h1 : w.cell? ⟨g, off + 1, none⟩ = some (.int .i64 (y : Int))) (h2 : w.cell? ⟨g2, off2, none⟩ = some (.int .i64 (z : Int))) (hlt : ¬ (z : Int) < (x : Int)) :
    Calls Try.prog 44 #[.pointer (some ⟨q, 0, none⟩)] w fun e w' => e = .returned (.agg #[.int .i64 (x : Int), .int .i64 (y : Int)]) ∧ Blk w' q 73 #[.slice (cutA (some ⟨g, off, none⟩) c) n (c - 1), .slice (some ⟨g2, off2, none⟩) (n2 + 1) c2] ∧ w.grownBy w' (some q) := by
  have z0 := zeroNode
  have hq := hf.lt
  have hgl : ∀ a : Addr, ∀ v, w.cell? a = some v → a.block < w.heap.size := fun a v h => by
    rcases Nat.lt_or_ge a.block w.heap.size with h2 | h2
    · exact h2
    · simp [World.cell?, Array.getElem?_eq_none h2] at h
  obtain ⟨W, hW⟩ : ∃ W, W = (w.alloc (.cells #[.int .i64 0, .int .i64 0] 75)).drew := ⟨_, rfl⟩
  have bW : Below w.heap.size w W := by rw [hW]; exact ((Below.refl _ w).alloc (Nat.le_refl _) _).drew
  have HFW : Hid (Blk W q 73 #[.slice (some ⟨g, off, none⟩) (n + 1) c, .slice (some ⟨g2, off2, none⟩) (n2 + 1) c2]) := Lib.hid (hf.below bW hq)
  have HRW : Hid (Blk W w.heap.size 75 #[.int .i64 0, .int .i64 0]) := Lib.hid (by rw [hW]; exact (Blk.new w _ _).drew)
  have HZW : Hid (W.heap.size = w.heap.size + 1) := Lib.hid (by rw [hW]; simp [World.drew])
  have HGW : Hid (w.grownBy W (some q)) := Lib.hid (by rw [hW]; exact grown_drew (World.grownBy_alloc w _ _))
  have HF0 : Hid (W.cell? ⟨q, 0, none⟩ = some (.slice (some ⟨g, off, none⟩) (n + 1) c)) := Lib.hid (HFW.out.cell 0)
  have HF1 : Hid (W.cell? ⟨q, 1, none⟩ = some (.slice (some ⟨g2, off2, none⟩) (n2 + 1) c2)) := Lib.hid (HFW.out.cell 1)
  have HS0 : Hid (W.cell? ⟨g, off, none⟩ = some (.int .i64 (x : Int))) := Lib.hid ((bW.cell (p := ⟨g, off, none⟩) (hgl _ _ h0)).trans h0)
  have HS1 : Hid (W.cell? ⟨g, off + 1, none⟩ = some (.int .i64 (y : Int))) := Lib.hid ((bW.cell (p := ⟨g, off + 1, none⟩) (hgl _ _ h1)).trans h1)
  have HJ0 : Hid (W.cell? ⟨g2, off2, none⟩ = some (.int .i64 (z : Int))) := Lib.hid ((bW.cell (p := ⟨g2, off2, none⟩) (hgl _ _ h2)).trans h2)
  have HHQ : Hid (q < w.heap.size ∧ g < w.heap.size) := Lib.hid ⟨hq, hgl _ _ h0⟩
  have HWE := Lib.hid hW
  clear h0 h1 hgl hf bW h2 hW
  go_enter Try.func44, Try.ntmps44
  go_wp2_with fail
  refine wp_region_anyL (Two 1000 1001 fun _ _ wx => wx = W) (by kernel_rfl) HWE.out.symm ?_
  refine anyL_take (i := 0) (v := ?_) rfl (by kernel_rfl) (by kernel_rfl) (by kernel_rfl) (yl_other (by decide) (by decide) rfl (fun f1 f2 wx hT => ?_)) ?_; rotate_left
  · have hT : wx = W := hT; rw [hT]; refine lands_value (w := W) ?_ rfl; go_simp <;> rfl
  simp only [pu]
  refine anyL_take (i := 1) (v := ?_) rfl (by kernel_rfl) (by kernel_rfl) (by kernel_rfl) (yl_other (by decide) (by decide) rfl (fun f1 f2 wx hT => ?_)) ?_; rotate_left
  · have hT : wx = W := hT; rw [hT]; refine lands_value (w := W) ?_ rfl; go_simp <;> rfl
  simp only [pu]
  refine anyL_take (i := 2) (v := ?_) rfl (by kernel_rfl) (by kernel_rfl) (by kernel_rfl) (yl_other (by decide) (by decide) rfl (fun f1 f2 wx hT => ?_)) ?_; rotate_left
  · have hT : wx = W := hT; rw [hT]; refine lands_value (w := W) ?_ rfl; go_simp <;> rfl
  simp only [pu]
  refine anyL_take (i := 3) (v := .slice (some ⟨g, off, none⟩) (n + 1) c) rfl (by kernel_rfl) (by kernel_rfl) (by kernel_rfl) (yl_other (by decide) (by decide) rfl (fun f1 f2 wx hT => ?_)) ?_
  · have hT : wx = W := hT; rw [hT]; have c0 := HF0.out; refine lands_value (w := W) ?_ rfl; go_simp
  simp only [pu]
  refine anyL_take (i := 4) (v := ?_) rfl (by kernel_rfl) (by kernel_rfl) (by kernel_rfl) (yl_other (by decide) (by decide) rfl (fun f1 f2 wx hT => ?_)) ?_; rotate_left
  · have hT : wx = W := hT; rw [hT]; refine lands_value (w := W) ?_ rfl; go_simp <;> rfl
  simp only [pu]
  refine anyL_take (i := 5) (v := ?_) rfl (by kernel_rfl) (by kernel_rfl) (by kernel_rfl) (yl_other (by decide) (by decide) rfl (fun f1 f2 wx hT => ?_)) ?_; rotate_left
  · have hT : wx = W := hT; rw [hT]; refine lands_value (w := W) ?_ rfl; go_simp <;> rfl
  simp only [pu]
  refine anyL_take (i := 6) (v := ?_) rfl (by kernel_rfl) (by kernel_rfl) (by kernel_rfl) (yl_other (by decide) (by decide) rfl (fun f1 f2 wx hT => ?_)) ?_; rotate_left
  · have hT : wx = W := hT; rw [hT]; refine lands_value (w := W) ?_ rfl; go_simp <;> rfl
  simp only [pu]
  refine anyL_take (i := 7) (v := ?_) rfl (by kernel_rfl) (by kernel_rfl) (by kernel_rfl) (yl_other (by decide) (by decide) rfl (fun f1 f2 wx hT => ?_)) ?_; rotate_left
  · have hT : wx = W := hT; rw [hT]; refine lands_value (w := W) ?_ rfl; go_simp <;> rfl
  simp only [pu]
  refine anyL_take (i := 8) (v := ?_) rfl (by kernel_rfl) (by kernel_rfl) (by kernel_rfl) (yl_other (by decide) (by decide) rfl (fun f1 f2 wx hT => ?_)) ?_; rotate_left
  · have hT : wx = W := hT; rw [hT]; refine lands_value (w := W) ?_ rfl; go_simp <;> rfl
  simp only [pu]
  refine anyL_take (i := 9) (v := ?_) rfl (by kernel_rfl) (by kernel_rfl) (by kernel_rfl) (yl_other (by decide) (by decide) rfl (fun f1 f2 wx hT => ?_)) ?_; rotate_left
  · have hT : wx = W := hT; rw [hT]; refine lands_value (w := W) ?_ rfl; go_simp <;> rfl
  simp only [pu]
  refine anyL_take (i := 10) (v := .slice (some ⟨g2, off2, none⟩) (n2 + 1) c2) rfl (by kernel_rfl) (by kernel_rfl) (by kernel_rfl) (yl_other (by decide) (by decide) rfl (fun f1 f2 wx hT => ?_)) ?_
  · have hT : wx = W := hT; rw [hT]; have c0 := HF1.out; refine lands_value (w := W) ?_ rfl; go_simp
  simp only [pu]
  refine anyL_take (i := 11) (v := ?_) rfl (by kernel_rfl) (by kernel_rfl) (by kernel_rfl) (yl_other (by decide) (by decide) rfl (fun f1 f2 wx hT => ?_)) ?_; rotate_left
  · have hT : wx = W := hT; rw [hT]; refine lands_value (w := W) ?_ rfl; go_simp <;> rfl
  simp only [pu]
  refine anyL_take (i := 12) (v := ?_) rfl (by kernel_rfl) (by kernel_rfl) (by kernel_rfl) (yl_other (by decide) (by decide) rfl (fun f1 f2 wx hT => ?_)) ?_; rotate_left
  · have hT : wx = W := hT; rw [hT]; refine lands_value (w := W) ?_ rfl; go_simp <;> rfl
  simp only [pu]
  refine anyL_take (i := 13) (v := ?_) rfl (by kernel_rfl) (by kernel_rfl) (by kernel_rfl) (yl_other (by decide) (by decide) rfl (fun f1 f2 wx hT => ?_)) ?_; rotate_left
  · have hT : wx = W := hT; rw [hT]; refine lands_value (w := W) ?_ rfl; go_simp <;> rfl
  simp only [pu]
  refine anyL_take (i := 14) (v := ?_) rfl (by kernel_rfl) (by kernel_rfl) (by kernel_rfl) (yl_other (by decide) (by decide) rfl (fun f1 f2 wx hT => ?_)) ?_; rotate_left
  · have hT : wx = W := hT; rw [hT]; refine lands_value (w := W) ?_ rfl; go_simp <;> rfl
  simp only [pu]
  refine anyL_take (i := 15) (v := ?_) rfl (by kernel_rfl) (by kernel_rfl) (by kernel_rfl) (yl_other (by decide) (by decide) rfl (fun f1 f2 wx hT => ?_)) ?_; rotate_left
  · have hT : wx = W := hT; rw [hT]; refine lands_value (w := W) ?_ rfl; go_simp <;> rfl
  simp only [pu]
  refine anyL_take (i := 16) (v := ?_) rfl (by kernel_rfl) (by kernel_rfl) (by kernel_rfl) (yl_other (by decide) (by decide) rfl (fun f1 f2 wx hT => ?_)) ?_; rotate_left
  · have hT : wx = W := hT; rw [hT]; refine lands_value (w := W) ?_ rfl; go_simp <;> rfl
  simp only [pu]
  refine anyL_take (i := 17) (v := .slice (some ⟨g2, off2, none⟩) (n2 + 1) c2) rfl (by kernel_rfl) (by kernel_rfl) (by kernel_rfl) (yl_other (by decide) (by decide) rfl (fun f1 f2 wx hT => ?_)) ?_
  · have hT : wx = W := hT; rw [hT]; have c0 := HF1.out; refine lands_value (w := W) ?_ rfl; go_simp
  simp only [pu]
  refine anyL_take (i := 18) (v := ?_) rfl (by kernel_rfl) (by kernel_rfl) (by kernel_rfl) (yl_other (by decide) (by decide) rfl (fun f1 f2 wx hT => ?_)) ?_; rotate_left
  · have hT : wx = W := hT; rw [hT]; refine lands_value (w := W) ?_ rfl; go_simp <;> rfl
  simp only [pu]
  refine anyL_take (i := 19) (v := ?_) rfl (by kernel_rfl) (by kernel_rfl) (by kernel_rfl) (yl_other (by decide) (by decide) rfl (fun f1 f2 wx hT => ?_)) ?_; rotate_left
  · have hT : wx = W := hT; rw [hT]; refine lands_value (w := W) ?_ rfl; go_simp <;> rfl
  simp only [pu]
  refine anyL_take (i := 20) (v := .int .i64 (z : Int)) rfl (by kernel_rfl) (by kernel_rfl) (by kernel_rfl) (yl_other (by decide) (by decide) rfl (fun f1 f2 wx hT => ?_)) ?_
  · have hT : wx = W := hT; rw [hT]; have c0 := HJ0.out; refine lands_value (w := W) ?_ rfl; go_simp
  simp only [pu]
  refine anyL_take (i := 21) (v := ?_) rfl (by kernel_rfl) (by kernel_rfl) (by kernel_rfl) (yl_other (by decide) (by decide) rfl (fun f1 f2 wx hT => ?_)) ?_; rotate_left
  · have hT : wx = W := hT; rw [hT]; refine lands_value (w := W) ?_ rfl; go_simp <;> rfl
  simp only [pu]
  refine anyL_take (i := 22) (v := ?_) rfl (by kernel_rfl) (by kernel_rfl) (by kernel_rfl) (yl_other (by decide) (by decide) rfl (fun f1 f2 wx hT => ?_)) ?_; rotate_left
  · have hT : wx = W := hT; rw [hT]; refine lands_value (w := W) ?_ rfl; go_simp <;> rfl
  simp only [pu]
  refine anyL_take (i := 23) (v := ?_) rfl (by kernel_rfl) (by kernel_rfl) (by kernel_rfl) (yl_other (by decide) (by decide) rfl (fun f1 f2 wx hT => ?_)) ?_; rotate_left
  · have hT : wx = W := hT; rw [hT]; refine lands_value (w := W) ?_ rfl; go_simp <;> rfl
  simp only [pu]
  refine anyL_take (i := 24) (v := .slice (some ⟨g, off, none⟩) (n + 1) c) rfl (by kernel_rfl) (by kernel_rfl) (by kernel_rfl) (yl_other (by decide) (by decide) rfl (fun f1 f2 wx hT => ?_)) ?_
  · have hT : wx = W := hT; rw [hT]; have c0 := HF0.out; refine lands_value (w := W) ?_ rfl; go_simp
  simp only [pu]
  refine anyL_take (i := 25) (v := ?_) rfl (by kernel_rfl) (by kernel_rfl) (by kernel_rfl) (yl_other (by decide) (by decide) rfl (fun f1 f2 wx hT => ?_)) ?_; rotate_left
  · have hT : wx = W := hT; rw [hT]; refine lands_value (w := W) ?_ rfl; go_simp <;> rfl
  simp only [pu]
  refine anyL_take (i := 26) (v := ?_) rfl (by kernel_rfl) (by kernel_rfl) (by kernel_rfl) (yl_other (by decide) (by decide) rfl (fun f1 f2 wx hT => ?_)) ?_; rotate_left
  · have hT : wx = W := hT; rw [hT]; refine lands_value (w := W) ?_ rfl; go_simp <;> rfl
  simp only [pu]
  refine anyL_take (i := 27) (v := .int .i64 (x : Int)) rfl (by kernel_rfl) (by kernel_rfl) (by kernel_rfl) (yl_other (by decide) (by decide) rfl (fun f1 f2 wx hT => ?_)) ?_
  · have hT : wx = W := hT; rw [hT]; have c0 := HS0.out; refine lands_value (w := W) ?_ rfl; go_simp
  simp only [pu]
  refine anyL_take (i := 28) (v := .bool false) rfl (by kernel_rfl) (by kernel_rfl) (by kernel_rfl) (yl_other (by decide) (by decide) rfl (fun f1 f2 wx hT => ?_)) ?_
  · have hT : wx = W := hT; rw [hT]; refine lands_value (w := W) ?_ rfl; go_simp <;> omega
  simp only [pu]
  refine anyL_take (i := 29) (v := ?_) rfl (by kernel_rfl) (by kernel_rfl) (by kernel_rfl) (yl_other (by decide) (by decide) rfl (fun f1 f2 wx hT => ?_)) ?_; rotate_left
  · have hT : wx = W := hT; rw [hT]; refine lands_value (w := W) ?_ rfl; go_simp <;> rfl
  simp only [pu]
  refine anyL_take (i := 30) (v := ?_) rfl (by kernel_rfl) (by kernel_rfl) (by kernel_rfl) (yl_other (by decide) (by decide) rfl (fun f1 f2 wx hT => ?_)) ?_; rotate_left
  · have hT : wx = W := hT; rw [hT]; refine lands_value (w := W) ?_ rfl; go_simp <;> rfl
  simp only [pu]
  refine anyL_done (by kernel_rfl) (fun wr2 hT => ?_) _
  obtain rfl : W = wr2 := Eq.symm hT
  clear z0
  have hqW : q < W.heap.size := by rw [HZW.out]; omega
  have hgW : g < W.heap.size := by rw [HZW.out]; have := HHQ.out.2; omega
  have hwW : w.heap.size < W.heap.size := by rw [HZW.out]; omega
  have s0 := HS0.out
  have s1 := HS1.out
  have f0 := HF0.out
  have f1 := HF1.out
  have z0 := zeroNode
  have fq := HFW.out.frozen 0
  have r0 : W.cell? ⟨w.heap.size, 0, none⟩ = some (.int .i64 0) := HRW.out.cell 0
  have r1 : W.cell? ⟨w.heap.size, 1, none⟩ = some (.int .i64 0) := HRW.out.cell 1
  have fr0 := HRW.out.frozen 0
  have fr1 := HRW.out.frozen 1
  have hqw : q ≠ w.heap.size := by omega
  by_cases hc1 : c = 1
  · obtain rfl : n = 0 := by omega
    subst hc1
    go_wp2_with fail
    have hres := (((HRW.out.far (p := ⟨q, 0, none⟩) hqw.symm (.slice (some ⟨g, off, none⟩) 0 0)).set_ 0 (.int .i64 (x : Int))).set_ 1 (.int .i64 (y : Int))).alloc (.cells #[.int .i64 (x : Int), .int .i64 (y : Int)] 75)
    have hblk := (((HFW.out.set_ 0 (.slice (some ⟨g, off, none⟩) 0 0)).far (p := ⟨w.heap.size, 0, none⟩) hqw (.int .i64 (x : Int))).far (p := ⟨w.heap.size, 1, none⟩) hqw (.int .i64 (y : Int))).alloc (.cells #[.int .i64 (x : Int), .int .i64 (y : Int)] 75)
    have hgr := grown_alloc (grown_set (grown_set (grown_set HGW.out ⟨q, 0, none⟩ (.inr rfl) (.slice (some ⟨g, off, none⟩) 0 0)) ⟨w.heap.size, 0, none⟩ (.inl (Nat.le_refl _)) (.int .i64 (x : Int))) ⟨w.heap.size, 1, none⟩ (.inl (Nat.le_refl _)) (.int .i64 (y : Int))) (.cells #[.int .i64 (x : Int), .int .i64 (y : Int)] 75)
    exact bodyPost_ret (results_cell_row rfl _ _ w.heap.size 75 _ (0, 0) _ rfl hres Try.underlying75 rfl size_node) rfl ⟨rfl, hblk.cast_ (by rfl), hgr⟩
  · have hcc : 1 < c := by omega
    have ecut : cutA (some ⟨g, off, none⟩) c = some ⟨g, off + 2, none⟩ := by
      unfold cutA
      rw [if_neg hc1]
      show some (Addr.add _ 2) = _
      rw [addr_add]
    go_wp2_with fail
    have hres := (((HRW.out.far (p := ⟨q, 0, none⟩) hqw.symm (.slice (some ⟨g, off + 2, none⟩) n (c - 1))).set_ 0 (.int .i64 (x : Int))).set_ 1 (.int .i64 (y : Int))).alloc (.cells #[.int .i64 (x : Int), .int .i64 (y : Int)] 75)
    have hblk := (((HFW.out.set_ 0 (.slice (some ⟨g, off + 2, none⟩) n (c - 1))).far (p := ⟨w.heap.size, 0, none⟩) hqw (.int .i64 (x : Int))).far (p := ⟨w.heap.size, 1, none⟩) hqw (.int .i64 (y : Int))).alloc (.cells #[.int .i64 (x : Int), .int .i64 (y : Int)] 75)
    have hgr := grown_alloc (grown_set (grown_set (grown_set HGW.out ⟨q, 0, none⟩ (.inr rfl) (.slice (some ⟨g, off + 2, none⟩) n (c - 1))) ⟨w.heap.size, 0, none⟩ (.inl (Nat.le_refl _)) (.int .i64 (x : Int))) ⟨w.heap.size, 1, none⟩ (.inl (Nat.le_refl _)) (.int .i64 (y : Int))) (.cells #[.int .i64 (x : Int), .int .i64 (y : Int)] 75)
    exact bodyPost_ret (results_cell_row rfl _ _ w.heap.size 75 _ (0, 0) _ rfl hres Try.underlying75 rfl size_node) rfl ⟨rfl, hblk.cast_ (by rw [ecut]; rfl), hgr⟩
set_option maxRecDepth 100000 in
set_option maxHeartbeats 1000000 in
theorem take_j (q : Nat) (g off n c z y : Nat) (g2 off2 n2 c2 x : Nat) (w : World) (hf : Blk w q 73 #[.slice (some ⟨g2, off2, none⟩) (n2 + 1) c2, .slice (some ⟨g, off, none⟩) (n + 1) c]) (hn : n + 1 ≤ c)
    (h0 : w.cell? ⟨g, off, none⟩ = some (.int .i64 (z : Int))) (h1 : w.cell? ⟨g, off + 1, none⟩ = some (.int .i64 (y : Int))) (h2 : w.cell? ⟨g2, off2, none⟩ = some (.int .i64 (x : Int))) (hlt : (z : Int) < (x : Int)) :
    Calls Try.prog 44 #[.pointer (some ⟨q, 0, none⟩)] w fun e w' => e = .returned (.agg #[.int .i64 (z : Int), .int .i64 (y : Int)]) ∧ Blk w' q 73 #[.slice (some ⟨g2, off2, none⟩) (n2 + 1) c2, .slice (cutA (some ⟨g, off, none⟩) c) n (c - 1)] ∧ w.grownBy w' (some q) := by
  have z0 := zeroNode
  have hq := hf.lt
  have hgl : ∀ a : Addr, ∀ v, w.cell? a = some v → a.block < w.heap.size := fun a v h => by
    rcases Nat.lt_or_ge a.block w.heap.size with h2 | h2
    · exact h2
    · simp [World.cell?, Array.getElem?_eq_none h2] at h
  obtain ⟨W, hW⟩ : ∃ W, W = (w.alloc (.cells #[.int .i64 0, .int .i64 0] 75)).drew := ⟨_, rfl⟩
  have bW : Below w.heap.size w W := by rw [hW]; exact ((Below.refl _ w).alloc (Nat.le_refl _) _).drew
  have HFW : Hid (Blk W q 73 #[.slice (some ⟨g2, off2, none⟩) (n2 + 1) c2, .slice (some ⟨g, off, none⟩) (n + 1) c]) := Lib.hid (hf.below bW hq)
  have HRW : Hid (Blk W w.heap.size 75 #[.int .i64 0, .int .i64 0]) := Lib.hid (by rw [hW]; exact (Blk.new w _ _).drew)
  have HZW : Hid (W.heap.size = w.heap.size + 1) := Lib.hid (by rw [hW]; simp [World.drew])
  have HGW : Hid (w.grownBy W (some q)) := Lib.hid (by rw [hW]; exact grown_drew (World.grownBy_alloc w _ _))
  have HF0 : Hid (W.cell? ⟨q, 0, none⟩ = some (.slice (some ⟨g2, off2, none⟩) (n2 + 1) c2)) := Lib.hid (HFW.out.cell 0)
  have HF1 : Hid (W.cell? ⟨q, 1, none⟩ = some (.slice (some ⟨g, off, none⟩) (n + 1) c)) := Lib.hid (HFW.out.cell 1)
  have HS0 : Hid (W.cell? ⟨g, off, none⟩ = some (.int .i64 (z : Int))) := Lib.hid ((bW.cell (p := ⟨g, off, none⟩) (hgl _ _ h0)).trans h0)
  have HS1 : Hid (W.cell? ⟨g, off + 1, none⟩ = some (.int .i64 (y : Int))) := Lib.hid ((bW.cell (p := ⟨g, off + 1, none⟩) (hgl _ _ h1)).trans h1)
  have HJ0 : Hid (W.cell? ⟨g2, off2, none⟩ = some (.int .i64 (x : Int))) := Lib.hid ((bW.cell (p := ⟨g2, off2, none⟩) (hgl _ _ h2)).trans h2)
  have HHQ : Hid (q < w.heap.size ∧ g < w.heap.size) := Lib.hid ⟨hq, hgl _ _ h0⟩
  have HWE := Lib.hid hW
  clear h0 h1 hgl hf bW h2 hW
  go_enter Try.func44, Try.ntmps44
  go_wp2_with fail
  refine wp_region_anyL (Two 1000 1001 fun _ _ wx => wx = W) (by kernel_rfl) HWE.out.symm ?_
  refine anyL_take (i := 0) (v := ?_) rfl (by kernel_rfl) (by kernel_rfl) (by kernel_rfl) (yl_other (by decide) (by decide) rfl (fun f1 f2 wx hT => ?_)) ?_; rotate_left
  · have hT : wx = W := hT; rw [hT]; refine lands_value (w := W) ?_ rfl; go_simp <;> rfl
  simp only [pu]
  refine anyL_take (i := 1) (v := ?_) rfl (by kernel_rfl) (by kernel_rfl) (by kernel_rfl) (yl_other (by decide) (by decide) rfl (fun f1 f2 wx hT => ?_)) ?_; rotate_left
  · have hT : wx = W := hT; rw [hT]; refine lands_value (w := W) ?_ rfl; go_simp <;> rfl
  simp only [pu]
  refine anyL_take (i := 2) (v := ?_) rfl (by kernel_rfl) (by kernel_rfl) (by kernel_rfl) (yl_other (by decide) (by decide) rfl (fun f1 f2 wx hT => ?_)) ?_; rotate_left
  · have hT : wx = W := hT; rw [hT]; refine lands_value (w := W) ?_ rfl; go_simp <;> rfl
  simp only [pu]
  refine anyL_take (i := 3) (v := .slice (some ⟨g2, off2, none⟩) (n2 + 1) c2) rfl (by kernel_rfl) (by kernel_rfl) (by kernel_rfl) (yl_other (by decide) (by decide) rfl (fun f1 f2 wx hT => ?_)) ?_
  · have hT : wx = W := hT; rw [hT]; have c0 := HF0.out; refine lands_value (w := W) ?_ rfl; go_simp
  simp only [pu]
  refine anyL_take (i := 4) (v := ?_) rfl (by kernel_rfl) (by kernel_rfl) (by kernel_rfl) (yl_other (by decide) (by decide) rfl (fun f1 f2 wx hT => ?_)) ?_; rotate_left
  · have hT : wx = W := hT; rw [hT]; refine lands_value (w := W) ?_ rfl; go_simp <;> rfl
  simp only [pu]
  refine anyL_take (i := 5) (v := ?_) rfl (by kernel_rfl) (by kernel_rfl) (by kernel_rfl) (yl_other (by decide) (by decide) rfl (fun f1 f2 wx hT => ?_)) ?_; rotate_left
  · have hT : wx = W := hT; rw [hT]; refine lands_value (w := W) ?_ rfl; go_simp <;> rfl
  simp only [pu]
  refine anyL_take (i := 6) (v := ?_) rfl (by kernel_rfl) (by kernel_rfl) (by kernel_rfl) (yl_other (by decide) (by decide) rfl (fun f1 f2 wx hT => ?_)) ?_; rotate_left
  · have hT : wx = W := hT; rw [hT]; refine lands_value (w := W) ?_ rfl; go_simp <;> rfl
  simp only [pu]
  refine anyL_take (i := 7) (v := ?_) rfl (by kernel_rfl) (by kernel_rfl) (by kernel_rfl) (yl_other (by decide) (by decide) rfl (fun f1 f2 wx hT => ?_)) ?_; rotate_left
  · have hT : wx = W := hT; rw [hT]; refine lands_value (w := W) ?_ rfl; go_simp <;> rfl
  simp only [pu]
  refine anyL_take (i := 8) (v := ?_) rfl (by kernel_rfl) (by kernel_rfl) (by kernel_rfl) (yl_other (by decide) (by decide) rfl (fun f1 f2 wx hT => ?_)) ?_; rotate_left
  · have hT : wx = W := hT; rw [hT]; refine lands_value (w := W) ?_ rfl; go_simp <;> rfl
  simp only [pu]
  refine anyL_take (i := 9) (v := ?_) rfl (by kernel_rfl) (by kernel_rfl) (by kernel_rfl) (yl_other (by decide) (by decide) rfl (fun f1 f2 wx hT => ?_)) ?_; rotate_left
  · have hT : wx = W := hT; rw [hT]; refine lands_value (w := W) ?_ rfl; go_simp <;> rfl
  simp only [pu]
  refine anyL_take (i := 10) (v := .slice (some ⟨g, off, none⟩) (n + 1) c) rfl (by kernel_rfl) (by kernel_rfl) (by kernel_rfl) (yl_other (by decide) (by decide) rfl (fun f1 f2 wx hT => ?_)) ?_
  · have hT : wx = W := hT; rw [hT]; have c0 := HF1.out; refine lands_value (w := W) ?_ rfl; go_simp
  simp only [pu]
  refine anyL_take (i := 11) (v := ?_) rfl (by kernel_rfl) (by kernel_rfl) (by kernel_rfl) (yl_other (by decide) (by decide) rfl (fun f1 f2 wx hT => ?_)) ?_; rotate_left
  · have hT : wx = W := hT; rw [hT]; refine lands_value (w := W) ?_ rfl; go_simp <;> rfl
  simp only [pu]
  refine anyL_take (i := 12) (v := ?_) rfl (by kernel_rfl) (by kernel_rfl) (by kernel_rfl) (yl_other (by decide) (by decide) rfl (fun f1 f2 wx hT => ?_)) ?_; rotate_left
  · have hT : wx = W := hT; rw [hT]; refine lands_value (w := W) ?_ rfl; go_simp <;> rfl
  simp only [pu]
  refine anyL_take (i := 13) (v := ?_) rfl (by kernel_rfl) (by kernel_rfl) (by kernel_rfl) (yl_other (by decide) (by decide) rfl (fun f1 f2 wx hT => ?_)) ?_; rotate_left
  · have hT : wx = W := hT; rw [hT]; refine lands_value (w := W) ?_ rfl; go_simp <;> rfl
  simp only [pu]
  refine anyL_take (i := 14) (v := ?_) rfl (by kernel_rfl) (by kernel_rfl) (by kernel_rfl) (yl_other (by decide) (by decide) rfl (fun f1 f2 wx hT => ?_)) ?_; rotate_left
  · have hT : wx = W := hT; rw [hT]; refine lands_value (w := W) ?_ rfl; go_simp <;> rfl
  simp only [pu]
  refine anyL_take (i := 15) (v := ?_) rfl (by kernel_rfl) (by kernel_rfl) (by kernel_rfl) (yl_other (by decide) (by decide) rfl (fun f1 f2 wx hT => ?_)) ?_; rotate_left
  · have hT : wx = W := hT; rw [hT]; refine lands_value (w := W) ?_ rfl; go_simp <;> rfl
  simp only [pu]
  refine anyL_take (i := 16) (v := ?_) rfl (by kernel_rfl) (by kernel_rfl) (by kernel_rfl) (yl_other (by decide) (by decide) rfl (fun f1 f2 wx hT => ?_)) ?_; rotate_left
  · have hT : wx = W := hT; rw [hT]; refine lands_value (w := W) ?_ rfl; go_simp <;> rfl
  simp only [pu]
  refine anyL_take (i := 17) (v := .slice (some ⟨g, off, none⟩) (n + 1) c) rfl (by kernel_rfl) (by kernel_rfl) (by kernel_rfl) (yl_other (by decide) (by decide) rfl (fun f1 f2 wx hT => ?_)) ?_
  · have hT : wx = W := hT; rw [hT]; have c0 := HF1.out; refine lands_value (w := W) ?_ rfl; go_simp
  simp only [pu]
  refine anyL_take (i := 18) (v := ?_) rfl (by kernel_rfl) (by kernel_rfl) (by kernel_rfl) (yl_other (by decide) (by decide) rfl (fun f1 f2 wx hT => ?_)) ?_; rotate_left
  · have hT : wx = W := hT; rw [hT]; refine lands_value (w := W) ?_ rfl; go_simp <;> rfl
  simp only [pu]
  refine anyL_take (i := 19) (v := ?_) rfl (by kernel_rfl) (by kernel_rfl) (by kernel_rfl) (yl_other (by decide) (by decide) rfl (fun f1 f2 wx hT => ?_)) ?_; rotate_left
  · have hT : wx = W := hT; rw [hT]; refine lands_value (w := W) ?_ rfl; go_simp <;> rfl
  simp only [pu]
  refine anyL_take (i := 20) (v := .int .i64 (z : Int)) rfl (by kernel_rfl) (by kernel_rfl) (by kernel_rfl) (yl_other (by decide) (by decide) rfl (fun f1 f2 wx hT => ?_)) ?_
  · have hT : wx = W := hT; rw [hT]; have c0 := HS0.out; refine lands_value (w := W) ?_ rfl; go_simp
  simp only [pu]
  refine anyL_take (i := 21) (v := ?_) rfl (by kernel_rfl) (by kernel_rfl) (by kernel_rfl) (yl_other (by decide) (by decide) rfl (fun f1 f2 wx hT => ?_)) ?_; rotate_left
  · have hT : wx = W := hT; rw [hT]; refine lands_value (w := W) ?_ rfl; go_simp <;> rfl
  simp only [pu]
  refine anyL_take (i := 22) (v := ?_) rfl (by kernel_rfl) (by kernel_rfl) (by kernel_rfl) (yl_other (by decide) (by decide) rfl (fun f1 f2 wx hT => ?_)) ?_; rotate_left
  · have hT : wx = W := hT; rw [hT]; refine lands_value (w := W) ?_ rfl; go_simp <;> rfl
  simp only [pu]
  refine anyL_take (i := 23) (v := ?_) rfl (by kernel_rfl) (by kernel_rfl) (by kernel_rfl) (yl_other (by decide) (by decide) rfl (fun f1 f2 wx hT => ?_)) ?_; rotate_left
  · have hT : wx = W := hT; rw [hT]; refine lands_value (w := W) ?_ rfl; go_simp <;> rfl
  simp only [pu]
  refine anyL_take (i := 24) (v := .slice (some ⟨g2, off2, none⟩) (n2 + 1) c2) rfl (by kernel_rfl) (by kernel_rfl) (by kernel_rfl) (yl_other (by decide) (by decide) rfl (fun f1 f2 wx hT => ?_)) ?_
  · have hT : wx = W := hT; rw [hT]; have c0 := HF0.out; refine lands_value (w := W) ?_ rfl; go_simp
  simp only [pu]
  refine anyL_take (i := 25) (v := ?_) rfl (by kernel_rfl) (by kernel_rfl) (by kernel_rfl) (yl_other (by decide) (by decide) rfl (fun f1 f2 wx hT => ?_)) ?_; rotate_left
  · have hT : wx = W := hT; rw [hT]; refine lands_value (w := W) ?_ rfl; go_simp <;> rfl
  simp only [pu]
  refine anyL_take (i := 26) (v := ?_) rfl (by kernel_rfl) (by kernel_rfl) (by kernel_rfl) (yl_other (by decide) (by decide) rfl (fun f1 f2 wx hT => ?_)) ?_; rotate_left
  · have hT : wx = W := hT; rw [hT]; refine lands_value (w := W) ?_ rfl; go_simp <;> rfl
  simp only [pu]
  refine anyL_take (i := 27) (v := .int .i64 (x : Int)) rfl (by kernel_rfl) (by kernel_rfl) (by kernel_rfl) (yl_other (by decide) (by decide) rfl (fun f1 f2 wx hT => ?_)) ?_
  · have hT : wx = W := hT; rw [hT]; have c0 := HJ0.out; refine lands_value (w := W) ?_ rfl; go_simp
  simp only [pu]
  refine anyL_take (i := 28) (v := .bool true) rfl (by kernel_rfl) (by kernel_rfl) (by kernel_rfl) (yl_other (by decide) (by decide) rfl (fun f1 f2 wx hT => ?_)) ?_
  · have hT : wx = W := hT; rw [hT]; refine lands_value (w := W) ?_ rfl; go_simp <;> omega
  simp only [pu]
  refine anyL_take (i := 29) (v := ?_) rfl (by kernel_rfl) (by kernel_rfl) (by kernel_rfl) (yl_other (by decide) (by decide) rfl (fun f1 f2 wx hT => ?_)) ?_; rotate_left
  · have hT : wx = W := hT; rw [hT]; refine lands_value (w := W) ?_ rfl; go_simp <;> rfl
  simp only [pu]
  refine anyL_take (i := 30) (v := ?_) rfl (by kernel_rfl) (by kernel_rfl) (by kernel_rfl) (yl_other (by decide) (by decide) rfl (fun f1 f2 wx hT => ?_)) ?_; rotate_left
  · have hT : wx = W := hT; rw [hT]; refine lands_value (w := W) ?_ rfl; go_simp <;> rfl
  simp only [pu]
  refine anyL_done (by kernel_rfl) (fun wr2 hT => ?_) _
  obtain rfl : W = wr2 := Eq.symm hT
  clear z0
  have hqW : q < W.heap.size := by rw [HZW.out]; omega
  have hgW : g < W.heap.size := by rw [HZW.out]; have := HHQ.out.2; omega
  have hwW : w.heap.size < W.heap.size := by rw [HZW.out]; omega
  have s0 := HS0.out
  have s1 := HS1.out
  have f0 := HF0.out
  have f1 := HF1.out
  have z0 := zeroNode
  have fq := HFW.out.frozen 1
  have r0 : W.cell? ⟨w.heap.size, 0, none⟩ = some (.int .i64 0) := HRW.out.cell 0
  have r1 : W.cell? ⟨w.heap.size, 1, none⟩ = some (.int .i64 0) := HRW.out.cell 1
  have fr0 := HRW.out.frozen 0
  have fr1 := HRW.out.frozen 1
  have hqw : q ≠ w.heap.size := by omega
  by_cases hc1 : c = 1
  · obtain rfl : n = 0 := by omega
    subst hc1
    go_wp2_with fail
    have hres := (((HRW.out.far (p := ⟨q, 1, none⟩) hqw.symm (.slice (some ⟨g, off, none⟩) 0 0)).set_ 0 (.int .i64 (z : Int))).set_ 1 (.int .i64 (y : Int))).alloc (.cells #[.int .i64 (z : Int), .int .i64 (y : Int)] 75)
    have hblk := (((HFW.out.set_ 1 (.slice (some ⟨g, off, none⟩) 0 0)).far (p := ⟨w.heap.size, 0, none⟩) hqw (.int .i64 (z : Int))).far (p := ⟨w.heap.size, 1, none⟩) hqw (.int .i64 (y : Int))).alloc (.cells #[.int .i64 (z : Int), .int .i64 (y : Int)] 75)
    have hgr := grown_alloc (grown_set (grown_set (grown_set HGW.out ⟨q, 1, none⟩ (.inr rfl) (.slice (some ⟨g, off, none⟩) 0 0)) ⟨w.heap.size, 0, none⟩ (.inl (Nat.le_refl _)) (.int .i64 (z : Int))) ⟨w.heap.size, 1, none⟩ (.inl (Nat.le_refl _)) (.int .i64 (y : Int))) (.cells #[.int .i64 (z : Int), .int .i64 (y : Int)] 75)
    exact bodyPost_ret (results_cell_row rfl _ _ w.heap.size 75 _ (0, 0) _ rfl hres Try.underlying75 rfl size_node) rfl ⟨rfl, hblk.cast_ (by rfl), hgr⟩
  · have hcc : 1 < c := by omega
    have ecut : cutA (some ⟨g, off, none⟩) c = some ⟨g, off + 2, none⟩ := by
      unfold cutA
      rw [if_neg hc1]
      show some (Addr.add _ 2) = _
      rw [addr_add]
    go_wp2_with fail
    have hres := (((HRW.out.far (p := ⟨q, 1, none⟩) hqw.symm (.slice (some ⟨g, off + 2, none⟩) n (c - 1))).set_ 0 (.int .i64 (z : Int))).set_ 1 (.int .i64 (y : Int))).alloc (.cells #[.int .i64 (z : Int), .int .i64 (y : Int)] 75)
    have hblk := (((HFW.out.set_ 1 (.slice (some ⟨g, off + 2, none⟩) n (c - 1))).far (p := ⟨w.heap.size, 0, none⟩) hqw (.int .i64 (z : Int))).far (p := ⟨w.heap.size, 1, none⟩) hqw (.int .i64 (y : Int))).alloc (.cells #[.int .i64 (z : Int), .int .i64 (y : Int)] 75)
    have hgr := grown_alloc (grown_set (grown_set (grown_set HGW.out ⟨q, 1, none⟩ (.inr rfl) (.slice (some ⟨g, off + 2, none⟩) n (c - 1))) ⟨w.heap.size, 0, none⟩ (.inl (Nat.le_refl _)) (.int .i64 (z : Int))) ⟨w.heap.size, 1, none⟩ (.inl (Nat.le_refl _)) (.int .i64 (y : Int))) (.cells #[.int .i64 (z : Int), .int .i64 (y : Int)] 75)
    exact bodyPost_ret (results_cell_row rfl _ _ w.heap.size 75 _ (0, 0) _ rfl hres Try.underlying75 rfl size_node) rfl ⟨rfl, hblk.cast_ (by rw [ecut]; rfl), hgr⟩
end Go.Proofs.Ytmmkmbinmmfblaa
