/- The reference's Join of chapter 8. -/
import Derived.Test.YtdekapkdgbmjbaaCc
import Derived.Test.YtdekapkdgbmjbaaMin
import Derived.Laws.MakeOwn
namespace Go.Proofs.Ytdekapkdgbmjbaa
open Go.RowKit
theorem u8_infoC : (Try.prog.info? 5).map (fun i => (i.zero, i.size, i.bytes)) = some (some (.int .u8 0), 1, 1) := by kernel_rfl
theorem made_zeros (n : Nat) : madeCells #[Value.int .u8 0] n = r8 n fun _ => 0#8 := by
  apply Array.ext
  · rw [size_madeCells, row_size]
  · intro i h1 h2
    have h : i < n := by rw [size_madeCells] at h1; exact h1
    have e := row_get (fun i => Value.int .u8 (iw ((fun _ => 0#8) i : BitVec 8))) h
    rw [Array.getElem?_eq_getElem h2] at e
    rw [Option.some.inj e]
    simp only [madeCells, Array.getElem_map, Array.getElem_range]
    show _ = Value.int .u8 (iw (0#8))
    rw [show iw (0#8) = 0 by unfold iw; rfl]
    simp [Nat.mod_one]
theorem run_zeros (n : Nat) (hn : n ≤ 281474976710656) (w : World) :
    (Instr.makeSlice 29 (.int .i64 (n : Int)) (.int .i64 (n : Int))).run Try.prog w = .ok (.slice (some ⟨w.heap.size, 0, none⟩) n n) (w.alloc (.cells (r8 n fun _ => 0#8) 5)) := by
  obtain ⟨i0, hi, hz0, hz1, hz2⟩ := info_parts u8_infoC
  have h := run_make (P := Try.prog) w 29 5 i0 (.int .u8 0) Try.underlying29 hi hz0 .i64 .i64 n n (by omega) (Int.le_refl _) (by rw [hz2]; omega) (by omega)
  rw [hz1, Int.toNat_natCast, Nat.mul_one, show Value.cells (.int .u8 0) = #[Value.int .u8 0] from rfl, made_zeros] at h
  exact h
theorem conv_zeros (n : Nat) (w : World) (g : Nat) (h : Blk w g 5 (r8 n fun _ => 0#8)) : (convert 29 9 (.slice (some ⟨g, 0, none⟩) n n)).run Try.prog w = .ok (.string (textN n fun _ => 0)) w :=
  run_string_of_blk (P := Try.prog) w 29 9 5 Try.underlying29 Try.underlying5 Try.underlying9 g n n _ _ h
theorem lands_maxI {o : Oper} {a : Act} {w : World} (x : Operand) (n k : Int) (ho : o.op = .call { callee := .builtin .max, args := #[x, .const (.int .i64 k)], argTypes := #[3, 3] }) (ht : o.type = 3) (hx : a.eval x = .int .i64 n) :
    Lands Try.prog (fun w' => w' = w) (.int .i64 (max n k)) ((execOp a.eval o).run Try.prog w) := by
  refine lands_value (w := w) ?_ rfl
  have hc : a.eval (.const (.int .i64 k)) = .int .i64 k := rfl
  simp [execOp, ho, ht, hx, hc, resolve, invoke, builtin]
  by_cases h : n ≤ k
  · rw [show max n k = k by omega]
    go_simp
    intro; omega
  · rw [show max n k = n by omega]
    have h' : k < n := by omega
    go_simp
    try (intro; omega)
theorem lands_minI {o : Oper} {a : Act} {w : World} (x : Operand) (n k : Int) (ho : o.op = .call { callee := .builtin .min, args := #[x, .const (.int .i64 k)], argTypes := #[3, 3] }) (ht : o.type = 3) (hx : a.eval x = .int .i64 n) :
    Lands Try.prog (fun w' => w' = w) (.int .i64 (min n k)) ((execOp a.eval o).run Try.prog w) := by
  refine lands_value (w := w) ?_ rfl
  have hc : a.eval (.const (.int .i64 k)) = .int .i64 k := rfl
  simp [execOp, ho, ht, hx, hc, resolve, invoke, builtin]
  by_cases h : n ≤ k
  · rw [show min n k = n by omega]
    go_simp
    intro; omega
  · rw [show min n k = k by omega]
    have h' : k < n := by omega
    go_simp
    try (intro; omega)
/-- How many bytes Join takes. -/
def sizeJ (size : Int) : Nat := (min (max size 0) 1000000).toNat
theorem sizeJ_le (size : Int) : sizeJ size ≤ 1000000 := by unfold sizeJ; omega
set_option maxRecDepth 100000 in
set_option maxHeartbeats 2000000 in
theorem rjoin8_any (a b : BitVec 32) (size : Int) (w : World) :
    Calls Try.prog 14 #[.int .u32 (iw a), .int .u32 (iw b), .int .i64 size] w fun e w' => e = .returned (.int .u32 (iw (joinT a b (sizeJ size)))) ∧ Below w.heap.size w w' := by
  obtain ⟨n, hn⟩ : ∃ n, n = sizeJ size := ⟨_, rfl⟩
  have hle := sizeJ_le size
  rw [← hn] at hle ⊢
  have hmk : ∀ w, (Instr.makeSlice 29 (.int .i64 (n : Int)) (.int .i64 (n : Int))).run Try.prog w = .ok (.slice (some ⟨w.heap.size, 0, none⟩) n n) (w.alloc (.cells (r8 n fun _ => 0#8) 5)) := run_zeros n (by omega)
  have hcv := conv_zeros n (w.alloc (.cells (r8 n fun _ => 0#8) 5)) w.heap.size (Blk.new _ _ _)
  have hmm : min (max size 0) 1000000 = (n : Int) := by rw [hn]; unfold sizeJ; omega
  have hz := textN_size n fun _ => 0
  have HJ : Hid (xorw (xorw b (moreT a (textN n fun _ => 0))) (moreT 0#32 (textN n fun _ => 0)) = joinT a b n) := Lib.hid (by
    rw [more_zeros, hz]
    unfold joinT
    rw [xorw_assoc, xorw_comm _ (moreT 0#32 _), xorw_back])
  have HA := Lib.hid (fun w => rmore8_any a (textN n fun _ => 0) w (by omega))
  have HB := Lib.hid (fun w => rmore8_any 0#32 (textN n fun _ => 0) w (by omega))
  rw [show iw (0#32) = 0 by unfold iw; rfl] at HB
  generalize textN n (fun _ => 0) = t at *
  generalize moreT a t = x at *
  generalize moreT 0#32 t = y at *
  clear hn
  go_enter Try.func14, Try.ntmps14
  go_wp2_with (first | (refine wpList_valK (.int .i64 (max size 0)) rfl (lands_maxI (.tmp 8) size 0 rfl rfl rfl) ?_; rintro _ rfl) | (refine wpList_valK (.int .i64 (min (max size 0) 1000000)) rfl (lands_minI (.tmp 9) (max size 0) 1000000 rfl rfl rfl) ?_; rintro _ rfl; rw [hmm]))
  refine (HA.out _).mono ?_
  rintro e w1 ⟨rfl, rfl⟩
  go_wp2_with fail
  refine (HB.out _).mono ?_
  rintro e w1 ⟨rfl, rfl⟩
  go_wp2_with fail
  go_ret
  exact ⟨by rw [← HJ.out]; rfl, (Below.refl _ _).alloc (Nat.le_refl _) _⟩
end Go.Proofs.Ytdekapkdgbmjbaa
