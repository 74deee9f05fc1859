/- An operation of a region that draws, behind another one. -/
import Derived.Test.YtmmkmbinmmfblaaHp
namespace Go.Proofs.Ytmmkmbinmmfblaa
open Go.RowKit
section
variable {P : Program} {md : Region.Mode} {ops : Array Oper} {T : Bool → Bool → World → Prop} {s t : Nat}
theorem listed_before {L : Array Bool} {o : Oper} (hm : May md ops t L) (ho : ops[t]? = some o) (hb : (o.after.toList.any fun e => Region.binds md e && e.on == s) = true) : L.getD s false = true := by
  obtain ⟨_, o', ho', hall⟩ := mem_ready.1 hm.ready
  obtain rfl : o = o' := by rw [ho] at ho'; cases ho'; rfl
  obtain ⟨e, he, h2⟩ := List.any_eq_true.1 hb
  rw [Bool.and_eq_true, beq_iff_eq] at h2
  have := hall e (by simpa using he) h2.1
  rw [h2.2] at this
  exact this
theorem yl_late {o o2 : Oper} {v : Value} {a : Act} (hne : t ≠ s) (ho : ops[t]? = some o2) (hb : (o2.after.toList.any fun e => Region.binds md e && e.on == s) = true) (hw : Region.wanted o (yielded ops a.tmps) = true)
    (h : ∀ w, T true false w → Lands P (T true true) v ((execOp a.eval o).run P w)) : YieldsL P md ops (Two s t T) t o v a :=
  .inl ⟨hw, fun L w hm hS => by
    unfold Two at *
    rw [hm.unlisted.2, getD_set_ne false hne]
    rw [hm.unlisted.1] at hS
    rw [listed_before hm ho hb] at hS ⊢
    exact h w hS⟩
end
theorem lands_appendH {P : Program} {R : World → Prop} {o : Oper} {a : Act} {w w' : World} {v : Value} (s x : Operand) (t : TypeId) (ho : o.op = Op.call { callee := Callee.builtin Builtin.append, args := #[s, x], argTypes := #[t, t] })
    {vs vx : Value} (hs : a.eval s = vs) (hx : a.eval x = vx) (hr : (Builtin.append_ #[t, t] o.type #[vs, vx]).run P w = .ok v w') (hR : R w') : Lands P R v ((execOp a.eval o).run P w) := by
  refine lands_value (w := w') ?_ hR
  simp [execOp, ho, resolve, invoke, builtin, hs, hx, hr, Result.andThen]
/-- A list behind another one, in one's own. -/
theorem run_joinR (w : World) (B : Nat) (v x : Value) (L M : List Nat) (hv : w.ownsRow B 3 1 v L.length (L.map fun (i : Nat) => Value.int .i64 (i : Int))) (hx : RL w x M) (hM : M ≠ []) (hB : B ≤ w.heap.size) (hn : L.length + M.length ≤ 1000000) (ty : TypeId) :
    ∃ v' w', (Builtin.append_ #[22, 22] ty #[v, x]).run Try.prog w = .ok v' w' ∧ w'.ownsRow B 3 1 v' (L ++ M).length ((L ++ M).map fun (i : Nat) => Value.int .i64 (i : Int)) ∧ w.grownBy w' v.ownBlock := by
  obtain ⟨i0, hi, hz0, hz1, hz2⟩ := info_parts int_infoC
  rcases hx.2 with ⟨_, h2⟩ | ⟨g, cap, cur, rfl, _, hc, h4, h5, h6, h7⟩
  · exact absurd (List.eq_nil_of_length_eq_zero h2) hM
  · obtain ⟨v', w', h1, h2, h3, _⟩ := run_append_own (P := Try.prog) w B 22 ty 3 i0 (.int .i64 0) 1 8 Try.underlying22 hi hz0 hz1 hz2 rfl (by decide) v L.length _ hv ⟨g, 0, none⟩ M.length cap (M.map fun (i : Nat) => Value.int .i64 (i : Int)) (by rw [List.length_map, Nat.mul_one]) (fun j u hu => by
        have hj : j < M.length := by
          rcases Nat.lt_or_ge j M.length with h1 | h1
          · exact h1
          · rw [List.getElem?_eq_none (by rw [List.length_map]; exact h1)] at hu; cases hu
        rw [addr_add, Nat.zero_add, cell_of_row w g j cur _ (0, 0) hc, ← hu, ← h7, List.getElem?_take, if_pos (by omega)]; simp)
      (fun u hu => by obtain ⟨y, _, rfl⟩ := List.mem_map.1 hu; rfl) (by unfold maxLen; omega) (by omega) hB
    exact ⟨v', w', h1, by rw [List.length_append, List.map_append]; exact h2, h3⟩
end Go.Proofs.Ytmmkmbinmmfblaa
