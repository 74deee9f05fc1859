/- The builtin min, in one way. -/
import Derived.Test.YtmmkmbinmmfblaaChecked
import Derived.Test.YtmmkmbinmmfblaaReg
import Derived.Test.YtmmkmbinmmfblaaWords
namespace Go.Proofs.Ytmmkmbinmmfblaa
open Go.RowKit
theorem wpList_valK {ops : Array Oper} {Q : Exit → Act → World → Prop} {R : World → Prop} {o : Oper} {rest : List Oper} {a : Act} {w : World} (v : Value) (hg : o.guard = none) (h : Lands Try.prog R v ((execOp a.eval o).run Try.prog w)) (k : ∀ w', R w' → wpList Try.prog ops Q rest (a.put o.dst v) w') : wpList Try.prog ops Q (o :: rest) a w :=
  wpList_plain hg fun _ hK => h.upon fun w' hR => hK _ _ (k w' hR)
theorem lands_min {o : Oper} {a : Act} {w : World} (x : Operand) (n k : Nat) (ho : o.op = .call { callee := .builtin .min, args := #[x, .const (.int .i64 (k : Int))], argTypes := #[3, 3] }) (ht : o.type = 3) (hx : a.eval x = .int .i64 (n : Int)) :
    Lands Try.prog (fun w' => w' = w) (.int .i64 ((min n k : Nat) : Int)) ((execOp a.eval o).run Try.prog w) := by
  refine lands_value (w := w) ?_ rfl
  have hc : a.eval (.const (.int .i64 (k : Int))) = .int .i64 (k : Int) := rfl
  simp [execOp, ho, ht, hx, hc, resolve, invoke, builtin]
  by_cases h : n ≤ k
  · rw [show min n k = n by omega]
    have h2 : (n : Int) ≤ k := by omega
    go_simp
    intro; omega
  · rw [show min n k = k by omega]
    have h' : (k : Int) < n := by omega
    go_simp
end Go.Proofs.Ytmmkmbinmmfblaa
