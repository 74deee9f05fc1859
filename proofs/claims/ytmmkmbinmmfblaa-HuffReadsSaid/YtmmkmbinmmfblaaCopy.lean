/- copy of a string's bytes into a part of a block. -/
import Derived.Test.YtmmkmbinmmfblaaPart
import Derived.Test.YtmmkmbinmmfblaaWords
import Derived.Deep.RegionLaw
namespace Go.Proofs.Ytmmkmbinmmfblaa
open Go.RowKit
/-- A string's byte j. -/
def bS (s : ByteArray) (j : Nat) : BitVec 8 := (s[j]?.getD 0).toBitVec
def bL (l : List UInt8) (i : Nat) : BitVec 8 := (l.getD i 0).toBitVec
theorem bS_bL (T : ByteArray) : bS T = bL T.data.toList := by
  funext i
  unfold bS bL
  rw [List.getD_eq_getElem?_getD]
  congr 1
  by_cases h : i < T.size
  · rw [getElem?_pos T i h]
    have : T.data.toList[i]? = some T.data[i] := by simp
    rw [this]; rfl
  · rw [getElem?_neg T i h, List.getElem?_eq_none (by simpa using h)]
section
variable {P : Program} {w : World} {g o n N : Nat} {t : TypeId} {F : Nat → Value}
theorem cells_of_string (s : ByteArray) (hn : n ≤ s.size) : ((s.extract 0 n).data.map fun b => Value.int .u8 b.toNat).toList = (row n fun i => Value.int .u8 (iw (bS s i))).toList := by
  apply List.ext_getElem?
  intro j
  rw [row_getElem]
  by_cases h : j < n
  · rw [if_pos h]
    have hj : j < s.size := by omega
    have e : s[j]? = some s[j] := by simp [hj]
    have : iw (bS s j) = ((s[j]).toNat : Int) := by unfold iw bS; rw [e]; rfl
    rw [this]
    simp [ByteArray.data_extract, h, hj]
    rfl
  · rw [if_neg h, List.getElem?_eq_none]
    simp [ByteArray.data_extract]
    omega
theorem run_copy_string (dT sT ty elem dLen dCap : Nat) (s : ByteArray) (hu : P.underlying dT = some (.slice elem)) (hs : (P.info? elem).map (·.size) = some 1)
    (hg : Blk w g t (row N F)) (hn : n = min s.size dLen) (hfit : o + n ≤ N) :
    (Builtin.copy_ #[dT, sT] ty #[.slice (some ⟨g, o, none⟩) dLen dCap, .string s]).run P w = .ok (.int .i64 (n : Int)) (w.setRow g (row N (over F o n fun i => .int .u8 (iw (bS s i))))) := by
  have h0 : (row n fun i => Value.int .u8 (iw (bS s i))).toList.length = n := by simp [row]
  have hst := run_storeCells_at (P := P) g o t (row n fun i => Value.int .u8 (iw (bS s i))).toList 0 (row N F) w hg (by rw [h0, row_size]; omega) (fun v hv => by simp [row] at hv; obtain ⟨i, _, rfl⟩ := hv; rfl)
  rw [over_row hfit, ← cells_of_string s (by rw [hn]; exact Nat.min_le_left _ _)] at hst
  have hmin : Nat.min s.size dLen = n := hn.symm
  cases hq : P.info? elem with
  | none => simp [hq] at hs
  | some i =>
    have hi : i.size = 1 := by simpa [hq] using hs
    simp only [Builtin.copy_]
    simp [run_underlying hu, Builtin.lenOf, Builtin.firstCells, sizeOf, typeInfo, hq, hmin, goInt]
    have e : List.take n (List.map (fun b : UInt8 => Value.int IntKind.u8 ↑b.toNat) s.data.toList) = ((s.extract 0 n).data.map fun b => Value.int .u8 b.toNat).toList := by simp
    rw [e, hst]
    rfl
theorem step_copy_string {ops : Array Oper} {op : Oper} {a : Act} {K : Act → World → Prop} {Q : Exit → Act → World → Prop} {E : Prop} (hgd : op.guard = none) (d s : Operand) (dT sT : TypeId)
    (ho : op.op = .call { callee := .builtin .copy, args := #[d, s], argTypes := #[dT, sT] }) (elem : TypeId) (hu : P.underlying dT = some (.slice elem)) (hsz : (P.info? elem).map (·.size) = some 1)
    (g o dLen dCap N : Nat) (F : Nat → Value) (x : ByteArray) (hd : a.eval d = .slice (some ⟨g, o, none⟩) dLen dCap) (hs : a.eval s = .string x)
    (hg : Blk w g t (row N F)) (n : Nat) (hn : n = min x.size dLen) (hfit : o + n ≤ N)
    (h : K (a.put op.dst (.int .i64 (n : Int))) (w.setRow g (row N (over F o n fun i => .int .u8 (iw (bS x i)))))) :
    if Region.wanted op (yielded ops a.tmps) = true then Oper.wp P op a w K Q else E := by
  rw [if_pos (by simp [Region.wanted, hgd])]
  have hrun := run_copy_string (P := P) dT sT op.type elem dLen dCap x hu hsz hg hn hfit
  unfold Oper.wp
  simp [execOp, ho, resolve, invoke, builtin, hd, hs, hrun, Result.andThen]
  exact h
end
end Go.Proofs.Ytmmkmbinmmfblaa
