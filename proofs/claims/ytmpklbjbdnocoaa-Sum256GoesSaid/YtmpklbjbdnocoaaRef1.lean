/- The document's answer to chapter 1: turn, word, four, table, step. -/
import Derived.Test.YtmpklbjbdnocoaaShaH
namespace Go.Proofs.Ytmpklbjbdnocoaa
open Go.RowKit
theorem rotr_comm (x : BitVec 32) (k : Nat) : orw (shrw x k) (shlw x (32 - k)) = rotr x k := by
  unfold rotr orw; exact BitVec.or_comm _ _
set_option maxHeartbeats 400000 in
theorem rturn_any (x : BitVec 32) (k : Nat) (w : World) (h0 : 1 ≤ k) (h1 : k ≤ 31) :
    Calls Try.prog 23 #[.int .u32 (iw x), .int .u64 (k : Int)] w fun e w' => e = .returned (.int .u32 (iw (rotr x k))) ∧ w' = w := by
  have hq : IntKind.u64.wrap (32 - (k : Int)) = ((32 - k : Nat) : Int) := by rw [IntKind.wrap_u64]; omega
  have hr := rotr_comm x k
  go_enter Try.func23, Try.ntmps23
  go_wp2
  go_ret
  exact ⟨rfl, rfl⟩
def bS (s : ByteArray) (j : Nat) : BitVec 8 := (s[j]?.getD 0).toBitVec
theorem run_byte {P : Program} (w : World) (t : TypeId) (h : P.underlying t = some .string) (s : ByteArray) (i : Nat) (hi : i < s.size) (k : IntKind) (x : Int) (hx : x = (i : Int)) :
    (Instr.index t (.string s) (.int k x)).run P w = .ok (.int .u8 (iw (bS s i))) w := by
  subst hx
  have e : s[i]? = some s[i] := by simp [hi]
  have e2 : ((s[i]).toNat : Int) = iw (bS s i) := by unfold iw bS; rw [e]; rfl
  simp [Instr.index, run_underlying h, asIntOf, Sem.run_bind, e, ← e2]
set_option maxHeartbeats 1000000 in
theorem word_any (s : ByteArray) (k : Nat) (i : Int) (w : World) (hi : i = 4 * (k : Int)) (hk : 4 * k + 3 < s.size) (hs : s.size ≤ 9223372036854775807) :
    Calls Try.prog 22 #[.string s, .int .i64 i] w fun e w' => e = .returned (.int .u32 (iw (wd (bS s) k))) ∧ ∃ m, w' = w.drewN m := by
  subst hi
  have a1 : IntKind.i64.wrap (4 * (k : Int) + 1) = ((4 * k + 1 : Nat) : Int) := by rw [IntWalk.i64_in _ (by omega)]; omega
  have a2 : IntKind.i64.wrap (4 * (k : Int) + 2) = ((4 * k + 2 : Nat) : Int) := by rw [IntWalk.i64_in _ (by omega)]; omega
  have a3 : IntKind.i64.wrap (4 * (k : Int) + 3) = ((4 * k + 3 : Nat) : Int) := by rw [IntWalk.i64_in _ (by omega)]; omega
  generalize h1 : 4 * k + 1 = n1 at a1
  generalize h2 : 4 * k + 2 = n2 at a2
  generalize h3 : 4 * k + 3 = n3 at a3 hk
  have c0 := fun w => run_byte (P := Try.prog) w 9 Try.underlying9 s (4 * k) (by omega) .i64 (4 * (k : Int)) (by omega)
  have c1 := fun w => run_byte (P := Try.prog) w 9 Try.underlying9 s n1 (by omega) .i64 (n1 : Int) rfl
  have c2 := fun w => run_byte (P := Try.prog) w 9 Try.underlying9 s n2 (by omega) .i64 (n2 : Int) rfl
  have c3 := fun w => run_byte (P := Try.prog) w 9 Try.underlying9 s n3 (by omega) .i64 (n3 : Int) rfl
  have HW : Hid (wd (bS s) k = orw (orw (orw (shlw (castw 32 (bS s (4 * k))) 24) (shlw (castw 32 (bS s n1)) 16)) (shlw (castw 32 (bS s n2)) 8)) (castw 32 (bS s n3))) := by subst h1 h2 h3; exact Lib.hid rfl
  clear h1 h2 h3
  go_enter Try.func22, Try.ntmps22
  go_wp2_with fail
  go_quiet (fail)
  go_wp2_with fail
  go_ret
  exact ⟨by rw [HW.out]; rfl, nq, rfl⟩
end Go.Proofs.Ytmpklbjbdnocoaa
