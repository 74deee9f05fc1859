/- bytesOf: a text's bytes, one by one. -/
import Derived.Test.YtbipbkancghkfaaDoorRg
import Derived.Test.YtbipbkancghkfaaDoorTxt
namespace Go.Proofs.YtbipbkancghkfaaDoor
open Go.RowKit
def capS (b : Nat) (s : ByteArray) (w : World) : Prop := Blk w b 9 #[.string s]
theorem capS_below {b B : Nat} {s : ByteArray} {w w' : World} (h : capS b s w) (hb : Below B w w') (hB : b < B) : capS b s w' := Blk.below h hb hB
set_option maxHeartbeats 1000000 in
theorem bytes_gives (s : ByteArray) (hs : s.size ≤ 300000000000000) (b : Nat) :
    Gives Tryd.prog 41 #[.pointer (some ⟨b, 0, none⟩)] (capS b s) s.size (fun i => .int .u64 (byteS s i)) := by
  intro l J W hcap hJ hY h0
  refine callsIn_of_wp Tryd.func41 rfl trivial ?_
  simp only [Tryd.ntmps41, List.size_toArray, List.length_cons, List.length_nil, Nat.reduceAdd, Nat.reduceSub, Array.replicate_succ, Array.replicate_zero, List.push_toArray, List.append_toArray, List.nil_append, List.cons_append]
  have hc0 : W.cell? ⟨b, 0, none⟩ = some (.string s) := hcap.cell 0
  gi_wp2_with fail
  gi_loopw [6] (fun p wr => ∃ i : Nat, p = .int .i64 (i : Int) ∧ i ≤ s.size ∧ J i wr ∧ capS b s wr ∧ W.heap.size ≤ wr.heap.size) (fun p _ => s.size - (intOf p).toNat)
  case atStart => exact ⟨0, rfl, by omega, h0, hcap, Nat.le_refl _⟩
  case round =>
    obtain ⟨i, rfl, hi, hj, hc, hz⟩ := hrel
    clear hc0 h0 hcap
    have hc1 : wr.cell? ⟨b, 0, none⟩ = some (.string s) := hc.cell 0
    by_cases hlt : i < s.size
    · have hlti : (i : Int) < s.size := by omega
      obtain ⟨fn, tm, ag, bd, hy, hR⟩ := hY i wr hlt hj hc hz
      rw [← byteS_at s i hlt] at hy
      have hb2 : (s[i]).toNat < 256 := by rw [byteS_at s i hlt]; exact byteS_lt s i
      have hww : IntKind.u64.wrap ((s[i]).toNat : Int) = ((s[i]).toNat : Int) := IntWalk.u64_in _ (by omega)
      gi_wp2_with fail
      refine ⟨rfl, hR.mono ?_⟩
      rintro e w2 ⟨rfl, hj2, hc2, hu⟩
      gi_wp2_with fail
      go_roundw
      case rel => exact ⟨i + 1, by go_num, by omega, hj2, hc2, Nat.le_trans hz hu.size⟩
      case measure => simp [intOf]; omega
    · obtain rfl : i = s.size := by omega
      have hlti : ¬ ((s.size : Nat) : Int) < s.size := by omega
      gi_wp2_with fail
      go_end0
      exact ⟨⟨_, rfl⟩, hj, hc, hz⟩
end Go.Proofs.YtbipbkancghkfaaDoor
