/- The laws of chapter 14 for all their arguments. -/
import Derived.Test.YtkbjgaobhbiieaaSG
import Derived.Test.YtkbjgaobhbiieaaSH
import Derived.Test.YtkbjgaobhbiieaaDerLengths
import Derived.Test.YtkbjgaobhbiieaaDerBack
namespace Go.Proofs.Ytkbjgaobhbiieaa
open Go.RowKit
theorem derItems_all (s : ByteArray) (tag : Int) (x : ByteArray) (w : World) (hs : s.size ≤ 281474976710656) (hx : x.size ≤ 281474976710656) :
    Calls Try.prog 3 #[.string s, .int .i64 tag, .string x] w fun e w' => e = .returned (.bool true) ∧ Below w.heap.size w w' :=
  derItems_any nextC_any wrapC_any partsC_any (stripX_of stripC_any) s tag x w hs hx
theorem derLengths_all (n c : Int) (w : World) (h1 : (Lit.int .u32 n).wf = true) (h2 : (Lit.int .u8 c).wf = true) :
    Calls Try.prog 6 #[.int .u32 n, .int .u8 c] w fun e w' => e = .returned (.bool true) ∧ Below w.heap.size w w' := by
  simp [Lit.wf, IntKind.min, IntKind.max, IntKind.bits, IntKind.signed] at h1 h2
  obtain ⟨m, rfl⟩ : ∃ m : Nat, n = (m : Int) := ⟨n.toNat, by omega⟩
  obtain ⟨d, rfl⟩ : ∃ d : Nat, c = (d : Int) := ⟨c.toNat, by omega⟩
  exact derLengths_any nextC_any wrapC_any (stripX_of stripC_any) m d (by omega) (by omega) w
theorem derBack_all (p : Option Addr) (n cap : Nat) (l : List ByteArray) (pt : Option Addr) (nt ct : Nat) (tags : List Nat) (more : ByteArray) (w : World) (h1 : RS 1 p n cap (l.map encS) w) (h2 : RS 1 pt nt ct (tags.map encU) w) (h8 : ∀ g ∈ tags, g < 256) (hm : more.size ≤ 140737488351232) :
    Calls Try.prog 4 #[.slice p n cap, .slice pt nt ct, .string more] w fun e w' => e = .returned (.bool true) ∧ Below w.heap.size w w' :=
  derBack_any nextC_any wrapC_any partsC_any stripC_any l p n cap tags pt nt ct more w ⟨h1, h2⟩ h8 hm
theorem derTwice_all (name key : ByteArray) (v : Bool) (p : Option Addr) (n cap : Nat) (l : List ByteArray) (po at' : Int) (more : ByteArray) (w : World) (h : RS 1 p n cap (l.map fun s => [Value.string s]) w) (ha : (Lit.int .i64 at').wf = true) (hm : more.size ≤ 9223372036854775807) :
    Calls Try.prog 5 #[.agg #[.string name, .string key, .bool v, .slice p n cap, .int .i64 po], .int .i64 at', .string more] w fun e w' => e = .returned (.bool true) ∧ Below w.heap.size w w' := by
  simp [Lit.wf, IntKind.min, IntKind.max, IntKind.bits, IntKind.signed] at ha
  by_cases h0 : 0 ≤ at'
  · exact derTwice_num nextC_any wrapC_any stripC_any v name key po p n cap l at'.toNat at' 0 more w h hm (by omega) (.inl (by omega))
  · exact derTwice_num nextC_any wrapC_any stripC_any v name key po p n cap l (-(at' + 1)).toNat at' (at' + 1) more w h hm (by omega) (.inr ⟨by omega, IntWalk.i64_in _ (by omega), by rw [IntWalk.i64_in _ (by omega)]; omega⟩)
end Go.Proofs.Ytkbjgaobhbiieaa
