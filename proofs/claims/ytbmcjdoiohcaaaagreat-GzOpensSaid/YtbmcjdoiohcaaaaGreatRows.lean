/-
  No cell of these rows narrows 'for every input' (looked for: loops, veiled, ifaces, maps, wideKeys, modest, calm, conditions, laid).
  DERIVED. THE GIVEN ROWS OF THIS SEAT. 6 by the template 'for every input the law returns true; each argument reads behind the call as it read before'; 0 by the template 'total and deterministic' (their statements: YtbmcjdoiohcaaaaGreatTotals.lean).
  GIVEN WITH THE SEED: the statements are not yours to turn. If you find one false, say at which input.
  Laid BY PROGRAM, IN A SANDBOX (cutbox-rows.mjs): the forced cells as the released guide's own fill.sh prints them over the translation 76d478c100d839ee… (all of the seat's roots in one cut). By AI agents, Wed Nov 11 2026. No macro, syntax, notation, axiom, sorry.
-/
import Derived.Test.YtbmcjdoiohcaaaaGreatChecked
import GoSem.Claim
import GoSem.ClaimJoined
import GoSem.ClaimMapViews
import Derived.JoinedTies
import Derived.KernelRfl
namespace Go.Proofs.YtbmcjdoiohcaaaaGreat
/- THE CELL 'sum', in the pinned program and in every row, IS THE sha256 OF THE DUMP (.gsa) THAT YtbmcjdoiohcaaaaGreatProg.lean LOADS. Nothing in Lean hashes anything: it is a label: what it is worth is what the hold of that sum in a sandbox is worth. -/
noncomputable def Tryz.pinned : Pinned := { name := "ytbmcjdoiohcaaaagreat", sum := "76d478c100d839ee69cf38ecef372e69369659bbc154c78603e163daf08003fa", checked := Tryz.checked }
namespace Rows
def none {H : Type} : Left H := { results := [], args := [] }

/-- 'engrosserlaw12.GzPacks': WHATEVER THE INPUT: true; the input reads as it did. -/
def gzPacksSpec : ChangeSpec := { name := "gzPacks", fn := fun _ => fun
  | [d] => { results := [.lit (.bool true)], args := [d] }
  | _ => none }
def gzPacksRow : OpenClaim := { program := "ytbmcjdoiohcaaaagreat", sum := "76d478c100d839ee69cf38ecef372e69369659bbc154c78603e163daf08003fa", func := "engrosser/engrosserlaw12.GzPacks", spec := "gzPacks", inPlace := ["internal/bytealg.IndexByteString"], unfollowed := true, recurses := true, apart := false }
def GzPacksSaid : Prop := gzPacksRow.holds Tryz.pinned (OpenSpec.ofChange gzPacksSpec)

/-- ITS FALSE NEIGHBOUR: 'it returns false'. Refute it at one input. -/
def gzPacksWrong : ChangeSpec := { name := "gzPacks", fn := fun _ => fun
  | [d] => { results := [.lit (.bool false)], args := [d] }
  | _ => none }
def GzPacksWrongFalsely : Prop := gzPacksRow.holds Tryz.pinned (OpenSpec.ofChange gzPacksWrong)

/-- 'engrosserlaw12.GzOpens': WHATEVER THE INPUT: true; the input reads as it did. -/
def gzOpensSpec : ChangeSpec := { name := "gzOpens", fn := fun _ => fun
  | [d1, d2, d3, d4, d5, d6] => { results := [.lit (.bool true)], args := [d1, d2, d3, d4, d5, d6] }
  | _ => none }
def gzOpensRow : OpenClaim := { program := "ytbmcjdoiohcaaaagreat", sum := "76d478c100d839ee69cf38ecef372e69369659bbc154c78603e163daf08003fa", func := "engrosser/engrosserlaw12.GzOpens", spec := "gzOpens", inPlace := ["internal/bytealg.IndexByteString"], unfollowed := true, recurses := true, apart := false }
def GzOpensSaid : Prop := gzOpensRow.holds Tryz.pinned (OpenSpec.ofChange gzOpensSpec)

/-- ITS FALSE NEIGHBOUR: 'it returns false'. Refute it at one input. -/
def gzOpensWrong : ChangeSpec := { name := "gzOpens", fn := fun _ => fun
  | [d1, d2, d3, d4, d5, d6] => { results := [.lit (.bool false)], args := [d1, d2, d3, d4, d5, d6] }
  | _ => none }
def GzOpensWrongFalsely : Prop := gzOpensRow.holds Tryz.pinned (OpenSpec.ofChange gzOpensWrong)

/-- 'engrosserlaw12.GzBack': WHATEVER THE INPUT: true; the input reads as it did. -/
def gzBackSpec : ChangeSpec := { name := "gzBack", fn := fun _ => fun
  | [d1, d2] => { results := [.lit (.bool true)], args := [d1, d2] }
  | _ => none }
def gzBackRow : OpenClaim := { program := "ytbmcjdoiohcaaaagreat", sum := "76d478c100d839ee69cf38ecef372e69369659bbc154c78603e163daf08003fa", func := "engrosser/engrosserlaw12.GzBack", spec := "gzBack", inPlace := ["internal/bytealg.IndexByteString"], unfollowed := true, recurses := true, apart := false }
def GzBackSaid : Prop := gzBackRow.holds Tryz.pinned (OpenSpec.ofChange gzBackSpec)

/-- ITS FALSE NEIGHBOUR: 'it returns false'. Refute it at one input. -/
def gzBackWrong : ChangeSpec := { name := "gzBack", fn := fun _ => fun
  | [d1, d2] => { results := [.lit (.bool false)], args := [d1, d2] }
  | _ => none }
def GzBackWrongFalsely : Prop := gzBackRow.holds Tryz.pinned (OpenSpec.ofChange gzBackWrong)

/-- 'engrosserlaw12.GzBit': WHATEVER THE INPUT: true; the input reads as it did. -/
def gzBitSpec : ChangeSpec := { name := "gzBit", fn := fun _ => fun
  | [d1, d2] => { results := [.lit (.bool true)], args := [d1, d2] }
  | _ => none }
def gzBitRow : OpenClaim := { program := "ytbmcjdoiohcaaaagreat", sum := "76d478c100d839ee69cf38ecef372e69369659bbc154c78603e163daf08003fa", func := "engrosser/engrosserlaw12.GzBit", spec := "gzBit", inPlace := ["internal/bytealg.IndexByteString"], unfollowed := true, recurses := true, apart := false }
def GzBitSaid : Prop := gzBitRow.holds Tryz.pinned (OpenSpec.ofChange gzBitSpec)

/-- ITS FALSE NEIGHBOUR: 'it returns false'. Refute it at one input. -/
def gzBitWrong : ChangeSpec := { name := "gzBit", fn := fun _ => fun
  | [d1, d2] => { results := [.lit (.bool false)], args := [d1, d2] }
  | _ => none }
def GzBitWrongFalsely : Prop := gzBitRow.holds Tryz.pinned (OpenSpec.ofChange gzBitWrong)

/-- 'engrosserlaw12.GzNamed': WHATEVER THE INPUT: true; the input reads as it did. -/
def gzNamedSpec : ChangeSpec := { name := "gzNamed", fn := fun _ => fun
  | [d1, d2, d3, d4, d5] => { results := [.lit (.bool true)], args := [d1, d2, d3, d4, d5] }
  | _ => none }
def gzNamedRow : OpenClaim := { program := "ytbmcjdoiohcaaaagreat", sum := "76d478c100d839ee69cf38ecef372e69369659bbc154c78603e163daf08003fa", func := "engrosser/engrosserlaw12.GzNamed", spec := "gzNamed", inPlace := ["internal/bytealg.IndexByteString"], unfollowed := true, recurses := true, apart := false }
def GzNamedSaid : Prop := gzNamedRow.holds Tryz.pinned (OpenSpec.ofChange gzNamedSpec)

/-- ITS FALSE NEIGHBOUR: 'it returns false'. Refute it at one input. -/
def gzNamedWrong : ChangeSpec := { name := "gzNamed", fn := fun _ => fun
  | [d1, d2, d3, d4, d5] => { results := [.lit (.bool false)], args := [d1, d2, d3, d4, d5] }
  | _ => none }
def GzNamedWrongFalsely : Prop := gzNamedRow.holds Tryz.pinned (OpenSpec.ofChange gzNamedWrong)

/-- 'engrosserlaw12.GzStrange': WHATEVER THE INPUT: true; the input reads as it did. -/
def gzStrangeSpec : ChangeSpec := { name := "gzStrange", fn := fun _ => fun
  | [d1, d2, d3, d4] => { results := [.lit (.bool true)], args := [d1, d2, d3, d4] }
  | _ => none }
def gzStrangeRow : OpenClaim := { program := "ytbmcjdoiohcaaaagreat", sum := "76d478c100d839ee69cf38ecef372e69369659bbc154c78603e163daf08003fa", func := "engrosser/engrosserlaw12.GzStrange", spec := "gzStrange", inPlace := ["internal/bytealg.IndexByteString"], unfollowed := true, recurses := true, apart := false }
def GzStrangeSaid : Prop := gzStrangeRow.holds Tryz.pinned (OpenSpec.ofChange gzStrangeSpec)

/-- ITS FALSE NEIGHBOUR: 'it returns false'. Refute it at one input. -/
def gzStrangeWrong : ChangeSpec := { name := "gzStrange", fn := fun _ => fun
  | [d1, d2, d3, d4] => { results := [.lit (.bool false)], args := [d1, d2, d3, d4] }
  | _ => none }
def GzStrangeWrongFalsely : Prop := gzStrangeRow.holds Tryz.pinned (OpenSpec.ofChange gzStrangeWrong)

/- THE SECOND FORM. 'bulk': how many values and letters a reading holds, each counted each time it is reached (what is shared counts as often as it is met; a slice's spare places count too). A statement '..UptoSaid' is the law's where the arguments, and the package variables that the reading takes, are together of bulk at most 1048576: NARROWER than '..Said'. Prove '..Said' where nothing that the law and all that it calls make is longer than what came in: it says more and counts as full. Else prove '..UptoSaid'. A law counts once. -/
mutual
def uptoBulk {H : Type} : DataW H → Nat
  | .lit (.string bytes) => bytes.length + 1
  | .lit _ => 1
  | .nil => 1
  | .ptr d => uptoBulk d + 1
  | .slice elems spare => uptoBulkAll elems + uptoBulkAll spare + 1
  | .agg parts => uptoBulkAll parts + 1
  | .iface _ d => uptoBulk d + 1
  | .map entries => uptoBulkEntries entries + 1
  | .held _ => 1
def uptoBulkAll {H : Type} : List (DataW H) → Nat
  | [] => 0
  | d :: r => uptoBulk d + uptoBulkAll r
def uptoBulkEntries {H : Type} : List (Lit × DataW H) → Nat
  | [] => 0
  | x :: r => uptoBulkEntry x + uptoBulkEntries r
def uptoBulkEntry {H : Type} : Lit × DataW H → Nat
  | (.string bytes, d) => bytes.length + uptoBulk d + 1
  | (_, d) => uptoBulk d + 1
 end
def uptoSmall : (H : Type) → List (DataW H) → Bool := fun _ ds => decide (uptoBulkAll ds ≤ 1048576)
def OpenSpec.upto (s : _root_.Go.ChangeSpec) : _root_.Go.OpenSpec := { _root_.Go.OpenSpec.ofChange s with cond := some uptoSmall }

/-- 'engrosserlaw12.GzPacks', WHERE WHAT IT READS IS OF BULK AT MOST 1048576: true; the input reads as it did. -/
def gzPacksUptoRow : OpenClaim := { program := "ytbmcjdoiohcaaaagreat", sum := "76d478c100d839ee69cf38ecef372e69369659bbc154c78603e163daf08003fa", func := "engrosser/engrosserlaw12.GzPacks", spec := "gzPacks", inPlace := ["internal/bytealg.IndexByteString"], unfollowed := true, recurses := true, apart := false, narrowed := true }
def GzPacksUptoSaid : Prop := gzPacksUptoRow.holds Tryz.pinned (OpenSpec.upto gzPacksSpec)

/-- 'engrosserlaw12.GzOpens', WHERE WHAT IT READS IS OF BULK AT MOST 1048576: true; the input reads as it did. -/
def gzOpensUptoRow : OpenClaim := { program := "ytbmcjdoiohcaaaagreat", sum := "76d478c100d839ee69cf38ecef372e69369659bbc154c78603e163daf08003fa", func := "engrosser/engrosserlaw12.GzOpens", spec := "gzOpens", inPlace := ["internal/bytealg.IndexByteString"], unfollowed := true, recurses := true, apart := false, narrowed := true }
def GzOpensUptoSaid : Prop := gzOpensUptoRow.holds Tryz.pinned (OpenSpec.upto gzOpensSpec)

/-- 'engrosserlaw12.GzBack', WHERE WHAT IT READS IS OF BULK AT MOST 1048576: true; the input reads as it did. -/
def gzBackUptoRow : OpenClaim := { program := "ytbmcjdoiohcaaaagreat", sum := "76d478c100d839ee69cf38ecef372e69369659bbc154c78603e163daf08003fa", func := "engrosser/engrosserlaw12.GzBack", spec := "gzBack", inPlace := ["internal/bytealg.IndexByteString"], unfollowed := true, recurses := true, apart := false, narrowed := true }
def GzBackUptoSaid : Prop := gzBackUptoRow.holds Tryz.pinned (OpenSpec.upto gzBackSpec)

/-- 'engrosserlaw12.GzBit', WHERE WHAT IT READS IS OF BULK AT MOST 1048576: true; the input reads as it did. -/
def gzBitUptoRow : OpenClaim := { program := "ytbmcjdoiohcaaaagreat", sum := "76d478c100d839ee69cf38ecef372e69369659bbc154c78603e163daf08003fa", func := "engrosser/engrosserlaw12.GzBit", spec := "gzBit", inPlace := ["internal/bytealg.IndexByteString"], unfollowed := true, recurses := true, apart := false, narrowed := true }
def GzBitUptoSaid : Prop := gzBitUptoRow.holds Tryz.pinned (OpenSpec.upto gzBitSpec)

/-- 'engrosserlaw12.GzNamed', WHERE WHAT IT READS IS OF BULK AT MOST 1048576: true; the input reads as it did. -/
def gzNamedUptoRow : OpenClaim := { program := "ytbmcjdoiohcaaaagreat", sum := "76d478c100d839ee69cf38ecef372e69369659bbc154c78603e163daf08003fa", func := "engrosser/engrosserlaw12.GzNamed", spec := "gzNamed", inPlace := ["internal/bytealg.IndexByteString"], unfollowed := true, recurses := true, apart := false, narrowed := true }
def GzNamedUptoSaid : Prop := gzNamedUptoRow.holds Tryz.pinned (OpenSpec.upto gzNamedSpec)

/-- 'engrosserlaw12.GzStrange', WHERE WHAT IT READS IS OF BULK AT MOST 1048576: true; the input reads as it did. -/
def gzStrangeUptoRow : OpenClaim := { program := "ytbmcjdoiohcaaaagreat", sum := "76d478c100d839ee69cf38ecef372e69369659bbc154c78603e163daf08003fa", func := "engrosser/engrosserlaw12.GzStrange", spec := "gzStrange", inPlace := ["internal/bytealg.IndexByteString"], unfollowed := true, recurses := true, apart := false, narrowed := true }
def GzStrangeUptoSaid : Prop := gzStrangeUptoRow.holds Tryz.pinned (OpenSpec.upto gzStrangeSpec)

end Rows
end Go.Proofs.YtbmcjdoiohcaaaaGreat
