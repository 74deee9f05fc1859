/- Len64, LeadingZeros64, Div64. -/
import Derived.Test.YtmmijnacgolopaaSb2
import Derived.Test.YtmmijnacgolopaaCopy
import Derived.Deep.LoopGhost
import Derived.BigQuiet
import Derived.Deep.QuietTactic
namespace Go.Proofs.Ytmmijnacgolopaa
open Go.RowKit
theorem run_byte {P : Program} (w : World) (t : TypeId) (h : P.underlying t = some .string) (s : ByteArray) (i : Nat) (hi : i < s.size) (k : IntKind) (x : Int) (hx : x = (i : Int)) :
    (Instr.index t (.string s) (.int k x)).run P w = .ok (.int .u8 (iw (bS s i))) w := by
  subst hx
  have e : s[i]? = some s[i] := by simp [hi]
  have e2 : ((s[i]).toNat : Int) = iw (bS s i) := by unfold iw bS; rw [e]; rfl
  simp [Instr.index, run_underlying h, asIntOf, Sem.run_bind, e, e2]
def bl (i : Nat) : Nat := if i = 0 then 0 else Nat.log2 i + 1
def tab : ByteArray := ⟨((List.range 256).map fun i => UInt8.ofNat (bl i)).toArray⟩
theorem tab_at : ∀ z, z < 256 → (tab[z]?.getD 0).toNat = bl z := by decide +kernel
theorem run_tab {P : Program} (w : World) (t : TypeId) (h : P.underlying t = some .string) (x : BitVec 8) : (Instr.index t (.string tab) (.int .u8 (iw x))).run P w = .ok (.int .u8 (bl x.toNat : Int)) w := by
  have hx : x.toNat < 256 := x.isLt
  rw [run_byte w t h tab x.toNat (by rw [show tab.size = 256 by kernel_rfl]; exact hx) .u8 (iw x) (by unfold iw; rfl)]
  have : iw (bS tab x.toNat) = (bl x.toNat : Int) := by
    rw [← tab_at _ hx]; unfold iw bS; rfl
  rw [this]
theorem wpList_index_run {P : Program} {ops : Array Oper} {rest : List Oper} {o : Oper} {a : Act} {w : World} {Q : Exit → Act → World → Prop} (hg : o.guard = none) (t : TypeId) (x y : Operand) (ho : o.op = .index t x y)
    (X Y : Value) (hx : a.eval x = X) (hy : a.eval y = Y) (v : Value) (hrun : (Instr.index t X Y).run P w = .ok v w)
    (h : wpList P ops Q rest (a.put o.dst v) w) : wpList P ops Q (o :: rest) a w := by
  refine wpList_plain hg fun K hK => ?_
  unfold Oper.wp execOp
  simp only [ho, hx, hy, Sem.run_bind, hrun, Result.andThen_ok]
  exact hK _ _ h
/-- How far y is from having its highest bit. -/
def lz (y : BitVec 64) : Nat := 8 - bl (castw 8 (shrw (shrw (shrw y 32) 16) 8)).toNat
theorem bl_le : ∀ z, z < 256 → bl z ≤ 8 := by decide +kernel
set_option maxRecDepth 100000 in
set_option maxHeartbeats 1000000 in
theorem len64_any (y : BitVec 64) (w : World) (h1 : 4294967296 ≤ iw y) (h2 : 65536 ≤ iw (shrw y 32)) (h3 : 256 ≤ iw (shrw (shrw y 32) 16)) :
    Calls Try.prog 39 #[.int .u64 (iw y)] w fun e w' => e = .returned (.int .i64 ((64 - lz y : Nat) : Int)) ∧ w = w' := by
  have hb := bl_le (castw 8 (shrw (shrw (shrw y 32) 16) 8)).toNat (castw 8 (shrw (shrw (shrw y 32) 16) 8)).isLt
  have hlz : ((64 - lz y : Nat) : Int) = 56 + (bl (castw 8 (shrw (shrw (shrw y 32) 16) 8)).toNat : Int) := by unfold lz; omega
  have HL := Lib.hid hlz
  clear hlz
  go_enter Try.func39, Try.ntmps39
  go_wp2_with (refine wpList_index_run rfl 9 _ _ rfl (.string tab) (.int .u8 (iw (castw 8 (shrw (shrw (shrw y 32) 16) 8)))) (by kernel_rfl) rfl _ (run_tab w _ Try.underlying9 _) ?_)
  go_ret
  exact ⟨by rw [HL.out]; rfl, rfl⟩
set_option maxHeartbeats 1000000 in
theorem leading_any (y : BitVec 64) (w : World) (h1 : 4294967296 ≤ iw y) (h2 : 65536 ≤ iw (shrw y 32)) (h3 : 256 ≤ iw (shrw (shrw y 32) 16)) :
    Calls Try.prog 37 #[.int .u64 (iw y)] w fun e w' => e = .returned (.int .i64 (lz y : Int)) ∧ w = w' := by
  have hz : lz y ≤ 8 := by unfold lz; omega
  have hs : (64 : Int) - ((64 - lz y : Nat) : Int) = (lz y : Int) := by omega
  go_enter Try.func37, Try.ntmps37
  go_wp2_with (go_at_call 39; refine (len64_any y _ h1 h2 h3).mono ?_; rintro e w' ⟨rfl, rfl⟩)
  go_ret
  exact ⟨rfl, rfl⟩
def divw (x y : BitVec 64) : BitVec 64 := BitVec.ofNat 64 (x.toNat / y.toNat)
theorem iw_div (x y : BitVec 64) : iw x / iw y = iw (divw x y) := by
  have := x.isLt
  unfold iw divw
  rw [BitVec.toNat_ofNat, Nat.mod_eq_of_lt (Nat.lt_of_le_of_lt (Nat.div_le_self _ _) this)]
  exact (Int.natCast_ediv _ _).symm
def two32 : BitVec 64 := litw 64 4294967296
/-- The two steps that put a guessed digit right. -/
def fixq (yn1 yn0 un : BitVec 64) : Nat → BitVec 64 → BitVec 64 → Option (BitVec 64)
  | 0, _, _ => none
  | k + 1, q, r =>
    if 4294967296 ≤ iw q ∨ iw (addw (mulw r two32) un) < iw (mulw q yn0) then
      if 4294967296 ≤ iw (addw r yn1) then some (subw q (litw 64 1)) else fixq yn1 yn0 un k (subw q (litw 64 1)) (addw r yn1)
    else some q
def un21 (Y un32 un1 q1 : BitVec 64) : BitVec 64 := subw (addw (mulw un32 two32) un1) (mulw q1 Y)
def divL (yn1 yn0 un0 u : BitVec 64) : Option (BitVec 64) := fixq yn1 yn0 un0 4 (divw u yn1) (subw u (mulw (divw u yn1) yn1))
def divK (yn1 yn0 Y un32 un1 un0 : BitVec 64) : Option (BitVec 64) :=
  match fixq yn1 yn0 un1 4 (divw un32 yn1) (subw un32 (mulw (divw un32 yn1) yn1)) with
  | none => none
  | some q1 => (divL yn1 yn0 un0 (un21 Y un32 un1 q1)).map fun q0 => addw (mulw q1 two32) q0
def div64 (hi lo y : BitVec 64) : Option (BitVec 64) :=
  if iw hi = 0 then (if iw hi < iw y then some (divw lo y) else none)
  else if 4294967296 ≤ iw y ∧ iw hi < iw y ∧ iw hi ≠ 0 ∧ 65536 ≤ iw (shrw y 32) ∧ 256 ≤ iw (shrw (shrw y 32) 16) ∧ iw (shrw (shlw y (lz y)) 32) ≠ 0 then
    divK (shrw (shlw y (lz y)) 32) (andw (shlw y (lz y)) m32) (shlw y (lz y)) (orw (shlw hi (lz y)) (shrw lo (64 - lz y))) (shrw (shlw lo (lz y)) 32) (andw (shlw lo (lz y)) m32)
  else none
set_option maxRecDepth 100000 in
set_option maxHeartbeats 2000000 in
theorem div64_go (hi lo y : BitVec 64) (Q : BitVec 64) (w : World) (h1 : 4294967296 ≤ iw y) (g1 : iw hi < iw y) (g2 : iw hi ≠ 0)
    (h2 : 65536 ≤ iw (shrw y 32)) (h3 : 256 ≤ iw (shrw (shrw y 32) 16)) (g3 : iw (shrw (shlw y (lz y)) 32) ≠ 0)
    (HQ : Hid (divK (shrw (shlw y (lz y)) 32) (andw (shlw y (lz y)) m32) (shlw y (lz y)) (orw (shlw hi (lz y)) (shrw lo (64 - lz y))) (shrw (shlw lo (lz y)) 32) (andw (shlw lo (lz y)) m32) = some Q)) :
    Calls Try.prog 33 #[.int .u64 (iw hi), .int .u64 (iw lo), .int .u64 (iw y)] w fun e w' => ∃ r, e = .returned (.tuple #[.int .u64 (iw Q), r]) ∧ w = w' := by
  have hand : ∀ x : BitVec 64, bits .and .u64 (iw x) 4294967295 = iw (andw x m32) := fun x => and64_lit x _
  have hdv : ∀ a b : BitVec 64, IntKind.u64.wrap ((iw a).tdiv (iw b)) = iw (divw a b) := fun a b => by
    rw [Int.tdiv_eq_ediv_of_nonneg (by unfold iw; omega), iw_div, IntKind.wrap_u64]
    have := (divw a b).isLt
    unfold iw
    omega
  have hml : ∀ x : BitVec 64, IntKind.u64.wrap (4294967296 * iw x) = iw (mulw x two32) := fun x => by rw [Int.mul_comm]; exact wrap64_mul_lit x 4294967296
  have hmr : ∀ x : BitVec 64, IntKind.u64.wrap (iw x * 4294967296) = iw (mulw x two32) := fun x => wrap64_mul_lit x 4294967296
  have hs1 : ∀ x : BitVec 64, IntKind.u64.wrap (iw x - 1) = iw (subw x (litw 64 1)) := fun x => wrap64_sub_lit x 1
  have g0 : iw y ≠ 0 := by omega
  have g0' : ¬ iw y ≤ iw hi := by omega
  have hz : lz y ≤ 8 := by unfold lz; omega
  go_enter Try.func33, Try.ntmps33
  go_wp2_with (first | (go_at_call 37; refine (leading_any y _ h1 h2 h3).mono ?_; rintro e w' ⟨rfl, rfl⟩) | fail)
  generalize shlw y (lz y) = Y at HQ g3 ⊢
  generalize orw (shlw hi (lz y)) (shrw lo (64 - lz y)) = un32 at HQ ⊢
  generalize shrw (shlw lo (lz y)) 32 = un1 at HQ ⊢
  generalize andw (shlw lo (lz y)) m32 = un0 at HQ ⊢
  generalize shrw Y 32 = yn1 at HQ g3 ⊢
  generalize andw Y m32 = yn0 at HQ ⊢
  obtain ⟨q1, hq1⟩ : ∃ q1, fixq yn1 yn0 un1 4 (divw un32 yn1) (subw un32 (mulw (divw un32 yn1) yn1)) = some q1 := by
    have := HQ.out
    unfold divK at this
    split at this
    · cases this
    · exact ⟨_, by assumption⟩
  obtain ⟨q0, hq0, hQQ⟩ : ∃ q0, divL yn1 yn0 un0 (un21 Y un32 un1 q1) = some q0 ∧ addw (mulw q1 two32) q0 = Q := by
    have := HQ.out
    unfold divK at this
    rw [hq1] at this
    simpa [Option.map_eq_some_iff] using this
  have HL := Lib.hid hq0
  subst hQQ
  clear hq0
  have H1 := Lib.hid hq1
  clear hq1 HQ h1 h2 h3 g0 g0' g1 g2
  go_loopg [15, 16] 4 (fun gk a b wr => ∃ k q r, gk = k ∧ Hid (fixq yn1 yn0 un1 k q r = some q1) ∧ a = .int .u64 (iw q) ∧ b = .int .u64 (iw r) ∧ w = wr)
  case atStart => exact ⟨4, _, _, rfl, H1, rfl, rfl, rfl⟩
  case round =>
    obtain ⟨k, q, r, hgk, HF, rfl, rfl, rfl⟩ := hrel
    have HG := Lib.hid hgk
    clear hgk
    cases k with
    | zero => have := HF.out; simp [fixq] at this
    | succ k =>
      have hF := HF.out
      unfold fixq at hF
      clear HF
      by_cases c : 4294967296 ≤ iw q ∨ iw (addw (mulw r two32) un1) < iw (mulw q yn0)
      · rw [if_pos c] at hF
        by_cases c2 : 4294967296 ≤ iw (addw r yn1)
        · rw [if_pos c2] at hF
          have e1 : subw q (litw 64 1) = q1 := by injection hF
          clear hF
          by_cases c1 : 4294967296 ≤ iw q
          · clear c
            clear H1
            go_wp2_with fail
            obtain ⟨U, hU⟩ : ∃ U, U = subw (addw (mulw un32 two32) un1) (mulw q1 Y) := ⟨_, rfl⟩
            have HL2 : Hid (fixq yn1 yn0 un0 4 (divw U yn1) (subw U (mulw (divw U yn1) yn1)) = some q0) := by rw [hU]; exact HL
            rw [← hU]
            clear hU HL
            obtain ⟨wo, rfl⟩ : ∃ wo : World, wo = w := ⟨_, rfl⟩
            go_loopg [16, 18] 4 (fun gk b a wr => ∃ k q r, gk = k ∧ Hid (fixq yn1 yn0 un0 k q r = some q0) ∧ a = .int .u64 (iw q) ∧ b = .int .u64 (iw r) ∧ wo = wr)
            case atStart => exact ⟨4, _, _, rfl, HL2, rfl, rfl, rfl⟩
            case round =>
              obtain ⟨k, q, r, hgk, HF, rfl, rfl, rfl⟩ := hrel
              have HG := Lib.hid hgk
              clear hgk
              cases k with
              | zero => have := HF.out; simp [fixq] at this
              | succ k =>
                have hF := HF.out
                unfold fixq at hF
                clear HF
                by_cases c : 4294967296 ≤ iw q ∨ iw (addw (mulw r two32) un0) < iw (mulw q yn0)
                · rw [if_pos c] at hF
                  by_cases c2 : 4294967296 ≤ iw (addw r yn1)
                  · rw [if_pos c2] at hF
                    have e1 : subw q (litw 64 1) = q0 := by injection hF
                    clear hF
                    by_cases c1 : 4294967296 ≤ iw q
                    · clear c
                      go_wp2_with fail
                      go_ret2
                      first | exact ⟨_, rfl, by trivial⟩ | exact ⟨_, by rw [← e1]; rfl, by trivial⟩ | exact ⟨⟨_, rfl⟩, by trivial⟩ | exact ⟨⟨_, by rw [← e1]; rfl⟩, by trivial⟩

                    · have c3 : iw (addw (mulw r two32) un0) < iw (mulw q yn0) := by rcases c with h | h; exact absurd h c1; exact h
                      clear c
                      go_wp2_with fail
                      go_ret2
                      first | exact ⟨_, rfl, by trivial⟩ | exact ⟨_, by rw [← e1]; rfl, by trivial⟩ | exact ⟨⟨_, rfl⟩, by trivial⟩ | exact ⟨⟨_, by rw [← e1]; rfl⟩, by trivial⟩

                  · rw [if_neg c2] at hF
                    have HF := Lib.hid hF
                    clear hF
                    by_cases c1 : 4294967296 ≤ iw q
                    · clear c
                      go_wp2_with fail
                      go_roundg k
                      case measure => have := HG.out; omega
                      case rel => exact ⟨k, _, _, rfl, HF, rfl, rfl, by trivial⟩
                    · have c3 : iw (addw (mulw r two32) un0) < iw (mulw q yn0) := by rcases c with h | h; exact absurd h c1; exact h
                      clear c
                      go_wp2_with fail
                      go_roundg k
                      case measure => have := HG.out; omega
                      case rel => exact ⟨k, _, _, rfl, HF, rfl, rfl, by trivial⟩
                · rw [if_neg c] at hF
                  have c1 : ¬ 4294967296 ≤ iw q := fun h => c (.inl h)
                  have c3 : ¬ iw (addw (mulw r two32) un0) < iw (mulw q yn0) := fun h => c (.inr h)
                  have e1 : q = q0 := by injection hF
                  clear hF c
                  subst e1
                  go_wp2_with fail
                  go_ret2
                  first | exact ⟨_, rfl, by trivial⟩ | exact ⟨_, by rw [← e1]; rfl, by trivial⟩ | exact ⟨⟨_, rfl⟩, by trivial⟩ | exact ⟨⟨_, by rw [← e1]; rfl⟩, by trivial⟩


          · have c3 : iw (addw (mulw r two32) un1) < iw (mulw q yn0) := by rcases c with h | h; exact absurd h c1; exact h
            clear c
            clear H1
            go_wp2_with fail
            obtain ⟨U, hU⟩ : ∃ U, U = subw (addw (mulw un32 two32) un1) (mulw q1 Y) := ⟨_, rfl⟩
            have HL2 : Hid (fixq yn1 yn0 un0 4 (divw U yn1) (subw U (mulw (divw U yn1) yn1)) = some q0) := by rw [hU]; exact HL
            rw [← hU]
            clear hU HL
            obtain ⟨wo, rfl⟩ : ∃ wo : World, wo = w := ⟨_, rfl⟩
            go_loopg [16, 18] 4 (fun gk b a wr => ∃ k q r, gk = k ∧ Hid (fixq yn1 yn0 un0 k q r = some q0) ∧ a = .int .u64 (iw q) ∧ b = .int .u64 (iw r) ∧ wo = wr)
            case atStart => exact ⟨4, _, _, rfl, HL2, rfl, rfl, rfl⟩
            case round =>
              obtain ⟨k, q, r, hgk, HF, rfl, rfl, rfl⟩ := hrel
              have HG := Lib.hid hgk
              clear hgk
              cases k with
              | zero => have := HF.out; simp [fixq] at this
              | succ k =>
                have hF := HF.out
                unfold fixq at hF
                clear HF
                by_cases c : 4294967296 ≤ iw q ∨ iw (addw (mulw r two32) un0) < iw (mulw q yn0)
                · rw [if_pos c] at hF
                  by_cases c2 : 4294967296 ≤ iw (addw r yn1)
                  · rw [if_pos c2] at hF
                    have e1 : subw q (litw 64 1) = q0 := by injection hF
                    clear hF
                    by_cases c1 : 4294967296 ≤ iw q
                    · clear c
                      go_wp2_with fail
                      go_ret2
                      first | exact ⟨_, rfl, by trivial⟩ | exact ⟨_, by rw [← e1]; rfl, by trivial⟩ | exact ⟨⟨_, rfl⟩, by trivial⟩ | exact ⟨⟨_, by rw [← e1]; rfl⟩, by trivial⟩

                    · have c3 : iw (addw (mulw r two32) un0) < iw (mulw q yn0) := by rcases c with h | h; exact absurd h c1; exact h
                      clear c
                      go_wp2_with fail
                      go_ret2
                      first | exact ⟨_, rfl, by trivial⟩ | exact ⟨_, by rw [← e1]; rfl, by trivial⟩ | exact ⟨⟨_, rfl⟩, by trivial⟩ | exact ⟨⟨_, by rw [← e1]; rfl⟩, by trivial⟩

                  · rw [if_neg c2] at hF
                    have HF := Lib.hid hF
                    clear hF
                    by_cases c1 : 4294967296 ≤ iw q
                    · clear c
                      go_wp2_with fail
                      go_roundg k
                      case measure => have := HG.out; omega
                      case rel => exact ⟨k, _, _, rfl, HF, rfl, rfl, by trivial⟩
                    · have c3 : iw (addw (mulw r two32) un0) < iw (mulw q yn0) := by rcases c with h | h; exact absurd h c1; exact h
                      clear c
                      go_wp2_with fail
                      go_roundg k
                      case measure => have := HG.out; omega
                      case rel => exact ⟨k, _, _, rfl, HF, rfl, rfl, by trivial⟩
                · rw [if_neg c] at hF
                  have c1 : ¬ 4294967296 ≤ iw q := fun h => c (.inl h)
                  have c3 : ¬ iw (addw (mulw r two32) un0) < iw (mulw q yn0) := fun h => c (.inr h)
                  have e1 : q = q0 := by injection hF
                  clear hF c
                  subst e1
                  go_wp2_with fail
                  go_ret2
                  first | exact ⟨_, rfl, by trivial⟩ | exact ⟨_, by rw [← e1]; rfl, by trivial⟩ | exact ⟨⟨_, rfl⟩, by trivial⟩ | exact ⟨⟨_, by rw [← e1]; rfl⟩, by trivial⟩


        · rw [if_neg c2] at hF
          have HF := Lib.hid hF
          clear hF
          by_cases c1 : 4294967296 ≤ iw q
          · clear c
            go_wp2_with fail
            go_roundg k
            case measure => have := HG.out; omega
            case rel => exact ⟨k, _, _, rfl, HF, rfl, rfl, by trivial⟩
          · have c3 : iw (addw (mulw r two32) un1) < iw (mulw q yn0) := by rcases c with h | h; exact absurd h c1; exact h
            clear c
            go_wp2_with fail
            go_roundg k
            case measure => have := HG.out; omega
            case rel => exact ⟨k, _, _, rfl, HF, rfl, rfl, by trivial⟩
      · rw [if_neg c] at hF
        have c1 : ¬ 4294967296 ≤ iw q := fun h => c (.inl h)
        have c3 : ¬ iw (addw (mulw r two32) un1) < iw (mulw q yn0) := fun h => c (.inr h)
        have e1 : q = q1 := by injection hF
        clear hF c
        subst e1
        clear H1
        go_wp2_with fail
        obtain ⟨U, hU⟩ : ∃ U, U = subw (addw (mulw un32 two32) un1) (mulw q Y) := ⟨_, rfl⟩
        have HL2 : Hid (fixq yn1 yn0 un0 4 (divw U yn1) (subw U (mulw (divw U yn1) yn1)) = some q0) := by rw [hU]; exact HL
        rw [← hU]
        clear hU HL
        obtain ⟨wo, rfl⟩ : ∃ wo : World, wo = w := ⟨_, rfl⟩
        go_loopg [16, 18] 4 (fun gk b a wr => ∃ k q r, gk = k ∧ Hid (fixq yn1 yn0 un0 k q r = some q0) ∧ a = .int .u64 (iw q) ∧ b = .int .u64 (iw r) ∧ wo = wr)
        case atStart => exact ⟨4, _, _, rfl, HL2, rfl, rfl, rfl⟩
        case round =>
          obtain ⟨k, q, r, hgk, HF, rfl, rfl, rfl⟩ := hrel
          have HG := Lib.hid hgk
          clear hgk
          cases k with
          | zero => have := HF.out; simp [fixq] at this
          | succ k =>
            have hF := HF.out
            unfold fixq at hF
            clear HF
            by_cases c : 4294967296 ≤ iw q ∨ iw (addw (mulw r two32) un0) < iw (mulw q yn0)
            · rw [if_pos c] at hF
              by_cases c2 : 4294967296 ≤ iw (addw r yn1)
              · rw [if_pos c2] at hF
                have e1 : subw q (litw 64 1) = q0 := by injection hF
                clear hF
                by_cases c1 : 4294967296 ≤ iw q
                · clear c
                  go_wp2_with fail
                  go_ret2
                  first | exact ⟨_, rfl, by trivial⟩ | exact ⟨_, by rw [← e1]; rfl, by trivial⟩ | exact ⟨⟨_, rfl⟩, by trivial⟩ | exact ⟨⟨_, by rw [← e1]; rfl⟩, by trivial⟩

                · have c3 : iw (addw (mulw r two32) un0) < iw (mulw q yn0) := by rcases c with h | h; exact absurd h c1; exact h
                  clear c
                  go_wp2_with fail
                  go_ret2
                  first | exact ⟨_, rfl, by trivial⟩ | exact ⟨_, by rw [← e1]; rfl, by trivial⟩ | exact ⟨⟨_, rfl⟩, by trivial⟩ | exact ⟨⟨_, by rw [← e1]; rfl⟩, by trivial⟩

              · rw [if_neg c2] at hF
                have HF := Lib.hid hF
                clear hF
                by_cases c1 : 4294967296 ≤ iw q
                · clear c
                  go_wp2_with fail
                  go_roundg k
                  case measure => have := HG.out; omega
                  case rel => exact ⟨k, _, _, rfl, HF, rfl, rfl, by trivial⟩
                · have c3 : iw (addw (mulw r two32) un0) < iw (mulw q yn0) := by rcases c with h | h; exact absurd h c1; exact h
                  clear c
                  go_wp2_with fail
                  go_roundg k
                  case measure => have := HG.out; omega
                  case rel => exact ⟨k, _, _, rfl, HF, rfl, rfl, by trivial⟩
            · rw [if_neg c] at hF
              have c1 : ¬ 4294967296 ≤ iw q := fun h => c (.inl h)
              have c3 : ¬ iw (addw (mulw r two32) un0) < iw (mulw q yn0) := fun h => c (.inr h)
              have e1 : q = q0 := by injection hF
              clear hF c
              subst e1
              go_wp2_with fail
              go_ret2
              first | exact ⟨_, rfl, by trivial⟩ | exact ⟨_, by rw [← e1]; rfl, by trivial⟩ | exact ⟨⟨_, rfl⟩, by trivial⟩ | exact ⟨⟨_, by rw [← e1]; rfl⟩, by trivial⟩


set_option maxRecDepth 100000 in
set_option maxHeartbeats 1000000 in
theorem div64_zero (hi lo y : BitVec 64) (w : World) (g1 : iw hi < iw y) (g2 : iw hi = 0) :
    Calls Try.prog 33 #[.int .u64 (iw hi), .int .u64 (iw lo), .int .u64 (iw y)] w fun e w' => ∃ r, e = .returned (.tuple #[.int .u64 (iw (divw lo y)), r]) ∧ ∃ m, w' = w.drewN m := by
  have hdv : ∀ a b : BitVec 64, IntKind.u64.wrap ((iw a).tdiv (iw b)) = iw (divw a b) := fun a b => by
    rw [Int.tdiv_eq_ediv_of_nonneg (by unfold iw; omega), iw_div, IntKind.wrap_u64]
    have := (divw a b).isLt
    unfold iw
    omega
  have g0 : iw y ≠ 0 := by omega
  have g0' : ¬ iw y ≤ iw hi := by omega
  have g0'' : ¬ iw y ≤ 0 := by omega
  go_enter Try.func33, Try.ntmps33
  go_wp2_with fail
  go_quiet (fail)
  go_wp2_with fail
  go_ret2
  exact ⟨_, rfl, nq, rfl⟩
theorem div64_any (hi lo y Q : BitVec 64) (w : World) (h : div64 hi lo y = some Q) :
    Calls Try.prog 33 #[.int .u64 (iw hi), .int .u64 (iw lo), .int .u64 (iw y)] w fun e w' => ∃ r, e = .returned (.tuple #[.int .u64 (iw Q), r]) ∧ ∃ m, w' = w.drewN m := by
  unfold div64 at h
  split at h
  · rename_i c0
    split at h
    · rename_i c
      have : divw lo y = Q := by injection h
      subst this
      exact div64_zero hi lo y w c c0
    · cases h
  · split at h
    · rename_i c
      exact (div64_go hi lo y Q w c.1 c.2.1 c.2.2.1 c.2.2.2.1 c.2.2.2.2.1 c.2.2.2.2.2 (Lib.hid h)).mono fun e w' ⟨r, he, hw⟩ => ⟨r, he, 0, by rw [← hw]; rfl⟩
    · cases h
end Go.Proofs.Ytmmijnacgolopaa
