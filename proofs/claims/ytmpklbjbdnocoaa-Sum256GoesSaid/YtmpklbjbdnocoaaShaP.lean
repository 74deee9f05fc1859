/- The first 64 primes. -/
import Derived.Test.YtmpklbjbdnocoaaSha3
import Derived.Test.YtmpklbjbdnocoaaPart
import Derived.Deep.LoopGhost
namespace Go.Proofs.Ytmpklbjbdnocoaa
open Go.RowKit
def primesL : List Nat := [2, 3, 5, 7, 11, 13, 17, 19, 23, 29, 31, 37, 41, 43, 47, 53, 59, 61, 67, 71, 73, 79, 83, 89, 97, 101, 103, 107, 109, 113, 127, 131, 137, 139, 149, 151, 157, 163, 167, 173, 179, 181, 191, 193, 197, 199, 211, 223, 227, 229, 233, 239, 241, 251, 257, 263, 269, 271, 277, 281, 283, 293, 307, 311]
def pr (i : Nat) : Nat := primesL.getD i 0
def cnt (n : Nat) : Nat := (primesL.takeWhile (· < n)).length
/-- From the j-th prime on, f of them to come: does one divide n, or is one's square greater? -/
def scan (n : Nat) : Nat → Nat → Option Bool
  | 0, _ => none
  | f + 1, j => if n % pr j = 0 then some false else if n < pr j * pr j then some true else scan n f (j + 1)
def okB (m : Nat) : Bool :=
  decide (1 ≤ cnt (2 * m + 3)) && decide (cnt (2 * m + 3) < 64) && match scan (2 * m + 3) (cnt (2 * m + 3)) 0 with
  | some true => pr (cnt (2 * m + 3)) == 2 * m + 3 && (if m = 154 then cnt (2 * m + 3) == 63 else cnt (2 * (m + 1) + 3) == cnt (2 * m + 3) + 1)
  | some false => cnt (2 * (m + 1) + 3) == cnt (2 * m + 3) && decide (m < 154)
  | none => false
theorem ok_all : ∀ m, m < 155 → okB m = true := by decide +kernel
theorem pr_pos : ∀ i, i < 64 → 2 ≤ pr i ∧ pr i ≤ 311 := by decide +kernel
theorem ok_lo {m : Nat} (hm : m < 155) : 1 ≤ cnt (2 * m + 3) ∧ cnt (2 * m + 3) < 64 := by
  have h := ok_all m hm
  simp only [okB, Bool.and_eq_true, decide_eq_true_eq] at h
  exact h.1
theorem ok_none {m : Nat} (hm : m < 155) : scan (2 * m + 3) (cnt (2 * m + 3)) 0 ≠ none := fun e => by
  have h := ok_all m hm
  simp [okB, e] at h
theorem ok_false {m : Nat} (hm : m < 155) (e : scan (2 * m + 3) (cnt (2 * m + 3)) 0 = some false) : cnt (2 * (m + 1) + 3) = cnt (2 * m + 3) ∧ m < 154 := by
  have h := ok_all m hm
  simp only [okB, e, Bool.and_eq_true, decide_eq_true_eq, beq_iff_eq] at h
  exact h.2
theorem ok_true {m : Nat} (hm : m < 155) (e : scan (2 * m + 3) (cnt (2 * m + 3)) 0 = some true) : pr (cnt (2 * m + 3)) = 2 * m + 3 ∧ (m = 154 ∧ cnt (2 * m + 3) = 63 ∨ m < 154 ∧ cnt (2 * (m + 1) + 3) = cnt (2 * m + 3) + 1) := by
  have h := ok_all m hm
  simp only [okB, e, Bool.and_eq_true, decide_eq_true_eq, beq_iff_eq] at h
  refine ⟨h.2.1, ?_⟩
  by_cases h154 : m = 154
  · rw [if_pos h154] at h; exact .inl ⟨h154, by simpa using h.2.2⟩
  · rw [if_neg h154] at h; exact .inr ⟨by omega, by simpa using h.2.2⟩
def foundF (c i : Nat) : Value := .int .u64 ((if i < c then pr i else 0 : Nat) : Int)
structure PW (w : World) (c : Nat) (wr : World) : Prop where
  z : Blk wr w.heap.size 56 (r64 64 fun _ => litw 64 0)
  r : Blk wr (w.heap.size + 1) 56 (row 64 (foundF c))
  b : Below w.heap.size w wr
section
variable {w wr : World} {c : Nat}
theorem PW.at_ (h : PW w c wr) {j : Nat} (hj : j < c) (hc : c ≤ 64) : wr.cell? ⟨w.heap.size + 1, j, none⟩ = some (.int .u64 (pr j : Int)) := by
  have := h.r.at_ (i := j) (by omega)
  simpa [foundF, hj] using this
theorem PW.put (h : PW w c wr) (hc : c < 64) {N : Nat} (e : pr c = N) : PW w (c + 1) (wr.setCell ⟨w.heap.size + 1, c, none⟩ (.int .u64 (N : Int))) := by
  subst e
  refine ⟨h.z.far (by simp) _, (h.r.put hc _).cast_ (row_ext fun i _ => ?_), h.b.setCell (by simp) _⟩
  by_cases h1 : i = c
  · subst h1; simp [foundF]
  · by_cases h2 : i < c
    · simp [foundF, h1, h2, Nat.lt_succ_of_lt h2]
    · simp [foundF, h1, h2, show ¬ i < c + 1 by omega]
theorem PW.whole (h : PW w 64 wr) : Blk wr (w.heap.size + 1) 56 (r64 64 fun i => litw 64 (pr i)) :=
  h.r.cast_ (row_ext fun i hi => by
    have hp := pr_pos i hi
    have e : iw (litw 64 (pr i)) = (pr i : Int) := by rw [iw_lit]; omega
    simp [foundF, hi, e])
end
def lit2 : Array Value := #[Value.int .u64 2, .int .u64 0, .int .u64 0, .int .u64 0, .int .u64 0, .int .u64 0, .int .u64 0, .int .u64 0, .int .u64 0, .int .u64 0, .int .u64 0, .int .u64 0, .int .u64 0, .int .u64 0, .int .u64 0, .int .u64 0, .int .u64 0, .int .u64 0, .int .u64 0, .int .u64 0, .int .u64 0, .int .u64 0, .int .u64 0, .int .u64 0, .int .u64 0, .int .u64 0, .int .u64 0, .int .u64 0, .int .u64 0, .int .u64 0, .int .u64 0, .int .u64 0, .int .u64 0, .int .u64 0, .int .u64 0, .int .u64 0, .int .u64 0, .int .u64 0, .int .u64 0, .int .u64 0, .int .u64 0, .int .u64 0, .int .u64 0, .int .u64 0, .int .u64 0, .int .u64 0, .int .u64 0, .int .u64 0, .int .u64 0, .int .u64 0, .int .u64 0, .int .u64 0, .int .u64 0, .int .u64 0, .int .u64 0, .int .u64 0, .int .u64 0, .int .u64 0, .int .u64 0, .int .u64 0, .int .u64 0, .int .u64 0, .int .u64 0, .int .u64 0]
def lit0 : Array Value := #[Value.int .u64 0, Value.int .u64 0, Value.int .u64 0, Value.int .u64 0, Value.int .u64 0, Value.int .u64 0, Value.int .u64 0, Value.int .u64 0, Value.int .u64 0, Value.int .u64 0, Value.int .u64 0, Value.int .u64 0, Value.int .u64 0, Value.int .u64 0, Value.int .u64 0, Value.int .u64 0, Value.int .u64 0, Value.int .u64 0, Value.int .u64 0, Value.int .u64 0, Value.int .u64 0, Value.int .u64 0, Value.int .u64 0, Value.int .u64 0, Value.int .u64 0, Value.int .u64 0, Value.int .u64 0, Value.int .u64 0, Value.int .u64 0, Value.int .u64 0, Value.int .u64 0, Value.int .u64 0, Value.int .u64 0, Value.int .u64 0, Value.int .u64 0, Value.int .u64 0, Value.int .u64 0, Value.int .u64 0, Value.int .u64 0, Value.int .u64 0, Value.int .u64 0, Value.int .u64 0, Value.int .u64 0, Value.int .u64 0, Value.int .u64 0, Value.int .u64 0, Value.int .u64 0, Value.int .u64 0, Value.int .u64 0, Value.int .u64 0, Value.int .u64 0, Value.int .u64 0, Value.int .u64 0, Value.int .u64 0, Value.int .u64 0, Value.int .u64 0, Value.int .u64 0, Value.int .u64 0, Value.int .u64 0, Value.int .u64 0, Value.int .u64 0, Value.int .u64 0, Value.int .u64 0, Value.int .u64 0]
theorem lit2_one : lit2.all (·.oneCell') = true := by kernel_rfl
theorem built2 : lit2 = row 64 (foundF 1) := by kernel_rfl
set_option maxRecDepth 100000 in
set_option maxHeartbeats 1000000 in
theorem primes_any (w : World) :
    Calls Try.prog 26 #[] w fun e w' => e = .returned (.agg (r64 64 fun i => litw 64 (pr i))) ∧ Below w.heap.size w w' := by
  go_enter Try.func26, Try.ntmps26
  go_wp2_with fail
  go_step3
  have hsz : (Try.prog.info? 56).map (·.size) = some 64 := by kernel_rfl
  go_wp2_with (refine wpList_store_row rfl 56 _ _ rfl (w.heap.size + 1) lit2 rfl rfl 56 lit0 ((Blk.new (w.alloc _) _ _).cast' ⟨by simp, rfl⟩) hsz rfl lit2_one ?_)
  go_step3
  refine any_gen (F := fun w => Exit.then _ _ _ _ w) (PW w 1) ⟨((Blk.new w _ _).alloc _ |>.row_far (by omega) _).cast_ zero64, (((Blk.new (w.alloc _) _ _).cast' ⟨by simp, rfl⟩).row_ lit2).cast_ built2, below_setRow' (((Below.refl _ _).alloc (by omega) _).alloc (by simp) _) (by omega) _⟩ (fun w1 h1 => ?_)
  go_wp2_with fail
  go_loopg [2, 3] 155 (fun gk vc vn wr => ∃ m : Nat, gk = 155 - m ∧ m < 155 ∧ vc = .int .i64 (cnt (2 * m + 3) : Int) ∧ vn = .int .u64 ((2 * m + 3 : Nat) : Int) ∧ PW w (cnt (2 * m + 3)) wr)
  case atStart => exact ⟨0, rfl, by omega, rfl, rfl, h1⟩
  case round =>
    obtain ⟨m, hgk, hm, rfl, rfl, hp⟩ := hrel
    clear h1
    have HG := Lib.hid hgk
    have HN := Lib.hid (ok_none hm)
    have HF := Lib.hid (ok_false hm)
    have HT := Lib.hid (ok_true hm)
    obtain ⟨hc1, hc2⟩ := ok_lo hm
    have hN : 2 * m + 3 < 312 := by omega
    have hN3 : 3 ≤ 2 * m + 3 := by omega
    have HM : Hid (2 * (m + 1) + 3 = (2 * m + 3) + 2) := Lib.hid (by omega)
    clear hgk
    generalize cnt (2 * m + 3) = c at hp HN HF HT hc1 hc2
    generalize 2 * m + 3 = N at HN HF HT hN hN3 HM
    have hsl : ∀ w1, (Instr.sliceAt 56 (.pointer (some ⟨w.heap.size + 1, 0, none⟩)) none (some (.int .i64 (c : Int))) none).run Try.prog w1 = .ok (.slice (some ⟨w.heap.size + 1, 0, none⟩) c 64) w1 :=
      fun w1 => run_sliceAt_head w1 _ 55 64 Try.underlying56 (by kernel_rfl) _ 0 c (by omega) _ _ rfl
    go_wp2_with fail
    clear hsl
    obtain ⟨wo, rfl⟩ : ∃ wo : World, wo = wr := ⟨_, rfl⟩
    go_loopg [2, 12] c (fun gj v2 vj wx => ∃ j : Nat, gj = c - j ∧ j ≤ c ∧ v2 = .int .i64 (c : Int) ∧ vj = .int .i64 (j : Int) ∧ Hid (scan N (c - j) j = scan N c 0) ∧ wo = wx)
    case atStart => exact ⟨0, rfl, by omega, rfl, rfl, Lib.hid rfl, rfl⟩
    case round =>
      obtain ⟨j, hgj, hj, rfl, rfl, HS, rfl⟩ := hrel
      have HJ := Lib.hid hgj
      clear hgj
      by_cases hjl : j < c
      · have cj := hp.at_ hjl (by omega)
        obtain ⟨hp2, hp3⟩ := pr_pos j (by omega)
        have HS2 : Hid (scan N c 0 = if N % pr j = 0 then some false else if N < pr j * pr j then some true else scan N (c - (j + 1)) (j + 1)) := by
          refine Lib.hid ?_
          rw [← HS.out, show c - j = (c - (j + 1)) + 1 by omega]; rfl
        clear HS
        generalize pr j = p at cj hp2 hp3 HS2
        have hpp : p * p ≤ 311 * 311 := Nat.mul_le_mul hp3 hp3
        have hmul : IntKind.u64.wrap ((p : Int) * (p : Int)) = ((p * p : Nat) : Int) := by rw [IntKind.wrap_u64, ← Int.natCast_mul]; omega
        generalize p * p = q at hmul hpp HS2
        by_cases hd : N % p = 0
        · have t1 : ((N : Int) % (p : Int) == 0) = true := by rw [beq_iff_eq]; exact_mod_cast hd
          have HE : Hid (scan N c 0 = some false) := by rw [HS2.out, if_pos hd]; exact Lib.hid rfl
          clear hd HS2 hmul
          go_wp2_with fail
          obtain ⟨e1, e2⟩ := HF.out HE.out
          go_roundg (155 - (m + 1))
          case measure => rw [HG.out]; omega
          case rel => exact ⟨m + 1, rfl, by omega, by rw [e1], by rw [HM.out]; go_num, by rw [e1]; exact hp⟩
        · have t1 : ((N : Int) % (p : Int) == 0) = false := by rw [beq_eq_false_iff_ne]; exact_mod_cast hd
          by_cases hq : N < q
          · have HE : Hid (scan N c 0 = some true) := by rw [HS2.out, if_neg hd, if_pos hq]; exact Lib.hid rfl
            have hal : Try.prog.arrayLen 56 = 64 := by kernel_rfl
            obtain ⟨e1, e2⟩ := HT.out HE.out
            have K := hp.put hc2 e1
            have E1 := Lib.hid e1
            have cd : wo.cell? ⟨w.heap.size + 1, c, none⟩ = some (foundF c c) := hp.r.at_ hc2
            have fd := hp.r.frozen c
            clear hd HS2 e1
            rcases e2 with ⟨e2, e3⟩ | ⟨e2, e3⟩
            · have t2 : ((c : Int) + 1 == 64) = true := by rw [beq_iff_eq]; omega
              have KW : PW w 64 (wo.setCell ⟨w.heap.size + 1, c, none⟩ (.int .u64 (N : Int))) := by rw [e3] at K ⊢; exact K
              clear e2 e3 K
              have hsz : (Try.prog.info? 56).map (·.size) = some (r64 64 fun i => litw 64 (pr i)).size := by rw [row_size]; kernel_rfl
              have hzz : (r64 64 fun _ => litw 64 0).size = (r64 64 fun i => litw 64 (pr i)).size := by rw [row_size, row_size]
              go_wp2_with (first
                | (refine wpList_load_row rfl 56 _ rfl (w.heap.size + 1) rfl 56 _ (0, 0) _ KW.whole Try.underlying56 rfl (by kernel_rfl) ?_)
                | (refine wpList_store_row rfl 56 _ _ rfl w.heap.size (r64 64 fun i => litw 64 (pr i)) rfl rfl 56 (r64 64 fun _ => litw 64 0) KW.z hsz hzz (row_one fun _ => rfl) ?_))
              rw [Exit.noGoto_ret]
              simp only [Act.put]
              refine bodyPost_ret (results_cell_row rfl _ _ w.heap.size 56 (r64 64 fun i => litw 64 (pr i)) (0, 0) _ rfl (KW.z.row_ _) Try.underlying56 rfl hsz) rfl ⟨rfl, below_setRow' KW.b (by omega) _⟩
            · have t2 : ((c : Int) + 1 == 64) = false := by
                have := (ok_lo (m := m + 1) (by omega)).2
                rw [beq_eq_false_iff_ne]; omega
              have E3 := Lib.hid e3
              clear e3
              go_wp2_with fail
              go_roundg (155 - (m + 1))
              case measure => rw [HG.out]; omega
              case rel => exact ⟨m + 1, rfl, by omega, by rw [E3.out]; go_num, by rw [HM.out]; go_num, by rw [E3.out]; exact K⟩
          · have HE : Hid (scan N (c - (j + 1)) (j + 1) = scan N c 0) := by rw [HS2.out, if_neg hd, if_neg hq]; exact Lib.hid rfl
            clear hd HS2
            go_wp2_with fail
            go_roundg (c - (j + 1))
            case measure => rw [HJ.out]; omega
            case rel => exact ⟨j + 1, rfl, by omega, rfl, by go_num, HE, rfl⟩
      · obtain rfl : j = c := by omega
        exact absurd (by rw [← HS.out, Nat.sub_self]; rfl) HN.out
end Go.Proofs.Ytmpklbjbdnocoaa
