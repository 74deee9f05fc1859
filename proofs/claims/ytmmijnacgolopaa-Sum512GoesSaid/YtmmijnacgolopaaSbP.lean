/- The first 80 primes. -/
import Derived.Test.YtmmijnacgolopaaSbR
import Derived.Test.YtmmijnacgolopaaPart
namespace Go.Proofs.Ytmmijnacgolopaa
open Go.RowKit
def primesL : List Nat := [2, 3, 5, 7, 11, 13, 17, 19, 23, 29, 31, 37, 41, 43, 47, 53, 59, 61, 67, 71, 73, 79, 83, 89, 97, 101, 103, 107, 109, 113, 127, 131, 137, 139, 149, 151, 157, 163, 167, 173, 179, 181, 191, 193, 197, 199, 211, 223, 227, 229, 233, 239, 241, 251, 257, 263, 269, 271, 277, 281, 283, 293, 307, 311, 313, 317, 331, 337, 347, 349, 353, 359, 367, 373, 379, 383, 389, 397, 401, 409]
def pr (i : Nat) : Nat := primesL.getD i 0
def cnt (n : Nat) : Nat := (primesL.takeWhile (· < n)).length
/-- Is i struck out, when all numbers below n were looked at? -/
def dv (n i : Nat) : Bool := primesL.any fun d => decide (d < n) && (decide (d * d ≤ i) && decide (i % d = 0))
def okP (n : Nat) : Bool :=
  if dv n n then cnt (n + 1) == cnt n && !primesL.contains n else pr (cnt n) == n && decide (cnt n < 80) && cnt (n + 1) == cnt n + 1 && primesL.contains n
theorem ok_all : ∀ n, n < 410 → 2 ≤ n → okP n = true := by decide +kernel
theorem cnt_all : cnt 410 = 80 := by decide +kernel
theorem pr_pos : ∀ i, i < 80 → 2 ≤ pr i ∧ pr i ≤ 409 := by decide +kernel
theorem ok_true {n : Nat} (h : n < 410) (h2 : 2 ≤ n) (e : dv n n = true) : cnt (n + 1) = cnt n ∧ n ∉ primesL := by
  have := ok_all n h h2
  simp only [okP, e, if_true, Bool.and_eq_true, beq_iff_eq, Bool.not_eq_true', List.contains_eq_mem, decide_eq_false_iff_not] at this
  exact this
theorem ok_false {n : Nat} (h : n < 410) (h2 : 2 ≤ n) (e : dv n n = false) : pr (cnt n) = n ∧ cnt n < 80 ∧ cnt (n + 1) = cnt n + 1 ∧ n ∈ primesL := by
  have := ok_all n h h2
  simp only [okP, e, Bool.false_eq_true, if_false, Bool.and_eq_true, beq_iff_eq, decide_eq_true_eq, List.contains_eq_mem] at this
  exact ⟨this.1.1.1, this.1.1.2, this.1.2, this.2⟩
theorem dv_iff (n i : Nat) : dv n i = true ↔ ∃ d ∈ primesL, d < n ∧ d * d ≤ i ∧ i % d = 0 := by
  simp [dv, List.any_eq_true]
theorem dv_skip {n : Nat} (h : n ∉ primesL) (i : Nat) : dv (n + 1) i = dv n i := by
  rw [Bool.eq_iff_iff, dv_iff, dv_iff]
  constructor
  · rintro ⟨d, hd, h1, h2⟩
    exact ⟨d, hd, by have : d ≠ n := fun e => h (e ▸ hd); omega, h2⟩
  · rintro ⟨d, hd, h1, h2⟩
    exact ⟨d, hd, by omega, h2⟩
/-- Struck out by n too, up to m. -/
def dm (n m i : Nat) : Bool := dv n i || (decide (n * n ≤ i) && (decide (i < m) && decide (i % n = 0)))
theorem dv_take {n m i : Nat} (h : n ∈ primesL) (hm : i < m) : dv (n + 1) i = dm n m i := by
  rw [Bool.eq_iff_iff, dv_iff]
  unfold dm
  rw [Bool.or_eq_true, dv_iff]
  simp only [Bool.and_eq_true, decide_eq_true_eq]
  constructor
  · rintro ⟨d, hd, h1, h2, h3⟩
    by_cases e : d = n
    · subst e; exact .inr ⟨h2, hm, h3⟩
    · exact .inl ⟨d, hd, by omega, h2, h3⟩
  · rintro (⟨d, hd, h1, h2⟩ | ⟨h1, _, h3⟩)
    · exact ⟨d, hd, by omega, h2⟩
    · exact ⟨n, h, by omega, h1, h3⟩
theorem dm_zero (n i : Nat) : dm n (n * n) i = dv n i := by
  unfold dm
  by_cases h : n * n ≤ i
  · simp [h, show ¬ i < n * n by omega]
  · simp [h]
theorem dm_next {n m i : Nat} (hn : 0 < n) (h1 : n * n ≤ m) (h2 : m % n = 0) : dm n (m + n) i = if i = m then true else dm n m i := by
  by_cases e : i = m
  · subst e; simp [dm, h1, h2]; omega
  · rw [if_neg e]
    unfold dm
    congr 2
    by_cases hi : i < m
    · simp [hi, show i < m + n by omega]
    · by_cases hi2 : i < m + n
      · have : i % n ≠ 0 := by
          intro h3
          obtain ⟨a, ha⟩ := Nat.dvd_of_mod_eq_zero h2
          obtain ⟨b, hb⟩ := Nat.dvd_of_mod_eq_zero h3
          subst ha hb
          have h4 : a < b := Nat.lt_of_mul_lt_mul_left (a := n) (by omega)
          have h5 : b < a + 1 := Nat.lt_of_mul_lt_mul_left (a := n) (by rw [Nat.mul_add]; omega)
          omega
        simp [this]
      · simp [hi, hi2]
def foundF (c i : Nat) : Value := .int .u64 ((if i < c then pr i else 0 : Nat) : Int)
structure PW (w : World) (c : Nat) (f : Nat → Bool) (wr : World) : Prop where
  r : Blk wr w.heap.size 42 (row 80 (foundF c))
  d : Blk wr (w.heap.size + 1) 58 (row 410 fun i => Value.bool (f i))
  b : Below w.heap.size w wr
section
variable {w wr : World} {c : Nat} {f f' : Nat → Bool}
theorem PW.put (h : PW w c f wr) (hc : c < 80) {N : Nat} (e : pr c = N) : PW w (c + 1) f (wr.setCell ⟨w.heap.size, c, none⟩ (.int .u64 (N : Int))) := by
  subst e
  refine ⟨(h.r.put hc _).cast_ (row_ext fun i _ => ?_), h.d.far (by simp) _, h.b.setCell (by simp) _⟩
  by_cases h1 : i = c
  · subst h1; simp [foundF]
  · by_cases h2 : i < c
    · simp [foundF, h1, h2, Nat.lt_succ_of_lt h2]
    · simp [foundF, h1, h2, show ¬ i < c + 1 by omega]
theorem PW.strike (h : PW w c f wr) {m : Nat} (hm : m < 410) (e : ∀ i, f' i = if i = m then true else f i) : PW w c f' (wr.setCell ⟨w.heap.size + 1, m, none⟩ (.bool true)) := by
  refine ⟨h.r.far (by simp) _, (h.d.put hm _).cast_ (row_ext fun i _ => ?_), h.b.setCell (by simp) _⟩
  rw [e i]
  by_cases h1 : i = m <;> simp [h1]
theorem PW.congr (h : PW w c f wr) (e : ∀ i, i < 410 → f i = f' i) : PW w c f' wr := ⟨h.r, h.d.cast_ (row_ext fun i hi => by rw [e i hi]), h.b⟩
theorem PW.whole (h : PW w 80 f wr) : Blk wr w.heap.size 42 (r64 80 fun i => litw 64 (pr i)) :=
  h.r.cast_ (row_ext fun i hi => by
    have hp := pr_pos i hi
    have e : iw (litw 64 (pr i)) = (pr i : Int) := by rw [iw_lit]; omega
    simp [foundF, hi, e])
end
theorem zeroFound (w : World) : (zeroValue 42).run Try.prog w = .ok (.agg (row 80 (foundF 0))) w := by kernel_rfl
theorem zeroDiv0 (w : World) : (zeroValue 58).run Try.prog w = .ok (.agg (row 410 fun _ => Value.bool false)) w := by kernel_rfl
theorem zeroDiv (w : World) : (zeroValue 58).run Try.prog w = .ok (.agg (row 410 fun i => Value.bool (dv 2 i))) w := by
  have : (row 410 fun i => Value.bool (dv 2 i)) = row 410 fun _ => Value.bool false := row_ext fun i _ => by
    have : dv 2 i = false := by
      rw [Bool.eq_false_iff, Ne, dv_iff]
      rintro ⟨d, hd, h1, _⟩
      have : ∀ d ∈ primesL, 2 ≤ d := by decide +kernel
      have := this d hd
      omega
    rw [this]
  rw [this]
  exact zeroDiv0 w
set_option maxRecDepth 100000 in
set_option maxHeartbeats 1000000 in
theorem primes_any (w : World) :
    Calls Try.prog 25 #[] w fun e w' => e = .returned (.agg (r64 80 fun i => litw 64 (pr i))) ∧ Below w.heap.size w w' := by
  have hz1 := zeroFound
  have hz2 := zeroDiv
  have hal : Try.prog.arrayLen 42 = 80 := by kernel_rfl
  have hal2 : Try.prog.arrayLen 58 = 410 := by kernel_rfl
  go_enter Try.func25, Try.ntmps25
  go_wp2_with fail
  clear hz1 hz2
  go_loopw [2, 3] (fun vc vn wr => ∃ n : Nat, 2 ≤ n ∧ n ≤ 410 ∧ vc = .int .i64 (cnt n : Int) ∧ vn = .int .i64 (n : Int) ∧ PW w (cnt n) (dv n) wr) (fun _ v _ => 410 - (intOf v).toNat)
  case atStart => exact ⟨2, by omega, by omega, rfl, rfl, (Blk.new w _ _).alloc _, (Blk.new _ _ _).cast' ⟨by simp, rfl⟩, ((Below.refl _ _).alloc (by omega) _).alloc (by simp) _⟩
  case round =>
    obtain ⟨n, hn2, hn, rfl, rfl, hr⟩ := hrel
    by_cases hlt : n < 410
    · cases hd : dv n n with
      | true =>
        obtain ⟨h1, h2⟩ := ok_true hlt hn2 hd
        have cd : wr.cell? ⟨w.heap.size + 1, n, none⟩ = some (.bool true) := by rw [← hd]; exact hr.d.at_ hlt
        have K : PW w (cnt (n + 1)) (dv (n + 1)) wr := by rw [h1]; exact hr.congr fun i _ => (dv_skip h2 i).symm
        have HC := Lib.hid h1
        clear hr h1 h2
        go_wp2_with fail
        go_roundw
        case rel => exact ⟨n + 1, by omega, by omega, by rw [HC.out], by go_num, K⟩
        case measure => simp [intOf]; omega
      | false =>
        obtain ⟨h1, h2, h3, h4⟩ := ok_false hlt hn2 hd
        have cd : wr.cell? ⟨w.heap.size + 1, n, none⟩ = some (.bool false) := by rw [← hd]; exact hr.d.at_ hlt
        have hfr := hr.r.frozen (cnt n)
        have hcell := hr.r.at_ (i := cnt n) h2
        have K := hr.put h2 h1
        have HC := Lib.hid (⟨h3, h4⟩ : _ ∧ _)
        have hnn : n * n ≤ 167281 := Nat.mul_le_mul (show n ≤ 409 by omega) (show n ≤ 409 by omega)
        have hq : IntKind.i64.wrap ((n : Int) * (n : Int)) = ((n * n : Nat) : Int) := by
          rw [show (n : Int) * (n : Int) = ((n * n : Nat) : Int) from (Int.natCast_mul n n).symm, IntWalk.i64_in _ (by omega)]
        have hw64 : IntKind.u64.wrap (n : Int) = (n : Int) := by rw [IntKind.wrap_u64]; omega
        have K0 := K.congr fun i _ => (dm_zero n i).symm
        clear hr h1 h3 h4 K
        generalize cnt n = c at *
        go_wp2_with fail
        obtain ⟨wo, rfl⟩ : ∃ wo : World, wo = w := ⟨_, rfl⟩
        go_loopw [4] (fun vm wr => ∃ m : Nat, vm = .int .i64 (m : Int) ∧ m ≤ 170000 ∧ n * n ≤ m ∧ Hid (m % n = 0) ∧ PW wo (c + 1) (dm n m) wr) (fun v _ => 170000 - (intOf v).toNat)
        case atStart => exact ⟨n * n, rfl, by omega, Nat.le_refl _, Lib.hid (Nat.mul_mod_left n n), K0⟩
        case round =>
          obtain ⟨m, rfl, hm, hnm, HM, hr⟩ := hrel
          clear K0
          by_cases hml : m ≤ 409
          · have hc2 := hr.d.at_ (i := m) (by omega)
            have hf2 := hr.d.frozen m
            have K := hr.strike (m := m) (by omega) (f' := dm n (m + n)) (fun i => dm_next (by omega) hnm HM.out)
            clear hr
            go_wp2_with fail
            go_roundw
            case rel => exact ⟨m + n, by go_num, by omega, by omega, Lib.hid (by have := HM.out; rw [Nat.add_mod_right]; exact this), K⟩
            case measure => simp [intOf]; omega
          · have K : PW wo (c + 1) (dv (n + 1)) wr := hr.congr fun i hi => (dv_take HC.out.2 (by omega)).symm
            clear hr
            go_wp2_with fail
            go_roundw
            case rel => exact ⟨n + 1, by omega, by omega, by rw [HC.out.1]; go_num, by go_num, by rw [HC.out.1]; exact K⟩
            case measure => simp [intOf]; omega
    · obtain rfl : n = 410 := by omega
      rw [cnt_all] at hr
      have hwh := hr.whole
      have hsz : (Try.prog.info? 42).map (·.size) = some (r64 80 fun i => litw 64 (pr i)).size := by rw [row_size]; kernel_rfl
      go_wp2_with (first
        | (refine wpList_load_row rfl 42 _ rfl w.heap.size rfl 42 _ (0, 0) _ hwh Try.underlying42 rfl hsz ?_)
        | (refine wpList_store_row rfl 42 _ _ rfl w.heap.size (r64 80 fun i => litw 64 (pr i)) rfl rfl 42 _ hwh hsz rfl (row_one fun _ => rfl) ?_))
      simp only [Act.put]
      refine bodyPost_ret (results_cell_row rfl _ _ w.heap.size 42 (r64 80 fun i => litw 64 (pr i)) (0, 0) _ rfl (hwh.row_ _) Try.underlying42 rfl hsz) rfl ⟨rfl, below_setRow' hr.b (by omega) _⟩
end Go.Proofs.Ytmmijnacgolopaa
