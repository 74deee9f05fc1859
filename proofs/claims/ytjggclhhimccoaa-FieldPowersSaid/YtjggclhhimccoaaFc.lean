/- The document's answer to chapter 3: less. -/
import Derived.Test.YtjggclhhimccoaaFb
namespace Go.Proofs.Ytjggclhhimccoaa
open Go.RowKit
theorem div_split (a k : Nat) : a / 2 ^ (32 * (k + 1)) = a / 2 ^ (32 * k) / 4294967296 := by
  rw [Nat.mul_succ, Nat.pow_add, Nat.div_div_eq_div_mul]
theorem less_step (a b k : Nat) (h : a / 2 ^ (32 * (k + 1)) = b / 2 ^ (32 * (k + 1))) (e : N8 a k = N8 b k) : a / 2 ^ (32 * k) = b / 2 ^ (32 * k) := by
  have e' := congrArg BitVec.toNat e
  rw [N8_nat, N8_nat] at e'
  rw [div_split, div_split] at h
  omega
theorem less_diff (a b k : Nat) (h : a / 2 ^ (32 * (k + 1)) = b / 2 ^ (32 * (k + 1))) (e : N8 a k ≠ N8 b k) : (N8 a k).toNat < (N8 b k).toNat ↔ a < b := by
  have e' : (N8 a k).toNat ≠ (N8 b k).toNat := fun z => e (BitVec.eq_of_toNat_eq z)
  rw [N8_nat, N8_nat] at *
  rw [div_split, div_split] at h
  have h1 : a ≤ b → a / 2 ^ (32 * k) ≤ b / 2 ^ (32 * k) := fun z => Nat.div_le_div_right z
  have h2 : b ≤ a → b / 2 ^ (32 * k) ≤ a / 2 ^ (32 * k) := fun z => Nat.div_le_div_right z
  constructor
  · intro z
    rcases Nat.lt_or_ge a b with c | c
    · exact c
    · have := h2 c; omega
  · intro z
    have := h1 (by omega); omega
theorem iw_ltN {n : Nat} (x y : BitVec n) : (iw x < iw y) ↔ (x.toNat < y.toNat) := by
  unfold iw; exact Int.ofNat_lt
theorem iw_inj {n : Nat} {x y : BitVec n} (h : iw x = iw y) : x = y := by
  unfold iw at h; exact BitVec.eq_of_toNat_eq (Int.ofNat.inj h)
structure AB (a b : Nat) (w wr : World) : Prop where
  da : Blk wr w.heap.size 47 (r32 8 (N8 a))
  db : Blk wr (w.heap.size + 1) 47 (r32 8 (N8 b))
  l : Below w.heap.size w wr
theorem AB.drewN {a b : Nat} {w wr : World} (h : AB a b w wr) (n : Nat) : AB a b w (wr.drewN n) := ⟨h.da, h.db, below_draws h.l n⟩
set_option maxRecDepth 100000 in
set_option maxHeartbeats 1000000 in
theorem less_any (a b : Nat) (w : World) (ha : a < M256) (hb : b < M256) :
    Calls Try.prog 54 #[.agg (r32 8 (N8 a)), .agg (r32 8 (N8 b))] w fun e w' => e = .returned (.bool (decide (a < b))) ∧ Below w.heap.size w w' := by
  have hal : Try.prog.arrayLen 47 = 8 := by kernel_rfl
  have h8 : a / 2 ^ (32 * 8) = b / 2 ^ (32 * 8) := by
    unfold M256 at *
    simp only [Nat.reduceMul, Nat.reducePow]; omega
  have H8 := Lib.hid h8
  clear h8
  go_enter Try.func54, Try.ntmps54
  go_wp2_with fail
  go_loopw [5] (fun i wr => ∃ k : Nat, k ≤ 8 ∧ i = .int .i64 ((k : Int) - 1) ∧ Hid (a / 2 ^ (32 * k) = b / 2 ^ (32 * k)) ∧ AB a b w wr) (fun i _ => (intOf i + 1).toNat)
  case atStart => exact ⟨8, by omega, rfl, H8, (Blk.new w _ _).alloc _, (Blk.new _ _ _).cast' ⟨by simp, rfl⟩, ((Below.refl _ _).alloc (Nat.le_refl _) _).alloc (by simp) _⟩
  case round =>
    obtain ⟨k, hk, rfl, HK, hr⟩ := hrel
    clear H8
    cases k with
    | zero =>
      have hab : ¬ a < b := by have := HK.out; simp at this; omega
      have HAB := Lib.hid hab
      have hl := hr.l
      clear hab hr
      go_wp2_with fail
      go_ret
      exact ⟨by rw [decide_eq_false HAB.out]; rfl, hl⟩
    | succ k =>
      have hk8 : k < 8 := by omega
      have ek : (((k + 1 : Nat) : Int) - 1) = (k : Int) := by omega
      have ca := hr.da.at_ hk8
      have cb := hr.db.at_ hk8
      rw [ek]
      by_cases e : N8 a k = N8 b k
      · have HS := Lib.hid (less_step a b k HK.out e)
        rw [e] at ca
        clear e
        go_wp2_with fail
        go_quiet (fail)
        have h2 := hr.drewN nq
        clear hr ca cb
        go_wp2_with fail
        go_roundw
        case rel => exact ⟨k, by omega, rfl, HS, h2⟩
        case measure => simp [intOf]
      · have HS := Lib.hid (less_diff a b k HK.out e)
        have ne : iw (N8 a k) ≠ iw (N8 b k) := fun z => e (iw_inj z)
        have ne' : (iw (N8 a k) != iw (N8 b k)) = true := by rw [bne_iff_ne]; exact ne
        clear e
        go_wp2_with fail
        go_quiet (fail)
        have h2 := hr.drewN nq
        clear hr ca cb
        refine any_gen (F := fun w => Exit.then _ _ _ _ w) (AB a b w) h2 (fun w2 h2 => ?_)
        have ca := h2.da.at_ hk8
        have cb := h2.db.at_ hk8
        go_wp2_with fail
        go_quiet (fail)
        have hl := below_draws h2.l nq
        clear h2 ca cb
        go_wp2_with fail
        go_ret
        refine ⟨?_, hl⟩
        show Ending.returned (.bool (decide (iw (N8 a k) < iw (N8 b k)))) = _
        rw [decide_eq_decide.2 ((iw_ltN _ _).trans HS.out)]
end Go.Proofs.Ytjggclhhimccoaa
