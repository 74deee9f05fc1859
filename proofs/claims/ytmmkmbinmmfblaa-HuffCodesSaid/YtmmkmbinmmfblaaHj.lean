/- The reference's Next of chapter 9. -/
import Derived.Test.YtmmkmbinmmfblaaHi
import Derived.Test.YtmmkmbinmmfblaaHb
import Derived.Test.YtmmkmbinmmfblaaTxt
import Derived.Laws.BitsAllLaws
namespace Go.Proofs.Ytmmkmbinmmfblaa
open Go.RowKit
/-- The bits of a text, the lowest one of a byte first. -/
def bitH (s : ByteArray) (i : Nat) : Nat := byteS s (i / 8) / 2 ^ (i % 8) % 2
/-- Next under way: the code's lists, in a box. -/
structure NxW (p1 : Option Addr) (c1 : Nat) (p2 : Option Addr) (c2 n g : Nat) (f f2 : Nat → Int) (w wr : World) : Prop where
  l : IS p1 n c1 f wr
  c : IS p2 n c2 f2 wr
  o : Blk wr g 38 #[.slice p1 n c1, .slice p2 n c2]
  b : Below w.heap.size w wr
theorem NxW.c0 {p1 p2 : Option Addr} {c1 c2 n g : Nat} {f f2 : Nat → Int} {w wr : World} (h : NxW p1 c1 p2 c2 n g f f2 w wr) : wr.cell? ⟨g, 0, none⟩ = some (.slice p1 n c1) := h.o.cell 0
theorem NxW.c1 {p1 p2 : Option Addr} {c1 c2 n g : Nat} {f f2 : Nat → Int} {w wr : World} (h : NxW p1 c1 p2 c2 n g f f2 w wr) : wr.cell? ⟨g, 1, none⟩ = some (.slice p2 n c2) := h.o.cell 1
theorem fnd_next {l : Nat → Nat} {n d c m : Nat} (h : fnd l n d c m = none) : fnd l n d c (m + 1) = if l m = d ∧ codeN l n m = c then some m else none := by
  show (match fnd l n d c m with | some k => some k | none => if l m = d ∧ codeN l n m = c then some m else none) = _
  rw [h]
theorem fnd_keep {l : Nat → Nat} {n d c m k : Nat} (h : fnd l n d c m = some k) {j : Nat} (hj : m ≤ j) : fnd l n d c j = some k := by
  induction hj with
  | refl => exact h
  | step _ ih =>
    show (match fnd l n d c _ with | some k => some k | none => _) = _
    rw [ih]
theorem rv_lt {B : Nat → Nat} (hB : ∀ i, B i < 2) (at_ k : Nat) : rv B at_ k < 2 ^ k := by
  induction k with
  | zero => exact Nat.one_pos
  | succ k ih => have := hB (at_ + k); show 2 * rv B at_ k + B (at_ + k) < _; rw [Nat.pow_succ]; omega
theorem bitH_lt (s : ByteArray) (i : Nat) : bitH s i < 2 := Nat.mod_lt _ (by decide)
theorem nextV_end (l : Nat → Nat) (n : Nat) (B : Nat → Nat) (T at_ d f : Nat) (h : T ≤ at_ + d) : nextV l n B T at_ d (f + 1) = (0, 0, 3) := if_pos h
theorem nextV_found {l : Nat → Nat} {n : Nat} {B : Nat → Nat} {T at_ d f k : Nat} (h : ¬ T ≤ at_ + d) (hk : fnd l n (d + 1) (rv B at_ (d + 1)) n = some k) : nextV l n B T at_ d (f + 1) = (k, at_ + d + 1, 0) := by
  unfold nextV
  rw [if_neg h, hk]
theorem nextV_not {l : Nat → Nat} {n : Nat} {B : Nat → Nat} {T at_ d f : Nat} (h : ¬ T ≤ at_ + d) (hk : fnd l n (d + 1) (rv B at_ (d + 1)) n = none) : nextV l n B T at_ d (f + 1) = nextV l n B T at_ (d + 1) f := by
  rw [nextV, if_neg h, hk]
theorem nextV_none (l : Nat → Nat) (n : Nat) (B : Nat → Nat) (T at_ d : Nat) : nextV l n B T at_ d 0 = (0, 0, 2) := rfl
theorem and_bitH' : ∀ x : Fin 256, bits .and .i64 (x.val : Int) 1 = ((x.val % 2 : Nat) : Int) := by decide +kernel
theorem bit_outH (x r : Nat) (h : x < 256) : bits .and .i64 (wrap64 ((x : Int) / 2 ^ r)) 1 = ((x / 2 ^ r % 2 : Nat) : Int) := by
  have e : (x : Int) / 2 ^ r = ((x / 2 ^ r : Nat) : Int) := by norm_cast
  have h2 : x / 2 ^ r < 256 := Nat.lt_of_le_of_lt (Nat.div_le_self _ _) h
  rw [e]
  clear e
  generalize x / 2 ^ r = y at h2 ⊢
  rw [IntWalk.wrap64_in _ (by omega)]
  exact and_bitH' ⟨y, h2⟩
set_option maxRecDepth 100000 in
set_option maxHeartbeats 8000000 in
theorem rnext9_any (p1 : Option Addr) (c1 : Nat) (p2 : Option Addr) (c2 n : Nat) (f : Nat → Int) (s : ByteArray) (at_ : Nat) (w : World) (hn : n ≤ 300) (hok : okB f n = true)
    (h1 : IS p1 n c1 f w) (h2 : IS p2 n c2 (fun i => (codeN (toL f) n i : Int)) w) (hs : s.size ≤ 281474976710656) (ha : at_ < 9223372036854775808) (r : Nat × Nat × Nat) (hr0 : nextV (toL f) n (bitH s) (8 * s.size) at_ 0 15 = r) :
    Calls Try.prog 19 #[.agg #[.slice p1 n c1, .slice p2 n c2], .string s, .int .i64 (at_ : Int)] w fun e w' => e = .returned (.tuple #[.int .i64 (r.1 : Int), .int .i64 (r.2.1 : Int), .int .i64 (r.2.2 : Int)]) ∧ Below w.heap.size w w' := by
  have hb0 := fun o => (Below.refl _ w).alloc (Nat.le_refl _) o
  have hi1 := fun o => h1.below (hb0 o)
  have hi2 := fun o => h2.below (hb0 o)
  have HR := Lib.hid hr0
  have HO := Lib.hid (okB_true.1 hok)
  have ha0 : ¬ (at_ : Int) < 0 := by omega
  have HA := Lib.hid ha
  obtain ⟨l, hl0⟩ : ∃ l, l = toL f := ⟨_, rfl⟩
  rw [← hl0] at HR hi2
  have HLF := Lib.hid hl0
  clear hr0 hok h1 h2 hl0 ha
  go_enter Try.func19, Try.ntmps19
  go_wp2_with fail
  obtain ⟨g, hg⟩ : ∃ g, g = w.heap.size := ⟨_, rfl⟩
  have H0 : Hid (NxW p1 c1 p2 c2 n g f (fun i => (codeN l n i : Int)) w (w.alloc (.cells #[.slice p1 n c1, .slice p2 n c2] 38))) := Lib.hid ⟨hi1 _, hi2 _, by rw [hg]; exact Blk.new w _ _, hb0 _⟩
  rw [← hg]
  clear hb0 hi1 hi2 hg
  go_loopw [9, 10] (fun c i wr => ∃ d : Nat, d ≤ 15 ∧ i = .int .i64 ((d + 1 : Nat) : Int) ∧ c = .int .i64 (rv (bitH s) at_ d : Int) ∧ Hid (nextV l n (bitH s) (8 * s.size) at_ d (15 - d) = r) ∧ NxW p1 c1 p2 c2 n g f (fun i => (codeN l n i : Int)) w wr) (fun _ i _ => 16 - (intOf i).toNat)
  case atStart => exact ⟨0, by omega, rfl, rfl, HR, H0.out⟩
  case round =>
    obtain ⟨d, hd, rfl, rfl, HV, hr⟩ := hrel
    have hrv := rv_lt (bitH_lt s) at_ d
    by_cases hd15 : d < 15
    · have hp2 : 2 ^ d ≤ 2 ^ 14 := Nat.pow_le_pow_right (by decide) (by omega)
      have hCb : rv (bitH s) at_ d < 32768 := by omega
      obtain ⟨D, hD⟩ : ∃ D, D = d + 1 := ⟨_, rfl⟩
      rw [← hD]
      have hD15 : (D : Int) ≤ 15 := by omega
      obtain ⟨q, hq15⟩ : ∃ q, 15 - d = q + 1 := ⟨14 - d, by omega⟩
      rw [hq15] at HV
      obtain ⟨y, hy⟩ : ∃ y : Int, IntKind.i64.wrap ((at_ : Int) + (D : Int)) = y := ⟨_, rfl⟩
      obtain ⟨x, hx⟩ : ∃ x : Int, IntKind.i64.wrap (y - 1) = x := ⟨_, rfl⟩
      have ha := HA.out
      have hxv : (at_ + d < 9223372036854775808 ∧ x = (at_ : Int) + (d : Int)) ∨ (¬ at_ + d < 9223372036854775808 ∧ x < 0 ∧ -9223372036854775808 ≤ x) := by
        rcases (show at_ + D < 9223372036854775808 ∨ at_ + D = 9223372036854775808 ∨ 9223372036854775808 < at_ + D by omega) with h1 | h1 | h1
        · have e1 : y = (at_ : Int) + (D : Int) := by rw [← hy]; exact IntWalk.i64_in _ (by omega)
          have e2 : x = y - 1 := by rw [← hx]; exact IntWalk.i64_in _ (by omega)
          exact .inl ⟨by omega, by omega⟩
        · have e1 : y = -9223372036854775808 := by rw [← hy, show (at_ : Int) + (D : Int) = 9223372036854775808 by omega]; decide
          have e2 : x = 9223372036854775807 := by rw [← hx, e1]; decide
          exact .inl ⟨by omega, by omega⟩
        · have e1 : y = (at_ : Int) + (D : Int) - 18446744073709551616 := by rw [← hy, IntKind.wrap_i64]; omega
          have e2 : x = y - 1 := by rw [← hx]; exact IntWalk.i64_in _ (by omega)
          exact .inr ⟨by omega, by omega, by omega⟩
      have hxlo : -9223372036854775808 ≤ x ∧ x < 9223372036854775808 := by omega
      obtain ⟨z, hz⟩ : ∃ z : Int, x.tdiv 8 = z := ⟨_, rfl⟩
      have hzb : -9223372036854775808 ≤ z ∧ z ≤ 9223372036854775807 := by
        rw [← hz]
        rcases Int.lt_or_le x 0 with h1 | h1
        · rw [← Int.neg_neg x, Int.neg_tdiv, Int.tdiv_eq_ediv_of_nonneg (by omega)]; omega
        · rw [Int.tdiv_eq_ediv_of_nonneg h1]; omega
      have hzw : IntKind.i64.wrap z = z := IntWalk.i64_in _ hzb
      by_cases hT : 8 * s.size ≤ at_ + d
      · have HE : Hid (r = (0, 0, 3)) := Lib.hid (by rw [← HV.out, nextV_end _ _ _ _ _ _ _ hT])
        have hor : x < (at_ : Int) ∨ (¬ x < (at_ : Int) ∧ z ≥ (s.size : Int)) := by
          rcases hxv with ⟨h1, h2⟩ | ⟨h1, h2, h3⟩
          · refine .inr ⟨by omega, ?_⟩
            rw [← hz, h2, Int.tdiv_eq_ediv_of_nonneg (by omega)]; omega
          · exact .inl (by omega)
        have hb := hr.b
        clear hrv hp2 hq15 hxv ha HV hr H0 HA hD hT hxlo hzb hd15 HR HO
        generalize rv (bitH s) at_ d = C at *
        rcases hor with hq | ⟨hq1, hq2⟩
        all_goals
          go_wp2_with fail
          go_ret3
          rw [HE.out]
          exact ⟨rfl, hb⟩
      · obtain ⟨P, hP⟩ : ∃ P, P = at_ + d := ⟨_, rfl⟩
        obtain ⟨Q, hQ⟩ : ∃ Q, Q = P / 8 := ⟨_, rfl⟩
        obtain ⟨R, hR⟩ : ∃ R, R = P % 8 := ⟨_, rfl⟩
        have hxP : x = (P : Int) := by
          rcases hxv with ⟨h1, h2⟩ | ⟨h1, h2, h3⟩
          · omega
          · omega
        rw [hxP] at hx
        have hPa : ¬ (P : Int) < (at_ : Int) := by omega
        have hz1 : (P : Int).tdiv 8 = (Q : Int) := by rw [Int.tdiv_eq_ediv_of_nonneg (by omega)]; omega
        have hR1 : (P : Int).tmod 8 = (R : Int) := by rw [Int.tmod_eq_emod_of_nonneg (by omega)]; omega
        have hQs : Q < s.size := by omega
        have hQn : ¬ (Q : Int) ≥ (s.size : Int) := by omega
        have hQw : IntKind.i64.wrap (Q : Int) = (Q : Int) := IntWalk.i64_in _ (by omega)
        have hR8 : R < 8 := by omega
        have hmin : min R 8 = R := by omega
        have hbit : bits .and .i64 (wrap64 (((s[Q]).toNat : Int) / 2 ^ R)) 1 = ((bitH s P : Nat) : Int) := by
          rw [byteS_at s Q hQs, bit_outH _ _ (byteS_lt _ _)]
          unfold bitH; rw [← hQ, ← hR]
        have hb2 := bitH_lt s P
        have HC : Hid (rv (bitH s) at_ (d + 1) = 2 * rv (bitH s) at_ d + bitH s P) := Lib.hid (by rw [hP]; rfl)
        have HT := Lib.hid hT
        have HP1 := Lib.hid hP
        have HDd := Lib.hid hD
        obtain ⟨C, hC⟩ : ∃ C, C = rv (bitH s) at_ d := ⟨_, rfl⟩
        rw [← hC] at HC hCb ⊢
        obtain ⟨β, hβ⟩ : ∃ β, β = bitH s P := ⟨_, rfl⟩
        rw [← hβ] at hbit hb2 HC
        have HQ15 := Lib.hid hq15
        have HPB : Hid (P < 2251799813685248) := Lib.hid (by omega)
        have HS := Lib.hid hs
        have HY : Hid (wrap64 ((at_ : Int) + (D : Int)) = y) := Lib.hid (by rw [← IntWalk.i64_left]; exact hy)
        have HX : Hid (wrap64 (y - 1) = (P : Int)) := Lib.hid (by rw [← IntWalk.i64_left]; exact hx)
        have HBIT := Lib.hid hbit
        clear hbit
        clear hs hx hy
        clear hxv hxP hxlo hzb hzw hz hrv hp2 ha hd15 hq15 hD hP hQ hR hC hβ hT H0 HA HR
        go_wp2_with (first | rw [HY.out] | rw [HX.out] | rw [HBIT.out])
        have HC2 : Hid (2 * (C : Int) + (β : Int) = ((2 * C + β : Nat) : Int)) := Lib.hid (by omega)
        rw [HC2.out]
        obtain ⟨K, hK⟩ : ∃ K, K = 2 * C + β := ⟨_, rfl⟩
        have HC3 : Hid (rv (bitH s) at_ (d + 1) = K) := Lib.hid (by rw [HC.out, hK])
        rw [← hK]
        clear hK HC HC2 HBIT HY HX hb2 hCb hmin hQn hQw hR8 hz1 hR1 hPa
        go_loopw [12] (fun i wr => ∃ m : Nat, m ≤ n ∧ i = .int .i64 (m : Int) ∧ Hid (fnd l n D K m = none) ∧ NxW p1 c1 p2 c2 n g f (fun i => (codeN l n i : Int)) w wr) (fun i _ => n - (intOf i).toNat)
        case atStart => exact ⟨0, by omega, rfl, Lib.hid rfl, hr⟩
        case round =>
          obtain ⟨m, hm, rfl, HF, hr⟩ := hrel
          have hc0 := hr.c0
          have hc1 := hr.c1
          by_cases hlt : m < n
          · cases p1 with
            | none => have := (hr.l.nil_ rfl).1; omega
            | some a1 =>
              cases p2 with
              | none => have := (hr.c.nil_ rfl).1; omega
              | some a2 =>
                have k0 := hr.l.cell a1 rfl m hlt
                have k1 := hr.c.cell a2 rfl m hlt
                have hv := HO.out m hlt
                obtain ⟨v, hvv⟩ := Int.eq_ofNat_of_zero_le hv.1
                have hlm : l m = v := by rw [HLF.out]; unfold toL; omega
                rw [hvv] at k0
                obtain ⟨u, hu⟩ : ∃ u, u = codeN l n m := ⟨_, rfl⟩
                rw [← hu] at k1
                have HFN := Lib.hid (fnd_next HF.out)
                by_cases hvD : v = D
                · have hvi : (v : Int) = (D : Int) := by omega
                  by_cases huK : u = K
                  · have hui : (u : Int) = (K : Int) := by omega
                    have HE : Hid (r = (m, P + 1, 0)) := Lib.hid (by
                      rw [← HV.out, HP1.out]
                      refine nextV_found HT.out ?_
                      rw [HC3.out, ← HDd.out]
                      refine fnd_keep (m := m + 1) ?_ hlt
                      rw [HFN.out, if_pos ⟨by omega, by omega⟩])
                    have hP1 : IntKind.i64.wrap ((P : Int) + 1) = (P : Int) + 1 := IntWalk.i64_in _ (by have := HPB.out; omega)
                    have hb := hr.b
                    clear hv hvv hlm hu HFN HF hr HV HT
                    go_wp2_with fail
                    go_ret3
                    rw [HE.out]
                    exact ⟨rfl, hb⟩
                  · have hui : ¬ (u : Int) = (K : Int) := by omega
                    have HG : Hid (fnd l n D K (m + 1) = none) := Lib.hid (by rw [HFN.out, if_neg (by rintro ⟨h1, h2⟩; omega)])
                    clear hv hvv hlm hu HFN HF huK
                    go_wp2_with fail
                    go_roundw
                    case rel => exact ⟨m + 1, by omega, by go_num, HG, hr⟩
                    case measure => simp [intOf]; omega
                · have hvi : ¬ (v : Int) = (D : Int) := by omega
                  have HG : Hid (fnd l n D K (m + 1) = none) := Lib.hid (by rw [HFN.out, if_neg (by rintro ⟨h1, h2⟩; omega)])
                  clear hv hvv hlm hu HFN HF hvD
                  go_wp2_with fail
                  go_roundw
                  case rel => exact ⟨m + 1, by omega, by go_num, HG, hr⟩
                  case measure => simp [intOf]; omega
          · obtain rfl : m = n := by omega
            have HV2 : Hid (nextV l m (bitH s) (8 * s.size) at_ (d + 1) (15 - (d + 1)) = r) := Lib.hid (by
              rw [← HV.out, show 15 - (d + 1) = q by have := HQ15.out; omega]
              refine (nextV_not HT.out ?_).symm
              rw [HC3.out, ← HDd.out]; exact HF.out)
            have hDi : IntKind.i64.wrap ((D : Int) + 1) = (D : Int) + 1 := IntWalk.i64_in _ (by omega)
            have HD1 : Hid ((D : Int) + 1 = ((d + 1 + 1 : Nat) : Int)) := Lib.hid (by have := HDd.out; omega)
            clear HV HF
            go_wp2_with fail
            go_roundw
            case rel => exact ⟨d + 1, by have := HDd.out; omega, by rw [HD1.out], by rw [HC3.out], HV2, hr⟩
            case measure => simp [intOf]; omega
    · obtain rfl : d = 15 := by omega
      have HE : Hid (r = (0, 0, 2)) := Lib.hid (by rw [← HV.out, Nat.sub_self, nextV_none])
      have hb := hr.b
      clear hrv HV hr H0 HA HR HO
      generalize rv (bitH s) at_ 15 = C at *
      go_wp2_with fail
      go_ret3
      rw [HE.out]
      exact ⟨rfl, hb⟩
set_option maxRecDepth 100000 in
set_option maxHeartbeats 1000000 in
theorem rnext9_neg (v : Value) (p1 : Option Addr) (c1 n : Nat) (p2 : Option Addr) (c2 : Nat) (s : ByteArray) (at_ : Int) (w : World) (ha : at_ < 0) (hv : v = .agg #[.slice p1 n c1, .slice p2 n c2]) :
    Calls Try.prog 19 #[v, .string s, .int .i64 at_] w fun e w' => e = .returned (.tuple #[.int .i64 0, .int .i64 0, .int .i64 1]) ∧ Below w.heap.size w w' := by
  subst hv
  go_enter Try.func19, Try.ntmps19
  go_wp2_with fail
  go_ret3
  exact ⟨rfl, (Below.refl _ _).alloc (Nat.le_refl _) _⟩
end Go.Proofs.Ytmmkmbinmmfblaa
