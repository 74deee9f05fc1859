/- TakeNumber. -/
import Derived.Test.YtbipbkancghkfaaDoorUf
import Derived.Test.YtbipbkancghkfaaDoorWe
namespace Go.Proofs.YtbipbkancghkfaaDoor
open Go.RowKit
theorem dv_lt (s : ByteArray) : ∀ k, (∀ j, j < k → 48 ≤ byteS s j ∧ byteS s j ≤ 57) → dv s k < 10 ^ k
  | 0, _ => Nat.one_pos
  | k + 1, h => by
    have := dv_lt s k fun j hj => h j (by omega)
    have := h k (by omega)
    unfold dv
    rw [Nat.pow_succ]
    omega
theorem dv_div (s : ByteArray) (k : Nat) : ∀ d, (∀ j, j < k + d → 48 ≤ byteS s j ∧ byteS s j ≤ 57) → dv s (k + d) / 10 ^ d = dv s k
  | 0, _ => by rw [Nat.pow_zero, Nat.div_one]; rfl
  | d + 1, h => by
    have h1 := dv_div s k d fun j hj => h j (by omega)
    have h2 := h (k + d) (by omega)
    rw [← Nat.add_assoc]
    show (10 * dv s (k + d) + (byteS s (k + d) - 48)) / 10 ^ (d + 1) = _
    rw [Nat.pow_succ, Nat.mul_comm (10 ^ d) 10, ← Nat.div_div_eq_div_mul, show (10 * dv s (k + d) + (byteS s (k + d) - 48)) / 10 = dv s (k + d) by omega, h1]
theorem take_good {s : ByteArray} (h0 : 0 < s.size) (hd : ∀ j, j < s.size → 48 ≤ byteS s j ∧ byteS s j ≤ 57) (hz : byteS s 0 ≠ 48 ∨ s.size = 1) : decT (dv s s.size) = s := by
  have key : ∀ k, k ≤ s.size → dv s s.size / 10 ^ (s.size - k) = dv s k := fun k hk => by
    have := dv_div s k (s.size - k) (fun j hj => hd j (by omega))
    rwa [show k + (s.size - k) = s.size by omega] at this
  have hn : decN (dv s s.size) = s.size := by
    have h1 := key 1 (by omega)
    have hd0 := hd 0 h0
    have e1 : dv s 1 = byteS s 0 - 48 := by show 10 * 0 + (byteS s 0 - 48) = _; omega
    have := decN_of (N := dv s s.size) (t := s.size - 1) (by omega) (by
      rcases Nat.lt_or_ge s.size 2 with h2 | h2
      · have := decN_pos (dv s s.size); omega
      · have h3 := key 2 h2
        have e2 : dv s 2 = 10 * dv s 1 + (byteS s 1 - 48) := rfl
        have := decN_more (N := dv s s.size) (t := s.size - 2) (by omega)
        omega)
    omega
  refine text_same (by rw [decT_size, hn]) fun j hj => ?_
  rw [decT_size, hn] at hj
  rw [decT_at _ _ (by rw [hn]; exact hj)]
  unfold decB
  rw [hn, show s.size - 1 - j = s.size - (j + 1) by omega, key (j + 1) (by omega)]
  have := hd j hj
  show 48 + (10 * dv s j + (byteS s j - 48)) % 10 = _
  omega
theorem take_none {s : ByteArray} (h : s.size = 0) : takeV s = (0, false) := takeV_not fun n _ e => by
  have := decN_pos n
  rw [← decT_size, e] at this
  omega
theorem take_zero {s : ByteArray} (h0 : byteS s 0 = 48) (h1 : s.size ≠ 1) : takeV s = (0, false) := takeV_not fun n _ e => by
  subst e
  have hp := decN_pos n
  rw [decT_size] at h1
  rw [decT_at n 0 hp] at h0
  have hn : 0 < n := by
    rcases Nat.eq_zero_or_pos n with rfl | h
    · exact absurd (by unfold decN; rfl) h1
    · exact h
  have h2 := decN_le n hn
  have h3 := decN_lt n
  unfold decB at h0
  rw [Nat.sub_zero] at h0
  have h4 : 1 ≤ n / 10 ^ (decN n - 1) := (Nat.le_div_iff_mul_le (Nat.pow_pos (by decide))).2 (by omega)
  have h5 : n / 10 ^ (decN n - 1) < 10 := (Nat.div_lt_iff_lt_mul (Nat.pow_pos (by decide))).2 (by rw [Nat.mul_comm, ← Nat.pow_succ, show (decN n - 1).succ = decN n by omega]; exact h3)
  omega
theorem take_above {s : ByteArray} {k : Nat} (hk : k ≤ s.size) (h : 4611686018427387904 < dv s k) : takeV s = (0, false) := takeV_not fun n hn e => by
  subst e
  rw [decT_size] at hk
  rw [dv_dec n k hk] at h
  have := Nat.div_le_self n (10 ^ (decN n - k))
  omega
set_option maxRecDepth 100000 in
set_option maxHeartbeats 4000000 in
theorem take_b64 (s : ByteArray) (r : Nat) (b : Bool) (hs : s.size ≤ 1000000000000000) (hr : takeV s = (r, b)) (w : World) :
    Calls Tryd.prog 20 #[.string s] w fun e w' => e = .returned (.tuple #[.int .i64 (r : Int), .bool b]) ∧ Below w.heap.size w w' := by
  have bad : takeV s = (0, false) → r = 0 ∧ b = false := fun h => by rw [h] at hr; cases hr; exact ⟨rfl, rfl⟩
  by_cases h0 : s.size = 0
  · obtain ⟨rfl, rfl⟩ := bad (take_none h0)
    obtain rfl : s = ByteArray.empty := ByteArray.size_eq_zero_iff.1 h0
    clear hr bad h0
    go_enter Tryd.func20, Tryd.ntmps20
    go_wp2_with fail
    go_ret2
    exact ⟨rfl, Below.refl _ _⟩
  · have hp : 0 < s.size := by omega
    have he : s.toList.isEmpty = false := by
      cases h : s.toList.isEmpty with
      | false => rfl
      | true =>
        have h1 : s.toList = [] := by simpa using h
        have h2 : s.data.toList = [] := by rw [← ByteArray.toList_eq]; exact h1
        have h3 : s.data.toList.length = 0 := by rw [h2]; rfl
        exact absurd (by simpa using h3) h0
    obtain ⟨c0, hc0⟩ : ∃ c, c = (s[0]).toNat := ⟨_, rfl⟩
    have hc0' : (s[0]).toNat = byteS s 0 := byteS_at s 0 hp
    obtain ⟨one, hone⟩ : ∃ one : Bool, one = (s.toList == [48]) := ⟨_, rfl⟩
    have hone2 : byteS s 0 = 48 → (one = true ↔ s.size = 1) := fun h48 => by
      rw [hone, beq_iff_eq, ByteArray.toList_eq]
      constructor
      · intro h
        have h3 : s.data.toList.length = 1 := by rw [h]; rfl
        simpa using h3
      · intro h
        have h3 : s.data.toList.length = 1 := by simpa using h
        obtain ⟨x, hx⟩ := List.length_eq_one_iff.1 h3
        rw [hx]
        have h4 : s[0] = x := by
          have : s.data[0]'(by simpa using hp) = x := by simp [← Array.getElem_toList, hx]
          exact this
        congr 1
        apply UInt8.toNat_inj.1
        rw [← h4, hc0', h48]; rfl
    by_cases hbad : byteS s 0 = 48 ∧ one = false
    · obtain ⟨h48, hof⟩ := hbad
      obtain ⟨rfl, rfl⟩ := bad (take_zero h48 (fun h1 => by have := (hone2 h48).2 h1; rw [hof] at this; cases this))
      have h48i : ((s[0]).toNat : Int) = 48 := by omega
      rw [hof] at hone
      have hone3 := hone.symm
      have hpi : (0 : Int) < s.size := by omega
      clear hr bad h0 hone hone2 hof hc0 hc0' h48
      go_enter Tryd.func20, Tryd.ntmps20
      go_wp2_with fail
      go_ret2
      exact ⟨rfl, Below.refl _ _⟩
    · have hz : byteS s 0 ≠ 48 ∨ s.size = 1 := by
        by_cases h48 : byteS s 0 = 48
        · refine .inr ((hone2 h48).1 ?_)
          cases one with
          | true => rfl
          | false => exact absurd ⟨h48, rfl⟩ hbad
        · exact .inl h48
      have HG : Hid (∀ k, k ≤ s.size → 4611686018427387904 < dv s k → r = 0 ∧ b = false) := Lib.hid (fun k hk h => bad (take_above hk h))
      have HD : Hid (∀ m, m < s.size → ¬ (48 ≤ byteS s m ∧ byteS s m ≤ 57) → r = 0 ∧ b = false) := Lib.hid (fun m hm h => bad (take_digit hm h))
      have HE : Hid ((∀ j, j < s.size → 48 ≤ byteS s j ∧ byteS s j ≤ 57) → dv s s.size ≤ 4611686018427387904 → r = dv s s.size ∧ b = true) := Lib.hid (fun hd hle => by
        rw [takeV_of hle (take_good hp hd hz)] at hr
        cases hr
        exact ⟨rfl, rfl⟩)
      have hcase : (((s[0]).toNat : Int) = 48 ∧ (s.toList == [48]) = true) ∨ ¬ ((s[0]).toNat : Int) = 48 := by
        by_cases h48 : byteS s 0 = 48
        · refine .inl ⟨by omega, ?_⟩
          rw [← hone]
          cases one with
          | true => rfl
          | false => exact absurd ⟨h48, rfl⟩ hbad
        · exact .inr (by omega)
      have hpi : (0 : Int) < s.size := by omega
      clear hr bad h0 hone hone2 hc0 hc0' hbad hz
      go_enter Tryd.func20, Tryd.ntmps20
      rcases hcase with ⟨h48i, hone⟩ | h48i
      all_goals
        go_wp2_with fail
        have b0 : Below w.heap.size w (w.iter s 0) := (Below.refl _ w).alloc (Nat.le_refl _) _
        have i0 := Itr.new w s 0
        generalize w.iter s 0 = w1 at b0 i0 ⊢
        go_loopw [4] (fun n wr => ∃ k : Nat, k ≤ s.size ∧ n = .int .i64 (dv s k : Int) ∧ Hid (dv s k ≤ 4611686018427387904) ∧ (∀ j, j < k → 48 ≤ byteS s j ∧ byteS s j ≤ 57) ∧ Itr wr w.heap.size s k ∧ Below w.heap.size w wr) (fun _ wr => s.size - wr.iterPos w.heap.size)
        case atStart => exact ⟨0, by omega, rfl, Lib.hid (by show 0 ≤ _; omega), fun j hj => by omega, i0, b0⟩
        case round =>
          clear i0 b0
          obtain ⟨k, hk, rfl, HN, hdig, hi, hb⟩ := hrel
          have HA := Lib.hid hdig
          clear hdig
          by_cases hlt : k < s.size
          · by_cases h128 : byteS s k < 128
            · have hnx := fun ty => next_ascii (P := Tryd.prog) hi ty hlt h128
              have hi2 := hi.put (k + 1)
              have hb2 := hb.trans (below_putObj (B := w.heap.size) (.stringIter s (k + 1)) hi (by omega))
              have hps := hi.pos
              generalize wr.putObj w.heap.size (.stringIter s (k + 1)) = w2 at hnx hi2 hb2
              have HS : Hid (dv s (k + 1) = 10 * dv s k + (byteS s k - 48)) := Lib.hid rfl
              have HDk := Lib.hid (HD.out k hlt)
              have HGk := Lib.hid (HG.out (k + 1) hlt)
              obtain ⟨c, hc⟩ : ∃ c, c = byteS s k := ⟨_, rfl⟩
              have HC := Lib.hid hc
              rw [← hc] at h128 hnx HS HDk
              have hn := HN.out
              obtain ⟨n, hne⟩ : ∃ n, n = dv s k := ⟨_, rfl⟩
              rw [← hne] at hn HS ⊢
              have hw32 : IntKind.i32.wrap ((c : Int) - 48) = (c : Int) - 48 := by simp [IntKind.wrap, IntKind.bits, IntKind.signed]; omega
              have hw64 : IntKind.i64.wrap ((c : Int) - 48) = (c : Int) - 48 := IntWalk.i64_in _ (by omega)
              by_cases h1 : 48 ≤ c ∧ c ≤ 57
              · obtain ⟨d, hd⟩ : ∃ d, d = c - 48 := ⟨_, rfl⟩
                have hdi : (c : Int) - 48 = (d : Int) := by omega
                have hd9 : d ≤ 9 := by omega
                obtain ⟨q, hq⟩ : ∃ q, q = (4611686018427387904 - d) / 10 := ⟨_, rfl⟩
                have hwq : IntKind.i64.wrap (4611686018427387904 - (d : Int)) = 4611686018427387904 - (d : Int) := IntWalk.i64_in _ (by omega)
                have hqi : (4611686018427387904 - (d : Int)) / 10 = (q : Int) := by omega
                have HLE : Hid (n ≤ q → 10 * n + d ≤ 4611686018427387904) := Lib.hid (fun h => by omega)
                have HGT : Hid (¬ n ≤ q → 4611686018427387904 < 10 * n + d) := Lib.hid (fun h => by omega)
                have hqs : q ≤ 1000000000000000000 := by omega
                have HDG := Lib.hid h1
                have HD2 := Lib.hid hd
                rw [← hd] at HS
                have g1 : ¬ (d : Int) < 0 := by omega
                have g2 : ¬ (d : Int) > 9 := by omega
                clear hn h1 hd hq hc hne
                by_cases hnq : n ≤ q
                · have g3 : ¬ (n : Int) > (q : Int) := by omega
                  obtain ⟨m, hm⟩ : ∃ m, m = 10 * n + d := ⟨_, rfl⟩
                  have hw10 : IntKind.i64.wrap (10 * (n : Int)) = 10 * (n : Int) := IntWalk.i64_in _ (by omega)
                  have hwm : IntKind.i64.wrap (10 * (n : Int) + (d : Int)) = (m : Int) := by rw [IntWalk.i64_in _ (by omega)]; omega
                  have HM : Hid (dv s (k + 1) = m) := Lib.hid (by rw [HS.out, hm])
                  have HML : Hid (m ≤ 4611686018427387904) := Lib.hid (by rw [hm]; exact HLE.out hnq)
                  clear hm hnq
                  go_wp2_with fail
                  go_roundw
                  case rel =>
                    refine ⟨k + 1, by omega, by rw [HM.out], Lib.hid (by rw [HM.out]; exact HML.out), fun j hj => ?_, hi2, hb2⟩
                    by_cases hjk : j = k
                    · rw [hjk, ← HC.out]; exact HDG.out
                    · exact HA.out j (by omega)
                  case measure => rw [hps, hi2.pos]; omega
                · have g3 : (n : Int) > (q : Int) := by omega
                  obtain ⟨rfl, rfl⟩ := HGk.out (by rw [HS.out]; exact HGT.out hnq)
                  clear hnq
                  go_wp2_with fail
                  go_ret2
                  exact ⟨rfl, hb2⟩
              · obtain ⟨rfl, rfl⟩ := HDk.out h1
                by_cases h2 : c < 48
                · have g1 : (c : Int) - 48 < 0 := by omega
                  clear hn hc hne h1
                  go_wp2_with fail
                  go_ret2
                  exact ⟨rfl, hb2⟩
                · have g1 : ¬ (c : Int) - 48 < 0 := by omega
                  have g2 : (c : Int) - 48 > 9 := by omega
                  clear hn hc hne h1
                  go_wp2_with fail
                  go_ret2
                  exact ⟨rfl, hb2⟩
            · obtain ⟨c, j, hc1, hc2, hnx⟩ := next_high (P := Tryd.prog) hi hlt h128
              have hb2 := hb.trans (below_putObj (B := w.heap.size) (.stringIter s j) hi (by omega))
              generalize wr.putObj w.heap.size (.stringIter s j) = w2 at hnx hb2
              obtain ⟨rfl, rfl⟩ := HD.out k hlt (by omega)
              have hw32 : IntKind.i32.wrap ((c : Int) - 48) = (c : Int) - 48 := by simp [IntKind.wrap, IntKind.bits, IntKind.signed]; omega
              have hw64 : IntKind.i64.wrap ((c : Int) - 48) = (c : Int) - 48 := IntWalk.i64_in _ (by omega)
              have g1 : ¬ (c : Int) - 48 < 0 := by omega
              have g2 : (c : Int) - 48 > 9 := by omega
              go_wp2_with fail
              go_ret2
              exact ⟨rfl, hb2⟩
          · obtain rfl : k = s.size := by omega
            have hnx := fun ty => next_end (P := Tryd.prog) hi ty hlt
            obtain ⟨rfl, rfl⟩ := HE.out HA.out HN.out
            go_wp2_with fail
            go_ret2
            exact ⟨rfl, hb⟩
end Go.Proofs.YtbipbkancghkfaaDoor
