/- The developers' sum, reduced, timesBase, parts, Public, Sign, Verify. -/
import Derived.Test.YtggalphgnloneaaGreatTa
import Derived.Test.YtggalphgnloneaaGreatQAm
namespace Go.Proofs.YtggalphgnloneaaGreat
open Go.RowKit
/-- Texts one behind the other. -/
def joinT (T : Nat → ByteArray) : Nat → List UInt8
  | 0 => []
  | k + 1 => joinT T k ++ lB (T k)
theorem joinT_len (T : Nat → ByteArray) (h : ∀ k, (T k).size ≤ 1000000) : ∀ k, (joinT T k).length ≤ k * 1000000
  | 0 => by show 0 ≤ _; omega
  | k + 1 => by
    have h1 := joinT_len T h k
    have h2 := h k
    show (joinT T k ++ lB (T k)).length ≤ _
    rw [List.length_append, lB_length]; omega
def sT (T : Nat → ByteArray) (i : Nat) : Value := .string (T i)
structure SuW (T : Nat → ByteArray) (g n k : Nat) (w wr : World) : Prop where
  h : L2.HB wr w.heap.size (L2.H0.write (joinT T k))
  b : Below w.heap.size w wr
  t : Blk wr g 9 (row n (sT T))
theorem SuW.next {T : Nat → ByteArray} {g n k : Nat} {w wr w' : World} (hr : SuW T g n k w wr) (hg : g < w.heap.size) (h : L2.HB w' w.heap.size ((L2.H0.write (joinT T k)).write (T k).data.toList)) (c : Below w.heap.size wr w') : SuW T g n (k + 1) w w' :=
  ⟨by rw [← L2.Hs.write_append] at h; exact h, hr.b.trans c, hr.t.below c hg⟩
set_option maxRecDepth 100000 in
set_option maxHeartbeats 1000000 in
theorem sum_texts (g n : Nat) (T : Nat → ByteArray) (w : World) (hb : Blk w g 9 (row n (sT T))) (hn : n ≤ 8) (hs : ∀ k, (T k).size ≤ 1000000) :
    Calls Tryz.prog 37 #[.slice (some ⟨g, 0, none⟩) n n] w fun e w' => e = .returned (.string (sumV (joinT T n))) ∧ Below w.heap.size w w' := by
  have hg := hb.lt
  have hL := Lib.hid (joinT_len T hs)
  have HS := Lib.hid hs
  clear hs
  go_enter Tryz.func37, Tryz.ntmps37
  go_wp2_with fail
  refine (L2.new_any _).mono ?_
  rintro e w1 ⟨rfl, h1, b1⟩
  have hr0 : SuW T g n 0 w w1 := ⟨h1, b1, hb.below b1 hg⟩
  clear h1 b1 hb
  go_wp2_with fail
  go_loopw [5, 9] (fun _ i wr => ∃ k : Nat, k ≤ n ∧ i = .int .i64 (k : Int) ∧ SuW T g n k w wr) (fun _ i _ => n - (intOf i).toNat)
  case atStart => exact ⟨0, by omega, rfl, hr0⟩
  case round =>
    obtain ⟨k, hk, rfl, hr⟩ := hrel
    clear hr0
    by_cases hlt : k < n
    · have c0 := hr.t.at_ hlt
      have hsz := HS.out k
      have hlen : (L2.H0.write (joinT T k)).size + (T k).size < 4611686018427387904 := by
        have := hL.out k
        rw [L2.Hs.size_write]; show 0 + _ + _ < _; omega
      unfold sT at c0
      go_wp2_with fail
      refine (L2.write_any w.heap.size _ (T k) wr hr.h.lt hr.h hlen).mono ?_
      rintro e w2 ⟨rfl, h2, c2⟩
      have K := hr.next hg h2 (c2.below (Below.refl _ wr) (Nat.le_refl _) hr.b.size)
      clear hr h2 c2 c0 hlen hsz
      go_wp2_with fail
      go_roundw
      case rel => exact ⟨k + 1, by omega, by go_num, K⟩
      case measure => simp [intOf]; omega
    · obtain rfl : k = n := by omega
      have hlen : (L2.H0.write (joinT T k)).size < 576460752303423488 := by
        have := hL.out k
        rw [L2.Hs.size_write]; show 0 + _ < _; omega
      have HO : Hid ((⟨(L2.H0.write (joinT T k)).out.toArray⟩ : ByteArray) = sumV (joinT T k)) := Lib.hid rfl
      go_wp2_with fail
      refine (L2.sum_any w.heap.size _ wr hr.h hlen).mono ?_
      rintro e w3 ⟨rfl, b3⟩
      have b := hr.b.trans (b3.mono hr.b.size)
      clear hr b3 hlen
      clear hL
      generalize (⟨(L2.H0.write (joinT T k)).out.toArray⟩ : ByteArray) = o at *
      go_wp2_with fail
      go_ret
      exact ⟨by rw [← HO.out]; rfl, b⟩
/-- sum of some texts. -/
theorem sum_is (g n : Nat) (T : Nat → ByteArray) (l : List UInt8) (w : World) (hb : Blk w g 9 (row n (sT T))) (hn : n ≤ 8) (hs : ∀ k, (T k).size ≤ 1000000) (hl : joinT T n = l) :
    Calls Tryz.prog 37 #[.slice (some ⟨g, 0, none⟩) n n] w fun e w' => e = .returned (.string (sumV l)) ∧ Below w.heap.size w w' := by
  subst hl; exact sum_texts g n T w hb hn hs
theorem reduced_is (g n : Nat) (T : Nat → ByteArray) (o : ByteArray) (w : World) (hb : Blk w g 9 (row n (sT T))) (hn : n ≤ 8) (hs : ∀ k, (T k).size ≤ 1000000) (ho : L4.redV (sumV (joinT T n)) = o) :
    Calls Tryz.prog 18 #[.slice (some ⟨g, 0, none⟩) n n] w fun e w' => e = .returned (.string o) ∧ Below w.heap.size w w' := by
  have C := Lib.hid (sum_is g n T _ w hb hn hs rfl)
  have hg := hb.lt
  generalize sumV (joinT T n) = z at *
  have CR := Lib.hid (fun w => L4.qreduce_any z w)
  rw [ho] at CR
  clear hb ho hs
  go_enter Tryz.func18, Tryz.ntmps18
  go_wp2_with fail
  refine C.out.mono ?_
  rintro e w1 ⟨rfl, b1⟩
  go_wp2_with fail
  refine (CR.out _).mono ?_
  rintro e w2 ⟨rfl, b2⟩
  have b := b1.trans (b2.mono b1.size)
  clear b1 b2
  go_wp2_with fail
  go_ret
  exact ⟨rfl, b⟩
theorem timesBase_is (s o : ByteArray) (w : World) (ho : tbV s = o) :
    Calls Tryz.prog 15 #[.string s] w fun e w' => e = .returned (.string o) ∧ Below w.heap.size w w' := by
  have CM := Lib.hid (fun w => mul_is s bP (pmul bP (numV s 32)) base_on.ok (by rw [cnt_base]) w)
  have hon := pmul_on base_on (numV s 32)
  have CE := Lib.hid (fun w => enc_is (pmul bP (numV s 32)) _ _ hon.ok (encV_on (onB_C.2 hon)) w)
  rw [show bytesV (encN (pmul bP (numV s 32))) = o from ho] at CE
  clear ho hon
  generalize pmul bP (numV s 32) = P at *
  go_enter Tryz.func15, Tryz.ntmps15
  go_wp2_with fail
  refine (qbase_any _).mono ?_
  rintro e w1 ⟨rfl, b1⟩
  go_wp2_with fail
  refine (CM.out _).mono ?_
  rintro e w2 ⟨rfl, b2⟩
  go_wp2_with fail
  refine (CE.out _).mono ?_
  rintro e w3 ⟨rfl, b3⟩
  have b := (b1.trans (b2.mono b1.size)).trans (b3.mono (Nat.le_trans b1.size b2.size))
  clear b1 b2 b3
  go_wp2_with fail
  go_ret
  exact ⟨rfl, b⟩
end Go.Proofs.YtggalphgnloneaaGreat
