/- bytes, order, examples of the laws of chapter 4. -/
import Derived.Test.YtnfcgpoafmmioaaLh
import Derived.Test.YtnfcgpoafmmioaaLi
namespace Go.Proofs.Ytnfcgpoafmmioaa
open Go.RowKit
/-- A digit's number. -/
def dgN (c : Nat) : Nat := if 97 ≤ c then c - 87 else c - 48
def dgO (c : Nat) : Prop := 48 ≤ c ∧ c < 103 ∧ (97 ≤ c ∨ c < 58)
theorem dgN_lt {c : Nat} (h : dgO c) : dgN c < 16 := by unfold dgN; unfold dgO at h; split <;> omega
/-- What two digits say, so far. -/
def hn (s : ByteArray) (i : Nat) : Nat → Nat
  | 0 => 0
  | k + 1 => 16 * hn s i k + dgN (byteS s (i + k))
theorem hn_lt (s : ByteArray) (i : Nat) (h : ∀ k, dgO (byteS s (i + k)) ∨ 2 ≤ k) : ∀ k, k ≤ 2 → hn s i k < 16 ^ k
  | 0, _ => by show 0 < 1; omega
  | k + 1, hk => by
    have ih := hn_lt s i h k (by omega)
    have h2 : dgN (byteS s (i + k)) < 16 := dgN_lt ((h k).resolve_right (by omega))
    show 16 * hn s i k + _ < _
    rw [Nat.pow_succ]; omega
def hB8 (s : ByteArray) (j : Nat) : BitVec 8 := BitVec.ofNat 8 (hn s (2 * j) 2)
def hBL (s : ByteArray) (k : Nat) : List (BitVec 8) := (List.range k).map (hB8 s)
theorem hBL_succ (s : ByteArray) (k : Nat) : hBL s (k + 1) = hBL s k ++ [hB8 s k] := by unfold hBL; rw [List.range_succ, List.map_append]; rfl
theorem u8_infoQ : (Try.prog.info? 5).map (fun i => (i.zero, i.size, i.bytes)) = some (some (.int .u8 0), 1, 1) := by kernel_rfl
/-- Within bytes. -/
structure ByQ (s : ByteArray) (k : Nat) (w : World) (v : Value) (wr : World) : Prop where
  own : wr.ownsRow w.heap.size 5 1 v k ((hBL s k).map b8v)
  b : Below w.heap.size w wr
set_option maxRecDepth 100000 in
set_option maxHeartbeats 2000000 in
theorem lbytes_any (s : ByteArray) (n : Nat) (hs : s.size = 2 * n) (hn8 : n < 1000) (hd : ∀ j, j < 2 * n → dgO (byteS s j)) (w : World) :
    Calls Try.prog 28 #[.string s] w fun e w' => e = .returned (.string ⟨(asBytes (hBL s n)).toArray⟩) ∧ Below w.heap.size w w' := by
  obtain ⟨i0, hi, hz0, hz1, hz2⟩ := info_parts u8_infoQ
  have HS := Lib.hid hs
  have HD := Lib.hid hd
  have hss : (s.size : Int) = 2 * n := by omega
  clear hd
  go_enter Try.func28, Try.ntmps28
  go_wp2_with fail
  go_loopw [3, 4] (fun v i wr => ∃ k : Nat, k ≤ n ∧ i = .int .i64 ((2 * k : Nat) : Int) ∧ ByQ s k w v wr) (fun _ i _ => 2 * n - (intOf i).toNat)
  case atStart => exact ⟨0, by omega, rfl, ⟨rfl, .inl ⟨rfl, rfl⟩⟩, Below.refl _ _⟩
  case round =>
    obtain ⟨k, hk, rfl, hr⟩ := hrel
    obtain ⟨i, hid⟩ : ∃ i, i = 2 * k := ⟨_, rfl⟩
    have HI := Lib.hid hid
    rw [← hid]
    by_cases hlt : k < n
    · have hi1 : (i : Int) + 1 < s.size := by omega
      have hwi : IntKind.i64.wrap ((i : Int) + 1) = (i : Int) + 1 := IntWalk.i64_in _ (by omega)
      clear hid
      go_wp2_with fail
      go_loopw [5, 6] (fun nn jj wr2 => ∃ j : Nat, j ≤ 2 ∧ jj = .int .i64 (j : Int) ∧ nn = .int .i64 (hn s i j : Int) ∧ wr2 = wr) (fun _ jj _ => 2 - (intOf jj).toNat)
      case atStart => exact ⟨0, by omega, rfl, rfl, rfl⟩
      case round =>
        obtain ⟨j, hj, rfl, rfl, rfl⟩ := hrel
        by_cases hjl : j < 2
        · obtain ⟨m, hm⟩ : ∃ m, m = i + j := ⟨_, rfl⟩
          have hms : m < s.size := by have := HI.out; rw [HS.out]; omega
          have hij : (i : Int) + j = (m : Int) := by omega
          have hc : dgO (s[m]).toNat := by rw [byteS_at s m hms]; exact HD.out m (by rw [← HS.out]; exact hms)
          have HNX : Hid (hn s i (j + 1) = 16 * hn s i j + dgN (s[m]).toNat) := Lib.hid (by rw [byteS_at s m hms, hm]; rfl)
          have hh : hn s i j < 256 := by
            have h1 := hn_lt s i (fun k => by
              by_cases hk2 : k < 2
              · exact .inl (HD.out _ (by have := HI.out; omega))
              · exact .inr (by omega)) j (by omega)
            have h2 : 16 ^ j ≤ 16 ^ 2 := Nat.pow_le_pow_right (by decide) (by omega)
            omega
          have hwm : IntKind.i64.wrap (m : Int) = (m : Int) := IntWalk.i64_in _ (by omega)
          have hm1 : (m : Int) < 2 * n := by omega
          clear hm hi1 hwi
          unfold dgO at hc
          unfold dgN at HNX
          generalize hn s i j = h at hh HNX ⊢
          by_cases h97 : 97 ≤ (s[m]).toNat
          · have h97i : (97 : Int) ≤ ((s[m]).toNat : Int) := by omega
            have e1 : IntKind.i64.wrap (((s[m]).toNat : Int) - 97) = ((s[m]).toNat : Int) - 97 := IntWalk.i64_in _ (by omega)
            have HV : Hid (hn s i (j + 1) = 16 * h + ((s[m]).toNat - 87)) := Lib.hid (by rw [HNX.out, if_pos h97])
            clear HNX
            go_wp2_with fail
            go_roundw
            case rel => exact ⟨j + 1, by omega, by go_num, by rw [HV.out]; congr 1; omega, trivial⟩
            case measure => simp [intOf]; omega
          · have h97i : ¬ (97 : Int) ≤ ((s[m]).toNat : Int) := by omega
            have HV : Hid (hn s i (j + 1) = 16 * h + ((s[m]).toNat - 48)) := Lib.hid (by rw [HNX.out, if_neg h97])
            clear HNX
            go_wp2_with fail
            go_roundw
            case rel => exact ⟨j + 1, by omega, by go_num, by rw [HV.out]; congr 1; omega, trivial⟩
            case measure => simp [intOf]; omega
        · obtain rfl : j = 2 := by omega
          have hh : hn s i 2 < 256 := hn_lt s i (fun k => by
              by_cases hk2 : k < 2
              · exact .inl (HD.out _ (by have := HI.out; omega))
              · exact .inr (by omega)) 2 (by omega)
          have HB : Hid (hn s i 2 = (hB8 s k).toNat) := Lib.hid (by
            unfold hB8; rw [BitVec.toNat_ofNat, ← HI.out]; exact (Nat.mod_eq_of_lt hh).symm)
          have hw8 : IntKind.u8.wrap (hn s i 2 : Int) = iw (hB8 s k) := by rw [IntKind.wrap_u8, HB.out]; unfold iw; have := (hB8 s k).isLt; omega
          have hown := hr.own
          have hb := hr.b
          have hbs := hb.size
          clear hr
          go_wp2_with (first
            | (at_builtin; refine wpList_append_own _ rfl _ _ 34 rfl w.heap.size 5 i0 (.int .u8 0) 1 1 Try.underlying34 hi hz0 hz1 hz2 rfl (by decide) _ _ _ rfl (hown.alloc _) ⟨wr.heap.size, 0, none⟩ 1 1 [.int .u8 (iw (hB8 s k))] rfl rfl ?c1 ?c2 ?c3 ?c4 ?c5 ?_))
          case c1 =>
            intro j u hu
            rw [addr_add, Nat.zero_add]
            exact (cell_of_row _ _ j _ _ (0, 0) (heap_alloc_new wr _)).trans (by rw [← hu]; simp)
          case c2 =>
            intro u hu
            simp at hu
            subst hu
            rfl
          case c3 => unfold maxLen; omega
          case c4 => omega
          case c5 => simp; exact Nat.le_succ_of_le hbs
          intro v' w2 hown2 hg2 _
          have hb3 : Below w.heap.size w w2 := (hb.alloc hbs _).grown hg2 (by simp; exact Nat.le_succ_of_le hbs) (own_le hown)
          have K : ByQ s (k + 1) w v' w2 := ⟨by rw [hBL_succ, List.map_append]; exact hown2, hb3⟩
          have HI2 : Hid (((2 * (k + 1) : Nat) : Int) = (i : Int) + 2) := Lib.hid (by have := HI.out; omega)
          have hin : i < 2 * n := by have := HI.out; omega
          clear hown hb hown2 hg2 hb3 hbs hh HB hw8
          go_wp2_with fail
          go_roundw
          case rel => exact ⟨k + 1, by omega, by rw [HI2.out], K⟩
          case measure => simp [intOf]; omega
    · obtain rfl : k = n := by omega
      have hi1 : ¬ (i : Int) + 1 < s.size := by omega
      have hwi : IntKind.i64.wrap ((i : Int) + 1) = (i : Int) + 1 := IntWalk.i64_in _ (by omega)
      have hcv : (convert 34 9 u3).run Try.prog wr = .ok (.string ⟨(asBytes (hBL s k)).toArray⟩) wr :=
        run_string_of_own wr _ _ 5 _ Try.underlying34 Try.underlying5 Try.underlying9 _ _ _ hr.own
      have hb9 := hr.b
      clear hr hlt hk
      generalize hO : asBytes (hBL s k) = OUT at hcv
      have HO := Lib.hid hO
      clear hO
      go_wp2_with fail
      go_ret
      exact ⟨by rw [HO.out]; rfl, hb9⟩
def ordT : ByteArray := ⟨#[101, 100, 100, 51, 102, 53, 53, 99, 49, 97, 54, 51, 49, 50, 53, 56, 100, 54, 57, 99, 102, 55, 97, 50, 100, 101, 102, 57, 100, 101, 49, 52, 48, 48, 48, 48, 48, 48, 48, 48, 48, 48, 48, 48, 48, 48, 48, 48, 48, 48, 48, 48, 48, 48, 48, 48, 48, 48, 48, 48, 48, 48, 49, 48]⟩
theorem ordT_size : ordT.size = 2 * 32 := by decide
theorem ordT_digits' : ∀ j : Fin 64, 48 ≤ byteS ordT j.val ∧ byteS ordT j.val < 103 ∧ (97 ≤ byteS ordT j.val ∨ byteS ordT j.val < 58) := by decide +kernel
theorem ordT_out : (⟨(asBytes (hBL ordT 32)).toArray⟩ : ByteArray) = bytesV qL := by decide +kernel
theorem lorder_any (w : World) :
    Calls Try.prog 20 #[] w fun e w' => e = .returned (.string (bytesV qL)) ∧ Below w.heap.size w w' := by
  have C : Hid (∀ w, Calls Try.prog 28 #[.string ⟨#[101, 100, 100, 51, 102, 53, 53, 99, 49, 97, 54, 51, 49, 50, 53, 56, 100, 54, 57, 99, 102, 55, 97, 50, 100, 101, 102, 57, 100, 101, 49, 52, 48, 48, 48, 48, 48, 48, 48, 48, 48, 48, 48, 48, 48, 48, 48, 48, 48, 48, 48, 48, 48, 48, 48, 48, 48, 48, 48, 48, 48, 48, 49, 48]⟩] w fun e w' => e = .returned (.string (bytesV qL)) ∧ Below w.heap.size w w') := Lib.hid (fun w => by
    rw [← ordT_out]
    exact lbytes_any ordT 32 ordT_size (by decide) (fun j hj => ordT_digits' ⟨j, hj⟩) w)
  generalize bytesV qL = t at C ⊢
  go_enter Try.func20, Try.ntmps20
  go_wp2_with fail
  refine (C.out _).mono ?_
  rintro e w1 ⟨rfl, hq⟩
  go_wp2_with fail
  go_ret
  exact ⟨rfl, hq⟩
end Go.Proofs.Ytnfcgpoafmmioaa
