/- bytes, seed, examples of the laws of chapter 6. -/
import Derived.Test.YtggalphgnloneaaGreatTb
import Derived.Test.YtggalphgnloneaaGreatTd
namespace Go.Proofs.YtggalphgnloneaaGreat
open Go.RowKit
/-- A digit's number. -/
def dgN (c : Nat) : Nat := if 97 ≤ c then c - 87 else c - 48
def dgO (c : Nat) : Prop := 48 ≤ c ∧ c < 103 ∧ (97 ≤ c ∨ c < 58)
theorem dgN_lt {c : Nat} (h : dgO c) : dgN c < 16 := by unfold dgN; unfold dgO at h; split <;> omega
/-- What two digits say, so far. -/
def hn (s : ByteArray) (i : Nat) : Nat → Nat
  | 0 => 0
  | k + 1 => 16 * hn s i k + dgN (byteS s (i + k))
theorem hn_lt (s : ByteArray) (i : Nat) (h : ∀ k, dgO (byteS s (i + k)) ∨ 2 ≤ k) : ∀ k, k ≤ 2 → hn s i k < 16 ^ k
  | 0, _ => by show 0 < 1; omega
  | k + 1, hk => by
    have ih := hn_lt s i h k (by omega)
    have h2 : dgN (byteS s (i + k)) < 16 := dgN_lt ((h k).resolve_right (by omega))
    show 16 * hn s i k + _ < _
    rw [Nat.pow_succ]; omega
def hB8 (s : ByteArray) (j : Nat) : BitVec 8 := BitVec.ofNat 8 (hn s (2 * j) 2)
def hBL (s : ByteArray) (k : Nat) : List (BitVec 8) := (List.range k).map (hB8 s)
theorem hBL_succ (s : ByteArray) (k : Nat) : hBL s (k + 1) = hBL s k ++ [hB8 s k] := by unfold hBL; rw [List.range_succ, List.map_append]; rfl
theorem u8_infoQ : (Tryz.prog.info? 5).map (fun i => (i.zero, i.size, i.bytes)) = some (some (.int .u8 0), 1, 1) := by kernel_rfl
/-- Within bytes. -/
structure ByQ (s : ByteArray) (k : Nat) (w : World) (v : Value) (wr : World) : Prop where
  own : wr.ownsRow w.heap.size 5 1 v k ((hBL s k).map b8v)
  b : Below w.heap.size w wr
set_option maxRecDepth 100000 in
set_option maxHeartbeats 2000000 in
theorem lbytes_any (s : ByteArray) (n : Nat) (hs : s.size = 2 * n) (hn8 : n < 1000) (hd : ∀ j, j < 2 * n → dgO (byteS s j)) (w : World) :
    Calls Tryz.prog 13 #[.string s] w fun e w' => e = .returned (.string ⟨(asBytes (hBL s n)).toArray⟩) ∧ Below w.heap.size w w' := by
  obtain ⟨i0, hi, hz0, hz1, hz2⟩ := info_parts u8_infoQ
  have HS := Lib.hid hs
  have HD := Lib.hid hd
  have hss : (s.size : Int) = 2 * n := by omega
  clear hd
  go_enter Tryz.func13, Tryz.ntmps13
  go_wp2_with fail
  go_loopw [3, 4] (fun v i wr => ∃ k : Nat, k ≤ n ∧ i = .int .i64 ((2 * k : Nat) : Int) ∧ ByQ s k w v wr) (fun _ i _ => 2 * n - (intOf i).toNat)
  case atStart => exact ⟨0, by omega, rfl, ⟨rfl, .inl ⟨rfl, rfl⟩⟩, Below.refl _ _⟩
  case round =>
    obtain ⟨k, hk, rfl, hr⟩ := hrel
    obtain ⟨i, hid⟩ : ∃ i, i = 2 * k := ⟨_, rfl⟩
    have HI := Lib.hid hid
    rw [← hid]
    by_cases hlt : k < n
    · have hi1 : (i : Int) + 1 < s.size := by omega
      have hwi : IntKind.i64.wrap ((i : Int) + 1) = (i : Int) + 1 := IntWalk.i64_in _ (by omega)
      clear hid
      go_wp2_with fail
      go_loopw [5, 6] (fun nn jj wr2 => ∃ j : Nat, j ≤ 2 ∧ jj = .int .i64 (j : Int) ∧ nn = .int .i64 (hn s i j : Int) ∧ wr2 = wr) (fun _ jj _ => 2 - (intOf jj).toNat)
      case atStart => exact ⟨0, by omega, rfl, rfl, rfl⟩
      case round =>
        obtain ⟨j, hj, rfl, rfl, rfl⟩ := hrel
        by_cases hjl : j < 2
        · obtain ⟨m, hm⟩ : ∃ m, m = i + j := ⟨_, rfl⟩
          have hms : m < s.size := by have := HI.out; rw [HS.out]; omega
          have hij : (i : Int) + j = (m : Int) := by omega
          have hc : dgO (s[m]).toNat := by rw [byteS_at s m hms]; exact HD.out m (by rw [← HS.out]; exact hms)
          have HNX : Hid (hn s i (j + 1) = 16 * hn s i j + dgN (s[m]).toNat) := Lib.hid (by rw [byteS_at s m hms, hm]; rfl)
          have hh : hn s i j < 256 := by
            have h1 := hn_lt s i (fun k => by
              by_cases hk2 : k < 2
              · exact .inl (HD.out _ (by have := HI.out; omega))
              · exact .inr (by omega)) j (by omega)
            have h2 : 16 ^ j ≤ 16 ^ 2 := Nat.pow_le_pow_right (by decide) (by omega)
            omega
          have hwm : IntKind.i64.wrap (m : Int) = (m : Int) := IntWalk.i64_in _ (by omega)
          have hm1 : (m : Int) < 2 * n := by omega
          clear hm hi1 hwi
          unfold dgO at hc
          unfold dgN at HNX
          generalize hn s i j = h at hh HNX ⊢
          by_cases h97 : 97 ≤ (s[m]).toNat
          · have h97i : (97 : Int) ≤ ((s[m]).toNat : Int) := by omega
            have e1 : IntKind.i64.wrap (((s[m]).toNat : Int) - 97) = ((s[m]).toNat : Int) - 97 := IntWalk.i64_in _ (by omega)
            have HV : Hid (hn s i (j + 1) = 16 * h + ((s[m]).toNat - 87)) := Lib.hid (by rw [HNX.out, if_pos h97])
            clear HNX
            go_wp2_with fail
            go_roundw
            case rel => exact ⟨j + 1, by omega, by go_num, by rw [HV.out]; congr 1; omega, trivial⟩
            case measure => simp [intOf]; omega
          · have h97i : ¬ (97 : Int) ≤ ((s[m]).toNat : Int) := by omega
            have HV : Hid (hn s i (j + 1) = 16 * h + ((s[m]).toNat - 48)) := Lib.hid (by rw [HNX.out, if_neg h97])
            clear HNX
            go_wp2_with fail
            go_roundw
            case rel => exact ⟨j + 1, by omega, by go_num, by rw [HV.out]; congr 1; omega, trivial⟩
            case measure => simp [intOf]; omega
        · obtain rfl : j = 2 := by omega
          have hh : hn s i 2 < 256 := hn_lt s i (fun k => by
              by_cases hk2 : k < 2
              · exact .inl (HD.out _ (by have := HI.out; omega))
              · exact .inr (by omega)) 2 (by omega)
          have HB : Hid (hn s i 2 = (hB8 s k).toNat) := Lib.hid (by
            unfold hB8; rw [BitVec.toNat_ofNat, ← HI.out]; exact (Nat.mod_eq_of_lt hh).symm)
          have hw8 : IntKind.u8.wrap (hn s i 2 : Int) = iw (hB8 s k) := by rw [IntKind.wrap_u8, HB.out]; unfold iw; have := (hB8 s k).isLt; omega
          have hown := hr.own
          have hb := hr.b
          have hbs := hb.size
          clear hr
          go_wp2_with (first
            | (at_builtin; refine wpList_append_own _ rfl _ _ 29 rfl w.heap.size 5 i0 (.int .u8 0) 1 1 Tryz.underlying29 hi hz0 hz1 hz2 rfl (by decide) _ _ _ rfl (hown.alloc _) ⟨wr.heap.size, 0, none⟩ 1 1 [.int .u8 (iw (hB8 s k))] rfl rfl ?c1 ?c2 ?c3 ?c4 ?c5 ?_))
          case c1 =>
            intro j u hu
            rw [addr_add, Nat.zero_add]
            exact (cell_of_row _ _ j _ _ (0, 0) (heap_alloc_new wr _)).trans (by rw [← hu]; simp)
          case c2 =>
            intro u hu
            simp at hu
            subst hu
            rfl
          case c3 => unfold maxLen; omega
          case c4 => omega
          case c5 => simp; exact Nat.le_succ_of_le hbs
          intro v' w2 hown2 hg2 _
          have hb3 : Below w.heap.size w w2 := (hb.alloc hbs _).grown hg2 (by simp; exact Nat.le_succ_of_le hbs) (own_le hown)
          have K : ByQ s (k + 1) w v' w2 := ⟨by rw [hBL_succ, List.map_append]; exact hown2, hb3⟩
          have HI2 : Hid (((2 * (k + 1) : Nat) : Int) = (i : Int) + 2) := Lib.hid (by have := HI.out; omega)
          have hin : i < 2 * n := by have := HI.out; omega
          clear hown hb hown2 hg2 hb3 hbs hh HB hw8
          go_wp2_with fail
          go_roundw
          case rel => exact ⟨k + 1, by omega, by rw [HI2.out], K⟩
          case measure => simp [intOf]; omega
    · obtain rfl : k = n := by omega
      have hi1 : ¬ (i : Int) + 1 < s.size := by omega
      have hwi : IntKind.i64.wrap ((i : Int) + 1) = (i : Int) + 1 := IntWalk.i64_in _ (by omega)
      have hcv : (convert 29 9 u3).run Tryz.prog wr = .ok (.string ⟨(asBytes (hBL s k)).toArray⟩) wr :=
        run_string_of_own wr _ _ 5 _ Tryz.underlying29 Tryz.underlying5 Tryz.underlying9 _ _ _ hr.own
      have hb9 := hr.b
      clear hr hlt hk
      generalize hO : asBytes (hBL s k) = OUT at hcv
      have HO := Lib.hid hO
      clear hO
      go_wp2_with fail
      go_ret
      exact ⟨by rw [HO.out]; rfl, hb9⟩
def okD (d : ByteArray) (n : Nat) (o : ByteArray) : Bool :=
  decide (d.size = 2 * n) && (List.range (2 * n)).all (fun j => decide (48 ≤ byteS d j ∧ byteS d j < 103 ∧ (97 ≤ byteS d j ∨ byteS d j < 58))) && decide ((⟨(asBytes (hBL d n)).toArray⟩ : ByteArray) = o)
theorem bytes_is (d o : ByteArray) (n : Nat) (hn : n < 1000) (h : okD d n o = true) (w : World) :
    Calls Tryz.prog 13 #[.string d] w fun e w' => e = .returned (.string o) ∧ Below w.heap.size w w' := by
  unfold okD at h
  rw [Bool.and_eq_true, Bool.and_eq_true, List.all_eq_true] at h
  obtain ⟨⟨h1, h2⟩, h3⟩ := h
  rw [← of_decide_eq_true h3]
  exact lbytes_any d n (of_decide_eq_true h1) hn (fun j hj => by have h4 := of_decide_eq_true (h2 j (List.mem_range.2 hj)); exact h4) w
/-- What seed answers. -/
def seedV (s : ByteArray) : ByteArray := ⟨(asBytes ((List.range 32).map fun i => BitVec.ofNat 8 (byteS s i))).toArray⟩
theorem seedV_size (s : ByteArray) : (seedV s).size = 32 := by
  show Array.size _ = 32
  simp [asBytes]
def seedF (s : ByteArray) (k i : Nat) : BitVec 8 := if i < k then BitVec.ofNat 8 (byteS s i) else 0
theorem seed_none (s : ByteArray) : (Array.replicate 32 (Value.int .u8 0)) = r8 32 (seedF s 0) := by kernel_rfl
theorem seed_put (s : ByteArray) (k : Nat) : (row 32 fun j => if j = k then Value.int .u8 (byteS s k : Int) else Value.int .u8 (iw (seedF s k j))) = r8 32 (seedF s (k + 1)) := row_ext fun j _ => by
  unfold seedF
  by_cases h1 : j = k
  · subst h1
    rw [if_pos rfl, if_pos (by omega)]
    unfold iw
    rw [BitVec.toNat_ofNat, Nat.mod_eq_of_lt (show byteS s j < 2 ^ 8 from byteS_lt s j)]
  · rw [if_neg h1]
    by_cases h2 : j < k
    · rw [if_pos h2, if_pos (by omega)]
    · rw [if_neg h2, if_neg (by omega)]
theorem seed_all (s : ByteArray) (k : Nat) (h : k = 32 ∨ s.size ≤ k) : (⟨(asBytes ((List.range 32).map (seedF s k))).toArray⟩ : ByteArray) = seedV s := by
  unfold seedV
  rw [show (List.range 32).map (seedF s k) = (List.range 32).map fun i => BitVec.ofNat 8 (byteS s i) from List.map_congr_left fun i hi => by
    have := List.mem_range.1 hi
    unfold seedF
    by_cases h1 : i < k
    · rw [if_pos h1]
    · rw [if_neg h1, byteS_out s i (by omega)]; rfl]
set_option maxRecDepth 100000 in
set_option maxHeartbeats 1000000 in
theorem seed_is (s r : ByteArray) (hv : seedV s = r) (w : World) :
    Calls Tryz.prog 6 #[.string s] w fun e w' => e = .returned (.string r) ∧ Below w.heap.size w w' := by
  go_enter Tryz.func6, Tryz.ntmps6
  have hmk : ∀ w, (Instr.makeSlice 29 (.int .i64 32) (.int .i64 32)).run Tryz.prog w = .ok (.slice (some ⟨w.heap.size, 0, none⟩) 32 32) (w.alloc (.cells (r8 32 (seedF s 0)) 5)) := fun w => by rw [← seed_none]; kernel_rfl
  go_wp2_with fail
  go_loopw [4] (fun i wr => ∃ k : Nat, k ≤ 32 ∧ k ≤ s.size ∧ i = .int .i64 (k : Int) ∧ Blk wr w.heap.size 5 (r8 32 (seedF s k)) ∧ Below w.heap.size w wr) (fun i _ => 32 - (intOf i).toNat)
  case atStart => exact ⟨0, by omega, by omega, rfl, Blk.new w _ _, (Below.refl _ _).alloc (Nat.le_refl _) _⟩
  case round =>
    obtain ⟨k, hk, hks, rfl, hr, hb⟩ := hrel
    by_cases hlt : k < 32 ∧ k < s.size
    · obtain ⟨h1, h2⟩ := hlt
      have c0 := hr.at_ h1
      have f0 := hr.frozen k
      have e8 := byteS_at s k h2
      have HP := Lib.hid ((hr.put h1 (.int .u8 (byteS s k : Int))).cast_ (seed_put s k))
      have HQ := Lib.hid (hb.setCell (p := ⟨w.heap.size, k, none⟩) (Nat.le_refl _) (.int .u8 (byteS s k : Int)))
      clear hr hb
      have h1i : (k : Int) < 32 := by omega
      have h2i : (k : Int) < s.size := by omega
      go_wp2_with fail
      go_roundw
      case rel => exact ⟨k + 1, by omega, by omega, by go_num, HP.out, HQ.out⟩
      case measure => simp [intOf]; omega
    · have hst := run_string_of_blk (P := Tryz.prog) wr 29 9 5 Tryz.underlying29 Tryz.underlying5 Tryz.underlying9 w.heap.size 32 32 _ _ hr
      rw [seed_all s k (by omega), hv] at hst
      clear hr
      by_cases h1 : k < 32
      · have h2 : s.size ≤ k := by omega
        go_wp2_with fail
        go_ret
        exact ⟨rfl, hb⟩
      · go_wp2_with fail
        go_ret
        exact ⟨rfl, hb⟩
theorem text_selfS (r : ByteArray) : (r.toList == r.toList) = true := by simp
set_option maxRecDepth 100000 in
set_option maxHeartbeats 1000000 in
theorem examples6_any (w : World) :
    Calls Tryz.prog 5 #[] w fun e w' => e = .returned (.bool true) ∧ Below w.heap.size w w' := by
  have CB := Lib.hid bytes_is
  have CP := Lib.hid (fun w => public_t seedE w (by decide) pubE public_E)
  have CS := Lib.hid (fun w => sign_t seedE ⟨#[]⟩ w (by decide) (by decide) sigE sig_E)
  have T1 := text_selfS pubE
  have T2 := text_selfS sigE
  have B1 : Hid (∀ d, okD d 32 seedE = true → ∀ w, Calls Tryz.prog 13 #[.string d] w fun e w' => e = .returned (.string seedE) ∧ Below w.heap.size w w') := Lib.hid (fun d h w => CB.out d seedE 32 (by decide) h w)
  have B2 : Hid (∀ d, okD d 32 pubE = true → ∀ w, Calls Tryz.prog 13 #[.string d] w fun e w' => e = .returned (.string pubE) ∧ Below w.heap.size w w') := Lib.hid (fun d h w => CB.out d pubE 32 (by decide) h w)
  have B3 : Hid (∀ d, okD d 64 sigE = true → ∀ w, Calls Tryz.prog 13 #[.string d] w fun e w' => e = .returned (.string sigE) ∧ Below w.heap.size w w') := Lib.hid (fun d h w => CB.out d sigE 64 (by decide) h w)
  clear CB
  go_enter Tryz.func5, Tryz.ntmps5
  go_wp2_with fail
  refine (B1.out _ (by kernel_rfl) _).mono ?_
  rintro e w1 ⟨rfl, b1⟩
  go_wp2_with fail
  refine (CP.out _).mono ?_
  rintro e w2 ⟨rfl, b2⟩
  have c2 := b1.trans (b2.mono b1.size)
  clear b1 b2
  go_wp2_with fail
  refine (CS.out _).mono ?_
  rintro e w3 ⟨rfl, b3⟩
  have c3 := c2.trans (b3.mono c2.size)
  clear c2 b3
  go_wp2_with fail
  refine (B2.out _ (by kernel_rfl) _).mono ?_
  rintro e w4 ⟨rfl, b4⟩
  have c4 := c3.trans (b4.mono c3.size)
  clear c3 b4
  go_wp2_with fail
  refine (B3.out _ (by kernel_rfl) _).mono ?_
  rintro e w5 ⟨rfl, b5⟩
  have c5 := c4.trans (b5.mono c4.size)
  clear c4 b5
  go_wp2_with fail
  go_ret
  exact ⟨rfl, c5⟩
end Go.Proofs.YtggalphgnloneaaGreat
