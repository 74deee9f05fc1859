/- The developers' Codes of chapter 9. -/
import Derived.Test.YtmmkmbinmmfblaaJc
namespace Go.Proofs.Ytmmkmbinmmfblaa
open Go.RowKit
/-- The next code of each length, and the codes that are told, when the first k symbols are done. -/
def nxt9 (l : Nat → Nat) (n k d : Nat) : Nat := if d = 0 then 0 else cst l n (d - 1) + cnt l d k
def codeF (l : Nat → Nat) (n k j : Nat) : Int := if j < k then (codeN l n j : Int) else 0
theorem nxt_none (l : Nat → Nat) (n d : Nat) : fst9 l n d = nxt9 l n 0 d := rfl
theorem nxt_skip (l : Nat → Nat) (n k j : Nat) (hd : l k = 0) : nxt9 l n (k + 1) j = nxt9 l n k j := by
  unfold nxt9
  by_cases h : j = 0
  · rw [if_pos h, if_pos h]
  · rw [if_neg h, if_neg h]
    show _ + (cnt l j k + (if l k = j then 1 else 0)) = _
    rw [if_neg (by omega)]; rfl
theorem nxt_put (l : Nat → Nat) (n k j d : Nat) (hd : l k = d) (h0 : d ≠ 0) : (if j = d then Value.int .i64 ((nxt9 l n k d + 1 : Nat) : Int) else Value.int .i64 (nxt9 l n k j : Int)) = Value.int .i64 (nxt9 l n (k + 1) j : Int) := by
  have e : nxt9 l n (k + 1) j = if j = d then nxt9 l n k d + 1 else nxt9 l n k j := by
    unfold nxt9
    by_cases h : j = d
    · subst h
      rw [if_pos rfl, if_neg h0, if_neg h0]
      show _ + (cnt l j k + (if l k = j then 1 else 0)) = _
      rw [if_pos hd]; omega
    · rw [if_neg h]
      by_cases hj : j = 0
      · rw [if_pos hj, if_pos hj]
      · rw [if_neg hj, if_neg hj]
        show _ + (cnt l j k + (if l k = j then 1 else 0)) = _
        rw [if_neg (by omega)]; rfl
  rw [e]
  split <;> rfl
theorem codeF_put (l : Nat → Nat) (n k j v : Nat) (hv : v = codeN l n k) : (if j = k then Value.int .i64 (v : Int) else Value.int .i64 (codeF l n k j)) = Value.int .i64 (codeF l n (k + 1) j) := by
  subst hv
  unfold codeF
  by_cases h : j = k
  · subst h; rw [if_pos rfl, if_pos (by omega)]
  · rw [if_neg h]
    by_cases h2 : j < k
    · rw [if_pos h2, if_pos (by omega)]
    · rw [if_neg h2, if_neg (by omega)]
theorem codeF_skip (l : Nat → Nat) (n k j : Nat) (hd : l k = 0) : codeF l n (k + 1) j = codeF l n k j := by
  unfold codeF
  by_cases h : j = k
  · subst h
    rw [if_pos (by omega), if_neg (by omega)]
    unfold codeN
    rw [if_pos hd]; rfl
  · by_cases h2 : j < k
    · rw [if_pos h2, if_pos (by omega)]
    · rw [if_neg h2, if_neg (by omega)]
abbrev CB (g k : Nat) (l : Nat → Nat) (n : Nat) : List (Nat × TypeId × Array Value) := [(g + 1, 3, rI n (codeF l n k)), (g, 58, rI 16 fun d => (nxt9 l n k d : Int))]
set_option maxRecDepth 100000 in
set_option maxHeartbeats 4000000 in
theorem codes_arg (p : Option Addr) (n cap : Nat) (f : Nat → Int) (w : World) (h : IS p n cap f w) (hn : n ≤ 17592186044416) (he : ¬ (okB f n = true ∧ n ≤ 300)) :
    Calls Try.prog 14 #[.slice p n cap] w fun e w' => e = .returned (.tuple #[.slice none 0 0, .int .i64 1]) ∧ Below w.heap.size w w' := by
  by_cases h3 : n ≤ 300
  · have hb : allB f 15 n = false := by
      rw [allB_ok]
      cases e : okB f n with
      | false => rfl
      | true => exact absurd ⟨e, h3⟩ he
    have C := allWithin_any p n cap f 15 w h hn
    rw [hb] at C
    have hni : ¬ (n : Int) > 300 := by omega
    clear he hb
    go_enter Try.func14, Try.ntmps14
    go_wp2_with fail
    refine C.mono ?_
    rintro e w1 ⟨rfl, b1⟩
    go_wp2_with fail
    go_ret2
    exact ⟨rfl, b1⟩
  · have hni : (n : Int) > 300 := by omega
    clear he
    go_enter Try.func14, Try.ntmps14
    go_wp2_with fail
    go_ret2
    exact ⟨rfl, Below.refl _ _⟩
set_option maxRecDepth 100000 in
set_option maxHeartbeats 4000000 in
theorem codes_form (p : Option Addr) (n cap : Nat) (f : Nat → Int) (w : World) (h : IS p n cap f w) (hn : n ≤ 300) (hok : okB f n = true) (hk : ¬ kr (toL f) n ≤ 32768) :
    Calls Try.prog 14 #[.slice p n cap] w fun e w' => e = .returned (.tuple #[.slice none 0 0, .int .i64 2]) ∧ Below w.heap.size w w' := by
  have C := allWithin_any p n cap f 15 w h (by omega)
  rw [allB_ok, hok] at C
  have S := Lib.hid (fun w h => share_any p n cap f w h (by omega) hok)
  have hni : ¬ (n : Int) > 300 := by omega
  have hki : (kr (toL f) n : Int) > 32768 := by omega
  generalize kr (toL f) n = K at *
  clear hk
  go_enter Try.func14, Try.ntmps14
  go_wp2_with fail
  refine C.mono ?_
  rintro e w1 ⟨rfl, b1⟩
  go_wp2_with fail
  refine (S.out _ (h.below b1)).mono ?_
  rintro e w2 ⟨rfl, rfl⟩
  go_wp2_with fail
  go_ret2
  exact ⟨rfl, b1⟩
set_option maxRecDepth 100000 in
set_option maxHeartbeats 4000000 in
theorem codes_ok (p : Option Addr) (n cap : Nat) (f : Nat → Int) (w : World) (h : IS p n cap f w) (hn : n ≤ 300) (hok : okB f n = true) (hk : kr (toL f) n ≤ 32768) :
    Calls Try.prog 14 #[.slice p n cap] w fun e w' => ∃ p2 c2, e = .returned (.tuple #[.slice p2 n c2, .int .i64 0]) ∧ IS p2 n c2 (fun i => (codeN (toL f) n i : Int)) w' ∧ Below w.heap.size w w' := by
  have C := allWithin_any p n cap f 15 w h (by omega)
  rw [allB_ok, hok] at C
  have S := Lib.hid (fun w h => share_any p n cap f w h (by omega) hok)
  have F := Lib.hid (fun w h => firstCodes_any p n cap f w h hn hok)
  have HB := Lib.hid (okB_true.1 hok)
  have hni : ¬ (n : Int) > 300 := by omega
  have hki : ¬ (kr (toL f) n : Int) > 32768 := by omega
  have HK := Lib.hid hk
  clear hk hok
  have hm := run_ints n (by omega)
  have hal := len16
  go_enter Try.func14, Try.ntmps14
  go_wp2_with fail
  refine C.mono ?_
  rintro e w1 ⟨rfl, b1⟩
  have h1 := h.below b1
  go_wp2_with fail
  refine (S.out _ h1).mono ?_
  intro e w2 hw2
  obtain ⟨rfl, e2⟩ := hw2
  obtain rfl := e2.symm
  go_wp2_with fail
  clear hki
  refine (F.out _ h1).mono ?_
  rintro e w3 ⟨rfl, b3⟩
  have hsz : (Try.prog.info? 58).map (·.size) = some (rI 16 fun d => (fst9 (toL f) n d : Int)).size := by rw [row_size]; kernel_rfl
  have K3 : Known w.heap.size w [] w3 := ⟨b1.trans (b3.mono b1.size), Nat.le_trans b1.size b3.size, fun x hx => by cases hx⟩
  have K4 := (K3.new (rI 16 fun _ => 0) (rI 16 fun d => (fst9 (toL f) n d : Int)) 58).add (rI n fun _ => 0) 3
  have hz := zero16
  go_wp2_with (refine wpList_store_row rfl 58 _ _ rfl w3.heap.size (rI 16 fun d => (fst9 (toL f) n d : Int)) rfl rfl 58 _ (Blk.new w3 _ _) hsz (by rw [row_size, row_size]) (row_one fun _ => rfl) ?_)
  clear hz hm C S F K3
  obtain ⟨g, hg⟩ : ∃ g, g = w3.heap.size := ⟨_, rfl⟩
  have hgB : w.heap.size ≤ g := by rw [hg]; exact Nat.le_trans b1.size b3.size
  have K5 : Hid (Known w.heap.size w (CB g 0 (toL f) n) (((w3.alloc (.cells (rI 16 fun _ => 0) 58)).setRow w3.heap.size (rI 16 fun d => (fst9 (toL f) n d : Int))).alloc (.cells (rI n fun _ => 0) 3))) := Lib.hid (by
    refine K4.sub fun x hx => ?_
    unfold CB at hx
    rw [hg, show rI n (codeF (toL f) n 0) = rI n fun _ => 0 from row_ext fun i _ => by unfold codeF; rw [if_neg (by omega)]] at hx
    simp only [List.mem_cons, List.not_mem_nil, or_false] at hx ⊢
    rcases hx with rfl | rfl
    · left; simp
    · exact .inr rfl)
  clear K4
  simp only [← hg] at *
  go_loopw [6, 7, 26] (fun _ _ i wr => ∃ k : Nat, k ≤ n ∧ i = .int .i64 (k : Int) ∧ Hid (Known w.heap.size w (CB g k (toL f) n) wr)) (fun _ _ i _ => n - (intOf i).toNat)
  case atStart => exact ⟨0, by omega, rfl, K5⟩
  case round =>
    obtain ⟨k, hk, rfl, HKn⟩ := hrel
    clear K5
    by_cases hlt : k < n
    · cases p with
      | none => have := (h.nil_ rfl).1; omega
      | some a =>
        have c0 := (h.below HKn.out.b).cell a rfl k hlt
        have h0 := HB.out k hlt
        obtain ⟨d, hd⟩ := Int.eq_ofNat_of_zero_le h0.1
        have hd15 : d < 16 := by omega
        have hdl : toL f k = d := by unfold toL; omega
        rw [hd] at c0
        by_cases hz : d = 0
        · have HP : Hid (Known w.heap.size w (CB g (k + 1) (toL f) n) wr) := Lib.hid (HKn.out.cast (by
            unfold CB
            rw [show rI n (codeF (toL f) n k) = rI n (codeF (toL f) n (k + 1)) from row_ext fun i _ => by rw [codeF_skip _ _ _ _ (by omega)], show (rI 16 fun d => (nxt9 (toL f) n k d : Int)) = rI 16 fun d => (nxt9 (toL f) n (k + 1) d : Int) from row_ext fun i _ => congrArg (fun x : Nat => Value.int .i64 (x : Int)) (nxt_skip (toL f) n k i (by omega)).symm]))
          subst hz
          clear h0 hd hdl
          go_wp2_with fail
          go_roundw
          case rel => exact ⟨k + 1, by omega, by go_num, HP⟩
          case measure => simp [intOf]; omega
        · have hb1 : Blk wr (g + 1) 3 (rI n (codeF (toL f) n k)) := HKn.out.blk _ m0
          have hb0 : Blk wr g 58 (rI 16 fun d => (nxt9 (toL f) n k d : Int)) := HKn.out.blk _ m1
          obtain ⟨v, hv⟩ : ∃ v, v = nxt9 (toL f) n k d := ⟨_, rfl⟩
          have hvc : v = codeN (toL f) n k := by
            rw [hv]; unfold nxt9 codeN
            rw [if_neg hz, if_neg (by omega), hdl]
          have hvl : v ≤ 19661100 := by
            rw [hv]; unfold nxt9
            rw [if_neg hz]
            have := cst_lt (toL f) (n := n) (d := d - 1) hn (by omega)
            have := cnt_le (toL f) d k
            omega
          have k1 := hb1.at_ hlt
          have f1 := hb1.frozen k
          have k0 : wr.cell? ⟨g, d, none⟩ = some (.int .i64 (nxt9 (toL f) n k d : Int)) := hb0.at_ hd15
          rw [← hv] at k0
          have f0 := hb0.frozen d
          have HQ := HKn.out.cell hb1 hlt (by omega) (.int .i64 (v : Int)) [(g + 1, 3, rI n (codeF (toL f) n (k + 1))), (g, 58, rI 16 fun d => (nxt9 (toL f) n k d : Int))] (fun x hx => by
            simp only [List.mem_cons, List.not_mem_nil, or_false] at hx
            rcases hx with rfl | rfl
            · exact .inl (congrArg (fun r => (g + 1, 3, r)) (row_ext fun i _ => (codeF_put (toL f) n k i v hvc).symm))
            · exact .inr ⟨m1, by show g ≠ g + 1; omega⟩)
          have hq0 : Blk _ g 58 (rI 16 fun d => (nxt9 (toL f) n k d : Int)) := HQ.blk _ m1
          have HP : Hid (Known w.heap.size w (CB g (k + 1) (toL f) n) ((wr.setCell ⟨g + 1, k, none⟩ (.int .i64 (v : Int))).setCell ⟨g, d, none⟩ (.int .i64 ((v + 1 : Nat) : Int)))) := Lib.hid (HQ.cell hq0 hd15 hgB (.int .i64 ((v + 1 : Nat) : Int)) (CB g (k + 1) (toL f) n) (fun x hx => by
            simp only [List.mem_cons, List.not_mem_nil, or_false] at hx
            rcases hx with rfl | rfl
            · exact .inr ⟨m0, by show g + 1 ≠ g; omega⟩
            · exact .inl (congrArg (fun r => (g, 58, r)) (row_ext fun i _ => by rw [hv]; exact (nxt_put (toL f) n k i d hdl hz).symm))))
          have kq : (wr.setCell ⟨g + 1, k, none⟩ (.int .i64 (v : Int))).cell? ⟨g, d, none⟩ = some (.int .i64 (nxt9 (toL f) n k d : Int)) := hq0.at_ hd15
          rw [← hv] at kq
          have fq := hq0.frozen d
          have hd0 : (0 : Int) < (d : Int) := by omega
          have hdi : (d : Int) < 16 := by omega
          have hki : (k : Int) < (n : Int) := by omega
          clear h0 hd hdl hb1 hb0 hv hvc hz HQ hq0
          go_wp2_with fail
          go_roundw
          case rel => exact ⟨k + 1, by omega, by go_num, HP⟩
          case measure => simp [intOf]; omega
    · obtain rfl : k = n := by omega
      have hbn : Blk wr (g + 1) 3 (rI k (codeF (toL f) k k)) := HKn.out.blk _ m0
      have hI : IS (some ⟨g + 1, 0, none⟩) k k (fun i => (codeN (toL f) k i : Int)) wr := IS.row (hbn.cast_ (row_ext fun i hi => by unfold codeF; rw [if_pos hi])) (fun i _ => by omega) (fun i hi => by
        by_cases h0 : toL f i = 0
        · unfold codeN; rw [if_pos h0]; omega
        · have h15 : ∀ j, j < k → toL f j ≤ 15 := fun j hj => by have := HB.out j hj; unfold toL; omega
          have h1 := code_lt (toL f) k i h15 HK.out hi h0
          have h2 : 2 ^ toL f i ≤ 2 ^ 15 := Nat.pow_le_pow_right (by decide) (h15 i hi)
          omega)
      clear hbn
      go_wp2_with fail
      go_ret2
      exact ⟨_, _, rfl, hI, HKn.out.b⟩
theorem codes_huff (p : Option Addr) (n cap : Nat) (f : Nat → Int) (w : World) (h : IS p n cap f w) (hn : n ≤ 17592186044416) :
    Calls Try.prog 14 #[.slice p n cap] w fun e w' => ∃ p2 c2, e = .returned (.tuple #[.slice p2 (codesM f n) c2, .int .i64 (codesE f n : Int)]) ∧ IS p2 (codesM f n) c2 (fun i => (codeN (toL f) n i : Int)) w' ∧ Below w.heap.size w w' := by
  have nil : ∀ w' : World, IS none 0 0 (fun i => (codeN (toL f) n i : Int)) w' := fun w' => ⟨fun _ => ⟨rfl, rfl⟩, (fun a e => by cases e), (fun a e => by cases e), (fun i hi => by omega), (fun i hi => by omega)⟩
  by_cases h1 : okB f n = true ∧ n ≤ 300
  · by_cases hk : kr (toL f) n ≤ 32768
    · have e0 := codesE_ok h1 hk
      have em : codesM f n = n := by unfold codesM; rw [if_pos e0]
      rw [e0, em]
      exact codes_ok p n cap f w h h1.2 h1.1 hk
    · have e0 := codesE_form h1 hk
      have em : codesM f n = 0 := by unfold codesM; rw [if_neg (by omega)]
      rw [e0, em]
      exact (codes_form p n cap f w h h1.2 h1.1 hk).mono fun e w' ⟨h2, h3⟩ => ⟨none, 0, h2, nil w', h3⟩
  · have e0 := codesE_arg h1
    have em : codesM f n = 0 := by unfold codesM; rw [if_neg (by omega)]
    rw [e0, em]
    exact (codes_arg p n cap f w h hn h1).mono fun e w' ⟨h2, h3⟩ => ⟨none, 0, h2, nil w', h3⟩
end Go.Proofs.Ytmmkmbinmmfblaa
