/- DeflateTells: symbols of lengths, gone through as the chapter of opening says, are the lengths; none stands for more than it may. -/
import Derived.Test.YtjdfdiejlmeeoaaDeflateRuns
namespace Go.Proofs.Ytjdfdiejlmeeoaa
open Go.RowKit
/-- A slice of bytes that is read. -/
structure U8 (p : Option Addr) (n cap : Nat) (f : Nat → Nat) (w : World) : Prop where
  nil_ : p = none → n = 0 ∧ cap = 0
  cell : ∀ a, p = some a → ∀ i, i < n → w.cell? (a.add i) = some (.int .u8 ((f i : Nat) : Int))
  lt : ∀ a, p = some a → a.block < w.heap.size
  hi : ∀ i, i < n → f i < 256
theorem U8.below {p : Option Addr} {n cap : Nat} {f : Nat → Nat} {w w' : World} (h : U8 p n cap f w) (hb : Below w.heap.size w w') : U8 p n cap f w' :=
  ⟨h.nil_, fun a ha i hi => by
    have hl := h.lt a ha
    rw [← h.cell a ha i hi]
    have hb2 : (a.add i).block = a.block := by unfold Addr.add; split <;> rfl
    exact hb.cell (p := a.add i) (by rw [hb2]; exact hl), fun a ha => Nat.lt_of_lt_of_le (h.lt a ha) hb.size, h.hi⟩
theorem firstI_next (f : Nat → Int) (n : Nat) : firstI f (n + 1) = firstI f n ++ [f n] := by simp [firstI, List.range_succ]
theorem firstI_at (f : Nat → Int) (n i : Nat) (h : i < n) : (firstI f n).getD i 0 = f i := by
  unfold firstI; rw [List.getD_eq_getElem?_getD, List.getElem?_map, List.getElem?_range h]; rfl
/-- A list made of numbers of 0 to 15, read. -/
theorem LS.low {B : Nat} {w0 w : World} {g : Nat → Int} {m : Nat} {v : Value} (hg : ∀ i, 0 ≤ g i ∧ g i ≤ 15) (h : LS 3 1 B w0 ((firstI g m).map encI) v w) : ∃ p cap, v = .slice p m cap ∧ IS p m cap g w ∧ m ≤ cap ∧ cap ≤ 9223372036854775807 := by
  obtain ⟨p, cap, rfl, hR, -⟩ := h.rs
  have e : ((firstI g m).map encI).length = m := by rw [List.length_map, firstI_len]
  rw [e] at hR ⊢
  have hI := RS.is1 hR (fun i hi => by rw [firstI_at g m i hi]; have := hg i; omega) (fun i hi => by rw [firstI_at g m i hi]; have := hg i; omega)
  exact ⟨p, cap, rfl, ⟨hI.nil_, fun a ha i hi => by rw [hI.cell a ha i hi, firstI_at g m i hi], hI.lt, fun i _ => by have := hg i; omega, fun i _ => by have := hg i; omega⟩, hR.le, hR.mx⟩
theorem drop_next2 {α : Type} {L : List α} {i : Nat} {x : α} {r : List α} (h : L.drop i = x :: r) : L[i]? = some x ∧ L.drop (i + 1) = r := by
  constructor
  · have := congrArg List.head? h
    rw [List.head?_drop] at this; exact this
  · have := congrArg List.tail h
    rw [List.tail_drop] at this; exact this
theorem runsG_nil {f : Nat → Int} {n a : Nat} (h : runsG f n (n - a) a = []) (ha : a ≤ n) : a = n := by
  by_cases h2 : a < n
  · rw [show n - a = n - a - 1 + 1 by omega, runsG_one h2] at h; cases h
  · omega
/-- What a symbol may be, of numbers of 0 to 15. -/
theorem runV_case (g : Nat → Int) (m a : Nat) (h : a < m) : (∃ t, runV g m a = ((18, t - 11, 7), t) ∧ 11 ≤ t ∧ t ≤ 138 ∧ a + t ≤ m ∧ ∀ j, j < t → g (a + j) = 0) ∨ (∃ t, runV g m a = ((17, t - 3, 3), t) ∧ 3 ≤ t ∧ t ≤ 10 ∧ a + t ≤ m ∧ ∀ j, j < t → g (a + j) = 0) ∨
    (∃ t, runV g m a = ((16, t - 3, 2), t) ∧ 0 < a ∧ g (a - 1) = g a ∧ 3 ≤ t ∧ t ≤ 6 ∧ a + t ≤ m ∧ ∀ j, j < t → g (a + j) = g a) ∨ runV g m a = ((g a, 0, 0), 1) := by
  have l1 := ali_le g m a 138
  have l2 := ali_le g m a 10
  have l3 := ali_le g m a 6
  have i1 := @ali_in g m a 138 (by omega)
  have i2 := @ali_in g m a 10 (by omega)
  have i3 := @ali_in g m a 6 (by omega)
  unfold runV
  by_cases h0 : g a = 0
  · rw [if_pos h0]
    by_cases h1 : 11 ≤ ali g m a 138
    · rw [if_pos h1]
      exact .inl ⟨_, rfl, h1, l1, i1, fun j hj => by rw [ali_all hj, h0]⟩
    · rw [if_neg h1]
      by_cases h2 : 3 ≤ ali g m a 10
      · rw [if_pos h2]
        exact .inr (.inl ⟨_, rfl, h2, l2, i2, fun j hj => by rw [ali_all hj, h0]⟩)
      · rw [if_neg h2]; exact .inr (.inr (.inr rfl))
  · rw [if_neg h0]
    by_cases h1 : 0 < a ∧ g (a - 1) = g a ∧ 3 ≤ ali g m a 6
    · rw [if_pos h1]
      exact .inr (.inr (.inl ⟨_, rfl, h1.1, h1.2.1, h1.2.2, l3, i3, fun j hj => ali_all hj⟩))
    · rw [if_neg h1]; exact .inr (.inr (.inr rfl))
set_option maxRecDepth 100000 in
set_option maxHeartbeats 16000000 in
theorem deflateTells_any (p : Option Addr) (n cap : Nat) (f : Nat → Nat) (w : World) (h : U8 p n cap f w) :
    Calls Try.prog 6 #[.slice p n cap] w fun e w' => e = .returned (.bool true) ∧ Below w.heap.size w w' := by
  obtain ⟨g, hg⟩ : ∃ g : Nat → Int, ∀ i, g i = ((f i % 16 : Nat) : Int) := ⟨_, fun _ => rfl⟩
  have HG : Hid (∀ i, 0 ≤ g i ∧ g i ≤ 15) := Lib.hid fun i => by have := hg i; omega
  have HGF := Lib.hid hg
  have HU := Lib.hid h
  obtain ⟨m, hm⟩ : ∃ m, m = min n 320 := ⟨_, rfl⟩
  have hm3 : m ≤ 320 := by omega
  have HM := Lib.hid hm
  clear h hg hm
  go_enter Try.func6, Try.ntmps6
  go_wp2_with fail
  refine (examples11_any w).mono ?_
  rintro e w1 ⟨rfl, b1⟩
  have HB1 := Lib.hid b1
  have HU1 := Lib.hid (HU.out.below b1)
  clear b1 HU
  go_wp2_with fail
  go_loopw [4, 5] (fun u4 u5 wr => ∃ (i : Nat) (v : Value), v = u4 ∧ u5 = .int .i64 (i : Int) ∧ i ≤ m ∧ Hid (LS 3 1 w1.heap.size w1 ((firstI g i).map encI) v wr)) (fun _ u _ => m - (intOf u).toNat)
  case atStart => exact ⟨0, _, rfl, rfl, Nat.zero_le _, Lib.hid (LS.nil (Below.refl _ _) (Nat.le_refl _))⟩
  case round =>
    obtain ⟨i, v, rfl, rfl, hi, HL⟩ := hrel
    by_cases hlt : i < m
    · have hmm := HM.out
      have hin : (i : Int) < (n : Int) := by omega
      have hi3 : (i : Int) < 320 := by omega
      have hwi : IntKind.i64.wrap ((i : Int) + 1) = ((i + 1 : Nat) : Int) := by rw [IntWalk.i64_in _ (by omega)]; rfl
      obtain ⟨pa, rfl⟩ : ∃ a, p = some a := by
        cases p with
        | none => have := (HU1.out.nil_ rfl).1; omega
        | some a => exact ⟨a, rfl⟩
      have c0 := (HU1.out.below HL.out.b).cell pa rfl i (by omega)
      have hf := HU1.out.hi i (by omega)
      obtain ⟨x, hx⟩ : ∃ x, x = f i := ⟨_, rfl⟩
      obtain ⟨y, hy⟩ : ∃ y, y = x % 16 := ⟨_, rfl⟩
      rw [← hx] at c0 hf
      have hr1 : (x : Int).tmod 16 = (y : Int) := by rw [Int.tmod_eq_emod_of_nonneg (by omega)]; omega
      have hr2 : IntKind.u8.wrap (y : Int) = (y : Int) := IntWalk.u8_in _ (by omega)
      have hr3 : IntKind.i64.wrap (y : Int) = (y : Int) := IntWalk.i64_in _ (by omega)
      have HST : Hid ((firstI g (i + 1)).map encI = (firstI g i).map encI ++ [encI (y : Int)]) := Lib.hid (by
        rw [firstI_next, List.map_append, HGF.out i, ← hx, ← hy]; rfl)
      have HLN : Hid (((firstI g i).map encI).length ≤ 999999999999) := Lib.hid (by rw [List.length_map, firstI_len]; omega)
      have HLT := Lib.hid hlt
      clear hx hy hlt hmm hf
      go_wp2_with (at_builtin; refine wpList_oneI rfl (.tmp 27) (.tmp 34) 31 rfl rfl rfl HL.out (y : Int) rfl HLN.out ?_; intro v9 w9 h9 _; have H9 : Hid (LS 3 1 w1.heap.size w1 ((firstI g (i + 1)).map encI) v9 w9) := Lib.hid (by rw [HST.out]; exact h9); clear h9)
      exact ⟨⟨i + 1, _, rfl, by go_num, by have := HLT.out; omega, H9⟩, by simp only [intOf]; have := HLT.out; omega⟩
    · obtain rfl : m = i := by omega
      obtain ⟨pi, ci, rfl, hI, hci, hcx⟩ := LS.low HG.out HL.out
      have C := dRuns_any pi m ci g wr hI hci (by omega) hcx
      have hlen : (runsV g m).length ≤ 320 := by have := runsG_len g m m 0; unfold runsV; omega
      have HX1 : Hid (∀ p c w', RS 1 p (runsV g m).length c (runA (runsV g m)) w' → IS p (runsV g m).length c (fun j => ((runsV g m).map fun x => x.1).getD j 0) w') := Lib.hid fun p c w' hR => runA_is hI hR
      have HX2 : Hid (∀ p c w', RS 1 p (runsV g m).length c (runB (runsV g m)) w' → IS p (runsV g m).length c (fun j => ((runsV g m).map fun x => (x.2.1 : Int)).getD j 0) w') := Lib.hid fun p c w' hR => runB_is hR
      have hla : (runA (runsV g m)).length = (runsV g m).length := by unfold runA; rw [List.length_map]
      have hlb : (runB (runsV g m)).length = (runsV g m).length := by unfold runB; rw [List.length_map]
      obtain ⟨L, hL⟩ : ∃ L, L = runsV g m := ⟨_, rfl⟩
      rw [← hL] at C hlen HX1 HX2 hla hlb
      have HL0 : Hid (L.drop 0 = runsG g m (m - 0) 0) := Lib.hid (by rw [hL]; rfl)
      obtain ⟨N, hN⟩ : ∃ N, N = L.length := ⟨_, rfl⟩
      rw [← hN] at hlen HX1 HX2 hla hlb
      have HN := Lib.hid hN
      have HLA := Lib.hid (⟨hla, hlb⟩ : (runA L).length = N ∧ (runB L).length = N)
      have HB2 := Lib.hid (HB1.out.trans (HL.out.b.mono HB1.out.size))
      have HI := Lib.hid hI
      have hlt1 : ¬ (m : Int) < (m : Int) := by omega
      have hguard : ¬ (m : Int) < (n : Int) ∨ (m : Int) < (n : Int) ∧ ¬ (m : Int) < 320 := by have := HM.out; omega
      clear hL hN hla hlb hI HL hci hcx hlt hi
      have hni : (m : Int) ≤ (n : Int) := by have := HM.out; omega
      rcases hguard with hg1 | ⟨hg1, hg2⟩
      · go_wp2_with fail
        refine C.mono ?_
        rintro e w3 ⟨v1, v2, rfl, h1, h2⟩
        obtain ⟨p1, c1, rfl, r1, -⟩ := h1.rs
        obtain ⟨p2, c2, rfl, r2, -⟩ := h2.rs
        rw [HLA.out.1] at r1 ⊢
        rw [HLA.out.2] at r2 ⊢
        have HI3 := Lib.hid (HI.out.below h1.b)
        have HB3 := Lib.hid (HB2.out.trans (h1.b.mono HB2.out.size))
        have HS1 := Lib.hid (HX1.out _ _ _ r1)
        have HS2 := Lib.hid (HX2.out _ _ _ r2)
        clear C h1 h2 r1 r2 HX1 HX2 HI HLA HB2 hg1 hlt1 hni
        go_wp2_with fail
        go_loopw [8, 9] (fun u8 u9 wr => ∃ (i' a : Nat) (v : Value), v = u8 ∧ u9 = .int .i64 (i' : Int) ∧ i' ≤ N ∧ a ≤ m ∧ Hid (L.drop i' = runsG g m (m - a) a) ∧ Hid (LS 3 1 w3.heap.size w3 ((firstI g a).map encI) v wr)) (fun _ u _ => N - (intOf u).toNat)
        case atStart => exact ⟨0, 0, _, rfl, rfl, Nat.zero_le _, Nat.zero_le _, HL0, Lib.hid (LS.nil (Below.refl _ _) (Nat.le_refl _))⟩
        case round =>
          clear HL0
          obtain ⟨i, a, v, rfl, rfl, hi, ham, HDR, HL⟩ := hrel
          obtain ⟨q, cq, rfl, hq, -, -⟩ := LS.low HG.out HL.out
          have HIS := Lib.hid hq
          clear hq
          have ham2 : (a : Int) ≤ (m : Int) := by omega
          by_cases hlt : i < N
          · have hlti : (i : Int) < (N : Int) := by omega
            have hwi : IntKind.i64.wrap ((i : Int) + 1) = ((i + 1 : Nat) : Int) := by rw [IntWalk.i64_in _ (by omega)]; rfl
            have HRS := Lib.hid (⟨HS1.out.below HL.out.b, HS2.out.below HL.out.b⟩ : IS p1 N c1 _ wr ∧ IS p2 N c2 _ wr)
            obtain ⟨a1, rfl⟩ : ∃ a, p1 = some a := by
              cases p1 with
              | none => have := (HS1.out.nil_ rfl).1; omega
              | some a => exact ⟨a, rfl⟩
            obtain ⟨a2, rfl⟩ : ∃ a, p2 = some a := by
              cases p2 with
              | none => have := (HS2.out.nil_ rfl).1; omega
              | some a => exact ⟨a, rfl⟩
            have hiL : i < L.length := by rw [← HN.out]; exact hlt
            have cs := HRS.out.1.cell a1 rfl i hlt
            have cy := HRS.out.2.cell a2 rfl i hlt
            rw [getD_map_ _ _ i hiL] at cs cy
            have hlat : a < m := by
              rcases Nat.lt_or_ge a m with h | h
              · exact h
              · have h0 := HDR.out
                rw [runsG_end (show ¬ a < m by omega)] at h0
                have := congrArg List.length h0
                rw [List.length_drop] at this
                simp at this; omega
            have hd0 := HDR.out
            rw [show m - a = m - a - 1 + 1 by omega, runsG_one hlat] at hd0
            have hpos := runV_pos g m a
            have hrin := @runV_in g m a hlat
            rw [runsG_more g m (m - a - 1) (m - (a + (runV g m a).2)) _ (by omega) (by omega)] at hd0
            have hcase := runV_case g m a hlat
            obtain ⟨hget, hdn⟩ := drop_next2 hd0
            rw [List.getElem?_eq_getElem hiL] at hget
            have hget2 := Option.some.inj hget
            rw [hget2] at cs cy
            clear hd0 hget2 hget hiL
            rcases hcase with ⟨t, e, ht1, ht2, ht3, hall⟩ | ⟨t, e, ht1, ht2, ht3, hall⟩ | ⟨t, e, ha0, hprev, ht1, ht2, ht3, hall⟩ | e
            · rw [e] at cs cy hdn
              dsimp only at cs cy hdn
              have HDN := Lib.hid hdn
              have HX := Lib.hid (⟨hlt, ht3, hm3⟩ : i < N ∧ a + t ≤ m ∧ m ≤ 320)
              have HV := Lib.hid hall
              clear hdn hpos hrin e hlat hlt
              have hy1 : ¬ ((t - 11 : Nat) : Int) < 0 := by omega
              have hy2 : ¬ ((t - 11 : Nat) : Int) > 127 := by omega
              have hwn : IntKind.i64.wrap (11 + ((t - 11 : Nat) : Int)) = (t : Int) := by rw [IntWalk.i64_in _ (by omega)]; omega
              have hwn2 : (11 : Int) + ((t - 11 : Nat) : Int) = (t : Int) := by omega
              clear HIS HRS
              go_wp2_with fail
              have HW0 := Lib.hid HL.out
              clear HL
              go_loopw [8, 12] (fun o8 o12 wk => ∃ (j : Nat) (v : Value), v = o8 ∧ o12 = .int .i64 (j : Int) ∧ j ≤ t ∧ Hid (LS 3 1 w3.heap.size w3 ((firstI g (a + j)).map encI) v wk)) (fun _ u _ => t - (intOf u).toNat)
              case atStart => exact ⟨0, _, rfl, rfl, Nat.zero_le _, HW0⟩
              case round =>
                obtain ⟨j, v, rfl, rfl, hj, HJ⟩ := hrel
                clear HW0
                by_cases hjt : j < t
                · have hjti : (j : Int) < (t : Int) := by omega
                  have hwj : IntKind.i64.wrap ((j : Int) + 1) = ((j + 1 : Nat) : Int) := by have := HX.out; rw [IntWalk.i64_in _ (by omega)]; rfl
                  have HJN : Hid (((firstI g (a + j)).map encI).length ≤ 999999999999) := Lib.hid (by rw [List.length_map, firstI_len]; have := HX.out; omega)
                  have HST : Hid ((firstI g (a + (j + 1))).map encI = (firstI g (a + j)).map encI ++ [encI 0]) := Lib.hid (by
                    have e : g (a + j) = 0 := HV.out j hjt
                    rw [← e, show a + (j + 1) = a + j + 1 by omega, firstI_next, List.map_append]; rfl)
                  have HJT := Lib.hid hjt
                  clear hjt
                  go_wp2_with (at_builtin; refine wpList_oneI rfl (.tmp 153) (.tmp 155) 31 rfl rfl rfl HJ.out (0) rfl HJN.out ?_; intro v9 w9 h9 _; have H9 : Hid (LS 3 1 w3.heap.size w3 ((firstI g (a + (j + 1))).map encI) v9 w9) := Lib.hid (by rw [HST.out]; exact h9); clear h9)
                  exact ⟨⟨j + 1, _, rfl, by go_num, by have := HJT.out; omega, H9⟩, by simp only [intOf]; have := HJT.out; omega⟩
                · obtain rfl : t = j := by omega
                  have hjti : ¬ (t : Int) < (t : Int) := by omega
                  go_wp2_with fail
                  exact ⟨⟨i + 1, a + t, _, rfl, by go_num, by have := HX.out; omega, by have := HX.out; omega, HDN, HJ⟩, by simp only [intOf]; have := HX.out; omega⟩
            · rw [e] at cs cy hdn
              dsimp only at cs cy hdn
              have HDN := Lib.hid hdn
              have HX := Lib.hid (⟨hlt, ht3, hm3⟩ : i < N ∧ a + t ≤ m ∧ m ≤ 320)
              have HV := Lib.hid hall
              clear hdn hpos hrin e hlat hlt
              have hy1 : ¬ ((t - 3 : Nat) : Int) < 0 := by omega
              have hy2 : ¬ ((t - 3 : Nat) : Int) > 7 := by omega
              have hwn : IntKind.i64.wrap (3 + ((t - 3 : Nat) : Int)) = (t : Int) := by rw [IntWalk.i64_in _ (by omega)]; omega
              have hwn2 : (3 : Int) + ((t - 3 : Nat) : Int) = (t : Int) := by omega
              clear HIS HRS
              go_wp2_with fail
              have HW0 := Lib.hid HL.out
              clear HL
              go_loopw [8, 12] (fun o8 o12 wk => ∃ (j : Nat) (v : Value), v = o8 ∧ o12 = .int .i64 (j : Int) ∧ j ≤ t ∧ Hid (LS 3 1 w3.heap.size w3 ((firstI g (a + j)).map encI) v wk)) (fun _ u _ => t - (intOf u).toNat)
              case atStart => exact ⟨0, _, rfl, rfl, Nat.zero_le _, HW0⟩
              case round =>
                obtain ⟨j, v, rfl, rfl, hj, HJ⟩ := hrel
                clear HW0
                by_cases hjt : j < t
                · have hjti : (j : Int) < (t : Int) := by omega
                  have hwj : IntKind.i64.wrap ((j : Int) + 1) = ((j + 1 : Nat) : Int) := by have := HX.out; rw [IntWalk.i64_in _ (by omega)]; rfl
                  have HJN : Hid (((firstI g (a + j)).map encI).length ≤ 999999999999) := Lib.hid (by rw [List.length_map, firstI_len]; have := HX.out; omega)
                  have HST : Hid ((firstI g (a + (j + 1))).map encI = (firstI g (a + j)).map encI ++ [encI 0]) := Lib.hid (by
                    have e : g (a + j) = 0 := HV.out j hjt
                    rw [← e, show a + (j + 1) = a + j + 1 by omega, firstI_next, List.map_append]; rfl)
                  have HJT := Lib.hid hjt
                  clear hjt
                  go_wp2_with (at_builtin; refine wpList_oneI rfl (.tmp 153) (.tmp 155) 31 rfl rfl rfl HJ.out (0) rfl HJN.out ?_; intro v9 w9 h9 _; have H9 : Hid (LS 3 1 w3.heap.size w3 ((firstI g (a + (j + 1))).map encI) v9 w9) := Lib.hid (by rw [HST.out]; exact h9); clear h9)
                  exact ⟨⟨j + 1, _, rfl, by go_num, by have := HJT.out; omega, H9⟩, by simp only [intOf]; have := HJT.out; omega⟩
                · obtain rfl : t = j := by omega
                  have hjti : ¬ (t : Int) < (t : Int) := by omega
                  go_wp2_with fail
                  exact ⟨⟨i + 1, a + t, _, rfl, by go_num, by have := HX.out; omega, by have := HX.out; omega, HDN, HJ⟩, by simp only [intOf]; have := HX.out; omega⟩
            · rw [e] at cs cy hdn
              dsimp only at cs cy hdn
              have HDN := Lib.hid hdn
              have HX := Lib.hid (⟨hlt, ht3, hm3⟩ : i < N ∧ a + t ≤ m ∧ m ≤ 320)
              have HV := Lib.hid hall
              clear hdn hpos hrin e hlat hlt
              have hs1 : ((16 : Int) == 16) = true := rfl
              have hy1 : ¬ ((t - 3 : Nat) : Int) < 0 := by omega
              have hy2 : ¬ ((t - 3 : Nat) : Int) > 3 := by omega
              have hwn : IntKind.i64.wrap (3 + ((t - 3 : Nat) : Int)) = (t : Int) := by rw [IntWalk.i64_in _ (by omega)]; omega
              have hwn2 : (3 : Int) + ((t - 3 : Nat) : Int) = (t : Int) := by omega
              have ha1 : IntKind.i64.wrap ((a : Int) - 1) = ((a - 1 : Nat) : Int) := by rw [IntWalk.i64_in _ (by omega)]; omega
              have ha2 : ((a - 1 : Nat) : Int) < (a : Int) := by omega
              have ha3 : ((a : Int) == 0) = false := beq_eq_false_iff_ne.2 (by omega)
              have ha4 : ¬ (a : Int) = 0 := by omega
              obtain ⟨aq, rfl⟩ : ∃ aq, q = some aq := by
                cases q with
                | none => have := (HIS.out.nil_ rfl).1; omega
                | some b => exact ⟨b, rfl⟩
              have cl : wr.cell? (aq.add (a - 1)) = some (.int .i64 (g (a - 1))) := HIS.out.cell aq rfl (a - 1) (by omega)
              rw [hprev] at cl
              clear HIS HRS
              go_wp2_with fail
              have HW0 := Lib.hid HL.out
              clear HL
              go_loopw [8, 12] (fun o8 o12 wk => ∃ (j : Nat) (v : Value), v = o8 ∧ o12 = .int .i64 (j : Int) ∧ j ≤ t ∧ Hid (LS 3 1 w3.heap.size w3 ((firstI g (a + j)).map encI) v wk)) (fun _ u _ => t - (intOf u).toNat)
              case atStart => exact ⟨0, _, rfl, rfl, Nat.zero_le _, HW0⟩
              case round =>
                obtain ⟨j, v, rfl, rfl, hj, HJ⟩ := hrel
                clear HW0
                by_cases hjt : j < t
                · have hjti : (j : Int) < (t : Int) := by omega
                  have hwj : IntKind.i64.wrap ((j : Int) + 1) = ((j + 1 : Nat) : Int) := by have := HX.out; rw [IntWalk.i64_in _ (by omega)]; rfl
                  have HJN : Hid (((firstI g (a + j)).map encI).length ≤ 999999999999) := Lib.hid (by rw [List.length_map, firstI_len]; have := HX.out; omega)
                  have HST : Hid ((firstI g (a + (j + 1))).map encI = (firstI g (a + j)).map encI ++ [encI (g a)]) := Lib.hid (by
                    have e : g (a + j) = (g a) := HV.out j hjt
                    rw [← e, show a + (j + 1) = a + j + 1 by omega, firstI_next, List.map_append]; rfl)
                  have HJT := Lib.hid hjt
                  clear hjt
                  go_wp2_with (at_builtin; refine wpList_oneI rfl (.tmp 153) (.tmp 155) 31 rfl rfl rfl HJ.out ((g a)) rfl HJN.out ?_; intro v9 w9 h9 _; have H9 : Hid (LS 3 1 w3.heap.size w3 ((firstI g (a + (j + 1))).map encI) v9 w9) := Lib.hid (by rw [HST.out]; exact h9); clear h9)
                  exact ⟨⟨j + 1, _, rfl, by go_num, by have := HJT.out; omega, H9⟩, by simp only [intOf]; have := HJT.out; omega⟩
                · obtain rfl : t = j := by omega
                  have hjti : ¬ (t : Int) < (t : Int) := by omega
                  go_wp2_with fail
                  exact ⟨⟨i + 1, a + t, _, rfl, by go_num, by have := HX.out; omega, by have := HX.out; omega, HDN, HJ⟩, by simp only [intOf]; have := HX.out; omega⟩
            · rw [e] at cs cy hdn
              dsimp only at cs cy hdn
              have HDN := Lib.hid hdn
              have HX := Lib.hid (⟨hlt, (by omega), hm3⟩ : i < N ∧ a + 1 ≤ m ∧ m ≤ 320)
              clear hdn hpos hrin e hlat hlt
              have hg := HG.out a
              obtain ⟨z, hz⟩ : ∃ z, z = g a := ⟨_, rfl⟩
              rw [← hz] at cs hg
              have h16 : (z == 16) = false := beq_eq_false_iff_ne.2 (by omega)
              have h17 : (z == 17) = false := beq_eq_false_iff_ne.2 (by omega)
              have h18 : (z == 18) = false := beq_eq_false_iff_ne.2 (by omega)
              have hz1 : ¬ z < 0 := by omega
              have hz2 : ¬ z > 15 := by omega
              have HV : Hid (∀ j, j < 1 → g (a + j) = z) := Lib.hid fun j hj => by rw [show j = 0 by omega, Nat.add_zero, hz]
              clear hz
              clear HIS HRS
              go_wp2_with fail
              have HW0 := Lib.hid HL.out
              clear HL
              go_loopw [8, 12] (fun o8 o12 wk => ∃ (j : Nat) (v : Value), v = o8 ∧ o12 = .int .i64 (j : Int) ∧ j ≤ 1 ∧ Hid (LS 3 1 w3.heap.size w3 ((firstI g (a + j)).map encI) v wk)) (fun _ u _ => 1 - (intOf u).toNat)
              case atStart => exact ⟨0, _, rfl, rfl, Nat.zero_le _, HW0⟩
              case round =>
                obtain ⟨j, v, rfl, rfl, hj, HJ⟩ := hrel
                clear HW0
                by_cases hjt : j < 1
                · have hjti : (j : Int) < (1 : Int) := by omega
                  have hwj : IntKind.i64.wrap ((j : Int) + 1) = ((j + 1 : Nat) : Int) := by have := HX.out; rw [IntWalk.i64_in _ (by omega)]; rfl
                  have HJN : Hid (((firstI g (a + j)).map encI).length ≤ 999999999999) := Lib.hid (by rw [List.length_map, firstI_len]; have := HX.out; omega)
                  have HST : Hid ((firstI g (a + (j + 1))).map encI = (firstI g (a + j)).map encI ++ [encI z]) := Lib.hid (by
                    have e : g (a + j) = z := HV.out j hjt
                    rw [← e, show a + (j + 1) = a + j + 1 by omega, firstI_next, List.map_append]; rfl)
                  have HJT := Lib.hid hjt
                  clear hjt
                  go_wp2_with (at_builtin; refine wpList_oneI rfl (.tmp 153) (.tmp 155) 31 rfl rfl rfl HJ.out (z) rfl HJN.out ?_; intro v9 w9 h9 _; have H9 : Hid (LS 3 1 w3.heap.size w3 ((firstI g (a + (j + 1))).map encI) v9 w9) := Lib.hid (by rw [HST.out]; exact h9); clear h9)
                  exact ⟨⟨j + 1, _, rfl, by go_num, by have := HJT.out; omega, H9⟩, by simp only [intOf]; have := HJT.out; omega⟩
                · obtain rfl : 1 = j := by omega
                  have hjti : ¬ (1 : Int) < (1 : Int) := by omega
                  go_wp2_with fail
                  exact ⟨⟨i + 1, a + 1, _, rfl, by go_num, by have := HX.out; omega, by have := HX.out; omega, HDN, HJ⟩, by simp only [intOf]; have := HX.out; omega⟩
          · obtain rfl : i = N := by omega
            have hlti : ¬ (i : Int) < (i : Int) := by omega
            have hend : a = m := runsG_nil (by rw [← HDR.out, List.drop_eq_nil_of_le (by rw [← HN.out]; exact Nat.le_refl _)]) ham
            subst hend
            have C2 := numbers11_same q pi a cq ci g g wr HIS.out (HI3.out.below HL.out.b) (fun _ _ => rfl) (by omega)
            have HBF := Lib.hid (HB3.out.trans (HL.out.b.mono HB3.out.size))
            clear HS1 HS2 HI3 HL HDR HIS HN
            go_wp2_with fail
            refine C2.mono ?_
            rintro e w5 ⟨rfl, n5, rfl⟩
            go_wp2_with fail
            go_ret
            exact ⟨rfl, belowN HBF.out _⟩
      · go_wp2_with fail
        refine C.mono ?_
        rintro e w3 ⟨v1, v2, rfl, h1, h2⟩
        obtain ⟨p1, c1, rfl, r1, -⟩ := h1.rs
        obtain ⟨p2, c2, rfl, r2, -⟩ := h2.rs
        rw [HLA.out.1] at r1 ⊢
        rw [HLA.out.2] at r2 ⊢
        have HI3 := Lib.hid (HI.out.below h1.b)
        have HB3 := Lib.hid (HB2.out.trans (h1.b.mono HB2.out.size))
        have HS1 := Lib.hid (HX1.out _ _ _ r1)
        have HS2 := Lib.hid (HX2.out _ _ _ r2)
        clear C h1 h2 r1 r2 HX1 HX2 HI HLA HB2 hg1 hg2 hlt1 hni
        go_wp2_with fail
        go_loopw [8, 9] (fun u8 u9 wr => ∃ (i' a : Nat) (v : Value), v = u8 ∧ u9 = .int .i64 (i' : Int) ∧ i' ≤ N ∧ a ≤ m ∧ Hid (L.drop i' = runsG g m (m - a) a) ∧ Hid (LS 3 1 w3.heap.size w3 ((firstI g a).map encI) v wr)) (fun _ u _ => N - (intOf u).toNat)
        case atStart => exact ⟨0, 0, _, rfl, rfl, Nat.zero_le _, Nat.zero_le _, HL0, Lib.hid (LS.nil (Below.refl _ _) (Nat.le_refl _))⟩
        case round =>
          clear HL0
          obtain ⟨i, a, v, rfl, rfl, hi, ham, HDR, HL⟩ := hrel
          obtain ⟨q, cq, rfl, hq, -, -⟩ := LS.low HG.out HL.out
          have HIS := Lib.hid hq
          clear hq
          have ham2 : (a : Int) ≤ (m : Int) := by omega
          by_cases hlt : i < N
          · have hlti : (i : Int) < (N : Int) := by omega
            have hwi : IntKind.i64.wrap ((i : Int) + 1) = ((i + 1 : Nat) : Int) := by rw [IntWalk.i64_in _ (by omega)]; rfl
            have HRS := Lib.hid (⟨HS1.out.below HL.out.b, HS2.out.below HL.out.b⟩ : IS p1 N c1 _ wr ∧ IS p2 N c2 _ wr)
            obtain ⟨a1, rfl⟩ : ∃ a, p1 = some a := by
              cases p1 with
              | none => have := (HS1.out.nil_ rfl).1; omega
              | some a => exact ⟨a, rfl⟩
            obtain ⟨a2, rfl⟩ : ∃ a, p2 = some a := by
              cases p2 with
              | none => have := (HS2.out.nil_ rfl).1; omega
              | some a => exact ⟨a, rfl⟩
            have hiL : i < L.length := by rw [← HN.out]; exact hlt
            have cs := HRS.out.1.cell a1 rfl i hlt
            have cy := HRS.out.2.cell a2 rfl i hlt
            rw [getD_map_ _ _ i hiL] at cs cy
            have hlat : a < m := by
              rcases Nat.lt_or_ge a m with h | h
              · exact h
              · have h0 := HDR.out
                rw [runsG_end (show ¬ a < m by omega)] at h0
                have := congrArg List.length h0
                rw [List.length_drop] at this
                simp at this; omega
            have hd0 := HDR.out
            rw [show m - a = m - a - 1 + 1 by omega, runsG_one hlat] at hd0
            have hpos := runV_pos g m a
            have hrin := @runV_in g m a hlat
            rw [runsG_more g m (m - a - 1) (m - (a + (runV g m a).2)) _ (by omega) (by omega)] at hd0
            have hcase := runV_case g m a hlat
            obtain ⟨hget, hdn⟩ := drop_next2 hd0
            rw [List.getElem?_eq_getElem hiL] at hget
            have hget2 := Option.some.inj hget
            rw [hget2] at cs cy
            clear hd0 hget2 hget hiL
            rcases hcase with ⟨t, e, ht1, ht2, ht3, hall⟩ | ⟨t, e, ht1, ht2, ht3, hall⟩ | ⟨t, e, ha0, hprev, ht1, ht2, ht3, hall⟩ | e
            · rw [e] at cs cy hdn
              dsimp only at cs cy hdn
              have HDN := Lib.hid hdn
              have HX := Lib.hid (⟨hlt, ht3, hm3⟩ : i < N ∧ a + t ≤ m ∧ m ≤ 320)
              have HV := Lib.hid hall
              clear hdn hpos hrin e hlat hlt
              have hy1 : ¬ ((t - 11 : Nat) : Int) < 0 := by omega
              have hy2 : ¬ ((t - 11 : Nat) : Int) > 127 := by omega
              have hwn : IntKind.i64.wrap (11 + ((t - 11 : Nat) : Int)) = (t : Int) := by rw [IntWalk.i64_in _ (by omega)]; omega
              have hwn2 : (11 : Int) + ((t - 11 : Nat) : Int) = (t : Int) := by omega
              clear HIS HRS
              go_wp2_with fail
              have HW0 := Lib.hid HL.out
              clear HL
              go_loopw [8, 12] (fun o8 o12 wk => ∃ (j : Nat) (v : Value), v = o8 ∧ o12 = .int .i64 (j : Int) ∧ j ≤ t ∧ Hid (LS 3 1 w3.heap.size w3 ((firstI g (a + j)).map encI) v wk)) (fun _ u _ => t - (intOf u).toNat)
              case atStart => exact ⟨0, _, rfl, rfl, Nat.zero_le _, HW0⟩
              case round =>
                obtain ⟨j, v, rfl, rfl, hj, HJ⟩ := hrel
                clear HW0
                by_cases hjt : j < t
                · have hjti : (j : Int) < (t : Int) := by omega
                  have hwj : IntKind.i64.wrap ((j : Int) + 1) = ((j + 1 : Nat) : Int) := by have := HX.out; rw [IntWalk.i64_in _ (by omega)]; rfl
                  have HJN : Hid (((firstI g (a + j)).map encI).length ≤ 999999999999) := Lib.hid (by rw [List.length_map, firstI_len]; have := HX.out; omega)
                  have HST : Hid ((firstI g (a + (j + 1))).map encI = (firstI g (a + j)).map encI ++ [encI 0]) := Lib.hid (by
                    have e : g (a + j) = 0 := HV.out j hjt
                    rw [← e, show a + (j + 1) = a + j + 1 by omega, firstI_next, List.map_append]; rfl)
                  have HJT := Lib.hid hjt
                  clear hjt
                  go_wp2_with (at_builtin; refine wpList_oneI rfl (.tmp 153) (.tmp 155) 31 rfl rfl rfl HJ.out (0) rfl HJN.out ?_; intro v9 w9 h9 _; have H9 : Hid (LS 3 1 w3.heap.size w3 ((firstI g (a + (j + 1))).map encI) v9 w9) := Lib.hid (by rw [HST.out]; exact h9); clear h9)
                  exact ⟨⟨j + 1, _, rfl, by go_num, by have := HJT.out; omega, H9⟩, by simp only [intOf]; have := HJT.out; omega⟩
                · obtain rfl : t = j := by omega
                  have hjti : ¬ (t : Int) < (t : Int) := by omega
                  go_wp2_with fail
                  exact ⟨⟨i + 1, a + t, _, rfl, by go_num, by have := HX.out; omega, by have := HX.out; omega, HDN, HJ⟩, by simp only [intOf]; have := HX.out; omega⟩
            · rw [e] at cs cy hdn
              dsimp only at cs cy hdn
              have HDN := Lib.hid hdn
              have HX := Lib.hid (⟨hlt, ht3, hm3⟩ : i < N ∧ a + t ≤ m ∧ m ≤ 320)
              have HV := Lib.hid hall
              clear hdn hpos hrin e hlat hlt
              have hy1 : ¬ ((t - 3 : Nat) : Int) < 0 := by omega
              have hy2 : ¬ ((t - 3 : Nat) : Int) > 7 := by omega
              have hwn : IntKind.i64.wrap (3 + ((t - 3 : Nat) : Int)) = (t : Int) := by rw [IntWalk.i64_in _ (by omega)]; omega
              have hwn2 : (3 : Int) + ((t - 3 : Nat) : Int) = (t : Int) := by omega
              clear HIS HRS
              go_wp2_with fail
              have HW0 := Lib.hid HL.out
              clear HL
              go_loopw [8, 12] (fun o8 o12 wk => ∃ (j : Nat) (v : Value), v = o8 ∧ o12 = .int .i64 (j : Int) ∧ j ≤ t ∧ Hid (LS 3 1 w3.heap.size w3 ((firstI g (a + j)).map encI) v wk)) (fun _ u _ => t - (intOf u).toNat)
              case atStart => exact ⟨0, _, rfl, rfl, Nat.zero_le _, HW0⟩
              case round =>
                obtain ⟨j, v, rfl, rfl, hj, HJ⟩ := hrel
                clear HW0
                by_cases hjt : j < t
                · have hjti : (j : Int) < (t : Int) := by omega
                  have hwj : IntKind.i64.wrap ((j : Int) + 1) = ((j + 1 : Nat) : Int) := by have := HX.out; rw [IntWalk.i64_in _ (by omega)]; rfl
                  have HJN : Hid (((firstI g (a + j)).map encI).length ≤ 999999999999) := Lib.hid (by rw [List.length_map, firstI_len]; have := HX.out; omega)
                  have HST : Hid ((firstI g (a + (j + 1))).map encI = (firstI g (a + j)).map encI ++ [encI 0]) := Lib.hid (by
                    have e : g (a + j) = 0 := HV.out j hjt
                    rw [← e, show a + (j + 1) = a + j + 1 by omega, firstI_next, List.map_append]; rfl)
                  have HJT := Lib.hid hjt
                  clear hjt
                  go_wp2_with (at_builtin; refine wpList_oneI rfl (.tmp 153) (.tmp 155) 31 rfl rfl rfl HJ.out (0) rfl HJN.out ?_; intro v9 w9 h9 _; have H9 : Hid (LS 3 1 w3.heap.size w3 ((firstI g (a + (j + 1))).map encI) v9 w9) := Lib.hid (by rw [HST.out]; exact h9); clear h9)
                  exact ⟨⟨j + 1, _, rfl, by go_num, by have := HJT.out; omega, H9⟩, by simp only [intOf]; have := HJT.out; omega⟩
                · obtain rfl : t = j := by omega
                  have hjti : ¬ (t : Int) < (t : Int) := by omega
                  go_wp2_with fail
                  exact ⟨⟨i + 1, a + t, _, rfl, by go_num, by have := HX.out; omega, by have := HX.out; omega, HDN, HJ⟩, by simp only [intOf]; have := HX.out; omega⟩
            · rw [e] at cs cy hdn
              dsimp only at cs cy hdn
              have HDN := Lib.hid hdn
              have HX := Lib.hid (⟨hlt, ht3, hm3⟩ : i < N ∧ a + t ≤ m ∧ m ≤ 320)
              have HV := Lib.hid hall
              clear hdn hpos hrin e hlat hlt
              have hs1 : ((16 : Int) == 16) = true := rfl
              have hy1 : ¬ ((t - 3 : Nat) : Int) < 0 := by omega
              have hy2 : ¬ ((t - 3 : Nat) : Int) > 3 := by omega
              have hwn : IntKind.i64.wrap (3 + ((t - 3 : Nat) : Int)) = (t : Int) := by rw [IntWalk.i64_in _ (by omega)]; omega
              have hwn2 : (3 : Int) + ((t - 3 : Nat) : Int) = (t : Int) := by omega
              have ha1 : IntKind.i64.wrap ((a : Int) - 1) = ((a - 1 : Nat) : Int) := by rw [IntWalk.i64_in _ (by omega)]; omega
              have ha2 : ((a - 1 : Nat) : Int) < (a : Int) := by omega
              have ha3 : ((a : Int) == 0) = false := beq_eq_false_iff_ne.2 (by omega)
              have ha4 : ¬ (a : Int) = 0 := by omega
              obtain ⟨aq, rfl⟩ : ∃ aq, q = some aq := by
                cases q with
                | none => have := (HIS.out.nil_ rfl).1; omega
                | some b => exact ⟨b, rfl⟩
              have cl : wr.cell? (aq.add (a - 1)) = some (.int .i64 (g (a - 1))) := HIS.out.cell aq rfl (a - 1) (by omega)
              rw [hprev] at cl
              clear HIS HRS
              go_wp2_with fail
              have HW0 := Lib.hid HL.out
              clear HL
              go_loopw [8, 12] (fun o8 o12 wk => ∃ (j : Nat) (v : Value), v = o8 ∧ o12 = .int .i64 (j : Int) ∧ j ≤ t ∧ Hid (LS 3 1 w3.heap.size w3 ((firstI g (a + j)).map encI) v wk)) (fun _ u _ => t - (intOf u).toNat)
              case atStart => exact ⟨0, _, rfl, rfl, Nat.zero_le _, HW0⟩
              case round =>
                obtain ⟨j, v, rfl, rfl, hj, HJ⟩ := hrel
                clear HW0
                by_cases hjt : j < t
                · have hjti : (j : Int) < (t : Int) := by omega
                  have hwj : IntKind.i64.wrap ((j : Int) + 1) = ((j + 1 : Nat) : Int) := by have := HX.out; rw [IntWalk.i64_in _ (by omega)]; rfl
                  have HJN : Hid (((firstI g (a + j)).map encI).length ≤ 999999999999) := Lib.hid (by rw [List.length_map, firstI_len]; have := HX.out; omega)
                  have HST : Hid ((firstI g (a + (j + 1))).map encI = (firstI g (a + j)).map encI ++ [encI (g a)]) := Lib.hid (by
                    have e : g (a + j) = (g a) := HV.out j hjt
                    rw [← e, show a + (j + 1) = a + j + 1 by omega, firstI_next, List.map_append]; rfl)
                  have HJT := Lib.hid hjt
                  clear hjt
                  go_wp2_with (at_builtin; refine wpList_oneI rfl (.tmp 153) (.tmp 155) 31 rfl rfl rfl HJ.out ((g a)) rfl HJN.out ?_; intro v9 w9 h9 _; have H9 : Hid (LS 3 1 w3.heap.size w3 ((firstI g (a + (j + 1))).map encI) v9 w9) := Lib.hid (by rw [HST.out]; exact h9); clear h9)
                  exact ⟨⟨j + 1, _, rfl, by go_num, by have := HJT.out; omega, H9⟩, by simp only [intOf]; have := HJT.out; omega⟩
                · obtain rfl : t = j := by omega
                  have hjti : ¬ (t : Int) < (t : Int) := by omega
                  go_wp2_with fail
                  exact ⟨⟨i + 1, a + t, _, rfl, by go_num, by have := HX.out; omega, by have := HX.out; omega, HDN, HJ⟩, by simp only [intOf]; have := HX.out; omega⟩
            · rw [e] at cs cy hdn
              dsimp only at cs cy hdn
              have HDN := Lib.hid hdn
              have HX := Lib.hid (⟨hlt, (by omega), hm3⟩ : i < N ∧ a + 1 ≤ m ∧ m ≤ 320)
              clear hdn hpos hrin e hlat hlt
              have hg := HG.out a
              obtain ⟨z, hz⟩ : ∃ z, z = g a := ⟨_, rfl⟩
              rw [← hz] at cs hg
              have h16 : (z == 16) = false := beq_eq_false_iff_ne.2 (by omega)
              have h17 : (z == 17) = false := beq_eq_false_iff_ne.2 (by omega)
              have h18 : (z == 18) = false := beq_eq_false_iff_ne.2 (by omega)
              have hz1 : ¬ z < 0 := by omega
              have hz2 : ¬ z > 15 := by omega
              have HV : Hid (∀ j, j < 1 → g (a + j) = z) := Lib.hid fun j hj => by rw [show j = 0 by omega, Nat.add_zero, hz]
              clear hz
              clear HIS HRS
              go_wp2_with fail
              have HW0 := Lib.hid HL.out
              clear HL
              go_loopw [8, 12] (fun o8 o12 wk => ∃ (j : Nat) (v : Value), v = o8 ∧ o12 = .int .i64 (j : Int) ∧ j ≤ 1 ∧ Hid (LS 3 1 w3.heap.size w3 ((firstI g (a + j)).map encI) v wk)) (fun _ u _ => 1 - (intOf u).toNat)
              case atStart => exact ⟨0, _, rfl, rfl, Nat.zero_le _, HW0⟩
              case round =>
                obtain ⟨j, v, rfl, rfl, hj, HJ⟩ := hrel
                clear HW0
                by_cases hjt : j < 1
                · have hjti : (j : Int) < (1 : Int) := by omega
                  have hwj : IntKind.i64.wrap ((j : Int) + 1) = ((j + 1 : Nat) : Int) := by have := HX.out; rw [IntWalk.i64_in _ (by omega)]; rfl
                  have HJN : Hid (((firstI g (a + j)).map encI).length ≤ 999999999999) := Lib.hid (by rw [List.length_map, firstI_len]; have := HX.out; omega)
                  have HST : Hid ((firstI g (a + (j + 1))).map encI = (firstI g (a + j)).map encI ++ [encI z]) := Lib.hid (by
                    have e : g (a + j) = z := HV.out j hjt
                    rw [← e, show a + (j + 1) = a + j + 1 by omega, firstI_next, List.map_append]; rfl)
                  have HJT := Lib.hid hjt
                  clear hjt
                  go_wp2_with (at_builtin; refine wpList_oneI rfl (.tmp 153) (.tmp 155) 31 rfl rfl rfl HJ.out (z) rfl HJN.out ?_; intro v9 w9 h9 _; have H9 : Hid (LS 3 1 w3.heap.size w3 ((firstI g (a + (j + 1))).map encI) v9 w9) := Lib.hid (by rw [HST.out]; exact h9); clear h9)
                  exact ⟨⟨j + 1, _, rfl, by go_num, by have := HJT.out; omega, H9⟩, by simp only [intOf]; have := HJT.out; omega⟩
                · obtain rfl : 1 = j := by omega
                  have hjti : ¬ (1 : Int) < (1 : Int) := by omega
                  go_wp2_with fail
                  exact ⟨⟨i + 1, a + 1, _, rfl, by go_num, by have := HX.out; omega, by have := HX.out; omega, HDN, HJ⟩, by simp only [intOf]; have := HX.out; omega⟩
          · obtain rfl : i = N := by omega
            have hlti : ¬ (i : Int) < (i : Int) := by omega
            have hend : a = m := runsG_nil (by rw [← HDR.out, List.drop_eq_nil_of_le (by rw [← HN.out]; exact Nat.le_refl _)]) ham
            subst hend
            have C2 := numbers11_same q pi a cq ci g g wr HIS.out (HI3.out.below HL.out.b) (fun _ _ => rfl) (by omega)
            have HBF := Lib.hid (HB3.out.trans (HL.out.b.mono HB3.out.size))
            clear HS1 HS2 HI3 HL HDR HIS HN
            go_wp2_with fail
            refine C2.mono ?_
            rintro e w5 ⟨rfl, n5, rfl⟩
            go_wp2_with fail
            go_ret
            exact ⟨rfl, belowN HBF.out _⟩
end Go.Proofs.Ytjdfdiejlmeeoaa
