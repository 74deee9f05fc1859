/- What Open says of a text that is told by the fixed codes, in numbers (InflateFixed). -/
import Derived.Test.YtiphnnaanjjaoaaMW
import Derived.Test.YtiphnnaanjjaoaaMZ
import Derived.SliceStrings
import Derived.OpenShut
import Derived.Laws.BitsAllLaws
import Derived.Test.YtiphnnaanjjaoaaMA
namespace Go.Proofs.Ytiphnnaanjjaoaa
open Go.RowKit
theorem fix_le : ∀ j, j < 288 → fixA.getD j 0 ≤ 15 := by
  have : ∀ j : Fin 288, fixA.getD j.val 0 ≤ 15 := by decide +kernel
  exact fun j hj => this ⟨j, hj⟩
theorem fix_kr : kr (fun i => fixA.getD i 0) 288 ≤ 2 ^ 15 := by decide +kernel
theorem fix_byte {d : Nat} (h : d < 144) : fixA.getD d 0 = 8 ∧ codeN (fun i => fixA.getD i 0) 288 d = 48 + d := by
  have : ∀ j : Fin 144, fixA.getD j.val 0 = 8 ∧ codeN (fun i => fixA.getD i 0) 288 j.val = 48 + j.val := by decide +kernel
  exact this ⟨d, h⟩
theorem fix_stop : fixA.getD 256 0 = 7 ∧ codeN (fun i => fixA.getD i 0) 288 256 = 0 := by decide +kernel
/-- The bits of n bytes so told. -/
def tfB (D : Nat → Nat) (n j : Nat) : Nat := if j < 3 then (if j < 2 then 1 else 0) else if j < 3 + 8 * n then (48 + D ((j - 3) / 8)) / 2 ^ (7 - (j - 3) % 8) % 2 else 0
def firstD (D : Nat → Nat) (n : Nat) : List Nat := (List.range n).map D
theorem firstD_succ (D : Nat → Nat) (n : Nat) : firstD D (n + 1) = firstD D n ++ [D n] := by simp [firstD, List.range_succ]
theorem firstD_len (D : Nat → Nat) (n : Nat) : (firstD D n).length = n := by simp [firstD]
theorem symbols_fixed {B : Nat → Nat} {T n : Nat} {D : Nat → Nat} (hB : ∀ j, j < 8 * n + 10 → B j = tfB D n j) (hT : 8 * n + 10 ≤ T) (hD : ∀ i, i < n → D i < 144) (g : Nat → Nat) (m : Nat) :
    ∀ (t i : Nat), i ≤ n → n - i < t → symbolsS B T n (fun i => fixA.getD i 0) 288 g m t ⟨3 + 8 * i, 0, firstD D i⟩ = ⟨8 * n + 10, 0, firstD D n⟩
  | 0, _, _, h => by omega
  | t + 1, i, hi, ht => by
    have e0 : symbolsS B T n (fun i => fixA.getD i 0) 288 g m (t + 1) ⟨3 + 8 * i, 0, firstD D i⟩ = (let s := symS B T (fun i => fixA.getD i 0) 288 ⟨3 + 8 * i, 0, firstD D i⟩
      if s.2.e ≠ 0 ∨ s.1 = 256 then s.2 else
        if s.1 < 256 then symbolsS B T n (fun i => fixA.getD i 0) 288 g m t (sayS n s.1 s.2) else symbolsS B T n (fun i => fixA.getD i 0) 288 g m t (copiedS B T n s.1 g m s.2)) := if_neg (fun h => h rfl)
    rw [e0]
    by_cases h : i < n
    · have hd := hD i h
      obtain ⟨f1, f2⟩ := fix_byte hd
      have N : nextV (fun i => fixA.getD i 0) 288 B T (3 + 8 * i) 0 15 = (D i, 3 + 8 * i + 8, 0) := by
        have := next_code (fun i => fixA.getD i 0) 288 (D i) B T (3 + 8 * i) fix_le fix_kr (by omega) (by show fixA.getD (D i) 0 ≠ 0; omega) (fun j hj => by
          have hj : j < 8 := by have hj : j < fixA.getD (D i) 0 := hj; omega
          rw [f1, f2, hB _ (by omega)]
          unfold tfB
          rw [if_neg (by omega), if_pos (by omega), show (3 + 8 * i + j - 3) / 8 = i by omega, show (3 + 8 * i + j - 3) % 8 = j by omega, show 8 - 1 - j = 7 - j by omega]) (by show 3 + 8 * i + fixA.getD (D i) 0 ≤ T; omega) 0 15 (by show 0 < fixA.getD (D i) 0; omega) (by show fixA.getD (D i) 0 ≤ 0 + 15; omega)
        rw [f1] at this; exact this
      rw [symS_in (x := ⟨3 + 8 * i, 0, firstD D i⟩) rfl N]
      dsimp only
      rw [if_neg (by rintro (h2 | h2); exact h2 rfl; omega), if_pos (by omega)]
      have hs : sayS n (D i) ⟨3 + 8 * i + 8, 0, firstD D i⟩ = ⟨3 + 8 * (i + 1), 0, firstD D (i + 1)⟩ := by
        unfold sayS
        rw [if_neg (fun h => h rfl), if_neg (by show ¬ (firstD D i).length ≥ n; rw [firstD_len]; omega), firstD_succ]
        rfl
      rw [hs]
      exact symbols_fixed hB hT hD g m t (i + 1) (by omega) (by omega)
    · obtain rfl : i = n := by omega
      obtain ⟨f1, f2⟩ := fix_stop
      have N : nextV (fun i => fixA.getD i 0) 288 B T (3 + 8 * i) 0 15 = (256, 3 + 8 * i + 7, 0) := by
        have := next_code (fun i => fixA.getD i 0) 288 256 B T (3 + 8 * i) fix_le fix_kr (by omega) (by rw [f1]; decide) (fun j hj => by
          rw [f1] at hj
          rw [f2, hB _ (by omega)]
          unfold tfB
          rw [if_neg (by omega), if_neg (by omega), Nat.zero_div]) (by rw [f1]; omega) 0 15 (by rw [f1]; omega) (by rw [f1]; omega)
        rw [f1] at this; exact this
      rw [symS_in (x := ⟨3 + 8 * i, 0, firstD D i⟩) rfl N]
      dsimp only
      rw [if_pos (.inr rfl), show 3 + 8 * i + 7 = 8 * i + 10 by omega]
/-- The whole text. -/
theorem endS_fixed {X : ByteArray} {n : Nat} {D : Nat → Nat} (hX : X.size = n + 3) (hb : ∀ j, j < 8 * n + 10 → bitH X j = tfB D n j) (hD : ∀ i, i < n → D i < 144) : endS X n = ⟨8 * n + 10, 0, firstD D n⟩ := by
  have b0 : bitH X 0 = 1 := hb 0 (by omega)
  have b1 : bitH X 1 = 1 := hb 1 (by omega)
  have b2 : bitH X 2 = 0 := hb 2 (by omega)
  have e1 : bitsS (bitH X) (8 * X.size) 1 ⟨0, 0, []⟩ = (1, ⟨1, 0, []⟩) := by
    rw [bitsS_in rfl (show 0 + 1 ≤ 8 * X.size by omega)]
    show ((0 + bitH X (0 + 0) * 2 ^ 0, _) : Nat × Fl) = _
    rw [Nat.add_zero, b0]
  have e2 : bitsS (bitH X) (8 * X.size) 2 ⟨1, 0, []⟩ = (1, ⟨3, 0, []⟩) := by
    rw [bitsS_in rfl (show 1 + 2 ≤ 8 * X.size by omega)]
    show ((0 + bitH X (1 + 0) * 2 ^ 0 + bitH X (1 + 1) * 2 ^ 1, _) : Nat × Fl) = _
    rw [Nat.add_zero, b1, b2]
  have e3 : codedS (bitH X) (8 * X.size) n fixA fixB ⟨3, 0, []⟩ = ⟨8 * n + 10, 0, firstD D n⟩ := by
    rw [codedS_fix, toL_num]
    exact symbols_fixed hb (by omega) hD _ _ (8 * X.size + 1) 0 (Nat.zero_le _) (by omega)
  have e4 : blockS (bitH X) (8 * X.size) n ⟨0, 0, []⟩ = (true, ⟨8 * n + 10, 0, firstD D n⟩) := by
    unfold blockS
    rw [e1]
    dsimp only
    rw [e2]
    dsimp only
    rw [if_neg (fun h => h rfl), if_neg (by decide), if_pos rfl, e3]
    rfl
  unfold endS
  rw [blocksS_one, e4]
  exact blocksS_last
/-- Fewer bytes. -/
theorem endS_fixed_cut {X Y : ByteArray} {n : Nat} {D : Nat → Nat} (hX : X.size = n + 3) (hb : ∀ j, j < 8 * n + 10 → bitH X j = tfB D n j) (hD : ∀ i, i < n → D i < 144) (hY : Y.size ≤ n + 1) (hj : ∀ j, j < Y.size → byteS Y j = byteS X j) : (endS Y n).e = 2 := by
  refine endS_short (s := X) (by rw [endS_fixed hX hb hD]) ?_ hj
  rw [endS_fixed hX hb hD]
  show 8 * Y.size < 8 * n + 10
  omega
end Go.Proofs.Ytiphnnaanjjaoaa
/- InflateFixed's closure: a number's bits, the highest one first, behind what stands there. -/
namespace Go.Proofs.Ytiphnnaanjjaoaa
open Go.RowKit
theorem vb_add {B B' : Nat → Nat} {a p : Nat} : ∀ (n : Nat), (∀ j, j < n → B' (p + j) = B (p + j) + if p + j = a then 1 else 0) → vb B' p n = vb B p n + if p ≤ a ∧ a < p + n then 2 ^ (a - p) else 0
  | 0, _ => by rw [if_neg (by omega)]; rfl
  | n + 1, h => by
    have ih := vb_add n fun j hj => h j (by omega)
    show vb B' p n + B' (p + n) * 2 ^ n = vb B p n + B (p + n) * 2 ^ n + _
    rw [ih, h n (by omega)]
    by_cases h1 : p + n = a
    · rw [if_neg (by omega), if_pos h1, if_pos (by omega), show a - p = n by omega, Nat.add_mul]; omega
    · rw [if_neg h1, Nat.add_zero]
      by_cases h2 : p ≤ a ∧ a < p + n
      · rw [if_pos h2, if_pos (by omega)]; omega
      · rw [if_neg h2, if_neg (by omega)]; omega
theorem vb_zero {B : Nat → Nat} {p m : Nat} : ∀ (n : Nat), m ≤ n → (∀ j, m ≤ j → j < n → B (p + j) = 0) → vb B p n = vb B p m
  | 0, h, _ => by
    obtain rfl : m = 0 := by omega
    rfl
  | n + 1, h, hz => by
    by_cases e : m = n + 1
    · rw [e]
    · have ih := vb_zero n (by omega) fun j h1 h2 => hz j h1 (by omega)
      show vb B p n + B (p + n) * 2 ^ n = _
      rw [ih, hz n (by omega) (by omega)]; omega
theorem vb_bit {B : Nat → Nat} (hB : ∀ i, B i < 2) (p : Nat) {j : Nat} : ∀ (n : Nat), j < n → vb B p n / 2 ^ j % 2 = B (p + j)
  | 0, h => by omega
  | n + 1, h => by
    show (vb B p n + B (p + n) * 2 ^ n) / 2 ^ j % 2 = _
    by_cases e : j = n
    · subst e
      rw [Nat.add_mul_div_right _ _ (Nat.two_pow_pos j), Nat.div_eq_of_lt (vb_lt hB p j), Nat.zero_add]
      have := hB (p + j); omega
    · have ih := vb_bit hB p n (show j < n by omega)
      have e2 : B (p + n) * 2 ^ n = B (p + n) * 2 ^ (n - j) * 2 ^ j := by rw [Nat.mul_assoc, ← Nat.pow_add]; congr 2; omega
      rw [e2, Nat.add_mul_div_right _ _ (Nat.two_pow_pos j)]
      have e3 : B (p + n) * 2 ^ (n - j) = B (p + n) * 2 ^ (n - j - 1) * 2 := by rw [Nat.mul_assoc, ← Nat.pow_succ]; congr 2; omega
      rw [e3]
      omega
/-- The bits below A; the bytes that they make. -/
def cutF (F : Nat → Nat) (A j : Nat) : Nat := if j < A then F j else 0
def bytF (F : Nat → Nat) (A i : Nat) : Nat := vb (cutF F A) (8 * i) 8
theorem cutF_lt {F : Nat → Nat} (hF : ∀ i, F i < 2) (A i : Nat) : cutF F A i < 2 := by unfold cutF; split; exact hF i; decide
theorem bytF_lt {F : Nat → Nat} (hF : ∀ i, F i < 2) (A i : Nat) : bytF F A i < 256 := vb_lt (cutF_lt hF A) _ 8
theorem bytF_one {F : Nat → Nat} {A : Nat} (h : F A = 1) (i : Nat) : bytF F (A + 1) i = if i = A / 8 then bytF F A i + 2 ^ (A % 8) else bytF F A i := by
  have := vb_add (B := cutF F A) (B' := cutF F (A + 1)) (a := A) (p := 8 * i) 8 fun j hj => by
    unfold cutF
    by_cases h1 : 8 * i + j = A
    · rw [if_pos (by omega), if_neg (by omega), if_pos h1, h1, h]
    · rw [if_neg h1]
      by_cases h2 : 8 * i + j < A
      · rw [if_pos (by omega), if_pos h2]; rfl
      · rw [if_neg (by omega), if_neg h2]
  unfold bytF
  rw [this]
  by_cases h2 : i = A / 8
  · rw [if_pos (by omega), if_pos h2, show A - 8 * i = A % 8 by omega]
  · rw [if_neg (by omega), if_neg h2, Nat.add_zero]
theorem bytF_none {F : Nat → Nat} {A : Nat} (h : F A = 0) (i : Nat) : bytF F (A + 1) i = bytF F A i := by
  have : cutF F (A + 1) = cutF F A := by
    funext j
    unfold cutF
    by_cases h1 : j = A
    · rw [if_pos (by omega), if_neg (by omega), h1, h]
    · by_cases h2 : j < A
      · rw [if_pos (by omega), if_pos h2]
      · rw [if_neg (by omega), if_neg h2]
  unfold bytF; rw [this]
theorem bytF_low {F : Nat → Nat} (hF : ∀ i, F i < 2) (A : Nat) : bytF F A (A / 8) < 2 ^ (A % 8) := by
  unfold bytF
  rw [vb_zero (m := A % 8) 8 (by omega) fun j h1 h2 => by unfold cutF; rw [if_neg (by omega)]]
  exact vb_lt (cutF_lt hF A) _ _
theorem bytF_bit {F : Nat → Nat} (hF : ∀ i, F i < 2) {A i j : Nat} (hj : j < 8) (h : 8 * i + j < A) : bytF F A i / 2 ^ j % 2 = F (8 * i + j) := by
  unfold bytF
  rw [vb_bit (cutF_lt hF A) _ 8 hj]
  unfold cutF; rw [if_pos h]
theorem or_new8 : ∀ r : Fin 8, ∀ x : Fin 256, x.val < 2 ^ r.val → bits .or .u8 (x.val : Int) ((2 ^ r.val : Nat) : Int) = ((x.val + 2 ^ r.val : Nat) : Int) := by decide +kernel
/-- What put has captured: how many bits there are, the bytes. -/
structure PW (F : Nat → Nat) (ba bb z N A : Nat) (w0 w : World) : Prop where
  ka : Blk w ba 3 #[.int .i64 (A : Int)]
  kb : Blk w bb 36 #[.slice (some ⟨z, 0, none⟩) N N]
  kz : Blk w z 5 (row N fun i => .int .u8 (bytF F A i : Int))
  lo : Below w0.heap.size w0 w
  h1 : w0.heap.size ≤ ba
  h2 : w0.heap.size ≤ z
  n1 : ba ≠ bb
  n2 : ba ≠ z
  n3 : bb ≠ z
set_option maxRecDepth 100000 in
set_option maxHeartbeats 8000000 in
theorem put_any (F : Nat → Nat) (hF : ∀ i, F i < 2) (ba bb z N A n k : Nat) (w0 w : World) (h : PW F ba bb z N A w0 w) (hN : N ≤ 200) (hA : A + k ≤ 8 * N) (hk : k ≤ 8) (hn : n < 256) (hf : ∀ j, j < k → F (A + j) = n / 2 ^ (k - 1 - j) % 2) :
    Calls Try.prog 16 #[.int .i64 (n : Int), .int .i64 (k : Int), .pointer (some ⟨ba, 0, none⟩), .pointer (some ⟨bb, 0, none⟩)] w fun e w' => e = .returned (.tuple #[]) ∧ PW F ba bb z N (A + k) w0 w' := by
  have hk1 : IntKind.i64.wrap ((k : Int) - 1) = (k : Int) - 1 := IntWalk.i64_in _ (by omega)
  have HF := Lib.hid hf
  have HFF := Lib.hid hF
  have HKA := Lib.hid hA
  have HKK := Lib.hid hk
  have HNN := Lib.hid hn
  have HN2 := Lib.hid hN
  have H0 := Lib.hid h
  clear hf hF hA hk hn hN h
  go_enter Try.func16, Try.ntmps16
  go_wp2_with fail
  clear hk1
  go_loopw [6] (fun i wr => ∃ j : Nat, j ≤ k ∧ i = .int .i64 ((k : Int) - 1 - (j : Int)) ∧ Hid (PW F ba bb z N (A + j) w0 wr)) (fun i _ => (intOf i + 1).toNat)
  case atStart => exact ⟨0, by omega, by simp, H0⟩
  case round =>
    obtain ⟨j, hj, rfl, HR⟩ := hrel
    clear H0
    by_cases hlt : j < k
    · obtain ⟨t, ht⟩ : ∃ t, t = k - 1 - j := ⟨_, rfl⟩
      have hti : (k : Int) - 1 - (j : Int) = (t : Int) := by omega
      rw [hti]
      have hfj := HF.out j hlt
      have hfl := HFF.out (A + j)
      obtain ⟨B, hB⟩ : ∃ B, B = A + j := ⟨_, rfl⟩
      rw [← hB] at HR hfj hfl
      obtain ⟨Q, hQ⟩ : ∃ Q, Q = B / 8 := ⟨_, rfl⟩
      obtain ⟨R, hR⟩ : ∃ R, R = B % 8 := ⟨_, rfl⟩
      have hKA := HKA.out
      have hKK := HKK.out
      have hNN := HNN.out
      have hN200 := HN2.out
      have hQN : Q < N := by omega
      have hQi : (Q : Int) < (N : Int) := by omega
      have ht0 : (t : Int) ≥ 0 := by omega
      have ht1 : ¬ (t : Int) < 0 := by omega
      have hz1 : (B : Int).tdiv 8 = (Q : Int) := by rw [Int.tdiv_eq_ediv_of_nonneg (by omega)]; omega
      have hz2 : (B : Int) / 8 = (Q : Int) := by omega
      have hR1 : (B : Int).tmod 8 = (R : Int) := by rw [Int.tmod_eq_emod_of_nonneg (by omega)]; omega
      have hR2 : (B : Int) % 8 = (R : Int) := by omega
      have hQw : IntKind.i64.wrap (Q : Int) = (Q : Int) := IntWalk.i64_in _ (by omega)
      have hRw : IntKind.i64.wrap (R : Int) = (R : Int) := IntWalk.i64_in _ (by omega)
      have hBw : IntKind.i64.wrap ((B : Int) + 1) = ((B + 1 : Nat) : Int) := by rw [IntWalk.i64_in _ (by omega)]; rfl
      have htw : IntKind.i64.wrap ((t : Int) - 1) = (t : Int) - 1 := IntWalk.i64_in _ (by omega)
      have ca := HR.out.ka.cell 0
      have cb := HR.out.kb.cell 0
      have fa := HR.out.ka.frozen 0
      have hmin : min t 64 = t := by omega
      obtain ⟨Y, hY⟩ : ∃ Y, Y = n / 2 ^ t := ⟨_, rfl⟩
      rw [← ht, ← hY] at hfj
      have hYe : (n : Int) / 2 ^ t = (Y : Int) := by rw [hY, Int.natCast_ediv, Int.natCast_pow]; rfl
      have HT := Lib.hid hti
      have HJ : Hid (j < k ∧ (A + (j + 1) = B + 1)) := Lib.hid ⟨hlt, by omega⟩
      have hR8 : R < 8 := by omega
      by_cases hone : F B = 1
      · have hy1 : (Y : Int).tmod 2 = 1 := by rw [Int.tmod_eq_emod_of_nonneg (by omega)]; omega
        have hy2 : (Y : Int) % 2 = 1 := by omega
        obtain ⟨V, hV⟩ : ∃ V, V = bytF F B Q := ⟨_, rfl⟩
        have hV1 : V < 2 ^ R := by rw [hV, hQ, hR]; exact bytF_low HFF.out B
        have hV2 : V < 256 := by rw [hV]; exact bytF_lt HFF.out B Q
        have hor : bits .or .u8 (V : Int) ((2 ^ R : Nat) : Int) = ((V + 2 ^ R : Nat) : Int) := or_new8 ⟨R, hR8⟩ ⟨V, hV2⟩ hV1
        have hpw : 2 ^ R ≤ 128 := by
          have : 2 ^ R ≤ 2 ^ 7 := Nat.pow_le_pow_right (by decide) (by omega)
          omega
        have hmin8 : min R 8 = R := by omega
        have hp2 : (2 : Int) ^ R = ((2 ^ R : Nat) : Int) := by rw [Int.natCast_pow]; rfl
        have hw8 : IntKind.u8.wrap ((2 : Int) ^ R) = ((2 ^ R : Nat) : Int) := by rw [IntKind.wrap_u8, hp2]; omega
        have hw9 : (2 : Int) ^ R % 256 = ((2 ^ R : Nat) : Int) := by rw [hp2]; omega
        have hP : PW F ba bb z N (B + 1) w0 (((wr.drew).setCell ⟨z, Q, none⟩ (.int .u8 ((V + 2 ^ R : Nat) : Int))).setCell ⟨ba, 0, none⟩ (.int .i64 ((B + 1 : Nat) : Int))) := by
          have hz := (HR.out.kz.drew.put hQN (.int .u8 ((V + 2 ^ R : Nat) : Int))).cast_ (cs' := row N fun i => .int .u8 (bytF F (B + 1) i : Int)) (row_ext fun i _ => by
            rw [bytF_one hone i, ← hQ, ← hR]
            by_cases e : i = Q
            · rw [if_pos e, if_pos e, e, ← hV]
            · rw [if_neg e, if_neg e])
          have ha := (HR.out.ka.drew.far (p := ⟨z, Q, none⟩) HR.out.n2 (.int .u8 ((V + 2 ^ R : Nat) : Int))).set_ 0 (.int .i64 ((B + 1 : Nat) : Int))
          have hb := (HR.out.kb.drew.far (p := ⟨z, Q, none⟩) HR.out.n3 (.int .u8 ((V + 2 ^ R : Nat) : Int))).far (p := ⟨ba, 0, none⟩) (fun e => HR.out.n1 e.symm) (.int .i64 ((B + 1 : Nat) : Int))
          exact ⟨ha, hb, hz.far (p := ⟨ba, 0, none⟩) (fun e => HR.out.n2 e.symm) _, (HR.out.lo.drew.setCell (p := ⟨z, Q, none⟩) HR.out.h2 _).setCell (p := ⟨ba, 0, none⟩) HR.out.h1 _, HR.out.h1, HR.out.h2, HR.out.n1, HR.out.n2, HR.out.n3⟩
        have HP := Lib.hid hP
        obtain ⟨T, hTd⟩ : ∃ T : Bool → World → Prop, T = fun b wx => (b = false → wx = wr.drew) ∧ (b = true → wx = wr.drew.setCell ⟨z, Q, none⟩ (.int .u8 ((V + 2 ^ R : Nat) : Int))) := ⟨_, rfl⟩
        have HT0 : Hid (∀ wx, T false wx → wx.cell? ⟨bb, 0, none⟩ = some (.slice (some ⟨z, 0, none⟩) N N) ∧ wx.cell? ⟨ba, 0, none⟩ = some (.int .i64 (B : Int)) ∧ wx.cell? ⟨z, Q, none⟩ = some (.int .u8 (V : Int)) ∧ wx.frozen? ⟨z, Q, none⟩ = false ∧ T true (wx.setCell ⟨z, Q, none⟩ (.int .u8 ((V + 2 ^ R : Nat) : Int)))) := Lib.hid fun wx h => by
          rw [hTd] at h ⊢
          have e := h.1 rfl
          subst e
          exact ⟨HR.out.kb.drew.cell 0, HR.out.ka.drew.cell 0, by rw [hV]; exact HR.out.kz.drew.at_ hQN, HR.out.kz.drew.frozen Q, fun h => (by cases h), fun _ => rfl⟩
        have HT1 : Hid (∀ wx, T true wx → wx = wr.drew.setCell ⟨z, Q, none⟩ (.int .u8 ((V + 2 ^ R : Nat) : Int))) := Lib.hid fun wx h => by rw [hTd] at h; exact h.2 rfl
        have HTS : Hid (T false wr.drew) := Lib.hid (by rw [hTd]; exact ⟨fun _ => rfl, fun h => (by cases h)⟩)
        have HA2 : Hid ((wr.drew.setCell ⟨z, Q, none⟩ (.int .u8 ((V + 2 ^ R : Nat) : Int))).cell? ⟨ba, 0, none⟩ = some (.int .i64 (B : Int)) ∧ (wr.drew.setCell ⟨z, Q, none⟩ (.int .u8 ((V + 2 ^ R : Nat) : Int))).frozen? ⟨ba, 0, none⟩ = false) := Lib.hid ⟨(HR.out.ka.drew.far (p := ⟨z, Q, none⟩) HR.out.n2 _).cell 0, (HR.out.ka.drew.far (p := ⟨z, Q, none⟩) HR.out.n2 _).frozen 0⟩
        clear hTd hP hV hY hti ht hB hQ hR hV1 hV2 hone hfj hfl hlt hpw
        go_wp2_with fail
        obtain ⟨W8, hW8⟩ : ∃ W8, W8 = 2 ^ R := ⟨_, rfl⟩
        rw [← hW8] at hor hw8 hw9 HT0 HT1 HP HA2
        clear hp2 hW8
        refine wp_region_anyL (Two 13 1001 fun b _ wx => T b wx) (by kernel_rfl) HTS.out ?_
        refine anyL_take (i := 0) (v := .slice (some ⟨z, 0, none⟩) N N) rfl (by kernel_rfl) (by kernel_rfl) (by kernel_rfl) (yl_ahead (n := 9) (by decide) (by decide) (by kernel_rfl) rfl (fun f2 wx hT => ?_)) ?_
        · have cc := (HT0.out wx hT).1; refine lands_value (w := wx) ?_ hT; go_simp; skip
        simp only [pu]
        refine anyL_take (i := 1) (v := .int .i64 (B : Int)) rfl (by kernel_rfl) (by kernel_rfl) (by kernel_rfl) (yl_ahead (n := 9) (by decide) (by decide) (by kernel_rfl) rfl (fun f2 wx hT => ?_)) ?_
        · have cc := (HT0.out wx hT).2.1; refine lands_value (w := wx) ?_ hT; go_simp; skip
        simp only [pu]
        refine anyL_take (i := 2) (v := .int .i64 (Q : Int)) rfl (by kernel_rfl) (by kernel_rfl) (by kernel_rfl) (yl_other (by decide) (by decide) rfl (fun f1 f2 wx hT => ?_)) ?_
        · refine lands_value (w := wx) ?_ hT; go_simp; skip
        simp only [pu]
        refine anyL_take (i := 3) (v := .slice (some ⟨z, 0, none⟩) N N) rfl (by kernel_rfl) (by kernel_rfl) (by kernel_rfl) (yl_ahead (n := 9) (by decide) (by decide) (by kernel_rfl) rfl (fun f2 wx hT => ?_)) ?_
        · have cc := (HT0.out wx hT).1; refine lands_value (w := wx) ?_ hT; go_simp; skip
        simp only [pu]
        refine anyL_take (i := 4) (v := .int .i64 (B : Int)) rfl (by kernel_rfl) (by kernel_rfl) (by kernel_rfl) (yl_ahead (n := 9) (by decide) (by decide) (by kernel_rfl) rfl (fun f2 wx hT => ?_)) ?_
        · have cc := (HT0.out wx hT).2.1; refine lands_value (w := wx) ?_ hT; go_simp; skip
        simp only [pu]
        refine anyL_take (i := 5) (v := .int .i64 (Q : Int)) rfl (by kernel_rfl) (by kernel_rfl) (by kernel_rfl) (yl_other (by decide) (by decide) rfl (fun f1 f2 wx hT => ?_)) ?_
        · refine lands_value (w := wx) ?_ hT; go_simp; skip
        simp only [pu]
        refine anyL_take (i := 6) (v := .pointer (some ⟨z, Q, none⟩)) rfl (by kernel_rfl) (by kernel_rfl) (by kernel_rfl) (yl_other (by decide) (by decide) rfl (fun f1 f2 wx hT => ?_)) ?_
        · refine lands_value (w := wx) ?_ hT; go_simp; skip
        simp only [pu]
        refine anyL_take (i := 7) (v := .int .u8 (V : Int)) rfl (by kernel_rfl) (by kernel_rfl) (by kernel_rfl) (yl_ahead (n := 9) (by decide) (by decide) (by kernel_rfl) rfl (fun f2 wx hT => ?_)) ?_
        · have cc := (HT0.out wx hT).2.2.1; refine lands_value (w := wx) ?_ hT; go_simp; skip
        simp only [pu]
        refine anyL_take (i := 8) (v := .int .i64 (B : Int)) rfl (by kernel_rfl) (by kernel_rfl) (by kernel_rfl) (yl_ahead (n := 9) (by decide) (by decide) (by kernel_rfl) rfl (fun f2 wx hT => ?_)) ?_
        · have cc := (HT0.out wx hT).2.1; refine lands_value (w := wx) ?_ hT; go_simp; skip
        simp only [pu]
        refine anyL_take (i := 9) (v := .int .i64 (R : Int)) rfl (by kernel_rfl) (by kernel_rfl) (by kernel_rfl) (yl_other (by decide) (by decide) rfl (fun f1 f2 wx hT => ?_)) ?_
        · refine lands_value (w := wx) ?_ hT; go_simp; skip
        simp only [pu]
        refine anyL_take (i := 10) (v := .int .u8 (W8 : Int)) rfl (by kernel_rfl) (by kernel_rfl) (by kernel_rfl) (yl_other (by decide) (by decide) rfl (fun f1 f2 wx hT => ?_)) ?_
        · refine lands_value (w := wx) ?_ hT; go_simp; skip
        simp only [pu]
        refine anyL_take (i := 11) (v := .int .u8 ((V + W8 : Nat) : Int)) rfl (by kernel_rfl) (by kernel_rfl) (by kernel_rfl) (yl_other (by decide) (by decide) rfl (fun f1 f2 wx hT => ?_)) ?_
        · refine lands_value (w := wx) ?_ hT; go_simp; skip
        simp only [pu]
        refine anyL_take (i := 12) (v := .pointer (some ⟨z, Q, none⟩)) rfl (by kernel_rfl) (by kernel_rfl) (by kernel_rfl) (yl_other (by decide) (by decide) rfl (fun f1 f2 wx hT => ?_)) ?_
        · refine lands_value (w := wx) ?_ hT; go_simp; skip
        simp only [pu]
        refine anyL_take (i := 13) (v := undef) rfl (by kernel_rfl) (by kernel_rfl) (by kernel_rfl) (yl_first (by decide) rfl (fun f2 wx hT => ?_)) ?_
        · have c0 := (HT0.out wx hT).2.2.1; have f0 := (HT0.out wx hT).2.2.2.1; have K := (HT0.out wx hT).2.2.2.2; go_simp; exact ⟨rfl, K⟩
        simp only [pu]
        refine anyL_done rfl ?_ _
        intro wx hT
        have hT : wx = wr.drew.setCell ⟨z, Q, none⟩ (.int .u8 ((V + W8 : Nat) : Int)) := HT1.out wx hT
        subst hT
        obtain ⟨ca2, fa2⟩ := HA2.out
        clear HT0 ca cb fa HR
        generalize wr.drew.setCell ⟨z, Q, none⟩ (.int .u8 ((V + W8 : Nat) : Int)) = wq at *
        go_wp2_with fail
        exact ⟨⟨j + 1, by have := HJ.out.1; omega, by have := HT.out; congr 1; omega, Lib.hid (by rw [HJ.out.2]; exact HP.out)⟩, by simp only [intOf]; omega⟩
      · have hz0 : F B = 0 := by omega
        have hy1 : (Y : Int).tmod 2 = 0 := by rw [Int.tmod_eq_emod_of_nonneg (by omega)]; omega
        have hy2 : (Y : Int) % 2 = 0 := by omega
        have HP : Hid (PW F ba bb z N (B + 1) w0 (wr.setCell ⟨ba, 0, none⟩ (.int .i64 ((B + 1 : Nat) : Int)))) := Lib.hid
          ⟨HR.out.ka.set_ 0 _, HR.out.kb.far (p := ⟨ba, 0, none⟩) (fun e => HR.out.n1 e.symm) _, (HR.out.kz.cast_ (cs' := row N fun i => .int .u8 (bytF F (B + 1) i : Int)) (row_ext fun i _ => by rw [bytF_none hz0 i])).far (p := ⟨ba, 0, none⟩) (fun e => HR.out.n2 e.symm) _, HR.out.lo.setCell (p := ⟨ba, 0, none⟩) HR.out.h1 _, HR.out.h1, HR.out.h2, HR.out.n1, HR.out.n2, HR.out.n3⟩
        clear hY hti ht hB hQ hR hone hz0 hfj hfl hlt
        go_wp2_with fail
        exact ⟨⟨j + 1, by have := HJ.out.1; omega, by have := HT.out; congr 1; omega, Lib.hid (by rw [HJ.out.2]; exact HP.out)⟩, by simp only [intOf]; omega⟩
    · obtain rfl : j = k := by omega
      have hneg : ¬ (j : Int) - 1 - (j : Int) ≥ 0 := by omega
      go_wp2_with fail
      go_end0
      exact ⟨rfl, HR.out⟩
end Go.Proofs.Ytiphnnaanjjaoaa
/- The text of what put has written (InflateFixed). -/
namespace Go.Proofs.Ytiphnnaanjjaoaa
open Go.RowKit
theorem PW.text {F : Nat → Nat} {ba bb z N A : Nat} {w0 w : World} (h : PW F ba bb z N A w0 w) (hF : ∀ i, F i < 2) (hN : N ≤ 200) {k : Nat} (hk : k ≤ N) : (convert 36 9 (.slice (some ⟨z, 0, none⟩) k N)).run Try.prog w = .ok (.string (textN k (bytF F A))) w := by
  refine run_string_of_own w 36 9 5 z Try.underlying36 Try.underlying5 Try.underlying9 (.slice (some ⟨z, 0, none⟩) k N) k ((List.range k).map fun i => BitVec.ofNat 8 (bytF F A i)) ?_
  refine ⟨by simp, .inr ⟨z, N, _, rfl, Nat.le_refl _, h.kz, hk, by unfold maxLen; omega, by rw [row_size]; omega, ?_⟩⟩
  rw [Nat.mul_one]
  apply List.ext_getElem
  · rw [List.length_take, Array.length_toList, row_size]; simp; omega
  · intro i h1 h2
    have hi : i < k := by simpa using h2
    have e := row_get (fun i => Value.int .u8 (bytF F A i : Int)) (show i < N by omega)
    rw [← Array.getElem?_toList] at e
    rw [List.getElem_take]
    have e2 := (List.getElem?_eq_some_iff.1 e).2
    rw [e2]
    simp only [List.getElem_map, List.getElem_range]
    show Value.int .u8 ((bytF F A i : Nat) : Int) = Value.int .u8 (iw (BitVec.ofNat 8 (bytF F A i)))
    unfold iw
    rw [BitVec.toNat_ofNat, Nat.mod_eq_of_lt (show bytF F A i < 2 ^ 8 from bytF_lt hF A i)]
theorem tfB_lt (D : Nat → Nat) (n j : Nat) : tfB D n j < 2 := by
  unfold tfB
  split
  · split <;> decide
  · split
    · exact Nat.mod_lt _ (by decide)
    · decide
/-- The bits that the three kinds of calls want. -/
theorem tfB_head (D : Nat → Nat) (n : Nat) : ∀ j, j < 3 → tfB D n (0 + j) = 6 / 2 ^ (3 - 1 - j) % 2 := fun j hj => by
  rcases (show j = 0 ∨ j = 1 ∨ j = 2 by omega) with rfl | rfl | rfl <;> rfl
theorem tfB_byte (D : Nat → Nat) {n i : Nat} (hi : i < n) : ∀ j, j < 8 → tfB D n (3 + 8 * i + j) = (48 + D i) / 2 ^ (8 - 1 - j) % 2 := fun j hj => by
  unfold tfB
  rw [if_neg (by omega), if_pos (by omega), show (3 + 8 * i + j - 3) / 8 = i by omega, show (3 + 8 * i + j - 3) % 8 = j by omega, show 7 - j = 8 - 1 - j by omega]
theorem tfB_tail (D : Nat → Nat) (n : Nat) : ∀ j, j < 7 → tfB D n (3 + 8 * n + j) = 0 / 2 ^ (7 - 1 - j) % 2 := fun j hj => by
  unfold tfB
  rw [if_neg (by omega), if_neg (by omega), Nat.zero_div]
/-- The text's bits. -/
theorem text_bits (D : Nat → Nat) (n : Nat) : ∀ j, j < 8 * n + 10 → bitH (textN (n + 3) (bytF (tfB D n) (8 * n + 10))) j = tfB D n j := fun j hj => by
  unfold bitH
  rw [byteS_textN _ _ _ (by omega) (bytF_lt (tfB_lt D n) _ _), bytF_bit (tfB_lt D n) (by omega) (by omega), show 8 * (j / 8) + j % 8 = j by omega]
/-- What Open says of it, and of its beginnings. -/
theorem open_fixed (D : Nat → Nat) (n : Nat) (hn : n ≤ 100) (hD : ∀ i, i < n → D i < 144) : openS (textN (n + 3) (bytF (tfB D n) (8 * n + 10))) (n : Int) = (firstD D n, n + 2, 0) := by
  rw [openS_end _ n (by omega), endS_fixed (textN_size _ _) (text_bits D n) hD]
  rw [if_neg (fun h => h rfl)]
  show (firstD D n, (8 * n + 10 + 7) / 8, 0) = _
  rw [show (8 * n + 10 + 7) / 8 = n + 2 by omega]
theorem open_fixed_cut (D : Nat → Nat) (n k : Nat) (hn : n ≤ 100) (hk : k ≤ n + 1) (hD : ∀ i, i < n → D i < 144) : openS (textN k (bytF (tfB D n) (8 * n + 10))) (n : Int) = ([], 0, 2) := by
  have e := endS_fixed_cut (Y := textN k (bytF (tfB D n) (8 * n + 10))) (textN_size _ _) (text_bits D n) hD (by rw [textN_size]; exact hk) (fun j hj => by
    rw [textN_size] at hj
    rw [byteS_textN _ _ _ hj (bytF_lt (tfB_lt D n) _ _), byteS_textN _ _ _ (by omega) (bytF_lt (tfB_lt D n) _ _)])
  rw [openS_end _ n (by omega), e]
  exact if_pos (show (2 : Nat) ≠ 0 by decide)
/-- A block beside it, older than it, is written. -/
theorem PW.side {F : Nat → Nat} {ba bb z N A : Nat} {w0 w : World} (h : PW F ba bb z N A w0 w) {g : Nat} (hg : g < w0.heap.size) (hgb : g ≠ bb) (j : Nat) (u : Value) : PW F ba bb z N A (w0.setCell ⟨g, j, none⟩ u) (w.setCell ⟨g, j, none⟩ u) := by
  have s1 : (w0.setCell ⟨g, j, none⟩ u).heap.size = w0.heap.size := by simp [World.setCell]
  refine ⟨h.ka.far (p := ⟨g, j, none⟩) (by have := h.h1; show ba ≠ g; omega) u, h.kb.far (p := ⟨g, j, none⟩) (fun e => hgb e.symm) u, h.kz.far (p := ⟨g, j, none⟩) (by have := h.h2; show z ≠ g; omega) u, ?_, by rw [s1]; exact h.h1, by rw [s1]; exact h.h2, h.n1, h.n2, h.n3⟩
  rw [s1]
  refine ⟨h.lo.os, h.lo.tape, h.lo.output, by simp [World.setCell]; exact h.lo.size, fun i hi => ?_⟩
  by_cases e : i = g
  · subst e
    have := h.lo.block i hi
    simp only [World.setCell, Array.getElem?_modify, this]
  · rw [Below.heap_setCell w ⟨g, j, none⟩ u i e, Below.heap_setCell w0 ⟨g, j, none⟩ u i e]
    exact h.lo.block i hi
end Go.Proofs.Ytiphnnaanjjaoaa
/- InflateStored in numbers: texts that are told as they are. -/
namespace Go.Proofs.Ytiphnnaanjjaoaa
open Go.RowKit
theorem vb_split (B : Nat → Nat) (p n : Nat) : ∀ m, vb B p (n + m) = vb B p n + 2 ^ n * vb B (p + n) m
  | 0 => by simp [vb]
  | m + 1 => by
    show vb B p (n + m) + B (p + (n + m)) * 2 ^ (n + m) = vb B p n + 2 ^ n * (vb B (p + n) m + B (p + n + m) * 2 ^ m)
    rw [vb_split B p n m, Nat.pow_add, Nat.mul_add, Nat.add_assoc p n m, Nat.add_assoc, Nat.mul_left_comm]
theorem vb8 (s : ByteArray) (j : Nat) : vb (bitH s) (8 * j) 8 = byteS s j := by
  have h := byteS_lt s j
  have e : ∀ i, i < 8 → bitH s (8 * j + i) = byteS s j / 2 ^ i % 2 := fun i hi => by unfold bitH; rw [show (8 * j + i) / 8 = j by omega, show (8 * j + i) % 8 = i by omega]
  have e0 := e 0 (by decide)
  have e1 := e 1 (by decide)
  have e2 := e 2 (by decide)
  have e3 := e 3 (by decide)
  have e4 := e 4 (by decide)
  have e5 := e 5 (by decide)
  have e6 := e 6 (by decide)
  have e7 := e 7 (by decide)
  have key : ∀ x : Fin 256, 0 + x.val / 2 ^ 0 % 2 * 2 ^ 0 + x.val / 2 ^ 1 % 2 * 2 ^ 1 + x.val / 2 ^ 2 % 2 * 2 ^ 2 + x.val / 2 ^ 3 % 2 * 2 ^ 3 + x.val / 2 ^ 4 % 2 * 2 ^ 4 + x.val / 2 ^ 5 % 2 * 2 ^ 5 + x.val / 2 ^ 6 % 2 * 2 ^ 6 + x.val / 2 ^ 7 % 2 * 2 ^ 7 = x.val := by decide +kernel
  show 0 + bitH s (8 * j + 0) * 2 ^ 0 + bitH s (8 * j + 1) * 2 ^ 1 + bitH s (8 * j + 2) * 2 ^ 2 + bitH s (8 * j + 3) * 2 ^ 3 + bitH s (8 * j + 4) * 2 ^ 4 + bitH s (8 * j + 5) * 2 ^ 5 + bitH s (8 * j + 6) * 2 ^ 6 + bitH s (8 * j + 7) * 2 ^ 7 = _
  rw [e0, e1, e2, e3, e4, e5, e6, e7]
  exact key ⟨byteS s j, h⟩
theorem vb16 (s : ByteArray) (j : Nat) : vb (bitH s) (8 * j) 16 = byteS s j + 256 * byteS s (j + 1) := by
  rw [vb_split (bitH s) (8 * j) 8 8, vb8, show 8 * j + 8 = 8 * (j + 1) by omega, vb8]
/-- A text as one block. -/
def frL (last : Nat) (t : List Nat) : List Nat := last :: (t.length % 256) :: (t.length / 256) :: (255 - t.length % 256) :: (255 - t.length / 256) :: t
theorem frL_len (last : Nat) (t : List Nat) : (frL last t).length = 5 + t.length := by unfold frL; simp only [List.length_cons]; omega
theorem copyS_fits (s : ByteArray) (T M : Nat) : ∀ (n j : Nat) (o : List Nat), 8 * (j + n) ≤ T → o.length + n ≤ M → copyS (bitH s) T M n ⟨8 * j, 0, o⟩ = ⟨8 * (j + n), 0, o ++ (List.range n).map fun i => byteS s (j + i)⟩
  | 0, j, o, _, _ => by simp [copyS]
  | n + 1, j, o, h1, h2 => by
    rw [copyS_one rfl, bitsS_in rfl (show 8 * j + 8 ≤ T by omega)]
    dsimp only
    rw [vb8]
    have e : sayS M (byteS s j) ⟨8 * j + 8, 0, o⟩ = ⟨8 * (j + 1), 0, o ++ [byteS s j]⟩ := by
      unfold sayS
      rw [if_neg (fun h => h rfl), if_neg (show ¬ o.length ≥ M by omega)]
      rfl
    rw [e, copyS_fits s T M n (j + 1) _ (by omega) (by simp; omega), List.range_succ_eq_map, List.map_cons, List.map_map, List.append_assoc, show j + 1 + n = j + (n + 1) by omega]
    have e2 : (fun i => byteS s (j + 1 + i)) = (fun i => byteS s (j + i)) ∘ Nat.succ := by
      funext i
      show byteS s (j + 1 + i) = byteS s (j + (i + 1))
      rw [show j + 1 + i = j + (i + 1) by omega]
    rw [e2]
    rfl
theorem copyS_long (s : ByteArray) (T M : Nat) : ∀ (n j : Nat) (o : List Nat), 8 * (j + n) ≤ T → o.length ≤ M → M < o.length + n → (copyS (bitH s) T M n ⟨8 * j, 0, o⟩).e = 9
  | 0, j, o, _, h1, h2 => by omega
  | n + 1, j, o, h1, h2, h3 => by
    rw [copyS_one rfl, bitsS_in rfl (show 8 * j + 8 ≤ T by omega)]
    dsimp only
    by_cases h : o.length ≥ M
    · have e : sayS M (vb (bitH s) (8 * j) 8) ⟨8 * j + 8, 0, o⟩ = ⟨8 * j + 8, 9, o⟩ := by
        unfold sayS
        rw [if_neg (fun h => h rfl), if_pos h]
      rw [e, copyS_err (show (9 : Nat) ≠ 0 by decide)]
    · have e : sayS M (vb (bitH s) (8 * j) 8) ⟨8 * j + 8, 0, o⟩ = ⟨8 * (j + 1), 0, o ++ [vb (bitH s) (8 * j) 8]⟩ := by
        unfold sayS
        rw [if_neg (fun h => h rfl), if_neg h]
        rfl
      rw [e]
      exact copyS_long s T M n (j + 1) _ (by omega) (by simp; omega) (by simp; omega)
/-- A stored block's beginning: its two numbers. -/
theorem blockS_head (s : ByteArray) (M j last : Nat) (o : List Nat) (hl : byteS s j = last) (h2 : last < 2) (A B : Nat) (hA : A = byteS s (j + 1) + 256 * byteS s (j + 2)) (hB : B = byteS s (j + 3) + 256 * byteS s (j + 4)) (hs : j + 5 ≤ s.size) :
    blockS (bitH s) (8 * s.size) M ⟨8 * j, 0, o⟩ = (decide (last = 1), copyS (bitH s) (8 * s.size) M A (if B + A ≠ 65535 then ⟨8 * (j + 5), 2, o⟩ else ⟨8 * (j + 5), 0, o⟩)) := by
  have b0 : bitH s (8 * j) = last := by unfold bitH; rw [show 8 * j / 8 = j by omega, show 8 * j % 8 = 0 by omega, hl]; omega
  have b1 : bitH s (8 * j + 1) = 0 := by unfold bitH; rw [show (8 * j + 1) / 8 = j by omega, show (8 * j + 1) % 8 = 1 by omega, hl]; omega
  have b2 : bitH s (8 * j + 1 + 1) = 0 := by unfold bitH; rw [show (8 * j + 1 + 1) / 8 = j by omega, show (8 * j + 1 + 1) % 8 = 2 by omega, hl]; omega
  have v1 : vb (bitH s) (8 * j) 1 = last := by
    show 0 + bitH s (8 * j + 0) * 2 ^ 0 = last
    rw [Nat.add_zero, b0]; omega
  have v2 : vb (bitH s) (8 * j + 1) 2 = 0 := by
    show 0 + bitH s (8 * j + 1 + 0) * 2 ^ 0 + bitH s (8 * j + 1 + 1) * 2 ^ 1 = 0
    rw [Nat.add_zero, b1, b2]
  unfold blockS
  rw [bitsS_in rfl (show 8 * j + 1 ≤ 8 * s.size by omega)]
  dsimp only
  rw [bitsS_in rfl (show 8 * j + 1 + 2 ≤ 8 * s.size by omega)]
  dsimp only
  rw [v1, v2, if_neg (fun h => h rfl), if_pos rfl]
  unfold storedS
  dsimp only
  rw [show (8 * j + 1 + 2 + 7) / 8 * 8 = 8 * (j + 1) by omega, bitsS_in rfl (show 8 * (j + 1) + 16 ≤ 8 * s.size by omega)]
  dsimp only
  rw [show 8 * (j + 1) + 16 = 8 * (j + 3) by omega, bitsS_in rfl (show 8 * (j + 3) + 16 ≤ 8 * s.size by omega)]
  dsimp only
  rw [vb16, vb16, ← hA, ← hB, show 8 * (j + 3) + 16 = 8 * (j + 5) by omega]
  by_cases h : B + A ≠ 65535
  · rw [if_pos h, if_pos ⟨rfl, h⟩]
  · rw [if_neg h, if_neg (fun k => h k.2)]
def stoL (t : Nat → List Nat) (N : Nat) : Nat → List Nat
  | 0 => []
  | k + 1 => stoL t N k ++ frL (if k + 1 = N then 1 else 0) (t k)
def allL (t : Nat → List Nat) : Nat → List Nat
  | 0 => []
  | k + 1 => allL t k ++ t k
theorem stoL_len (t : Nat → List Nat) (N k : Nat) : (stoL t N (k + 1)).length = (stoL t N k).length + 5 + (t k).length := by
  show (stoL t N k ++ frL (if k + 1 = N then 1 else 0) (t k)).length = _
  rw [List.length_append, frL_len]; omega
theorem allL_len (t : Nat → List Nat) (k : Nat) : (allL t (k + 1)).length = (allL t k).length + (t k).length := List.length_append
theorem stoL_le (t : Nat → List Nat) (N : Nat) (ht : ∀ i, (t i).length ≤ 300) : ∀ k, k ≤ (stoL t N k).length ∧ 5 * k ≤ (stoL t N k).length ∧ (stoL t N k).length ≤ 305 * k ∧ (allL t k).length ≤ 300 * k
  | 0 => ⟨Nat.le_refl 0, Nat.le_refl 0, Nat.le_refl 0, Nat.le_refl 0⟩
  | k + 1 => by
    have := stoL_le t N ht k
    have := ht k
    rw [stoL_len, allL_len]
    omega
theorem stoL_mono (t : Nat → List Nat) (N : Nat) {a b : Nat} (h : a ≤ b) : (stoL t N a).length ≤ (stoL t N b).length ∧ (allL t a).length ≤ (allL t b).length ∧ (∀ i, i < (stoL t N a).length → (stoL t N b).getD i 0 = (stoL t N a).getD i 0) := by
  induction b with
  | zero => obtain rfl : a = 0 := by omega
            exact ⟨Nat.le_refl _, Nat.le_refl _, fun _ _ => rfl⟩
  | succ b ih =>
    by_cases e : a = b + 1
    · subst e; exact ⟨Nat.le_refl _, Nat.le_refl _, fun _ _ => rfl⟩
    · obtain ⟨h1, h2, h3⟩ := ih (by omega)
      refine ⟨by rw [stoL_len]; omega, by rw [allL_len]; omega, fun i hi => ?_⟩
      rw [← h3 i hi]
      show (stoL t N b ++ _).getD i 0 = _
      simp only [List.getD]
      rw [List.getElem?_append_left (by omega)]
/-- The bytes from a place on are a list's. -/
def BL (s : ByteArray) (j : Nat) (l : List Nat) : Prop := ∀ i, i < l.length → byteS s (j + i) = l.getD i 0
theorem BL.map {s : ByteArray} {j : Nat} {l : List Nat} (h : BL s j l) : ((List.range l.length).map fun i => byteS s (j + i)) = l := by
  apply List.ext_getElem
  · simp
  · intro i h1 h2
    rw [List.getElem_map, List.getElem_range, h i h2]
    simp [List.getD, h2]
theorem BL.left {s : ByteArray} {j : Nat} {a b : List Nat} (h : BL s j (a ++ b)) : BL s j a := fun i hi => by
  rw [h i (by rw [List.length_append]; omega)]
  simp only [List.getD]
  rw [List.getElem?_append_left hi]
theorem BL.right {s : ByteArray} {j : Nat} {a b : List Nat} (h : BL s j (a ++ b)) : BL s (j + a.length) b := fun i hi => by
  have := h (a.length + i) (by rw [List.length_append]; omega)
  rw [show j + a.length + i = j + (a.length + i) by omega, this]
  simp only [List.getD]
  rw [List.getElem?_append_right (by omega), show a.length + i - a.length = i by omega]
/-- A block that is told as it is. -/
theorem blockS_sto (s : ByteArray) (M j last : Nat) (o t : List Nat) (h : BL s j (frL last t)) (h2 : last < 2) (ht : t.length ≤ 300) (hs : j + 5 + t.length ≤ s.size) :
    blockS (bitH s) (8 * s.size) M ⟨8 * j, 0, o⟩ = (decide (last = 1), copyS (bitH s) (8 * s.size) M t.length ⟨8 * (j + 5), 0, o⟩) := by
  have hl := frL_len last t
  have e0 := h 0 (by omega)
  have e1 := h 1 (by omega)
  have e2 := h 2 (by omega)
  have e3 := h 3 (by omega)
  have e4 := h 4 (by omega)
  rw [blockS_head s M j last o e0 h2 t.length (65535 - t.length) (by
    rw [e1, e2]
    show t.length = t.length % 256 + 256 * (t.length / 256)
    omega) (by
    rw [e3, e4]
    show 65535 - t.length = 255 - t.length % 256 + 256 * (255 - t.length / 256)
    omega) (by omega), if_neg (by omega)]
theorem blocks_sto (s : ByteArray) (t : Nat → List Nat) (N M F : Nat) (ht : ∀ i, (t i).length ≤ 300) : ∀ k, k ≤ N → BL s 0 (stoL t N k) → (stoL t N k).length ≤ s.size → (allL t k).length ≤ M → k ≤ F →
    blocksS (bitH s) (8 * s.size) M F false ⟨0, 0, []⟩ = blocksS (bitH s) (8 * s.size) M (F - k) (decide (k = N ∧ 0 < k)) ⟨8 * (stoL t N k).length, 0, allL t k⟩
  | 0, _, _, _, _, _ => by
    rw [decide_eq_false (by omega)]
    rfl
  | k + 1, hk, hb, hs, hM, hF => by
    have hl := stoL_len t N k
    have ha := allL_len t k
    have hbl : BL s 0 (stoL t N k ++ frL (if k + 1 = N then 1 else 0) (t k)) := hb
    rw [blocks_sto s t N M F ht k (by omega) hbl.left (by omega) (by omega) (by omega), decide_eq_false (by omega), show F - k = F - (k + 1) + 1 by omega, blocksS_one]
    have hr := hbl.right
    rw [Nat.zero_add] at hr
    have hr2 : BL s ((stoL t N k).length + 5) (t k) := fun i hi => by
      have := hr (5 + i) (by rw [frL_len]; omega)
      rw [show (stoL t N k).length + 5 + i = (stoL t N k).length + (5 + i) by omega, this, show 5 + i = i + 1 + 1 + 1 + 1 + 1 by omega]
      rfl
    rw [blockS_sto s M _ _ _ _ hr (by split <;> omega) (ht k) (by omega), copyS_fits s (8 * s.size) M _ _ _ (by omega) (by omega), hr2.map, hl]
    dsimp only
    by_cases e : k + 1 = N
    · rw [if_pos e, decide_eq_true (show (1 : Nat) = 1 from rfl), decide_eq_true (show k + 1 = N ∧ 0 < k + 1 by omega)]; rfl
    · rw [if_neg e, decide_eq_false (show ¬ (0 : Nat) = 1 by decide), decide_eq_false (show ¬ (k + 1 = N ∧ 0 < k + 1) by omega)]; rfl
/-- What is told as it is, with just so much room, and anything behind. -/
theorem open_sto (s : ByteArray) (t : Nat → List Nat) (N : Nat) (ht : ∀ i, (t i).length ≤ 300) (h0 : 0 < N) (hN : N ≤ 10) (hb : BL s 0 (stoL t N N)) (hs : (stoL t N N).length ≤ s.size) :
    openS s ((allL t N).length : Int) = (allL t N, (stoL t N N).length, 0) := by
  have h1 := stoL_le t N ht N
  unfold openS
  rw [if_neg (by omega), Int.toNat_natCast, blocks_sto s t N _ _ ht N (Nat.le_refl N) hb hs (Nat.le_refl _) (by omega), decide_eq_true (show N = N ∧ 0 < N from ⟨rfl, h0⟩), blocksS_last]
  dsimp only
  rw [if_neg (fun h => h rfl), show (8 * (stoL t N N).length + 7) / 8 = (stoL t N N).length by omega]
/-- A block whose second number is not what is left of the first one. -/
theorem open_bad (s : ByteArray) (t : Nat → List Nat) (N k last A B : Nat) (ht : ∀ i, (t i).length ≤ 300) (hk : k < N) (hN : N ≤ 10) (hb : BL s 0 (stoL t N k)) (hs : (stoL t N k).length + 5 ≤ s.size)
    (hl : byteS s (stoL t N k).length = last) (h2 : last < 2) (hA : A = byteS s ((stoL t N k).length + 1) + 256 * byteS s ((stoL t N k).length + 2)) (hB : B = byteS s ((stoL t N k).length + 3) + 256 * byteS s ((stoL t N k).length + 4)) (hAB : B + A ≠ 65535) :
    openS s 1048576 = ([], 0, 2) := by
  have h1 := stoL_le t N ht k
  unfold openS
  rw [if_neg (by decide), show (1048576 : Int).toNat = 1048576 from rfl, blocks_sto s t N 1048576 _ ht k (by omega) hb (by omega) (by omega) (by omega), decide_eq_false (by omega), show 8 * s.size + 1 - k = 8 * s.size - k + 1 by omega, blocksS_one, blockS_head s _ _ last _ hl h2 A B hA hB (by omega), if_pos hAB, copyS_err (show (2 : Nat) ≠ 0 by decide), blocksS_err (show (2 : Nat) ≠ 0 by decide)]
  rfl
/-- With less room it is too long. -/
theorem open_less (s : ByteArray) (t : Nat → List Nat) (N M : Nat) (ht : ∀ i, (t i).length ≤ 300) (hN : N ≤ 10) (hb : BL s 0 (stoL t N N)) (hs : (stoL t N N).length ≤ s.size) (hM : M < (allL t N).length) :
    openS s (M : Int) = ([], 0, 9) := by
  have h1 := stoL_le t N ht N
  obtain ⟨k, hk1, hk2⟩ : ∃ k, (allL t k).length ≤ M ∧ M < (allL t (k + 1)).length ∧ k < N := by
    clear hb hs hN h1
    induction N with
    | zero => exact absurd hM (Nat.not_lt_zero _)
    | succ N ih =>
      by_cases h : M < (allL t N).length
      · obtain ⟨k, a, b, c⟩ := ih h
        exact ⟨k, a, b, by omega⟩
      · exact ⟨N, by omega, hM, by omega⟩
  have hm := stoL_mono t N (show k + 1 ≤ N by omega)
  have hl := stoL_len t N k
  have ha := allL_len t k
  have hbl : BL s 0 (stoL t N k ++ frL (if k + 1 = N then 1 else 0) (t k)) := fun i hi => by
    have hi : i < (stoL t N (k + 1)).length := hi
    rw [hb i (by omega), hm.2.2 i hi]
    rfl
  have hr := hbl.right
  rw [Nat.zero_add] at hr
  unfold openS
  rw [if_neg (by omega), Int.toNat_natCast, blocks_sto s t N M _ ht k (by omega) hbl.left (by omega) hk1 (by omega), decide_eq_false (by omega), show 8 * s.size + 1 - k = 8 * s.size - k + 1 by omega, blocksS_one, blockS_sto s M _ _ _ _ hr (by split <;> omega) (ht k) (by omega)]
  have e := copyS_long s (8 * s.size) M (t k).length ((stoL t N k).length + 5) (allL t k) (by omega) hk1 (by omega)
  rw [blocksS_err (by rw [e]; decide)]
  dsimp only
  rw [e, if_pos (by decide)]
end Go.Proofs.Ytiphnnaanjjaoaa
/- A slice of strings among a law's parameters; texts as lists of bytes. -/
namespace Go.Proofs.Ytiphnnaanjjaoaa
open Go.RowKit
/-- A slice of strings, as a law is handed it. -/
def Strs (w : World) (v : Value) : Prop := v = .slice none 0 0 ∨ ∃ (a : Addr) (len cap : Nat) (f : Nat → ByteArray), v = .slice (some a) len cap ∧ len ≤ 9223372036854775807 ∧ len ≤ cap ∧
    (∀ i, i < len → w.cell? (a.add i) = some (.string (f i))) ∧ ∀ i, (f i).size ≤ 9223372036854775807
set_option maxRecDepth 100000 in
theorem strings_of {H : Type} {enc : TypeId × Value → H} {W : World} {base : Nat} {v : Value} {d : DataW H} {ps : List MemPlace}
    (h1 : Value.okWide Try.prog W .any base 32 v) (h : DataW.Trod enc Try.prog W 0 (fun _ => true) true 32 v d ps) : Strs W v := by
  obtain ⟨a0, len, cap, rfl⟩ := WideShapes.okWide_slice Try.underlying32 h1
  obtain ⟨fuel, hf⟩ := h
  rcases ChangeShapes.open_strings Try.underlying32 Try.underlying9 (by kernel_rfl) hf with ⟨hcs, hx⟩ | ⟨a, len', cap', ss, hcs, _, hl, hm, hz, hx, hcell, hws⟩
  · injection hcs with e1 e2; exact .inl e1
  · injection hcs with e1 e2
    injection e1 with e1 e3 e4
    subst e1 e3 e4
    refine .inr ⟨a, len, cap, fun i => ss.getD i ByteArray.empty, rfl, by unfold maxLen at hm; omega, hl, fun i hi => hcell i (by rw [hz]; simp; omega), fun i => ?_⟩
    show (ss.getD i ByteArray.empty).size ≤ _
    rw [List.getD_eq_getElem?_getD]
    cases hi : ss[i]? with
    | none => exact Nat.zero_le _
    | some s => exact hws s (List.mem_of_getElem? hi)
/-- The bytes of a text, as a list of numbers. -/
def lstB (s : ByteArray) : List Nat := (List.range s.size).map (byteS s)
theorem lstB_len (s : ByteArray) : (lstB s).length = s.size := by simp [lstB]
theorem lstB_get (s : ByteArray) (i : Nat) (h : i < s.size) : (lstB s).getD i 0 = byteS s i := by simp [lstB, List.getD, h]
theorem txtL_lstB (s : ByteArray) : txtL (lstB s) = s := textN_is (lstB_len s).symm fun j hj => lstB_get s j (by rw [lstB_len] at hj; exact hj)
theorem lstB_lt (s : ByteArray) : ∀ x ∈ lstB s, x < 256 := fun x hx => by
  obtain ⟨i, _, rfl⟩ := List.mem_map.1 hx
  exact byteS_lt s i
theorem byteS_txtL (l : List Nat) (h : ∀ x ∈ l, x < 256) (j : Nat) (hj : j < l.length) : byteS (txtL l) j = l.getD j 0 := byteS_textN _ _ _ hj (by
  have e : l.getD j 0 = l[j] := by simp [List.getD, hj]
  rw [e]
  exact h _ (List.getElem_mem hj))
theorem txtL_app (a b : List Nat) (ha : ∀ x ∈ a, x < 256) (hb : ∀ x ∈ b, x < 256) : txtL a ++ txtL b = txtL (a ++ b) := by
  symm
  refine textN_is (by simp [ByteArray.size_append, txtL_size]) fun j hj => ?_
  rw [List.length_append] at hj
  rw [byteS_app, txtL_size]
  simp only [List.getD]
  by_cases h : j < a.length
  · rw [if_pos h, byteS_txtL a ha j h, List.getElem?_append_left h]; rfl
  · rw [if_neg h, byteS_txtL b hb _ (by omega), List.getElem?_append_right (by omega)]; rfl
theorem txtL_one (x : UInt8) : (⟨#[x]⟩ : ByteArray) = txtL [x.toNat] := by
  symm
  refine textN_is rfl fun j hj => ?_
  obtain rfl : j = 0 := by have : j < 1 := hj; omega
  rfl
theorem frL_lt {last : Nat} (h2 : last < 2) {t : List Nat} (ht : t.length ≤ 300) (h : ∀ x ∈ t, x < 256) : ∀ x ∈ frL last t, x < 256 := fun x hx => by
  unfold frL at hx
  simp only [List.mem_cons] at hx
  rcases hx with rfl | rfl | rfl | rfl | rfl | hx
  · omega
  · omega
  · omega
  · omega
  · omega
  · exact h x hx
theorem stoL_lt {t : Nat → List Nat} (ht : ∀ i, (t i).length ≤ 300) (h : ∀ i, ∀ x ∈ t i, x < 256) (N : Nat) : ∀ k, (∀ x ∈ stoL t N k, x < 256) ∧ ∀ x ∈ allL t k, x < 256
  | 0 => ⟨fun _ h => (by cases h), fun _ h => (by cases h)⟩
  | k + 1 => by
    have ih := stoL_lt ht h N k
    refine ⟨fun x hx => ?_, fun x hx => ?_⟩
    · rcases List.mem_append.1 hx with hx | hx
      · exact ih.1 x hx
      · exact frL_lt (by split <;> omega) (ht k) (h k) x hx
    · rcases List.mem_append.1 hx with hx | hx
      · exact ih.2 x hx
      · exact h k x hx
/-- Four bytes as a text. -/
theorem run_four (a b c d : Nat) (ha : a < 256) (hb : b < 256) (hc : c < 256) (hd : d < 256) (w : World) :
    (convert 36 9 (.slice (some ⟨w.heap.size, 0, none⟩) 4 4)).run Try.prog (w.alloc (.cells #[.int .u8 (a : Int), .int .u8 (b : Int), .int .u8 (c : Int), .int .u8 (d : Int)] 5)) = .ok (.string (txtL [a, b, c, d])) (w.alloc (.cells #[.int .u8 (a : Int), .int .u8 (b : Int), .int .u8 (c : Int), .int .u8 (d : Int)] 5)) := by
  have hk := Blk.new w 5 #[.int .u8 (a : Int), .int .u8 (b : Int), .int .u8 (c : Int), .int .u8 (d : Int)]
  have e : #[Value.int .u8 (a : Int), .int .u8 (b : Int), .int .u8 (c : Int), .int .u8 (d : Int)] = r8 4 fun i => BitVec.ofNat 8 ([a, b, c, d].getD i 0) := by
    have k : ∀ x : Nat, x < 256 → iw (BitVec.ofNat 8 x) = (x : Int) := fun x hx => by unfold iw; rw [BitVec.toNat_ofNat, Nat.mod_eq_of_lt (by omega)]
    show _ = #[Value.int .u8 (iw (BitVec.ofNat 8 a)), .int .u8 (iw (BitVec.ofNat 8 b)), .int .u8 (iw (BitVec.ofNat 8 c)), .int .u8 (iw (BitVec.ofNat 8 d))]
    rw [k a ha, k b hb, k c hc, k d hd]
  rw [e] at hk
  have := run_string_of_blk (P := Try.prog) (w.alloc (.cells (r8 4 fun i => BitVec.ofNat 8 ([a, b, c, d].getD i 0)) 5)) 36 9 5 Try.underlying36 Try.underlying5 Try.underlying9 w.heap.size 4 4 5 (fun i => BitVec.ofNat 8 ([a, b, c, d].getD i 0)) hk
  rw [e, this]
  rfl
theorem wpList_oneS {ops : Array Oper} {rest : List Oper} {o : Oper} {a : Act} {Q : Exit → Act → World → Prop} {B : Nat} {w0 w : World} {l : List Int} {v : Value} (hgd : o.guard = none) (s x : Operand)
    (ho : o.op = .call { callee := .builtin .append, args := #[s, x], argTypes := #[34, 34] }) (hs : a.eval s = v) (h : LI B w0 l v w) (y : Int)
    (hx : a.eval x = .slice (some ⟨w.heap.size, 0, none⟩) 1 1) (hn : l.length ≤ 1000)
    (k : ∀ v' w', LI B w0 (l ++ [y]) v' w' → wpList Try.prog ops Q rest (a.put o.dst v') w') :
    wpList Try.prog ops Q (o :: rest) a (w.alloc (.cells #[.int .i64 y] 3)) := by
  have hb : Below w.heap.size w (w.alloc (.cells #[.int .i64 y] 3)) := (Below.refl _ _).alloc (Nat.le_refl _) _
  have h2 := h.below hb
  obtain ⟨i0, hi, hz0, hz1, hz2⟩ := info_parts int_infoC
  refine wpList_append_own _ hgd s x 34 ho B 3 i0 (.int .i64 0) 1 8 Try.underlying34 hi hz0 hz1 hz2 rfl (by decide) v l.length _ hs h2.own ⟨w.heap.size, 0, none⟩ 1 1 [.int .i64 y] hx rfl ?_ ?_ ?_ ?_ h2.lo ?_
  · intro j u hu
    cases j with
    | zero =>
      cases hu
      rw [addr_add, Nat.zero_add, cell_of_row _ _ 0 _ _ (0, 0) (heap_alloc_new w _)]
      rfl
    | succ j => cases hu
  · intro u hu
    rw [List.mem_singleton.1 hu]; rfl
  · unfold maxLen; omega
  · omega
  · intro v' w2 hown hg _
    refine k v' w2 ⟨?_, ?_, Nat.le_trans h2.lo hg.size⟩
    · rw [List.length_append, List.map_append]; exact hown
    · refine h2.b.grown hg h2.lo fun k e => ?_
      rcases h.own.2 with ⟨h3, _⟩ | ⟨g, cap, cur, h3, h4, _⟩
      · rw [h3] at e; cases e
      · rw [h3] at e; cases e; exact h4
/-- The lengths of kind 1. -/
def fixF (i : Nat) : Int := if 143 < i ∧ i < 256 then 9 else if 255 < i ∧ i < 280 then 7 else 8
theorem xor_small (m : Nat) (h : m ≤ 300) : bits .xor .i64 (-1) (m : Int) = -1 - (m : Int) := by
  have : ∀ j : Fin 301, bits .xor .i64 (-1) (j.val : Int) = -1 - (j.val : Int) := by decide +kernel
  exact this ⟨m, by omega⟩
theorem lands_max16 {o : Oper} {a : Act} {w : World} (x : Operand) (n k : Int) (ho : o.op = .call { callee := .builtin .max, args := #[x, .const (.int .u16 k)], argTypes := #[33, 33] }) (ht : o.type = 33) (hx : a.eval x = .int .u16 n) :
    Lands Try.prog (fun w' => w' = w) (.int .u16 (max n k)) ((execOp a.eval o).run Try.prog w) := by
  refine lands_value (w := w) ?_ rfl
  have hc : a.eval (.const (.int .u16 k)) = .int .u16 k := rfl
  simp [execOp, ho, ht, hx, hc, resolve, invoke, builtin]
  by_cases h : n ≤ k
  · rw [show max n k = k by omega]
    go_simp
    intro; omega
  · rw [show max n k = n by omega]
    have h' : k < n := by omega
    go_simp
    try (intro; omega)
theorem text_some (s : ByteArray) (h : 0 < s.size) : s.toList.isEmpty = false := by
  rw [ByteArray.toList_eq]
  cases e : s.data.toList with
  | nil =>
    exfalso
    have h2 : s.data.toList.length = s.size := Array.length_toList
    rw [e] at h2
    simp at h2; omega
  | cons x l => rfl
theorem xor8n (x y : Nat) (hx : x < 256) (hy : y < 256) : bits .xor .u8 (x : Int) (y : Int) = ((x ^^^ y : Nat) : Int) := u8_xor_nat _ _ hx hy
theorem xor_lt8 (x y : Nat) (hx : x < 256) (hy : y < 256) : x ^^^ y < 256 := Nat.xor_lt_two_pow (n := 8) hx hy
theorem xor_ne {x y : Nat} (h : y ≠ 0) : x ^^^ y ≠ x := fun e => h (by
  have : x ^^^ (x ^^^ y) = x ^^^ x := by rw [e]
  rw [← Nat.xor_assoc, Nat.xor_self, Nat.zero_xor] at this
  exact this)
end Go.Proofs.Ytiphnnaanjjaoaa
