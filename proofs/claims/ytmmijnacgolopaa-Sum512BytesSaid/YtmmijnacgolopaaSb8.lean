/- appendWord, ending, Sum. -/
import Derived.Test.YtmmijnacgolopaaSb7
namespace Go.Proofs.Ytmmijnacgolopaa
open Go.RowKit
theorem u8_info : (Try.prog.info? 5).map (fun i => (i.zero, i.size, i.bytes)) = some (some (.int .u8 0), 1, 1) := by kernel_rfl
/-- Bytes in a slice that has been made since w0. -/
structure App (w0 : World) (l : List (BitVec 8)) (v : Value) (wr : World) : Prop where
  own : wr.ownsRow w0.heap.size 5 1 v l.length (l.map b8v)
  b : Below w0.heap.size w0 wr
theorem App.nil (w0 w : World) (h : Below w0.heap.size w0 w) : App w0 [] (.slice none 0 0) w := ⟨⟨rfl, .inl ⟨rfl, rfl⟩⟩, h⟩
def byteAt (x : BitVec 64) (k : Nat) : BitVec 8 := castw 8 (shrw x (56 - 8 * k))
def eightK (x : BitVec 64) : Nat → List (BitVec 8)
  | 0 => []
  | k + 1 => eightK x k ++ [byteAt x k]
def eight (x : BitVec 64) : List (BitVec 8) := eightK x 8
theorem eightK_length (x : BitVec 64) : ∀ k, (eightK x k).length = k
  | 0 => rfl
  | k + 1 => by simp [eightK, eightK_length x k]
set_option maxRecDepth 100000 in
set_option maxHeartbeats 1000000 in
theorem appendWord_any (w0 : World) (l : List (BitVec 8)) (v : Value) (x : BitVec 64) (w : World) (h : App w0 l v w) (hl : l.length ≤ 100000) :
    Calls Try.prog 21 #[v, .int .u64 (iw x)] w fun e w' => ∃ v', e = .returned v' ∧ App w0 (l ++ eight x) v' w' := by
  obtain ⟨i0, hi, hz0, hz1, hz2⟩ := info_parts u8_info
  go_enter Try.func21, Try.ntmps21
  go_wp2_with fail
  go_loopw [0, 5] (fun v i wr => ∃ k : Nat, k ≤ 8 ∧ i = .int .i64 (56 - 8 * (k : Int)) ∧ App w0 (l ++ eightK x k) v wr) (fun _ i _ => (intOf i + 8).toNat)
  case atStart => exact ⟨0, by omega, rfl, by rw [show l ++ eightK x 0 = l by simp [eightK]]; exact h⟩
  case round =>
    obtain ⟨k, hk, rfl, hr⟩ := hrel
    clear h
    by_cases hlt : k < 8
    · have hsh : (iw x : Int) / 2 ^ (56 - 8 * (k : Int)).toNat = iw (shrw x (56 - 8 * k)) := by
        rw [show (56 - 8 * (k : Int)).toNat = 56 - 8 * k by omega]
        unfold iw shrw
        rw [BitVec.toNat_ushiftRight, Nat.shiftRight_eq_div_pow, Int.natCast_ediv, Int.natCast_pow]
        rfl
      have hown := hr.own
      have hbr := hr.b
      have hll : (l ++ eightK x k).length = l.length + k := by rw [List.length_append, eightK_length]
      generalize hL : l ++ eightK x k = L at hown hll
      have HL : Hid (l ++ eightK x (k + 1) = L ++ [byteAt x k]) := by rw [← hL]; exact Lib.hid (by simp [eightK])
      clear hr hL
      go_wp2_with (at_builtin; refine wpList_append_own _ rfl (.tmp 10) (.tmp 15) 33 rfl w0.heap.size 5 i0 (.int .u8 0) 1 1 Try.underlying33 hi hz0 hz1 hz2 rfl (by decide) _ L.length (L.map b8v) rfl (hown.alloc _) ⟨wr.heap.size, 0, none⟩ 1 1 [.int .u8 (iw (castw 8 (shrw x (56 - 8 * k))))] rfl rfl ?c1 ?c2 ?c3 ?c4 ?c5 ?_)
      case c1 =>
        intro j u hu
        rw [addr_add, Nat.zero_add]
        exact (cell_of_row _ _ j _ _ (0, 0) (heap_alloc_new wr _)).trans (by rw [← hu]; simp)
      case c2 =>
        intro u hu
        simp at hu
        subst hu; rfl
      case c3 => unfold maxLen; omega
      case c4 => omega
      case c5 => have := hbr.size; simp; omega
      intro v' w2 hown2 hg2 _
      have hb3 : Below w0.heap.size w0 w2 := (hbr.alloc hbr.size _).grown hg2 (by have := hbr.size; simp; exact Nat.le_succ_of_le this) (own_le hown)
      have K : App w0 (l ++ eightK x (k + 1)) v' w2 := by
        rw [HL.out]
        have e : (L ++ [byteAt x k]).length = l.length + k + 1 := by rw [List.length_append, hll]; rfl
        exact ⟨by rw [e, List.map_append]; exact hown2, hb3⟩
      clear hown hbr hown2 hg2 hb3 hsh
      go_wp2_with fail
      go_roundw
      case rel => exact ⟨k + 1, by omega, by go_num, K⟩
      case measure => simp [intOf]; omega
    · obtain rfl : k = 8 := by omega
      go_wp2_with fail
      go_ret
      exact ⟨_, rfl, hr⟩
/-- How many bytes 0 stand behind a text and its bit. -/
def zeros (n : Nat) : Nat := (239 - n % 128) % 128
def hiW (n : Nat) : BitVec 64 := shrw (BitVec.ofNat 64 n) 61
def loW (n : Nat) : BitVec 64 := shlw (BitVec.ofNat 64 n) 3
def padB (n : Nat) : List (BitVec 8) := (litw 8 128 :: List.replicate (zeros n) (litw 8 0)) ++ eight (hiW n) ++ eight (loW n)
def padding (n : Nat) : List UInt8 := asBytes (padB n)
theorem App.shape {w0 wr : World} {l : List (BitVec 8)} {v : Value} (h : App w0 l v wr) : ∃ p c, v = .slice p l.length c := by
  rcases h.own.2 with ⟨h1, h2⟩ | ⟨g, cap, cur, h1, _⟩
  · exact ⟨none, 0, by rw [h1, h2]⟩
  · exact ⟨_, _, h1⟩
theorem b128 : Value.int .u8 128 = b8v (litw 8 128) := by kernel_rfl
theorem b0 : Value.int .u8 0 = b8v (litw 8 0) := by kernel_rfl
theorem App.one (w : World) : App w [litw 8 128] (.slice (some ⟨w.heap.size, 0, none⟩) 1 1) (w.alloc (.cells #[.int .u8 128] 5)) :=
  ⟨⟨rfl, .inr ⟨w.heap.size, 1, _, rfl, Nat.le_refl _, heap_alloc_new _ _, by simp, by unfold maxLen; omega, rfl, by rw [b128]; rfl⟩⟩, (Below.refl _ _).alloc (Nat.le_refl _) _⟩
def sliceLen : Value → Nat
  | .slice _ n _ => n
  | _ => 0
set_option maxRecDepth 100000 in
set_option maxHeartbeats 1000000 in
theorem ending_any (n : Nat) (w : World) (hn : n < 4611686018427387904) :
    Calls Try.prog 20 #[.int .i64 (n : Int)] w fun e w' => e = .returned (.string ⟨(padding n).toArray⟩) ∧ Below w.heap.size w w' := by
  obtain ⟨i0, hi, hz0, hz1, hz2⟩ := info_parts u8_info
  have hX : IntKind.u64.wrap (n : Int) = iw (BitVec.ofNat 64 n) := wrap_of_nat64 n
  go_enter Try.func20, Try.ntmps20
  go_wp2_with fail
  go_loopw [3] (fun v wr => ∃ j : Nat, j ≤ zeros n ∧ App w (litw 8 128 :: List.replicate j (litw 8 0)) v wr) (fun v _ => 200 - sliceLen v)
  case atStart => exact ⟨0, by omega, App.one w⟩
  case round =>
    obtain ⟨j, hj, hr⟩ := hrel
    obtain ⟨p, c, hv⟩ := hr.shape
    have hz : zeros n < 128 := by unfold zeros; omega
    have hll : (litw 8 128 :: List.replicate j (litw 8 0)).length = j + 1 := by simp
    rw [hll] at hv
    subst hv
    by_cases hlt : j < zeros n
    · have t1 : ((n : Int) % 128 + ((j : Int) + 1)) % 128 ≠ 112 := by unfold zeros at hlt; omega
      have t1' : ((((n : Int) % 128 + ((j : Int) + 1)) % 128) != 112) = true := by rw [bne_iff_ne]; exact t1
      have hown := hr.own
      have hbr := hr.b
      generalize hL : litw 8 128 :: List.replicate j (litw 8 0) = L at hown hll
      have HL : Hid (litw 8 128 :: List.replicate (j + 1) (litw 8 0) = L ++ [litw 8 0]) := by rw [← hL]; exact Lib.hid (by simp [List.replicate_succ'])
      clear hr hL
      rw [hll] at hown
      go_wp2_with (at_builtin; refine wpList_append_own _ rfl (.tmp 12) (.tmp 13) 33 rfl w.heap.size 5 i0 (.int .u8 0) 1 1 Try.underlying33 hi hz0 hz1 hz2 rfl (by decide) _ (j + 1) (L.map b8v) rfl (hown.alloc _) ⟨wr.heap.size, 0, none⟩ 1 1 [.int .u8 0] rfl rfl ?c1 ?c2 ?c3 ?c4 ?c5 ?_)
      case c1 =>
        intro j u hu
        rw [addr_add, Nat.zero_add]
        exact (cell_of_row _ _ j _ _ (0, 0) (heap_alloc_new wr _)).trans (by rw [← hu]; simp)
      case c2 =>
        intro u hu
        simp at hu
        subst hu; rfl
      case c3 => unfold maxLen; omega
      case c4 => omega
      case c5 => have := hbr.size; simp; omega
      intro v' w2 hown2 hg2 _
      have hb3 : Below w.heap.size w w2 := (hbr.alloc hbr.size _).grown hg2 (by have := hbr.size; simp; exact Nat.le_succ_of_le this) (own_le hown)
      have K : App w (litw 8 128 :: List.replicate (j + 1) (litw 8 0)) v' w2 := by
        rw [HL.out]
        have e : (L ++ [litw 8 0]).length = j + 1 + 1 := by rw [List.length_append, hll]; rfl
        rw [b0] at hown2
        exact ⟨by rw [e, List.map_append]; exact hown2, hb3⟩
      clear hown hbr hown2 hg2 hb3
      go_wp2_with fail
      go_roundw
      case rel => exact ⟨j + 1, by omega, K⟩
      case measure =>
        obtain ⟨p', c', hv'⟩ := K.shape
        rw [hv']
        simp [sliceLen]; omega
    · obtain rfl : j = zeros n := by omega
      have t1 : ((n : Int) % 128 + (((zeros n : Nat) : Int) + 1)) % 128 = 112 := by unfold zeros; omega
      go_wp2_with fail
      refine (appendWord_any w _ _ (hiW n) wr hr (by rw [hll]; omega)).mono ?_
      rintro e w2 ⟨v2, rfl, h2⟩
      clear hr
      go_wp2_with fail
      refine (appendWord_any w _ _ (loW n) w2 h2 (by rw [List.length_append, hll, eight, eightK_length]; omega)).mono ?_
      rintro e w3 ⟨v3, rfl, h3⟩
      clear h2
      have hcv : (convert 33 9 v3).run Try.prog w3 = .ok (.string ⟨(padding n).toArray⟩) w3 :=
        run_string_of_own w3 _ _ 5 _ Try.underlying33 Try.underlying5 Try.underlying9 _ _ _ h3.own
      have hb3 := h3.b
      clear h3
      go_wp2_with fail
      go_ret
      exact ⟨rfl, hb3⟩
def outB (s : Nat → BitVec 64) : Nat → List (BitVec 8)
  | 0 => []
  | k + 1 => outB s k ++ eight (s k)
theorem eight_length (x : BitVec 64) : (eight x).length = 8 := eightK_length x 8
theorem outB_length (s : Nat → BitVec 64) : ∀ k, (outB s k).length = 8 * k
  | 0 => rfl
  | k + 1 => by simp [outB, outB_length s k, eight_length, Nat.mul_add]
def Hs.ended (H : Hs) : Hs := H.write (padding H.size)
def Hs.out (H : Hs) : List UInt8 := asBytes (outB H.ended.state 8)
theorem padB_length (n : Nat) : (padB n).length = zeros n + 17 := by simp [padB, eight_length]
def zeroF (i : Nat) : Value := if i < 88 then .int .u64 0 else if i < 216 then .int .u8 0 else .int .i64 0
theorem zeroHash (w : World) : (zeroValue 46).run Try.prog w = .ok (.agg (row 217 zeroF)) w := by kernel_rfl
theorem Hs.f_one (H : Hs) (i : Nat) : (H.f i).oneCell' = true := by unfold Hs.f; (repeat' split) <;> rfl
set_option maxRecDepth 100000 in
set_option maxHeartbeats 2000000 in
theorem sum_any (g : Nat) (H : Hs) (w : World) (hb : HB w g H) (hn : H.size < 576460752303423488) :
    Calls Try.prog 13 #[.pointer (some ⟨g, 0, none⟩)] w fun e w' => e = .returned (.string ⟨H.out.toArray⟩) ∧ Below w.heap.size w w' := by
  have hsz : (Try.prog.info? 46).map (·.size) = some (row 217 H.f).size := by rw [row_size]; kernel_rfl
  have hone : (row 217 H.f).all (·.oneCell') = true := row_one H.f_one
  have hzv := zeroHash
  have hps : (⟨(padding H.size).toArray⟩ : ByteArray).size = zeros H.size + 17 := by
    show (padding H.size).toArray.size = _
    simp [padding, asBytes, padB_length]
  have hz : zeros H.size < 128 := by unfold zeros; omega
  have cs := hb.sz
  go_enter Try.func13, Try.ntmps13
  go_wp2_with (first
    | (refine wpList_load_row rfl 46 _ rfl g rfl 46 _ (0, 0) _ hb Try.underlying46 rfl hsz ?_)
    | (refine wpList_store_row rfl 46 _ _ rfl w.heap.size (row 217 H.f) rfl rfl 46 _ (Blk.new w _ _) hsz (by rw [row_size, row_size]) hone ?_; refine wpList_gen (fun wx => HB wx g H ∧ HB wx w.heap.size H ∧ Below w.heap.size w wx) ⟨(hb.alloc _).row_far (Nat.ne_of_lt hb.lt) _, (Blk.new w _ _).row_ _, below_setRow' ((Below.refl _ _).alloc (by omega) _) (by omega) _⟩ (fun w1 h1 => ?_); obtain ⟨h1, k1, b1⟩ := h1; have cs1 := h1.sz)
    | fail)
  refine (ending_any H.size w1 (by omega)).mono ?_
  rintro e w2 ⟨rfl, c2⟩
  have k2 := k1.below c2 k1.lt
  have b2 := b1.trans (c2.mono b1.size)
  clear h1 k1 b1 c2 cs1 hb hsz hone hzv cs
  go_wp2_with fail
  refine (write_any w.heap.size H _ w2 k2.lt k2 (by rw [hps]; omega)).mono ?_
  rintro e w3 ⟨rfl, k3, c3⟩
  have b3 : Below w.heap.size w w3 := c3.below b2 (Nat.le_refl _) b2.size
  have k3' : HB w3 w.heap.size H.ended := by simpa [Hs.ended] using k3
  clear k2 b2 c3 k3 hps hz
  have hi8 : (Try.prog.info? 43).map (·.size) = some 8 := by kernel_rfl
  have hlb : (row 8 fun i => H.ended.f (80 + i)) = row 8 fun i => Value.int .u64 (iw (H.ended.state i)) := row_ext fun i hi => H.ended.f_state hi
  go_wp2_with (refine wpList_load_part rfl 43 _ rfl w.heap.size 80 8 217 H.ended.f rfl 46 k3' (by decide) _ Try.underlying43 rfl hi8 ?_)
  clear hlb hi8 k3'
  have HO : Hid (H.out = asBytes (outB H.ended.state 8)) := Lib.hid rfl
  generalize H.ended.state = st at HO ⊢
  go_loopw [4, 18] (fun v i wr => ∃ k : Nat, k ≤ 8 ∧ i = .int .i64 k ∧ App w (outB st k) v wr) (fun _ i _ => 8 - (intOf i).toNat)
  case atStart => exact ⟨0, by omega, rfl, App.nil w w3 b3⟩
  case round =>
    obtain ⟨k, hk, rfl, hr⟩ := hrel
    clear b3
    by_cases hlt : k < 8
    · have hix : ∀ w, (Instr.index 43 (.agg (row 8 fun i => Value.int .u64 (iw (st i)))) (.int .i64 (k : Int))).run Try.prog w = .ok (.int .u64 (iw (st k))) w := fun w =>
        run_index_cell w _ 36 8 _ Try.underlying43 Try.underlying36 rfl (by kernel_rfl) _ _ k hlt (row_get _ hlt) _
      go_wp2_with fail
      refine (appendWord_any w _ _ (st k) wr hr (by rw [outB_length]; omega)).mono ?_
      rintro e w4 ⟨v4, rfl, h4⟩
      clear hr hix
      go_wp2_with fail
      go_roundw
      case rel => exact ⟨k + 1, by omega, by go_num, h4⟩
      case measure => simp [intOf]; omega
    · obtain rfl : k = 8 := by omega
      have hcv : (convert 33 9 u4).run Try.prog wr = .ok (.string ⟨(asBytes (outB st 8)).toArray⟩) wr :=
        run_string_of_own wr _ _ 5 _ Try.underlying33 Try.underlying5 Try.underlying9 _ _ _ hr.own
      have hb9 := hr.b
      clear hr hlt hk
      generalize asBytes (outB st 8) = OUT at hcv HO
      go_wp2_with fail
      go_ret
      exact ⟨by rw [HO.out]; rfl, hb9⟩
end Go.Proofs.Ytmmijnacgolopaa
