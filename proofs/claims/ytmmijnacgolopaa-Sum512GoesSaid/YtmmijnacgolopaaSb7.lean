/- Write, Len. -/
import Derived.Test.YtmmijnacgolopaaSb6
import Derived.Test.YtmmijnacgolopaaCopy
namespace Go.Proofs.Ytmmijnacgolopaa
open Go.RowKit
def Hs.put1 (H : Hs) (b : BitVec 8) : Hs := { H with block := fun i => if i = H.size % 128 then b else H.block i, size := H.size + 1 }
def Hs.put (H : Hs) (b : BitVec 8) : Hs := if H.size % 128 = 127 then (H.put1 b).mix else H.put1 b
def Hs.write (H : Hs) (l : List UInt8) : Hs := l.foldl (fun H b => H.put b.toBitVec) H
theorem Hs.write_append (H : Hs) (a b : List UInt8) : H.write (a ++ b) = (H.write a).write b := List.foldl_append
theorem Hs.size_put (H : Hs) (b : BitVec 8) : (H.put b).size = H.size + 1 := by
  unfold Hs.put; split <;> rfl
theorem Hs.size_write (l : List UInt8) : ∀ H : Hs, (H.write l).size = H.size + l.length := by
  induction l with
  | nil => intro H; rfl
  | cons b l ih => intro H; show ((H.put b.toBitVec).write l).size = _; rw [ih, Hs.size_put]; simp; omega
/-- n bytes laid where the text goes on. -/
def Hs.chunk (H : Hs) (t : Nat → BitVec 8) (n : Nat) : Hs :=
  { H with block := fun i => if H.size % 128 ≤ i ∧ i < H.size % 128 + n then t (i - H.size % 128) else H.block i, size := H.size + n }
theorem take_snoc (l : List UInt8) (k : Nat) (h : k < l.length) : l.take (k + 1) = l.take k ++ [l.getD k 0] := by
  rw [List.take_add_one, List.getD_eq_getElem?_getD, List.getElem?_eq_getElem h]; rfl
theorem Hs.chunk_put1 (H : Hs) (l : List UInt8) (n : Nat) (h : H.size % 128 + n < 128) : (H.chunk (bL l) n).put1 (bL l n) = H.chunk (bL l) (n + 1) := by
  unfold Hs.put1 Hs.chunk
  simp only [Hs.mk.injEq, true_and]
  refine ⟨?_, by omega⟩
  funext i
  have hm : (H.size + n) % 128 = H.size % 128 + n := by omega
  rw [hm]
  by_cases h1 : i = H.size % 128 + n
  · subst h1; simp
  · by_cases h2 : H.size % 128 ≤ i ∧ i < H.size % 128 + n
    · rw [if_neg h1, if_pos h2, if_pos (by omega)]
    · rw [if_neg h1, if_neg h2, if_neg (by omega)]
theorem Hs.write_chunk (H : Hs) (l : List UInt8) : ∀ n, n ≤ l.length → H.size % 128 + n < 128 → H.write (l.take n) = H.chunk (bL l) n
  | 0, _, _ => by
    show H = _
    unfold Hs.chunk
    cases H
    simp only [Hs.mk.injEq, true_and]
    exact ⟨funext fun i => by rw [if_neg (by omega)], by omega⟩
  | n + 1, hn, h => by
    rw [take_snoc l n (by omega), Hs.write_append, Hs.write_chunk H l n (by omega) (by omega)]
    show (H.chunk (bL l) n).put (bL l n) = _
    have hs : (H.chunk (bL l) n).size = H.size + n := rfl
    unfold Hs.put
    rw [hs, if_neg (by omega), Hs.chunk_put1 H l n (by omega)]
theorem Hs.write_full (H : Hs) (l : List UInt8) (n : Nat) (hn : n ≤ l.length) (h0 : 0 < n) (h : H.size % 128 + n = 128) : H.write (l.take n) = (H.chunk (bL l) n).mix := by
  obtain ⟨m, rfl⟩ : ∃ m, n = m + 1 := ⟨n - 1, by omega⟩
  rw [take_snoc l m (by omega), Hs.write_append, Hs.write_chunk H l m (by omega) (by omega)]
  show (H.chunk (bL l) m).put (bL l m) = _
  have hs : (H.chunk (bL l) m).size = H.size + m := rfl
  unfold Hs.put
  rw [hs, if_pos (by omega), Hs.chunk_put1 H l m (by omega)]
theorem Hs.f_len (H : Hs) (n i : Nat) : ({ H with size := n } : Hs).f i = if 216 ≤ i then .int .i64 n else H.f i := by
  by_cases h1 : i < 80
  · simp [Hs.f, h1, show ¬ 216 ≤ i by omega]
  · by_cases h3 : i < 88
    · simp [Hs.f, h1, h3, show ¬ 216 ≤ i by omega]
    · by_cases h4 : i < 216
      · simp [Hs.f, h1, h3, h4, show ¬ 216 ≤ i by omega]
      · simp [Hs.f, h1, h3, h4, show 216 ≤ i by omega]
theorem Hs.f_blk (H : Hs) (p n : Nat) (t : Nat → BitVec 8) (i : Nat) (hp : p + n ≤ 128) :
    over H.f (88 + p) n (fun j => .int .u8 (iw (t j))) i = ({ H with block := fun i => if p ≤ i ∧ i < p + n then t (i - p) else H.block i } : Hs).f i := by
  unfold over
  by_cases h1 : i < 80
  · rw [if_neg (by omega)]; simp [Hs.f, h1]
  · by_cases h3 : i < 88
    · rw [if_neg (by omega)]; simp [Hs.f, h1, h3]
    · by_cases h4 : i < 216
      · by_cases h5 : 88 + p ≤ i ∧ i < 88 + p + n
        · rw [if_pos h5]
          simp only [Hs.f, if_neg h1, if_neg h3, if_pos h4]
          rw [if_pos (by omega), show i - (88 + p) = i - 88 - p by omega]
        · rw [if_neg h5]
          simp only [Hs.f, if_neg h1, if_neg h3, if_pos h4]
          rw [if_neg (by omega)]
      · rw [if_neg (by omega)]; simp [Hs.f, h1, h3, h4]
section
variable {g : Nat} {H : Hs} {w : World}
theorem HB.putLen (k : HB w g H) (n : Nat) : HB (w.setCell ⟨g, 216, none⟩ (.int .i64 n)) g { H with size := n } :=
  (Blk.put k (i := 216) (by omega) _).cast_ (row_ext fun i hi => by
    rw [H.f_len n i]
    by_cases h : i = 216
    · subst h; simp
    · simp [h, show ¬ 216 ≤ i by omega])
theorem Chg.setRow {g : Nat} {w w' : World} (h : Chg g w w') (cs : Array Value) : Chg g w (w'.setRow g cs) :=
  h.trans ⟨rfl, rfl, rfl, by simp [World.setRow], fun k _ hn => setRow_other _ _ _ _ (fun e => hn e)⟩
end
theorem len_any (g : Nat) (H : Hs) (w : World) (hb : HB w g H) :
    Calls Try.prog 14 #[.pointer (some ⟨g, 0, none⟩)] w fun e w' => e = .returned (.int .i64 H.size) ∧ w = w' := by
  have cs := hb.sz
  go_enter Try.func14, Try.ntmps14
  go_wp2
  go_ret
  exact ⟨rfl, rfl⟩
theorem run_sliceAt_tail {P : Program} (w : World) (T E n : Nat) (hT : P.underlying T = some (.array n E)) (hi : (P.info? E).map (·.size) = some 1)
    (g o l : Nat) (hl : l < n) (k : IntKind) (il : Int) (el : il = (l : Int)) :
    (Instr.sliceAt T (.pointer (some ⟨g, o, none⟩)) (some (.int k il)) none none).run P w = .ok (.slice (some ⟨g, o + l, none⟩) (n - l) (n - l)) w := by
  subst el
  cases hq : P.info? E with
  | none => simp [hq] at hi
  | some i =>
    have hs : i.size = 1 := by simpa [hq] using hi
    simp [Instr.sliceAt, Instr.sureAddr, run_underlying hT, Instr.sliceBounds, Instr.sliceBound, asIntOf, Sem.run_bind, sizeOf, typeInfo, hq, hs, addr_add, show l ≤ n by omega, show ¬ n = l by omega]
def strLen : Value → Nat
  | .string t => t.size
  | _ => 0
set_option maxRecDepth 100000 in
set_option maxHeartbeats 1000000 in
theorem write_any (g : Nat) (H : Hs) (s : ByteArray) (w : World) (hg : g < w.heap.size) (hb : HB w g H) (hn : H.size + s.size < 4611686018427387904) :
    Calls Try.prog 12 #[.pointer (some ⟨g, 0, none⟩), .string s] w fun e w' => e = .returned (.tuple #[]) ∧ HB w' g (H.write s.data.toList) ∧ Chg g w w' := by
  go_enter Try.func12, Try.ntmps12
  go_wp2_with fail
  go_loopw [1] (fun v wr => ∃ (J : Hs) (t : ByteArray), v = .string t ∧ Hid (J.write t.data.toList = H.write s.data.toList) ∧ J.size + t.size = H.size + s.size ∧ HB wr g J ∧ Chg g w wr) (fun v _ => strLen v)
  case atStart => exact ⟨H, s, rfl, Lib.hid rfl, rfl, hb, Chg.refl g w⟩
  case round =>
    obtain ⟨J, t, rfl, HW, hsz, hj, hc⟩ := hrel
    have hJ : J.size + t.size < 4611686018427387904 := by omega
    have hgr : g < wr.heap.size := Nat.lt_of_lt_of_le hg hc.size
    clear hb
    by_cases hlt : 0 < t.size
    · have cs := hj.sz
      obtain ⟨p, hp⟩ : ∃ p, p = J.size % 128 := ⟨_, rfl⟩
      have hp128 : p < 128 := by omega
      have hpe : (J.size : Int) % 128 = (p : Int) := by omega
      have hpi : (J.size : Int).tmod 128 = (p : Int) := by rw [Int.tmod_eq_emod_of_nonneg (by omega)]; omega
      have hsl : ∀ w, (Instr.sliceAt 44 (.pointer (some ⟨g, 88, none⟩)) (some (.int .i64 (p : Int))) none none).run Try.prog w = .ok (.slice (some ⟨g, 88 + p, none⟩) (128 - p) (128 - p)) w := by
        intro w
        exact run_sliceAt_tail w _ 5 128 Try.underlying44 (by kernel_rfl) g 88 p hp128 _ _ rfl
      obtain ⟨n, hnn⟩ : ∃ n, n = min t.size (128 - p) := ⟨_, rfl⟩
      have hnp : 88 + p + n ≤ 217 := by omega
      have HP := Lib.hid hp
      have HN := Lib.hid hnn
      clear hp hnn
      have hi1 : (Try.prog.info? 5).map (·.size) = some 1 := by kernel_rfl
      go_wp2_with fail
      go_region_law (
        (refine step_copy_string rfl (.tmp 16) (.tmp 17) 33 9 rfl 5 Try.underlying33 hi1 g (88 + p) (128 - p) (128 - p) 217 J.f t rfl rfl hj n HN.out hnp ?_))
      obtain ⟨J1, hJ1⟩ : ∃ J1 : Hs, J1 = { J with block := fun i => if p ≤ i ∧ i < p + n then bS t (i - p) else J.block i } := ⟨_, rfl⟩
      have h1 : HB (wr.drew.setRow g (row 217 (over J.f (88 + p) n fun i => .int .u8 (iw (bS t i))))) g J1 := by
        subst hJ1
        exact (hj.drew.row_ _).cast_ (row_ext fun i _ => J.f_blk p n (bS t) i (by have := HN.out; omega))
      have hsz1 : J1.size = J.size := by rw [hJ1]
      have hJc : J.chunk (bS t) n = { J1 with size := J.size + n } := by rw [hJ1]; unfold Hs.chunk; rw [← HP.out]
      have HJ := Lib.hid hJc
      clear hJ1 hJc
      refine any_gen (F := fun w => Exit.then _ _ _ _ w) (fun wx => HB wx g J1 ∧ Chg g w wx) ⟨h1, hc.drew.setRow _⟩ (fun w4 h4 => ?_)
      obtain ⟨h4, c4⟩ := h4
      have cs4 := h4.sz
      rw [hsz1] at cs4
      have fs4 := h4.frozen 216
      have h5 : HB (w4.setCell ⟨g, 216, none⟩ (.int .i64 ((J.size : Int) + (n : Int)))) g (J.chunk (bS t) n) := by
        rw [HJ.out]; exact h4.putLen (J.size + n)
      have c5 := c4.setCell 216 (.int .i64 ((J.size : Int) + (n : Int)))
      have hg5 : g < (w4.setCell ⟨g, 216, none⟩ (.int .i64 ((J.size : Int) + (n : Int)))).heap.size := Nat.lt_of_lt_of_le hg c5.size
      have hnt : n ≤ t.size := by have := HN.out; omega
      have hn0 : 0 < n := by have := HN.out; omega
      have cs5 : (w4.setCell ⟨g, 216, none⟩ (.int .i64 ((J.size : Int) + (n : Int)))).cell? ⟨g, 216, none⟩ = some (.int .i64 ((J.size : Int) + (n : Int))) := h5.sz
      have hrest : (t.extract n t.size).data.toList = t.data.toList.drop n := by
        rw [ByteArray.data_extract, Array.toList_extract]
        show (t.data.toList.drop n).take (t.size - n) = _
        rw [List.take_of_length_le (by rw [List.length_drop, Array.length_toList]; show t.data.size - n ≤ t.size - n; exact Nat.le_refl _)]
      have htl : n ≤ t.data.toList.length := by rw [Array.length_toList]; exact hnt
      have HS := Lib.hid (⟨hrest, htl⟩ : _ ∧ _)
      have hes : (t.extract n t.size).size = t.size - n := by simp
      have HE := Lib.hid hes
      clear h1 hj hc cs h4 c4 hrest htl hes hsl hpe hpi
      by_cases hful : (J.size + n) % 128 = 0
      · have hfi : ((J.size : Int) + (n : Int)) % 128 = 0 := by omega
        have HW2 : Hid ((J.chunk (bS t) n).mix = J.write (t.data.toList.take n)) := by
          rw [J.write_full t.data.toList n HS.out.2 hn0 (by have := HP.out; have := HN.out; omega), bS_bL]
          exact Lib.hid rfl
        go_wp2_with fail
        refine (mix_any g _ _ hg5 h5).mono ?_
        rintro e w6 ⟨rfl, h6, c6⟩
        have c6' := c5.trans c6
        clear h5 c5 cs4 fs4 cs5 hg5 c6
        go_wp2_with fail
        go_roundw
        case rel =>
          refine ⟨_, _, rfl, ?_, ?_, h6, c6'⟩
          · rw [HW2.out, HS.out.1, ← Hs.write_append, List.take_append_drop]; exact Lib.hid HW.out
          · rw [HE.out]; show J.size + n + (t.size - n) = _; omega
        case measure => show (t.extract n t.size).size < t.size; rw [HE.out]; omega
      · have hfi : ¬ (((J.size : Int) + (n : Int)) % 128 = 0) := by omega
        have HW2 : Hid (J.chunk (bS t) n = J.write (t.data.toList.take n)) := by
          rw [J.write_chunk t.data.toList n HS.out.2 (by have := HP.out; have := HN.out; omega), bS_bL]
          exact Lib.hid rfl
        go_wp2_with fail
        go_roundw
        case rel =>
          refine ⟨_, _, rfl, ?_, ?_, h5, c5⟩
          · rw [HW2.out, HS.out.1, ← Hs.write_append, List.take_append_drop]; exact Lib.hid HW.out
          · rw [HE.out]; show J.size + n + (t.size - n) = _; omega
        case measure => show (t.extract n t.size).size < t.size; rw [HE.out]; omega
    · go_wp2_with fail
      go_end0
      have e : t.data.toList = [] := List.eq_nil_of_length_eq_zero (by rw [Array.length_toList]; show t.size = 0; omega)
      have hw := HW.out
      rw [e] at hw
      refine ⟨rfl, ?_, hc⟩
      rw [← hw]; exact hj
end Go.Proofs.Ytmmijnacgolopaa
