/- CrcAlike: the walk. -/
import Derived.Test.YtdekapkdgbmjbaaCe
import Derived.Test.YtdekapkdgbmjbaaCb
import Derived.Test.YtdekapkdgbmjbaaPu
import Derived.Laws.BitsAllLaws
namespace Go.Proofs.Ytdekapkdgbmjbaa
open Go.RowKit
theorem xor8w (x y : BitVec 8) : bits .xor .u8 (iw x) (iw y) = iw (xorw x y) := by
  simp only [iw, xorw, BitVec.toNat_xor]; exact u8_xor_nat _ _ x.isLt y.isLt
def b8 (s : ByteArray) (i : Nat) : BitVec 8 := BitVec.ofNat 8 (byteS s i)
theorem b8_at (s : ByteArray) (i : Nat) (h : i < s.size) : ((s[i].toNat : Nat) : Int) = iw (b8 s i) := by
  have h8 : byteS s i < 2 ^ 8 := byteS_lt _ _
  unfold b8 iw
  rw [byteS_at s i h, BitVec.toNat_ofNat, Nat.mod_eq_of_lt h8]
/-- The bytes of the three, xor, the first k. -/
def alF (a b c : ByteArray) (k j : Nat) : BitVec 8 := if j < k then xorw (xorw (b8 a j) (b8 b j)) (b8 c j) else 0#8
theorem alF_put (a b c : ByteArray) (k j : Nat) : (if j = k then Value.int .u8 (iw (xorw (xorw (b8 a k) (b8 b k)) (b8 c k))) else Value.int .u8 (iw (alF a b c k j))) = Value.int .u8 (iw (alF a b c (k + 1) j)) := by
  unfold alF
  by_cases h : j = k
  · subst h; rw [if_pos rfl, if_pos (by omega)]
  · rw [if_neg h]
    by_cases h2 : j < k
    · rw [if_pos h2, if_pos (by omega)]
    · rw [if_neg h2, if_neg (by omega)]
structure AlW (a b c : ByteArray) (n k g : Nat) (w wr : World) : Prop where
  o : Blk wr g 5 (r8 n (alF a b c k))
  l : Below w.heap.size w wr
theorem AlW.put {a b c : ByteArray} {n k g : Nat} {w wr : World} (h : AlW a b c n k g w wr) (hk : k < n) (hg : w.heap.size ≤ g) : AlW a b c n (k + 1) g w (wr.setCell ⟨g, k, none⟩ (.int .u8 (iw (xorw (xorw (b8 a k) (b8 b k)) (b8 c k))))) :=
  ⟨(h.o.put hk _).cast_ (row_ext fun i _ => alF_put a b c k i), h.l.setCell hg _⟩
theorem AlW.below {a b c : ByteArray} {n k g : Nat} {w wr w' : World} (h : AlW a b c n k g w wr) (hb : Below wr.heap.size wr w') : AlW a b c n k g w w' :=
  ⟨h.o.below hb h.o.lt, h.l.trans (hb.mono h.l.size)⟩
theorem bytes_text (n : Nat) (f : Nat → BitVec 8) : (⟨(asBytes ((List.range n).map f)).toArray⟩ : ByteArray) = textN n fun i => (f i).toNat := by
  unfold textN
  congr 3
  exact List.map_congr_left fun i _ => by simp
theorem b32_b8 (s : ByteArray) (i : Nat) : b32 (b8 s i) = litw 32 (byteS s i) := by
  unfold b32 b8
  have h8 : byteS s i < 2 ^ 8 := byteS_lt _ _
  rw [BitVec.toNat_ofNat, Nat.mod_eq_of_lt h8]
theorem alike (a b c : ByteArray) (n : Nat) (ha : n ≤ a.size) (hb : n ≤ b.size) (hc : n ≤ c.size) :
    moreT 0#32 (textN n fun i => (alF a b c n i).toNat) = xorw (xorw (moreT 0#32 (a.extract 0 n)) (moreT 0#32 (b.extract 0 n))) (moreT 0#32 (c.extract 0 n)) := by
  refine more_three (n := n) (by rw [ByteArray.size_extract]; omega) (by rw [ByteArray.size_extract]; omega) (by rw [ByteArray.size_extract]; omega) (textN_size _ _) fun i hi => ?_
  unfold byteW
  rw [byteS_textN _ _ _ hi (alF a b c n i).isLt, byteS_ext _ _ _ _ ha (by omega), byteS_ext _ _ _ _ hb (by omega), byteS_ext _ _ _ _ hc (by omega), Nat.zero_add]
  show b32 (alF a b c n i) = _
  unfold alF
  rw [if_pos hi, b32_xor, b32_xor, b32_b8, b32_b8, b32_b8]
theorem lands_min4 {o : Oper} {a : Act} {w : World} (x y z : Operand) (n m l k r : Nat) (hr : r = min (min (min n m) l) k) (ho : o.op = .call { callee := .builtin .min, args := #[x, y, z, .const (.int .i64 (k : Int))], argTypes := #[3, 3, 3, 3] }) (ht : o.type = 3)
    (hx : a.eval x = .int .i64 (n : Int)) (hy : a.eval y = .int .i64 (m : Int)) (hz : a.eval z = .int .i64 (l : Int)) :
    Lands Try.prog (fun w' => w' = w) (.int .i64 (r : Int)) ((execOp a.eval o).run Try.prog w) := by
  refine lands_value (w := w) ?_ rfl
  have hc : a.eval (.const (.int .i64 (k : Int))) = .int .i64 (k : Int) := rfl
  simp [execOp, ho, ht, hx, hy, hz, hc, resolve, invoke, builtin]
  have e : ∀ at_ ty, (Builtin.min_ at_ ty #[Value.int .i64 (n : Int), .int .i64 (m : Int), .int .i64 (l : Int), .int .i64 (k : Int)]).run Try.prog w = .ok (.int .i64 (r : Int)) w := fun at_ ty => by
    simp only [Builtin.min_, Builtin.min2, List.foldlM, Sem.run_bind, Sem.run_pure, Result.andThen]
    subst hr
    congr 2
    split <;> split <;> split <;> omega
  rw [e]
  rfl
set_option maxRecDepth 100000 in
set_option maxHeartbeats 1000000 in
theorem crcAlike_any (a b c : ByteArray) (w : World) (ha : a.size ≤ 140737488351232) (hb : b.size ≤ 140737488351232) (hc : c.size ≤ 140737488351232) :
    Calls Try.prog 6 #[.string a, .string b, .string c] w fun e w' => e = .returned (.bool true) ∧ Below w.heap.size w w' := by
  obtain ⟨n, hn⟩ : ∃ n, n = min (min (min a.size b.size) c.size) 300 := ⟨_, rfl⟩
  have hmk : ∀ w, (Instr.makeSlice 29 (.int .i64 (n : Int)) (.int .i64 (n : Int))).run Try.prog w = .ok (.slice (some ⟨w.heap.size, 0, none⟩) n n) (w.alloc (.cells (r8 n fun _ => 0#8) 5)) := run_zeros n (by omega)
  have ha1 : n ≤ a.size := by omega
  have hb1 : n ≤ b.size := by omega
  have hc1 : n ≤ c.size := by omega
  have hn3 : n ≤ 300 := by omega
  have HN := Lib.hid hn
  clear hn ha hb hc
  go_enter Try.func6, Try.ntmps6
  go_wp2_with fail
  refine (examples8_any _).mono ?_
  rintro e w1 ⟨rfl, b1⟩
  have L1 := Lib.hid b1.size
  have B1 := Lib.hid b1
  clear b1
  go_wp2_with (refine wpList_valK (.int .i64 (n : Int)) rfl (lands_min4 (.tmp 15) (.tmp 17) (.tmp 19) a.size b.size c.size 300 n HN.out rfl rfl rfl rfl rfl) ?_; intro wq hq; subst hq)
  go_loopw [10] (fun i wr => ∃ k : Nat, k ≤ n ∧ i = .int .i64 (k : Int) ∧ AlW a b c n k wq.heap.size w wr) (fun i _ => n - (intOf i).toNat)
  case atStart => exact ⟨0, by omega, rfl, ⟨(Blk.new wq _ _).cast_ (row_ext fun i _ => by unfold alF; rw [if_neg (by omega)]), B1.out.alloc L1.out _⟩⟩
  case round =>
    obtain ⟨k, hk, rfl, hr⟩ := hrel
    by_cases hlt : k < n
    · have hka : k < a.size := by omega
      have hkb : k < b.size := by omega
      have hkc : k < c.size := by omega
      have ea := b8_at a k hka
      have eb := b8_at b k hkb
      have ec := b8_at c k hkc
      have x1 := xor8w (b8 a k) (b8 b k)
      have x2 := xor8w (xorw (b8 a k) (b8 b k)) (b8 c k)
      go_wp2_with fail
      refine wp_region_anyL (Two 14 1000 fun f1 _ wx => AlW a b c n (if f1 then k + 1 else k) wq.heap.size w wx) (by kernel_rfl) ⟨hr.o.drew, hr.l.drew⟩ ?_
      refine anyL_take (i := 0) (v := ?_) rfl (by kernel_rfl) (by kernel_rfl) (by kernel_rfl) (yl_other (by decide) (by decide) rfl (fun f1 f2 wx hT => ?_)) ?_; rotate_left
      · refine lands_value (w := wx) ?_ hT; go_simp <;> rfl
      simp only [pu]
      refine anyL_take (i := 1) (v := ?_) rfl (by kernel_rfl) (by kernel_rfl) (by kernel_rfl) (yl_other (by decide) (by decide) rfl (fun f1 f2 wx hT => ?_)) ?_; rotate_left
      · refine lands_value (w := wx) ?_ hT; go_simp <;> rfl
      simp only [pu]
      refine anyL_take (i := 2) (v := ?_) rfl (by kernel_rfl) (by kernel_rfl) (by kernel_rfl) (yl_other (by decide) (by decide) rfl (fun f1 f2 wx hT => ?_)) ?_; rotate_left
      · refine lands_value (w := wx) ?_ hT; go_simp <;> rfl
      simp only [pu]
      refine anyL_take (i := 3) (v := ?_) rfl (by kernel_rfl) (by kernel_rfl) (by kernel_rfl) (yl_other (by decide) (by decide) rfl (fun f1 f2 wx hT => ?_)) ?_; rotate_left
      · refine lands_value (w := wx) ?_ hT; go_simp <;> rfl
      simp only [pu]
      refine anyL_take (i := 4) (v := .int .u8 (iw (b8 a k))) rfl (by kernel_rfl) (by kernel_rfl) (by kernel_rfl) (yl_other (by decide) (by decide) rfl (fun f1 f2 wx hT => ?_)) ?_
      · refine lands_value (w := wx) ?_ hT; go_simp
      simp only [pu]
      refine anyL_take (i := 5) (v := ?_) rfl (by kernel_rfl) (by kernel_rfl) (by kernel_rfl) (yl_other (by decide) (by decide) rfl (fun f1 f2 wx hT => ?_)) ?_; rotate_left
      · refine lands_value (w := wx) ?_ hT; go_simp <;> rfl
      simp only [pu]
      refine anyL_take (i := 6) (v := ?_) rfl (by kernel_rfl) (by kernel_rfl) (by kernel_rfl) (yl_other (by decide) (by decide) rfl (fun f1 f2 wx hT => ?_)) ?_; rotate_left
      · refine lands_value (w := wx) ?_ hT; go_simp <;> rfl
      simp only [pu]
      refine anyL_take (i := 7) (v := .int .u8 (iw (b8 b k))) rfl (by kernel_rfl) (by kernel_rfl) (by kernel_rfl) (yl_other (by decide) (by decide) rfl (fun f1 f2 wx hT => ?_)) ?_
      · refine lands_value (w := wx) ?_ hT; go_simp
      simp only [pu]
      refine anyL_take (i := 8) (v := .int .u8 (iw (xorw (b8 a k) (b8 b k)))) rfl (by kernel_rfl) (by kernel_rfl) (by kernel_rfl) (yl_other (by decide) (by decide) rfl (fun f1 f2 wx hT => ?_)) ?_
      · refine lands_value (w := wx) ?_ hT; go_simp
      simp only [pu]
      refine anyL_take (i := 9) (v := ?_) rfl (by kernel_rfl) (by kernel_rfl) (by kernel_rfl) (yl_other (by decide) (by decide) rfl (fun f1 f2 wx hT => ?_)) ?_; rotate_left
      · refine lands_value (w := wx) ?_ hT; go_simp <;> rfl
      simp only [pu]
      refine anyL_take (i := 10) (v := ?_) rfl (by kernel_rfl) (by kernel_rfl) (by kernel_rfl) (yl_other (by decide) (by decide) rfl (fun f1 f2 wx hT => ?_)) ?_; rotate_left
      · refine lands_value (w := wx) ?_ hT; go_simp <;> rfl
      simp only [pu]
      refine anyL_take (i := 11) (v := .int .u8 (iw (b8 c k))) rfl (by kernel_rfl) (by kernel_rfl) (by kernel_rfl) (yl_other (by decide) (by decide) rfl (fun f1 f2 wx hT => ?_)) ?_
      · refine lands_value (w := wx) ?_ hT; go_simp
      simp only [pu]
      refine anyL_take (i := 12) (v := .int .u8 (iw (xorw (xorw (b8 a k) (b8 b k)) (b8 c k)))) rfl (by kernel_rfl) (by kernel_rfl) (by kernel_rfl) (yl_other (by decide) (by decide) rfl (fun f1 f2 wx hT => ?_)) ?_
      · refine lands_value (w := wx) ?_ hT; go_simp
      simp only [pu]
      refine anyL_take (i := 13) (v := ?_) rfl (by kernel_rfl) (by kernel_rfl) (by kernel_rfl) (yl_other (by decide) (by decide) rfl (fun f1 f2 wx hT => ?_)) ?_; rotate_left
      · refine lands_value (w := wx) ?_ hT; go_simp <;> rfl
      simp only [pu]
      refine anyL_take (i := 14) (v := undef) rfl (by kernel_rfl) (by kernel_rfl) (by kernel_rfl) (yl_first (by decide) rfl (fun f2 wx hT => ?_)) ?_
      · have co := hT.o.at_ hlt; have fo := hT.o.frozen k; have K := hT.put hlt L1.out; go_simp; exact ⟨rfl, K⟩
      simp only [Act.put]
      refine anyL_done (by kernel_rfl) (fun w3 (K : AlW a b c n (k + 1) wq.heap.size w w3) => ?_) _
      clear hr
      go_wp2_with fail
      go_roundw
      case rel => exact ⟨k + 1, by omega, by go_num, K⟩
      case measure => simp [intOf]; omega
    · obtain rfl : k = n := by omega
      have eL := alike a b c k ha1 hb1 hc1
      obtain ⟨L, hL⟩ : ∃ L, (textN k fun i => (alF a b c k i).toNat) = L := ⟨_, rfl⟩
      have hLs : L.size = k := by rw [← hL, textN_size]
      have HL := Lib.hid hL
      have CA := Lib.hid (sum_crc (a.extract 0 k) (by rw [ByteArray.size_extract]; omega) _ rfl)
      have CB := Lib.hid (sum_crc (b.extract 0 k) (by rw [ByteArray.size_extract]; omega) _ rfl)
      have CC := Lib.hid (sum_crc (c.extract 0 k) (by rw [ByteArray.size_extract]; omega) _ rfl)
      have CL := Lib.hid (sum_crc L (by omega) (xorw (xorw (moreT 0#32 (a.extract 0 k)) (moreT 0#32 (b.extract 0 k))) (moreT 0#32 (c.extract 0 k))) (by rw [← hL]; exact eL))
      generalize moreT 0#32 (a.extract 0 k) = ya at *
      generalize moreT 0#32 (b.extract 0 k) = yb at *
      generalize moreT 0#32 (c.extract 0 k) = yc at *
      clear eL hL
      go_wp2_with fail
      refine wp_region_anyL (Two 1000 1001 fun _ _ wx => AlW a b c k k wq.heap.size w wx) (by kernel_rfl) ⟨hr.o.drew, hr.l.drew⟩ ?_
      refine anyL_take (i := 0) (v := ?_) rfl (by kernel_rfl) (by kernel_rfl) (by kernel_rfl) (yl_other (by decide) (by decide) rfl (fun f1 f2 wx hT => ?_)) ?_; rotate_left
      · refine lands_value (w := wx) ?_ hT; go_simp <;> rfl
      simp only [pu]
      refine anyL_take (i := 1) (v := ?_) rfl (by kernel_rfl) (by kernel_rfl) (by kernel_rfl) (yl_other (by decide) (by decide) rfl (fun f1 f2 wx hT => ?_)) ?_; rotate_left
      · refine lands_value (w := wx) ?_ hT; go_simp <;> rfl
      simp only [pu]
      refine anyL_take (i := 2) (v := ?_) rfl (by kernel_rfl) (by kernel_rfl) (by kernel_rfl) (yl_other (by decide) (by decide) rfl (fun f1 f2 wx hT => ?_)) ?_; rotate_left
      · refine lands_value (w := wx) ?_ hT; go_simp <;> rfl
      simp only [pu]
      refine anyL_take (i := 3) (v := .string L) rfl (by kernel_rfl) (by kernel_rfl) (by kernel_rfl) (yl_other (by decide) (by decide) rfl (fun f1 f2 wx hT => ?_)) ?_
      · refine lands_value (w := wx) ?_ hT; have hcv := run_string_of_blk (P := Try.prog) wx 29 9 5 Try.underlying29 Try.underlying5 Try.underlying9 wq.heap.size k k _ _ hT.o; rw [bytes_text, HL.out] at hcv; go_simp
      simp only [pu]
      refine anyL_take (i := 4) (v := .int .u32 (iw (xorw (xorw ya yb) yc))) rfl (by kernel_rfl) (by kernel_rfl) (by kernel_rfl) (yl_other (by decide) (by decide) rfl (fun f1 f2 wx hT => ?_)) ?_
      · exact lands_calls (w := wx) ((CL.out wx).mono fun _ _ ⟨he, hb⟩ => ⟨he, hT.below hb⟩) (by go_simp)
      simp only [pu]
      refine anyL_take (i := 5) (v := ?_) rfl (by kernel_rfl) (by kernel_rfl) (by kernel_rfl) (yl_other (by decide) (by decide) rfl (fun f1 f2 wx hT => ?_)) ?_; rotate_left
      · refine lands_value (w := wx) ?_ hT; go_simp <;> rfl
      simp only [pu]
      refine anyL_take (i := 6) (v := ?_) rfl (by kernel_rfl) (by kernel_rfl) (by kernel_rfl) (yl_other (by decide) (by decide) rfl (fun f1 f2 wx hT => ?_)) ?_; rotate_left
      · refine lands_value (w := wx) ?_ hT; go_simp <;> rfl
      simp only [pu]
      refine anyL_take (i := 7) (v := ?_) rfl (by kernel_rfl) (by kernel_rfl) (by kernel_rfl) (yl_other (by decide) (by decide) rfl (fun f1 f2 wx hT => ?_)) ?_; rotate_left
      · refine lands_value (w := wx) ?_ hT; go_simp <;> rfl
      simp only [pu]
      refine anyL_take (i := 8) (v := .int .u32 (iw ya)) rfl (by kernel_rfl) (by kernel_rfl) (by kernel_rfl) (yl_other (by decide) (by decide) rfl (fun f1 f2 wx hT => ?_)) ?_
      · exact lands_calls (w := wx) ((CA.out wx).mono fun _ _ ⟨he, hb⟩ => ⟨he, hT.below hb⟩) (by go_simp)
      simp only [pu]
      refine anyL_take (i := 9) (v := ?_) rfl (by kernel_rfl) (by kernel_rfl) (by kernel_rfl) (yl_other (by decide) (by decide) rfl (fun f1 f2 wx hT => ?_)) ?_; rotate_left
      · refine lands_value (w := wx) ?_ hT; go_simp <;> rfl
      simp only [pu]
      refine anyL_take (i := 10) (v := ?_) rfl (by kernel_rfl) (by kernel_rfl) (by kernel_rfl) (yl_other (by decide) (by decide) rfl (fun f1 f2 wx hT => ?_)) ?_; rotate_left
      · refine lands_value (w := wx) ?_ hT; go_simp <;> rfl
      simp only [pu]
      refine anyL_take (i := 11) (v := ?_) rfl (by kernel_rfl) (by kernel_rfl) (by kernel_rfl) (yl_other (by decide) (by decide) rfl (fun f1 f2 wx hT => ?_)) ?_; rotate_left
      · refine lands_value (w := wx) ?_ hT; go_simp <;> rfl
      simp only [pu]
      refine anyL_take (i := 12) (v := .int .u32 (iw yb)) rfl (by kernel_rfl) (by kernel_rfl) (by kernel_rfl) (yl_other (by decide) (by decide) rfl (fun f1 f2 wx hT => ?_)) ?_
      · exact lands_calls (w := wx) ((CB.out wx).mono fun _ _ ⟨he, hb⟩ => ⟨he, hT.below hb⟩) (by go_simp)
      simp only [pu]
      refine anyL_take (i := 13) (v := ?_) rfl (by kernel_rfl) (by kernel_rfl) (by kernel_rfl) (yl_other (by decide) (by decide) rfl (fun f1 f2 wx hT => ?_)) ?_; rotate_left
      · refine lands_value (w := wx) ?_ hT; go_simp <;> rfl
      simp only [pu]
      refine anyL_take (i := 14) (v := ?_) rfl (by kernel_rfl) (by kernel_rfl) (by kernel_rfl) (yl_other (by decide) (by decide) rfl (fun f1 f2 wx hT => ?_)) ?_; rotate_left
      · refine lands_value (w := wx) ?_ hT; go_simp <;> rfl
      simp only [pu]
      refine anyL_take (i := 15) (v := ?_) rfl (by kernel_rfl) (by kernel_rfl) (by kernel_rfl) (yl_other (by decide) (by decide) rfl (fun f1 f2 wx hT => ?_)) ?_; rotate_left
      · refine lands_value (w := wx) ?_ hT; go_simp <;> rfl
      simp only [pu]
      refine anyL_take (i := 16) (v := ?_) rfl (by kernel_rfl) (by kernel_rfl) (by kernel_rfl) (yl_other (by decide) (by decide) rfl (fun f1 f2 wx hT => ?_)) ?_; rotate_left
      · refine lands_value (w := wx) ?_ hT; go_simp <;> rfl
      simp only [pu]
      refine anyL_take (i := 17) (v := .int .u32 (iw yc)) rfl (by kernel_rfl) (by kernel_rfl) (by kernel_rfl) (yl_other (by decide) (by decide) rfl (fun f1 f2 wx hT => ?_)) ?_
      · exact lands_calls (w := wx) ((CC.out wx).mono fun _ _ ⟨he, hb⟩ => ⟨he, hT.below hb⟩) (by go_simp)
      simp only [pu]
      refine anyL_take (i := 18) (v := ?_) rfl (by kernel_rfl) (by kernel_rfl) (by kernel_rfl) (yl_other (by decide) (by decide) rfl (fun f1 f2 wx hT => ?_)) ?_; rotate_left
      · refine lands_value (w := wx) ?_ hT; go_simp <;> rfl
      simp only [pu]
      refine anyL_take (i := 19) (v := ?_) rfl (by kernel_rfl) (by kernel_rfl) (by kernel_rfl) (yl_other (by decide) (by decide) rfl (fun f1 f2 wx hT => ?_)) ?_; rotate_left
      · refine lands_value (w := wx) ?_ hT; go_simp <;> rfl
      simp only [pu]
      refine anyL_take (i := 20) (v := ?_) rfl (by kernel_rfl) (by kernel_rfl) (by kernel_rfl) (yl_other (by decide) (by decide) rfl (fun f1 f2 wx hT => ?_)) ?_; rotate_left
      · refine lands_value (w := wx) ?_ hT; go_simp <;> rfl
      simp only [pu]
      refine anyL_take (i := 21) (v := ?_) rfl (by kernel_rfl) (by kernel_rfl) (by kernel_rfl) (yl_other (by decide) (by decide) rfl (fun f1 f2 wx hT => ?_)) ?_; rotate_left
      · refine lands_value (w := wx) ?_ hT; go_simp <;> rfl
      simp only [pu]
      refine anyL_done (by kernel_rfl) (fun w3 (K : AlW a b c k k wq.heap.size w w3) => ?_) _
      have hl := K.l
      clear hr K
      go_wp2_with fail
      go_ret
      exact ⟨rfl, hl⟩
end Go.Proofs.Ytdekapkdgbmjbaa
