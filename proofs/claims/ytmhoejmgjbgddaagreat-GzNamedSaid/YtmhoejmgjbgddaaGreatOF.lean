/- A drawn region, once more: what comes behind the operation that changes the world; two bytes as a text; a member with a name, a comment, more bytes. -/
import Derived.Test.YtmhoejmgjbgddaaGreatOE
import Derived.Test.YtmhoejmgjbgddaaGreatMA
namespace Go.Proofs.YtmhoejmgjbgddaaGreat
open Go.RowKit
section
variable {P : Program} {ops : Array Oper} {md : Region.Mode} {T : Bool → Bool → World → Prop} {s t : Nat}
def behind (md : Region.Mode) (ops : Array Oper) (n i s : Nat) : Bool := (upMany md ops n (upOnce md ops [i])).contains s
theorem already {L : Array Bool} {n i s : Nat} (hm : May md ops i L) (hw : behind md ops n i s = true) : L.getD s false = true := by
 obtain ⟨_, o, ho, hall⟩ := mem_ready.1 hm.ready
 refine upMany_listed hm.closed n (upOnce md ops [i]) (fun j hj => ?_) s (by simpa [behind] using hw)
 unfold upOnce at hj
 obtain ⟨k, hk, hj⟩ := List.mem_flatMap.1 hj
 rw [List.mem_singleton.1 hk, ho] at hj
 simp only [Option.map_some, Option.getD_some, List.mem_map, List.mem_filter] at hj
 obtain ⟨e, ⟨he, hb⟩, rfl⟩ := hj
 exact hall e (Array.mem_toList_iff.1 he) hb
theorem yl_behind {i n : Nat} {o : Oper} {v : Value} {a : Act} (hs : i ≠ s) (ht : i ≠ t) (hb : behind md ops n i s = true) (hw : Region.wanted o (yielded ops a.tmps) = true)
  (h : ∀ c w, T true c w → Lands P (T true c) v ((execOp a.eval o).run P w)) : YieldsL P md ops (Two s t T) i o v a :=
 .inl ⟨hw, fun L w hm hS => by unfold Two at *; rw [getD_set_ne false hs, getD_set_ne false ht]; rw [already hm hb] at hS ⊢; exact h _ w hS⟩
end
def twoB (n : Nat) : ByteArray := txtL [n % 256, n / 256 % 256]
theorem twoB_size (n : Nat) : (twoB n).size = 2 := textN_size _ _
theorem byteS_two (n j : Nat) (hj : j < 2) : byteS (twoB n) j = [n % 256, n / 256 % 256].getD j 0 := by
 have : j = 0 ∨ j = 1 := by omega
 unfold twoB txtL
 rcases this with rfl | rfl
 ·exact byteS_textN _ _ 0 (show (0 : Nat) < 2 by decide) (Nat.mod_lt _ (by decide))
 ·exact byteS_textN _ _ 1 (show (1 : Nat) < 2 by decide) (Nat.mod_lt _ (by decide))
theorem four_two (n : Nat) : (fourB n).extract 0 2 = twoB n := by
 have hz : (fourB n).size = 4 := textN_size _ _
 refine text_same (by rw [ByteArray.size_extract, hz, twoB_size]; rfl) fun j hj => ?_
 rw [ByteArray.size_extract, hz] at hj
 rw [byteS_ext _ 0 2 j (by omega) (by omega), Nat.zero_add, byteS_two n j (by omega)]
 have : j = 0 ∨ j = 1 := by omega
 unfold fourB txtL
 rcases this with rfl | rfl
 ·exact byteS_textN _ _ 0 (show (0 : Nat) < 4 by decide) (Nat.mod_lt _ (by decide))
 ·exact byteS_textN _ _ 1 (show (1 : Nat) < 4 by decide) (Nat.mod_lt _ (by decide))
theorem two_ne (c r : Nat) (hr : r < 16) : twoB (c ^^^ 2 ^ r) ≠ twoB c := fun h => by
 have h0 := congrArg (fun t => byteS t 0) h
 have h1 := congrArg (fun t => byteS t 1) h
 have h0 : byteS (twoB (c ^^^ 2 ^ r)) 0 = byteS (twoB c) 0 := h0
 have h1 : byteS (twoB (c ^^^ 2 ^ r)) 1 = byteS (twoB c) 1 := h1
 rw [byteS_two _ 0 (by decide), byteS_two _ 0 (by decide)] at h0
 rw [byteS_two _ 1 (by decide), byteS_two _ 1 (by decide)] at h1
 have h0 : (c ^^^ 2 ^ r) % 256 = c % 256 := h0
 have h1 : (c ^^^ 2 ^ r) / 256 % 256 = c / 256 % 256 := h1
 have e : (c ^^^ 2 ^ r) % 2 ^ 16 = c % 2 ^ 16 := by show _ % 65536 = _ % 65536; omega
 rw [Nat.xor_mod_two_pow, Nat.mod_eq_of_lt (show 2 ^ r < 2 ^ 16 from Nat.pow_lt_pow_right (by decide) hr)] at e
 have e2 := congrArg (fun t => (c % 2 ^ 16) ^^^ t) e
 have e2 : (c % 2 ^ 16) ^^^ ((c % 2 ^ 16) ^^^ 2 ^ r) = (c % 2 ^ 16) ^^^ (c % 2 ^ 16) := e2
 rw [← Nat.xor_assoc, Nat.xor_self, Nat.zero_xor] at e2
 exact absurd e2 (Nat.ne_of_gt (Nat.two_pow_pos r))
theorem byteS_behind (A B : ByteArray) (j : Nat) : byteS (A ++ B) (A.size + j) = byteS B j := by
 rw [byteS_app, if_neg (by omega), Nat.add_sub_cancel_left]
theorem byteS_front (A B : ByteArray) (j : Nat) (h : j < A.size) : byteS (A ++ B) j = byteS A j := by rw [byteS_app, if_pos h]
def startN : ByteArray := ⟨#[31, 139, 8, 30, 0, 0, 0, 0, 0, 255]⟩
def zeroB : ByteArray := ⟨#[0]⟩
def headN (E N C : ByteArray) : ByteArray := startN ++ (twoB E.size ++ (E ++ (N ++ (zeroB ++ (C ++ zeroB)))))
theorem text_at {s A N B : ByteArray} (hs : s = A ++ (N ++ (zeroB ++ B))) (hN : ∀ j, j < N.size → byteS N j ≠ 0) : textS s A.size = (A.size + N.size + 1, 0) := by
 have hz : zeroB.size = 1 := rfl
 have h0 : byteS s (A.size + N.size) = 0 := by
  rw [hs, byteS_behind, show N.size = N.size + 0 from rfl, byteS_behind, byteS_front _ _ 0 (by decide)]; rfl
 have hk : ∀ j, A.size ≤ j → j < A.size + N.size → byteS s j ≠ 0 := fun j h1 h2 => by
  rw [hs, show j = A.size + (j - A.size) by omega, byteS_behind, byteS_front _ _ _ (by omega)]
  exact hN _ (by omega)
 have hsz : s.size = A.size + (N.size + (1 + B.size)) := by rw [hs, size_app, size_app, size_app, hz]
 unfold textS
 rw [nameS_to h0 (s.size - A.size) A.size (by omega) (by omega) hk]
theorem body_named (E N C X : ByteArray) (c : Nat) (hE : E.size ≤ 300) (hN : ∀ j, j < N.size → byteS N j ≠ 0) (hC : ∀ j, j < C.size → byteS C j ≠ 0) :
  bodyS (headN E N C ++ (twoB c ++ X)) = if twoB c = twoB (moreT 0#32 (headN E N C)).toNat then ((headN E N C).size + 2, 0) else ((headN E N C).size, 8) := by
 have h10 : startN.size = 10 := rfl
 have hz : zeroB.size = 1 := rfl
 obtain ⟨s, hs⟩ : ∃ s, s = headN E N C ++ (twoB c ++ X) := ⟨_, rfl⟩
 rw [← hs]
 have s1 : s = startN ++ (twoB E.size ++ (E ++ (N ++ (zeroB ++ (C ++ (zeroB ++ (twoB c ++ X))))))) := by rw [hs]; unfold headN; simp only [ByteArray.append_assoc]
 have s2 : s = (startN ++ twoB E.size ++ E) ++ (N ++ (zeroB ++ (C ++ (zeroB ++ (twoB c ++ X))))) := by rw [s1]; simp only [ByteArray.append_assoc]
 have s3 : s = (startN ++ twoB E.size ++ E ++ N ++ zeroB) ++ (C ++ (zeroB ++ (twoB c ++ X))) := by rw [s1]; simp only [ByteArray.append_assoc]
 have z2 : (startN ++ twoB E.size ++ E).size = 12 + E.size := by rw [size_app, size_app, h10, twoB_size]
 have z3 : (startN ++ twoB E.size ++ E ++ N ++ zeroB).size = 12 + E.size + N.size + 1 := by rw [size_app, size_app, z2, hz]
 have zh : (headN E N C).size = 12 + E.size + N.size + 1 + C.size + 1 := by unfold headN; rw [size_app, size_app, size_app, size_app, size_app, size_app, h10, twoB_size, hz]; omega
 have zs : s.size = (headN E N C).size + (2 + X.size) := by rw [hs, size_app, size_app, twoB_size]
 have b3 : byteS s 3 = 30 := by rw [s1, byteS_front _ _ 3 (by decide)]; rfl
 have b10 : byteS s 10 = E.size % 256 := by rw [s1, show 10 = startN.size + 0 from rfl, byteS_behind, byteS_front _ _ 0 (by rw [twoB_size]; decide), byteS_two _ 0 (by decide)]; rfl
 have b11 : byteS s (10 + 1) = E.size / 256 % 256 := by rw [s1, show 10 + 1 = startN.size + 1 from rfl, byteS_behind, byteS_front _ _ 1 (by rw [twoB_size]; decide), byteS_two _ 1 (by decide)]; rfl
 have f0 : s.extract 0 3 = startT := text_same (by rw [ByteArray.size_extract]; show min 3 s.size - 0 = 3; omega) fun j hj => by
  rw [ByteArray.size_extract] at hj
  rw [byteS_ext _ 0 3 j (by omega) (by omega), Nat.zero_add, s1, byteS_front _ _ j (by rw [h10]; omega)]
  have : j = 0 ∨ j = 1 ∨ j = 2 := by omega
  rcases this with rfl | rfl | rfl <;> rfl
 have hf : ∀ k, k < 5 → 0 < k → flagS s k = true := fun k h1 h2 => by
  unfold flagS; rw [b3]
  have : k = 1 ∨ k = 2 ∨ k = 3 ∨ k = 4 := by omega
  rcases this with rfl | rfl | rfl | rfl <;> decide
 have e1 : extraS s 10 = (12 + E.size, 0) := by
  unfold extraS
  rw [b10, b11, if_neg (by omega)]
  exact congrArg (fun t => (t, 0)) (by omega)
 have e2 : textS s (12 + E.size) = (12 + E.size + N.size + 1, 0) := by rw [← z2]; exact text_at s2 hN
 have e3 : textS s (12 + E.size + N.size + 1) = ((headN E N C).size, 0) := by
  rw [← z3, text_at s3 hC, z3, zh]
 have e4 : sumS s (headN E N C).size = if twoB c = twoB (moreT 0#32 (headN E N C)).toNat then ((headN E N C).size + 2, 0) else ((headN E N C).size, 8) := by
  have x1 : s.extract 0 (headN E N C).size = headN E N C := by rw [hs]; exact ByteArray.extract_append_eq_left rfl
  have x2 : s.extract (headN E N C).size ((headN E N C).size + 2) = twoB c := by
   refine text_same (by rw [ByteArray.size_extract, twoB_size]; omega) fun j hj => ?_
   rw [ByteArray.size_extract] at hj
   rw [byteS_ext _ _ _ j (by omega) (by omega), hs, byteS_behind, byteS_front _ _ j (by rw [twoB_size]; omega)]
  unfold sumS
  rw [if_neg (by omega), x1, x2, four_two]
 have hst : ∀ (f : Nat → Nat × Nat) a, stepS true f (a, 0) = f a := fun f a => if_neg (by rintro (h | h); exact h rfl; cases h)
 unfold bodyS
 rw [if_neg (by unfold badS; rw [f0, b3]; rintro (h | h | h); omega; exact h rfl; omega)]
 unfold partsS
 rw [hf 1 (by decide) (by decide), hf 2 (by decide) (by decide), hf 3 (by decide) (by decide), hf 4 (by decide) (by decide), hst, e1, hst, e2, hst, e3, hst, e4]
end Go.Proofs.YtmhoejmgjbgddaaGreat
/- A text up to its first byte 0. -/
namespace Go.Proofs.YtmhoejmgjbgddaaGreat
open Go.RowKit
def uptoS (s : ByteArray) : Nat → Nat → Nat
 | 0, _ => min s.size 300
 | f + 1, i => if i < s.size ∧ i < 300 then if byteS s i = 0 then i else uptoS s f (i + 1) else min s.size 300
theorem uptoS_ok (s : ByteArray) : ∀ f i, (∀ j, j < i → byteS s j ≠ 0) → 301 ≤ i + f → i ≤ s.size → i ≤ 300 → uptoS s f i ≤ s.size ∧ uptoS s f i ≤ 300 ∧ ∀ j, j < uptoS s f i → byteS s j ≠ 0
 | 0, i, _, h, _, h3 => by omega
 | f + 1, i, h0, h1, h2, h3 => by
  unfold uptoS
  by_cases h : i < s.size ∧ i < 300
  ·rw [if_pos h]
   by_cases hb : byteS s i = 0
   ·rw [if_pos hb]; exact ⟨by omega, by omega, h0⟩
   ·rw [if_neg hb]
    refine uptoS_ok s f (i + 1) (fun j hj => ?_) (by omega) (by omega) (by omega)
    by_cases e : j = i
    ·rw [e]; exact hb
    ·exact h0 j (by omega)
  ·rw [if_neg h]
   exact ⟨by omega, by omega, fun j hj => h0 j (by omega)⟩
set_option maxRecDepth 100000 in
theorem upto_walk (s : ByteArray) (hs : s.size ≤ 140737488351232) (R : Nat) (hR : uptoS s 301 0 = R) (w : World) :
  Calls Tryz.prog 14 #[.string s] w fun e w' => e = .returned (.string (s.extract 0 R)) ∧ w' = w := by
 have HR0 := Lib.hid hR
 obtain ⟨M, hM⟩ : ∃ M, M = min s.size 300 := ⟨_, rfl⟩
 have HM := Lib.hid hM
 have hM1 : (M : Int) ≤ (s.size : Int) := by omega
 have hM0 : (0 : Int) ≤ (M : Int) := by omega
 clear hR hM
 go_enter Tryz.func14, Tryz.ntmps14
 go_wp2_with fail
 go_loopw [3] (fun u wr => ∃ i : Nat, u = .int .i64 (i : Int) ∧ i ≤ 300 ∧ i ≤ s.size ∧ w = wr ∧ Hid (uptoS s (301 - i) i = R)) (fun u _ => 301 - (intOf u).toNat)
 case atStart => exact ⟨0, rfl, by decide, Nat.zero_le _, rfl, HR0⟩
 case round =>
  obtain ⟨i, rfl, hi, his, rfl, HR⟩ := hrel
  clear HR0
  have hst : uptoS s (301 - i) i = if i < s.size ∧ i < 300 then if byteS s i = 0 then i else uptoS s (300 - i) (i + 1) else min s.size 300 := by
   rw [show 301 - i = (300 - i) + 1 by omega]; rfl
  have HS := Lib.hid hst
  clear hst
  by_cases h1 : i < s.size
  ·have h1i : (i : Int) < (s.size : Int) := by omega
   by_cases h2 : i < 300
   ·have h2i : (i : Int) < 300 := by omega
    have hb := byteS_at s i h1
    by_cases h0 : byteS s i = 0
    ·have hbz : (s[i].toNat : Int) = 0 := by rw [hb, h0]; rfl
     have hbn : s[i].toNat = 0 := by rw [hb, h0]
     have HE : Hid (R = i) := Lib.hid (by rw [← HR.out, HS.out, if_pos ⟨h1, h2⟩, if_pos h0])
     have hile : (i : Int) ≤ (s.size : Int) := by omega
     clear hb h0
     go_wp2_with fail
     go_ret
     rw [HE.out]
     exact ⟨rfl, rfl⟩
    ·have hbn : ¬ s[i].toNat = 0 := by rw [hb]; exact h0
     have hbz : ¬ (s[i].toNat : Int) = 0 := by omega
     have HE : Hid (uptoS s (301 - (i + 1)) (i + 1) = R) := Lib.hid (by rw [show 301 - (i + 1) = 300 - i by omega, ← HR.out, HS.out, if_pos ⟨h1, h2⟩, if_neg h0])
     clear hb h0
     go_wp2_with fail
     exact ⟨⟨i + 1, by go_num, by omega, by omega, trivial, HE⟩, by simp only [intOf]; omega⟩
   ·have h2i : ¬ (i : Int) < 300 := by omega
    have HE : Hid (R = M) := Lib.hid (by rw [← HR.out, HS.out, if_neg (fun k => h2 k.2), HM.out])
    go_wp2_with (refine wpList_valK (.int .i64 ((min s.size 300 : Nat) : Int)) rfl (lands_min (.tmp 23) s.size 300 rfl rfl rfl) ?_; intro w8 h8; obtain rfl : w = w8 := h8.symm; rw [← HM.out])
    go_ret
    rw [HE.out]
    exact ⟨rfl, rfl⟩
  ·have h1i : ¬ (i : Int) < (s.size : Int) := by omega
   have HE : Hid (R = M) := Lib.hid (by rw [← HR.out, HS.out, if_neg (fun k => h1 k.1), HM.out])
   go_wp2_with (refine wpList_valK (.int .i64 ((min s.size 300 : Nat) : Int)) rfl (lands_min (.tmp 23) s.size 300 rfl rfl rfl) ?_; intro w8 h8; obtain rfl : w = w8 := h8.symm; rw [← HM.out])
   go_ret
   rw [HE.out]
   exact ⟨rfl, rfl⟩
theorem upto_any (s : ByteArray) (hs : s.size ≤ 140737488351232) : ∃ T : ByteArray, T.size ≤ 300 ∧ (∀ j, j < T.size → byteS T j ≠ 0) ∧
  Hid (∀ w, Calls Tryz.prog 14 #[.string s] w fun e w' => e = .returned (.string T) ∧ w' = w) := by
 obtain ⟨h1, h2, h3⟩ := uptoS_ok s 301 0 (fun j hj => by omega) (by decide) (Nat.zero_le _) (by decide)
 refine ⟨s.extract 0 (uptoS s 301 0), by rw [ByteArray.size_extract]; omega, fun j hj => ?_, Lib.hid fun w => upto_walk s hs _ rfl w⟩
 rw [ByteArray.size_extract] at hj
 rw [byteS_ext _ _ _ j (by omega) (by omega), Nat.zero_add]
 exact h3 j (by omega)
end Go.Proofs.YtmhoejmgjbgddaaGreat
