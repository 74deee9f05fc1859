/- Chapter 14 in numbers, as the developers' code goes: a length is told by its bytes, which are compared with how it is written. -/
import Derived.Test.YtkbjgaobhbiieaaMB
import Derived.Test.YtkbjgaobhbiieaaLy
import Derived.Lib.BitFns
import Derived.Test.YtkbjgaobhbiieaaMC
namespace Go.Proofs.Ytkbjgaobhbiieaa
open Go.RowKit
/-- The length that a text begins with, and where its bytes end. -/
def takD (t : ByteArray) : Option (Nat × Nat) :=
  if t.size = 0 then none
  else if byteS t 0 < 128 then some (byteS t 0, 1)
  else if 131 < byteS t 0 ∨ t.size < byteS t 0 - 127 then none
  else if t.extract 0 (byteS t 0 - 127) = tL (lenL (beA t 1 (byteS t 0 - 128))) then some (beA t 1 (byteS t 0 - 128), byteS t 0 - 127) else none
theorem byteS_behind1 (s : ByteArray) (i : Nat) : byteS (s.extract 1 s.size) i = byteS s (i + 1) := by
  by_cases h : 1 + i < s.size
  · rw [byteS_ext _ _ _ i (Nat.le_refl _) h, Nat.add_comm]
  · rw [byteS_out _ _ (by rw [ByteArray.size_extract]; omega), byteS_out _ _ (by omega)]
theorem beA_behind1 (s : ByteArray) (a : Nat) : ∀ k, beA (s.extract 1 s.size) a k = beA s (a + 1) k
  | 0 => rfl
  | k + 1 => by
    show beA _ a k * 256 + byteS _ (a + k) = beA s (a + 1) k * 256 + byteS s (a + 1 + k)
    rw [beA_behind1 s a k, byteS_behind1, show a + k + 1 = a + 1 + k by omega]
theorem byteS_tL0 (l : List Nat) (i : Nat) (hi : i < l.length) (hl : ∀ x ∈ l, x < 256) : byteS (tL l) i = l.getD i 0 := by
  have e := byteS_tL l ⟨#[]⟩ i hi hl
  rwa [app_noneD] at e
theorem lenL_len (n : Nat) : 1 ≤ (lenL n).length ∧ (lenL n).length ≤ 4 := by
  unfold lenL
  split
  · exact ⟨by simp, by simp⟩
  · split
    · exact ⟨by simp, by simp⟩
    · split <;> exact ⟨by simp, by simp⟩
/-- Where a length is read, its bytes are as it is written. -/
theorem lenD_back {m : ByteArray} {n a : Nat} (h2 : 2 ≤ m.size) (hx : lenD m = some (n, a)) : n < 16777216 ∧ a = (lenL n).length + 1 ∧ a ≤ m.size ∧ ∀ i, i < (lenL n).length → byteS m (i + 1) = (lenL n).getD i 0 := by
  unfold lenD at hx
  have hb1 := byteS_lt m 1
  by_cases k1 : byteS m 1 < 128
  · rw [if_pos k1] at hx
    injection hx with hx
    injection hx with en ea
    have hL : lenL n = [n] := by unfold lenL; rw [if_pos (by omega)]
    rw [hL]
    refine ⟨by omega, by show a = 2; omega, by omega, fun i hi => ?_⟩
    obtain rfl : i = 0 := by simp at hi; omega
    show byteS m 1 = n; omega
  · rw [if_neg k1] at hx
    by_cases k2 : byteS m 1 < 129 ∨ 131 < byteS m 1 ∨ m.size < byteS m 1 - 126
    · rw [if_pos k2] at hx; cases hx
    · rw [if_neg k2] at hx
      have q2 := byteS_lt m 2
      have q3 := byteS_lt m 3
      have q4 := byteS_lt m 4
      have hk : byteS m 1 = 129 ∨ byteS m 1 = 130 ∨ byteS m 1 = 131 := by omega
      rcases hk with hk | hk | hk
      · rw [hk] at hx k2
        rw [show 129 - 128 = 1 from rfl] at hx
        have eb : beA m 2 1 = byteS m 2 := by show 0 * 256 + byteS m 2 = _; omega
        rw [eb] at hx
        split at hx
        · cases hx
        · rename_i hc
          injection hx with hx
          injection hx with en ea
          have hL : lenL n = [129, n] := by unfold lenL; rw [if_neg (by omega), if_pos (by omega)]
          rw [hL]
          refine ⟨by omega, by show a = 3; omega, by omega, fun i hi => ?_⟩
          have : i = 0 ∨ i = 1 := by simp at hi; omega
          rcases this with rfl | rfl
          · exact hk
          · exact en
      · rw [hk] at hx k2
        rw [show 130 - 128 = 2 from rfl] at hx
        have eb : beA m 2 2 = byteS m 2 * 256 + byteS m 3 := by show (0 * 256 + byteS m 2) * 256 + byteS m 3 = _; omega
        rw [eb, show 130 - 129 = 1 from rfl, show 256 ^ 1 = 256 from rfl] at hx
        split at hx
        · cases hx
        · rename_i hc
          injection hx with hx
          injection hx with en ea
          have hL : lenL n = [130, n / 256, n % 256] := by unfold lenL; rw [if_neg (by omega), if_neg (by omega), if_pos (by omega)]
          rw [hL]
          refine ⟨by omega, by show a = 4; omega, by omega, fun i hi => ?_⟩
          have : i = 0 ∨ i = 1 ∨ i = 2 := by simp at hi; omega
          rcases this with rfl | rfl | rfl
          · exact hk
          · show byteS m 2 = n / 256; omega
          · show byteS m 3 = n % 256; omega
      · rw [hk] at hx k2
        rw [show 131 - 128 = 3 from rfl] at hx
        have eb : beA m 2 3 = (byteS m 2 * 256 + byteS m 3) * 256 + byteS m 4 := by show ((0 * 256 + byteS m 2) * 256 + byteS m 3) * 256 + byteS m 4 = _; omega
        rw [eb, show 131 - 129 = 2 from rfl, show 256 ^ 2 = 65536 from rfl] at hx
        split at hx
        · cases hx
        · rename_i hc
          injection hx with hx
          injection hx with en ea
          have hL : lenL n = [131, n / 65536, n / 256 % 256, n % 256] := by unfold lenL; rw [if_neg (by omega), if_neg (by omega), if_neg (by omega)]
          rw [hL]
          refine ⟨by omega, by show a = 5; omega, by omega, fun i hi => ?_⟩
          have : i = 0 ∨ i = 1 ∨ i = 2 ∨ i = 3 := by simp at hi; omega
          rcases this with rfl | rfl | rfl | rfl
          · exact hk
          · show byteS m 2 = n / 65536; omega
          · show byteS m 3 = n / 256 % 256; omega
          · show byteS m 4 = n % 256; omega
theorem lenD_at2 {m : ByteArray} {n a : Nat} (h : lenD m = some (n, a)) (h1 : ¬ byteS m 1 < 128) : n = beA m 2 (byteS m 1 - 128) ∧ a = byteS m 1 - 126 := by
  unfold lenD at h
  rw [if_neg h1] at h
  split at h
  · cases h
  · split at h
    · cases h
    · injection h with h; injection h with a b; exact ⟨a.symm, b.symm⟩
theorem tak_len (s : ByteArray) (h2 : 2 ≤ s.size) : takD (s.extract 1 s.size) = (lenD s).map fun x => (x.1, x.2 - 1) := by
  have hz : (s.extract 1 s.size).size = s.size - 1 := by rw [ByteArray.size_extract]; omega
  have e0 := byteS_behind1 s 0
  have hB := byteS_behind1 s
  have hA := beA_behind1 s 1
  unfold takD
  rw [hz, e0, hA, if_neg (by omega), show (0 + 1 : Nat) = 1 from rfl, show (1 + 1 : Nat) = 2 from rfl]
  by_cases h1 : byteS s 1 < 128
  · rw [if_pos h1]
    have : lenD s = some (byteS s 1, 2) := by unfold lenD; rw [if_pos h1]
    rw [this]
    rfl
  · rw [if_neg h1]
    by_cases hbad : 131 < byteS s 1 ∨ s.size - 1 < byteS s 1 - 127
    · have : lenD s = none := by unfold lenD; rw [if_neg h1, if_pos (by omega)]
      rw [if_pos hbad, this]
      rfl
    · rw [if_neg hbad]
      have hk : byteS s 1 - 128 ≤ 3 := by omega
      have hn : beA s 2 (byteS s 1 - 128) < 16777216 := by
        have h := beA_lt s 2 (byteS s 1 - 128)
        have : 256 ^ (byteS s 1 - 128) ≤ 256 ^ 3 := Nat.pow_le_pow_right (by decide) hk
        have e : 256 ^ 3 = 16777216 := by decide
        omega
      obtain ⟨N, hN⟩ : ∃ N, N = beA s 2 (byteS s 1 - 128) := ⟨_, rfl⟩
      rw [← hN] at hn ⊢
      by_cases hE : (s.extract 1 s.size).extract 0 (byteS s 1 - 127) = tL (lenL (N))
      · rw [if_pos hE]
        have hsz := congrArg ByteArray.size hE
        rw [ByteArray.size_extract, hz, tL_size] at hsz
        have he : byteS s 1 - 127 = (lenL (N)).length := by omega
        have hl := lenL_lt _ hn
        have key : tL (byteS s 0 :: lenL (N)) ++ s.extract (byteS s 1 - 126) s.size = s := by
          refine text_same ?_ fun j hj => ?_
          · rw [size_app, tL_size, List.length_cons, ← he, ByteArray.size_extract]; omega
          rw [size_app, tL_size, List.length_cons, ← he, ByteArray.size_extract] at hj
          by_cases h : j < byteS s 1 - 126
          · rw [byteS_tL _ _ j (by rw [List.length_cons, ← he]; omega) (fun y hy => by
              rcases List.mem_cons.1 hy with rfl | hy
              · exact byteS_lt _ _
              · exact hl y hy)]
            cases j with
            | zero => rfl
            | succ j =>
              rw [List.getD_cons_succ, ← byteS_tL0 _ j (by omega) hl, ← hE, byteS_ext _ _ _ j (by omega) (by omega), Nat.zero_add, hB]
          · rw [byteS_app, tL_size, List.length_cons, ← he, if_neg (by omega), byteS_ext _ _ _ _ (Nat.le_refl _) (by omega), show byteS s 1 - 126 + (j - (byteS s 1 - 127 + 1)) = j by omega]
        have w := lenD_wrap (byteS s 0) (N) (byteS_lt _ _) hn (s.extract (byteS s 1 - 126) s.size)
        rw [key] at w
        rw [w, Option.map_some, List.length_cons, ← he, Nat.add_sub_cancel]
      · rw [if_neg hE]
        cases hx : lenD s with
        | none => rfl
        | some x =>
          obtain ⟨n, a⟩ := x
          exfalso
          obtain ⟨b1, b2, b3, b4⟩ := lenD_back h2 hx
          obtain ⟨c1, c2⟩ := lenD_at2 hx h1
          refine hE ?_
          rw [hN, ← c1, show byteS s 1 - 127 = (lenL n).length by omega]
          exact head_D _ _ (by omega) fun i hi => by rw [hB]; exact b4 i hi
/-- The first item, as the code takes it. -/
theorem next_tak (s : ByteArray) : nextD s = if s.size = 0 ∨ byteS s 0 % 32 = 31 then none else
    (takD (s.extract 1 s.size)).bind fun x => if ((s.extract 1 s.size).extract x.2 (s.size - 1)).size < x.1 then none else some (byteS s 0, ((s.extract 1 s.size).extract x.2 (s.size - 1)).extract 0 x.1, ((s.extract 1 s.size).extract x.2 (s.size - 1)).extract x.1 ((s.extract 1 s.size).extract x.2 (s.size - 1)).size) := by
  have hz : (s.extract 1 s.size).size = s.size - 1 := by rw [ByteArray.size_extract]; omega
  by_cases h2 : s.size < 2
  · have e1 : nextD s = none := by unfold nextD; rw [if_pos (.inl h2)]
    have e2 : takD (s.extract 1 s.size) = none := by unfold takD; rw [if_pos (by omega)]
    rw [e1, e2]
    split <;> rfl
  · unfold nextD
    by_cases h31 : byteS s 0 % 32 = 31
    · rw [if_pos (.inr h31), if_pos (.inr h31)]
    · rw [if_neg (by omega), if_neg (by omega), tak_len s (by omega)]
      cases hx : lenD s with
      | none => rfl
      | some x =>
        obtain ⟨n, a⟩ := x
        obtain ⟨b1, b2, b3, b4⟩ := lenD_back (by omega) hx
        have ha := lenL_len n
        have eb : (s.extract 1 s.size).extract (a - 1) (s.size - 1) = s.extract a s.size := by
          refine text_same (by simp only [ByteArray.size_extract]; omega) fun j hj => ?_
          rw [ByteArray.size_extract, hz] at hj
          rw [byteS_ext _ _ _ j (by omega) (by omega), byteS_behind1, byteS_ext _ _ _ j (Nat.le_refl _) (by omega)]
          congr 1
          omega
        show finD s n a = (if ((s.extract 1 s.size).extract (a - 1) (s.size - 1)).size < n then none else _)
        have hs : (s.extract a s.size).size = s.size - a := by rw [ByteArray.size_extract]; omega
        simp only []
        rw [eb, hs]
        unfold finD
        by_cases hn : s.size < a + n
        · rw [if_pos hn, if_pos (by omega)]
        · rw [if_neg hn, if_neg (by omega)]
          have f1 : (s.extract a s.size).extract 0 n = s.extract a (a + n) := by
            refine text_same (by simp only [ByteArray.size_extract]; omega) fun j hj => ?_
            rw [ByteArray.size_extract, hs] at hj
            rw [byteS_ext _ _ _ j (by omega) (by omega), byteS_ext _ _ _ _ (by omega) (by omega), byteS_ext _ _ _ j (by omega) (by omega), Nat.zero_add]
          have f2 : (s.extract a s.size).extract n (s.size - a) = s.extract (a + n) s.size := by
            refine text_same (by simp only [ByteArray.size_extract]; omega) fun j hj => ?_
            rw [ByteArray.size_extract, hs] at hj
            rw [byteS_ext _ _ _ j (by omega) (by omega), byteS_ext _ _ _ _ (by omega) (by omega), byteS_ext _ _ _ j (by omega) (by omega), Nat.add_assoc]
          rw [f1, f2]
end Go.Proofs.Ytkbjgaobhbiieaa
/- The library's functions that chapter 14's code calls: what they answer. -/
namespace Go.Proofs.Ytkbjgaobhbiieaa
open Go.RowKit Go.Shelf
theorem len_lib (x : Nat) (w : World) (h : x ≤ 9223372036854775807) : Calls Try.prog 40 #[.int .u64 (x : Int)] w fun e w' => e = .returned (.int .i64 ((Lib.bitLen x : Nat) : Int)) ∧ w' = w := by
  have := Any.bits_Len lenN (x : Int) w (by omega) (by omega)
  rw [Int.toNat_natCast] at this
  exact this
theorem cloneI_lib (s : ByteArray) (w : World) (h : s.size ≤ 281474976710656) : Calls Try.prog 31 #[.string s] w fun e w' => e = .returned (.string s) ∧ Below w.heap.size w w' :=
  AnyPu.stringslite_Clone cloneN s w h
theorem clone_lib (s : ByteArray) (w : World) (h : s.size ≤ 281474976710656) : Calls Try.prog 20 #[.string s] w fun e w' => e = .returned (.string s) ∧ Below w.heap.size w w' := by
  have C := cloneI_lib s w h
  clear h
  go_enter Try.func20, Try.ntmps20
  go_wp2_with fail
  refine C.mono ?_
  rintro e w' ⟨rfl, hb⟩
  clear C
  go_wp2_with fail
  go_ret
  exact ⟨rfl, hb⟩
theorem pref_lib (s p : ByteArray) (w : World) : Calls Try.prog 36 #[.string s, .string p] w fun e w' => e = .returned (.bool (Lib.hasPrefix s.data.toList p.data.toList)) ∧ w' = w :=
  Any.strings_HasPrefix prefN s p w
theorem joinX : Builder.Extra Try.prog joinN_ren where
  sizeBuilder := by kernel_rfl
  liesBuilder := by kernel_rfl
  t5 := Try.underlying5
  a5 := Try.isAgg5
  z5 := Try.sizeOf5
  v5 := Try.zeroValue5
  infoByte := by kernel_rfl
  cellsByte := by kernel_rfl
  sizeByte := by kernel_rfl
  neB5 := by decide
/-- Three texts, one behind the other. -/
theorem join_lib (a b c : ByteArray) (g cap : Nat) (w : World) (hg : Blk w g 9 #[.string a, .string b, .string c]) (hc : 3 ≤ cap) (hz : a.size + b.size + c.size ≤ 140737488355328) :
    Calls Try.prog 32 #[.slice (some ⟨g, 0, none⟩) 3 cap, .string ⟨#[]⟩] w fun e w' => e = .returned (.string (a ++ (b ++ c))) ∧ Below w.heap.size w w' := by
  have e : (Lib.join ([a, b, c].map (·.data.toList)) (⟨#[]⟩ : ByteArray).data.toList).toArray = (a ++ (b ++ c)).data := by
    apply Array.ext'
    simp [Lib.join]
  have hl : (Lib.join ([a, b, c].map (·.data.toList)) (⟨#[]⟩ : ByteArray).data.toList).length ≤ 140737488355328 := by
    have := congrArg Array.size e
    rw [List.size_toArray] at this
    rw [this]
    show (a ++ (b ++ c)).size ≤ _
    rw [size_app, size_app]; omega
  have h := Any.strings_Join joinN joinX g 0 cap [a, b, c] ⟨#[]⟩ w (fun j x hx => by
    rw [Nat.zero_add, hg.cell j]
    match j, hx with
    | 0, hx => cases hx; rfl
    | 1, hx => cases hx; rfl
    | 2, hx => cases hx; rfl
    | j + 3, hx => simp at hx) hg.lt (by simp) hc hl
  rw [e] at h
  exact h
end Go.Proofs.Ytkbjgaobhbiieaa
/- How the developers write a length. -/
namespace Go.Proofs.Ytkbjgaobhbiieaa
open Go.RowKit
theorem lenL_take (n : Nat) (h1 : 128 ≤ n) (h2 : n < 16777216) (k : Nat) (hk : k + 1 < (lenL n).length) : (lenL n).take (k + 2) = (lenL n).take (k + 1) ++ [n / 256 ^ ((lenL n).length - 2 - k) % 256] := by
  unfold lenL at hk ⊢
  rw [if_neg (by omega)] at hk ⊢
  by_cases k1 : n < 256
  · rw [if_pos k1] at hk ⊢
    obtain rfl : k = 0 := by simp at hk; omega
    show [129, n] = [129, n / 256 ^ 0 % 256]
    rw [Nat.pow_zero, Nat.div_one, Nat.mod_eq_of_lt k1]
  · rw [if_neg k1] at hk ⊢
    by_cases k2 : n < 65536
    · rw [if_pos k2] at hk ⊢
      have : k = 0 ∨ k = 1 := by simp at hk; omega
      rcases this with rfl | rfl
      · show [130, n / 256] = [130, n / 256 ^ 1 % 256]
        rw [Nat.pow_one, Nat.mod_eq_of_lt (by omega)]
      · show [130, n / 256, n % 256] = [130, n / 256, n / 256 ^ 0 % 256]
        rw [Nat.pow_zero, Nat.div_one]
    · rw [if_neg k2] at hk ⊢
      have : k = 0 ∨ k = 1 ∨ k = 2 := by simp at hk; omega
      rcases this with rfl | rfl | rfl
      · show [131, n / 65536] = [131, n / 256 ^ 2 % 256]
        rw [show 256 ^ 2 = 65536 from rfl, Nat.mod_eq_of_lt (by omega)]
      · show [131, n / 65536, n / 256 % 256] = [131, n / 65536, n / 256 ^ 1 % 256]
        rw [Nat.pow_one]
      · show [131, n / 65536, n / 256 % 256, n % 256] = [131, n / 65536, n / 256 % 256, n / 256 ^ 0 % 256]
        rw [Nat.pow_zero, Nat.div_one]
theorem bitLen_lo (x : Nat) (h1 : 128 ≤ x) (h2 : x < 256) : Lib.bitLen x = 8 := by
  have := (show ∀ n : Fin 256, 128 ≤ n.val → Lib.bitLen n.val = 8 by decide +kernel) ⟨x, h2⟩ h1
  exact this
theorem bitLen_hi (x : Nat) (h1 : 1 ≤ x) (h2 : x < 256) : 1 ≤ Lib.bitLen x ∧ Lib.bitLen x ≤ 8 := by
  have := (show ∀ n : Fin 256, 1 ≤ n.val → 1 ≤ Lib.bitLen n.val ∧ Lib.bitLen n.val ≤ 8 by decide +kernel) ⟨x, h2⟩ h1
  exact this
theorem many_is (n : Nat) (h1 : 128 ≤ n) (h2 : n < 16777216) : (Lib.bitLen n + 7) / 8 = (lenL n).length - 1 ∧ (lenL n).head? = some (128 + ((lenL n).length - 1)) ∧ 2 ≤ (lenL n).length ∧ (lenL n).length ≤ 4 := by
  unfold lenL
  rw [if_neg (by omega)]
  by_cases k1 : n < 256
  · rw [if_pos k1, bitLen_lo n h1 k1]
    exact ⟨rfl, rfl, by simp, by simp⟩
  · rw [if_neg k1]
    by_cases k2 : n < 65536
    · rw [if_pos k2, Lib.bitLen_shift8 n (by omega) (by omega)]
      have := bitLen_hi (n / 256) (by omega) (by omega)
      exact ⟨by show _ = 2; omega, rfl, by simp, by simp⟩
    · rw [if_neg k2, Lib.bitLen_shift16 n (by omega) (by omega)]
      have := bitLen_hi (n / 65536) (by omega) (by omega)
      exact ⟨by show _ = 3; omega, rfl, by simp, by simp⟩
theorem bN_app (a b : List Nat) : bN (a ++ b) = bN a ++ bN b := by unfold bN; rw [List.map_append]
set_option maxRecDepth 100000 in
set_option maxHeartbeats 4000000 in
theorem length_any (n : Nat) (w : World) (hn : n < 16777216) :
    Calls Try.prog 33 #[.int .i64 (n : Int)] w fun e w' => e = .returned (.string (tL (lenL n))) ∧ Below w.heap.size w w' := by
  have HLT := Lib.hid (lenL_lt n hn)
  by_cases h1 : n < 128
  · have hi : (n : Int) < 128 := by omega
    have wT : IntKind.u8.wrap (n : Int) = (n : Int) := by rw [IntKind.wrap_u8']; omega
    have hL : lenL n = [n] := by unfold lenL; rw [if_pos h1]
    rw [hL] at HLT ⊢
    have hcv := conv_blk (w.alloc (.cells #[.int .u8 (n : Int)] 5)) w.heap.size #[.int .u8 (n : Int)] (Blk.new w _ _) [n] HLT.out rfl 1 1 rfl
    have HF := Lib.hid ((Below.refl _ w).alloc (Nat.le_refl _) (.cells #[.int .u8 (n : Int)] 5))
    clear hL h1 hn
    generalize tL [n] = X at hcv ⊢
    go_enter Try.func33, Try.ntmps33
    go_wp2_with fail
    go_ret
    exact ⟨rfl, HF.out⟩
  · obtain ⟨m1, m2, m3, m4⟩ := many_is n (by omega) hn
    have HTK := Lib.hid (lenL_take n (by omega) hn)
    have C := len_lib n w (by omega)
    have hi : ¬ (n : Int) < 128 := by omega
    have hu : IntKind.u64.wrap (n : Int) = (n : Int) := by rw [IntKind.wrap_u64]; omega
    have hH : (lenL n).take 1 = [128 + ((lenL n).length - 1)] := by
      cases hl : lenL n with
      | nil => rw [hl] at m3; simp at m3
      | cons a l => rw [hl] at m2; simp only [List.head?_cons] at m2; injection m2 with m2; show [a] = _; rw [← hl] at m2 ⊢; rw [m2]
    generalize lenL n = L at HLT m1 m2 m3 m4 HTK hH ⊢
    obtain ⟨M, hM⟩ : ∃ M, M = L.length - 1 := ⟨_, rfl⟩
    have HLL : Hid (L.length = M + 1) := Lib.hid (by omega)
    rw [← hM] at m1 hH
    generalize Lib.bitLen n = bl at C m1
    have a2 : wrap64 (((bl : Int) + 7).tdiv 8) = (M : Int) := by rw [Int.tdiv_eq_ediv_of_nonneg (by omega)]; unfold wrap64; omega
    have a1 : wrap64 ((bl : Int) + 7) = (bl : Int) + 7 := by unfold wrap64; omega
    have a4 : (M : Int) % 256 = (M : Int) := by omega
    have a5 : bits .or .u8 128 (M : Int) = ((128 + M : Nat) : Int) := by
      have : M = 1 ∨ M = 2 ∨ M = 3 := by omega
      rcases this with rfl | rfl | rfl <;> decide +kernel
    have a6 : wrap64 ((M : Int) - 1) = (M : Int) - 1 := by unfold wrap64; omega
    have HI : Hid (LS 5 1 w.heap.size w (bN (L.take (0 + 1))) (.slice (some ⟨w.heap.size, 0, none⟩) 1 1) (w.alloc (.cells #[.int .u8 ((128 + M : Nat) : Int)] 5))) := Lib.hid (by rw [Nat.zero_add, hH]; exact LS.one _ w (128 + M) (Nat.le_refl _) (Below.refl _ _))
    have HM : Hid (1 ≤ M ∧ M ≤ 3) := Lib.hid (by omega)
    have HN : Hid (n < 16777216) := Lib.hid hn
    clear hH hM m1 m2 m3 m4 h1 hn
    go_enter Try.func33, Try.ntmps33
    go_wp2_with fail
    refine C.mono ?_
    rintro e w' ⟨rfl, rfl⟩
    clear C
    go_wp2_with fail
    go_loopw [4, 5] (fun v y wr => ∃ k : Nat, y = .int .i64 ((M : Int) - 1 - (k : Int)) ∧ k ≤ M ∧ Hid (LS 5 1 w'.heap.size w' (bN (L.take (k + 1))) v wr)) (fun _ y _ => (intOf y + 1).toNat)
    case atStart => exact ⟨0, by rw [Int.natCast_zero, Int.sub_zero], Nat.zero_le _, HI⟩
    case round =>
      obtain ⟨k, rfl, hk, HV⟩ := hrel
      clear HI a1 a2 a4 a5 a6
      by_cases hlt : k < M
      · have HK := Lib.hid hlt
        obtain ⟨d, hd⟩ : ∃ d, d = M - 1 - k := ⟨_, rfl⟩
        have hz : (M : Int) - 1 - (k : Int) = (d : Int) := by omega
        rw [hz]
        have HX := Lib.hid (HTK.out k (by rw [HLL.out]; omega))
        have hpos : L.length - 2 - k = d := by rw [HLL.out]; omega
        rw [hpos] at HX
        have hd3 : d = 0 ∨ d = 1 ∨ d = 2 := by have := HM.out; omega
        have HD : Hid ((d : Int) = (M : Int) - 1 - (k : Int)) := Lib.hid hz.symm
        have HDN : Hid ((bN (L.take (k + 1))).length ≤ 999999999999) := Lib.hid (by unfold bN; rw [List.length_map, List.length_take]; have := HM.out; omega)
        clear hz hpos hd hlt hk
        obtain ⟨b, hb⟩ : ∃ b, b = n / 256 ^ d % 256 := ⟨_, rfl⟩
        rw [← hb] at HX
        rcases hd3 with rfl | rfl | rfl
        · have hw : IntKind.u8.wrap (n : Int) = (b : Int) := by rw [IntKind.wrap_u8', hb, Nat.pow_zero, Nat.div_one]; omega
          clear hb
          go_wp2_with (at_builtin; refine wpList_oneB rfl (.tmp 27) (.tmp 33) 43 rfl rfl rfl HV.out (b : Int) rfl HDN.out ?_; intro v5 w5 h5 g5; clear g5; have H5 := Lib.hid h5; clear h5)
          exact ⟨⟨k + 1, by have := HD.out; congr 1; omega, by have := HK.out; omega, Lib.hid (by rw [show k + 1 + 1 = k + 2 from rfl, HX.out, bN_app]; exact H5.out)⟩, by simp only [intOf]; have := HD.out; omega⟩
        · have hw : IntKind.u8.wrap ((n : Int) / 256) = (b : Int) := by rw [IntKind.wrap_u8', hb, Nat.pow_one]; omega
          clear hb
          go_wp2_with (at_builtin; refine wpList_oneB rfl (.tmp 27) (.tmp 33) 43 rfl rfl rfl HV.out (b : Int) rfl HDN.out ?_; intro v5 w5 h5 g5; clear g5; have H5 := Lib.hid h5; clear h5)
          exact ⟨⟨k + 1, by have := HD.out; congr 1; omega, by have := HK.out; omega, Lib.hid (by rw [show k + 1 + 1 = k + 2 from rfl, HX.out, bN_app]; exact H5.out)⟩, by simp only [intOf]; have := HD.out; omega⟩
        · have hw : IntKind.u8.wrap ((n : Int) / 65536) = (b : Int) := by rw [IntKind.wrap_u8', hb, show 256 ^ 2 = 65536 from rfl]; omega
          clear hb
          go_wp2_with (at_builtin; refine wpList_oneB rfl (.tmp 27) (.tmp 33) 43 rfl rfl rfl HV.out (b : Int) rfl HDN.out ?_; intro v5 w5 h5 g5; clear g5; have H5 := Lib.hid h5; clear h5)
          exact ⟨⟨k + 1, by have := HD.out; congr 1; omega, by have := HK.out; omega, Lib.hid (by rw [show k + 1 + 1 = k + 2 from rfl, HX.out, bN_app]; exact H5.out)⟩, by simp only [intOf]; have := HD.out; omega⟩
      · obtain rfl : k = M := by omega
        have hz : (k : Int) - 1 - (k : Int) = -1 := by omega
        rw [hz]
        have HL : Hid (L.take (k + 1) = L) := Lib.hid (List.take_of_length_le (by rw [HLL.out]; omega))
        have hcv := HV.out.text (by rw [HL.out]; exact HLT.out)
        rw [HL.out] at hcv
        have HF := Lib.hid HV.out.b
        clear hlt hz hk HTK
        go_wp2_with fail
        go_ret
        exact ⟨rfl, HF.out⟩
end Go.Proofs.Ytkbjgaobhbiieaa
/- How the developers take a length. -/
namespace Go.Proofs.Ytkbjgaobhbiieaa
open Go.RowKit
theorem or_byteD (a b : Nat) (ha : a ≤ 281474976710656) (hb : b < 256) : bits .or .i64 (((a * 256 : Nat)) : Int) (b : Int) = ((a * 256 + b : Nat) : Int) := by
  have e : a * 256 ||| b = a * 256 + b := by
    rw [show a * 256 = 2 ^ 8 * a by omega, ← Nat.two_pow_add_eq_or_of_lt (show b < 2 ^ 8 from hb)]
  have key : (BitVec.ofInt 64 ((a * 256 : Nat) : Int) ||| BitVec.ofInt 64 (b : Int)).toNat = a * 256 + b := by
    rw [BitVec.toNat_or, BitVec.ofInt_natCast, BitVec.ofInt_natCast, BitVec.toNat_ofNat, BitVec.toNat_ofNat, Nat.mod_eq_of_lt (by omega), Nat.mod_eq_of_lt (by omega), e]
  show IntKind.i64.wrap ((BitVec.ofInt 64 ((a * 256 : Nat) : Int) ||| BitVec.ofInt 64 (b : Int)).toNat : Nat) = _
  rw [key, IntKind.wrap_i64]
  omega
/-- What is answered: the length, what stands behind it, is there one. -/
def takV (t : ByteArray) : Nat × ByteArray × Bool := (takD t).elim (0, ⟨#[]⟩, false) fun x => (x.1, t.extract x.2 t.size, true)
theorem ne_text {a b : ByteArray} (h : a ≠ b) : (a.toList == b.toList) = false := by
  rw [beq_eq_false_iff_ne]
  intro e
  apply h
  rw [ByteArray.toList_eq, ByteArray.toList_eq] at e
  exact ByteArray.ext (Array.ext' e)
theorem ne_none14 {a : ByteArray} (h : a.size ≠ 0) : (a.toList == []) = false := by
  rw [beq_eq_false_iff_ne]
  intro e
  rw [ByteArray.toList_eq] at e
  have := congrArg List.length e
  rw [Array.length_toList] at this
  exact h this
theorem eq_text (a : ByteArray) : (a.toList == a.toList) = true := by simp
set_option maxRecDepth 100000 in
set_option maxHeartbeats 4000000 in
theorem taken_any (t : ByteArray) (w : World) (hz : t.size ≤ 281474976710656) :
    Calls Try.prog 30 #[.string t] w fun e w' => e = .returned (.tuple #[.int .i64 ((takV t).1 : Int), .string (takV t).2.1, .bool (takV t).2.2]) ∧ Below w.heap.size w w' := by
  obtain ⟨res, hres⟩ : ∃ res, res = takV t := ⟨_, rfl⟩
  rw [← hres]
  by_cases h0 : t.size = 0
  · obtain rfl := text_none14 h0
    have HRES : Hid (res = (0, ⟨#[]⟩, false)) := Lib.hid (by rw [hres]; unfold takV takD; rw [if_pos (show (⟨#[]⟩ : ByteArray).size = 0 from rfl)]; rfl)
    clear hres
    go_enter Try.func30, Try.ntmps30
    go_wp2_with fail
    go_ret3
    rw [HRES.out]
    exact ⟨rfl, Below.refl _ _⟩
  · have hne := ne_none14 h0
    have hs0 : 0 < t.size := by omega
    obtain ⟨b, hb⟩ : ∃ b, b = byteS t 0 := ⟨_, rfl⟩
    have hb8 : b < 256 := by rw [hb]; exact byteS_lt _ _
    have g0 : (t[0].toNat : Int) = (b : Int) := by rw [byteS_at t 0 hs0, hb]
    have hi0 : (0 : Int) < (t.size : Int) := by omega
    by_cases h1 : b < 128
    · have HRES : Hid (res = (b, t.extract 1 t.size, true)) := Lib.hid (by rw [hres]; unfold takV takD; rw [if_neg h0, ← hb, if_pos h1]; rfl)
      have h1i : (b : Int) < 128 := by omega
      have hbw : IntKind.i64.wrap (b : Int) = (b : Int) := IntWalk.i64_in _ (by omega)
      have hle1 : (1 : Int) ≤ (t.size : Int) := by omega
      have HF : Hid (Below w.heap.size w w.drew) := Lib.hid (Below.refl _ w).drew
      clear hres hb h0 hz h1
      go_enter Try.func30, Try.ntmps30
      go_wp2_with fail
      refine heldT_start (by kernel_rfl) ?_
      change wpAnyH _ _ _ _ _ _ _ _ w.drew
      generalize w.drew = w2 at HF ⊢
      refine heldT_take (i := 0) (v := .string t) rfl (by kernel_rfl) (by kernel_rfl) (by kernel_rfl) (fun _ _ _ h => h) rfl (fun wx => ?_) ?_
      · go_simp; skip
      simp only [pu]
      refine heldT_take (i := 1) (v := .int .u8 (b : Int)) rfl (by kernel_rfl) (by kernel_rfl) (by kernel_rfl) (fun _ _ _ h => h) rfl (fun wx => ?_) ?_
      · go_simp; skip
      simp only [pu]
      refine heldT_take (i := 2) (v := .int .i64 (b : Int)) rfl (by kernel_rfl) (by kernel_rfl) (by kernel_rfl) (fun _ _ _ h => h) rfl (fun wx => ?_) ?_
      · go_simp; skip
      simp only [pu]
      refine heldT_take (i := 3) (v := .string t) rfl (by kernel_rfl) (by kernel_rfl) (by kernel_rfl) (fun _ _ _ h => h) rfl (fun wx => ?_) ?_
      · go_simp; skip
      simp only [pu]
      refine heldT_take (i := 4) (v := .string (t.extract 1 t.size)) rfl (by kernel_rfl) (by kernel_rfl) (by kernel_rfl) (fun _ _ _ h => h) rfl (fun wx => ?_) ?_
      · go_simp; skip
      simp only [pu]
      refine heldT_take (i := 5) (v := .int .i64 (b : Int)) rfl (by kernel_rfl) (by kernel_rfl) (by kernel_rfl) (fun _ _ _ h => h) rfl (fun wx => ?_) ?_
      · go_simp; skip
      simp only [pu]
      refine heldT_take (i := 6) (v := .string (t.extract 1 t.size)) rfl (by kernel_rfl) (by kernel_rfl) (by kernel_rfl) (fun _ _ _ h => h) rfl (fun wx => ?_) ?_
      · go_simp; skip
      simp only [pu]
      refine heldT_take (i := 7) (v := .bool true) rfl (by kernel_rfl) (by kernel_rfl) (by kernel_rfl) (fun _ _ _ h => h) rfl (fun wx => ?_) ?_
      · go_simp; skip
      simp only [pu]
      refine wpAnyH_done (by kernel_rfl) ?_ _
      go_wp2_with fail
      go_ret3
      rw [HRES.out]
      exact ⟨rfl, HF.out⟩
    · have h1i : ¬ (b : Int) < 128 := by omega
      obtain ⟨m, hm⟩ : ∃ m, m = b - 128 := ⟨_, rfl⟩
      have hsub : ((b : Int) - 128) % 256 = (m : Int) := by omega
      have hadd : wrap64 (1 + (m : Int)) = 1 + (m : Int) := by unfold wrap64; omega
      have HF0 : Hid (Below w.heap.size w w) := Lib.hid (Below.refl _ w)
      by_cases h3 : 3 < m
      · have HRES : Hid (res = (0, ⟨#[]⟩, false)) := Lib.hid (by rw [hres]; unfold takV takD; rw [if_neg h0, ← hb, if_neg h1, if_pos (.inl (by omega))]; rfl)
        have h4 : (4 : Int) < 1 + (m : Int) := by omega
        clear hres hb h0 hz h1 hm h3 hb8
        go_enter Try.func30, Try.ntmps30
        go_wp2_with fail
        go_ret3
        rw [HRES.out]
        exact ⟨rfl, HF0.out⟩
      · have h4 : ¬ (4 : Int) < 1 + (m : Int) := by omega
        by_cases h5 : t.size < 1 + m
        · have HRES : Hid (res = (0, ⟨#[]⟩, false)) := Lib.hid (by rw [hres]; unfold takV takD; rw [if_neg h0, ← hb, if_neg h1, if_pos (.inr (by omega))]; rfl)
          have h5i : (t.size : Int) < 1 + (m : Int) := by omega
          clear hres hb h0 hz h1 hm h3 hb8 h5
          go_enter Try.func30, Try.ntmps30
          go_wp2_with fail
          go_ret3
          rw [HRES.out]
          exact ⟨rfl, HF0.out⟩
        · have h5i : ¬ (t.size : Int) < 1 + (m : Int) := by omega
          have hk1 : takD t = if t.extract 0 (1 + m) = tL (lenL (beA t 1 m)) then some (beA t 1 m, 1 + m) else none := by
            unfold takD
            rw [if_neg h0, ← hb, if_neg h1, if_neg (by omega), show b - 127 = 1 + m by omega, show b - 128 = m by omega]
          have HEB : Hid (1 + m ≤ t.size ∧ m ≤ 3) := Lib.hid (by omega)
          have hxs : (t.extract 1 (1 + m)).size = m := by rw [ByteArray.size_extract]; omega
          obtain ⟨cap, W1, hcv, hcl, hbl⟩ := bytesN_start (t.extract 1 (1 + m)) w hxs
          have HC : Hid (∀ j, j < m → W1.cell? ⟨w.heap.size, j, none⟩ = some (.int .u8 (byteS t (1 + j) : Int))) := Lib.hid fun j hj => by rw [hcl.c j hj, byteS_ext _ _ _ j (by omega) (by omega)]
          have HW1 := Lib.hid hbl
          have hle0 : (0 : Int) ≤ 1 + (m : Int) := by omega
          have htn : (1 + (m : Int)).toNat = 1 + m := by omega
          have HBT := Lib.hid (beA_lt t 1)
          have hle1 : (1 : Int) ≤ 1 + (m : Int) := by omega
          have hle2 : 1 + (m : Int) ≤ (t.size : Int) := by omega
          have HKM : Hid (takD t = if t.extract 0 (1 + m) = tL (lenL (beA t 1 m)) then some (beA t 1 m, 1 + m) else none) := Lib.hid hk1
          have HRS := Lib.hid hres
          have HBN : Hid (beA t 1 m < 16777216) := Lib.hid (by
            have h := beA_lt t 1 m
            have : 256 ^ m ≤ 256 ^ 3 := Nat.pow_le_pow_right (by decide) (by omega)
            have e : 256 ^ 3 = 16777216 := by decide
            omega)
          have H33 := Lib.hid h3
          clear hres hb h0 hz h1 hm h3 hb8 h5 hk1 hxs hcl hbl
          go_enter Try.func30, Try.ntmps30
          go_wp2_with fail
          go_loopw [2, 7, 36] (fun x _ u wr => ∃ k : Nat, x = .int .i64 ((beA t 1 k : Nat) : Int) ∧ u = .int .i64 (k : Int) ∧ k ≤ m ∧ wr = W1) (fun _ _ u _ => m - (intOf u).toNat)
          case atStart => exact ⟨0, rfl, rfl, Nat.zero_le _, rfl⟩
          case round =>
            obtain ⟨k, rfl, rfl, hk, rfl⟩ := hrel
            by_cases hlt : k < m
            · have hlti : (k : Int) < (m : Int) := by omega
              have c0 := HC.out k hlt
              have hv := HBT.out k
              have hb := byteS_lt t (1 + k)
              have hp : 256 ^ k ≤ 256 ^ 3 := Nat.pow_le_pow_right (by decide) (by have := H33.out; omega)
              have HV : Hid (beA t 1 (k + 1) = beA t 1 k * 256 + byteS t (1 + k)) := Lib.hid rfl
              generalize byteS t (1 + k) = y at c0 hb HV
              generalize beA t 1 k = x at hv HV ⊢
              have e : 256 ^ 3 = 16777216 := by decide
              have hx : x ≤ 281474976710656 := by omega
              have hsh : IntKind.i64.wrap ((x : Int) * 256) = ((x * 256 : Nat) : Int) := by rw [IntWalk.i64_in _ (by omega)]; omega
              have hyw : IntKind.i64.wrap (y : Int) = (y : Int) := IntWalk.i64_in _ (by omega)
              have HOR : Hid (bits .or .i64 ((x : Int) * 256) (y : Int) = ((x * 256 + y : Nat) : Int)) := Lib.hid (by have := or_byteD x y hx hb; rwa [Int.natCast_mul] at this)
              have hkw : IntKind.i64.wrap ((k : Int) + 1) = ((k + 1 : Nat) : Int) := by rw [IntWalk.i64_in _ (by omega)]; rfl
              have HK := Lib.hid hlt
              clear hp hv hx hb hlt e hk
              go_wp2_with fail
              exact ⟨⟨k + 1, by rw [HV.out, HOR.out], by go_num, by have := HK.out; omega, trivial⟩, by simp only [intOf]; have := HK.out; omega⟩
            · obtain rfl : k = m := by omega
              have hlti : ¬ (k : Int) < (k : Int) := by omega
              have HLB := Lib.hid HBN.out
              generalize beA t 1 k = n at HKM HLB ⊢
              have C := length_any n
              by_cases heq : t.extract 0 (1 + k) = tL (lenL n)
              · have HRES : Hid (res = (n, t.extract (1 + k) t.size, true)) := Lib.hid (by rw [HRS.out]; unfold takV; rw [HKM.out, if_pos heq]; rfl)
                have HEQ := Lib.hid heq
                have C1 := Lib.hid (C · HLB.out)
                have HW2 : Hid (Below w.heap.size w wr.drew) := Lib.hid HW1.out.drew
                clear C heq HKM
                go_wp2_with fail
                refine heldT_start (by kernel_rfl) ?_
                change wpAnyH _ _ _ _ _ _ _ _ wr.drew
                generalize wr.drew = w2 at HW2 ⊢
                refine heldT_take (i := 0) (v := .string t) rfl (by kernel_rfl) (by kernel_rfl) (by kernel_rfl) (fun _ _ _ h => h) rfl (fun wx => ?_) ?_
                · go_simp; skip
                simp only [pu]
                refine heldT_take (i := 1) (v := .int .i64 (1 + (k : Int))) rfl (by kernel_rfl) (by kernel_rfl) (by kernel_rfl) (fun _ _ _ h => h) rfl (fun wx => ?_) ?_
                · go_simp; skip
                simp only [pu]
                refine heldT_take (i := 2) (v := .string (t.extract 0 (1 + k))) rfl (by kernel_rfl) (by kernel_rfl) (by kernel_rfl) (fun _ _ _ h => h) rfl (fun wx => ?_) ?_
                · go_simp; skip
                simp only [pu]
                refine heldT_take (i := 3) (v := .int .i64 (n : Int)) rfl (by kernel_rfl) (by kernel_rfl) (by kernel_rfl) (fun _ _ _ h => h) rfl (fun wx => ?_) ?_
                · go_simp; skip
                simp only [pu]
                refine heldT_call (i := 4) (f := 33) (by kernel_rfl) rfl rfl (by go_simp; skip) ((C1.out w2).mono ?_)
                rintro e w3 ⟨rfl, b3⟩
                have HW3 := Lib.hid (HW2.out.trans (b3.mono HW2.out.size))
                have HW4 := Lib.hid HW3.out.drew
                clear b3
                refine ⟨_, rfl, ?_⟩
                simp only [pu]
                rw [← HEQ.out]
                refine heldT_take (i := 5) (v := .bool false) rfl (by kernel_rfl) (by kernel_rfl) (by kernel_rfl) (fun _ _ _ h => h) rfl (fun wx => ?_) ?_
                · go_simp <;> simp
                simp only [pu]
                refine wpAnyH_done (by kernel_rfl) ?_ _
                go_wp2_with fail
                refine heldT_start (by kernel_rfl) ?_
                change wpAnyH _ _ _ _ _ _ _ _ w3.drew
                generalize w3.drew = w4 at HW4 ⊢
                refine heldT_take (i := 0) (v := .int .i64 (n : Int)) rfl (by kernel_rfl) (by kernel_rfl) (by kernel_rfl) (fun _ _ _ h => h) rfl (fun wx => ?_) ?_
                · go_simp; skip
                simp only [pu]
                refine heldT_take (i := 1) (v := .string t) rfl (by kernel_rfl) (by kernel_rfl) (by kernel_rfl) (fun _ _ _ h => h) rfl (fun wx => ?_) ?_
                · go_simp; skip
                simp only [pu]
                refine heldT_take (i := 2) (v := .int .i64 (1 + (k : Int))) rfl (by kernel_rfl) (by kernel_rfl) (by kernel_rfl) (fun _ _ _ h => h) rfl (fun wx => ?_) ?_
                · go_simp; skip
                simp only [pu]
                refine heldT_take (i := 3) (v := .string (t.extract (1 + k) t.size)) rfl (by kernel_rfl) (by kernel_rfl) (by kernel_rfl) (fun _ _ _ h => h) rfl (fun wx => ?_) ?_
                · go_simp; skip
                simp only [pu]
                refine heldT_take (i := 4) (v := .int .i64 (n : Int)) rfl (by kernel_rfl) (by kernel_rfl) (by kernel_rfl) (fun _ _ _ h => h) rfl (fun wx => ?_) ?_
                · go_simp; skip
                simp only [pu]
                refine heldT_take (i := 5) (v := .string (t.extract (1 + k) t.size)) rfl (by kernel_rfl) (by kernel_rfl) (by kernel_rfl) (fun _ _ _ h => h) rfl (fun wx => ?_) ?_
                · go_simp; skip
                simp only [pu]
                refine heldT_take (i := 6) (v := .bool true) rfl (by kernel_rfl) (by kernel_rfl) (by kernel_rfl) (fun _ _ _ h => h) rfl (fun wx => ?_) ?_
                · go_simp; skip
                simp only [pu]
                refine wpAnyH_done (by kernel_rfl) ?_ _
                go_wp2_with fail
                go_ret3
                rw [HRES.out]
                exact ⟨rfl, HW4.out⟩
              · have HRES : Hid (res = (0, ⟨#[]⟩, false)) := Lib.hid (by rw [HRS.out]; unfold takV; rw [HKM.out, if_neg heq]; rfl)
                have hnt := ne_text heq
                have C1 := Lib.hid (C · HLB.out)
                have HW2 : Hid (Below w.heap.size w wr.drew) := Lib.hid HW1.out.drew
                clear C heq HKM
                go_wp2_with fail
                refine heldT_start (by kernel_rfl) ?_
                change wpAnyH _ _ _ _ _ _ _ _ wr.drew
                generalize wr.drew = w2 at HW2 ⊢
                refine heldT_take (i := 0) (v := .string t) rfl (by kernel_rfl) (by kernel_rfl) (by kernel_rfl) (fun _ _ _ h => h) rfl (fun wx => ?_) ?_
                · go_simp; skip
                simp only [pu]
                refine heldT_take (i := 1) (v := .int .i64 (1 + (k : Int))) rfl (by kernel_rfl) (by kernel_rfl) (by kernel_rfl) (fun _ _ _ h => h) rfl (fun wx => ?_) ?_
                · go_simp; skip
                simp only [pu]
                refine heldT_take (i := 2) (v := .string (t.extract 0 (1 + k))) rfl (by kernel_rfl) (by kernel_rfl) (by kernel_rfl) (fun _ _ _ h => h) rfl (fun wx => ?_) ?_
                · go_simp; skip
                simp only [pu]
                refine heldT_take (i := 3) (v := .int .i64 (n : Int)) rfl (by kernel_rfl) (by kernel_rfl) (by kernel_rfl) (fun _ _ _ h => h) rfl (fun wx => ?_) ?_
                · go_simp; skip
                simp only [pu]
                refine heldT_call (i := 4) (f := 33) (by kernel_rfl) rfl rfl (by go_simp; skip) ((C1.out w2).mono ?_)
                rintro e w3 ⟨rfl, b3⟩
                have HW3 := Lib.hid (HW2.out.trans (b3.mono HW2.out.size))
                have HW4 := Lib.hid HW3.out.drew
                clear b3
                refine ⟨_, rfl, ?_⟩
                simp only [pu]
                refine heldT_take (i := 5) (v := .bool true) rfl (by kernel_rfl) (by kernel_rfl) (by kernel_rfl) (fun _ _ _ h => h) rfl (fun wx => ?_) ?_
                · go_simp; skip
                simp only [pu]
                refine wpAnyH_done (by kernel_rfl) ?_ _
                go_wp2_with fail
                go_ret3
                rw [HRES.out]
                exact ⟨rfl, HW3.out⟩
end Go.Proofs.Ytkbjgaobhbiieaa
/- Tags, the first item, an item that is written: the developers'. -/
namespace Go.Proofs.Ytkbjgaobhbiieaa
open Go.RowKit
def tagOk (tag : Int) : Bool := !decide (tag < 0 ∨ 255 < tag ∨ tag % 32 = 31)
theorem and31 (x : Nat) (h : x < 256) : bits .and .i64 (x : Int) 31 = ((x % 32 : Nat) : Int) := by
  have := (show ∀ x : Fin 256, bits .and .i64 (x.val : Int) 31 = ((x.val % 32 : Nat) : Int) by decide +kernel) ⟨x, h⟩
  exact this
set_option maxRecDepth 100000 in
theorem isTag_any (tag : Int) (w : World) :
    Calls Try.prog 21 #[.int .i64 tag] w fun e w' => e = .returned (.bool (tagOk tag)) ∧ w' = w := by
  by_cases h1 : tag < 0
  · have HR : Hid (tagOk tag = false) := Lib.hid (by unfold tagOk; rw [decide_eq_true (.inl h1)]; rfl)
    have h1i : ¬ (0 : Int) ≤ tag := by omega
    clear h1
    go_enter Try.func21, Try.ntmps21
    go_wp2_with fail
    go_ret
    exact ⟨by rw [HR.out]; rfl, rfl⟩
  · have h1i : (0 : Int) ≤ tag := by omega
    by_cases h2 : 255 < tag
    · have HR : Hid (tagOk tag = false) := Lib.hid (by unfold tagOk; rw [decide_eq_true (.inr (.inl h2))]; rfl)
      have h2i : ¬ tag ≤ 255 := by omega
      clear h1 h2
      go_enter Try.func21, Try.ntmps21
      go_wp2_with fail
      go_ret
      exact ⟨by rw [HR.out]; rfl, rfl⟩
    · have h2i : tag ≤ 255 := by omega
      obtain ⟨x, rfl⟩ : ∃ x : Nat, tag = (x : Int) := ⟨tag.toNat, by omega⟩
      have HA := and31 x (by omega)
      by_cases h3 : x % 32 = 31
      · have HR : Hid (tagOk (x : Int) = false) := Lib.hid (by unfold tagOk; rw [decide_eq_true (.inr (.inr (by omega)))]; rfl)
        rw [h3] at HA
        clear h1 h2 h3
        go_enter Try.func21, Try.ntmps21
        go_wp2_with fail
        go_ret
        exact ⟨by rw [HR.out]; rfl, rfl⟩
      · have HR : Hid (tagOk (x : Int) = true) := Lib.hid (by unfold tagOk; rw [decide_eq_false (by omega)]; rfl)
        have h4 : ¬ ((x % 32 : Nat) : Int) = 31 := by omega
        have h5 : (((x % 32 : Nat) : Int) == 31) = false := by simpa using h4
        generalize x % 32 = y at HA h4 h5
        clear h1 h2 h3
        go_enter Try.func21, Try.ntmps21
        go_wp2_with fail
        go_ret
        exact ⟨by rw [HR.out]; show Ending.returned (.bool (!((y : Int) == 31))) = _; rw [h5]; rfl, rfl⟩
theorem heldT_bothD {P : Program} {ops : Array Oper} {Q : Exit → Act → World → Prop} {md : Region.Mode} {i j : Nat} {fuel : Nat} {listed : Array Bool} {a : Act} {w : World} (hr : Region.ready md ops listed = [i, j]) (hi : wpOp P ops Q i (fun a' w' => True ∧ wpAnyH P md ops Q (fun _ => True) fuel (listed.setIfInBounds i true) a' w') a w)
    (hj : wpOp P ops Q j (fun a' w' => True ∧ wpAnyH P md ops Q (fun _ => True) fuel (listed.setIfInBounds j true) a' w') a w) : wpAnyH P md ops Q (fun _ => True) (fuel + 1) listed a w :=
  wpAnyH_all hr (by simp) fun q hq => by
    rcases List.mem_cons.1 hq with rfl | hq
    · exact hi
    · obtain rfl := List.mem_singleton.1 hq
      exact hj
/-- An item that is written. -/
theorem wr_app (T : Nat) (x : ByteArray) (hT : T < 256) (hx : x.size < 16777216) : tL [T] ++ (tL (lenL x.size) ++ x) = wrapT T x := by
  unfold wrapT
  rw [← app_assocD, tL_app [T] _ (fun y hy => by rw [List.mem_singleton.1 hy]; exact hT) (lenL_lt _ hx)]
  rfl
set_option maxRecDepth 100000 in
set_option maxHeartbeats 4000000 in
theorem wrapped_any (T : Nat) (x : ByteArray) (w : World) (hT : T < 256) (hx : x.size < 16777216) :
    Calls Try.prog 22 #[.int .i64 (T : Int), .string x] w fun e w' => e = .returned (.string (wrapT T x)) ∧ Below w.heap.size w w' := by
  obtain ⟨n, hn⟩ : ∃ n, n = x.size := ⟨_, rfl⟩
  have hsz : (x.size : Int) = (n : Int) := by rw [hn]
  have HEQ : Hid (tL [T] ++ (tL (lenL n) ++ x) = wrapT T x) := Lib.hid (by rw [hn]; exact wr_app T x hT hx)
  have HJZ : Hid ((tL [T]).size + (tL (lenL n)).size + x.size ≤ 140737488355328) := Lib.hid (by have := (lenL_len n).2; rw [tL_size, tL_size, List.length_singleton]; omega)
  have HT1 : Hid (∀ y ∈ [T], y < 256) := Lib.hid fun y hy => by rw [List.mem_singleton.1 hy]; exact hT
  have C1 := Lib.hid fun wx => length_any n wx (by omega)
  have wT : IntKind.u8.wrap (T : Int) = (T : Int) := by rw [IntKind.wrap_u8']; omega
  have H_w0 : Hid (Below w.heap.size w w.drew) := Lib.hid (Below.refl _ w).drew
  clear hT hx hn
  go_enter Try.func22, Try.ntmps22
  go_wp2_with fail
  refine heldT_start (by kernel_rfl) ?_
  change wpAnyH _ _ _ _ _ _ _ _ w.drew
  generalize w.drew = w0 at H_w0 ⊢
  refine heldT_take (i := 0) (v := .int .i64 (T : Int)) rfl (by kernel_rfl) (by kernel_rfl) (by kernel_rfl) (fun _ _ _ h => h) rfl (fun wx => ?_) ?_
  · go_simp; skip
  simp only [pu]
  refine heldT_take (i := 1) (v := .int .u8 (T : Int)) rfl (by kernel_rfl) (by kernel_rfl) (by kernel_rfl) (fun _ _ _ h => h) rfl (fun wx => ?_) ?_
  · go_simp; skip
  simp only [pu]
  refine heldT_take (i := 4) (v := .string x) rfl (by kernel_rfl) (by kernel_rfl) (by kernel_rfl) (fun _ _ _ h => h) rfl (fun wx => ?_) ?_
  · go_simp; skip
  simp only [pu]
  refine heldT_take (i := 5) (v := .int .i64 (n : Int)) rfl (by kernel_rfl) (by kernel_rfl) (by kernel_rfl) (fun _ _ _ h => h) rfl (fun wx => ?_) ?_
  · go_simp; skip
  simp only [pu]
  refine heldT_take (i := 7) (v := .string x) rfl (by kernel_rfl) (by kernel_rfl) (by kernel_rfl) (fun _ _ _ h => h) rfl (fun wx => ?_) ?_
  · go_simp; skip
  simp only [pu]
  refine heldT_bothD (i := 2) (j := 6) (by kernel_rfl) ?_ ?_
  · have HB1 : Hid (Below w.heap.size w (w0.alloc (.cells #[.int .u8 (T : Int)] 5))) := Lib.hid (H_w0.out.alloc H_w0.out.size _)
    have HK1 := Lib.hid (Blk.new w0 5 #[.int .u8 (T : Int)])
    refine wpOp_lands (i := 2) (v := .slice (some ⟨w0.heap.size, 0, none⟩) 1 1) (R := fun wx => wx = w0.alloc (.cells #[.int .u8 (T : Int)] 5)) (at_drop rfl) rfl (by go_simp <;> exact ⟨rfl, rfl⟩) ?_
    intro _ hwx
    rw [hwx]
    clear hwx
    refine ⟨trivial, ?_⟩
    simp only [pu]
    generalize w0.alloc (.cells #[.int .u8 (T : Int)] 5) = a1 at HB1 HK1 ⊢
    have H_a1 := Lib.hid HB1.out
    refine heldT_bothD (i := 3) (j := 6) (by kernel_rfl) ?_ ?_
    · have hcv := conv_blk a1 w0.heap.size #[.int .u8 (T : Int)] HK1.out [T] HT1.out rfl 1 1 rfl
      refine wpOp_lands (i := 3) (v := .string (tL [T])) (R := fun wx => wx = a1) (at_drop rfl) rfl (by go_simp <;> exact ⟨rfl, rfl⟩) ?_
      intro _ hwx
      rw [hwx]
      clear hwx
      refine ⟨trivial, ?_⟩
      simp only [pu]
      refine heldT_call (i := 6) (f := 33) (by kernel_rfl) rfl rfl (by go_simp; skip) ((C1.out a1).mono ?_)
      rintro e u1 ⟨rfl, b_u1⟩
      have H_u1 := Lib.hid (H_a1.out.trans (b_u1.mono H_a1.out.size))
      refine ⟨_, rfl, ?_⟩
      simp only [pu]
      have HS : Hid (Below w.heap.size w (u1.alloc (.cells #[.string (tL [T]), .string (tL (lenL n)), .string x] 9))) := Lib.hid (H_u1.out.alloc H_u1.out.size _)
      have HKS := Lib.hid (Blk.new u1 9 #[.string (tL [T]), .string (tL (lenL n)), .string x])
      refine heldT_lands (i := 8) (v := .slice (some ⟨u1.heap.size, 0, none⟩) 3 3) (R := fun wx => wx = u1.alloc (.cells #[.string (tL [T]), .string (tL (lenL n)), .string x] 9)) (by kernel_rfl) rfl rfl (by go_simp <;> exact ⟨rfl, rfl⟩) ?_
      intro _ hwx
      rw [hwx]
      clear hwx
      simp only [pu]
      generalize u1.alloc (.cells #[.string (tL [T]), .string (tL (lenL n)), .string x] 9) = wj at HS HKS ⊢
      have CJ := join_lib (tL [T]) (tL (lenL n)) x u1.heap.size 3 wj HKS.out (by decide) HJZ.out
      rw [HEQ.out] at CJ
      refine heldT_call (i := 9) (f := 32) (by kernel_rfl) rfl rfl (by go_simp; skip) ((CJ).mono ?_)
      rintro e wk ⟨rfl, bk⟩
      have HE := Lib.hid (HS.out.trans (bk.mono HS.out.size))
      clear bk CJ
      refine ⟨_, rfl, ?_⟩
      simp only [pu]
      refine heldT_take (i := 10) (v := .string (wrapT T x)) rfl (by kernel_rfl) (by kernel_rfl) (by kernel_rfl) (fun _ _ _ h => h) rfl (fun wx => ?_) ?_
      · go_simp; skip
      simp only [pu]
      refine wpAnyH_done (by kernel_rfl) ?_ _
      go_wp2_with fail
      go_ret
      exact ⟨rfl, HE.out⟩
    · refine wpOp_calls (i := 6) (f := 33) (at_drop rfl) rfl (by go_simp; skip) ((C1.out a1).mono ?_)
      rintro e u1 ⟨rfl, b_u1⟩
      have H_u1 := Lib.hid (H_a1.out.trans (b_u1.mono H_a1.out.size))
      have HKu := Lib.hid (HK1.out.below b_u1 HK1.out.lt)
      have hcv := conv_blk u1 w0.heap.size #[.int .u8 (T : Int)] HKu.out [T] HT1.out rfl 1 1 rfl
      refine ⟨_, rfl, trivial, ?_⟩
      simp only [pu]
      refine heldT_lands (i := 3) (v := .string (tL [T])) (R := fun wx => wx = u1) (by kernel_rfl) rfl rfl (by go_simp <;> exact ⟨rfl, rfl⟩) ?_
      intro _ hwx
      rw [hwx]
      clear hwx
      simp only [pu]
      have HS : Hid (Below w.heap.size w (u1.alloc (.cells #[.string (tL [T]), .string (tL (lenL n)), .string x] 9))) := Lib.hid (H_u1.out.alloc H_u1.out.size _)
      have HKS := Lib.hid (Blk.new u1 9 #[.string (tL [T]), .string (tL (lenL n)), .string x])
      refine heldT_lands (i := 8) (v := .slice (some ⟨u1.heap.size, 0, none⟩) 3 3) (R := fun wx => wx = u1.alloc (.cells #[.string (tL [T]), .string (tL (lenL n)), .string x] 9)) (by kernel_rfl) rfl rfl (by go_simp <;> exact ⟨rfl, rfl⟩) ?_
      intro _ hwx
      rw [hwx]
      clear hwx
      simp only [pu]
      generalize u1.alloc (.cells #[.string (tL [T]), .string (tL (lenL n)), .string x] 9) = wj at HS HKS ⊢
      have CJ := join_lib (tL [T]) (tL (lenL n)) x u1.heap.size 3 wj HKS.out (by decide) HJZ.out
      rw [HEQ.out] at CJ
      refine heldT_call (i := 9) (f := 32) (by kernel_rfl) rfl rfl (by go_simp; skip) ((CJ).mono ?_)
      rintro e wk ⟨rfl, bk⟩
      have HE := Lib.hid (HS.out.trans (bk.mono HS.out.size))
      clear bk CJ
      refine ⟨_, rfl, ?_⟩
      simp only [pu]
      refine heldT_take (i := 10) (v := .string (wrapT T x)) rfl (by kernel_rfl) (by kernel_rfl) (by kernel_rfl) (fun _ _ _ h => h) rfl (fun wx => ?_) ?_
      · go_simp; skip
      simp only [pu]
      refine wpAnyH_done (by kernel_rfl) ?_ _
      go_wp2_with fail
      go_ret
      exact ⟨rfl, HE.out⟩
  · refine wpOp_calls (i := 6) (f := 33) (at_drop rfl) rfl (by go_simp; skip) ((C1.out w0).mono ?_)
    rintro e u1 ⟨rfl, b_u1⟩
    have H_u1 := Lib.hid (H_w0.out.trans (b_u1.mono H_w0.out.size))
    refine ⟨_, rfl, trivial, ?_⟩
    simp only [pu]
    have HB1 : Hid (Below w.heap.size w (u1.alloc (.cells #[.int .u8 (T : Int)] 5))) := Lib.hid (H_u1.out.alloc H_u1.out.size _)
    have HK1 := Lib.hid (Blk.new u1 5 #[.int .u8 (T : Int)])
    refine heldT_lands (i := 2) (v := .slice (some ⟨u1.heap.size, 0, none⟩) 1 1) (R := fun wx => wx = u1.alloc (.cells #[.int .u8 (T : Int)] 5)) (by kernel_rfl) rfl rfl (by go_simp <;> exact ⟨rfl, rfl⟩) ?_
    intro _ hwx
    rw [hwx]
    clear hwx
    simp only [pu]
    generalize u1.alloc (.cells #[.int .u8 (T : Int)] 5) = a1 at HB1 HK1 ⊢
    have H_a1 := Lib.hid HB1.out
    have hcv := conv_blk a1 u1.heap.size #[.int .u8 (T : Int)] HK1.out [T] HT1.out rfl 1 1 rfl
    refine heldT_lands (i := 3) (v := .string (tL [T])) (R := fun wx => wx = a1) (by kernel_rfl) rfl rfl (by go_simp <;> exact ⟨rfl, rfl⟩) ?_
    intro _ hwx
    rw [hwx]
    clear hwx
    simp only [pu]
    have HS : Hid (Below w.heap.size w (a1.alloc (.cells #[.string (tL [T]), .string (tL (lenL n)), .string x] 9))) := Lib.hid (H_a1.out.alloc H_a1.out.size _)
    have HKS := Lib.hid (Blk.new a1 9 #[.string (tL [T]), .string (tL (lenL n)), .string x])
    refine heldT_lands (i := 8) (v := .slice (some ⟨a1.heap.size, 0, none⟩) 3 3) (R := fun wx => wx = a1.alloc (.cells #[.string (tL [T]), .string (tL (lenL n)), .string x] 9)) (by kernel_rfl) rfl rfl (by go_simp <;> exact ⟨rfl, rfl⟩) ?_
    intro _ hwx
    rw [hwx]
    clear hwx
    simp only [pu]
    generalize a1.alloc (.cells #[.string (tL [T]), .string (tL (lenL n)), .string x] 9) = wj at HS HKS ⊢
    have CJ := join_lib (tL [T]) (tL (lenL n)) x a1.heap.size 3 wj HKS.out (by decide) HJZ.out
    rw [HEQ.out] at CJ
    refine heldT_call (i := 9) (f := 32) (by kernel_rfl) rfl rfl (by go_simp; skip) ((CJ).mono ?_)
    rintro e wk ⟨rfl, bk⟩
    have HE := Lib.hid (HS.out.trans (bk.mono HS.out.size))
    clear bk CJ
    refine ⟨_, rfl, ?_⟩
    simp only [pu]
    refine heldT_take (i := 10) (v := .string (wrapT T x)) rfl (by kernel_rfl) (by kernel_rfl) (by kernel_rfl) (fun _ _ _ h => h) rfl (fun wx => ?_) ?_
    · go_simp; skip
    simp only [pu]
    refine wpAnyH_done (by kernel_rfl) ?_ _
    go_wp2_with fail
    go_ret
    exact ⟨rfl, HE.out⟩
end Go.Proofs.Ytkbjgaobhbiieaa
/- The first item: the developers'. -/
namespace Go.Proofs.Ytkbjgaobhbiieaa
open Go.RowKit
theorem tagOk_nat (x : Nat) (h : x < 256) : tagOk (x : Int) = !decide (x % 32 = 31) := by
  unfold tagOk
  by_cases k : x % 32 = 31
  · rw [decide_eq_true k, decide_eq_true (.inr (.inr (by omega)))]
  · rw [decide_eq_false k, decide_eq_false (by omega)]
set_option maxRecDepth 100000 in
set_option maxHeartbeats 4000000 in
theorem first_any (s : ByteArray) (w : World) (hs : s.size ≤ 281474976710656) :
    Calls Try.prog 19 #[.string s] w fun e w' => e = .returned (.tuple #[.agg (cellsI (nextD s)), .int .i64 (errI (nextD s) : Int)]) ∧ Below w.heap.size w w' := by
  obtain ⟨res, hres⟩ : ∃ res, res = nextD s := ⟨_, rfl⟩
  rw [← hres]
  rw [next_tak s] at hres
  have HQ : Hid (Blk (w.alloc (.cells #[.int .i64 0, .string ⟨#[]⟩, .string ⟨#[]⟩] 24)) w.heap.size 24 #[.int .i64 0, .string ⟨#[]⟩, .string ⟨#[]⟩]) := Lib.hid (Blk.new _ _ _)
  have HA := Lib.hid ((Below.refl _ w).alloc (Nat.le_refl _) (.cells #[.int .i64 0, .string ⟨#[]⟩, .string ⟨#[]⟩] 24))
  have HB := Lib.hid (below_setRow' HA.out (Nat.le_refl _) #[.int .i64 0, .string ⟨#[]⟩, .string ⟨#[]⟩])
  by_cases h0 : s.size = 0
  · have HRES : Hid (res = none) := Lib.hid (by rw [hres, if_pos (.inl h0)])
    obtain rfl := text_none14 h0
    clear h0 hs hres
    go_enter Try.func19, Try.ntmps19
    go_wp2_with (refine wpList_store_row rfl 24 _ _ rfl w.heap.size #[.int .i64 0, .string ⟨#[]⟩, .string ⟨#[]⟩] rfl rfl 24 _ HQ.out itemD_size rfl (cellsI_one none) ?_)
    exact bodyPost_ret (results_cell_row_slot rfl _ _ w.heap.size 24 #[.int .i64 0, .string ⟨#[]⟩, .string ⟨#[]⟩] (0, 0) _ _ rfl (HQ.out.row_ _) Try.underlying24 rfl itemD_size rfl) rfl ⟨by rw [HRES.out]; rfl, HB.out⟩
  · have hne := ne_none14 h0
    have hs0 : 0 < s.size := by omega
    obtain ⟨b, hb⟩ : ∃ b, b = byteS s 0 := ⟨_, rfl⟩
    have hb8 : b < 256 := by rw [hb]; exact byteS_lt _ _
    have g0 : (s[0].toNat : Int) = (b : Int) := by rw [byteS_at s 0 hs0, hb]
    have hi0 : (0 : Int) < (s.size : Int) := by omega
    have hbw : IntKind.i64.wrap (b : Int) = (b : Int) := IntWalk.i64_in _ (by omega)
    have CT := fun wx => isTag_any (b : Int) wx
    rw [tagOk_nat b hb8] at CT
    rw [← hb] at hres
    by_cases h31 : b % 32 = 31
    · have HRES : Hid (res = none) := Lib.hid (by rw [hres, if_pos (.inr h31)])
      rw [decide_eq_true h31] at CT
      clear h0 hs hres hb hb8 h31
      go_enter Try.func19, Try.ntmps19
      go_wp2_with fail
      refine (CT _).mono ?_
      rintro e w1 ⟨rfl, rfl⟩
      clear CT
      go_wp2_with (refine wpList_store_row rfl 24 _ _ rfl w.heap.size #[.int .i64 0, .string ⟨#[]⟩, .string ⟨#[]⟩] rfl rfl 24 _ HQ.out itemD_size rfl (cellsI_one none) ?_)
      exact bodyPost_ret (results_cell_row_slot rfl _ _ w.heap.size 24 #[.int .i64 0, .string ⟨#[]⟩, .string ⟨#[]⟩] (0, 0) _ _ rfl (HQ.out.row_ _) Try.underlying24 rfl itemD_size rfl) rfl ⟨by rw [HRES.out]; rfl, HB.out⟩
    · rw [decide_eq_false h31] at CT
      rw [if_neg (by omega)] at hres
      have hle1 : (1 : Int) ≤ (s.size : Int) := by omega
      have hzz : (s.extract 1 s.size).size = s.size - 1 := by rw [ByteArray.size_extract]; omega
      have C := fun wx => taken_any (s.extract 1 s.size) wx (by omega)
      obtain ⟨tv, htv⟩ : ∃ tv, tv = takV (s.extract 1 s.size) := ⟨_, rfl⟩
      rw [← htv] at C
      unfold takV at htv
      have HSS := Lib.hid hs
      obtain ⟨X, hX⟩ : ∃ X, X = s.extract 1 s.size := ⟨_, rfl⟩
      rw [← hX] at htv hres hzz
      have HZZ : Hid (X.size = s.size - 1) := Lib.hid hzz
      clear hX
      cases hk : takD X with
      | none =>
        rw [hk] at htv hres
        have htv : tv = (0, ⟨#[]⟩, false) := htv
        subst htv
        have HRES : Hid (res = none) := Lib.hid hres
        clear h0 hs hres hb hb8 h31 hk hzz
        go_enter Try.func19, Try.ntmps19
        go_wp2_with fail
        refine (CT _).mono ?_
        rintro e w1 ⟨rfl, rfl⟩
        clear CT
        go_wp2_with fail
        refine (C _).mono ?_
        rintro e w2 ⟨rfl, b2⟩
        have HQ2 := Lib.hid (HQ.out.below b2 HQ.out.lt)
        have HB2 := Lib.hid (below_setRow' (HA.out.trans (b2.mono HA.out.size)) (Nat.le_refl _) #[.int .i64 0, .string ⟨#[]⟩, .string ⟨#[]⟩])
        clear C b2
        go_wp2_with (refine wpList_store_row rfl 24 _ _ rfl w.heap.size #[.int .i64 0, .string ⟨#[]⟩, .string ⟨#[]⟩] rfl rfl 24 _ HQ2.out itemD_size rfl (cellsI_one none) ?_)
        exact bodyPost_ret (results_cell_row_slot rfl _ _ w.heap.size 24 #[.int .i64 0, .string ⟨#[]⟩, .string ⟨#[]⟩] (0, 0) _ _ rfl (HQ2.out.row_ _) Try.underlying24 rfl itemD_size rfl) rfl ⟨by rw [HRES.out]; rfl, HB2.out⟩
      | some y =>
        obtain ⟨n, e⟩ := y
        rw [hk] at htv hres
        have htv : tv = (n, X.extract e X.size, true) := htv
        subst htv
        have hres : res = if (X.extract e (s.size - 1)).size < n then none else some (b, (X.extract e (s.size - 1)).extract 0 n, (X.extract e (s.size - 1)).extract n (X.extract e (s.size - 1)).size) := hres
        rw [← HZZ.out] at hres
        generalize X.extract e X.size = Y at C hres
        by_cases hn : Y.size < n
        · have HRES : Hid (res = none) := Lib.hid (by rw [hres, if_pos hn])
          have hni : (Y.size : Int) < (n : Int) := by omega
          clear h0 hs hres hb hb8 h31 hk hzz hn
          go_enter Try.func19, Try.ntmps19
          go_wp2_with fail
          refine (CT _).mono ?_
          rintro e w1 ⟨rfl, rfl⟩
          clear CT
          go_wp2_with fail
          refine (C _).mono ?_
          rintro e w2 ⟨rfl, b2⟩
          have HQ2 := Lib.hid (HQ.out.below b2 HQ.out.lt)
          have HB2 := Lib.hid (below_setRow' (HA.out.trans (b2.mono HA.out.size)) (Nat.le_refl _) #[.int .i64 0, .string ⟨#[]⟩, .string ⟨#[]⟩])
          clear C b2
          go_wp2_with (refine wpList_store_row rfl 24 _ _ rfl w.heap.size #[.int .i64 0, .string ⟨#[]⟩, .string ⟨#[]⟩] rfl rfl 24 _ HQ2.out itemD_size rfl (cellsI_one none) ?_)
          exact bodyPost_ret (results_cell_row_slot rfl _ _ w.heap.size 24 #[.int .i64 0, .string ⟨#[]⟩, .string ⟨#[]⟩] (0, 0) _ _ rfl (HQ2.out.row_ _) Try.underlying24 rfl itemD_size rfl) rfl ⟨by rw [HRES.out]; rfl, HB2.out⟩
        · have HRES : Hid (res = some (b, Y.extract 0 n, Y.extract n Y.size)) := Lib.hid (by rw [hres, if_neg hn])
          have hni : ¬ (Y.size : Int) < (n : Int) := by omega
          have hn0 : (0 : Int) ≤ (n : Int) := by omega
          have hn1 : (n : Int) ≤ (Y.size : Int) := by omega
          clear h0 hs hres hb hb8 h31 hk hzz hn
          go_enter Try.func19, Try.ntmps19
          go_wp2_with fail
          refine (CT _).mono ?_
          rintro e w1 ⟨rfl, rfl⟩
          clear CT
          go_wp2_with fail
          refine (C _).mono ?_
          rintro e w2 ⟨rfl, b2⟩
          have HQ2 := Lib.hid (HQ.out.below b2 HQ.out.lt).drew
          have HB2 := Lib.hid (below_setRow' (HA.out.trans (b2.mono HA.out.size)).drew (Nat.le_refl _) #[.int .i64 (b : Int), .string (Y.extract 0 n), .string (Y.extract n Y.size)])
          clear C b2
          go_wp2_with fail
          refine heldT_start (by kernel_rfl) ?_
          change wpAnyH _ _ _ _ _ _ _ _ w2.drew
          generalize w2.drew = w3 at HQ2 HB2 ⊢
          refine heldT_take (i := 0) (v := .string s) rfl (by kernel_rfl) (by kernel_rfl) (by kernel_rfl) (fun _ _ _ h => h) rfl (fun wx => ?_) ?_
          · go_simp; skip
          simp only [pu]
          refine heldT_take (i := 1) (v := .int .u8 (b : Int)) rfl (by kernel_rfl) (by kernel_rfl) (by kernel_rfl) (fun _ _ _ h => h) rfl (fun wx => ?_) ?_
          · go_simp; skip
          simp only [pu]
          refine heldT_take (i := 2) (v := .int .i64 (b : Int)) rfl (by kernel_rfl) (by kernel_rfl) (by kernel_rfl) (fun _ _ _ h => h) rfl (fun wx => ?_) ?_
          · go_simp; skip
          simp only [pu]
          refine heldT_take (i := 3) (v := .string Y) rfl (by kernel_rfl) (by kernel_rfl) (by kernel_rfl) (fun _ _ _ h => h) rfl (fun wx => ?_) ?_
          · go_simp; skip
          simp only [pu]
          refine heldT_take (i := 4) (v := .int .i64 (n : Int)) rfl (by kernel_rfl) (by kernel_rfl) (by kernel_rfl) (fun _ _ _ h => h) rfl (fun wx => ?_) ?_
          · go_simp; skip
          simp only [pu]
          refine heldT_take (i := 5) (v := .string (Y.extract 0 n)) rfl (by kernel_rfl) (by kernel_rfl) (by kernel_rfl) (fun _ _ _ h => h) rfl (fun wx => ?_) ?_
          · go_simp; skip
          simp only [pu]
          refine heldT_take (i := 6) (v := .string Y) rfl (by kernel_rfl) (by kernel_rfl) (by kernel_rfl) (fun _ _ _ h => h) rfl (fun wx => ?_) ?_
          · go_simp; skip
          simp only [pu]
          refine heldT_take (i := 7) (v := .int .i64 (n : Int)) rfl (by kernel_rfl) (by kernel_rfl) (by kernel_rfl) (fun _ _ _ h => h) rfl (fun wx => ?_) ?_
          · go_simp; skip
          simp only [pu]
          refine heldT_take (i := 8) (v := .string (Y.extract n Y.size)) rfl (by kernel_rfl) (by kernel_rfl) (by kernel_rfl) (fun _ _ _ h => h) rfl (fun wx => ?_) ?_
          · go_simp; skip
          simp only [pu]
          refine heldT_take (i := 9) (v := .agg #[.int .i64 (b : Int), .string (Y.extract 0 n), .string (Y.extract n Y.size)]) rfl (by kernel_rfl) (by kernel_rfl) (by kernel_rfl) (fun _ _ _ h => h) rfl (fun wx => ?_) ?_
          · go_simp; skip
          simp only [pu]
          refine heldT_lands (i := 10) (v := undef) (R := fun wx => wx = w3.setRow w.heap.size #[.int .i64 (b : Int), .string (Y.extract 0 n), .string (Y.extract n Y.size)]) (by kernel_rfl) rfl rfl (lands_store_row 24 _ _ rfl w.heap.size #[.int .i64 (b : Int), .string (Y.extract 0 n), .string (Y.extract n Y.size)] rfl rfl 24 _ HQ2.out itemD_size rfl (cellsI_one (some (b, Y.extract 0 n, Y.extract n Y.size))) rfl) ?_
          rintro _ rfl
          simp only [pu]
          refine heldT_take (i := 11) (v := .int .i64 0) rfl (by kernel_rfl) (by kernel_rfl) (by kernel_rfl) (fun _ _ _ h => h) rfl (fun wx => ?_) ?_
          · go_simp; skip
          simp only [pu]
          refine wpAnyH_done (by kernel_rfl) ?_ _
          go_wp2_with fail
          exact bodyPost_ret (results_cell_row_slot rfl _ _ w.heap.size 24 #[.int .i64 (b : Int), .string (Y.extract 0 n), .string (Y.extract n Y.size)] (0, 0) _ _ rfl (HQ2.out.row_ _) Try.underlying24 rfl itemD_size rfl) rfl ⟨by rw [HRES.out]; rfl, HB2.out⟩
end Go.Proofs.Ytkbjgaobhbiieaa
