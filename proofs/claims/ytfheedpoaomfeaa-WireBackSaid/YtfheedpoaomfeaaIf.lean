/- The document's reader of chapter 13. -/
import Derived.Test.YtfheedpoaomfeaaIe
namespace Go.Proofs.Ytfheedpoaomfeaa
open Go.RowKit
/-- The document's reader in block g. -/
def XW (g : Nat) (B : ByteArray) (E : Nat) (w : World) : Prop := Blk w g 42 #[.string B, .int .i64 (E : Int)]
set_option maxRecDepth 100000 in
theorem rraw_any (g : Nat) (B : ByteArray) (E : Nat) (n : Int) (w : World) (h : XW g B E w) :
    Calls Try.prog 22 #[.pointer (some ⟨g, 0, none⟩), .int .i64 n] w fun e w' => e = .returned (.string (rawW B E n).1) ∧ Ho g w w' ∧ XW g (rawW B E n).2.1 (rawW B E n).2.2 w' := by
  have h : Blk w g 42 #[.string B, .int .i64 (E : Int)] := h
  by_cases hE : E = 0
  · subst hE
    have c0 : w.cell? ⟨g, 0, none⟩ = some (.string B) := h.cell 0
    have c1 : w.cell? ⟨g, 1, none⟩ = some (.int .i64 0) := h.cell 1
    have f0 := h.frozen 0
    have f1 := h.frozen 1
    by_cases h0 : n < 0
    · have hr : rawW B 0 n = (⟨#[]⟩, B, 1) := by unfold rawW; rw [if_neg (by decide), if_pos h0]
      rw [hr]
      have HF : Hid (Ho g w (w.setCell ⟨g, 1, none⟩ (.int .i64 1)) ∧ XW g B 1 (w.setCell ⟨g, 1, none⟩ (.int .i64 1))) := Lib.hid ⟨(Ho.refl g w).set 1 _, h.set_ 1 _⟩
      have d1 : (w.setCell ⟨g, 1, none⟩ (.int .i64 1)).cell? ⟨g, 1, none⟩ = some (.int .i64 1) := (h.set_ 1 _).cell 1
      clear hr h
      go_enter Try.func22, Try.ntmps22
      go_wp2_with fail
      go_ret
      exact ⟨rfl, HF.out⟩
    · by_cases hm : (B.size : Int) < n
      · have hr : rawW B 0 n = (⟨#[]⟩, B, 2) := by unfold rawW; rw [if_neg (by decide), if_neg h0, if_pos hm]
        rw [hr]
        have HF : Hid (Ho g w (w.setCell ⟨g, 1, none⟩ (.int .i64 2)) ∧ XW g B 2 (w.setCell ⟨g, 1, none⟩ (.int .i64 2))) := Lib.hid ⟨(Ho.refl g w).set 1 _, h.set_ 1 _⟩
        have d1 : (w.setCell ⟨g, 1, none⟩ (.int .i64 2)).cell? ⟨g, 1, none⟩ = some (.int .i64 2) := (h.set_ 1 _).cell 1
        clear hr h
        go_enter Try.func22, Try.ntmps22
        go_wp2_with fail
        go_ret
        exact ⟨rfl, HF.out⟩
      · obtain ⟨k, rfl⟩ : ∃ k : Nat, n = (k : Int) := ⟨n.toNat, by omega⟩
        have hk : (k : Int) ≤ (B.size : Int) := by omega
        have hk0 : (0 : Int) ≤ (k : Int) := by omega
        have hr : rawW B 0 (k : Int) = (B.extract 0 k, B.extract k B.size, 0) := by unfold rawW; rw [if_neg (by decide), if_neg h0, if_neg hm, Int.toNat_natCast]
        rw [hr]
        have HF : Hid (Ho g w (w.setCell ⟨g, 0, none⟩ (.string (B.extract k B.size))) ∧ XW g (B.extract k B.size) 0 (w.setCell ⟨g, 0, none⟩ (.string (B.extract k B.size)))) := Lib.hid ⟨(Ho.refl g w).set 0 _, h.set_ 0 _⟩
        clear hr h
        go_enter Try.func22, Try.ntmps22
        go_wp2_with fail
        go_ret
        exact ⟨rfl, HF.out⟩
  · have hr : rawW B E n = (⟨#[]⟩, B, E) := by unfold rawW; rw [if_pos hE]
    rw [hr]
    have c1 : w.cell? ⟨g, 1, none⟩ = some (.int .i64 (E : Int)) := h.cell 1
    have HF : Hid (Ho g w w ∧ XW g B E w) := Lib.hid ⟨Ho.refl g w, h⟩
    have hEi : ¬ (E : Int) = 0 := by omega
    have hE2 : ((E : Int) == 0) = false := by simp [hE]
    clear hr h hE
    go_enter Try.func22, Try.ntmps22
    go_wp2_with fail
    go_ret
    exact ⟨rfl, HF.out⟩
set_option maxRecDepth 100000 in
theorem rrest_any (g : Nat) (B : ByteArray) (E : Nat) (w : World) (h : XW g B E w) :
    Calls Try.prog 26 #[.pointer (some ⟨g, 0, none⟩)] w fun e w' => e = .returned (.int .i64 (restW B E : Int)) ∧ w' = w := by
  have h : Blk w g 42 #[.string B, .int .i64 (E : Int)] := h
  have c0 : w.cell? ⟨g, 0, none⟩ = some (.string B) := h.cell 0
  have c1 : w.cell? ⟨g, 1, none⟩ = some (.int .i64 (E : Int)) := h.cell 1
  unfold restW
  clear h
  by_cases hE : E = 0
  · subst hE
    rw [if_pos rfl]
    go_enter Try.func26, Try.ntmps26
    go_wp2_with fail
    go_ret
    exact ⟨rfl, rfl⟩
  · rw [if_neg hE]
    have hEi : ¬ (E : Int) = 0 := by omega
    have hE2 : ((E : Int) == 0) = false := by simp [hE]
    clear hE
    go_enter Try.func26, Try.ntmps26
    go_wp2_with fail
    go_ret
    exact ⟨rfl, rfl⟩
theorem text_none {B : ByteArray} (h : B.size = 0) : B = ⟨#[]⟩ := by
  cases B with
  | mk d => cases d with | mk l => cases l with
    | nil => rfl
    | cons x l => simp [ByteArray.size] at h
set_option maxRecDepth 100000 in
theorem rend_any (g : Nat) (B : ByteArray) (E : Nat) (w : World) (h : XW g B E w) :
    Calls Try.prog 28 #[.pointer (some ⟨g, 0, none⟩)] w fun e w' => e = .returned (.int .i64 (endW B E : Int)) ∧ w' = w := by
  have h : Blk w g 42 #[.string B, .int .i64 (E : Int)] := h
  have c0 : w.cell? ⟨g, 0, none⟩ = some (.string B) := h.cell 0
  have c1 : w.cell? ⟨g, 1, none⟩ = some (.int .i64 (E : Int)) := h.cell 1
  unfold endW
  clear h
  by_cases hE : E = 0
  · subst hE
    by_cases hB : 0 < B.size
    · rw [if_pos ⟨rfl, hB⟩]
      have hne : (B.toList == []) = false := by
        rw [beq_eq_false_iff_ne]
        intro e
        rw [ByteArray.toList_eq] at e
        have := congrArg List.length e
        rw [Array.length_toList] at this
        have : B.size = 0 := this
        omega
      clear hB
      go_enter Try.func28, Try.ntmps28
      go_wp2_with fail
      go_ret
      exact ⟨rfl, rfl⟩
    · rw [if_neg (by omega)]
      obtain rfl := text_none (show B.size = 0 by omega)
      go_enter Try.func28, Try.ntmps28
      go_wp2_with fail
      go_ret
      exact ⟨rfl, rfl⟩
  · rw [if_neg (by omega)]
    have hEi : ¬ (E : Int) = 0 := by omega
    have hE2 : ((E : Int) == 0) = false := by simp [hE]
    clear hE
    go_enter Try.func28, Try.ntmps28
    go_wp2_with fail
    go_ret
    exact ⟨rfl, rfl⟩
set_option maxRecDepth 100000 in
set_option maxHeartbeats 4000000 in
theorem rnumber_any (g : Nat) (B : ByteArray) (E : Nat) (n : Int) (w : World) (h : XW g B E w) :
    Calls Try.prog 20 #[.pointer (some ⟨g, 0, none⟩), .int .i64 n] w fun e w' => e = .returned (.int .i64 ((numW B E n).1 : Int)) ∧ Ho g w w' ∧ XW g (numW B E n).2.1 (numW B E n).2.2 w' := by
  have h : Blk w g 42 #[.string B, .int .i64 (E : Int)] := h
  by_cases hE : E = 0
  · subst hE
    have c0 : w.cell? ⟨g, 0, none⟩ = some (.string B) := h.cell 0
    have c1 : w.cell? ⟨g, 1, none⟩ = some (.int .i64 0) := h.cell 1
    have f0 := h.frozen 0
    have f1 := h.frozen 1
    by_cases h0 : 1 ≤ n ∧ n ≤ 7
    · have h1 : ¬ n < 1 := by omega
      have h7 : ¬ n > 7 := by omega
      by_cases hm : (B.size : Int) < n
      · have hr : numW B 0 n = (0, B, 2) := by unfold numW; rw [if_neg (by decide), if_neg (by omega), if_pos hm]
        rw [hr]
        have HF : Hid (Ho g w (w.setCell ⟨g, 1, none⟩ (.int .i64 2)) ∧ XW g B 2 (w.setCell ⟨g, 1, none⟩ (.int .i64 2))) := Lib.hid ⟨(Ho.refl g w).set 1 _, h.set_ 1 _⟩
        have d1 : (w.setCell ⟨g, 1, none⟩ (.int .i64 2)).cell? ⟨g, 1, none⟩ = some (.int .i64 2) := (h.set_ 1 _).cell 1
        clear hr h h0
        go_enter Try.func20, Try.ntmps20
        go_wp2_with fail
        go_ret
        exact ⟨rfl, HF.out⟩
      · obtain ⟨m, rfl⟩ : ∃ m : Nat, n = (m : Int) := ⟨n.toNat, by omega⟩
        have hk : (m : Int) ≤ (B.size : Int) := by omega
        have hk0 : (0 : Int) ≤ (m : Int) := by omega
        have hr : numW B 0 (m : Int) = (beV B m, B.extract m B.size, 0) := by unfold numW; rw [if_neg (by decide), if_neg (by omega), if_neg hm, Int.toNat_natCast]
        rw [hr]
        have HF : Hid (Ho g w (w.setCell ⟨g, 0, none⟩ (.string (B.extract m B.size))) ∧ XW g (B.extract m B.size) 0 (w.setCell ⟨g, 0, none⟩ (.string (B.extract m B.size)))) := Lib.hid ⟨(Ho.refl g w).set 0 _, h.set_ 0 _⟩
        have HM : Hid (m ≤ 7 ∧ m ≤ B.size) := Lib.hid (by omega)
        clear hr h h0
        go_enter Try.func20, Try.ntmps20
        go_wp2_with fail
        go_loopw [5, 6] (fun x u wr => ∃ k : Nat, x = .int .i64 ((beV B k : Nat) : Int) ∧ u = .int .i64 (k : Int) ∧ k ≤ m ∧ wr = w) (fun _ u _ => m - (intOf u).toNat)
        case atStart => exact ⟨0, rfl, rfl, Nat.zero_le _, rfl⟩
        case round =>
          obtain ⟨k, rfl, rfl, hkm, rfl⟩ := hrel
          by_cases hlt : k < m
          · have hlti : (k : Int) < (m : Int) := by omega
            have hkB : k < B.size := by have := HM.out; omega
            have hkBi : (k : Int) < (B.size : Int) := by omega
            have hb := byteS_lt B k
            have hv := beV_lt B k
            have hM := HM.out.1
            have hp : 256 ^ k ≤ 256 ^ 6 := Nat.pow_le_pow_right (by decide) (by omega)
            have HV : Hid (beV B (k + 1) = beV B k * 256 + byteS B k) := Lib.hid rfl
            have g0 : (B[k].toNat : Int) = (byteS B k : Int) := by rw [byteS_at B k hkB]
            generalize byteS B k = b at g0 hb HV
            generalize beV B k = x at hv HV ⊢
            have hx : x ≤ 281474976710656 := by omega
            have hsh : IntKind.i64.wrap ((x : Int) * 256) = ((x * 256 : Nat) : Int) := by rw [IntWalk.i64_in _ (by omega)]; omega
            have hbw : IntKind.i64.wrap (b : Int) = (b : Int) := IntWalk.i64_in _ (by omega)
            have had : IntKind.i64.wrap ((x : Int) * 256 + (b : Int)) = (x : Int) * 256 + (b : Int) := IntWalk.i64_in _ (by omega)
            have hsh2 : IntKind.i64.wrap ((x : Int) * 256) = (x : Int) * 256 := IntWalk.i64_in _ (by omega)
            have hkw : IntKind.i64.wrap ((k : Int) + 1) = ((k + 1 : Nat) : Int) := by rw [IntWalk.i64_in _ (by omega)]; rfl
            have HK := Lib.hid hlt
            clear hp hv hx hb hM hlt
            go_wp2_with fail
            exact ⟨⟨k + 1, by rw [HV.out]; go_num, by go_num, by have := HK.out; omega, trivial⟩, by simp only [intOf]; have := HK.out; omega⟩
          · obtain rfl : k = m := by omega
            have hlti : ¬ (k : Int) < (k : Int) := by omega
            go_wp2_with fail
            go_ret
            exact ⟨rfl, HF.out⟩
    · have hr : numW B 0 n = (0, B, 1) := by unfold numW; rw [if_neg (by decide), if_pos h0]
      rw [hr]
      have HF : Hid (Ho g w (w.setCell ⟨g, 1, none⟩ (.int .i64 1)) ∧ XW g B 1 (w.setCell ⟨g, 1, none⟩ (.int .i64 1))) := Lib.hid ⟨(Ho.refl g w).set 1 _, h.set_ 1 _⟩
      have d1 : (w.setCell ⟨g, 1, none⟩ (.int .i64 1)).cell? ⟨g, 1, none⟩ = some (.int .i64 1) := (h.set_ 1 _).cell 1
      clear hr h
      by_cases h1 : n < 1
      · clear h0
        go_enter Try.func20, Try.ntmps20
        go_wp2_with fail
        go_ret
        exact ⟨rfl, HF.out⟩
      · have h7 : n > 7 := by omega
        clear h0
        go_enter Try.func20, Try.ntmps20
        go_wp2_with fail
        go_ret
        exact ⟨rfl, HF.out⟩
  · have hr : numW B E n = (0, B, E) := by unfold numW; rw [if_pos hE]
    rw [hr]
    have c1 : w.cell? ⟨g, 1, none⟩ = some (.int .i64 (E : Int)) := h.cell 1
    have HF : Hid (Ho g w w ∧ XW g B E w) := Lib.hid ⟨Ho.refl g w, h⟩
    have hEi : ¬ (E : Int) = 0 := by omega
    have hE2 : ((E : Int) == 0) = false := by simp [hE]
    clear hr h hE
    go_enter Try.func20, Try.ntmps20
    go_wp2_with fail
    go_ret
    exact ⟨rfl, HF.out⟩
set_option maxRecDepth 100000 in
theorem ropaque_any (g : Nat) (B : ByteArray) (E : Nat) (n : Int) (w : World) (h : XW g B E w) :
    Calls Try.prog 24 #[.pointer (some ⟨g, 0, none⟩), .int .i64 n] w fun e w' => e = .returned (.string (opqW B E n).1) ∧ Ho g w w' ∧ XW g (opqW B E n).2.1 (opqW B E n).2.2 w' := by
  have C := rnumber_any g B E n w h
  unfold opqW
  generalize numW B E n = r at C ⊢
  obtain ⟨x, R, F⟩ := r
  clear h
  go_enter Try.func24, Try.ntmps24
  go_wp2_with fail
  refine C.mono ?_
  rintro e w1 ⟨rfl, h1, h2⟩
  have C2 := rraw_any g R F (x : Int) w1 h2
  clear C h2
  go_wp2_with fail
  refine C2.mono ?_
  rintro e w2 ⟨rfl, h3, h4⟩
  have HF := Lib.hid (h1.trans h3)
  clear h1 h3 C2
  go_wp2_with fail
  go_ret
  exact ⟨rfl, HF.out, h4⟩
end Go.Proofs.Ytfheedpoaomfeaa
