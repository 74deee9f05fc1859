/- Encode, Hex. -/
import Derived.Test.YtbipbkancghkfaaDoorWg
import Derived.Test.YtbipbkancghkfaaDoorWj
namespace Go.Proofs.YtbipbkancghkfaaDoor
open Go.RowKit
theorem hex_b64 (s t : ByteArray) (hs : s.size ≤ 140737488355327) (ht : hexT s = t) (w : World) :
    Calls Tryd.prog 16 #[.string s] w fun e w' => e = .returned (.string t) ∧ Below w.heap.size w w' := by
  have C : Hid (∀ w, Calls Tryd.prog 25 #[.string s, .string ⟨#[48, 49, 50, 51, 52, 53, 54, 55, 56, 57, 97, 98, 99, 100, 101, 102]⟩, .int .i64 4] w fun e w' => e = .returned (.string t) ∧ Below w.heap.size w w') :=
    Lib.hid (fun w => ht ▸ hex_text s ▸ written_any s hexS 4 w (by omega) (by decide) (by decide) (by omega))
  go_enter Tryd.func16, Tryd.ntmps16
  go_wp2_with fail
  refine (C.out _).mono ?_
  rintro e w1 ⟨rfl, b1⟩
  clear C
  go_wp2_with fail
  go_ret
  exact ⟨rfl, b1⟩
theorem fill_text (k : Nat) (hk : k ≤ 2) : (⟨#[61, 61]⟩ : ByteArray).extract 0 k = textN k (fun _ => 61) := by
  have : ∀ i : Fin 3, (⟨#[61, 61]⟩ : ByteArray).extract 0 i.val = textN i.val (fun _ => 61) := by decide +kernel
  exact this ⟨k, by omega⟩
theorem enc_b64 (s t : ByteArray) (hs : s.size ≤ 200000000000000) (ht : e64 s = t) (w : World) :
    Calls Tryd.prog 14 #[.string s] w fun e w' => e = .returned (.string t) ∧ Below w.heap.size w w' := by
  obtain ⟨d, hd⟩ : ∃ d, d = textN ((s.size * 8 + 6 - 1) / 6) (fun k => byteS digT (num (bitG (byteS s) 8 s.size) (k * 6) 6)) := ⟨_, rfl⟩
  have hN : d.size = (s.size * 8 + 6 - 1) / 6 := by rw [hd, textN_size]
  obtain ⟨k, hk⟩ : ∃ k, k = (4 - d.size % 4) % 4 := ⟨_, rfl⟩
  have hk2 : k ≤ 2 := by
    obtain ⟨q, r, hr, hq⟩ : ∃ q r, r < 3 ∧ s.size = 3 * q + r := ⟨s.size / 3, s.size % 3, Nat.mod_lt _ (by decide), by omega⟩
    rw [hk, hN, hq]
    rcases (show r = 0 ∨ r = 1 ∨ r = 2 by omega) with rfl | rfl | rfl <;> omega
  have hkm : -((d.size : Int) % 4) % 4 = (k : Int) := by omega
  have hE : d ++ (⟨#[61, 61]⟩ : ByteArray).extract 0 k = t := by
    rw [fill_text k hk2, ← ht, ← enc_text s, hk, hN, hd]
  have C : Hid (∀ w, Calls Tryd.prog 25 #[.string s, .string ⟨#[65, 66, 67, 68, 69, 70, 71, 72, 73, 74, 75, 76, 77, 78, 79, 80, 81, 82, 83, 84, 85, 86, 87, 88, 89, 90, 97, 98, 99, 100, 101, 102, 103, 104, 105, 106, 107, 108, 109, 110, 111, 112, 113, 114, 115, 116, 117, 118, 119, 120, 121, 122, 48, 49, 50, 51, 52, 53, 54, 55, 56, 57, 43, 47]⟩, .int .i64 6] w fun e w' => e = .returned (.string d) ∧ Below w.heap.size w w') :=
    Lib.hid (fun w => hd ▸ written_any s digT 6 w (by omega) (by decide) (by decide) (by omega))
  have hdz : d.size ≤ 300000000000000 := by omega
  have HE := Lib.hid hE
  clear hd hN hE hk
  go_enter Tryd.func14, Tryd.ntmps14
  go_wp2_with fail
  refine (C.out _).mono ?_
  rintro e w1 ⟨rfl, b1⟩
  clear C
  go_wp2_with fail
  go_ret
  exact ⟨by rw [← HE.out]; rfl, b1⟩
end Go.Proofs.YtbipbkancghkfaaDoor
