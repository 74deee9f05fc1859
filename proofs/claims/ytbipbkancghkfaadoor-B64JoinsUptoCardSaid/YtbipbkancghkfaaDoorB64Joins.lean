/- B64Joins: the walk. -/
import Derived.Test.YtbipbkancghkfaaDoorVb
namespace Go.Proofs.YtbipbkancghkfaaDoor
open Go.RowKit
theorem tri3_left (u t : ByteArray) (g : Nat) (h : 3 * g + 2 < u.size) : tri3 (u ++ t) g = tri3 u g := by
  unfold tri3
  rw [byteS_app, byteS_app, byteS_app, if_pos (show 3 * g < u.size by omega), if_pos (show 3 * g + 1 < u.size by omega), if_pos h]
theorem tri3_right (u t : ByteArray) (q g : Nat) (h : u.size = 3 * q) : tri3 (u ++ t) (q + g) = tri3 t g := by
  unfold tri3
  rw [byteS_app, byteS_app, byteS_app, if_neg (show ¬ 3 * (q + g) < u.size by omega), if_neg (show ¬ 3 * (q + g) + 1 < u.size by omega), if_neg (show ¬ 3 * (q + g) + 2 < u.size by omega),
    show 3 * (q + g) - u.size = 3 * g by omega, show 3 * (q + g) + 1 - u.size = 3 * g + 1 by omega, show 3 * (q + g) + 2 - u.size = 3 * g + 2 by omega]
theorem e64_app (u t : ByteArray) (h : u.size % 3 = 0) : e64 (u ++ t) = e64 u ++ e64 t := by
  have hz := size_app u t
  have h1 := e64_size u
  have h2 := e64_size t
  have h3 := e64_size (u ++ t)
  obtain ⟨q, hq⟩ : ∃ q, u.size = 3 * q := ⟨u.size / 3, by omega⟩
  refine text_same (by rw [size_app]; omega) fun j hj => ?_
  rw [byteS_app, e64_at _ j (by omega)]
  by_cases hju : j < (e64 u).size
  · rw [if_pos hju, e64_at u j (by omega)]
    unfold e64B
    rw [tri3_left u t (j / 4) (by omega), show min ((u ++ t).size - 3 * (j / 4)) 3 = min (u.size - 3 * (j / 4)) 3 by omega]
  · rw [if_neg hju, e64_at t _ (by omega)]
    obtain ⟨i, hi⟩ : ∃ i, j = 4 * q + i := ⟨j - 4 * q, by omega⟩
    rw [show j - (e64 u).size = i by omega]
    unfold e64B
    rw [show j / 4 = q + i / 4 by omega, show j % 4 = i % 4 by omega, tri3_right u t q (i / 4) hq, show min ((u ++ t).size - 3 * (q + i / 4)) 3 = min (t.size - 3 * (i / 4)) 3 by omega]
theorem hexT_app (u t : ByteArray) : hexT (u ++ t) = hexT u ++ hexT t := by
  have hz := size_app u t
  have h1 := hexT_size u
  have h2 := hexT_size t
  have h3 := hexT_size (u ++ t)
  refine text_same (by rw [size_app]; omega) fun j hj => ?_
  rw [byteS_app, hexT_at _ j (by omega)]
  by_cases hju : j < (hexT u).size
  · rw [if_pos hju, hexT_at _ j (by omega)]
    unfold hexB
    rw [byteS_app, if_pos (show j / 2 < u.size by omega)]
  · rw [if_neg hju, hexT_at _ _ (by omega)]
    unfold hexB
    rw [byteS_app, if_neg (show ¬ j / 2 < u.size by omega), show (j - (hexT u).size) % 2 = j % 2 by omega, show (j - (hexT u).size) / 2 = j / 2 - u.size by omega]
set_option maxRecDepth 100000 in
set_option maxHeartbeats 1000000 in
theorem joins7_any (s t : ByteArray) (hs : s.size ≤ 1048576) (ht : t.size ≤ 1048576) (w : World) :
    Calls Tryd.prog 7 #[.string s, .string t] w fun e w' => e = .returned (.bool true) ∧ Below w.heap.size w w' := by
  have hq : (s.size : Int) / 3 * 3 = ((s.size / 3 * 3 : Nat) : Int) := by omega
  obtain ⟨n, hn⟩ : ∃ n, n = s.size / 3 * 3 := ⟨_, rfl⟩
  rw [← hn] at hq
  have hns : n ≤ s.size := by omega
  obtain ⟨u, hu⟩ : ∃ u, s.extract 0 n = u := ⟨_, rfl⟩
  have hus : u.size = n := by rw [← hu, ByteArray.size_extract]; omega
  have hz := size_app u t
  have C1 := Lib.hid (enc_b64 (u ++ t) _ (by omega) (e64_app u t (by omega)))
  have C2 := Lib.hid (enc_b64 u _ (by omega) rfl)
  have C3 := Lib.hid (enc_b64 t _ (by omega) rfl)
  have C4 := Lib.hid (hex_b64 (u ++ t) _ (by omega) (hexT_app u t))
  have C5 := Lib.hid (hex_b64 u _ (by omega) rfl)
  have C6 := Lib.hid (hex_b64 t _ (by omega) rfl)
  have z1 := e64_size u
  have z2 := e64_size t
  have z3 := hexT_size u
  have z4 := hexT_size t
  have T1 := text_self7 (e64 u ++ e64 t)
  have T2 := text_self7 (hexT u ++ hexT t)
  have y1 : (e64 u).size ≤ 2000000 := by omega
  have y2 : (e64 t).size ≤ 2000000 := by omega
  have y3 : (hexT u).size ≤ 2100000 := by omega
  have y4 : (hexT t).size ≤ 2100000 := by omega
  generalize e64 u = a at *
  generalize e64 t = b at *
  generalize hexT u = c at *
  generalize hexT t = d at *
  clear hn z1 z2 z3 z4 hz
  go_enter Tryd.func7, Tryd.ntmps7
  go_wp2_with fail
  refine (examples7_any _).mono ?_
  rintro e w1 ⟨rfl, b1⟩
  go_wp2_with fail
  refine (C1.out _).mono ?_
  rintro e w2 ⟨rfl, b2⟩
  have c2 := b1.trans (b2.mono b1.size)
  clear b1 b2
  go_wp2_with fail
  refine (C2.out _).mono ?_
  rintro e w3 ⟨rfl, b3⟩
  have c3 := c2.trans (b3.mono c2.size)
  clear c2 b3
  go_wp2_with fail
  refine (C3.out _).mono ?_
  rintro e w4 ⟨rfl, b4⟩
  have c4 := c3.trans (b4.mono c3.size)
  clear c3 b4
  go_wp2_with fail
  refine (C4.out _).mono ?_
  rintro e w5 ⟨rfl, b5⟩
  have c5 := c4.trans (b5.mono c4.size)
  clear c4 b5
  go_wp2_with fail
  refine (C5.out _).mono ?_
  rintro e w6 ⟨rfl, b6⟩
  have c6 := c5.trans (b6.mono c5.size)
  clear c5 b6
  go_wp2_with fail
  refine (C6.out _).mono ?_
  rintro e w7 ⟨rfl, b7⟩
  have c7 := c6.trans (b7.mono c6.size)
  clear c6 b7
  go_wp2_with fail
  go_ret
  exact ⟨rfl, c7⟩
end Go.Proofs.YtbipbkancghkfaaDoor
