/- B64Back: the walk. -/
import Derived.Test.YtbipbkancghkfaaDoorVb
namespace Go.Proofs.YtbipbkancghkfaaDoor
open Go.RowKit
theorem dec64_true {s c : ByteArray} (h : dec64 s = (c, true)) : e64 c = s := by
  by_cases hx : ∃ t, e64 t = s
  · obtain ⟨t, ht⟩ := hx
    rw [dec64_of ht] at h
    injection h with h1 _
    rw [← h1]; exact ht
  · rw [dec64_not (fun t e => hx ⟨t, e⟩)] at h
    injection h with _ h2
    cases h2
theorem unhex_true {s c : ByteArray} (h : unhexV s = (c, true)) : hexT c = s := by
  by_cases hx : ∃ t, hexT t = s
  · obtain ⟨t, ht⟩ := hx
    rw [unhexV_of ht] at h
    injection h with h1 _
    rw [← h1]; exact ht
  · rw [unhexV_not (fun t e => hx ⟨t, e⟩)] at h
    injection h with _ h2
    cases h2
set_option maxRecDepth 100000 in
set_option maxHeartbeats 1000000 in
theorem back7_tt (s c d : ByteArray) (hs : s.size ≤ 140737488351232) (hc : dec64 s = (c, true)) (hd : unhexV s = (d, true)) (w : World) :
    Calls Tryd.prog 5 #[.string s] w fun e w' => e = .returned (.bool true) ∧ Below w.heap.size w w' := by
  have z1 := e64_size s
  have z2 := hexT_size s
  have C1 := Lib.hid (enc_b64 s _ (by omega) rfl)
  have C2 := Lib.hid (hex_b64 s _ (by omega) rfl)
  have C3 := Lib.hid (dec_b64 (e64 s) s true (by omega) (dec64_of rfl))
  have C4 := Lib.hid (unhex_b64 (hexT s) s true (by omega) (unhexV_of rfl))
  have C5 := Lib.hid (dec_b64 s c true (by omega) hc)
  have C6 := Lib.hid (unhex_b64 s d true (by omega) hd)
  have hce := dec64_true hc
  have hcz := e64_size c
  rw [hce] at hcz
  have C7 := Lib.hid (enc_b64 c s (by omega) hce)
  clear hce hcz
  have hde := unhex_true hd
  have hdz := hexT_size d
  rw [hde] at hdz
  have C8 := Lib.hid (hex_b64 d s (by omega) hde)
  clear hde hdz
  have T1 := text_self7 s
  generalize e64 s = x at *
  generalize hexT s = y at *
  have z1i : (x.size : Int) = ((s.size : Int) + 2) / 3 * 4 := by omega
  have z2i : (y.size : Int) = 2 * (s.size : Int) := by omega
  clear hc hd z1 z2
  go_enter Tryd.func5, Tryd.ntmps5
  go_wp2_with fail
  refine (examples7_any _).mono ?_
  rintro e w1 ⟨rfl, b1⟩
  go_wp2_with fail
  refine (C1.out _).mono ?_
  rintro e w2 ⟨rfl, b2⟩
  have c2 := b1.trans (b2.mono b1.size)
  clear b1 b2
  go_wp2_with fail
  refine (C2.out _).mono ?_
  rintro e w3 ⟨rfl, b3⟩
  have c3 := c2.trans (b3.mono c2.size)
  clear c2 b3
  go_wp2_with fail
  refine (C3.out _).mono ?_
  rintro e w4 ⟨rfl, b4⟩
  have c4 := c3.trans (b4.mono c3.size)
  clear c3 b4
  go_wp2_with fail
  refine (C4.out _).mono ?_
  rintro e w5 ⟨rfl, b5⟩
  have c5 := c4.trans (b5.mono c4.size)
  clear c4 b5
  go_wp2_with fail
  refine (C5.out _).mono ?_
  rintro e w6 ⟨rfl, b6⟩
  have c6 := c5.trans (b6.mono c5.size)
  clear c5 b6
  go_wp2_with fail
  refine (C6.out _).mono ?_
  rintro e w7 ⟨rfl, b7⟩
  have c7 := c6.trans (b7.mono c6.size)
  clear c6 b7
  go_wp2_with fail
  refine (C7.out _).mono ?_
  rintro e w8 ⟨rfl, b8⟩
  have c8 := c7.trans (b8.mono c7.size)
  clear c7 b8
  go_wp2_with fail
  refine (C8.out _).mono ?_
  rintro e w9 ⟨rfl, b9⟩
  have c9 := c8.trans (b9.mono c8.size)
  clear c8 b9
  go_wp2_with fail
  go_ret
  exact ⟨rfl, c9⟩
set_option maxRecDepth 100000 in
set_option maxHeartbeats 1000000 in
theorem back7_tf (s c d : ByteArray) (hs : s.size ≤ 140737488351232) (hc : dec64 s = (c, true)) (hd : unhexV s = (d, false)) (w : World) :
    Calls Tryd.prog 5 #[.string s] w fun e w' => e = .returned (.bool true) ∧ Below w.heap.size w w' := by
  have z1 := e64_size s
  have z2 := hexT_size s
  have C1 := Lib.hid (enc_b64 s _ (by omega) rfl)
  have C2 := Lib.hid (hex_b64 s _ (by omega) rfl)
  have C3 := Lib.hid (dec_b64 (e64 s) s true (by omega) (dec64_of rfl))
  have C4 := Lib.hid (unhex_b64 (hexT s) s true (by omega) (unhexV_of rfl))
  have C5 := Lib.hid (dec_b64 s c true (by omega) hc)
  have C6 := Lib.hid (unhex_b64 s d false (by omega) hd)
  have hce := dec64_true hc
  have hcz := e64_size c
  rw [hce] at hcz
  have C7 := Lib.hid (enc_b64 c s (by omega) hce)
  clear hce hcz
  have T1 := text_self7 s
  generalize e64 s = x at *
  generalize hexT s = y at *
  have z1i : (x.size : Int) = ((s.size : Int) + 2) / 3 * 4 := by omega
  have z2i : (y.size : Int) = 2 * (s.size : Int) := by omega
  clear hc hd z1 z2
  go_enter Tryd.func5, Tryd.ntmps5
  go_wp2_with fail
  refine (examples7_any _).mono ?_
  rintro e w1 ⟨rfl, b1⟩
  go_wp2_with fail
  refine (C1.out _).mono ?_
  rintro e w2 ⟨rfl, b2⟩
  have c2 := b1.trans (b2.mono b1.size)
  clear b1 b2
  go_wp2_with fail
  refine (C2.out _).mono ?_
  rintro e w3 ⟨rfl, b3⟩
  have c3 := c2.trans (b3.mono c2.size)
  clear c2 b3
  go_wp2_with fail
  refine (C3.out _).mono ?_
  rintro e w4 ⟨rfl, b4⟩
  have c4 := c3.trans (b4.mono c3.size)
  clear c3 b4
  go_wp2_with fail
  refine (C4.out _).mono ?_
  rintro e w5 ⟨rfl, b5⟩
  have c5 := c4.trans (b5.mono c4.size)
  clear c4 b5
  go_wp2_with fail
  refine (C5.out _).mono ?_
  rintro e w6 ⟨rfl, b6⟩
  have c6 := c5.trans (b6.mono c5.size)
  clear c5 b6
  go_wp2_with fail
  refine (C6.out _).mono ?_
  rintro e w7 ⟨rfl, b7⟩
  have c7 := c6.trans (b7.mono c6.size)
  clear c6 b7
  go_wp2_with fail
  refine (C7.out _).mono ?_
  rintro e w8 ⟨rfl, b8⟩
  have c8 := c7.trans (b8.mono c7.size)
  clear c7 b8
  go_wp2_with fail
  go_ret
  exact ⟨rfl, c8⟩
set_option maxRecDepth 100000 in
set_option maxHeartbeats 1000000 in
theorem back7_ft (s c d : ByteArray) (hs : s.size ≤ 140737488351232) (hc : dec64 s = (c, false)) (hd : unhexV s = (d, true)) (w : World) :
    Calls Tryd.prog 5 #[.string s] w fun e w' => e = .returned (.bool true) ∧ Below w.heap.size w w' := by
  have z1 := e64_size s
  have z2 := hexT_size s
  have C1 := Lib.hid (enc_b64 s _ (by omega) rfl)
  have C2 := Lib.hid (hex_b64 s _ (by omega) rfl)
  have C3 := Lib.hid (dec_b64 (e64 s) s true (by omega) (dec64_of rfl))
  have C4 := Lib.hid (unhex_b64 (hexT s) s true (by omega) (unhexV_of rfl))
  have C5 := Lib.hid (dec_b64 s c false (by omega) hc)
  have C6 := Lib.hid (unhex_b64 s d true (by omega) hd)
  have hde := unhex_true hd
  have hdz := hexT_size d
  rw [hde] at hdz
  have C8 := Lib.hid (hex_b64 d s (by omega) hde)
  clear hde hdz
  have T1 := text_self7 s
  generalize e64 s = x at *
  generalize hexT s = y at *
  have z1i : (x.size : Int) = ((s.size : Int) + 2) / 3 * 4 := by omega
  have z2i : (y.size : Int) = 2 * (s.size : Int) := by omega
  clear hc hd z1 z2
  go_enter Tryd.func5, Tryd.ntmps5
  go_wp2_with fail
  refine (examples7_any _).mono ?_
  rintro e w1 ⟨rfl, b1⟩
  go_wp2_with fail
  refine (C1.out _).mono ?_
  rintro e w2 ⟨rfl, b2⟩
  have c2 := b1.trans (b2.mono b1.size)
  clear b1 b2
  go_wp2_with fail
  refine (C2.out _).mono ?_
  rintro e w3 ⟨rfl, b3⟩
  have c3 := c2.trans (b3.mono c2.size)
  clear c2 b3
  go_wp2_with fail
  refine (C3.out _).mono ?_
  rintro e w4 ⟨rfl, b4⟩
  have c4 := c3.trans (b4.mono c3.size)
  clear c3 b4
  go_wp2_with fail
  refine (C4.out _).mono ?_
  rintro e w5 ⟨rfl, b5⟩
  have c5 := c4.trans (b5.mono c4.size)
  clear c4 b5
  go_wp2_with fail
  refine (C5.out _).mono ?_
  rintro e w6 ⟨rfl, b6⟩
  have c6 := c5.trans (b6.mono c5.size)
  clear c5 b6
  go_wp2_with fail
  refine (C6.out _).mono ?_
  rintro e w7 ⟨rfl, b7⟩
  have c7 := c6.trans (b7.mono c6.size)
  clear c6 b7
  go_wp2_with fail
  refine (C8.out _).mono ?_
  rintro e w8 ⟨rfl, b8⟩
  have c8 := c7.trans (b8.mono c7.size)
  clear c7 b8
  go_wp2_with fail
  go_ret
  exact ⟨rfl, c8⟩
set_option maxRecDepth 100000 in
set_option maxHeartbeats 1000000 in
theorem back7_ff (s c d : ByteArray) (hs : s.size ≤ 140737488351232) (hc : dec64 s = (c, false)) (hd : unhexV s = (d, false)) (w : World) :
    Calls Tryd.prog 5 #[.string s] w fun e w' => e = .returned (.bool true) ∧ Below w.heap.size w w' := by
  have z1 := e64_size s
  have z2 := hexT_size s
  have C1 := Lib.hid (enc_b64 s _ (by omega) rfl)
  have C2 := Lib.hid (hex_b64 s _ (by omega) rfl)
  have C3 := Lib.hid (dec_b64 (e64 s) s true (by omega) (dec64_of rfl))
  have C4 := Lib.hid (unhex_b64 (hexT s) s true (by omega) (unhexV_of rfl))
  have C5 := Lib.hid (dec_b64 s c false (by omega) hc)
  have C6 := Lib.hid (unhex_b64 s d false (by omega) hd)
  have T1 := text_self7 s
  generalize e64 s = x at *
  generalize hexT s = y at *
  have z1i : (x.size : Int) = ((s.size : Int) + 2) / 3 * 4 := by omega
  have z2i : (y.size : Int) = 2 * (s.size : Int) := by omega
  clear hc hd z1 z2
  go_enter Tryd.func5, Tryd.ntmps5
  go_wp2_with fail
  refine (examples7_any _).mono ?_
  rintro e w1 ⟨rfl, b1⟩
  go_wp2_with fail
  refine (C1.out _).mono ?_
  rintro e w2 ⟨rfl, b2⟩
  have c2 := b1.trans (b2.mono b1.size)
  clear b1 b2
  go_wp2_with fail
  refine (C2.out _).mono ?_
  rintro e w3 ⟨rfl, b3⟩
  have c3 := c2.trans (b3.mono c2.size)
  clear c2 b3
  go_wp2_with fail
  refine (C3.out _).mono ?_
  rintro e w4 ⟨rfl, b4⟩
  have c4 := c3.trans (b4.mono c3.size)
  clear c3 b4
  go_wp2_with fail
  refine (C4.out _).mono ?_
  rintro e w5 ⟨rfl, b5⟩
  have c5 := c4.trans (b5.mono c4.size)
  clear c4 b5
  go_wp2_with fail
  refine (C5.out _).mono ?_
  rintro e w6 ⟨rfl, b6⟩
  have c6 := c5.trans (b6.mono c5.size)
  clear c5 b6
  go_wp2_with fail
  refine (C6.out _).mono ?_
  rintro e w7 ⟨rfl, b7⟩
  have c7 := c6.trans (b7.mono c6.size)
  clear c6 b7
  go_wp2_with fail
  go_ret
  exact ⟨rfl, c7⟩
theorem back7_any (s : ByteArray) (w : World) (hs : s.size ≤ 140737488351232) :
    Calls Tryd.prog 5 #[.string s] w fun e w' => e = .returned (.bool true) ∧ Below w.heap.size w w' := by
  obtain ⟨c, f, hc⟩ : ∃ c f, dec64 s = (c, f) := ⟨_, _, rfl⟩
  obtain ⟨d, g, hd⟩ : ∃ d g, unhexV s = (d, g) := ⟨_, _, rfl⟩
  cases f <;> cases g
  · exact back7_ff s c d hs hc hd w
  · exact back7_ft s c d hs hc hd w
  · exact back7_tf s c d hs hc hd w
  · exact back7_tt s c d hs hc hd w
end Go.Proofs.YtbipbkancghkfaaDoor
