/- The places of digits: placesOf, haveAll, values. -/
import Derived.Test.YtbipbkancghkfaaDoorWd
namespace Go.Proofs.YtbipbkancghkfaaDoor
open Go.RowKit
attribute [local go_sem] Oper.semAt_some
theorem zero_places (w : World) : (zeroValue 59).run Tryd.prog w = .ok (.agg (row 128 fun _ => .int .u8 0)) w := by kernel_rfl
set_option maxRecDepth 100000 in
set_option maxHeartbeats 2000000 in
theorem placesOf_any (D : ByteArray) (hD : D.size ≤ 128) (hd : ∀ j, j < D.size → byteS D j < 128) (w : World) :
    Calls Tryd.prog 31 #[.string D] w fun e w' => e = .returned (.pointer (some ⟨w.heap.size, 0, none⟩)) ∧ Blk w' w.heap.size 59 (plcR D D.size) ∧ Below w.heap.size w w' := by
  have hz : ∀ w, (zeroValue 59).run Tryd.prog w = .ok (.agg (plcR D 0)) w := zero_places
  have hsz : (plcR D 0).size = 128 := row_size _ _
  go_enter Tryd.func31, Tryd.ntmps31
  have H0 : ∀ w : World, Blk (w.alloc (.cells (plcR D 0) 59)) w.heap.size 59 (plcR D 0) := fun w => Blk.new w _ _
  obtain ⟨P0, hP⟩ : ∃ P, P = plcR D 0 := ⟨_, rfl⟩
  rw [← hP] at hz hsz H0
  have HP := Lib.hid hP.symm
  clear hP
  have H0 := Lib.hid (H0 w)
  go_wp2_with fail
  have b0 : Below w.heap.size w ((w.alloc (.cells P0 59)).iter D 0) := (((Below.refl _ w).alloc (Nat.le_refl _) _).alloc (by simp) _)
  have i0 : Itr ((w.alloc (.cells P0 59)).iter D 0) (w.heap.size + 1) D 0 := by
    have := Itr.new (w.alloc (.cells P0 59)) D 0
    rwa [World.size_alloc] at this
  have k0 : Blk ((w.alloc (.cells P0 59)).iter D 0) w.heap.size 59 (plcR D 0) := by rw [HP.out]; exact H0.out.alloc _
  generalize ((w.alloc (.cells P0 59)).iter D 0) = w1 at b0 i0 k0 ⊢
  clear hz hsz
  go_loopw [] (fun wr => ∃ n, n ≤ D.size ∧ Itr wr (w.heap.size + 1) D n ∧ Blk wr w.heap.size 59 (plcR D n) ∧ Below w.heap.size w wr) (fun wr => D.size - wr.iterPos (w.heap.size + 1))
  case atStart => exact ⟨0, Nat.zero_le _, i0, k0, b0⟩
  case round =>
    clear i0 k0 b0
    obtain ⟨n, hn, hi, hk, hb⟩ := hrel
    by_cases hlt : n < D.size
    · have h128 := hd n hlt
      have hnx := fun ty => next_ascii (P := Tryd.prog) hi ty hlt h128
      have hi2 := hi.put (n + 1)
      have hk2 := hk.putFar (by omega : w.heap.size ≠ w.heap.size + 1) (.stringIter D (n + 1))
      have hb2 := hb.trans (below_putObj (B := w.heap.size) (.stringIter D (n + 1)) hi (by omega))
      have hps := hi.pos
      have hset := plcR_set D n h128
      have q1 := (hk2.cell (byteS D n)).trans (row_get _ h128)
      have q2 := hk2.frozen (byteS D n)
      have k3 := fun v => hk2.set_ (byteS D n) v
      generalize wr.putObj (w.heap.size + 1) (.stringIter D (n + 1)) = w2 at hnx hi2 hk2 hb2 q1 q2 k3
      generalize byteS D n = b at h128 hnx q1 q2 k3 hset
      have hbi : (b : Int) < 128 := by omega
      have hw8 : IntKind.u8.wrap ((n : Int) + 1) = ((n + 1 : Nat) : Int) := by
        have : ∀ x : Int, 0 ≤ x → x < 256 → IntKind.u8.wrap x = x := fun x h1 h2 => by simp [IntKind.wrap, IntKind.bits, IntKind.signed]; omega
        rw [this _ (by omega) (by omega)]; push_cast; rfl
      obtain ⟨m, hm⟩ : ∃ m, m = n + 1 := ⟨_, rfl⟩
      rw [← hm] at hw8 hset hi2
      have hw64 : IntKind.i64.wrap ((n : Int) + 1) = (n : Int) + 1 := IntWalk.i64_in _ (by omega)
      have K3 := Lib.hid (k3 (.int .u8 (m : Int)))
      have HS := Lib.hid hset
      have HM := Lib.hid hm
      clear k3 hset hm hk hi hk2
      go_wp2_with fail
      go_roundw
      case rel => exact ⟨m, by have := HM.out; omega, hi2.far (by simp) _, K3.out.cast_ HS.out, hb2.setCell (p := ⟨w.heap.size, b, none⟩) (Nat.le_refl _) _⟩
      case measure => have := HM.out; rw [hps, (hi2.far (by simp) _).pos]; omega
    · obtain rfl : n = D.size := by omega
      have hnx := fun ty => next_end (P := Tryd.prog) hi ty hlt
      go_wp2_with fail
      go_ret
      exact ⟨rfl, hk, hb⟩
def okD (D : ByteArray) (c : Nat) : Prop := c < 128 ∧ plc D D.size c ≠ 0
set_option maxRecDepth 100000 in
set_option maxHeartbeats 2000000 in
theorem haveAll_any (D s : ByteArray) (pb : Nat) (b : Bool) (w : World) (hp : Blk w pb 59 (plcR D D.size)) (hb : b = true ↔ ∀ j, j < s.size → okD D (byteS s j)) :
    Calls Tryd.prog 32 #[.pointer (some ⟨pb, 0, none⟩), .string s] w fun e w' => e = .returned (.bool b) ∧ Below w.heap.size w w' := by
  go_enter Tryd.func32, Tryd.ntmps32
  have HB := Lib.hid hb
  clear hb
  go_wp2_with fail
  have b0 : Below w.heap.size w (w.iter s 0) := (Below.refl _ w).alloc (Nat.le_refl _) _
  have i0 := Itr.new w s 0
  have k0 : Blk (w.iter s 0) pb 59 (plcR D D.size) := hp.alloc _
  have hpb := hp.lt
  generalize w.iter s 0 = w1 at b0 i0 k0 ⊢
  clear hp
  go_loopw [] (fun wr => ∃ n, n ≤ s.size ∧ Itr wr w.heap.size s n ∧ Blk wr pb 59 (plcR D D.size) ∧ Below w.heap.size w wr ∧ ∀ j, j < n → okD D (byteS s j)) (fun wr => s.size - wr.iterPos w.heap.size)
  case atStart => exact ⟨0, Nat.zero_le _, i0, k0, b0, fun j hj => by omega⟩
  case round =>
    clear i0 k0 b0
    obtain ⟨n, hn, hi, hk, hb, hall⟩ := hrel
    by_cases hlt : n < s.size
    · by_cases h128 : byteS s n < 128
      · have hnx := fun ty => next_ascii (P := Tryd.prog) hi ty hlt h128
        have hi2 := hi.put (n + 1)
        have hk2 := hk.putFar (by omega : pb ≠ w.heap.size) (.stringIter s (n + 1))
        have hb2 := hb.trans (below_putObj (B := w.heap.size) (.stringIter s (n + 1)) hi (by omega))
        have hps := hi.pos
        have q1 := (hk2.cell (byteS s n)).trans (row_get _ h128)
        generalize wr.putObj w.heap.size (.stringIter s (n + 1)) = w2 at hnx hi2 hk2 hb2 q1
        obtain ⟨c, hc⟩ : ∃ c, c = byteS s n := ⟨_, rfl⟩
        rw [← hc] at h128 hnx q1
        have hv := plc_le D c D.size
        obtain ⟨v, hve⟩ : ∃ v, v = plc D D.size c := ⟨_, rfl⟩
        rw [← hve] at q1 hv
        have hci : ¬ (c : Int) ≥ 128 := by omega
        have HC := Lib.hid hc
        have HV := Lib.hid hve
        have HA := Lib.hid hall
        clear hc hve hall hi hk
        by_cases h0 : v = 0
        · have h0i : (v : Int) = 0 := by omega
          obtain rfl : b = false := by
            cases b with
            | false => rfl
            | true => exact absurd (HV.out.symm.trans h0) (HC.out ▸ (HB.out.1 rfl n hlt).2)
          clear HB HV h0
          go_wp2_with fail
          go_ret
          exact ⟨rfl, hb2⟩
        · have h0i : ¬ (v : Int) = 0 := by omega
          have HZ := Lib.hid h0
          clear h0
          go_wp2_with fail
          go_roundw
          case rel =>
            refine ⟨n + 1, by omega, hi2, hk2, hb2, fun j hj => ?_⟩
            by_cases hjn : j = n
            · rw [hjn, ← HC.out]; exact ⟨h128, HV.out ▸ HZ.out⟩
            · exact HA.out j (by omega)
          case measure => rw [hps, hi2.pos]; omega
      · obtain ⟨c, k, hc1, hc2, hnx⟩ := next_high (P := Tryd.prog) hi hlt h128
        have hb2 := hb.trans (below_putObj (B := w.heap.size) (.stringIter s k) hi (by omega))
        generalize wr.putObj w.heap.size (.stringIter s k) = w2 at hnx hb2
        have hci : (c : Int) ≥ 128 := by omega
        obtain rfl : b = false := by
          cases b with
          | false => rfl
          | true => exact absurd (HB.out.1 rfl n hlt).1 h128
        clear HB hall h128
        go_wp2_with fail
        go_ret
        exact ⟨rfl, hb2⟩
    · obtain rfl : n = s.size := by omega
      have hnx := fun ty => next_end (P := Tryd.prog) hi ty hlt
      obtain rfl : b = true := HB.out.2 hall
      clear HB hall
      go_wp2_with fail
      go_ret
      exact ⟨rfl, hb⟩
/-- What is captured. -/
structure capV (bs bp pb : Nat) (D s : ByteArray) (w : World) : Prop where
  s : Blk w bs 9 #[.string s]
  p : Blk w bp 48 #[.pointer (some ⟨pb, 0, none⟩)]
  d : Blk w pb 59 (plcR D D.size)
theorem capV.below {bs bp pb : Nat} {D s : ByteArray} {W A C : World} {B : Nat} (h : capV bs bp pb D s W) (hB : W.heap.size ≤ B) (hA : capV bs bp pb D s A) (hb : Below B A C) : capV bs bp pb D s C :=
  ⟨hA.s.below hb (by have := h.s.lt; omega), hA.p.below hb (by have := h.p.lt; omega), hA.d.below hb (by have := h.d.lt; omega)⟩
set_option maxHeartbeats 2000000 in
theorem values_gives (D s : ByteArray) (hs : s.size ≤ 300000000000000) (hD : D.size ≤ 128) (hall : ∀ j, j < s.size → okD D (byteS s j)) (bs bp pb : Nat) :
    Gives Tryd.prog 40 #[.pointer (some ⟨bs, 0, none⟩), .pointer (some ⟨bp, 0, none⟩)] (capV bs bp pb D s) s.size (fun i => .int .u64 ((plc D D.size (byteS s i) - 1 : Nat) : Int)) := by
  intro l J W hcap hJ hY h0
  refine callsIn_of_wp Tryd.func40 rfl trivial ?_
  simp only [Tryd.ntmps40, List.size_toArray, List.length_cons, List.length_nil, Nat.reduceAdd, Nat.reduceSub, Array.replicate_succ, Array.replicate_zero, List.push_toArray, List.append_toArray, List.nil_append, List.cons_append]
  have hc0 : W.cell? ⟨bs, 0, none⟩ = some (.string s) := hcap.s.cell 0
  have HA := Lib.hid hall
  clear hall
  gi_wp2_with fail
  have b0 : Below W.heap.size W (W.iter s 0) := (Below.refl _ W).alloc (Nat.le_refl _) _
  have i0 := Itr.new W s 0
  have j0 := hJ _ _ _ h0 (Nat.le_refl _) b0
  have c0 := hcap.below (Nat.le_refl _) hcap b0
  have z0 : W.heap.size + 1 ≤ (W.iter s 0).heap.size := by simp [World.iter]
  generalize W.iter s 0 = w1 at b0 i0 j0 c0 z0 ⊢
  gi_loopw [] (fun wr => ∃ i : Nat, i ≤ s.size ∧ J i wr ∧ capV bs bp pb D s wr ∧ W.heap.size + 1 ≤ wr.heap.size ∧ Itr wr W.heap.size s i) (fun wr => s.size - wr.iterPos W.heap.size)
  case atStart => exact ⟨0, by omega, j0, c0, z0, i0⟩
  case round =>
    clear hc0 h0 i0 j0 c0 z0 b0
    obtain ⟨i, hi, hj, hc, hz, hit⟩ := hrel
    by_cases hlt : i < s.size
    · obtain ⟨h128, hne⟩ := HA.out i hlt
      have hnx := fun ty => next_ascii (P := Tryd.prog) hit ty hlt h128
      have b2 := below_putObj (B := W.heap.size) (.stringIter s (i + 1)) hit (Nat.le_refl _)
      have hi2 := hit.put (i + 1)
      have hj2 := hJ _ _ _ hj (by omega) b2
      have hc2 := hcap.below (Nat.le_refl _) hc b2
      have hz2 := Nat.le_trans hz b2.size
      have hps := hit.pos
      generalize wr.putObj W.heap.size (.stringIter s (i + 1)) = w2 at hnx hi2 hj2 hc2 hz2 b2
      obtain ⟨fn, tm, ag, bd, hy, hR⟩ := hY i w2 hlt hj2 hc2 (by omega)
      have q1 : w2.cell? ⟨bp, 0, none⟩ = some (.pointer (some ⟨pb, 0, none⟩)) := hc2.p.cell 0
      have q2 := (hc2.d.cell (byteS s i)).trans (row_get _ h128)
      have hv := plc_le D (byteS s i) D.size
      generalize byteS s i = c at h128 hne hnx q2 hv hy
      have hci : (c : Int) < 128 := by omega
      generalize plc D D.size c = v at q2 hv hy hne
      obtain ⟨u, hu⟩ : ∃ u, u = v - 1 := ⟨_, rfl⟩
      rw [← hu] at hy
      have hw8 : IntKind.u8.wrap ((v : Int) - 1) = (u : Int) := by
        have : ∀ x : Int, 0 ≤ x → x < 256 → IntKind.u8.wrap x = x := fun x h1 h2 => by simp [IntKind.wrap, IntKind.bits, IntKind.signed]; omega
        rw [this _ (by omega) (by omega)]; omega
      have hww : IntKind.u64.wrap (u : Int) = (u : Int) := IntWalk.u64_in _ (by omega)
      clear hu hne hj hc hit b2
      gi_wp2_with fail
      refine ⟨rfl, hR.mono ?_⟩
      rintro e w3 ⟨rfl, hj3, hc3, hu3⟩
      have hi3 : Itr w3 W.heap.size s (i + 1) := hu3.obj (Nat.le_refl _) hi2
      gi_wp2_with fail
      go_roundw
      case rel => exact ⟨i + 1, by omega, hj3, hc3, Nat.le_trans hz2 hu3.size, hi3⟩
      case measure => rw [hps, hi3.pos]; omega
    · obtain rfl : i = s.size := by omega
      have hnx := fun ty => next_end (P := Tryd.prog) hit ty hlt
      gi_wp2_with fail
      go_end0
      exact ⟨⟨_, rfl⟩, hj, hc, by omega⟩
end Go.Proofs.YtbipbkancghkfaaDoor
