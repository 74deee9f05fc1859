/- The document's answer to chapter 2: One, the walk. -/
import Derived.Test.YtmmijnacgolopaaRb5
import Derived.Test.YtmmijnacgolopaaRb6
import Derived.Deep.RegionHeld3
namespace Go.Proofs.Ytmmijnacgolopaa
open Go.RowKit
theorem iv_lit : #[Value.int .u64 7640891576956012808, Value.int .u64 13503953896175478587, Value.int .u64 4354685564936845355, Value.int .u64 11912009170470909681, Value.int .u64 5840696475078001361, Value.int .u64 11170449401992604703, Value.int .u64 2270897969802886507, Value.int .u64 6620516959819538809] = s8v iv := by kernel_rfl
set_option maxRecDepth 100000 in
set_option maxHeartbeats 1000000 in
theorem rone_any (s : ByteArray) (w : World) (hs : s.size ≤ 100000) :
    Calls Try.prog 10 #[.string s] w fun e w' => e = .returned (.string ⟨(refSum s.data.toList).toArray⟩) ∧ Below w.heap.size w w' := by
  have hX : IntKind.u64.wrap (s.size : Int) = iw (BitVec.ofNat 64 s.size) := wrap_of_nat64 _
  go_enter Try.func10, Try.ntmps10
  go_wp2_with fail
  go_loopg [0] (zeros s.size) (fun gk v wx => ∃ (j : Nat) (t : ByteArray), gk = zeros s.size - j ∧ j ≤ zeros s.size ∧ v = .string t ∧ Hid (t.data.toList = s.data.toList ++ 128 :: List.replicate j 0) ∧ w = wx)
  case atStart => exact ⟨0, _, rfl, by omega, rfl, Lib.hid (by simp), rfl⟩
  case round =>
    obtain ⟨j, t, hgk, hj, rfl, HT, rfl⟩ := hrel
    have HG := Lib.hid hgk
    have hz : zeros s.size < 128 := by unfold zeros; omega
    have hts : t.size = s.size + 1 + j := by
      have := congrArg List.length HT.out
      simp at this
      omega
    have ht1 : t.size ≤ 200000 := by omega
    have HZ := Lib.hid hts
    clear hgk hts
    by_cases hlt : j < zeros s.size
    · have t1 : ((t.size : Int) % 128 != 112) = true := by
        have := HZ.out; unfold zeros at hlt; rw [bne_iff_ne]; omega
      go_wp2_with fail
      go_roundg (zeros s.size - (j + 1))
      case measure => rw [HG.out]; omega
      case rel => exact ⟨j + 1, _, rfl, by omega, rfl, Lib.hid (by simp [HT.out, List.replicate_succ']), rfl⟩
    · have t1 : ((t.size : Int) % 128 != 112) = false := by
        have := HZ.out; unfold zeros at hj hlt; rw [bne_eq_false_iff_eq]; omega
      obtain rfl : j = zeros s.size := by omega
      go_wp2_with fail
      refine (reightB_any (hiW s.size) _).mono ?_
      rintro e w1 ⟨rfl, b1⟩
      have s1 : (eightB (hiW s.size)).size ≤ 8 := Nat.le_of_eq (eightB_size _)
      have s1' : (eightB (hiW s.size)).size = 8 := eightB_size _
      have HS1 := Lib.hid s1'
      clear s1'
      generalize hF1 : eightB (hiW s.size) = F1 at s1 HS1 ⊢
      have HF1 := Lib.hid hF1
      clear hF1
      go_wp2_with fail
      refine (reightB_any (loW s.size) _).mono ?_
      rintro e w2 ⟨rfl, b2⟩
      have s2 : (eightB (loW s.size)).size ≤ 8 := Nat.le_of_eq (eightB_size _)
      have s2' : (eightB (loW s.size)).size = 8 := eightB_size _
      have HS2 := Lib.hid s2'
      clear s2'
      generalize hF2 : eightB (loW s.size) = F2 at s2 HS2 ⊢
      have HF2 := Lib.hid hF2
      have s12 : (t ++ F1).size ≤ 200010 := by rw [ByteArray.size_append]; omega
      clear hF2
      have hsz : (Try.prog.info? 40).map (·.size) = some 8 := by kernel_rfl
      go_wp2_with fail
      have hT : (t ++ F1 ++ F2).data.toList = padded s.data.toList := by
        rw [ByteArray.data_append, ByteArray.data_append, Array.toList_append, Array.toList_append, HT.out, ← HF1.out, ← HF2.out, eightB_data, eightB_data]
        unfold padded
        have hl : s.data.toList.length = s.size := by simp
        rw [hl, pad_eq]
        simp
      have hT2 : (t ++ F1 ++ F2).size ≤ 200020 := by rw [ByteArray.size_append]; omega
      have hT3 : (t ++ F1 ++ F2).size % 128 = 0 := by
        have h3 := HZ.out
        rw [ByteArray.size_append, ByteArray.size_append, HS1.out, HS2.out, h3]
        unfold zeros; omega
      have hbw : Below w.heap.size w w2 := b1.trans (b2.mono b1.size)
      have hBn : w.heap.size ≤ w2.heap.size := hbw.size
      have HTT := Lib.hid hT
      have HT3 := Lib.hid hT3
      clear HT HG HZ hX HF1 HF2 HS1 HS2 b1 b2 hT hT3 s1 s2 s12 t1 ht1 hz hlt hj
      generalize t ++ F1 ++ F2 = T at HTT HT3 hT2 ⊢
      refine wp_gen (fun wx => Blk wx w2.heap.size 40 (s8v (foldB (bS T) 0)) ∧ Below w.heap.size w wx) ⟨(Blk.new w2 _ _).cast_ iv_lit, hbw.alloc hBn _⟩ (fun w3 h3 => ?_)
      obtain ⟨h3, b3⟩ := h3
      clear hbw
      generalize w2.heap.size = nb at h3 hBn ⊢
      go_loopw [5] (fun i wr => ∃ m : Nat, m ≤ T.size ∧ i = .int .i64 (m : Int) ∧ Hid (m % 128 = 0) ∧ Blk wr nb 40 (s8v (foldB (bS T) (m / 128))) ∧ Below w.heap.size w wr) (fun i _ => T.size - (intOf i).toNat)
      case atStart => exact ⟨0, by omega, rfl, Lib.hid rfl, h3, b3⟩
      case round =>
        obtain ⟨m, hm, rfl, HM, hb, hbl⟩ := hrel
        clear h3 b3
        by_cases hlt : m < T.size
        · have hm128 : m + 128 ≤ T.size := by have := HM.out; have := HT3.out; omega
          obtain ⟨e, he⟩ : ∃ e, e = m + 128 := ⟨_, rfl⟩
          have HE : Hid (foldB (bS T) (e / 128) = blockS (foldB (bS T) (m / 128)) (bS (T.extract m e))) := by
            subst he
            refine Lib.hid ?_
            have := HM.out
            rw [show (m + 128) / 128 = m / 128 + 1 by omega]
            refine blockS_congr (fun i hi => ?_) _
            rw [bS_extract T m (m + 128) i (by omega) hm128, show 128 * (m / 128) = m by omega]
          generalize foldB (bS T) (m / 128) = S at hb HE
          have c0 : wr.cell? ⟨nb, 0, none⟩ = some (.int .u64 (iw S.a)) := hb.cell 0
          have c1 : wr.cell? ⟨nb, 1, none⟩ = some (.int .u64 (iw S.b)) := hb.cell 1
          have c2 : wr.cell? ⟨nb, 2, none⟩ = some (.int .u64 (iw S.c)) := hb.cell 2
          have c3 : wr.cell? ⟨nb, 3, none⟩ = some (.int .u64 (iw S.d)) := hb.cell 3
          have c4 : wr.cell? ⟨nb, 4, none⟩ = some (.int .u64 (iw S.e)) := hb.cell 4
          have c5 : wr.cell? ⟨nb, 5, none⟩ = some (.int .u64 (iw S.f)) := hb.cell 5
          have c6 : wr.cell? ⟨nb, 6, none⟩ = some (.int .u64 (iw S.g)) := hb.cell 6
          have c7 : wr.cell? ⟨nb, 7, none⟩ = some (.int .u64 (iw S.h)) := hb.cell 7
          have q : IntKind.i64.wrap ((m : Int) + 128) = (e : Int) := by rw [IntWalk.i64_in _ (by omega)]; omega
          have hme : m ≤ e := by omega
          have heT : e ≤ T.size := by omega
          have HEM := Lib.hid he
          clear he hm128
          go_wp2_with fail
          go_still_tail 6, (by kernel_rfl)
          change wpList _ _ _ _ _ wr.drew
          refine wpList_gen (fun wx => Blk wx nb 40 (s8v S) ∧ Below w.heap.size w wx) ⟨hb, hbl.drew⟩ (fun w9 h9 => ?_)
          obtain ⟨h9, b9⟩ := h9
          clear c0 c1 c2 c3 c4 c5 c6 c7 hb hbl
          go_wp2_with fail
          have hblk := block_any S (T.extract m e) w9 (by have := HEM.out; simp; omega)
          generalize blockS S (bS (T.extract m e)) = S2 at hblk HE
          refine hblk.mono ?_
          clear hblk
          rintro e' w10 ⟨rfl, b10⟩
          have h10 := h9.below b10 h9.lt
          have b10' := b9.trans (b10.mono b9.size)
          clear h9 b9 b10
          have hsz2 : (Try.prog.info? 40).map (·.size) = some (s8v S2).size := by rw [s8_size]; exact hsz
          have hold : (s8v S).size = (s8v S2).size := by rw [s8_size, s8_size]
          go_wp2_with (refine wpList_store_row rfl 40 _ _ rfl nb (s8v S2) rfl rfl 40 _ h10 hsz2 hold (s8_one _) ?_)
          go_roundw
          case rel => exact ⟨e, heT, rfl, Lib.hid (by have := HM.out; have := HEM.out; omega), by rw [HE.out]; exact h10.row_ _, below_setRow' b10' hBn _⟩
          case measure => have := HEM.out; simp [intOf]; omega
        · obtain rfl : m = T.size := by omega
          generalize hS : foldB (bS T) (T.size / 128) = S at hb
          have HS := Lib.hid hS
          clear hS hlt hm
          go_wp2_with fail
          have c0 : wr.cell? ⟨nb, 0, none⟩ = some (.int .u64 (iw S.a)) := hb.cell 0
          have c1 : wr.cell? ⟨nb, 1, none⟩ = some (.int .u64 (iw S.b)) := hb.cell 1
          have c2 : wr.cell? ⟨nb, 2, none⟩ = some (.int .u64 (iw S.c)) := hb.cell 2
          have c3 : wr.cell? ⟨nb, 3, none⟩ = some (.int .u64 (iw S.d)) := hb.cell 3
          have c4 : wr.cell? ⟨nb, 4, none⟩ = some (.int .u64 (iw S.e)) := hb.cell 4
          have c5 : wr.cell? ⟨nb, 5, none⟩ = some (.int .u64 (iw S.f)) := hb.cell 5
          have c6 : wr.cell? ⟨nb, 6, none⟩ = some (.int .u64 (iw S.g)) := hb.cell 6
          have c7 : wr.cell? ⟨nb, 7, none⟩ = some (.int .u64 (iw S.h)) := hb.cell 7
          have hlt := hb.lt
          have hblD : Below w.heap.size w wr.drew := hbl.drew
          have hA : ∀ (G : ByteArray) (x : BitVec 64), (G ++ eightB x).size = G.size + 8 := eightB_add
          have hB : ∀ x : BitVec 64, (eightB x).size = 8 := eightB_size
          go_region_held3 (fun w' => (w'.cell? ⟨nb, 0, none⟩ = some (.int .u64 (iw S.a)) ∧ w'.cell? ⟨nb, 1, none⟩ = some (.int .u64 (iw S.b)) ∧ w'.cell? ⟨nb, 2, none⟩ = some (.int .u64 (iw S.c)) ∧ w'.cell? ⟨nb, 3, none⟩ = some (.int .u64 (iw S.d)) ∧ w'.cell? ⟨nb, 4, none⟩ = some (.int .u64 (iw S.e)) ∧ w'.cell? ⟨nb, 5, none⟩ = some (.int .u64 (iw S.f)) ∧ w'.cell? ⟨nb, 6, none⟩ = some (.int .u64 (iw S.g)) ∧ w'.cell? ⟨nb, 7, none⟩ = some (.int .u64 (iw S.h))) ∧ Below w.heap.size w w' ∧ nb < w'.heap.size)
            (first | go_keep | (go_split_ands; refine ⟨⟨?_, ?_, ?_, ?_, ?_, ?_, ?_, ?_⟩, ?_, ?_⟩ <;> first | (rw [hq.cell (by simp; omega)]; assumption) | (exact Below.trans (by assumption) (hq.mono (by omega))) | (exact Nat.lt_of_lt_of_le (by assumption) hq.size)))
            ((go_at_call 16; refine (reightB_any _ _).mono ?_; rintro e w' ⟨rfl, hq⟩))
          have hR : eightB S.a ++ eightB S.b ++ eightB S.c ++ eightB S.d ++ eightB S.e ++ eightB S.f ++ eightB S.g ++ eightB S.h = ⟨(refSum s.data.toList).toArray⟩ := (sum_eq S).trans (ref_eq s T S HTT.out HS.out)
          rw [hR]
          go_split_ands
          go_wp2_with fail
          go_ret
          exact ⟨rfl, by assumption⟩
end Go.Proofs.Ytmmijnacgolopaa
