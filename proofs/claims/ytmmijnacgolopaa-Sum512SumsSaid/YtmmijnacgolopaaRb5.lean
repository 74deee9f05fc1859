/- The document's answer to chapter 2: block, the walk. -/
import Derived.Test.YtmmijnacgolopaaRbE
namespace Go.Proofs.Ytmmijnacgolopaa
open Go.RowKit
set_option maxRecDepth 100000 in
set_option maxHeartbeats 2000000 in
theorem block_any (s : S8) (b : ByteArray) (w : World) (hb : b.size = 128) :
    Calls Try.prog 17 #[.agg (s8v s), .string b] w fun e w' => e = .returned (.agg (s8v (blockS s (bS b)))) ∧ Below w.heap.size w w' := by
  have HB64 := Lib.hid hb
  have hb1 : b.size ≤ 128 := by omega
  clear hb
  obtain ⟨i0, hi, hz0, hz1, hz2⟩ := info_parts u64_info
  go_enter Try.func17, Try.ntmps17
  go_wp2_with fail
  go_loopw [5, 6] (fun v i wr => ∃ k : Nat, k ≤ 16 ∧ i = .int .i64 k ∧ BW s k (wd (bS b)) w v wr) (fun _ i _ => 16 - (intOf i).toNat)
  case atStart => exact ⟨0, by omega, rfl, ⟨⟨(Blk.new w _ _).alloc _, (Blk.new (w.alloc _) _ _).cast' ⟨by simp, rfl⟩, ((Below.refl _ _).alloc (by omega) _).alloc (by simp) _⟩, ⟨rfl, .inl ⟨rfl, rfl⟩⟩, by simp⟩⟩
  case round =>
    obtain ⟨k, hk, rfl, hr⟩ := hrel
    by_cases hlt : k < 16
    · go_wp2_with fail
      obtain ⟨wo, rfl⟩ : ∃ wo : World, wo = wr := ⟨_, rfl⟩
      go_loopw [7, 8] (fun v i wr => ∃ t : Nat, t ≤ 8 ∧ i = .int .i64 t ∧ v = .int .u64 (iw (acc (bS b) k t)) ∧ wo = wr) (fun _ i _ => 8 - (intOf i).toNat)
      case atStart => exact ⟨0, by omega, rfl, lit0, rfl⟩
      case round =>
        obtain ⟨t, ht, rfl, rfl, rfl⟩ := hrel
        by_cases htl : t < 8
        · have hix := fun w => run_byte (P := Try.prog) w 9 Try.underlying9 b (8 * k + t) (by have := HB64.out; omega) .i64 (8 * (k : Int) + (t : Int)) (by omega)
          have ha : acc (bS b) k (t + 1) = orw (shlw (acc (bS b) k t) 8) (castw 64 (bS b (8 * k + t))) := rfl
          have HA := Lib.hid ha
          clear ha
          generalize acc (bS b) k t = X at HA ⊢
          go_wp2_with fail
          go_roundw
          case rel => exact ⟨t + 1, by omega, by go_num, by rw [HA.out], by trivial⟩
          case measure => simp [intOf]; omega
        · obtain rfl : t = 8 := by omega
          have hW : acc (bS b) k 8 = wd (bS b) k := rfl
          rw [hW]
          clear hW
          go_wp2_with (first
            | (at_builtin; refine wpList_append_own _ rfl (.tmp 33) (.tmp 35) 51 rfl (w.heap.size + 2) 36 i0 (.int .u64 0) 1 8 Try.underlying51 hi hz0 hz1 hz2 rfl (by decide) u5 k (u64l k (wd (bS b))) rfl (hr.own.alloc _) ⟨wo.heap.size, 0, none⟩ 1 1 [.int .u64 (iw (wd (bS b) k))] rfl rfl ?c1 ?c2 ?c3 ?c4 ?c5 ?_))
          case c1 =>
            intro j u hu
            rw [addr_add, Nat.zero_add]
            exact (cell_of_row _ _ j _ _ (0, 0) (heap_alloc_new wo _)).trans (by rw [← hu]; simp)
          case c2 =>
            intro u hu
            simp at hu
            subst hu; rfl
          case c3 => unfold maxLen; omega
          case c4 => omega
          case c5 => have := hr.lt; simp; omega
          intro v' w2 hown2 hg2 _
          have K := hr.grow _ hg2 hown2 (g := wd (bS b)) (fun _ _ => rfl) rfl
          clear hown2 hg2 hr
          go_wp2_with fail
          go_roundw
          case rel => exact ⟨k + 1, by omega, by go_num, K⟩
          case measure => simp [intOf]; omega
    · obtain rfl : k = 16 := by omega
      clear hlt hk
      have hr2 : BW s 16 (schd (bS b) 0) w u5 wr := ⟨hr.sb, by
        have := hr.own
        have e : u64l 16 (wd (bS b)) = u64l 16 (schd (bS b) 0) := List.map_congr_left fun i h => by simp [schd, List.mem_range.1 h]
        rwa [e] at this, hr.lt⟩
      clear hr
      go_wp2_with fail
      obtain ⟨wo, rfl⟩ : ∃ wo : World, wo = wr := ⟨_, rfl⟩
      go_loopw [5, 9] (fun v i wr => ∃ m : Nat, 16 ≤ m ∧ m ≤ 80 ∧ i = .int .i64 (m : Int) ∧ BW s m (schd (bS b) (m - 16)) w v wr) (fun _ i _ => 80 - (intOf i).toNat)
      case atStart => exact ⟨16, by omega, by omega, rfl, hr2⟩
      case round =>
        obtain ⟨m, hm, hn, rfl, hr⟩ := hrel
        clear hr2
        obtain ⟨gv, cap, rfl, hcap⟩ : ∃ gv cap, u5 = .slice (some ⟨gv, 0, none⟩) m cap ∧ m ≤ cap := by
          rcases hr.own.2 with ⟨_, h0⟩ | ⟨g, cap, cur, hv, _, _, hc, _⟩
          · omega
          · exact ⟨g, cap, hv, hc⟩
        have cell : ∀ (wx : World) (hx : BW s m (schd (bS b) (m - 16)) w (.slice (some ⟨gv, 0, none⟩) m cap) wx) (j : Nat), j < m → wx.cell? ⟨gv, j, none⟩ = some (.int .u64 (iw (schd (bS b) (m - 16) j))) := fun wx hx j hj => by
          have := hx.own.cells (g := gv) (by simp [Value.ownBlock]) j _ (u64l_get m _ j hj)
          rwa [addr_add, Nat.zero_add] at this
        by_cases hlt : m < 80
        · have c2 := cell wr hr (m - 2) (by omega)
          go_wp2_with fail
          go_quiet ((go_at_call 22; exact Calls.quiet_of_same (rturn_int _ _ _ (by omega) (by omega))))
          have h4 := hr.drewN nq
          clear c2 hr
          refine any_gen (F := fun w => Exit.then _ _ _ _ w) (BW s m (schd (bS b) (m - 16)) w (.slice (some ⟨gv, 0, none⟩) m cap)) h4 (fun w4 h4 => ?_)
          have c15 := cell w4 h4 (m - 15) (by omega)
          go_wp2_with fail
          go_quiet ((go_at_call 22; exact Calls.quiet_of_same (rturn_int _ _ _ (by omega) (by omega))))
          have h5 := h4.drewN nq
          clear c15 h4
          refine any_gen (F := fun w => Exit.then _ _ _ _ w) (BW s m (schd (bS b) (m - 16)) w (.slice (some ⟨gv, 0, none⟩) m cap)) h5 (fun w5 h5 => ?_)
          go_wp2_with fail
          have h6 := h5.drew
          have c7 := cell w5 h5 (m - 7) (by omega)
          have c16 := cell w5 h5 (m - 16) (by omega)
          have q7 : IntKind.i64.wrap ((m : Int) - 7) = ((m - 7 : Nat) : Int) := by rw [IntWalk.i64_in _ (by omega)]; omega
          have q16 : IntKind.i64.wrap ((m : Int) - 16) = ((m - 16 : Nat) : Int) := by rw [IntWalk.i64_in _ (by omega)]; omega
          have p7 : m - 7 < m := by omega
          have p16 : m - 16 < m := by omega
          have p0 : 0 < m := by omega
          have hln : w.heap.size + 2 ≤ w5.heap.size := h6.lt
          clear h5 cell
          go_region_law (
            (refine step_append_own _ rfl (.tmp 81) (.tmp 97) 51 rfl (w.heap.size + 2) 36 i0 (.int .u64 0) 1 8 Try.underlying51 hi hz0 hz1 hz2 rfl (by decide) (.slice (some ⟨gv, 0, none⟩) m cap) m (u64l m (schd (bS b) (m - 16))) rfl (h6.own.alloc _) ⟨w5.heap.size, 0, none⟩ 1 1 [.int .u64 (iw (nextw (schd (bS b) (m - 16)) m))] rfl rfl ?c1 ?c2 ?c3 ?c4 ?c5 ?_
             case c1 =>
               intro j u hu
               rw [addr_add, Nat.zero_add]
               exact (cell_of_row _ _ j _ _ (0, 0) (heap_alloc_new w5.drew _)).trans ((List.getElem?_toArray).trans hu)
             case c2 =>
               intro u hu
               simp at hu
               subst hu; rfl
             case c3 => unfold maxLen; omega
             case c4 => omega
             case c5 => simp; omega
             intro v' w6 hown2 hg2 _))
          all_goals
            have K := h6.grow _ hg2 hown2 (g := schd (bS b) (m + 1 - 16)) (fun i hi => by rw [show m + 1 - 16 = (m - 16) + 1 by omega]; simp [schd, show ¬ i = 16 + (m - 16) by omega]) (by rw [show m + 1 - 16 = (m - 16) + 1 by omega]; simp [schd, show 16 + (m - 16) = m by omega])
            clear hown2 hg2 h6 c7 c16 q7 q16
            go_wp2_with fail
            go_roundw
            case rel => (repeat apply Exists.intro); exact ⟨⟨m + 1, by omega, by omega, by go_num, K⟩, rfl⟩
            case measure => simp [intOf]; omega
        · obtain rfl : m = 80 := by omega
          have hgv : gv < wr.heap.size := by
            rcases hr.own.2 with ⟨h0, _⟩ | ⟨g, cap, cur, hv, _, hh, _⟩
            · cases h0
            · injection hv with h1 h2 h3
              injection h1 with h1
              injection h1 with h1
              subst h1; exact lt_of_block hh
          have hsz : (Try.prog.info? 40).map (·.size) = some 8 := by kernel_rfl
          have hlr := hr.lt
          clear cell hm hn hlt hcap
          go_wp2_with (first
            | (go_at_call 23; refine (table_any _).mono ?_; rintro e w7 ⟨rfl, ht, b7⟩; have hs7 := hr.sb.s.below b7 (by omega); have hl7 := b7.size)
            | (refine wpList_load_row rfl 40 _ rfl w.heap.size rfl 40 _ (0, 0) _ hs7 Try.underlying40 rfl hsz ?_)
            | (refine wpList_store_row rfl 40 _ _ rfl w7.heap.size (s8v s) rfl rfl 40 _ (Blk.new w7 _ _) hsz rfl (s8_one _) ?_))
          have hgt7 : wr.heap.size < w7.heap.size := ht.lt
          have h7 : LW s s b w7.heap.size wr.heap.size gv cap w ((w7.alloc (.cells z8v 40)).setRow w7.heap.size (s8v s)) := by
            have hb : Below wr.heap.size wr ((w7.alloc (.cells z8v 40)).setRow w7.heap.size (s8v s)) := below_setRow' (b7.alloc (by omega) _) (by omega) _
            exact ⟨(Blk.new w7 _ _).row_ _, (ht.alloc _).row_far (by omega) _, ownsRow_below hr.own hb hgv, ⟨hr.sb.s.below hb (by omega), hr.sb.z.below hb (by omega), hr.sb.b.trans (hb.mono (by omega))⟩⟩
          refine wp_gen (LW s s b w7.heap.size wr.heap.size gv cap w) h7 (fun w8 h8 => ?_)
          clear h7 hs7 ht b7 hr
          have hB : w.heap.size + 2 ≤ w7.heap.size := by omega
          have hgv7 : gv < w7.heap.size := by omega
          generalize w7.heap.size = nb at h8 hgt7 hB hgv7 ⊢
          generalize wr.heap.size = gt at h8 hgt7 ⊢
          clear hl7
          go_wp2_with fail
          obtain ⟨wo, rfl⟩ : ∃ wo : World, wo = w8 := ⟨_, rfl⟩
          go_loopw [14] (fun i wr => ∃ j : Nat, j ≤ 80 ∧ i = .int .i64 (j : Int) ∧ LW s (rnd keysC (schd (bS b) 64) s j) b nb gt gv cap w wr) (fun i _ => 80 - (intOf i).toNat)
          case atStart => exact ⟨0, by omega, rfl, h8⟩
          case round =>
            obtain ⟨j, hj, rfl, hr⟩ := hrel
            clear h8
            by_cases hlt : j < 80
            · generalize hS : rnd keysC (schd (bS b) 64) s j = S at hr
              have HS : Hid (rnd keysC (schd (bS b) 64) s (j + 1) = stepS S (keysC j) (schd (bS b) 64 j)) := by rw [← hS]; exact Lib.hid rfl
              clear hS
              have c0 : wr.cell? ⟨nb, 0, none⟩ = some (.int .u64 (iw S.a)) := hr.n.cell 0
              have c1 : wr.cell? ⟨nb, 1, none⟩ = some (.int .u64 (iw S.b)) := hr.n.cell 1
              have c2 : wr.cell? ⟨nb, 2, none⟩ = some (.int .u64 (iw S.c)) := hr.n.cell 2
              have c3 : wr.cell? ⟨nb, 3, none⟩ = some (.int .u64 (iw S.d)) := hr.n.cell 3
              have c4 : wr.cell? ⟨nb, 4, none⟩ = some (.int .u64 (iw S.e)) := hr.n.cell 4
              have c5 : wr.cell? ⟨nb, 5, none⟩ = some (.int .u64 (iw S.f)) := hr.n.cell 5
              have c6 : wr.cell? ⟨nb, 6, none⟩ = some (.int .u64 (iw S.g)) := hr.n.cell 6
              have c7 : wr.cell? ⟨nb, 7, none⟩ = some (.int .u64 (iw S.h)) := hr.n.cell 7
              have ck := hr.k.at_ (i := j) hlt
              have cx := hr.word hlt
              have hj80 : (j : Int) < 80 := by omega
              go_wp2_with fail
              go_still_tail 9, (by kernel_rfl)
              change wpList _ _ _ _ _ wr.drew
              refine wpList_gen (LW s S b nb gt gv cap w) hr.drew (fun w9 h9 => ?_)
              clear c0 c1 c2 c3 c4 c5 c6 c7 ck cx hr
              go_wp2_with fail
              refine (step_any S (keysC j) (schd (bS b) 64 j) w9).mono ?_
              rintro e w10 ⟨rfl, b10⟩
              have h10 := h9.below b10 hgt7 hgv7 hB
              have K : LW s (stepS S (keysC j) (schd (bS b) 64 j)) b nb gt gv cap w (w10.setRow nb (s8v (stepS S (keysC j) (schd (bS b) 64 j)))) := h10.put hgt7 hgv7 hB
              have hn10 := h10.n
              clear h9 b10 h10
              go_wp2_with (refine wpList_store_row rfl 40 _ _ rfl nb (s8v (stepS S (keysC j) (schd (bS b) 64 j))) rfl rfl 40 _ hn10 hsz rfl (s8_one _) ?_)
              go_roundw
              case rel => exact ⟨j + 1, by omega, by go_num, by rw [HS.out]; exact K⟩
              case measure => simp [intOf]; omega
            · obtain rfl : j = 80 := by omega
              generalize hS : rnd keysC (schd (bS b) 64) s 80 = S at hr
              have HS : Hid (blockS s (bS b) = addS s S) := by unfold blockS; rw [hS]; exact Lib.hid rfl
              clear hS hlt hj
              have hs9 := hr.sb.s
              have hn9 := hr.n
              have hz := hr.sb.z
              have hb9 := hr.sb.b
              clear hr
              have hsz' : (Try.prog.info? 40).map (·.size) = some (s8v (addS s S)).size := hsz
              iterate 20 go_step
              refine block_end w.heap.size nb (w.heap.size + 1) s S z8v ?ga ?gb ?gc ?gd hs9 hn9 hz rfl ?ge
              case ga => rfl
              case gb => rfl
              case gc => rfl
              case gd => rfl
              case ge =>
                intro a9 k9
                have e4 : a9.tmps.getD 4 undef = .pointer (some ⟨w.heap.size + 1, 0, none⟩) := k9.below 4 (by decide)
                have ed : a9.defers = [] := k9.defers
                clear k9
                go_wp2
                rw [HS.out]
                exact bodyPost_ret (results_cell_row rfl _ _ (w.heap.size + 1) 40 (s8v (addS s S)) (0, 0) _ e4 (hz.row_ _) Try.underlying40 rfl hsz') ed ⟨rfl, below_setRow' hb9 (by omega) _⟩
end Go.Proofs.Ytmmijnacgolopaa
