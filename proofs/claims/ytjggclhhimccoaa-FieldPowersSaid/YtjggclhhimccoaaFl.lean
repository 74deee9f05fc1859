/- The document's answer to chapter 3: fold, the walk. -/
import Derived.Test.YtjggclhhimccoaaFk
import Derived.Test.YtjggclhhimccoaaFi
import Derived.Deep.LoopGhost
namespace Go.Proofs.Ytjggclhhimccoaa
open Go.RowKit
/-- The digits of T up to k, of V behind. -/
def oFl (V T k i : Nat) : BitVec 32 := if i < k then N8 T i else N8 V i
theorem oFl_put (V T m i : Nat) : (if i = m then Value.int .u32 (iw (N8 T m)) else .int .u32 (iw (oFl V T m i))) = .int .u32 (iw (oFl V T (m + 1) i)) := by
  unfold oFl
  by_cases h1 : i = m
  · subst h1; rw [if_pos rfl, if_pos (by omega)]
  · rw [if_neg h1]
    by_cases h2 : i < m
    · rw [if_pos h2, if_pos (by omega)]
    · rw [if_neg h2, if_neg (by omega)]
structure FO (f : Nat → BitVec 32) (w wr : World) : Prop where
  r : Blk wr w.heap.size 47 (r32 8 fun _ => litw 32 0)
  o : Blk wr (w.heap.size + 1) 47 (r32 8 f)
  l : Below w.heap.size w wr
theorem FO.drewN {f : Nat → BitVec 32} {w wr : World} (h : FO f w wr) (n : Nat) : FO f w (wr.drewN n) := ⟨h.r, h.o, below_draws h.l n⟩
theorem FO.cast {f f' : Nat → BitVec 32} {w wr : World} (h : FO f w wr) (e : ∀ i, i < 8 → f i = f' i) : FO f' w wr := ⟨h.r, h.o.cast_ (row_ext fun i hi => by rw [e i hi]), h.l⟩
theorem FO.put {f f' : Nat → BitVec 32} {w wr : World} (h : FO f w wr) {m : Nat} (hm : m < 8) (v : BitVec 32) (e : ∀ i, (if i = m then Value.int .u32 (iw v) else .int .u32 (iw (f i))) = .int .u32 (iw (f' i))) : FO f' w (wr.setCell ⟨w.heap.size + 1, m, none⟩ (.int .u32 (iw v))) :=
  ⟨h.r.far (by simp) _, (h.o.put hm _).cast_ (row_ext fun i _ => e i), h.l.setCell (by simp) _⟩
theorem foldV_lt40 (c : Nat) (hc : c < M256 * M256) : foldV c < 40 * M256 := by
  have h1 : c % M256 < M256 := Nat.mod_lt _ (by decide)
  have h2 : c / M256 < M256 := Nat.div_lt_of_lt_mul hc
  unfold foldV; omega
set_option maxRecDepth 100000 in
set_option maxHeartbeats 1000000 in
theorem fold_any (c g : Nat) (t : TypeId) (w : World) (hc : c < M256 * M256) (hb : Blk w g t (r64 16 (D64 c))) :
    Calls Try.prog 44 #[.slice (some ⟨g, 0, none⟩) 16 16] w fun e w' => e = .returned (.agg (r32 8 (N8 (c % pP)))) ∧ Below w.heap.size w w' := by
  have hs8 : ∀ f : Nat → BitVec 32, (Try.prog.info? 47).map (·.size) = some (r32 8 f).size := fun f => by rw [row_size]; kernel_rfl
  have HS8 := Lib.hid hs8
  clear hs8
  have hal : Try.prog.arrayLen 47 = 8 := by kernel_rfl
  have hml : ∀ x : BitVec 64, IntKind.u64.wrap (38 * iw x) = iw (mulw x (litw 64 38)) := fun x => by rw [Int.mul_comm]; exact wrap64_mul_lit x 38
  have hmr : ∀ x : BitVec 64, IntKind.u64.wrap (iw x * 38) = iw (mulw x (litw 64 38)) := fun x => wrap64_mul_lit x 38
  have hg := hb.lt
  go_enter Try.func44, Try.ntmps44
  go_wp2_with fail
  go_loopw [4, 5] (fun v i wr => ∃ k : Nat, k ≤ 8 ∧ i = .int .i64 (k : Int) ∧ v = .int .u64 (iw (cw (c % M256) (c / M256) k)) ∧ FO (dF (foldV c) k) w wr) (fun _ i _ => 8 - (intOf i).toNat)
  case atStart => exact ⟨0, by omega, rfl, cw_zero _ _, ((Blk.new w _ _).cast_ zero8).alloc _, (Blk.new _ _ _).cast' ⟨by simp, zero8.trans (row_ext fun i _ => by rw [show dF (foldV c) 0 i = litw 32 0 by unfold dF; rw [if_neg (by omega)]])⟩, ((Below.refl _ _).alloc (Nat.le_refl _) _).alloc (by simp) _⟩
  case round =>
    obtain ⟨k, hk, rfl, rfl, hr⟩ := hrel
    by_cases hlt : k < 8
    · have ca : wr.cell? ⟨g, k, none⟩ = some (.int .u64 (iw (D64 c k))) := (hb.below hr.l hg).at_ (by omega)
      have cb : wr.cell? ⟨g, k + 8, none⟩ = some (.int .u64 (iw (D64 c (k + 8)))) := (hb.below hr.l hg).at_ (by omega)
      have e8 : IntKind.i64.wrap ((k : Int) + 8) = ((k + 8 : Nat) : Int) := by rw [IntWalk.i64_in _ (by omega)]; omega
      have hk16 : (k : Int) < 16 := by omega
      go_wp2_with fail
      go_quiet (fail)
      have h2 := hr.drewN nq
      clear ca cb hr e8 hk16
      refine any_gen (F := fun w => Exit.then _ _ _ _ w) (FO (dF (foldV c) k) w) h2 (fun w7 h7 => ?_)
      have co := h7.o.at_ hlt
      have fo := h7.o.frozen k
      have HD := fs_digit c k hlt
      have HB := fs_carry c k hlt
      unfold fs at HD HB
      have K := h7.put (f' := dF (foldV c) (k + 1)) hlt (castw 32 (addw (addw (D64 c k) (mulw (D64 c (k + 8)) (litw 64 38))) (cw (c % M256) (c / M256) k))) (fun i => by rw [HD]; exact dF_put (foldV c) k i)
      have HB' := Lib.hid HB
      clear h7 HD HB
      go_wp2_with fail
      go_roundw
      case rel => exact ⟨k + 1, by omega, by go_num, by rw [← HB'.out], K⟩
      case measure => simp [intOf]; omega
    · obtain rfl : k = 8 := by omega
      have h1 : FO (N8 (foldV c)) w wr := hr.cast fun i hi => by unfold dF; rw [if_pos hi]
      have hV := foldV_lt40 c hc
      have hP := fold_mod c
      rw [cw_end c hc]
      clear hr
      generalize foldV c = V0 at h1 hV hP ⊢
      have HP := Lib.hid hP
      clear hP
      go_wp2_with fail
      obtain ⟨wo, rfl⟩ : ∃ wo : World, wo = w := ⟨_, rfl⟩
      go_loopg [4] V0 (fun gk v wr => ∃ V, gk = V ∧ V < 40 * M256 ∧ Hid (V % pP = c % pP) ∧ v = .int .u64 (iw (BitVec.ofNat 64 (V / M256))) ∧ FO (N8 V) wo wr)
      case atStart => exact ⟨V0, rfl, hV, HP, rfl, h1⟩
      case round =>
        obtain ⟨V, hgk, hV2, HV, rfl, h2⟩ := hrel
        have HG := Lib.hid hgk
        clear hgk h1 HP hV
        have hd40 : V / M256 < 40 := Nat.div_lt_of_lt_mul (by rw [Nat.mul_comm]; exact hV2)
        have hiw : iw (BitVec.ofNat 64 (V / M256)) = ((V / M256 : Nat) : Int) := by
          unfold iw; rw [BitVec.toNat_ofNat, Nat.mod_eq_of_lt (by omega)]
        by_cases h0 : 0 < V / M256
        · have hgt : 0 < iw (BitVec.ofNat 64 (V / M256)) := by rw [hiw]; exact_mod_cast h0
          have hts := tc_start V hV2
          clear hiw
          go_wp2_with fail
          obtain ⟨w1, rfl⟩ : ∃ w1 : World, w1 = wo := ⟨_, rfl⟩
          go_loopw [7, 8] (fun v i wr => ∃ k : Nat, k ≤ 8 ∧ i = .int .i64 (k : Int) ∧ v = .int .u64 (iw (tc V k)) ∧ FO (oFl V (foldV V) k) w1 wr) (fun _ i _ => 8 - (intOf i).toNat)
          case atStart => exact ⟨0, by omega, rfl, rfl, h2.cast fun i _ => by unfold oFl; rw [if_neg (by omega)]⟩
          case round =>
            obtain ⟨k, hk, rfl, rfl, hr⟩ := hrel
            clear h2
            by_cases hlt : k < 8
            · have eo : oFl V (foldV V) k k = N8 V k := by unfold oFl; rw [if_neg (by omega)]
              have co := hr.o.at_ hlt
              rw [eo] at co
              have fo := hr.o.frozen k
              have HD := ts_digit V k hlt hV2
              have HB := ts_carry V k hlt hV2
              unfold ts at HD HB
              have K := hr.put (f' := oFl V (foldV V) (k + 1)) hlt (castw 32 (addw (tc V k) (castw 64 (N8 V k)))) (fun i => by rw [HD]; exact oFl_put V (foldV V) k i)
              have HB' := Lib.hid HB
              clear hr HD HB eo hts hgt
              go_wp2_with fail
              go_roundw
              case rel => exact ⟨k + 1, by omega, by go_num, by rw [← HB'.out], K⟩
              case measure => simp [intOf]; omega
            · obtain rfl : k = 8 := by omega
              have hlt2 := foldV_lt V (by
                have := Nat.mod_add_div V M256
                have h3 : M256 * 1 ≤ M256 * (V / M256) := Nat.mul_le_mul_left _ h0
                omega)
              have h3 : FO (N8 (foldV V)) w1 wr := hr.cast fun i hi => by unfold oFl; rw [if_pos hi]
              have HF := Lib.hid (fold_mod V)
              rw [tc_end V]
              clear hr hts hgt
              go_wp2_with fail
              go_roundg (foldV V)
              case measure => rw [HG.out]; exact hlt2
              case rel => exact ⟨foldV V, rfl, Nat.lt_trans hlt2 hV2, Lib.hid (HF.out.trans HV.out), rfl, h3⟩
        · have hd0 : V / M256 = 0 := Nat.eq_zero_of_not_pos h0
          have hz0 : ¬ 0 < iw (BitVec.ofNat 64 (V / M256)) := by rw [hiw, hd0]; decide
          have hVM : V < M256 := by
            have := Nat.mod_add_div V M256
            rw [hd0] at this
            have := Nat.mod_lt V (show 0 < M256 by decide)
            omega
          have ho := h2.o
          have hz := h2.r
          have hl := h2.l
          clear h2 hiw hd0
          go_wp2_with (refine wpList_load_row rfl 47 _ rfl (wo.heap.size + 1) rfl 47 _ (0, 0) _ ho Try.underlying47 rfl (HS8.out _) ?_)
          refine (below_any V wr hVM).mono ?_
          rintro e w8 ⟨rfl, hq⟩
          have hz8 := hz.below hq hz.lt
          have hl8 := hl.trans (hq.mono hl.size)
          rw [HV.out]
          clear hz hl hq ho
          go_wp2_with (refine wpList_store_row rfl 47 _ _ rfl wo.heap.size (r32 8 (N8 (c % pP))) rfl rfl 47 _ hz8 (HS8.out _) (by rw [row_size, row_size]) (row_one fun _ => rfl) ?_)
          simp only [Act.put]
          exact bodyPost_ret (results_cell_row rfl _ _ wo.heap.size 47 (r32 8 (N8 (c % pP))) (0, 0) _ rfl (hz8.row_ _) Try.underlying47 rfl (HS8.out _)) rfl ⟨rfl, below_setRow' hl8 (by omega) _⟩
end Go.Proofs.Ytjggclhhimccoaa
