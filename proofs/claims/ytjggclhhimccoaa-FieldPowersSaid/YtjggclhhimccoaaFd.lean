/- The document's answer to chapter 3: below. -/
import Derived.Test.YtjggclhhimccoaaFc
import Derived.Deep.RegionHeld3
import Derived.Deep.LoopGhost
import Derived.Test.YtjggclhhimccoaaPart
import Derived.Deep.RegionLaw
import Derived.BigRegion
namespace Go.Proofs.Ytjggclhhimccoaa
open Go.RowKit
theorem step_store_row {P : Program} {ops : Array Oper} {o : Oper} {a : Act} {w : World} {K : Act → World → Prop} {Q : Exit → Act → World → Prop} {E : Prop} (hgd : o.guard = none) (ty : TypeId) (x y : Operand) (ho : o.op = .store ty x y)
    (g : Nat) (cs : Array Value) (hx : a.eval x = .pointer (some ⟨g, 0, none⟩)) (hy : a.eval y = .agg cs) (t : TypeId) (old : Array Value) (hg : Blk w g t old) (hold : old.size = cs.size)
    (hi : (P.info? ty).map (·.size) = some cs.size) (h1 : cs.all (·.oneCell') = true)
    (h : K (a.put o.dst undef) (w.setRow g cs)) : if Region.wanted o (yielded ops a.tmps) = true then Oper.wp P o a w K Q else E := by
  rw [if_pos (by simp [Region.wanted, hgd])]
  exact wp_store_row ty x y ho g cs hx hy t old hg hi hold h1 h
structure CW (c : Nat) (w wr : World) : Prop where
  d : Blk wr w.heap.size 47 (r32 8 (N8 c))
  r : Blk wr (w.heap.size + 1) 47 (r32 8 fun _ => litw 32 0)
  l : Below w.heap.size w wr
theorem CW.below {c : Nat} {w wr w' : World} (h : CW c w wr) (hb : Below wr.heap.size wr w') : CW c w w' :=
  ⟨h.d.below hb h.d.lt, h.r.below hb h.r.lt, h.l.trans (hb.mono h.l.size)⟩
theorem N8_turn (x k : Nat) (hk : k < 8) : N8 (x + M256) k = N8 x k := by
  apply BitVec.eq_of_toNat_eq
  rw [N8_nat, N8_nat]
  unfold M256
  match k, hk with
  | 0, _ => simp only [Nat.reduceMul, Nat.reducePow]; omega
  | 1, _ => simp only [Nat.reduceMul, Nat.reducePow]; omega
  | 2, _ => simp only [Nat.reduceMul, Nat.reducePow]; omega
  | 3, _ => simp only [Nat.reduceMul, Nat.reducePow]; omega
  | 4, _ => simp only [Nat.reduceMul, Nat.reducePow]; omega
  | 5, _ => simp only [Nat.reduceMul, Nat.reducePow]; omega
  | 6, _ => simp only [Nat.reduceMul, Nat.reducePow]; omega
  | 7, _ => simp only [Nat.reduceMul, Nat.reducePow]; omega
theorem CW.put {c d : Nat} {w wr : World} (h : CW c w wr) (e : ∀ i, i < 8 → N8 d i = N8 (c + M256 - pP) i) : CW d w (wr.setRow w.heap.size (r32 8 (N8 (c + M256 - pP)))) :=
  ⟨(h.d.row_ _).cast_ (row_ext fun i hi => by rw [e i hi]), h.r.row_far (by omega) _, below_setRow' h.l (Nat.le_refl _) _⟩
set_option maxRecDepth 100000 in
set_option maxHeartbeats 1000000 in
theorem below_any (a : Nat) (w : World) (ha : a < M256) :
    Calls Try.prog 41 #[.agg (r32 8 (N8 a))] w fun e w' => e = .returned (.agg (r32 8 (N8 (a % pP)))) ∧ Below w.heap.size w w' := by
  have hsz : (Try.prog.info? 47).map (·.size) = some 8 := by kernel_rfl
  go_enter Try.func41, Try.ntmps41
  go_wp2_with fail
  go_loopg [] a (fun gk wr => ∃ c, gk = c ∧ c < M256 ∧ Hid (c % pP = a % pP) ∧ CW c w wr)
  case atStart => exact ⟨a, rfl, ha, Lib.hid rfl, (Blk.new w _ _).alloc _, (Blk.new _ _ _).cast' ⟨by simp, zero8⟩, ((Below.refl _ _).alloc (Nat.le_refl _) _).alloc (by simp) _⟩
  case round =>
    obtain ⟨c, hgk, hc, HC, hr⟩ := hrel
    have HG := Lib.hid hgk
    clear hgk
    have c0 : wr.cell? ⟨w.heap.size, 0, none⟩ = some (.int .u32 (iw (N8 c 0))) := hr.d.at_ (by omega)
    have c1 : wr.cell? ⟨w.heap.size, 1, none⟩ = some (.int .u32 (iw (N8 c 1))) := hr.d.at_ (by omega)
    have c2 : wr.cell? ⟨w.heap.size, 2, none⟩ = some (.int .u32 (iw (N8 c 2))) := hr.d.at_ (by omega)
    have c3 : wr.cell? ⟨w.heap.size, 3, none⟩ = some (.int .u32 (iw (N8 c 3))) := hr.d.at_ (by omega)
    have c4 : wr.cell? ⟨w.heap.size, 4, none⟩ = some (.int .u32 (iw (N8 c 4))) := hr.d.at_ (by omega)
    have c5 : wr.cell? ⟨w.heap.size, 5, none⟩ = some (.int .u32 (iw (N8 c 5))) := hr.d.at_ (by omega)
    have c6 : wr.cell? ⟨w.heap.size, 6, none⟩ = some (.int .u32 (iw (N8 c 6))) := hr.d.at_ (by omega)
    have c7 : wr.cell? ⟨w.heap.size, 7, none⟩ = some (.int .u32 (iw (N8 c 7))) := hr.d.at_ (by omega)
    have hrD : CW c w wr.drew := ⟨hr.d, hr.r, hr.l.drew⟩
    by_cases hlt : c < pP
    · have hd : decide (c < pP) = true := decide_eq_true hlt
      have HL := Lib.hid hlt
      clear hlt hr
      go_wp2_with fail
      go_region_held3 (fun w' => (w'.cell? ⟨w.heap.size, 0, none⟩ = some (.int .u32 (iw (N8 c 0))) ∧ w'.cell? ⟨w.heap.size, 1, none⟩ = some (.int .u32 (iw (N8 c 1))) ∧ w'.cell? ⟨w.heap.size, 2, none⟩ = some (.int .u32 (iw (N8 c 2))) ∧ w'.cell? ⟨w.heap.size, 3, none⟩ = some (.int .u32 (iw (N8 c 3))) ∧ w'.cell? ⟨w.heap.size, 4, none⟩ = some (.int .u32 (iw (N8 c 4))) ∧ w'.cell? ⟨w.heap.size, 5, none⟩ = some (.int .u32 (iw (N8 c 5))) ∧ w'.cell? ⟨w.heap.size, 6, none⟩ = some (.int .u32 (iw (N8 c 6))) ∧ w'.cell? ⟨w.heap.size, 7, none⟩ = some (.int .u32 (iw (N8 c 7)))) ∧ CW c w w')
        (first | go_keep | (go_split_ands; refine ⟨⟨?_, ?_, ?_, ?_, ?_, ?_, ?_, ?_⟩, ?_⟩ <;> first | (rw [hq.cell (World.block_lt_of_cell? _ _ (by assumption))]; assumption) | (exact CW.below (by assumption) hq)))
        (first
          | (go_at_call 47; refine (prime_any _).mono ?_; rintro e w' ⟨rfl, hq⟩)
          | (go_at_call 54; refine (less_any c pP _ hc (by decide)).mono ?_; rintro e w' ⟨rfl, hq⟩))
      refine any_gen (F := fun w => Exit.then _ _ _ _ w) (CW c w) (by go_split_ands; assumption) (fun w5 h5 => ?_)
      clear c0 c1 c2 c3 c4 c5 c6 c7 hrD
      have hac : c = a % pP := by have h1 := HC.out; rw [Nat.mod_eq_of_lt HL.out] at h1; exact h1
      have HA := Lib.hid hac
      clear hac
      have hsz2 : (Try.prog.info? 47).map (·.size) = some (r32 8 (N8 c)).size := by rw [row_size]; exact hsz
      have h5d := h5.d
      have h5r := h5.r
      have h5l := h5.l
      clear h5
      go_wp2_with (first
        | (refine wpList_load_row rfl 47 _ rfl w.heap.size rfl 47 _ (0, 0) _ h5d Try.underlying47 rfl hsz2 ?_)
        | (refine wpList_store_row rfl 47 _ _ rfl (w.heap.size + 1) (r32 8 (N8 c)) rfl rfl 47 _ h5r hsz2 (by rw [row_size, row_size]) (row_one fun _ => rfl) ?_))
      simp only [Act.put]
      exact bodyPost_ret (results_cell_row rfl _ _ (w.heap.size + 1) 47 (r32 8 (N8 c)) (0, 0) _ rfl (h5r.row_ _) Try.underlying47 rfl hsz2) rfl ⟨by rw [← HA.out], below_setRow' h5l (by omega) _⟩
    · have hd : decide (c < pP) = false := decide_eq_false hlt
      have hge : pP ≤ c := by omega
      have HL := Lib.hid hge
      clear hlt hge hr
      go_wp2_with fail
      go_region_held3 (fun w' => (w'.cell? ⟨w.heap.size, 0, none⟩ = some (.int .u32 (iw (N8 c 0))) ∧ w'.cell? ⟨w.heap.size, 1, none⟩ = some (.int .u32 (iw (N8 c 1))) ∧ w'.cell? ⟨w.heap.size, 2, none⟩ = some (.int .u32 (iw (N8 c 2))) ∧ w'.cell? ⟨w.heap.size, 3, none⟩ = some (.int .u32 (iw (N8 c 3))) ∧ w'.cell? ⟨w.heap.size, 4, none⟩ = some (.int .u32 (iw (N8 c 4))) ∧ w'.cell? ⟨w.heap.size, 5, none⟩ = some (.int .u32 (iw (N8 c 5))) ∧ w'.cell? ⟨w.heap.size, 6, none⟩ = some (.int .u32 (iw (N8 c 6))) ∧ w'.cell? ⟨w.heap.size, 7, none⟩ = some (.int .u32 (iw (N8 c 7)))) ∧ CW c w w')
        (first | go_keep | (go_split_ands; refine ⟨⟨?_, ?_, ?_, ?_, ?_, ?_, ?_, ?_⟩, ?_⟩ <;> first | (rw [hq.cell (World.block_lt_of_cell? _ _ (by assumption))]; assumption) | (exact CW.below (by assumption) hq)))
        (first
          | (go_at_call 47; refine (prime_any _).mono ?_; rintro e w' ⟨rfl, hq⟩)
          | (go_at_call 54; refine (less_any c pP _ hc (by decide)).mono ?_; rintro e w' ⟨rfl, hq⟩))
      refine any_gen (F := fun w => Exit.then _ _ _ _ w) (CW c w) (by go_split_ands; assumption) (fun w5 h5 => ?_)
      clear c0 c1 c2 c3 c4 c5 c6 c7 hrD
      have hsz8 : (Try.prog.info? 47).map (·.size) = some (r32 8 (N8 c)).size := by rw [row_size]; exact hsz
      have hszm : (Try.prog.info? 47).map (·.size) = some (r32 8 (N8 (c + M256 - pP))).size := by rw [row_size]; exact hsz
      go_wp2_with fail
      refine wp_region_any (by kernel_rfl) ?_
      change wpAny _ _ _ _ _ _ _ w5.drew
      have h6 : CW c w w5.drew := ⟨h5.d, h5.r, h5.l.drew⟩
      refine wpAny_ready (rs := [0, 1]) (by kernel_rfl) (by simp) (AllReady.cons rfl (fun K hK => ?_) (AllReady.cons rfl (fun K hK => ?_) AllReady.nil))
      · refine step_load_row rfl 47 _ rfl w.heap.size rfl 47 (r32 8 (N8 c)) _ h6.d Try.underlying47 rfl hsz8 (hK _ _ ?_)
        refine wpAny_ready (rs := [1]) (by kernel_rfl) (by simp) (AllReady.cons rfl (fun K hK => ?_) AllReady.nil)
        go_simp
        refine (prime_any _).mono ?_
        rintro e w7 ⟨rfl, hq⟩
        have h7 := h6.below hq
        clear h6 hq
        go_simp
        refine hK _ _ ?_
        refine wpAny_ready (rs := [2]) (by kernel_rfl) (by simp) (AllReady.cons rfl (fun K hK => ?_) AllReady.nil)
        go_simp
        refine (minus_any c pP _ hc (by decide)).mono ?_
        rintro e w8 ⟨rfl, hq⟩
        have h8 := h7.below hq
        clear h7 hq
        go_simp
        refine hK _ _ ?_
        refine wpAny_ready (rs := [3]) (by kernel_rfl) (by simp) (AllReady.cons rfl (fun K hK => ?_) AllReady.nil)
        refine step_store_row rfl 47 _ _ rfl w.heap.size (r32 8 (N8 (c + M256 - pP))) rfl rfl 47 _ h8.d (by rw [row_size, row_size]) hszm (row_one fun _ => rfl) (hK _ _ ?_)
        refine wpAny_done (by kernel_rfl) ?_ _
        have hge := HL.out
        have K := h8.put (d := c - pP) (fun i hi => by rw [← N8_turn (c - pP) i hi, show c - pP + M256 = c + M256 - pP by omega])
        clear h8
        go_wp2_with fail
        go_roundg (c - pP)
        case measure => rw [HG.out]; have := (show 0 < pP by decide); omega
        case rel => exact ⟨c - pP, rfl, by omega, Lib.hid (by rw [← HC.out]; exact (Nat.mod_eq_sub_mod (by omega)).symm), K⟩
      · go_simp
        refine (prime_any _).mono ?_
        rintro e w7 ⟨rfl, hq⟩
        have h7 := h6.below hq
        clear h6 hq
        go_simp
        refine hK _ _ ?_
        refine wpAny_ready (rs := [0]) (by kernel_rfl) (by simp) (AllReady.cons rfl (fun K hK => ?_) AllReady.nil)
        refine step_load_row rfl 47 _ rfl w.heap.size rfl 47 (r32 8 (N8 c)) _ h7.d Try.underlying47 rfl hsz8 (hK _ _ ?_)
        refine wpAny_ready (rs := [2]) (by kernel_rfl) (by simp) (AllReady.cons rfl (fun K hK => ?_) AllReady.nil)
        go_simp
        refine (minus_any c pP _ hc (by decide)).mono ?_
        rintro e w8 ⟨rfl, hq⟩
        have h8 := h7.below hq
        clear h7 hq
        go_simp
        refine hK _ _ ?_
        refine wpAny_ready (rs := [3]) (by kernel_rfl) (by simp) (AllReady.cons rfl (fun K hK => ?_) AllReady.nil)
        refine step_store_row rfl 47 _ _ rfl w.heap.size (r32 8 (N8 (c + M256 - pP))) rfl rfl 47 _ h8.d (by rw [row_size, row_size]) hszm (row_one fun _ => rfl) (hK _ _ ?_)
        refine wpAny_done (by kernel_rfl) ?_ _
        have hge := HL.out
        have K := h8.put (d := c - pP) (fun i hi => by rw [← N8_turn (c - pP) i hi, show c - pP + M256 = c + M256 - pP by omega])
        clear h8
        go_wp2_with fail
        go_roundg (c - pP)
        case measure => rw [HG.out]; have := (show 0 < pP by decide); omega
        case rel => exact ⟨c - pP, rfl, by omega, Lib.hid (by rw [← HC.out]; exact (Nat.mod_eq_sub_mod (by omega)).symm), K⟩
end Go.Proofs.Ytjggclhhimccoaa
