/- The document's answer to chapter 3: less. -/
import Derived.Test.YtggalphgnloneaaGreatMA
import Derived.Deep.RegionHeld3
import Derived.Deep.LoopGhost
import Derived.Deep.RegionLaw
import Derived.BigRegion
import Derived.StillTailTactics
namespace Go.Proofs.YtggalphgnloneaaGreat
open Go.RowKit
theorem div_split (a k : Nat) : a / 2 ^ (32 * (k + 1)) = a / 2 ^ (32 * k) / 4294967296 := by
  rw [Nat.mul_succ, Nat.pow_add, Nat.div_div_eq_div_mul]
theorem less_step (a b k : Nat) (h : a / 2 ^ (32 * (k + 1)) = b / 2 ^ (32 * (k + 1))) (e : N8 a k = N8 b k) : a / 2 ^ (32 * k) = b / 2 ^ (32 * k) := by
  have e' := congrArg BitVec.toNat e
  rw [N8_nat, N8_nat] at e'
  rw [div_split, div_split] at h
  omega
theorem less_diff (a b k : Nat) (h : a / 2 ^ (32 * (k + 1)) = b / 2 ^ (32 * (k + 1))) (e : N8 a k ≠ N8 b k) : (N8 a k).toNat < (N8 b k).toNat ↔ a < b := by
  have e' : (N8 a k).toNat ≠ (N8 b k).toNat := fun z => e (BitVec.eq_of_toNat_eq z)
  rw [N8_nat, N8_nat] at *
  rw [div_split, div_split] at h
  have h1 : a ≤ b → a / 2 ^ (32 * k) ≤ b / 2 ^ (32 * k) := fun z => Nat.div_le_div_right z
  have h2 : b ≤ a → b / 2 ^ (32 * k) ≤ a / 2 ^ (32 * k) := fun z => Nat.div_le_div_right z
  constructor
  · intro z
    rcases Nat.lt_or_ge a b with c | c
    · exact c
    · have := h2 c; omega
  · intro z
    have := h1 (by omega); omega
theorem iw_ltN {n : Nat} (x y : BitVec n) : (iw x < iw y) ↔ (x.toNat < y.toNat) := by
  unfold iw; exact Int.ofNat_lt
theorem iw_inj {n : Nat} {x y : BitVec n} (h : iw x = iw y) : x = y := by
  unfold iw at h; exact BitVec.eq_of_toNat_eq (Int.ofNat.inj h)
structure AB (a b : Nat) (w wr : World) : Prop where
  da : Blk wr w.heap.size 107 (r32 8 (N8 a))
  db : Blk wr (w.heap.size + 1) 107 (r32 8 (N8 b))
  l : Below w.heap.size w wr
theorem AB.drewN {a b : Nat} {w wr : World} (h : AB a b w wr) (n : Nat) : AB a b w (wr.drewN n) := ⟨h.da, h.db, below_draws h.l n⟩
set_option maxRecDepth 100000 in
set_option maxHeartbeats 1000000 in
theorem less_any (a b : Nat) (w : World) (ha : a < M256) (hb : b < M256) :
    Calls Tryz.prog 130 #[.agg (r32 8 (N8 a)), .agg (r32 8 (N8 b))] w fun e w' => e = .returned (.bool (decide (a < b))) ∧ Below w.heap.size w w' := by
  have hal : Tryz.prog.arrayLen 107 = 8 := by kernel_rfl
  have h8 : a / 2 ^ (32 * 8) = b / 2 ^ (32 * 8) := by
    unfold M256 at *
    simp only [Nat.reduceMul, Nat.reducePow]; omega
  have H8 := Lib.hid h8
  clear h8
  go_enter Tryz.func130, Tryz.ntmps130
  go_wp2_with fail
  go_loopw [5] (fun i wr => ∃ k : Nat, k ≤ 8 ∧ i = .int .i64 ((k : Int) - 1) ∧ Hid (a / 2 ^ (32 * k) = b / 2 ^ (32 * k)) ∧ AB a b w wr) (fun i _ => (intOf i + 1).toNat)
  case atStart => exact ⟨8, by omega, rfl, H8, (Blk.new w _ _).alloc _, (Blk.new _ _ _).cast' ⟨by simp, rfl⟩, ((Below.refl _ _).alloc (Nat.le_refl _) _).alloc (by simp) _⟩
  case round =>
    obtain ⟨k, hk, rfl, HK, hr⟩ := hrel
    clear H8
    cases k with
    | zero =>
      have hab : ¬ a < b := by have := HK.out; simp at this; omega
      have HAB := Lib.hid hab
      have hl := hr.l
      clear hab hr
      go_wp2_with fail
      go_ret
      exact ⟨by rw [decide_eq_false HAB.out]; rfl, hl⟩
    | succ k =>
      have hk8 : k < 8 := by omega
      have ek : (((k + 1 : Nat) : Int) - 1) = (k : Int) := by omega
      have ca := hr.da.at_ hk8
      have cb := hr.db.at_ hk8
      rw [ek]
      by_cases e : N8 a k = N8 b k
      · have HS := Lib.hid (less_step a b k HK.out e)
        rw [e] at ca
        clear e
        go_wp2_with fail
        go_quiet (fail)
        have h2 := hr.drewN nq
        clear hr ca cb
        go_wp2_with fail
        go_roundw
        case rel => exact ⟨k, by omega, rfl, HS, h2⟩
        case measure => simp [intOf]
      · have HS := Lib.hid (less_diff a b k HK.out e)
        have ne : iw (N8 a k) ≠ iw (N8 b k) := fun z => e (iw_inj z)
        have ne' : (iw (N8 a k) != iw (N8 b k)) = true := by rw [bne_iff_ne]; exact ne
        clear e
        go_wp2_with fail
        go_quiet (fail)
        have h2 := hr.drewN nq
        clear hr ca cb
        refine any_gen (F := fun w => Exit.then _ _ _ _ w) (AB a b w) h2 (fun w2 h2 => ?_)
        have ca := h2.da.at_ hk8
        have cb := h2.db.at_ hk8
        go_wp2_with fail
        go_quiet (fail)
        have hl := below_draws h2.l nq
        clear h2 ca cb
        go_wp2_with fail
        go_ret
        refine ⟨?_, hl⟩
        show Ending.returned (.bool (decide (iw (N8 a k) < iw (N8 b k)))) = _
        rw [decide_eq_decide.2 ((iw_ltN _ _).trans HS.out)]
end Go.Proofs.YtggalphgnloneaaGreat
/- The document's answer to chapter 3: below. -/
namespace Go.Proofs.YtggalphgnloneaaGreat
open Go.RowKit
theorem step_store_row {P : Program} {ops : Array Oper} {o : Oper} {a : Act} {w : World} {K : Act → World → Prop} {Q : Exit → Act → World → Prop} {E : Prop} (hgd : o.guard = none) (ty : TypeId) (x y : Operand) (ho : o.op = .store ty x y)
    (g : Nat) (cs : Array Value) (hx : a.eval x = .pointer (some ⟨g, 0, none⟩)) (hy : a.eval y = .agg cs) (t : TypeId) (old : Array Value) (hg : Blk w g t old) (hold : old.size = cs.size)
    (hi : (P.info? ty).map (·.size) = some cs.size) (h1 : cs.all (·.oneCell') = true)
    (h : K (a.put o.dst undef) (w.setRow g cs)) : if Region.wanted o (yielded ops a.tmps) = true then Oper.wp P o a w K Q else E := by
  rw [if_pos (by simp [Region.wanted, hgd])]
  exact wp_store_row ty x y ho g cs hx hy t old hg hi hold h1 h
structure CW (c : Nat) (w wr : World) : Prop where
  d : Blk wr w.heap.size 107 (r32 8 (N8 c))
  r : Blk wr (w.heap.size + 1) 107 (r32 8 fun _ => litw 32 0)
  l : Below w.heap.size w wr
theorem CW.below {c : Nat} {w wr w' : World} (h : CW c w wr) (hb : Below wr.heap.size wr w') : CW c w w' :=
  ⟨h.d.below hb h.d.lt, h.r.below hb h.r.lt, h.l.trans (hb.mono h.l.size)⟩
theorem N8_turn (x k : Nat) (hk : k < 8) : N8 (x + M256) k = N8 x k := by
  apply BitVec.eq_of_toNat_eq
  rw [N8_nat, N8_nat]
  unfold M256
  match k, hk with
  | 0, _ => simp only [Nat.reduceMul, Nat.reducePow]; omega
  | 1, _ => simp only [Nat.reduceMul, Nat.reducePow]; omega
  | 2, _ => simp only [Nat.reduceMul, Nat.reducePow]; omega
  | 3, _ => simp only [Nat.reduceMul, Nat.reducePow]; omega
  | 4, _ => simp only [Nat.reduceMul, Nat.reducePow]; omega
  | 5, _ => simp only [Nat.reduceMul, Nat.reducePow]; omega
  | 6, _ => simp only [Nat.reduceMul, Nat.reducePow]; omega
  | 7, _ => simp only [Nat.reduceMul, Nat.reducePow]; omega
theorem CW.put {c d : Nat} {w wr : World} (h : CW c w wr) (e : ∀ i, i < 8 → N8 d i = N8 (c + M256 - pP) i) : CW d w (wr.setRow w.heap.size (r32 8 (N8 (c + M256 - pP)))) :=
  ⟨(h.d.row_ _).cast_ (row_ext fun i hi => by rw [e i hi]), h.r.row_far (by omega) _, below_setRow' h.l (Nat.le_refl _) _⟩
set_option maxRecDepth 100000 in
set_option maxHeartbeats 1000000 in
theorem below_any (a : Nat) (w : World) (ha : a < M256) :
    Calls Tryz.prog 104 #[.agg (r32 8 (N8 a))] w fun e w' => e = .returned (.agg (r32 8 (N8 (a % pP)))) ∧ Below w.heap.size w w' := by
  have hsz : (Tryz.prog.info? 107).map (·.size) = some 8 := by kernel_rfl
  go_enter Tryz.func104, Tryz.ntmps104
  go_wp2_with fail
  go_loopg [] a (fun gk wr => ∃ c, gk = c ∧ c < M256 ∧ Hid (c % pP = a % pP) ∧ CW c w wr)
  case atStart => exact ⟨a, rfl, ha, Lib.hid rfl, (Blk.new w _ _).alloc _, (Blk.new _ _ _).cast' ⟨by simp, zero8⟩, ((Below.refl _ _).alloc (Nat.le_refl _) _).alloc (by simp) _⟩
  case round =>
    obtain ⟨c, hgk, hc, HC, hr⟩ := hrel
    have HG := Lib.hid hgk
    clear hgk
    have c0 : wr.cell? ⟨w.heap.size, 0, none⟩ = some (.int .u32 (iw (N8 c 0))) := hr.d.at_ (by omega)
    have c1 : wr.cell? ⟨w.heap.size, 1, none⟩ = some (.int .u32 (iw (N8 c 1))) := hr.d.at_ (by omega)
    have c2 : wr.cell? ⟨w.heap.size, 2, none⟩ = some (.int .u32 (iw (N8 c 2))) := hr.d.at_ (by omega)
    have c3 : wr.cell? ⟨w.heap.size, 3, none⟩ = some (.int .u32 (iw (N8 c 3))) := hr.d.at_ (by omega)
    have c4 : wr.cell? ⟨w.heap.size, 4, none⟩ = some (.int .u32 (iw (N8 c 4))) := hr.d.at_ (by omega)
    have c5 : wr.cell? ⟨w.heap.size, 5, none⟩ = some (.int .u32 (iw (N8 c 5))) := hr.d.at_ (by omega)
    have c6 : wr.cell? ⟨w.heap.size, 6, none⟩ = some (.int .u32 (iw (N8 c 6))) := hr.d.at_ (by omega)
    have c7 : wr.cell? ⟨w.heap.size, 7, none⟩ = some (.int .u32 (iw (N8 c 7))) := hr.d.at_ (by omega)
    have hrD : CW c w wr.drew := ⟨hr.d, hr.r, hr.l.drew⟩
    by_cases hlt : c < pP
    · have hd : decide (c < pP) = true := decide_eq_true hlt
      have HL := Lib.hid hlt
      clear hlt hr
      go_wp2_with fail
      go_region_held3 (fun w' => (w'.cell? ⟨w.heap.size, 0, none⟩ = some (.int .u32 (iw (N8 c 0))) ∧ w'.cell? ⟨w.heap.size, 1, none⟩ = some (.int .u32 (iw (N8 c 1))) ∧ w'.cell? ⟨w.heap.size, 2, none⟩ = some (.int .u32 (iw (N8 c 2))) ∧ w'.cell? ⟨w.heap.size, 3, none⟩ = some (.int .u32 (iw (N8 c 3))) ∧ w'.cell? ⟨w.heap.size, 4, none⟩ = some (.int .u32 (iw (N8 c 4))) ∧ w'.cell? ⟨w.heap.size, 5, none⟩ = some (.int .u32 (iw (N8 c 5))) ∧ w'.cell? ⟨w.heap.size, 6, none⟩ = some (.int .u32 (iw (N8 c 6))) ∧ w'.cell? ⟨w.heap.size, 7, none⟩ = some (.int .u32 (iw (N8 c 7)))) ∧ CW c w w')
        (first | go_keep | (go_split_ands; refine ⟨⟨?_, ?_, ?_, ?_, ?_, ?_, ?_, ?_⟩, ?_⟩ <;> first | (rw [hq.cell (World.block_lt_of_cell? _ _ (by assumption))]; assumption) | (exact CW.below (by assumption) hq)))
        (first
          | (go_at_call 106; refine (prime_any _).mono ?_; rintro e w' ⟨rfl, hq⟩)
          | (go_at_call 130; refine (less_any c pP _ hc (by decide)).mono ?_; rintro e w' ⟨rfl, hq⟩))
      refine any_gen (F := fun w => Exit.then _ _ _ _ w) (CW c w) (by go_split_ands; assumption) (fun w5 h5 => ?_)
      clear c0 c1 c2 c3 c4 c5 c6 c7 hrD
      have hac : c = a % pP := by have h1 := HC.out; rw [Nat.mod_eq_of_lt HL.out] at h1; exact h1
      have HA := Lib.hid hac
      clear hac
      have hsz2 : (Tryz.prog.info? 107).map (·.size) = some (r32 8 (N8 c)).size := by rw [row_size]; exact hsz
      have h5d := h5.d
      have h5r := h5.r
      have h5l := h5.l
      clear h5
      go_wp2_with (first
        | (refine wpList_load_row rfl 107 _ rfl w.heap.size rfl 107 _ (0, 0) _ h5d Tryz.underlying107 rfl hsz2 ?_)
        | (refine wpList_store_row rfl 107 _ _ rfl (w.heap.size + 1) (r32 8 (N8 c)) rfl rfl 107 _ h5r hsz2 (by rw [row_size, row_size]) (row_one fun _ => rfl) ?_))
      simp only [Act.put]
      exact bodyPost_ret (results_cell_row rfl _ _ (w.heap.size + 1) 107 (r32 8 (N8 c)) (0, 0) _ rfl (h5r.row_ _) Tryz.underlying107 rfl hsz2) rfl ⟨by rw [← HA.out], below_setRow' h5l (by omega) _⟩
    · have hd : decide (c < pP) = false := decide_eq_false hlt
      have hge : pP ≤ c := by omega
      have HL := Lib.hid hge
      clear hlt hge hr
      go_wp2_with fail
      go_region_held3 (fun w' => (w'.cell? ⟨w.heap.size, 0, none⟩ = some (.int .u32 (iw (N8 c 0))) ∧ w'.cell? ⟨w.heap.size, 1, none⟩ = some (.int .u32 (iw (N8 c 1))) ∧ w'.cell? ⟨w.heap.size, 2, none⟩ = some (.int .u32 (iw (N8 c 2))) ∧ w'.cell? ⟨w.heap.size, 3, none⟩ = some (.int .u32 (iw (N8 c 3))) ∧ w'.cell? ⟨w.heap.size, 4, none⟩ = some (.int .u32 (iw (N8 c 4))) ∧ w'.cell? ⟨w.heap.size, 5, none⟩ = some (.int .u32 (iw (N8 c 5))) ∧ w'.cell? ⟨w.heap.size, 6, none⟩ = some (.int .u32 (iw (N8 c 6))) ∧ w'.cell? ⟨w.heap.size, 7, none⟩ = some (.int .u32 (iw (N8 c 7)))) ∧ CW c w w')
        (first | go_keep | (go_split_ands; refine ⟨⟨?_, ?_, ?_, ?_, ?_, ?_, ?_, ?_⟩, ?_⟩ <;> first | (rw [hq.cell (World.block_lt_of_cell? _ _ (by assumption))]; assumption) | (exact CW.below (by assumption) hq)))
        (first
          | (go_at_call 106; refine (prime_any _).mono ?_; rintro e w' ⟨rfl, hq⟩)
          | (go_at_call 130; refine (less_any c pP _ hc (by decide)).mono ?_; rintro e w' ⟨rfl, hq⟩))
      refine any_gen (F := fun w => Exit.then _ _ _ _ w) (CW c w) (by go_split_ands; assumption) (fun w5 h5 => ?_)
      clear c0 c1 c2 c3 c4 c5 c6 c7 hrD
      have hsz8 : (Tryz.prog.info? 107).map (·.size) = some (r32 8 (N8 c)).size := by rw [row_size]; exact hsz
      have hszm : (Tryz.prog.info? 107).map (·.size) = some (r32 8 (N8 (c + M256 - pP))).size := by rw [row_size]; exact hsz
      go_wp2_with fail
      refine wp_region_any (by kernel_rfl) ?_
      change wpAny _ _ _ _ _ _ _ w5.drew
      have h6 : CW c w w5.drew := ⟨h5.d, h5.r, h5.l.drew⟩
      refine wpAny_ready (rs := [0, 1]) (by kernel_rfl) (by simp) (AllReady.cons rfl (fun K hK => ?_) (AllReady.cons rfl (fun K hK => ?_) AllReady.nil))
      · refine step_load_row rfl 107 _ rfl w.heap.size rfl 107 (r32 8 (N8 c)) _ h6.d Tryz.underlying107 rfl hsz8 (hK _ _ ?_)
        refine wpAny_ready (rs := [1]) (by kernel_rfl) (by simp) (AllReady.cons rfl (fun K hK => ?_) AllReady.nil)
        go_simp
        refine (prime_any _).mono ?_
        rintro e w7 ⟨rfl, hq⟩
        have h7 := h6.below hq
        clear h6 hq
        go_simp
        refine hK _ _ ?_
        refine wpAny_ready (rs := [2]) (by kernel_rfl) (by simp) (AllReady.cons rfl (fun K hK => ?_) AllReady.nil)
        go_simp
        refine (minus_any c pP _ hc (by decide)).mono ?_
        rintro e w8 ⟨rfl, hq⟩
        have h8 := h7.below hq
        clear h7 hq
        go_simp
        refine hK _ _ ?_
        refine wpAny_ready (rs := [3]) (by kernel_rfl) (by simp) (AllReady.cons rfl (fun K hK => ?_) AllReady.nil)
        refine step_store_row rfl 107 _ _ rfl w.heap.size (r32 8 (N8 (c + M256 - pP))) rfl rfl 107 _ h8.d (by rw [row_size, row_size]) hszm (row_one fun _ => rfl) (hK _ _ ?_)
        refine wpAny_done (by kernel_rfl) ?_ _
        have hge := HL.out
        have K := h8.put (d := c - pP) (fun i hi => by rw [← N8_turn (c - pP) i hi, show c - pP + M256 = c + M256 - pP by omega])
        clear h8
        go_wp2_with fail
        go_roundg (c - pP)
        case measure => rw [HG.out]; have := (show 0 < pP by decide); omega
        case rel => exact ⟨c - pP, rfl, by omega, Lib.hid (by rw [← HC.out]; exact (Nat.mod_eq_sub_mod (by omega)).symm), K⟩
      · go_simp
        refine (prime_any _).mono ?_
        rintro e w7 ⟨rfl, hq⟩
        have h7 := h6.below hq
        clear h6 hq
        go_simp
        refine hK _ _ ?_
        refine wpAny_ready (rs := [0]) (by kernel_rfl) (by simp) (AllReady.cons rfl (fun K hK => ?_) AllReady.nil)
        refine step_load_row rfl 107 _ rfl w.heap.size rfl 107 (r32 8 (N8 c)) _ h7.d Tryz.underlying107 rfl hsz8 (hK _ _ ?_)
        refine wpAny_ready (rs := [2]) (by kernel_rfl) (by simp) (AllReady.cons rfl (fun K hK => ?_) AllReady.nil)
        go_simp
        refine (minus_any c pP _ hc (by decide)).mono ?_
        rintro e w8 ⟨rfl, hq⟩
        have h8 := h7.below hq
        clear h7 hq
        go_simp
        refine hK _ _ ?_
        refine wpAny_ready (rs := [3]) (by kernel_rfl) (by simp) (AllReady.cons rfl (fun K hK => ?_) AllReady.nil)
        refine step_store_row rfl 107 _ _ rfl w.heap.size (r32 8 (N8 (c + M256 - pP))) rfl rfl 107 _ h8.d (by rw [row_size, row_size]) hszm (row_one fun _ => rfl) (hK _ _ ?_)
        refine wpAny_done (by kernel_rfl) ?_ _
        have hge := HL.out
        have K := h8.put (d := c - pP) (fun i hi => by rw [← N8_turn (c - pP) i hi, show c - pP + M256 = c + M256 - pP by omega])
        clear h8
        go_wp2_with fail
        go_roundg (c - pP)
        case measure => rw [HG.out]; have := (show 0 < pP by decide); omega
        case rel => exact ⟨c - pP, rfl, by omega, Lib.hid (by rw [← HC.out]; exact (Nat.mod_eq_sub_mod (by omega)).symm), K⟩
end Go.Proofs.YtggalphgnloneaaGreat
/- The document's answer to chapter 3: digits, words. -/
namespace Go.Proofs.YtggalphgnloneaaGreat
open Go.RowKit
theorem pow_word (k : Nat) : 2 ^ (64 * k) = 2 ^ (32 * (2 * k)) := by rw [show 64 * k = 32 * (2 * k) by omega]
theorem digit_lo (a k : Nat) : castw 32 (F4 a k) = N8 a (2 * k) := by
  apply BitVec.eq_of_toNat_eq
  unfold castw
  rw [BitVec.toNat_ofNat, F4_nat, N8_nat, pow_word]
  omega
theorem digit_hi (a k : Nat) : castw 32 (shrw (F4 a k) 32) = N8 a (2 * k + 1) := by
  apply BitVec.eq_of_toNat_eq
  unfold castw shrw
  rw [BitVec.toNat_ofNat, BitVec.toNat_ushiftRight, Nat.shiftRight_eq_div_pow, F4_nat, N8_nat, pow_word, div_split]
  omega
theorem word_of (a k : Nat) : orw (castw 64 (N8 a (2 * k))) (shlw (castw 64 (N8 a (2 * k + 1))) 32) = F4 a k := by
  apply BitVec.eq_of_toNat_eq
  have h1 : (castw 64 (N8 a (2 * k))).toNat = a / 2 ^ (64 * k) % 4294967296 := by
    unfold castw; rw [BitVec.toNat_ofNat, N8_nat, pow_word]; omega
  have h2 : (castw 64 (N8 a (2 * k + 1))).toNat = a / 2 ^ (64 * k) / 4294967296 % 4294967296 := by
    unfold castw; rw [BitVec.toNat_ofNat, N8_nat, div_split, pow_word]; omega
  unfold orw shlw
  rw [BitVec.toNat_or, BitVec.toNat_shiftLeft, h1, h2, F4_nat, Nat.or_comm, Nat.mod_eq_of_lt (by rw [Nat.shiftLeft_eq]; omega),
    ← Nat.shiftLeft_add_eq_or_of_lt (by omega), Nat.shiftLeft_eq]
  omega
/-- The first m digits, and 0 behind them. -/
def dF (a m i : Nat) : BitVec 32 := if i < m then N8 a i else litw 32 0
theorem dF_put (a m i : Nat) : (if i = m then Value.int .u32 (iw (N8 a m)) else .int .u32 (iw (dF a m i))) = .int .u32 (iw (dF a (m + 1) i)) := by
  unfold dF
  by_cases h1 : i = m
  · subst h1; rw [if_pos rfl, if_pos (by omega)]
  · rw [if_neg h1]
    by_cases h2 : i < m
    · rw [if_pos h2, if_pos (by omega)]
    · rw [if_neg h2, if_neg (by omega)]
structure DW (a m : Nat) (w wr : World) : Prop where
  d : Blk wr w.heap.size 40 (r64 4 (F4 a))
  r : Blk wr (w.heap.size + 1) 107 (r32 8 fun _ => litw 32 0)
  o : Blk wr (w.heap.size + 2) 107 (r32 8 (dF a m))
  l : Below w.heap.size w wr
theorem DW.put {a m : Nat} {w wr : World} (h : DW a m w wr) (hm : m < 8) (v : BitVec 32) (hv : v = N8 a m) : DW a (m + 1) w (wr.setCell ⟨w.heap.size + 2, m, none⟩ (.int .u32 (iw v))) := by
  subst hv
  exact ⟨h.d.far (by simp) _, h.r.far (by simp) _, (h.o.put hm _).cast_ (row_ext fun i _ => dF_put a m i), h.l.setCell (by simp) _⟩
set_option maxRecDepth 100000 in
set_option maxHeartbeats 1000000 in
theorem digits_any (a : Nat) (w : World) (ha : a < M256) :
    Calls Tryz.prog 107 #[.agg (r64 4 (F4 a))] w fun e w' => e = .returned (.agg (r32 8 (N8 (a % pP)))) ∧ Below w.heap.size w w' := by
  have hsz : (Tryz.prog.info? 107).map (·.size) = some 8 := by kernel_rfl
  have hal : Tryz.prog.arrayLen 107 = 8 := by kernel_rfl
  have hal4 : Tryz.prog.arrayLen 40 = 4 := by kernel_rfl
  go_enter Tryz.func107, Tryz.ntmps107
  go_wp2_with fail
  go_loopw [4] (fun i wr => ∃ k : Nat, k ≤ 4 ∧ i = .int .i64 (k : Int) ∧ DW a (2 * k) w wr) (fun i _ => 4 - (intOf i).toNat)
  case atStart => exact ⟨0, by omega, rfl, ((Blk.new w _ _).alloc _).alloc _, ((Blk.new (w.alloc _) _ _).cast' ⟨by simp, zero8⟩).alloc _, (Blk.new _ _ _).cast' ⟨by simp, zero8.trans (row_ext fun i _ => by rw [show dF a (2 * 0) i = litw 32 0 by unfold dF; rw [if_neg (by omega)]])⟩, (((Below.refl _ _).alloc (Nat.le_refl _) _).alloc (by simp) _).alloc (by simp; omega) _⟩
  case round =>
    obtain ⟨k, hk, rfl, hr⟩ := hrel
    by_cases hlt : k < 4
    · obtain ⟨d, hd⟩ : ∃ d, d = 2 * k := ⟨_, rfl⟩
      obtain ⟨d1, hd1⟩ : ∃ d1, d1 = d + 1 := ⟨_, rfl⟩
      have cd := hr.d.at_ hlt
      have e2 : 2 * (k : Int) = (d : Int) := by omega
      have e3 : (d : Int) + 1 = (d1 : Int) := by omega
      have hlo := digit_lo a k
      have hhi := digit_hi a k
      have hrel2 : ∀ wx, DW a (d1 + 1) w wx → DW a (2 * (k + 1)) w wx := fun wx h => by rwa [show 2 * (k + 1) = d1 + 1 by omega]
      rw [← hd] at hr hlo hhi
      rw [← hd1] at hhi
      have l1 : d < 8 := by omega
      have l2 : d1 < 8 := by omega
      have co := hr.o.at_ (i := d) l1
      have fo := hr.o.frozen d
      have h2 := hr.put l1 _ hlo
      rw [← hd1] at h2
      have cd2 := h2.d.at_ hlt
      have co2 := h2.o.at_ (i := d1) l2
      have fo2 := h2.o.frozen d1
      have K := hrel2 _ (h2.put l2 _ hhi)
      clear hr h2 hd hd1 hlo hhi hrel2
      go_wp2_with fail
      go_roundw
      case rel => exact ⟨k + 1, by omega, by go_num, K⟩
      case measure => simp [intOf]; omega
    · obtain rfl : k = 4 := by omega
      have ho : Blk wr (w.heap.size + 2) 107 (r32 8 (N8 a)) := hr.o.cast_ (row_ext fun i hi => by rw [show dF a (2 * 4) i = N8 a i by unfold dF; rw [if_pos (by omega)]])
      have hz := hr.r
      have hl := hr.l
      have hsz2 : (Tryz.prog.info? 107).map (·.size) = some (r32 8 (N8 a)).size := by rw [row_size]; exact hsz
      have hsz3 : (Tryz.prog.info? 107).map (·.size) = some (r32 8 (N8 (a % pP))).size := by rw [row_size]; exact hsz
      clear hr
      go_wp2_with (refine wpList_load_row rfl 107 _ rfl (w.heap.size + 2) rfl 107 _ (0, 0) _ ho Tryz.underlying107 rfl hsz2 ?_)
      refine (below_any a wr ha).mono ?_
      rintro e w5 ⟨rfl, hq⟩
      have hz5 := hz.below hq hz.lt
      have hl5 := hl.trans (hq.mono hl.size)
      clear hz hl hq ho
      go_wp2_with (refine wpList_store_row rfl 107 _ _ rfl (w.heap.size + 1) (r32 8 (N8 (a % pP))) rfl rfl 107 _ hz5 hsz3 (by rw [row_size, row_size]) (row_one fun _ => rfl) ?_)
      simp only [Act.put]
      exact bodyPost_ret (results_cell_row rfl _ _ (w.heap.size + 1) 107 (r32 8 (N8 (a % pP))) (0, 0) _ rfl (hz5.row_ _) Tryz.underlying107 rfl hsz3) rfl ⟨rfl, below_setRow' hl5 (by omega) _⟩
end Go.Proofs.YtggalphgnloneaaGreat
/- The document's answer to chapter 3: words, Small. -/
namespace Go.Proofs.YtggalphgnloneaaGreat
open Go.RowKit
def wF (a m i : Nat) : BitVec 64 := if i < m then F4 a i else litw 64 0
theorem wF_put (a m i : Nat) : (if i = m then Value.int .u64 (iw (F4 a m)) else .int .u64 (iw (wF a m i))) = .int .u64 (iw (wF a (m + 1) i)) := by
  unfold wF
  by_cases h1 : i = m
  · subst h1; rw [if_pos rfl, if_pos (by omega)]
  · rw [if_neg h1]
    by_cases h2 : i < m
    · rw [if_pos h2, if_pos (by omega)]
    · rw [if_neg h2, if_neg (by omega)]
theorem zero4 : #[Value.int .u64 0, .int .u64 0, .int .u64 0, .int .u64 0] = r64 4 fun _ => litw 64 0 := by simp only [r64, iw_zero]; rfl
structure WW (a m : Nat) (w wr : World) : Prop where
  d : Blk wr w.heap.size 107 (r32 8 (N8 a))
  r : Blk wr (w.heap.size + 1) 40 (r64 4 fun _ => litw 64 0)
  o : Blk wr (w.heap.size + 2) 40 (r64 4 (wF a m))
  l : Below w.heap.size w wr
theorem WW.drew {a m : Nat} {w wr : World} (h : WW a m w wr) : WW a m w wr.drew := ⟨h.d, h.r, h.o, h.l.drew⟩
theorem WW.put {a m : Nat} {w wr : World} (h : WW a m w wr) (hm : m < 4) (v : BitVec 64) (hv : v = F4 a m) : WW a (m + 1) w (wr.setCell ⟨w.heap.size + 2, m, none⟩ (.int .u64 (iw v))) := by
  subst hv
  exact ⟨h.d.far (by simp) _, h.r.far (by simp) _, (h.o.put hm _).cast_ (row_ext fun i _ => wF_put a m i), h.l.setCell (by simp) _⟩
set_option maxRecDepth 100000 in
set_option maxHeartbeats 1000000 in
theorem words_any (a : Nat) (w : World) :
    Calls Tryz.prog 103 #[.agg (r32 8 (N8 a))] w fun e w' => e = .returned (.agg (r64 4 (F4 a))) ∧ Below w.heap.size w w' := by
  have hsz : (Tryz.prog.info? 40).map (·.size) = some 4 := by kernel_rfl
  have hal : Tryz.prog.arrayLen 107 = 8 := by kernel_rfl
  have hal4 : Tryz.prog.arrayLen 40 = 4 := by kernel_rfl
  go_enter Tryz.func103, Tryz.ntmps103
  go_wp2_with fail
  go_loopw [4] (fun i wr => ∃ k : Nat, k ≤ 4 ∧ i = .int .i64 (k : Int) ∧ WW a k w wr) (fun i _ => 4 - (intOf i).toNat)
  case atStart => exact ⟨0, by omega, rfl, ((Blk.new w _ _).alloc _).alloc _, ((Blk.new (w.alloc _) _ _).cast' ⟨by simp, zero4⟩).alloc _, (Blk.new _ _ _).cast' ⟨by simp, zero4.trans (row_ext fun i _ => by rw [show wF a 0 i = litw 64 0 by unfold wF; rw [if_neg (by omega)]])⟩, (((Below.refl _ _).alloc (Nat.le_refl _) _).alloc (by simp) _).alloc (by simp; omega) _⟩
  case round =>
    obtain ⟨k, hk, rfl, hr⟩ := hrel
    by_cases hlt : k < 4
    · obtain ⟨d, hd⟩ : ∃ d, d = 2 * k := ⟨_, rfl⟩
      obtain ⟨d1, hd1⟩ : ∃ d1, d1 = d + 1 := ⟨_, rfl⟩
      have e2 : 2 * (k : Int) = (d : Int) := by omega
      have e3 : (d : Int) + 1 = (d1 : Int) := by omega
      have e4w : IntKind.i64.wrap (d : Int) = (d : Int) := IntWalk.i64_in _ (by omega)
      have e5w : IntKind.i64.wrap (d1 : Int) = (d1 : Int) := IntWalk.i64_in _ (by omega)
      have e2w : IntKind.i64.wrap (2 * (k : Int)) = (d : Int) := by rw [IntWalk.i64_in _ (by omega)]; omega
      have e3w : IntKind.i64.wrap ((d : Int) + 1) = (d1 : Int) := by rw [IntWalk.i64_in _ (by omega)]; omega
      have hw := word_of a k
      rw [← hd, ← hd1] at hw
      have l1 : (d : Int) < 8 := by omega
      have l2 : (d1 : Int) < 8 := by omega
      have cd := hr.d.at_ (i := d) (by omega)
      have cd1 := hr.d.at_ (i := d1) (by omega)
      have HW := Lib.hid hw
      clear hd hd1 hw
      go_wp2_with fail
      go_still_tail 15, (by kernel_rfl)
      change wpList _ _ _ _ _ wr.drew
      refine wpList_gen (WW a k w) hr.drew (fun w3 h3 => ?_)
      clear hr cd cd1 e2 e3 l1 l2 e2w e3w e4w e5w
      have co := h3.o.at_ hlt
      have fo := h3.o.frozen k
      have K := h3.put hlt _ HW.out
      clear h3
      go_wp2_with fail
      go_roundw
      case rel => exact ⟨k + 1, by omega, by go_num, K⟩
      case measure => simp [intOf]; omega
    · obtain rfl : k = 4 := by omega
      have ho : Blk wr (w.heap.size + 2) 40 (r64 4 (F4 a)) := hr.o.cast_ (row_ext fun i hi => by rw [show wF a 4 i = F4 a i by unfold wF; rw [if_pos (by omega)]])
      have hz := hr.r
      have hl := hr.l
      have hsz2 : (Tryz.prog.info? 40).map (·.size) = some (r64 4 (F4 a)).size := by rw [row_size]; exact hsz
      clear hr
      go_wp2_with (first
        | (refine wpList_load_row rfl 40 _ rfl (w.heap.size + 2) rfl 40 _ (0, 0) _ ho Tryz.underlying40 rfl hsz2 ?_)
        | (refine wpList_store_row rfl 40 _ _ rfl (w.heap.size + 1) (r64 4 (F4 a)) rfl rfl 40 _ hz hsz2 (by rw [row_size, row_size]) (row_one fun _ => rfl) ?_))
      simp only [Act.put]
      exact bodyPost_ret (results_cell_row rfl _ _ (w.heap.size + 1) 40 (r64 4 (F4 a)) (0, 0) _ rfl (hz.row_ _) Tryz.underlying40 rfl hsz2) rfl ⟨rfl, below_setRow' hl (by omega) _⟩
end Go.Proofs.YtggalphgnloneaaGreat
/- The document's answer to chapter 3: Add. -/
namespace Go.Proofs.YtggalphgnloneaaGreat
open Go.RowKit
/-- What the sum of the first k digits carries. -/
def cy (x y k : Nat) : BitVec 64 := BitVec.ofNat 64 ((x % 2 ^ (32 * k) + y % 2 ^ (32 * k)) / 2 ^ (32 * k))
def sx (x y k : Nat) : BitVec 64 := addw (addw (castw 64 (N8 x k)) (castw 64 (N8 y k))) (cy x y k)
theorem cy_le (q a b : Nat) (hq : 0 < q) : (a % q + b % q) / q ≤ 1 := by
  have h1 := Nat.mod_lt a hq
  have h2 := Nat.mod_lt b hq
  have : (a % q + b % q) / q < 2 := Nat.div_lt_of_lt_mul (by omega)
  omega
theorem sx_nat (x y k : Nat) : (sx x y k).toNat = x / 2 ^ (32 * k) % 4294967296 + y / 2 ^ (32 * k) % 4294967296 + (x % 2 ^ (32 * k) + y % 2 ^ (32 * k)) / 2 ^ (32 * k) := by
  have h0 := cy_le (2 ^ (32 * k)) x y (Nat.pow_pos (by decide))
  have h1 : (castw 64 (N8 x k)).toNat = x / 2 ^ (32 * k) % 4294967296 := by
    unfold castw; rw [BitVec.toNat_ofNat, N8_nat]; omega
  have h2 : (castw 64 (N8 y k)).toNat = y / 2 ^ (32 * k) % 4294967296 := by
    unfold castw; rw [BitVec.toNat_ofNat, N8_nat]; omega
  have h3 : (cy x y k).toNat = (x % 2 ^ (32 * k) + y % 2 ^ (32 * k)) / 2 ^ (32 * k) := by
    unfold cy; rw [BitVec.toNat_ofNat]; exact Nat.mod_eq_of_lt (Nat.lt_of_le_of_lt h0 (by decide))
  unfold sx addw
  rw [BitVec.toNat_add, BitVec.toNat_add, h1, h2, h3]
  generalize (x % 2 ^ (32 * k) + y % 2 ^ (32 * k)) / 2 ^ (32 * k) = c at h0 ⊢
  omega
theorem sum_div (x y q : Nat) (hq : 0 < q) : (x + y) / q = x / q + y / q + (x % q + y % q) / q := by
  have e : x + y = (x % q + y % q) + (x / q + y / q) * q := by
    have h1 := Nat.mod_add_div x q
    have h2 := Nat.mod_add_div y q
    rw [Nat.add_mul, Nat.mul_comm (x / q), Nat.mul_comm (y / q)]; omega
  rw [e, Nat.add_mul_div_right _ _ hq]
  have e1 : ((x % q + y % q) + (x / q + y / q) * q) = x + y := e.symm
  omega
theorem sx_digit (x y k : Nat) : castw 32 (sx x y k) = N8 (x + y) k := by
  apply BitVec.eq_of_toNat_eq
  unfold castw
  rw [BitVec.toNat_ofNat, sx_nat, N8_nat, sum_div x y _ (Nat.pow_pos (by decide))]
  generalize (x % 2 ^ (32 * k) + y % 2 ^ (32 * k)) / 2 ^ (32 * k) = c
  omega
theorem mod_split (a k : Nat) : a % 2 ^ (32 * (k + 1)) = a % 2 ^ (32 * k) + 2 ^ (32 * k) * (a / 2 ^ (32 * k) % 4294967296) := by
  rw [Nat.mul_succ, Nat.pow_add, Nat.mod_mul]
theorem sx_carry (x y k : Nat) : shrw (sx x y k) 32 = cy x y (k + 1) := by
  apply BitVec.eq_of_toNat_eq
  have h0 := cy_le (2 ^ (32 * (k + 1))) x y (Nat.pow_pos (by decide))
  have hq : 0 < 2 ^ (32 * k) := Nat.pow_pos (by decide)
  have h3 : (cy x y (k + 1)).toNat = (x % 2 ^ (32 * (k + 1)) + y % 2 ^ (32 * (k + 1))) / 2 ^ (32 * (k + 1)) := by
    unfold cy; rw [BitVec.toNat_ofNat]; exact Nat.mod_eq_of_lt (Nat.lt_of_le_of_lt h0 (by decide))
  rw [h3, div_split, mod_split, mod_split]
  unfold shrw
  rw [BitVec.toNat_ushiftRight, Nat.shiftRight_eq_div_pow, sx_nat]
  generalize 2 ^ (32 * k) = q at hq ⊢
  have e : x % q + q * (x / q % 4294967296) + (y % q + q * (y / q % 4294967296)) = (x % q + y % q) + (x / q % 4294967296 + y / q % 4294967296) * q := by
    rw [Nat.add_mul, Nat.mul_comm q, Nat.mul_comm q]; omega
  rw [e, Nat.add_mul_div_right _ _ hq]
  generalize (x % q + y % q) / q = c
  rw [show c + (x / q % 4294967296 + y / q % 4294967296) = x / q % 4294967296 + y / q % 4294967296 + c by omega]
theorem cy_zero (x y : Nat) : Value.int .u64 0 = .int .u64 (iw (cy x y 0)) := by
  have : cy x y 0 = litw 64 0 := by unfold cy; simp [Nat.mod_one]; rfl
  rw [this, iw_zero]
end Go.Proofs.YtggalphgnloneaaGreat
/- The document's answer to chapter 3: Add, the walk. -/
namespace Go.Proofs.YtggalphgnloneaaGreat
open Go.RowKit
/-- Within Add: the digits of both at blocks xb, yb, the sum's at ob. -/
structure AW (x y m xb yb ob : Nat) (w wr : World) : Prop where
  dx : Blk wr xb 107 (r32 8 (N8 x))
  dy : Blk wr yb 107 (r32 8 (N8 y))
  o : Blk wr ob 107 (r32 8 (dF (x + y) m))
  r : Blk wr (w.heap.size + 2) 40 (r64 4 fun _ => litw 64 0)
  l : Below w.heap.size w wr
  lt : w.heap.size + 2 < xb ∧ xb < yb ∧ yb < ob
theorem AW.drewN {x y m xb yb ob : Nat} {w wr : World} (h : AW x y m xb yb ob w wr) (n : Nat) : AW x y m xb yb ob w (wr.drewN n) := ⟨h.dx, h.dy, h.o, h.r, below_draws h.l n, h.lt⟩
theorem AW.put {x y m xb yb ob : Nat} {w wr : World} (h : AW x y m xb yb ob w wr) (hm : m < 8) (v : BitVec 32) (hv : v = N8 (x + y) m) : AW x y (m + 1) xb yb ob w (wr.setCell ⟨ob, m, none⟩ (.int .u32 (iw v))) := by
  subst hv
  have hlt := h.lt
  exact ⟨h.dx.far (by simp; omega) _, h.dy.far (by simp; omega) _, (h.o.put hm _).cast_ (row_ext fun i _ => dF_put (x + y) m i), h.r.far (by simp; omega) _, h.l.setCell (by simp; omega) _, hlt⟩
structure A2 (a b : Nat) (w wr : World) : Prop where
  da : Blk wr w.heap.size 40 (r64 4 (F4 a))
  db : Blk wr (w.heap.size + 1) 40 (r64 4 (F4 b))
  r : Blk wr (w.heap.size + 2) 40 (r64 4 fun _ => litw 64 0)
  l : Below w.heap.size w wr
theorem A2.below {a b : Nat} {w wr w' : World} (h : A2 a b w wr) (hb : Below wr.heap.size wr w') : A2 a b w w' := ⟨h.da.below hb h.da.lt, h.db.below hb h.db.lt, h.r.below hb h.r.lt, h.l.trans (hb.mono h.l.size)⟩
set_option maxRecDepth 100000 in
set_option maxHeartbeats 1000000 in
theorem add_any (a b : Nat) (w : World) (ha : a < M256) (hb : b < M256) :
    Calls Tryz.prog 102 #[.agg (r64 4 (F4 a)), .agg (r64 4 (F4 b))] w fun e w' => e = .returned (.agg (r64 4 (F4 ((a + b) % pP)))) ∧ Below w.heap.size w w' := by
  have hs8 : ∀ f : Nat → BitVec 32, (Tryz.prog.info? 107).map (·.size) = some (r32 8 f).size := fun f => by rw [row_size]; kernel_rfl
  have hs4 : ∀ f : Nat → BitVec 64, (Tryz.prog.info? 40).map (·.size) = some (r64 4 f).size := fun f => by rw [row_size]; kernel_rfl
  have HS8 := Lib.hid hs8
  have HS4 := Lib.hid hs4
  clear hs8 hs4
  have hal : Tryz.prog.arrayLen 107 = 8 := by kernel_rfl
  go_enter Tryz.func102, Tryz.ntmps102
  go_wp2_with (refine wpList_gen (A2 a b w) ⟨((Blk.new w _ _).alloc _).alloc _, ((Blk.new (w.alloc _) _ _).cast' ⟨by simp, rfl⟩).alloc _, (Blk.new _ _ _).cast' ⟨by simp, zero4⟩, (((Below.refl _ _).alloc (Nat.le_refl _) _).alloc (by simp) _).alloc (by simp; omega) _⟩ (fun w1 h1 => ?_); refine wpList_load_row rfl 40 _ rfl w.heap.size rfl 40 _ (0, 0) _ h1.da Tryz.underlying40 rfl (HS4.out _) ?_)
  refine (digits_any a w1 ha).mono ?_
  rintro e w2 ⟨rfl, hq⟩
  have h2 := h1.below hq
  clear h1 hq
  generalize hx : a % pP = x
  have HX := Lib.hid hx
  have hx0 : x < pP := by rw [← hx]; exact Nat.mod_lt _ (by decide)
  clear hx
  have hl2 : w.heap.size + 2 < w2.heap.size := h2.r.lt
  go_wp2_with (first
    | (refine wpList_store_row rfl 107 _ _ rfl w2.heap.size (r32 8 (N8 x)) rfl rfl 107 (r32 8 fun _ => litw 32 0) ((Blk.new w2 _ _).cast_ zero8) (HS8.out _) (by rw [row_size, row_size]) (row_one fun _ => rfl) ?_; refine wpList_gen (fun wx => A2 a b w wx ∧ Blk wx w2.heap.size 107 (r32 8 (N8 x))) ⟨⟨(h2.da.alloc _).row_far (by omega) _, (h2.db.alloc _).row_far (by omega) _, (h2.r.alloc _).row_far (by omega) _, below_setRow' (h2.l.alloc h2.l.size _) h2.l.size _⟩, (Blk.new w2 _ _).row_ _⟩ (fun w3 h3 => ?_); obtain ⟨h3, k3⟩ := h3)
    | (refine wpList_load_row rfl 40 _ rfl (w.heap.size + 1) rfl 40 _ (0, 0) _ h3.db Tryz.underlying40 rfl (HS4.out _) ?_))
  refine (digits_any b w3 hb).mono ?_
  rintro e w4 ⟨rfl, hq⟩
  have h4 := h3.below hq
  have k4 := k3.below hq k3.lt
  clear h3 k3 hq h2
  generalize hy : b % pP = y
  have HY := Lib.hid hy
  have hy0 : y < pP := by rw [← hy]; exact Nat.mod_lt _ (by decide)
  clear hy
  have hl4 : w2.heap.size < w4.heap.size := k4.lt
  generalize w2.heap.size = xb at hl2 k4 hl4 ⊢
  go_wp2_with (refine wpList_store_row rfl 107 _ _ rfl w4.heap.size (r32 8 (N8 y)) rfl rfl 107 (r32 8 fun _ => litw 32 0) ((Blk.new w4 _ _).cast_ zero8) (HS8.out _) (by rw [row_size, row_size]) (row_one fun _ => rfl) ?_; refine wpList_gen (fun wx => A2 a b w wx ∧ Blk wx xb 107 (r32 8 (N8 x)) ∧ Blk wx w4.heap.size 107 (r32 8 (N8 y))) ⟨⟨(h4.da.alloc _).row_far (by omega) _, (h4.db.alloc _).row_far (by omega) _, (h4.r.alloc _).row_far (by omega) _, below_setRow' (h4.l.alloc h4.l.size _) h4.l.size _⟩, (k4.alloc _).row_far (by omega) _, (Blk.new w4 _ _).row_ _⟩ (fun w5 h5 => ?_); obtain ⟨h5, k5, y5⟩ := h5)
  have hl5 : w4.heap.size < w5.heap.size := y5.lt
  clear h4 k4
  generalize w4.heap.size = yb at hl4 y5 hl5 ⊢
  refine wp_gen (fun wx => AW x y 0 xb yb w5.heap.size w wx) ⟨k5.alloc _, y5.alloc _, (Blk.new w5 _ _).cast_ (zero8.trans (row_ext fun i _ => by rw [show dF (x + y) 0 i = litw 32 0 by unfold dF; rw [if_neg (by omega)]])), h5.r.alloc _, h5.l.alloc h5.l.size _, ⟨hl2, hl4, hl5⟩⟩ (fun w6 h6 => ?_)
  clear h5 k5 y5
  generalize w5.heap.size = ob at hl5 h6 ⊢
  go_loopw [8, 9] (fun v i wr => ∃ k : Nat, k ≤ 8 ∧ i = .int .i64 (k : Int) ∧ v = .int .u64 (iw (cy x y k)) ∧ AW x y k xb yb ob w wr) (fun _ i _ => 8 - (intOf i).toNat)
  case atStart => exact ⟨0, by omega, rfl, cy_zero x y, h6⟩
  case round =>
    obtain ⟨k, hk, rfl, rfl, hr⟩ := hrel
    clear h6
    by_cases hlt : k < 8
    · have ca := hr.dx.at_ hlt
      have cb := hr.dy.at_ hlt
      go_wp2_with fail
      go_quiet (fail)
      have h2 := hr.drewN nq
      clear ca cb hr
      refine any_gen (F := fun w => Exit.then _ _ _ _ w) (AW x y k xb yb ob w) h2 (fun w7 h7 => ?_)
      have co := h7.o.at_ hlt
      have fo := h7.o.frozen k
      have HD := sx_digit x y k
      have HB := sx_carry x y k
      unfold sx at HD HB
      have K := h7.put hlt _ HD
      have HB' := Lib.hid HB
      clear h7 HD HB
      go_wp2_with fail
      go_roundw
      case rel => exact ⟨k + 1, by omega, by go_num, by rw [← HB'.out], K⟩
      case measure => simp [intOf]; omega
    · obtain rfl : k = 8 := by omega
      have ho : Blk wr ob 107 (r32 8 (N8 (x + y))) := hr.o.cast_ (row_ext fun i hi => by rw [show dF (x + y) 8 i = N8 (x + y) i by unfold dF; rw [if_pos hi]])
      have hz := hr.r
      have hl := hr.l
      have hxy : x + y < M256 := by unfold pP at hx0 hy0; unfold M256; omega
      have hsum : (x + y) % pP = (a + b) % pP := by rw [← HX.out, ← HY.out, ← Nat.add_mod]
      have HSUM := Lib.hid hsum
      clear hr hsum hx0 hy0
      go_wp2_with (refine wpList_load_row rfl 107 _ rfl ob rfl 107 _ (0, 0) _ ho Tryz.underlying107 rfl (HS8.out _) ?_)
      refine (below_any (x + y) wr hxy).mono ?_
      rintro e w8 ⟨rfl, hq⟩
      have hz8 := hz.below hq hz.lt
      have hl8 := hl.trans (hq.mono hl.size)
      rw [HSUM.out]
      clear hz hl hq ho
      go_wp2_with fail
      refine (words_any ((a + b) % pP) w8).mono ?_
      rintro e w9 ⟨rfl, hq⟩
      have hz9 := hz8.below hq hz8.lt
      have hl9 := hl8.trans (hq.mono hl8.size)
      clear hz8 hl8 hq
      go_wp2_with (refine wpList_store_row rfl 40 _ _ rfl (w.heap.size + 2) (r64 4 (F4 ((a + b) % pP))) rfl rfl 40 _ hz9 (HS4.out _) (by rw [row_size, row_size]) (row_one fun _ => rfl) ?_)
      simp only [Act.put]
      exact bodyPost_ret (results_cell_row rfl _ _ (w.heap.size + 2) 40 (r64 4 (F4 ((a + b) % pP))) (0, 0) _ rfl (hz9.row_ _) Tryz.underlying40 rfl (HS4.out _)) rfl ⟨rfl, below_setRow' hl9 (by omega) _⟩
end Go.Proofs.YtggalphgnloneaaGreat
/- The document's answer to chapter 3: Small, Odd. -/
namespace Go.Proofs.YtggalphgnloneaaGreat
open Go.RowKit
theorem F4_small (n : Nat) (hn : n < 18446744073709551616) (i : Nat) (hi : i < 4) : F4 n i = if i = 0 then BitVec.ofNat 64 n else litw 64 0 := by
  apply BitVec.eq_of_toNat_eq
  rw [F4_nat]
  match i, hi with
  | 0, _ => rw [if_pos rfl, BitVec.toNat_ofNat]; simp only [Nat.reduceMul, Nat.reducePow]; omega
  | 1, _ => rw [if_neg (by omega)]; simp only [Nat.reduceMul, Nat.reducePow]; show _ = 0; omega
  | 2, _ => rw [if_neg (by omega)]; simp only [Nat.reduceMul, Nat.reducePow]; show _ = 0; omega
  | 3, _ => rw [if_neg (by omega)]; simp only [Nat.reduceMul, Nat.reducePow]; show _ = 0; omega
theorem small_row (n : Nat) (hn : n < 18446744073709551616) : #[Value.int .u64 (iw (BitVec.ofNat 64 n)), .int .u64 0, .int .u64 0, .int .u64 0] = r64 4 (F4 n) := by
  have e : r64 4 (F4 n) = r64 4 (fun i => if i = 0 then BitVec.ofNat 64 n else litw 64 0) := row_ext fun i hi => by rw [F4_small n hn i hi]
  rw [e]
  have z : (0 : Int) = iw (litw 64 0) := (iw_zero 64).symm
  rw [z]
  rfl
set_option maxRecDepth 100000 in
set_option maxHeartbeats 400000 in
theorem small_any (n : Nat) (w : World) (hn : n < 18446744073709551616) :
    Calls Tryz.prog 73 #[.int .u64 (iw (BitVec.ofNat 64 n))] w fun e w' => e = .returned (.agg (r64 4 (F4 n))) ∧ Below w.heap.size w w' := by
  have hsz : (Tryz.prog.info? 40).map (·.size) = some (r64 4 (F4 n)).size := by rw [row_size]; kernel_rfl
  go_enter Tryz.func73, Tryz.ntmps73
  go_wp2_with (refine wpList_store_row rfl 40 _ _ rfl w.heap.size (r64 4 (F4 n)) rfl (congrArg Value.agg (small_row n hn)) 40 _ (Blk.new w _ _) hsz (by rw [row_size]; rfl) (row_one fun _ => rfl) ?_)
  simp only [Act.put]
  exact bodyPost_ret (results_cell_row rfl _ _ w.heap.size 40 (r64 4 (F4 n)) (0, 0) _ rfl ((Blk.new w _ _).row_ _) Tryz.underlying40 rfl hsz) rfl ⟨rfl, below_setRow' ((Below.refl _ _).alloc (Nat.le_refl _) _) (by omega) _⟩
set_option maxRecDepth 100000 in
set_option maxHeartbeats 400000 in
theorem odd_any (a : Nat) (w : World) (ha : a < M256) :
    Calls Tryz.prog 77 #[.agg (r64 4 (F4 a))] w fun e w' => e = .returned (.bool (decide (a % pP % 2 = 1))) ∧ Below w.heap.size w w' := by
  have hsz : (Tryz.prog.info? 40).map (·.size) = some (r64 4 (F4 a)).size := by rw [row_size]; kernel_rfl
  have hx : (N8 (a % pP) 0).toNat % 2 = a % pP % 2 := by rw [N8_nat]; simp only [Nat.mul_zero, Nat.pow_zero, Nat.div_one]; omega
  have hix : ∀ w, (Instr.index 107 (.agg (r32 8 (N8 (a % pP)))) (.int .i64 0)).run Tryz.prog w = .ok (.int .u32 (iw (N8 (a % pP) 0))) w := fun w =>
    run_index_cell w _ 105 8 _ Tryz.underlying107 Tryz.underlying105 rfl (by kernel_rfl) _ _ 0 (by omega) (row_get _ (by omega)) _
  generalize N8 (a % pP) 0 = z at hx hix
  have hz : iw z % 2 = ((a % pP % 2 : Nat) : Int) := by rw [← hx]; unfold iw; omega
  have HZ := Lib.hid hz
  clear hx hz
  go_enter Tryz.func77, Tryz.ntmps77
  go_wp2_with (refine wpList_load_row rfl 40 _ rfl w.heap.size rfl 40 _ (0, 0) _ (Blk.new w _ _) Tryz.underlying40 rfl hsz ?_)
  refine (digits_any a _ ha).mono ?_
  rintro e w2 ⟨rfl, hq⟩
  have hb : Below w.heap.size w w2 := ((Below.refl _ _).alloc (Nat.le_refl _) _).trans (hq.mono (by simp))
  clear hq
  go_wp2_with fail
  go_ret
  refine ⟨?_, hb⟩
  show Ending.returned (.bool ((iw z).tmod 2 == 1)) = _
  have e : (iw z).tmod 2 = ((a % pP % 2 : Nat) : Int) := by rw [Int.tmod_eq_emod_of_nonneg (by unfold iw; omega), HZ.out]
  rw [e]
  have e2 : ((((a % pP % 2 : Nat) : Int)) == 1) = decide (a % pP % 2 = 1) := by
    rw [Bool.eq_iff_iff, beq_iff_eq, decide_eq_true_eq]; omega
  rw [e2]
end Go.Proofs.YtggalphgnloneaaGreat
/- The document's answer to chapter 3: fold, the arithmetic: 2^256 is 38 modulo p. -/
namespace Go.Proofs.YtggalphgnloneaaGreat
open Go.RowKit
/-- A number of 512 bits by its digits, as words. -/
def D64 (c i : Nat) : BitVec 64 := BitVec.ofNat 64 (c / 2 ^ (32 * i) % 4294967296)
def foldV (c : Nat) : Nat := c % M256 + 38 * (c / M256)
theorem fold_mod (c : Nat) : foldV c % pP = c % pP := by
  have h := Nat.mod_add_div c M256
  have e : c = foldV c + 2 * pP * (c / M256) := by
    unfold foldV
    have : M256 = 38 + 2 * pP := by unfold M256 pP; rfl
    generalize c / M256 = q at h ⊢
    generalize c % M256 = r at h ⊢
    rw [this] at h
    rw [← h, Nat.add_mul]; omega
  have e2 : c % pP = (foldV c + pP * (2 * (c / M256))) % pP := by
    rw [show pP * (2 * (c / M256)) = 2 * pP * (c / M256) by rw [Nat.mul_left_comm, Nat.mul_assoc]]
    exact congrArg (· % pP) e
  rw [e2, Nat.add_mul_mod_self_left]
/-- The carry behind k digits of A + 38 B. -/
def fc (A B k : Nat) : Nat := (A % 2 ^ (32 * k) + 38 * (B % 2 ^ (32 * k))) / 2 ^ (32 * k)
theorem fc_le (A B k : Nat) : fc A B k ≤ 38 := by
  unfold fc
  have hq : 0 < 2 ^ (32 * k) := Nat.pow_pos (by decide)
  generalize 2 ^ (32 * k) = q at hq ⊢
  have h1 := Nat.mod_lt A hq
  have h2 := Nat.mod_lt B hq
  have : (A % q + 38 * (B % q)) / q < 39 := Nat.div_lt_of_lt_mul (by omega)
  omega
theorem fsum_div (A B q : Nat) (hq : 0 < q) : (A + 38 * B) / q = A / q + 38 * (B / q) + (A % q + 38 * (B % q)) / q := by
  have h1 := Nat.mod_add_div A q
  have h2 := Nat.mod_add_div B q
  have e : A + 38 * B = (A % q + 38 * (B % q)) + (A / q + 38 * (B / q)) * q := by
    rw [Nat.add_mul, Nat.mul_assoc, Nat.mul_comm (A / q), Nat.mul_comm (B / q)]; omega
  have e3 := congrArg (· / q) e
  simp only [Nat.add_mul_div_right _ _ hq] at e3
  omega
theorem f_digit (A B k : Nat) : (A / 2 ^ (32 * k) % 4294967296 + 38 * (B / 2 ^ (32 * k) % 4294967296) + fc A B k) % 4294967296 = (A + 38 * B) / 2 ^ (32 * k) % 4294967296 := by
  rw [fsum_div A B _ (Nat.pow_pos (by decide))]
  unfold fc
  generalize (A % 2 ^ (32 * k) + 38 * (B % 2 ^ (32 * k))) / 2 ^ (32 * k) = c
  omega
theorem f_carry (A B k : Nat) : (A / 2 ^ (32 * k) % 4294967296 + 38 * (B / 2 ^ (32 * k) % 4294967296) + fc A B k) / 4294967296 = fc A B (k + 1) := by
  have hq : 0 < 2 ^ (32 * k) := Nat.pow_pos (by decide)
  unfold fc
  rw [mod_split, mod_split, Nat.mul_succ 32 k, Nat.pow_add, ← Nat.div_div_eq_div_mul]
  generalize 2 ^ (32 * k) = q at hq ⊢
  have e : A % q + q * (A / q % 4294967296) + 38 * (B % q + q * (B / q % 4294967296)) = (A % q + 38 * (B % q)) + (A / q % 4294967296 + 38 * (B / q % 4294967296)) * q := by
    rw [Nat.add_mul, Nat.mul_assoc, Nat.mul_comm (A / q % 4294967296), Nat.mul_comm (B / q % 4294967296)]; omega
  rw [e, Nat.add_mul_div_right _ _ hq]
  show _ = ((A % q + 38 * (B % q)) / q + _) / 4294967296
  congr 1
  omega
end Go.Proofs.YtggalphgnloneaaGreat
/- The document's answer to chapter 3: fold, the words. -/
namespace Go.Proofs.YtggalphgnloneaaGreat
open Go.RowKit
def cw (A B k : Nat) : BitVec 64 := BitVec.ofNat 64 (fc A B k)
def fs (c k : Nat) : BitVec 64 := addw (addw (D64 c k) (mulw (D64 c (k + 8)) (litw 64 38))) (cw (c % M256) (c / M256) k)
theorem D64_lo (c k : Nat) (hk : k < 8) : (D64 c k).toNat = c % M256 / 2 ^ (32 * k) % 4294967296 := by
  unfold D64
  rw [BitVec.toNat_ofNat]
  unfold M256
  match k, hk with
  | 0, _ => simp only [Nat.reduceMul, Nat.reducePow]; omega
  | 1, _ => simp only [Nat.reduceMul, Nat.reducePow]; omega
  | 2, _ => simp only [Nat.reduceMul, Nat.reducePow]; omega
  | 3, _ => simp only [Nat.reduceMul, Nat.reducePow]; omega
  | 4, _ => simp only [Nat.reduceMul, Nat.reducePow]; omega
  | 5, _ => simp only [Nat.reduceMul, Nat.reducePow]; omega
  | 6, _ => simp only [Nat.reduceMul, Nat.reducePow]; omega
  | 7, _ => simp only [Nat.reduceMul, Nat.reducePow]; omega
theorem D64_hi (c k : Nat) : (D64 c (k + 8)).toNat = c / M256 / 2 ^ (32 * k) % 4294967296 := by
  have : 2 ^ (32 * (k + 8)) = M256 * 2 ^ (32 * k) := by rw [Nat.mul_add, Nat.pow_add, Nat.mul_comm]; rfl
  unfold D64
  rw [BitVec.toNat_ofNat, this, ← Nat.div_div_eq_div_mul]
  omega
theorem fs_nat (c k : Nat) (hk : k < 8) : (fs c k).toNat = c % M256 / 2 ^ (32 * k) % 4294967296 + 38 * (c / M256 / 2 ^ (32 * k) % 4294967296) + fc (c % M256) (c / M256) k := by
  have h0 := fc_le (c % M256) (c / M256) k
  have h3 : (cw (c % M256) (c / M256) k).toNat = fc (c % M256) (c / M256) k := by
    unfold cw; rw [BitVec.toNat_ofNat]; exact Nat.mod_eq_of_lt (Nat.lt_of_le_of_lt h0 (by decide))
  have h4 : (litw 64 38).toNat = 38 := by unfold litw; rfl
  unfold fs addw mulw
  rw [BitVec.toNat_add, BitVec.toNat_add, BitVec.toNat_mul, D64_lo c k hk, D64_hi, h3, h4]
  generalize fc (c % M256) (c / M256) k = f at h0 ⊢
  have h5 : c % M256 / 2 ^ (32 * k) % 4294967296 < 4294967296 := Nat.mod_lt _ (by decide)
  have h6 : c / M256 / 2 ^ (32 * k) % 4294967296 < 4294967296 := Nat.mod_lt _ (by decide)
  generalize c % M256 / 2 ^ (32 * k) % 4294967296 = u at h5 ⊢
  generalize c / M256 / 2 ^ (32 * k) % 4294967296 = v at h6 ⊢
  omega
theorem fs_digit (c k : Nat) (hk : k < 8) : castw 32 (fs c k) = N8 (foldV c) k := by
  apply BitVec.eq_of_toNat_eq
  unfold castw
  rw [BitVec.toNat_ofNat, fs_nat c k hk, N8_nat]
  exact f_digit _ _ _
theorem fs_carry (c k : Nat) (hk : k < 8) : shrw (fs c k) 32 = cw (c % M256) (c / M256) (k + 1) := by
  apply BitVec.eq_of_toNat_eq
  have h0 := fc_le (c % M256) (c / M256) (k + 1)
  unfold shrw cw
  rw [BitVec.toNat_ushiftRight, Nat.shiftRight_eq_div_pow, fs_nat c k hk, BitVec.toNat_ofNat]
  rw [show (2 : Nat) ^ 32 = 4294967296 by rfl, f_carry]
  exact (Nat.mod_eq_of_lt (Nat.lt_of_le_of_lt h0 (by decide))).symm
theorem cw_zero (A B : Nat) : Value.int .u64 0 = .int .u64 (iw (cw A B 0)) := by
  have : cw A B 0 = litw 64 0 := by unfold cw fc; simp [Nat.mod_one]; rfl
  rw [this, iw_zero]
/-- The carry at the end: what stands above 2^256. -/
theorem cw_end (c : Nat) (hc : c < M256 * M256) : cw (c % M256) (c / M256) 8 = BitVec.ofNat 64 (foldV c / M256) := by
  unfold cw fc foldV
  have h1 : c % M256 < M256 := Nat.mod_lt _ (by decide)
  have h2 : c / M256 < M256 := Nat.div_lt_of_lt_mul hc
  have : 2 ^ (32 * 8) = M256 := by rfl
  rw [this, Nat.mod_eq_of_lt h1, Nat.mod_eq_of_lt h2]
/- The second loop: what is above 2^256 goes in, 38 times. -/
def tc (V k : Nat) : BitVec 64 := BitVec.ofNat 64 ((38 * (V / M256) + V % 2 ^ (32 * k)) / 2 ^ (32 * k))
def ts (V k : Nat) : BitVec 64 := addw (tc V k) (castw 64 (N8 V k))
theorem lo_eq (V k : Nat) (hk : k < 8) : V % M256 / 2 ^ (32 * k) % 4294967296 = V / 2 ^ (32 * k) % 4294967296 := by
  rw [← D64_lo V k hk]
  unfold D64
  rw [BitVec.toNat_ofNat]; omega
theorem mod_lo (V k : Nat) (hk : k ≤ 8) : V % M256 % 2 ^ (32 * k) = V % 2 ^ (32 * k) :=
  Nat.mod_mod_of_dvd _ (by
    have : M256 = 2 ^ 256 := by rfl
    rw [this]; exact Nat.pow_dvd_pow 2 (by omega))
theorem tc_le (V k : Nat) (hV : V < 40 * M256) : (38 * (V / M256) + V % 2 ^ (32 * k)) / 2 ^ (32 * k) ≤ 1482 := by
  have hc : V / M256 < 40 := Nat.div_lt_of_lt_mul (by rw [Nat.mul_comm]; exact hV)
  have hq : 0 < 2 ^ (32 * k) := Nat.pow_pos (by decide)
  generalize 2 ^ (32 * k) = q at hq ⊢
  generalize V / M256 = d at hc ⊢
  have h1 := Nat.mod_lt V hq
  have : (38 * d + V % q) / q < 1483 := Nat.div_lt_of_lt_mul (by
    have : 38 * d + V % q < 1482 + q := by omega
    have h3 : 1482 + q ≤ q * 1483 := by
      have := Nat.mul_le_mul_right 1482 hq
      omega
    omega)
  omega
theorem ts_nat (V k : Nat) (hV : V < 40 * M256) : (ts V k).toNat = (38 * (V / M256) + V % 2 ^ (32 * k)) / 2 ^ (32 * k) + V / 2 ^ (32 * k) % 4294967296 := by
  have h0 := tc_le V k hV
  have h1 : (tc V k).toNat = (38 * (V / M256) + V % 2 ^ (32 * k)) / 2 ^ (32 * k) := by
    unfold tc; rw [BitVec.toNat_ofNat]; exact Nat.mod_eq_of_lt (Nat.lt_of_le_of_lt h0 (by decide))
  have h2 : (castw 64 (N8 V k)).toNat = V / 2 ^ (32 * k) % 4294967296 := by
    unfold castw; rw [BitVec.toNat_ofNat, N8_nat]; omega
  unfold ts addw
  rw [BitVec.toNat_add, h1, h2]
  generalize (38 * (V / M256) + V % 2 ^ (32 * k)) / 2 ^ (32 * k) = d at h0 ⊢
  omega
theorem ts_digit (V k : Nat) (hk : k < 8) (hV : V < 40 * M256) : castw 32 (ts V k) = N8 (foldV V) k := by
  apply BitVec.eq_of_toNat_eq
  unfold castw
  rw [BitVec.toNat_ofNat, ts_nat V k hV, N8_nat]
  have hq : 0 < 2 ^ (32 * k) := Nat.pow_pos (by decide)
  have e1 := lo_eq V k hk
  have e2 := mod_lo V k (by omega)
  unfold foldV
  generalize 2 ^ (32 * k) = q at hq e1 e2 ⊢
  have e3 : V % M256 + 38 * (V / M256) = (38 * (V / M256) + V % q) + (V % M256 / q) * q := by
    have := Nat.mod_add_div (V % M256) q
    rw [e2] at this
    rw [Nat.mul_comm (V % M256 / q)]; omega
  rw [e3, Nat.add_mul_div_right _ _ hq]
  generalize (38 * (V / M256) + V % q) / q = d
  omega
theorem ts_carry (V k : Nat) (_hk : k < 8) (hV : V < 40 * M256) : shrw (ts V k) 32 = tc V (k + 1) := by
  apply BitVec.eq_of_toNat_eq
  have h0 := tc_le V (k + 1) hV
  unfold shrw
  rw [BitVec.toNat_ushiftRight, Nat.shiftRight_eq_div_pow, ts_nat V k hV]
  have h1 : (tc V (k + 1)).toNat = (38 * (V / M256) + V % 2 ^ (32 * (k + 1))) / 2 ^ (32 * (k + 1)) := by
    unfold tc; rw [BitVec.toNat_ofNat]; exact Nat.mod_eq_of_lt (Nat.lt_of_le_of_lt h0 (by decide))
  rw [h1, mod_split, Nat.mul_succ 32 k, Nat.pow_add, ← Nat.div_div_eq_div_mul]
  have hq : 0 < 2 ^ (32 * k) := Nat.pow_pos (by decide)
  generalize 2 ^ (32 * k) = q at hq ⊢
  have e : 38 * (V / M256) + (V % q + q * (V / q % 4294967296)) = (38 * (V / M256) + V % q) + (V / q % 4294967296) * q := by
    rw [Nat.mul_comm (V / q % 4294967296)]; omega
  rw [e, Nat.add_mul_div_right _ _ hq]
theorem tc_start (V : Nat) (hV : V < 40 * M256) : mulw (BitVec.ofNat 64 (V / M256)) (litw 64 38) = tc V 0 := by
  apply BitVec.eq_of_toNat_eq
  have hc : V / M256 < 40 := Nat.div_lt_of_lt_mul (by rw [Nat.mul_comm]; exact hV)
  have h4 : (litw 64 38).toNat = 38 := by unfold litw; rfl
  unfold mulw tc
  rw [BitVec.toNat_mul, h4, BitVec.toNat_ofNat, BitVec.toNat_ofNat]
  simp only [Nat.mul_zero, Nat.pow_zero, Nat.mod_one, Nat.div_one, Nat.add_zero]
  generalize V / M256 = d at hc ⊢
  omega
theorem tc_end (V : Nat) : tc V 8 = BitVec.ofNat 64 (foldV V / M256) := by
  unfold tc foldV
  have : 2 ^ (32 * 8) = M256 := by rfl
  rw [this, Nat.add_comm]
theorem foldV_lt (V : Nat) (h : M256 ≤ V) : foldV V < V := by
  have h1 := Nat.mod_add_div V M256
  have h2 : 0 < V / M256 := Nat.div_pos h (by decide)
  unfold foldV
  have h3 : 38 * (V / M256) < M256 * (V / M256) := Nat.mul_lt_mul_of_pos_right (by decide) h2
  omega
end Go.Proofs.YtggalphgnloneaaGreat
/- The document's answer to chapter 3: fold, the walk. -/
namespace Go.Proofs.YtggalphgnloneaaGreat
open Go.RowKit
/-- The digits of T up to k, of V behind. -/
def oFl (V T k i : Nat) : BitVec 32 := if i < k then N8 T i else N8 V i
theorem oFl_put (V T m i : Nat) : (if i = m then Value.int .u32 (iw (N8 T m)) else .int .u32 (iw (oFl V T m i))) = .int .u32 (iw (oFl V T (m + 1) i)) := by
  unfold oFl
  by_cases h1 : i = m
  · subst h1; rw [if_pos rfl, if_pos (by omega)]
  · rw [if_neg h1]
    by_cases h2 : i < m
    · rw [if_pos h2, if_pos (by omega)]
    · rw [if_neg h2, if_neg (by omega)]
structure FO (f : Nat → BitVec 32) (w wr : World) : Prop where
  r : Blk wr w.heap.size 107 (r32 8 fun _ => litw 32 0)
  o : Blk wr (w.heap.size + 1) 107 (r32 8 f)
  l : Below w.heap.size w wr
theorem FO.drewN {f : Nat → BitVec 32} {w wr : World} (h : FO f w wr) (n : Nat) : FO f w (wr.drewN n) := ⟨h.r, h.o, below_draws h.l n⟩
theorem FO.cast {f f' : Nat → BitVec 32} {w wr : World} (h : FO f w wr) (e : ∀ i, i < 8 → f i = f' i) : FO f' w wr := ⟨h.r, h.o.cast_ (row_ext fun i hi => by rw [e i hi]), h.l⟩
theorem FO.put {f f' : Nat → BitVec 32} {w wr : World} (h : FO f w wr) {m : Nat} (hm : m < 8) (v : BitVec 32) (e : ∀ i, (if i = m then Value.int .u32 (iw v) else .int .u32 (iw (f i))) = .int .u32 (iw (f' i))) : FO f' w (wr.setCell ⟨w.heap.size + 1, m, none⟩ (.int .u32 (iw v))) :=
  ⟨h.r.far (by simp) _, (h.o.put hm _).cast_ (row_ext fun i _ => e i), h.l.setCell (by simp) _⟩
theorem foldV_lt40 (c : Nat) (hc : c < M256 * M256) : foldV c < 40 * M256 := by
  have h1 : c % M256 < M256 := Nat.mod_lt _ (by decide)
  have h2 : c / M256 < M256 := Nat.div_lt_of_lt_mul hc
  unfold foldV; omega
set_option maxRecDepth 100000 in
set_option maxHeartbeats 1000000 in
theorem fold_any (c g : Nat) (t : TypeId) (w : World) (hc : c < M256 * M256) (hb : Blk w g t (r64 16 (D64 c))) :
    Calls Tryz.prog 108 #[.slice (some ⟨g, 0, none⟩) 16 16] w fun e w' => e = .returned (.agg (r32 8 (N8 (c % pP)))) ∧ Below w.heap.size w w' := by
  have hs8 : ∀ f : Nat → BitVec 32, (Tryz.prog.info? 107).map (·.size) = some (r32 8 f).size := fun f => by rw [row_size]; kernel_rfl
  have HS8 := Lib.hid hs8
  clear hs8
  have hal : Tryz.prog.arrayLen 107 = 8 := by kernel_rfl
  have hml : ∀ x : BitVec 64, IntKind.u64.wrap (38 * iw x) = iw (mulw x (litw 64 38)) := fun x => by rw [Int.mul_comm]; exact wrap64_mul_lit x 38
  have hmr : ∀ x : BitVec 64, IntKind.u64.wrap (iw x * 38) = iw (mulw x (litw 64 38)) := fun x => wrap64_mul_lit x 38
  have hg := hb.lt
  go_enter Tryz.func108, Tryz.ntmps108
  go_wp2_with fail
  go_loopw [4, 5] (fun v i wr => ∃ k : Nat, k ≤ 8 ∧ i = .int .i64 (k : Int) ∧ v = .int .u64 (iw (cw (c % M256) (c / M256) k)) ∧ FO (dF (foldV c) k) w wr) (fun _ i _ => 8 - (intOf i).toNat)
  case atStart => exact ⟨0, by omega, rfl, cw_zero _ _, ((Blk.new w _ _).cast_ zero8).alloc _, (Blk.new _ _ _).cast' ⟨by simp, zero8.trans (row_ext fun i _ => by rw [show dF (foldV c) 0 i = litw 32 0 by unfold dF; rw [if_neg (by omega)]])⟩, ((Below.refl _ _).alloc (Nat.le_refl _) _).alloc (by simp) _⟩
  case round =>
    obtain ⟨k, hk, rfl, rfl, hr⟩ := hrel
    by_cases hlt : k < 8
    · have ca : wr.cell? ⟨g, k, none⟩ = some (.int .u64 (iw (D64 c k))) := (hb.below hr.l hg).at_ (by omega)
      have cb : wr.cell? ⟨g, k + 8, none⟩ = some (.int .u64 (iw (D64 c (k + 8)))) := (hb.below hr.l hg).at_ (by omega)
      have e8 : IntKind.i64.wrap ((k : Int) + 8) = ((k + 8 : Nat) : Int) := by rw [IntWalk.i64_in _ (by omega)]; omega
      have hk16 : (k : Int) < 16 := by omega
      go_wp2_with fail
      go_quiet (fail)
      have h2 := hr.drewN nq
      clear ca cb hr e8 hk16
      refine any_gen (F := fun w => Exit.then _ _ _ _ w) (FO (dF (foldV c) k) w) h2 (fun w7 h7 => ?_)
      have co := h7.o.at_ hlt
      have fo := h7.o.frozen k
      have HD := fs_digit c k hlt
      have HB := fs_carry c k hlt
      unfold fs at HD HB
      have K := h7.put (f' := dF (foldV c) (k + 1)) hlt (castw 32 (addw (addw (D64 c k) (mulw (D64 c (k + 8)) (litw 64 38))) (cw (c % M256) (c / M256) k))) (fun i => by rw [HD]; exact dF_put (foldV c) k i)
      have HB' := Lib.hid HB
      clear h7 HD HB
      go_wp2_with fail
      go_roundw
      case rel => exact ⟨k + 1, by omega, by go_num, by rw [← HB'.out], K⟩
      case measure => simp [intOf]; omega
    · obtain rfl : k = 8 := by omega
      have h1 : FO (N8 (foldV c)) w wr := hr.cast fun i hi => by unfold dF; rw [if_pos hi]
      have hV := foldV_lt40 c hc
      have hP := fold_mod c
      rw [cw_end c hc]
      clear hr
      generalize foldV c = V0 at h1 hV hP ⊢
      have HP := Lib.hid hP
      clear hP
      go_wp2_with fail
      obtain ⟨wo, rfl⟩ : ∃ wo : World, wo = w := ⟨_, rfl⟩
      go_loopg [4] V0 (fun gk v wr => ∃ V, gk = V ∧ V < 40 * M256 ∧ Hid (V % pP = c % pP) ∧ v = .int .u64 (iw (BitVec.ofNat 64 (V / M256))) ∧ FO (N8 V) wo wr)
      case atStart => exact ⟨V0, rfl, hV, HP, rfl, h1⟩
      case round =>
        obtain ⟨V, hgk, hV2, HV, rfl, h2⟩ := hrel
        have HG := Lib.hid hgk
        clear hgk h1 HP hV
        have hd40 : V / M256 < 40 := Nat.div_lt_of_lt_mul (by rw [Nat.mul_comm]; exact hV2)
        have hiw : iw (BitVec.ofNat 64 (V / M256)) = ((V / M256 : Nat) : Int) := by
          unfold iw; rw [BitVec.toNat_ofNat, Nat.mod_eq_of_lt (by omega)]
        by_cases h0 : 0 < V / M256
        · have hgt : 0 < iw (BitVec.ofNat 64 (V / M256)) := by rw [hiw]; exact_mod_cast h0
          have hts := tc_start V hV2
          clear hiw
          go_wp2_with fail
          obtain ⟨w1, rfl⟩ : ∃ w1 : World, w1 = wo := ⟨_, rfl⟩
          go_loopw [7, 8] (fun v i wr => ∃ k : Nat, k ≤ 8 ∧ i = .int .i64 (k : Int) ∧ v = .int .u64 (iw (tc V k)) ∧ FO (oFl V (foldV V) k) w1 wr) (fun _ i _ => 8 - (intOf i).toNat)
          case atStart => exact ⟨0, by omega, rfl, rfl, h2.cast fun i _ => by unfold oFl; rw [if_neg (by omega)]⟩
          case round =>
            obtain ⟨k, hk, rfl, rfl, hr⟩ := hrel
            clear h2
            by_cases hlt : k < 8
            · have eo : oFl V (foldV V) k k = N8 V k := by unfold oFl; rw [if_neg (by omega)]
              have co := hr.o.at_ hlt
              rw [eo] at co
              have fo := hr.o.frozen k
              have HD := ts_digit V k hlt hV2
              have HB := ts_carry V k hlt hV2
              unfold ts at HD HB
              have K := hr.put (f' := oFl V (foldV V) (k + 1)) hlt (castw 32 (addw (tc V k) (castw 64 (N8 V k)))) (fun i => by rw [HD]; exact oFl_put V (foldV V) k i)
              have HB' := Lib.hid HB
              clear hr HD HB eo hts hgt
              go_wp2_with fail
              go_roundw
              case rel => exact ⟨k + 1, by omega, by go_num, by rw [← HB'.out], K⟩
              case measure => simp [intOf]; omega
            · obtain rfl : k = 8 := by omega
              have hlt2 := foldV_lt V (by
                have := Nat.mod_add_div V M256
                have h3 : M256 * 1 ≤ M256 * (V / M256) := Nat.mul_le_mul_left _ h0
                omega)
              have h3 : FO (N8 (foldV V)) w1 wr := hr.cast fun i hi => by unfold oFl; rw [if_pos hi]
              have HF := Lib.hid (fold_mod V)
              rw [tc_end V]
              clear hr hts hgt
              go_wp2_with fail
              go_roundg (foldV V)
              case measure => rw [HG.out]; exact hlt2
              case rel => exact ⟨foldV V, rfl, Nat.lt_trans hlt2 hV2, Lib.hid (HF.out.trans HV.out), rfl, h3⟩
        · have hd0 : V / M256 = 0 := Nat.eq_zero_of_not_pos h0
          have hz0 : ¬ 0 < iw (BitVec.ofNat 64 (V / M256)) := by rw [hiw, hd0]; decide
          have hVM : V < M256 := by
            have := Nat.mod_add_div V M256
            rw [hd0] at this
            have := Nat.mod_lt V (show 0 < M256 by decide)
            omega
          have ho := h2.o
          have hz := h2.r
          have hl := h2.l
          clear h2 hiw hd0
          go_wp2_with (refine wpList_load_row rfl 107 _ rfl (wo.heap.size + 1) rfl 107 _ (0, 0) _ ho Tryz.underlying107 rfl (HS8.out _) ?_)
          refine (below_any V wr hVM).mono ?_
          rintro e w8 ⟨rfl, hq⟩
          have hz8 := hz.below hq hz.lt
          have hl8 := hl.trans (hq.mono hl.size)
          rw [HV.out]
          clear hz hl hq ho
          go_wp2_with (refine wpList_store_row rfl 107 _ _ rfl wo.heap.size (r32 8 (N8 (c % pP))) rfl rfl 107 _ hz8 (HS8.out _) (by rw [row_size, row_size]) (row_one fun _ => rfl) ?_)
          simp only [Act.put]
          exact bodyPost_ret (results_cell_row rfl _ _ wo.heap.size 107 (r32 8 (N8 (c % pP))) (0, 0) _ rfl (hz8.row_ _) Tryz.underlying107 rfl (HS8.out _)) rfl ⟨rfl, below_setRow' hl8 (by omega) _⟩
end Go.Proofs.YtggalphgnloneaaGreat
/- The document's answer to chapter 3: Mul, the arithmetic. -/
namespace Go.Proofs.YtggalphgnloneaaGreat
open Go.RowKit
/-- The carry at place i + k, when to Q, with X times y at place i, k digits of y are in. -/
def mc (Q X y i k : Nat) : Nat := (Q % 2 ^ (32 * (i + k)) + X * (y % 2 ^ (32 * k)) * 2 ^ (32 * i)) / 2 ^ (32 * (i + k))
theorem m_split (a p q : Nat) : a % (p * q) = a % p + p * (a / p % q) := Nat.mod_mul
theorem m_sum (i k : Nat) : ∃ r q p b : Nat, r = 2 ^ (32 * (i + k)) ∧ q = 2 ^ (32 * k) ∧ p = 2 ^ (32 * i) ∧ r = p * q ∧ 0 < r ∧ 0 < q ∧ 0 < p ∧ b = 4294967296 ∧ 2 ^ (32 * (i + k + 1)) = r * b ∧ 2 ^ (32 * (k + 1)) = q * b := by
  refine ⟨_, _, _, _, rfl, rfl, rfl, ?_, Nat.pow_pos (by decide), Nat.pow_pos (by decide), Nat.pow_pos (by decide), rfl, ?_, ?_⟩
  · rw [← Nat.pow_add, ← Nat.mul_add]
  · rw [Nat.mul_succ, Nat.pow_add]
  · rw [Nat.mul_succ, Nat.pow_add]
theorem mc_next (Q X y i k : Nat) : (Q / 2 ^ (32 * (i + k)) % 4294967296 + X * (y / 2 ^ (32 * k) % 4294967296) + mc Q X y i k) / 4294967296 = mc Q X y i (k + 1) := by
  obtain ⟨r, q, p, b, hr, hq, hp, hrpq, hr0, hq0, hp0, hb, h1, h2⟩ := m_sum i k
  unfold mc
  rw [show i + (k + 1) = i + k + 1 by omega, h1, h2, ← hr, ← hq, ← hp, ← hb, m_split Q r b, m_split y q b, ← Nat.div_div_eq_div_mul]
  have e : Q % r + r * (Q / r % b) + X * (y % q + q * (y / q % b)) * p = (Q % r + X * (y % q) * p) + (Q / r % b + X * (y / q % b)) * r := by
    rw [hrpq, Nat.mul_add, Nat.add_mul, Nat.add_mul]
    have e2 : X * (q * (y / q % b)) * p = X * (y / q % b) * (p * q) := by
      rw [Nat.mul_left_comm X q, Nat.mul_comm q, Nat.mul_assoc, Nat.mul_comm q p]
    have e3 : p * q * (Q / (p * q) % b) = Q / (p * q) % b * (p * q) := Nat.mul_comm _ _
    omega
  rw [e, Nat.add_mul_div_right _ _ hr0]
  generalize (Q % r + X * (y % q) * p) / r = c
  generalize Q / r % b + X * (y / q % b) = d
  rw [Nat.add_comm]
theorem mc_digit (Q X y i k : Nat) : (Q / 2 ^ (32 * (i + k)) % 4294967296 + X * (y / 2 ^ (32 * k) % 4294967296) + mc Q X y i k) % 4294967296 = (Q + X * y * 2 ^ (32 * i)) / 2 ^ (32 * (i + k)) % 4294967296 := by
  obtain ⟨r, q, p, b, hr, hq, hp, hrpq, hr0, hq0, hp0, hb, h1, h2⟩ := m_sum i k
  unfold mc
  rw [← hr, ← hq, ← hp, ← hb]
  have e : Q + X * y * p = (Q % r + X * (y % q) * p) + (Q / r + X * (y / q)) * r := by
    have h3 := Nat.mod_add_div Q r
    have h4 := Nat.mod_add_div y q
    have e2 : X * y * p = X * (y % q) * p + X * (y / q) * r := by
      rw [hrpq]
      have : y = y % q + q * (y / q) := h4.symm
      have e5 : X * y * p = X * (y % q + q * (y / q)) * p := by rw [← this]
      rw [e5, Nat.mul_add, Nat.add_mul]
      have : X * (q * (y / q)) * p = X * (y / q) * (p * q) := by
        rw [Nat.mul_left_comm X q, Nat.mul_comm q, Nat.mul_assoc, Nat.mul_comm q p]
      omega
    rw [Nat.add_mul, Nat.mul_comm (Q / r)]
    omega
  rw [e, Nat.add_mul_div_right _ _ hr0]
  generalize (Q % r + X * (y % q) * p) / r = c
  have e6 : X * (y / q) % b = X * (y / q % b) % b := by rw [Nat.mul_mod, Nat.mul_mod X (y / q % b), Nat.mod_mod]
  generalize X * (y / q) = u at e6 ⊢
  generalize X * (y / q % b) = v at e6 ⊢
  subst hb
  omega
end Go.Proofs.YtggalphgnloneaaGreat
/- The document's answer to chapter 3: Neg. -/
namespace Go.Proofs.YtggalphgnloneaaGreat
open Go.RowKit
structure NW (a : Nat) (w wr : World) : Prop where
  d : Blk wr w.heap.size 40 (r64 4 (F4 a))
  r : Blk wr (w.heap.size + 1) 40 (r64 4 fun _ => litw 64 0)
  l : Below w.heap.size w wr
theorem NW.below {a : Nat} {w wr w' : World} (h : NW a w wr) (hb : Below wr.heap.size wr w') : NW a w w' := ⟨h.d.below hb h.d.lt, h.r.below hb h.r.lt, h.l.trans (hb.mono h.l.size)⟩
theorem N8_row_turn (x : Nat) : r32 8 (N8 (x + M256)) = r32 8 (N8 x) := row_ext fun i hi => by rw [N8_turn x i hi]
set_option maxRecDepth 100000 in
set_option maxHeartbeats 1000000 in
theorem neg_any (a : Nat) (w : World) (ha : a < M256) :
    Calls Tryz.prog 65 #[.agg (r64 4 (F4 a))] w fun e w' => e = .returned (.agg (r64 4 (F4 ((pP - a % pP) % pP)))) ∧ Below w.heap.size w w' := by
  have hs4 : ∀ f : Nat → BitVec 64, (Tryz.prog.info? 40).map (·.size) = some (r64 4 f).size := fun f => by rw [row_size]; kernel_rfl
  have HS4 := Lib.hid hs4
  clear hs4
  have hlt : a % pP < pP := Nat.mod_lt _ (by decide)
  have hm : r32 8 (N8 (pP + M256 - a % pP)) = r32 8 (N8 (pP - a % pP)) := by
    rw [show pP + M256 - a % pP = (pP - a % pP) + M256 by omega, N8_row_turn]
  have HM := Lib.hid hm
  have hpm : pP < M256 := by decide
  have hxm : a % pP < M256 := by omega
  have hdm : pP - a % pP < M256 := by omega
  clear hm hlt
  go_enter Tryz.func65, Tryz.ntmps65
  go_wp2_with fail
  refine wp_gen (NW a w) ⟨(Blk.new w _ _).alloc _, (Blk.new _ _ _).cast' ⟨by simp, zero4⟩, ((Below.refl _ _).alloc (Nat.le_refl _) _).alloc (by simp) _⟩ (fun w1 h1 => ?_)
  have h2 : NW a w w1.drew := ⟨h1.d, h1.r, h1.l.drew⟩
  clear h1
  refine wp_region_any (by kernel_rfl) ?_
  change wpAny _ _ _ _ _ _ _ w1.drew
  generalize w1.drew = w2 at h2 ⊢
  refine wpAny_ready (rs := [0, 1]) (by kernel_rfl) (by simp) (AllReady.cons rfl (fun K hK => ?_) (AllReady.cons rfl (fun K hK => ?_) AllReady.nil))
  · go_simp
    refine (prime_any _).mono ?_
    rintro e w3 ⟨rfl, hq⟩
    have h3 := h2.below hq
    clear h2 hq
    go_simp
    refine hK _ _ ?_
    refine wpAny_ready (rs := [1]) (by kernel_rfl) (by simp) (AllReady.cons rfl (fun K hK => ?_) AllReady.nil)
    refine step_load_row rfl 40 _ rfl w.heap.size rfl 40 (r64 4 (F4 a)) _ h3.d Tryz.underlying40 rfl (HS4.out _) (hK _ _ ?_)
    refine wpAny_ready (rs := [2]) (by kernel_rfl) (by simp) (AllReady.cons rfl (fun K hK => ?_) AllReady.nil)
    go_simp
    refine (digits_any a _ ha).mono ?_
    rintro e w4 ⟨rfl, hq⟩
    have h4 := h3.below hq
    clear h3 hq
    go_simp
    refine hK _ _ ?_
    refine wpAny_ready (rs := [3]) (by kernel_rfl) (by simp) (AllReady.cons rfl (fun K hK => ?_) AllReady.nil)
    go_simp
    refine (minus_any pP (a % pP) _ hpm hxm).mono ?_
    rintro e w5 ⟨rfl, hq⟩
    have h5 := h4.below hq
    clear h4 hq
    rw [HM.out]
    go_simp
    refine hK _ _ ?_
    refine wpAny_ready (rs := [4]) (by kernel_rfl) (by simp) (AllReady.cons rfl (fun K hK => ?_) AllReady.nil)
    go_simp
    refine (below_any (pP - a % pP) _ hdm).mono ?_
    rintro e w6 ⟨rfl, hq⟩
    have h6 := h5.below hq
    clear h5 hq
    go_simp
    refine hK _ _ ?_
    refine wpAny_ready (rs := [5]) (by kernel_rfl) (by simp) (AllReady.cons rfl (fun K hK => ?_) AllReady.nil)
    go_simp
    refine (words_any ((pP - a % pP) % pP) _).mono ?_
    rintro e w7 ⟨rfl, hq⟩
    have h7 := h6.below hq
    clear h6 hq
    go_simp
    refine hK _ _ ?_
    refine wpAny_ready (rs := [6]) (by kernel_rfl) (by simp) (AllReady.cons rfl (fun K hK => ?_) AllReady.nil)
    refine step_store_row rfl 40 _ _ rfl (w.heap.size + 1) (r64 4 (F4 ((pP - a % pP) % pP))) rfl rfl 40 _ h7.r (by rw [row_size, row_size]) (HS4.out _) (row_one fun _ => rfl) (hK _ _ ?_)
    refine wpAny_done (by kernel_rfl) ?_ _
    have hz := h7.r
    have hl := h7.l
    clear h7
    go_wp2_with fail
    exact bodyPost_ret (results_cell_row rfl _ _ (w.heap.size + 1) 40 (r64 4 (F4 ((pP - a % pP) % pP))) (0, 0) _ rfl (hz.row_ _) Tryz.underlying40 rfl (HS4.out _)) rfl ⟨rfl, below_setRow' hl (by omega) _⟩
  · refine step_load_row rfl 40 _ rfl w.heap.size rfl 40 (r64 4 (F4 a)) _ h2.d Tryz.underlying40 rfl (HS4.out _) (hK _ _ ?_)
    refine wpAny_ready (rs := [0]) (by kernel_rfl) (by simp) (AllReady.cons rfl (fun K hK => ?_) AllReady.nil)
    go_simp
    refine (prime_any _).mono ?_
    rintro e w3 ⟨rfl, hq⟩
    have h3 := h2.below hq
    clear h2 hq
    go_simp
    refine hK _ _ ?_
    refine wpAny_ready (rs := [2]) (by kernel_rfl) (by simp) (AllReady.cons rfl (fun K hK => ?_) AllReady.nil)
    go_simp
    refine (digits_any a _ ha).mono ?_
    rintro e w4 ⟨rfl, hq⟩
    have h4 := h3.below hq
    clear h3 hq
    go_simp
    refine hK _ _ ?_
    refine wpAny_ready (rs := [3]) (by kernel_rfl) (by simp) (AllReady.cons rfl (fun K hK => ?_) AllReady.nil)
    go_simp
    refine (minus_any pP (a % pP) _ hpm hxm).mono ?_
    rintro e w5 ⟨rfl, hq⟩
    have h5 := h4.below hq
    clear h4 hq
    rw [HM.out]
    go_simp
    refine hK _ _ ?_
    refine wpAny_ready (rs := [4]) (by kernel_rfl) (by simp) (AllReady.cons rfl (fun K hK => ?_) AllReady.nil)
    go_simp
    refine (below_any (pP - a % pP) _ hdm).mono ?_
    rintro e w6 ⟨rfl, hq⟩
    have h6 := h5.below hq
    clear h5 hq
    go_simp
    refine hK _ _ ?_
    refine wpAny_ready (rs := [5]) (by kernel_rfl) (by simp) (AllReady.cons rfl (fun K hK => ?_) AllReady.nil)
    go_simp
    refine (words_any ((pP - a % pP) % pP) _).mono ?_
    rintro e w7 ⟨rfl, hq⟩
    have h7 := h6.below hq
    clear h6 hq
    go_simp
    refine hK _ _ ?_
    refine wpAny_ready (rs := [6]) (by kernel_rfl) (by simp) (AllReady.cons rfl (fun K hK => ?_) AllReady.nil)
    refine step_store_row rfl 40 _ _ rfl (w.heap.size + 1) (r64 4 (F4 ((pP - a % pP) % pP))) rfl rfl 40 _ h7.r (by rw [row_size, row_size]) (HS4.out _) (row_one fun _ => rfl) (hK _ _ ?_)
    refine wpAny_done (by kernel_rfl) ?_ _
    have hz := h7.r
    have hl := h7.l
    clear h7
    go_wp2_with fail
    exact bodyPost_ret (results_cell_row rfl _ _ (w.heap.size + 1) 40 (r64 4 (F4 ((pP - a % pP) % pP))) (0, 0) _ rfl (hz.row_ _) Tryz.underlying40 rfl (HS4.out _)) rfl ⟨rfl, below_setRow' hl (by omega) _⟩
end Go.Proofs.YtggalphgnloneaaGreat
/- The document's answer to chapter 3: Sub. -/
namespace Go.Proofs.YtggalphgnloneaaGreat
open Go.RowKit
set_option maxRecDepth 100000 in
set_option maxHeartbeats 1000000 in
theorem sub_any (a b : Nat) (w : World) (ha : a < M256) (hb : b < M256) :
    Calls Tryz.prog 101 #[.agg (r64 4 (F4 a)), .agg (r64 4 (F4 b))] w fun e w' => e = .returned (.agg (r64 4 (F4 ((a + (pP - b % pP) % pP) % pP)))) ∧ Below w.heap.size w w' := by
  have hs4 : ∀ f : Nat → BitVec 64, (Tryz.prog.info? 40).map (·.size) = some (r64 4 f).size := fun f => by rw [row_size]; kernel_rfl
  have HS4 := Lib.hid hs4
  clear hs4
  have hn : (pP - b % pP) % pP < M256 := Nat.lt_trans (Nat.mod_lt _ (by decide)) (by decide)
  have hneg := fun w => neg_any b w hb
  have hadd := fun w => add_any a ((pP - b % pP) % pP) w ha hn
  obtain ⟨r, hr⟩ : ∃ r, r = (a + (pP - b % pP) % pP) % pP := ⟨_, rfl⟩
  rw [← hr] at hadd
  have HR := Lib.hid hr
  clear hr hn
  generalize (pP - b % pP) % pP = n at hneg hadd HR
  have HNEG := Lib.hid hneg
  have HADD := Lib.hid hadd
  clear hneg hadd
  go_enter Tryz.func101, Tryz.ntmps101
  go_wp2_with fail
  refine wp_gen (A2 a b w) ⟨((Blk.new w _ _).alloc _).alloc _, ((Blk.new (w.alloc _) _ _).cast' ⟨by simp, rfl⟩).alloc _, (Blk.new _ _ _).cast' ⟨by simp, zero4⟩, (((Below.refl _ _).alloc (Nat.le_refl _) _).alloc (by simp) _).alloc (by simp; omega) _⟩ (fun w1 h1 => ?_)
  have h2 : A2 a b w w1.drew := ⟨h1.da, h1.db, h1.r, h1.l.drew⟩
  clear h1
  refine wp_region_any (by kernel_rfl) ?_
  change wpAny _ _ _ _ _ _ _ w1.drew
  generalize w1.drew = w2 at h2 ⊢
  refine wpAny_ready (rs := [0, 1]) (by kernel_rfl) (by simp) (AllReady.cons rfl (fun K hK => ?_) (AllReady.cons rfl (fun K hK => ?_) AllReady.nil))
  · refine step_load_row rfl 40 _ rfl w.heap.size rfl 40 (r64 4 (F4 a)) _ h2.da Tryz.underlying40 rfl (HS4.out _) (hK _ _ ?_)
    refine wpAny_ready (rs := [1]) (by kernel_rfl) (by simp) (AllReady.cons rfl (fun K hK => ?_) AllReady.nil)
    refine step_load_row rfl 40 _ rfl (w.heap.size + 1) rfl 40 (r64 4 (F4 b)) _ h2.db Tryz.underlying40 rfl (HS4.out _) (hK _ _ ?_)
    refine wpAny_ready (rs := [2]) (by kernel_rfl) (by simp) (AllReady.cons rfl (fun K hK => ?_) AllReady.nil)
    go_simp
    refine (HNEG.out _).mono ?_
    rintro e w3 ⟨rfl, hq⟩
    have h3 := h2.below hq
    clear h2 hq
    go_simp
    refine hK _ _ ?_
    refine wpAny_ready (rs := [3]) (by kernel_rfl) (by simp) (AllReady.cons rfl (fun K hK => ?_) AllReady.nil)
    go_simp
    refine (HADD.out _).mono ?_
    rintro e w4 ⟨rfl, hq⟩
    have h4 := h3.below hq
    clear h3 hq
    go_simp
    refine hK _ _ ?_
    refine wpAny_ready (rs := [4]) (by kernel_rfl) (by simp) (AllReady.cons rfl (fun K hK => ?_) AllReady.nil)
    refine step_store_row rfl 40 _ _ rfl (w.heap.size + 2) (r64 4 (F4 r)) rfl rfl 40 _ h4.r (by rw [row_size, row_size]) (HS4.out _) (row_one fun _ => rfl) (hK _ _ ?_)
    refine wpAny_done (by kernel_rfl) ?_ _
    have hz := h4.r
    have hl := h4.l
    clear h4
    go_wp2_with fail
    exact bodyPost_ret (results_cell_row rfl _ _ (w.heap.size + 2) 40 (r64 4 (F4 r)) (0, 0) _ rfl (hz.row_ _) Tryz.underlying40 rfl (HS4.out _)) rfl ⟨by rw [← HR.out], below_setRow' hl (by omega) _⟩
  · refine step_load_row rfl 40 _ rfl (w.heap.size + 1) rfl 40 (r64 4 (F4 b)) _ h2.db Tryz.underlying40 rfl (HS4.out _) (hK _ _ ?_)
    refine wpAny_ready (rs := [0, 2]) (by kernel_rfl) (by simp) (AllReady.cons rfl (fun K hK => ?_) (AllReady.cons rfl (fun K hK => ?_) AllReady.nil))
    · refine step_load_row rfl 40 _ rfl w.heap.size rfl 40 (r64 4 (F4 a)) _ h2.da Tryz.underlying40 rfl (HS4.out _) (hK _ _ ?_)
      refine wpAny_ready (rs := [2]) (by kernel_rfl) (by simp) (AllReady.cons rfl (fun K hK => ?_) AllReady.nil)
      go_simp
      refine (HNEG.out _).mono ?_
      rintro e w3 ⟨rfl, hq⟩
      have h3 := h2.below hq
      clear h2 hq
      go_simp
      refine hK _ _ ?_
      refine wpAny_ready (rs := [3]) (by kernel_rfl) (by simp) (AllReady.cons rfl (fun K hK => ?_) AllReady.nil)
      go_simp
      refine (HADD.out _).mono ?_
      rintro e w4 ⟨rfl, hq⟩
      have h4 := h3.below hq
      clear h3 hq
      go_simp
      refine hK _ _ ?_
      refine wpAny_ready (rs := [4]) (by kernel_rfl) (by simp) (AllReady.cons rfl (fun K hK => ?_) AllReady.nil)
      refine step_store_row rfl 40 _ _ rfl (w.heap.size + 2) (r64 4 (F4 r)) rfl rfl 40 _ h4.r (by rw [row_size, row_size]) (HS4.out _) (row_one fun _ => rfl) (hK _ _ ?_)
      refine wpAny_done (by kernel_rfl) ?_ _
      have hz := h4.r
      have hl := h4.l
      clear h4
      go_wp2_with fail
      exact bodyPost_ret (results_cell_row rfl _ _ (w.heap.size + 2) 40 (r64 4 (F4 r)) (0, 0) _ rfl (hz.row_ _) Tryz.underlying40 rfl (HS4.out _)) rfl ⟨by rw [← HR.out], below_setRow' hl (by omega) _⟩
    · go_simp
      refine (HNEG.out _).mono ?_
      rintro e w3 ⟨rfl, hq⟩
      have h3 := h2.below hq
      clear h2 hq
      go_simp
      refine hK _ _ ?_
      refine wpAny_ready (rs := [0]) (by kernel_rfl) (by simp) (AllReady.cons rfl (fun K hK => ?_) AllReady.nil)
      refine step_load_row rfl 40 _ rfl w.heap.size rfl 40 (r64 4 (F4 a)) _ h3.da Tryz.underlying40 rfl (HS4.out _) (hK _ _ ?_)
      refine wpAny_ready (rs := [3]) (by kernel_rfl) (by simp) (AllReady.cons rfl (fun K hK => ?_) AllReady.nil)
      go_simp
      refine (HADD.out _).mono ?_
      rintro e w4 ⟨rfl, hq⟩
      have h4 := h3.below hq
      clear h3 hq
      go_simp
      refine hK _ _ ?_
      refine wpAny_ready (rs := [4]) (by kernel_rfl) (by simp) (AllReady.cons rfl (fun K hK => ?_) AllReady.nil)
      refine step_store_row rfl 40 _ _ rfl (w.heap.size + 2) (r64 4 (F4 r)) rfl rfl 40 _ h4.r (by rw [row_size, row_size]) (HS4.out _) (row_one fun _ => rfl) (hK _ _ ?_)
      refine wpAny_done (by kernel_rfl) ?_ _
      have hz := h4.r
      have hl := h4.l
      clear h4
      go_wp2_with fail
      exact bodyPost_ret (results_cell_row rfl _ _ (w.heap.size + 2) 40 (r64 4 (F4 r)) (0, 0) _ rfl (hz.row_ _) Tryz.underlying40 rfl (HS4.out _)) rfl ⟨by rw [← HR.out], below_setRow' hl (by omega) _⟩
end Go.Proofs.YtggalphgnloneaaGreat
/- The document's answer to chapter 3: Mul, the words. -/
namespace Go.Proofs.YtggalphgnloneaaGreat
open Go.RowKit
def mw (Q X y i k : Nat) : BitVec 64 := BitVec.ofNat 64 (mc Q X y i k)
/-- What is reckoned at place i, k: the word so far, the product of the digits, the carry. -/
def ms (Q x y i k : Nat) : BitVec 64 := addw (addw (D64 Q (i + k)) (mulw (castw 64 (N8 x i)) (castw 64 (N8 y k)))) (mw Q (x / 2 ^ (32 * i) % 4294967296) y i k)
theorem mc_lt (Q X y i k : Nat) (hX : X < 4294967296) : mc Q X y i k < 4294967296 := by
  obtain ⟨r, q, p, b, hr, hq, hp, hrpq, hr0, hq0, hp0, hb, h1, h2⟩ := m_sum i k
  unfold mc
  rw [← hr, ← hq, ← hp, ← hb]
  rw [← hb] at hX
  have h3 : Q % r < r := Nat.mod_lt _ hr0
  have h4 : y % q < q := Nat.mod_lt _ hq0
  refine Nat.div_lt_of_lt_mul ?_
  have h5 : X * (y % q) * p ≤ (b - 1) * (q - 1) * p := Nat.mul_le_mul_right p (Nat.mul_le_mul (by omega) (by omega))
  have h6 : (b - 1) * (q - 1) * p ≤ (b - 1) * r := by
    rw [Nat.mul_assoc, hrpq]
    refine Nat.mul_le_mul_left _ ?_
    rw [Nat.mul_comm p q]
    exact Nat.mul_le_mul_right p (by omega)
  have h7 : r * b = r + (b - 1) * r := by
    obtain ⟨c, hc⟩ : ∃ c, b = c + 1 := ⟨b - 1, by omega⟩
    rw [hc, Nat.add_sub_cancel, Nat.mul_succ, Nat.mul_comm r c, Nat.add_comm]
  omega
theorem ms_nat (Q x y i k : Nat) : (ms Q x y i k).toNat = Q / 2 ^ (32 * (i + k)) % 4294967296 + x / 2 ^ (32 * i) % 4294967296 * (y / 2 ^ (32 * k) % 4294967296) + mc Q (x / 2 ^ (32 * i) % 4294967296) y i k := by
  have hX : x / 2 ^ (32 * i) % 4294967296 < 4294967296 := Nat.mod_lt _ (by decide)
  have hY : y / 2 ^ (32 * k) % 4294967296 < 4294967296 := Nat.mod_lt _ (by decide)
  have hQ : Q / 2 ^ (32 * (i + k)) % 4294967296 < 4294967296 := Nat.mod_lt _ (by decide)
  have h0 := mc_lt Q (x / 2 ^ (32 * i) % 4294967296) y i k hX
  have h1 : (castw 64 (N8 x i)).toNat = x / 2 ^ (32 * i) % 4294967296 := by
    unfold castw; rw [BitVec.toNat_ofNat, N8_nat]; omega
  have h2 : (castw 64 (N8 y k)).toNat = y / 2 ^ (32 * k) % 4294967296 := by
    unfold castw; rw [BitVec.toNat_ofNat, N8_nat]; omega
  have h3 : (D64 Q (i + k)).toNat = Q / 2 ^ (32 * (i + k)) % 4294967296 := by
    unfold D64; rw [BitVec.toNat_ofNat]; omega
  have h4 : (mw Q (x / 2 ^ (32 * i) % 4294967296) y i k).toNat = mc Q (x / 2 ^ (32 * i) % 4294967296) y i k := by
    unfold mw; rw [BitVec.toNat_ofNat]; exact Nat.mod_eq_of_lt (Nat.lt_trans h0 (by decide))
  unfold ms addw mulw
  rw [BitVec.toNat_add, BitVec.toNat_add, BitVec.toNat_mul, h1, h2, h3, h4]
  generalize mc Q (x / 2 ^ (32 * i) % 4294967296) y i k = c at h0 ⊢
  generalize x / 2 ^ (32 * i) % 4294967296 = X at hX ⊢
  generalize y / 2 ^ (32 * k) % 4294967296 = Y at hY ⊢
  generalize Q / 2 ^ (32 * (i + k)) % 4294967296 = d at hQ ⊢
  have hp : X * Y ≤ 4294967295 * 4294967295 := Nat.mul_le_mul (by omega) (by omega)
  generalize X * Y = z at hp ⊢
  omega
theorem ms_digit (Q x y i k : Nat) : andw (ms Q x y i k) (litw 64 4294967295) = D64 (Q + x / 2 ^ (32 * i) % 4294967296 * y * 2 ^ (32 * i)) (i + k) := by
  apply BitVec.eq_of_toNat_eq
  have h4 : (litw 64 4294967295).toNat = 2 ^ 32 - 1 := by unfold litw; rfl
  unfold andw D64
  rw [BitVec.toNat_and, h4, Nat.and_two_pow_sub_one_eq_mod, ms_nat, BitVec.toNat_ofNat, show (2 : Nat) ^ 32 = 4294967296 by rfl, mc_digit]
  omega
theorem ms_carry (Q x y i k : Nat) : shrw (ms Q x y i k) 32 = mw Q (x / 2 ^ (32 * i) % 4294967296) y i (k + 1) := by
  apply BitVec.eq_of_toNat_eq
  have hX : x / 2 ^ (32 * i) % 4294967296 < 4294967296 := Nat.mod_lt _ (by decide)
  have h0 := mc_lt Q (x / 2 ^ (32 * i) % 4294967296) y i (k + 1) hX
  unfold shrw mw
  rw [BitVec.toNat_ushiftRight, Nat.shiftRight_eq_div_pow, ms_nat, BitVec.toNat_ofNat, show (2 : Nat) ^ 32 = 4294967296 by rfl, mc_next]
  exact (Nat.mod_eq_of_lt (Nat.lt_trans h0 (by decide))).symm
theorem mw_zero (Q X y i : Nat) : Value.int .u64 0 = .int .u64 (iw (mw Q X y i 0)) := by
  have h : mc Q X y i 0 = 0 := by
    unfold mc
    rw [Nat.mul_zero, Nat.pow_zero, Nat.mod_one, Nat.mul_zero, Nat.zero_mul, Nat.add_zero, Nat.add_zero]
    exact Nat.div_eq_of_lt (Nat.mod_lt _ (Nat.pow_pos (by decide)))
  have : mw Q X y i 0 = litw 64 0 := by unfold mw; rw [h]; rfl
  rw [this, iw_zero]
end Go.Proofs.YtggalphgnloneaaGreat
/- The document's answer to chapter 3: Mul, the walk. -/
namespace Go.Proofs.YtggalphgnloneaaGreat
open Go.RowKit
/-- What the words are when x's first i digits, and of the next one k of y's, are in. -/
def qI (x y i : Nat) : Nat := x % 2 ^ (32 * i) * y
def xI (x i : Nat) : Nat := x / 2 ^ (32 * i) % 4294967296
def uF (x y i m j : Nat) : BitVec 64 := if j < m then D64 (qI x y (i + 1)) j else D64 (qI x y i) j
theorem qI_next (x y i : Nat) : qI x y (i + 1) = qI x y i + xI x i * y * 2 ^ (32 * i) := by
  unfold qI xI
  rw [mod_split, Nat.add_mul]
  congr 1
  rw [Nat.mul_comm (2 ^ (32 * i)), Nat.mul_assoc, Nat.mul_comm (2 ^ (32 * i)), ← Nat.mul_assoc]
theorem qI_lt (x y i : Nat) (hy : y < M256) : qI x y i < 2 ^ (32 * (i + 8)) := by
  unfold qI
  have h := Nat.mod_lt x (show 0 < 2 ^ (32 * i) from Nat.pow_pos (by decide))
  rw [Nat.mul_add, Nat.pow_add]
  exact Nat.mul_lt_mul'' h hy
theorem D64_nat (q j : Nat) : (D64 q j).toNat = q / 2 ^ (32 * j) % 4294967296 := by
  unfold D64; rw [BitVec.toNat_ofNat]; omega
/-- The last word of a row is what is carried. -/
theorem last_word (x y i : Nat) (hy : y < M256) : mw (qI x y i) (xI x i) y i 8 = D64 (qI x y (i + 1)) (i + 8) := by
  have hX : xI x i < 4294967296 := Nat.mod_lt _ (by decide)
  have h0 := mc_lt (qI x y i) (xI x i) y i 8 hX
  apply BitVec.eq_of_toNat_eq
  unfold mw
  rw [BitVec.toNat_ofNat, D64_nat, Nat.mod_eq_of_lt (Nat.lt_trans h0 (by decide)), qI_next]
  have e : mc (qI x y i) (xI x i) y i 8 = (qI x y i + xI x i * y * 2 ^ (32 * i)) / 2 ^ (32 * (i + 8)) := by
    unfold mc
    rw [Nat.mod_eq_of_lt (qI_lt x y i hy), show y % 2 ^ (32 * 8) = y from Nat.mod_eq_of_lt hy]
  rw [← e]
  exact (Nat.mod_eq_of_lt h0).symm
theorem word_zero (q j : Nat) (h : q < 2 ^ (32 * j)) : D64 q j = litw 64 0 := by
  unfold D64; rw [Nat.div_eq_of_lt h]; rfl
theorem uF_done (x y i : Nat) (hy : y < M256) (j : Nat) : (if j = i + 8 then D64 (qI x y (i + 1)) (i + 8) else uF x y i (i + 8) j) = D64 (qI x y (i + 1)) j := by
  by_cases h1 : j = i + 8
  · rw [if_pos h1, h1]
  · rw [if_neg h1]; unfold uF
    by_cases h2 : j < i + 8
    · rw [if_pos h2]
    · rw [if_neg h2, word_zero _ j (Nat.lt_of_lt_of_le (qI_lt x y i hy) (Nat.pow_le_pow_right (by decide) (by omega))), word_zero _ j (Nat.lt_of_lt_of_le (qI_lt x y (i + 1) hy) (Nat.pow_le_pow_right (by decide) (by omega)))]
theorem uF_none (x y i j : Nat) : uF x y i i j = D64 (qI x y i) j := by
  unfold uF
  by_cases h : j < i
  · rw [if_pos h]
    apply BitVec.eq_of_toNat_eq
    rw [D64_nat, D64_nat, qI_next]
    obtain ⟨d, rfl⟩ : ∃ d, i = j + 1 + d := ⟨i - (j + 1), by omega⟩
    have e : (2 : Nat) ^ (32 * (j + 1 + d)) = 2 ^ (32 * j) * (4294967296 * 2 ^ (32 * d)) := by
      rw [show (4294967296 : Nat) = 2 ^ 32 by rfl, ← Nat.pow_add, ← Nat.pow_add]; congr 1; omega
    rw [e, Nat.mul_left_comm, Nat.add_mul_div_left _ _ (Nat.pow_pos (by decide)), Nat.mul_left_comm, Nat.add_mul_mod_self_left]
  · rw [if_neg h]
structure UW (x y : Nat) (f : Nat → BitVec 64) (gx gy gl : Nat) (w wr : World) : Prop where
  dx : Blk wr gx 107 (r32 8 (N8 x))
  dy : Blk wr gy 107 (r32 8 (N8 y))
  l : Blk wr gl 38 (r64 16 f)
  r : Blk wr (w.heap.size + 2) 40 (r64 4 fun _ => litw 64 0)
  b : Below w.heap.size w wr
  lt : w.heap.size + 2 < gx ∧ gx < gy ∧ gy < gl
theorem UW.drewN {x y : Nat} {f : Nat → BitVec 64} {gx gy gl : Nat} {w wr : World} (h : UW x y f gx gy gl w wr) (n : Nat) : UW x y f gx gy gl w (wr.drewN n) := ⟨h.dx, h.dy, h.l, h.r, below_draws h.b n, h.lt⟩
theorem UW.put {x y : Nat} {f f' : Nat → BitVec 64} {gx gy gl : Nat} {w wr : World} (h : UW x y f gx gy gl w wr) {j : Nat} (hj : j < 16) (v : BitVec 64) (e : ∀ i, (if i = j then v else f i) = f' i) : UW x y f' gx gy gl w (wr.setCell ⟨gl, j, none⟩ (.int .u64 (iw v))) := by
  have hlt := h.lt
  refine ⟨h.dx.far (by simp; omega) _, h.dy.far (by simp; omega) _, (h.l.put hj _).cast_ (row_ext fun i _ => ?_), h.r.far (by simp; omega) _, h.b.setCell (by simp; omega) _, hlt⟩
  rw [← e i]
  by_cases h1 : i = j <;> simp [h1]
set_option maxRecDepth 100000 in
set_option maxHeartbeats 4000000 in
theorem mul_any (a b : Nat) (w : World) (ha : a < M256) (hb : b < M256) :
    Calls Tryz.prog 72 #[.agg (r64 4 (F4 a)), .agg (r64 4 (F4 b))] w fun e w' => e = .returned (.agg (r64 4 (F4 (a * b % pP)))) ∧ Below w.heap.size w w' := by
  have hs8 : ∀ f : Nat → BitVec 32, (Tryz.prog.info? 107).map (·.size) = some (r32 8 f).size := fun f => by rw [row_size]; kernel_rfl
  have hs4 : ∀ f : Nat → BitVec 64, (Tryz.prog.info? 40).map (·.size) = some (r64 4 f).size := fun f => by rw [row_size]; kernel_rfl
  have HS8 := Lib.hid hs8
  have HS4 := Lib.hid hs4
  clear hs8 hs4
  have hal : Tryz.prog.arrayLen 107 = 8 := by kernel_rfl
  have hmk : ∀ w, (Instr.makeSlice 99 (.int .i64 16) (.int .i64 16)).run Tryz.prog w = .ok (.slice (some ⟨w.heap.size, 0, none⟩) 16 16) (w.alloc (.cells (r64 16 (D64 0)) 38)) := fun w => by kernel_rfl
  go_enter Tryz.func72, Tryz.ntmps72
  go_wp2_with (refine wpList_gen (A2 a b w) ⟨((Blk.new w _ _).alloc _).alloc _, ((Blk.new (w.alloc _) _ _).cast' ⟨by simp, rfl⟩).alloc _, (Blk.new _ _ _).cast' ⟨by simp, zero4⟩, (((Below.refl _ _).alloc (Nat.le_refl _) _).alloc (by simp) _).alloc (by simp; omega) _⟩ (fun w1 h1 => ?_); refine wpList_load_row rfl 40 _ rfl w.heap.size rfl 40 _ (0, 0) _ h1.da Tryz.underlying40 rfl (HS4.out _) ?_)
  refine (digits_any a w1 ha).mono ?_
  rintro e w2 ⟨rfl, hq⟩
  have h2 := h1.below hq
  clear h1 hq
  generalize hx : a % pP = x
  have HX := Lib.hid hx
  have hx0 : x < pP := by rw [← hx]; exact Nat.mod_lt _ (by decide)
  clear hx
  have hl2 : w.heap.size + 2 < w2.heap.size := h2.r.lt
  go_wp2_with (first
    | (refine wpList_store_row rfl 107 _ _ rfl w2.heap.size (r32 8 (N8 x)) rfl rfl 107 (r32 8 fun _ => litw 32 0) ((Blk.new w2 _ _).cast_ zero8) (HS8.out _) (by rw [row_size, row_size]) (row_one fun _ => rfl) ?_; refine wpList_gen (fun wx => A2 a b w wx ∧ Blk wx w2.heap.size 107 (r32 8 (N8 x))) ⟨⟨(h2.da.alloc _).row_far (by omega) _, (h2.db.alloc _).row_far (by omega) _, (h2.r.alloc _).row_far (by omega) _, below_setRow' (h2.l.alloc h2.l.size _) h2.l.size _⟩, (Blk.new w2 _ _).row_ _⟩ (fun w3 h3 => ?_); obtain ⟨h3, k3⟩ := h3)
    | (refine wpList_load_row rfl 40 _ rfl (w.heap.size + 1) rfl 40 _ (0, 0) _ h3.db Tryz.underlying40 rfl (HS4.out _) ?_))
  refine (digits_any b w3 hb).mono ?_
  rintro e w4 ⟨rfl, hq⟩
  have h4 := h3.below hq
  have k4 := k3.below hq k3.lt
  clear h3 k3 hq h2
  generalize hy : b % pP = y
  have HY := Lib.hid hy
  have hy0 : y < pP := by rw [← hy]; exact Nat.mod_lt _ (by decide)
  clear hy
  have hl4 : w2.heap.size < w4.heap.size := k4.lt
  generalize w2.heap.size = xb at hl2 k4 hl4 ⊢
  go_wp2_with (refine wpList_store_row rfl 107 _ _ rfl w4.heap.size (r32 8 (N8 y)) rfl rfl 107 (r32 8 fun _ => litw 32 0) ((Blk.new w4 _ _).cast_ zero8) (HS8.out _) (by rw [row_size, row_size]) (row_one fun _ => rfl) ?_; refine wpList_gen (fun wx => A2 a b w wx ∧ Blk wx xb 107 (r32 8 (N8 x)) ∧ Blk wx w4.heap.size 107 (r32 8 (N8 y))) ⟨⟨(h4.da.alloc _).row_far (by omega) _, (h4.db.alloc _).row_far (by omega) _, (h4.r.alloc _).row_far (by omega) _, below_setRow' (h4.l.alloc h4.l.size _) h4.l.size _⟩, (k4.alloc _).row_far (by omega) _, (Blk.new w4 _ _).row_ _⟩ (fun w5 h5 => ?_); obtain ⟨h5, k5, y5⟩ := h5)
  have hl5 : w4.heap.size < w5.heap.size := y5.lt
  clear h4 k4
  generalize w4.heap.size = yb at hl4 y5 hl5 ⊢
  refine wp_gen (UW x y (fun j => D64 (qI x y 0) j) xb yb w5.heap.size w) ⟨k5.alloc _, y5.alloc _, (Blk.new w5 _ _).cast_ (row_ext fun i _ => by show _ = Value.int .u64 (iw (D64 (qI x y 0) i)); unfold qI; rw [Nat.mul_zero, Nat.pow_zero, Nat.mod_one, Nat.zero_mul]), h5.r.alloc _, h5.l.alloc h5.l.size _, ⟨hl2, hl4, hl5⟩⟩ (fun w6 h6 => ?_)
  clear h5 k5 y5 hmk
  generalize w5.heap.size = gl at hl5 h6 ⊢
  have hyM : y < M256 := Nat.lt_trans hy0 (by decide)
  have hxM : x < M256 := Nat.lt_trans hx0 (by decide)
  go_loopw [8] (fun i wr => ∃ m : Nat, m ≤ 8 ∧ i = .int .i64 (m : Int) ∧ UW x y (fun j => D64 (qI x y m) j) xb yb gl w wr) (fun i _ => 8 - (intOf i).toNat)
  case atStart => exact ⟨0, by omega, rfl, h6⟩
  case round =>
    obtain ⟨m, hm, rfl, hr⟩ := hrel
    clear h6
    by_cases hmlt : m < 8
    · go_wp2_with fail
      obtain ⟨wo, rfl⟩ : ∃ wo : World, wo = wr := ⟨_, rfl⟩
      go_loopw [9, 10] (fun v i wr => ∃ k : Nat, k ≤ 8 ∧ i = .int .i64 (k : Int) ∧ v = .int .u64 (iw (mw (qI x y m) (xI x m) y m k)) ∧ UW x y (uF x y m (m + k)) xb yb gl w wr) (fun _ i _ => 8 - (intOf i).toNat)
      case atStart => exact ⟨0, by omega, rfl, mw_zero _ _ _ _, ⟨hr.dx, hr.dy, hr.l.cast_ (row_ext fun j _ => by rw [Nat.add_zero, uF_none]), hr.r, hr.b, hr.lt⟩⟩
      case round =>
        obtain ⟨k, hk, rfl, rfl, hr2⟩ := hrel
        clear hr
        by_cases hlt : k < 8
        · obtain ⟨d, hd⟩ : ∃ d, d = m + k := ⟨_, rfl⟩
          have cx := hr2.dx.at_ hmlt
          have cyy := hr2.dy.at_ hlt
          rw [← hd] at hr2
          have cl : wr.cell? ⟨gl, d, none⟩ = some (.int .u64 (iw (D64 (qI x y m) d))) := by
            have := hr2.l.at_ (i := d) (by omega)
            rw [show uF x y m d d = D64 (qI x y m) d by unfold uF; rw [if_neg (by omega)]] at this
            exact this
          have e8 : IntKind.i64.wrap ((m : Int) + (k : Int)) = (d : Int) := by rw [IntWalk.i64_in _ (by omega)]; omega
          have e9 : IntKind.i64.wrap (d : Int) = (d : Int) := IntWalk.i64_in _ (by omega)
          have e10 : (m : Int) + (k : Int) = (d : Int) := by omega
          have hk16 : (d : Int) < 16 := by omega
          have HD : Hid (andw (ms (qI x y m) x y m k) (litw 64 4294967295) = D64 (qI x y (m + 1)) d) := Lib.hid (by rw [ms_digit, qI_next, hd]; rfl)
          have HB : Hid (shrw (ms (qI x y m) x y m k) 32 = mw (qI x y m) (xI x m) y m (k + 1)) := Lib.hid (ms_carry (qI x y m) x y m k)
          have HM : Hid (addw (addw (D64 (qI x y m) d) (mulw (castw 64 (N8 x m)) (castw 64 (N8 y k)))) (mw (qI x y m) (xI x m) y m k) = ms (qI x y m) x y m k) := Lib.hid (by rw [hd]; rfl)
          have HU : Hid (∀ i, (if i = d then D64 (qI x y (m + 1)) d else uF x y m d i) = uF x y m (m + (k + 1)) i) := Lib.hid (fun i => by
            unfold uF
            by_cases h1 : i = d
            · subst h1; rw [if_pos rfl, if_pos (by omega)]
            · rw [if_neg h1]
              by_cases h2 : i < d
              · rw [if_pos h2, if_pos (by omega)]
              · rw [if_neg h2, if_neg (by omega)])
          clear hd
          go_wp2_with fail
          go_quiet (fail)
          have h3 := hr2.drewN nq
          clear cx cyy cl hr2
          refine any_gen (F := fun w => Exit.then _ _ _ _ w) (UW x y (uF x y m d) xb yb gl w) h3 (fun w7 h7 => ?_)
          have co := h7.l.at_ (i := d) (by omega)
          have fo := h7.l.frozen d
          have K := h7.put (j := d) (by omega) (andw (ms (qI x y m) x y m k) (litw 64 4294967295)) (f' := uF x y m (m + (k + 1))) (fun i => by rw [HD.out]; exact HU.out i)
          clear h7 h3 HD HU
          have hand : ∀ x : BitVec 64, bits .and .u64 (iw x) 4294967295 = iw (andw x (litw 64 4294967295)) := fun x => and64_lit x _
          rw [HM.out]
          generalize ms (qI x y m) x y m k = z at K HB ⊢
          clear HM
          go_wp2_with fail
          go_roundw
          case rel => exact ⟨k + 1, by omega, by go_num, by rw [← HB.out], K⟩
          case measure => simp [intOf]; omega
        · obtain rfl : k = 8 := by omega
          obtain ⟨d, hd⟩ : ∃ d, d = m + 8 := ⟨_, rfl⟩
          have HL : Hid (mw (qI x y m) (xI x m) y m 8 = D64 (qI x y (m + 1)) d) := Lib.hid (by rw [hd]; exact last_word x y m hyM)
          have e8 : IntKind.i64.wrap ((m : Int) + 8) = (d : Int) := by rw [IntWalk.i64_in _ (by omega)]; omega
          have hk16 : (d : Int) < 16 := by omega
          rw [← hd] at hr2
          have co := hr2.l.at_ (i := d) (by omega)
          have fo := hr2.l.frozen d
          have K := hr2.put (j := d) (by omega) (mw (qI x y m) (xI x m) y m 8) (f' := fun j => D64 (qI x y (m + 1)) j) (fun i => by rw [HL.out, hd]; exact uF_done x y m hyM i)
          clear hr2 hd HL
          go_wp2_with fail
          go_roundw
          case rel => exact ⟨m + 1, by omega, by go_num, K⟩
          case measure => simp [intOf]; omega
    · obtain rfl : m = 8 := by omega
      have hc : x * y < M256 * M256 := Nat.mul_lt_mul'' hxM hyM
      have hL : Blk wr gl 38 (r64 16 (D64 (x * y))) := hr.l.cast_ (row_ext fun j _ => by
        show Value.int .u64 (iw (D64 (qI x y 8) j)) = _
        unfold qI; rw [show x % 2 ^ (32 * 8) = x from Nat.mod_eq_of_lt hxM])
      have hz := hr.r
      have hl := hr.b
      have hres : x * y % pP = a * b % pP := by rw [← HX.out, ← HY.out, ← Nat.mul_mod]
      have HR := Lib.hid hres
      clear hr hres hx0 hy0 hyM hxM hmlt hm
      go_wp2_with fail
      refine (fold_any (x * y) gl _ wr hc hL).mono ?_
      rintro e w8 ⟨rfl, hq⟩
      have hz8 := hz.below hq hz.lt
      have hl8 := hl.trans (hq.mono hl.size)
      rw [HR.out]
      clear hz hl hq hL
      go_wp2_with fail
      refine (words_any (a * b % pP) w8).mono ?_
      rintro e w9 ⟨rfl, hq⟩
      have hz9 := hz8.below hq hz8.lt
      have hl9 := hl8.trans (hq.mono hl8.size)
      clear hz8 hl8 hq
      go_wp2_with (refine wpList_store_row rfl 40 _ _ rfl (w.heap.size + 2) (r64 4 (F4 (a * b % pP))) rfl rfl 40 _ hz9 (HS4.out _) (by rw [row_size, row_size]) (row_one fun _ => rfl) ?_)
      simp only [Act.put]
      exact bodyPost_ret (results_cell_row rfl _ _ (w.heap.size + 2) 40 (r64 4 (F4 (a * b % pP))) (0, 0) _ rfl (hz9.row_ _) Tryz.underlying40 rfl (HS4.out _)) rfl ⟨rfl, below_setRow' hl9 (by omega) _⟩
end Go.Proofs.YtggalphgnloneaaGreat
