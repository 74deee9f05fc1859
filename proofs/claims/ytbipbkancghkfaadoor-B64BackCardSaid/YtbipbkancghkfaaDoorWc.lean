/- regrouped: bits of groups handed on in groups of another width. -/
import Derived.Test.YtbipbkancghkfaaDoorWa
import Derived.Test.YtbipbkancghkfaaDoorWb
import Derived.Test.YtbipbkancghkfaaDoorPu
namespace Go.Proofs.YtbipbkancghkfaaDoor
open Go.RowKit
attribute [local go_sem] Oper.semAt_some
/-- The two variables' blocks behind Y; what else is known; what lay from Y + 3 on in V lies as it lay. -/
structure GS (Y : Nat) (V : World) (R : World → Prop) (x y : Nat) (w : World) : Prop where
  k : Blk w (Y + 1) 39 #[.int .u64 (x : Int)]
  c : Blk w (Y + 1 + 1) 3 #[.int .i64 (y : Int)]
  r : R w
  u : Upward (Y + 3) V w
  z : Y + 3 ≤ w.heap.size
section
variable {Y : Nat} {V w w' : World} {R : World → Prop} {x y : Nat}
theorem GS.drew (h : GS Y V R x y w) (hR : ∀ A D, R A → Y + 1 ≤ A.heap.size → Below (Y + 1) A D → R D) : GS Y V R x y w.drew :=
  ⟨h.k.drew, h.c.drew, hR _ _ h.r (by have := h.z; omega) (Below.refl _ _).drew, h.u.trans (Upward.drew _ _), h.z⟩
theorem GS.setK (h : GS Y V R x y w) (hR : ∀ A D, R A → Y + 1 ≤ A.heap.size → Below (Y + 1) A D → R D) (x' : Nat) : GS Y V R x' y (w.setCell ⟨Y + 1, 0, none⟩ (.int .u64 (x' : Int))) :=
  ⟨h.k.set_ 0 _, h.c.far (by simp) _, hR _ _ h.r (by have := h.z; omega) ((Below.refl _ _).setCell (p := ⟨Y + 1, 0, none⟩) (Nat.le_refl _) _), h.u.trans (Upward.setCell _ _ _ (by simp)), Nat.le_trans h.z (KeepsWalks.setCell _ _ _).size⟩
theorem GS.setC (h : GS Y V R x y w) (hR : ∀ A D, R A → Y + 1 ≤ A.heap.size → Below (Y + 1) A D → R D) (y' : Nat) : GS Y V R x y' (w.setCell ⟨Y + 1 + 1, 0, none⟩ (.int .i64 (y' : Int))) :=
  ⟨h.k.far (by simp) _, h.c.set_ 0 _, hR _ _ h.r (by have := h.z; omega) ((Below.refl _ _).setCell (p := ⟨Y + 1 + 1, 0, none⟩) (by simp) _), h.u.trans (Upward.setCell _ _ _ (by simp)), Nat.le_trans h.z (KeepsWalks.setCell _ _ _).size⟩
theorem GS.below {A D : World} (h : GS Y V R x y A) (hR : ∀ A D, R A → Y + 1 ≤ A.heap.size → Below (Y + 1) A D → R D) (hb : Below (Y + 3) A D) : GS Y D R x y D :=
  ⟨h.k.below hb (by omega), h.c.below hb (by omega), hR _ _ h.r (by have := h.z; omega) (hb.mono (by omega)), Upward.refl _ _, Nat.le_trans h.z hb.size⟩
theorem GS.self (h : GS Y V R x y w) : GS Y w R x y w := ⟨h.k, h.c, h.r, Upward.refl _ _, h.z⟩
theorem GS.cast (h : GS Y V R x y w) {x' y' : Nat} (ex : x = x') (ey : y = y') : GS Y V R x' y' w := by subst ex; subst ey; exact h
end
/-- What is captured. -/
structure capR (CapI : World → Prop) (gf : Nat) (lbI : Array Value) (bg bf bt fr to : Nat) (w : World) : Prop where
  i : CapI w
  g : Blk w bg 51 #[.func (.func gf) #[] lbI]
  f : Blk w bf 3 #[.int .i64 (fr : Int)]
  t : Blk w bt 3 #[.int .i64 (to : Int)]
/-- What is known beside the two variables: so many have been handed on. -/
structure RR (J : Nat → World → Prop) (Cap : World → Prop) (Y l k : Nat) (w : World) : Prop where
  j : J k w
  c : Cap w
  y : Blk w Y 60 #[.func (.yield l) #[] #[]]
theorem capR.below {CapI : World → Prop} {gf : Nat} {lbI : Array Value} {bg bf bt fr to : Nat} {W A D : World} {B : Nat} (hst : ∀ W A C B, CapI W → W.heap.size ≤ B → CapI A → Below B A C → CapI C)
    (h : capR CapI gf lbI bg bf bt fr to W) (hB : W.heap.size ≤ B) (hA : capR CapI gf lbI bg bf bt fr to A) (hb : Below B A D) : capR CapI gf lbI bg bf bt fr to D :=
  ⟨hst W A D B h.i hB hA.i hb, hA.g.below hb (by have := h.g.lt; omega), hA.f.below hb (by have := h.f.lt; omega), hA.t.below hb (by have := h.t.lt; omega)⟩
theorem GS.rounded {J : Nat → World → Prop} {Cap : World → Prop} {Y l k x y : Nat} {V w w' : World} (h : GS Y V (RR J Cap Y l k) x y w) (hj : J (k + 1) w') (hc : Cap w') (hu : Upward Y w w') : GS Y V (RR J Cap Y l (k + 1)) x y w' :=
  ⟨hu.obj (by omega) h.k, hu.obj (by omega) h.c, ⟨hj, hc, hu.obj (Nat.le_refl _) h.r.y⟩, h.u.trans (hu.mono (by omega)), Nat.le_trans h.z hu.size⟩
def cnt1 (w : World) (b : Nat) : Nat := match w.cell? ⟨b, 0, none⟩ with | some v => (intOf v).toNat | none => 0
theorem GS.cnt {Y : Nat} {V w : World} {R : World → Prop} {x y : Nat} (h : GS Y V R x y w) : cnt1 w (Y + 1 + 1) = y := by
  unfold cnt1
  rw [h.c.cell 0]
  show (y : Int).toNat = y
  omega
set_option maxHeartbeats 2000000 in
theorem regrouped_gives (CapI : World → Prop) (gf : Nat) (lbI : Array Value) (bg bf bt fr to N : Nat) (G : Nat → Nat)
    (eg : ∀ args w, (callFunc gf args).run Tryd.prog w = .ok (.enter gf args) w) (hI : Gives Tryd.prog gf lbI CapI N (fun i => .int .u64 (G i)))
    (hst : ∀ W A C B, CapI W → W.heap.size ≤ B → CapI A → Below B A C → CapI C)
    (hf : 1 ≤ fr ∧ fr ≤ 8) (ht : 1 ≤ to ∧ to ≤ 8) (hG : ∀ i, i < N → G i < 2 ^ fr) :
    Gives Tryd.prog 39 #[.pointer (some ⟨bg, 0, none⟩), .pointer (some ⟨bf, 0, none⟩), .pointer (some ⟨bt, 0, none⟩)] (capR CapI gf lbI bg bf bt fr to) ((N * fr + to - 1) / to) (fun k => .int .u64 (num (bitG G fr N) (k * to) to)) := by
  intro l J W hcap hJ hY h0
  obtain ⟨T, hT0⟩ : ∃ T, T = (N * fr + to - 1) / to := ⟨_, rfl⟩
  rw [← hT0] at hY ⊢
  have HT0 := Lib.hid hT0
  clear hT0
  refine callsIn_of_wp_marks Tryd.func39 rfl trivial ?_
  simp only [Tryd.ntmps39, List.size_toArray, List.length_cons, List.length_nil, Nat.reduceAdd, Nat.reduceSub, Array.replicate_succ, Array.replicate_zero, List.push_toArray, List.append_toArray, List.nil_append, List.cons_append]
  have hb1 := ((hcap.g.alloc (.cells #[.func (.yield l) #[] #[]] 60)).alloc (.cells #[.int .u64 0] 39)).alloc (.cells #[.int .i64 0] 3)
  have hc1 : (((W.alloc (.cells #[.func (.yield l) #[] #[]] 60)).alloc (.cells #[.int .u64 0] 39)).alloc (.cells #[.int .i64 0] 3)).cell? ⟨bg, 0, none⟩ = some (.func (.func gf) #[] lbI) := hb1.cell 0
  have hR : ∀ k A D, RR J (capR CapI gf lbI bg bf bt fr to) W.heap.size l k A → W.heap.size + 1 ≤ A.heap.size → Below (W.heap.size + 1) A D → RR J (capR CapI gf lbI bg bf bt fr to) W.heap.size l k D := fun k A D h hz hb =>
    ⟨hJ _ _ _ h.j (by omega) (hb.mono (by omega)), hcap.below hst (by omega) h.c hb, h.y.below hb (by omega)⟩
  gi_wp2_with fail
  have bW : Below W.heap.size W (((W.alloc (.cells #[.func (.yield l) #[] #[]] 60)).alloc (.cells #[.int .u64 0] 39)).alloc (.cells #[.int .i64 0] 3)) :=
    (((Below.refl _ W).alloc (Nat.le_refl _) _).alloc (by simp) _).alloc (by simp; omega) _
  have h1 : GS W.heap.size (((W.alloc (.cells #[.func (.yield l) #[] #[]] 60)).alloc (.cells #[.int .u64 0] 39)).alloc (.cells #[.int .i64 0] 3)) (RR J (capR CapI gf lbI bg bf bt fr to) W.heap.size l 0) 0 0 (((W.alloc (.cells #[.func (.yield l) #[] #[]] 60)).alloc (.cells #[.int .u64 0] 39)).alloc (.cells #[.int .i64 0] 3)) :=
    ⟨((Blk.new (W.alloc _) _ _).alloc _).cast' (by simp), (Blk.new ((W.alloc _).alloc _) _ _).cast' (by simp),
      ⟨hJ _ _ _ h0 (Nat.le_refl _) bW, hcap.below hst (Nat.le_refl _) hcap bW, (((Blk.new W _ _).alloc _).alloc _)⟩, Upward.refl _ _, by simp⟩
  have hz1 : (((W.alloc (.cells #[.func (.yield l) #[] #[]] 60)).alloc (.cells #[.int .u64 0] 39)).alloc (.cells #[.int .i64 0] 3)).heap.size = W.heap.size + 3 := by simp
  generalize (((W.alloc (.cells #[.func (.yield l) #[] #[]] 60)).alloc (.cells #[.int .u64 0] 39)).alloc (.cells #[.int .i64 0] 3)) = w1 at bW h1 hz1 hc1 hb1 ⊢
  refine wpIn_range rfl eg hI rfl (fun m A => GS W.heap.size A (RR J (capR CapI gf lbI bg bf bt fr to) W.heap.size l (m * fr / to)) (num (bitG G fr N) (m * fr / to * to) (m * fr % to)) (m * fr % to) A)
    (fun m A D h hz hb => h.below (hR _) (hz1 ▸ hb)) (hst W W w1 _ hcap.i (Nat.le_refl _) hcap.i bW) (fun A D h hb => hst W A D _ hcap.i (by omega) h hb) ?start
    (fun i => { tmps := #[.func (.yield l) #[] #[], .pointer (some ⟨bg, 0, none⟩), .pointer (some ⟨bf, 0, none⟩), .pointer (some ⟨bt, 0, none⟩), .pointer (some ⟨W.heap.size, 0, none⟩), .pointer (some ⟨W.heap.size + 1, 0, none⟩), .pointer (some ⟨W.heap.size + 1 + 1, 0, none⟩), .int .u64 (G i), .func (.func gf) #[] lbI, .int .u64 (G i), undef, undef, undef, undef, undef, undef, undef, undef, undef, undef, undef, undef, undef, undef, undef, undef, undef, undef, undef, undef, undef, undef, undef, undef, undef, undef, undef, undef, undef, undef, undef, undef, undef, undef], defers := [] }) ?assign ?body ?done
  case start =>
    have e1 : 0 * fr / to = 0 := by simp
    have e2 : 0 * fr % to = 0 := by simp
    rw [e1, e2]
    exact h1
  case assign =>
    intro l2 i V K hK
    gi_wp2_with fail
    exact hK
  case body =>
    intro l2 m V hm hi hcI hz
    obtain ⟨k, hk⟩ : ∃ k, k = m * fr / to := ⟨_, rfl⟩
    obtain ⟨y, hy⟩ : ∃ y, y = m * fr % to := ⟨_, rfl⟩
    have hmul : k * to + y = m * fr := by rw [hk, hy, Nat.mul_comm]; exact Nat.div_add_mod _ _
    have hyt : y < to := by rw [hy]; exact Nat.mod_lt _ (by omega)
    rw [← hk, ← hy] at hi
    obtain ⟨g, hg⟩ : ∃ g, g = bitG G fr N := ⟨_, rfl⟩
    have hgm : num g (k * to) (y + fr) = num g (k * to) y * 2 ^ fr + G m := by rw [hg]; exact num_more G fr N m _ _ hm (hG m hm) hmul
    have hGm := hG m hm
    rw [← hg] at hi hY ⊢
    clear hk hy
    apply wpIn_block
    apply wpIn_seq
    refine wpIn_region_anyR (ro := some l2) (Two 8 9 fun f1 f2 wx => GS W.heap.size V (RR J (capR CapI gf lbI bg bf bt fr to) W.heap.size l k) (if f1 then num g (k * to) (y + fr) else num g (k * to) y) (if f2 then y + fr else y) wx) (by kernel_rfl) (by kernel_rfl) (hi.self.drew (hR _)) ?_
    have hx := num_lt g (k * to) y
    have hx2 := num_lt g (k * to) (y + fr)
    have hp1 : 2 ^ y ≤ 2 ^ 7 := Nat.pow_le_pow_right (by decide) (by omega)
    have hp2 : 2 ^ (y + fr) ≤ 2 ^ 15 := Nat.pow_le_pow_right (by decide) (by omega)
    obtain ⟨x, hxe⟩ : ∃ x, x = num g (k * to) y := ⟨_, rfl⟩
    obtain ⟨x2, hx2e⟩ : ∃ x, x = num g (k * to) (y + fr) := ⟨_, rfl⟩
    rw [← hxe] at hx hgm ⊢
    rw [← hx2e] at hx2 hgm ⊢
    obtain ⟨X, hX⟩ : ∃ X, X = x * 2 ^ fr := ⟨_, rfl⟩
    have hsh : IntKind.u64.wrap ((x : Int) * 2 ^ fr) = (X : Int) := by
      rw [show (x : Int) * 2 ^ fr = (X : Int) by rw [hX]; push_cast; rfl]
      exact IntWalk.u64_in _ (by omega)
    have hor : bits .or .u64 (X : Int) (G m : Int) = (x2 : Int) := by
      rw [bits_or_u64_nat _ _ (by omega) (by omega), hgm, hX, ← Nat.shiftLeft_eq, ← Nat.shiftLeft_add_eq_or_of_lt hGm]
    obtain ⟨y2, hy2⟩ : ∃ z, z = y + fr := ⟨_, rfl⟩
    have hadd : IntKind.i64.wrap ((y : Int) + fr) = (y2 : Int) := by rw [IntWalk.i64_in _ (by omega)]; omega
    have HX := Lib.hid hxe
    have HX2 := Lib.hid hx2e
    have HY2 := Lib.hid hy2
    rw [← hy2]
    have HG := Lib.hid hg
    clear hX hxe hx2e hgm hy2 hg
    refine anyR_take (i := 0) (v := ?_) rfl (by kernel_rfl) (by kernel_rfl) (by kernel_rfl) (yr_ahead (n := 9) (by decide) (by decide) (by kernel_rfl) rfl (fun f2 wx hT => ?_)) ?_; rotate_left
    · have c0 : wx.cell? ⟨W.heap.size + 1, 0, none⟩ = some (.int .u64 (x : Int)) := hT.k.cell 0; refine Lands.r (lands_value (w := wx) ?_ hT); go_simp <;> rfl
    simp only [pu]
    refine anyR_take (i := 1) (v := ?_) rfl (by kernel_rfl) (by kernel_rfl) (by kernel_rfl) (yr_other (by decide) (by decide) rfl (fun f1 f2 wx hT => ?_)) ?_; rotate_left
    · have c0 : wx.cell? ⟨bf, 0, none⟩ = some (.int .i64 (fr : Int)) := hT.r.c.f.cell 0; refine Lands.r (lands_value (w := wx) ?_ hT); go_simp <;> rfl
    simp only [pu]
    refine anyR_take (i := 2) (v := ?_) rfl (by kernel_rfl) (by kernel_rfl) (by kernel_rfl) (yr_other (by decide) (by decide) rfl (fun f1 f2 wx hT => ?_)) ?_; rotate_left
    · refine Lands.r (lands_value (w := wx) ?_ hT); go_simp <;> rfl
    simp only [pu]
    refine anyR_take (i := 3) (v := ?_) rfl (by kernel_rfl) (by kernel_rfl) (by kernel_rfl) (yr_other (by decide) (by decide) rfl (fun f1 f2 wx hT => ?_)) ?_; rotate_left
    · refine Lands.r (lands_value (w := wx) ?_ hT); go_simp <;> rfl
    simp only [pu]
    refine anyR_take (i := 4) (v := ?_) rfl (by kernel_rfl) (by kernel_rfl) (by kernel_rfl) (yr_other (by decide) (by decide) rfl (fun f1 f2 wx hT => ?_)) ?_; rotate_left
    · refine Lands.r (lands_value (w := wx) ?_ hT); go_simp <;> rfl
    simp only [pu]
    refine anyR_take (i := 5) (v := ?_) rfl (by kernel_rfl) (by kernel_rfl) (by kernel_rfl) (yr_before (n := 9) (by decide) (by decide) (by kernel_rfl) rfl (fun f1 wx hT => ?_)) ?_; rotate_left
    · have c0 : wx.cell? ⟨W.heap.size + 1 + 1, 0, none⟩ = some (.int .i64 (y : Int)) := hT.c.cell 0; refine Lands.r (lands_value (w := wx) ?_ hT); go_simp <;> rfl
    simp only [pu]
    refine anyR_take (i := 6) (v := ?_) rfl (by kernel_rfl) (by kernel_rfl) (by kernel_rfl) (yr_other (by decide) (by decide) rfl (fun f1 f2 wx hT => ?_)) ?_; rotate_left
    · have c0 : wx.cell? ⟨bf, 0, none⟩ = some (.int .i64 (fr : Int)) := hT.r.c.f.cell 0; refine Lands.r (lands_value (w := wx) ?_ hT); go_simp <;> rfl
    simp only [pu]
    refine anyR_take (i := 7) (v := ?_) rfl (by kernel_rfl) (by kernel_rfl) (by kernel_rfl) (yr_other (by decide) (by decide) rfl (fun f1 f2 wx hT => ?_)) ?_; rotate_left
    · refine Lands.r (lands_value (w := wx) ?_ hT); go_simp <;> rfl
    simp only [pu]
    refine anyR_take (i := 8) (v := undef) rfl (by kernel_rfl) (by kernel_rfl) (by kernel_rfl) (yr_first (by decide) rfl (fun f2 wx hT => ?_)) ?_
    · have c0 := hT.k.cell 0; have c1 := hT.k.frozen 0; have K := hT.setK (hR _) x2; go_simp; exact ⟨rfl, K⟩
    simp only [Act.put]
    refine anyR_take (i := 9) (v := undef) rfl (by kernel_rfl) (by kernel_rfl) (by kernel_rfl) (yr_second (by decide) rfl (fun f1 wx hT => ?_)) ?_
    · have c0 := hT.c.cell 0; have c1 := hT.c.frozen 0; have K := hT.setC (hR _) y2; go_simp; exact ⟨rfl, K⟩
    simp only [Act.put]
    refine anyR_done (by kernel_rfl) (fun w3 hw3 => ?_) _
    replace hw3 : GS W.heap.size V (RR J (capR CapI gf lbI bg bf bt fr to) W.heap.size l k) x2 y2 w3 := hw3
    gi_wp2_with fail
    have he2 : k * to + y2 = (m + 1) * fr := by rw [HY2.out, ← Nat.add_assoc, hmul, Nat.succ_mul]
    have hw3' : ∃ k c, GS W.heap.size V (RR J (capR CapI gf lbI bg bf bt fr to) W.heap.size l k) (num g (k * to) c) c w3 ∧ k * to + c = (m + 1) * fr ∧ c ≤ 15 :=
      ⟨k, y2, hw3.cast (by rw [HX2.out, HY2.out]) rfl, he2, by have := HY2.out; omega⟩
    have hmN : (m + 1) * fr ≤ N * fr := Nat.mul_le_mul_right _ hm
    clear hw3 HX HX2 HY2 he2 hmul hGm hi hcI hx hx2 hp1 hp2 hsh hor hadd hyt
    gi_loopw [] (fun wr => ∃ k c, GS W.heap.size V (RR J (capR CapI gf lbI bg bf bt fr to) W.heap.size l k) (num g (k * to) c) c wr ∧ k * to + c = (m + 1) * fr ∧ c ≤ 15) (fun wr => cnt1 wr (W.heap.size + 1 + 1))
    case atStart => exact hw3'
    case round =>
      clear hw3'
      obtain ⟨k, c, hi, hkc, hc⟩ := hrel
      have q1 : wr.cell? ⟨W.heap.size + 1 + 1, 0, none⟩ = some (.int .i64 (c : Int)) := hi.c.cell 0
      have q2 : wr.cell? ⟨bt, 0, none⟩ = some (.int .i64 (to : Int)) := hi.r.c.t.cell 0
      have hcn := hi.cnt
      by_cases hlt : c < to
      · have hlti : ¬ (c : Int) ≥ to := by omega
        gi_wp2_with fail
        have e1 : (m + 1) * fr / to = k := by rw [← hkc, Nat.mul_comm, Nat.mul_add_div (by omega), Nat.div_eq_of_lt hlt, Nat.add_zero]
        have e2 : (m + 1) * fr % to = c := by rw [← hkc, Nat.mul_comm, Nat.mul_add_mod, Nat.mod_eq_of_lt hlt]
        refine ⟨?_, hi.r.c.i, hi.u.mono (by omega)⟩
        dsimp only
        rw [e1, e2]
        exact hi.self
      · have hlti : (c : Int) ≥ to := by omega
        have q3 := hi.c.frozen 0
        obtain ⟨d, hd⟩ : ∃ d, d = c - to := ⟨_, rfl⟩
        have hsub : IntKind.i64.wrap ((c : Int) - to) = (d : Int) := by rw [IntWalk.i64_in _ (by omega)]; omega
        have hcd : c = to + d := by omega
        have HD := Lib.hid hcd
        clear hd
        have hX : num g (k * to) c / 2 ^ d = num g (k * to) to := by rw [hcd]; exact num_div g _ to d
        have hX2 : num g (k * to) c % 2 ^ d = num g ((k + 1) * to) d := by rw [hcd, num_mod, Nat.succ_mul]
        have hxl := num_lt g (k * to) c
        have hp1 : 2 ^ c ≤ 2 ^ 15 := Nat.pow_le_pow_right (by decide) (by omega)
        have hp2 : 2 ^ d ≤ 2 ^ 15 := Nat.pow_le_pow_right (by decide) (by omega)
        have hp3 := Nat.two_pow_pos d
        have hkt : k < T := by
          rw [HT0.out]
          refine (Nat.lt_div_iff_mul_lt (by omega)).2 ?_
          rw [hcd] at hkc
          omega
        have hd15 : d ≤ 15 := by omega
        clear hcd
        gi_wp2_with fail
        have h4 := (hi.setC (hR _) d).self.u
        replace h4 := hi.setC (hR _) d
        clear hi q1 q2 q3
        generalize wr.setCell ⟨W.heap.size + 1 + 1, 0, none⟩ (.int .i64 (d : Int)) = w4 at h4 ⊢
        obtain ⟨x, hx⟩ : ∃ x, x = num g (k * to) c := ⟨_, rfl⟩
        rw [← hx] at h4 hX hX2 hxl
        obtain ⟨z, hz0⟩ : ∃ z, z = num g (k * to) to := ⟨_, rfl⟩
        have hY2 := hY k
        rw [← hz0] at hX hY2
        have hsh : (x : Int) / 2 ^ d = (z : Int) := by rw [← hX, Int.natCast_ediv, Int.natCast_pow]; rfl
        have HX := Lib.hid hx
        have hx16 : x < 32768 := by omega
        clear hX hx hz0 hxl
        refine wpIn_region_anyR (ro := some l2) (Two 4 1000 fun f1 _ wx => GS W.heap.size V (RR J (capR CapI gf lbI bg bf bt fr to) W.heap.size l (if f1 then k + 1 else k)) x d wx) (by kernel_rfl) (by kernel_rfl) (h4.drew (hR _)) ?_
        refine anyR_take (i := 0) (v := ?_) rfl (by kernel_rfl) (by kernel_rfl) (by kernel_rfl) (yr_other (by decide) (by decide) rfl (fun f1 f2 wx hT => ?_)) ?_; rotate_left
        · have c0 : wx.cell? ⟨W.heap.size, 0, none⟩ = some (.func (.yield l) #[] #[]) := hT.r.y.cell 0; refine Lands.r (lands_value (w := wx) ?_ hT); go_simp <;> rfl
        simp only [pu]
        refine anyR_take (i := 1) (v := ?_) rfl (by kernel_rfl) (by kernel_rfl) (by kernel_rfl) (yr_other (by decide) (by decide) rfl (fun f1 f2 wx hT => ?_)) ?_; rotate_left
        · have c0 : wx.cell? ⟨W.heap.size + 1, 0, none⟩ = some (.int .u64 (x : Int)) := hT.k.cell 0; refine Lands.r (lands_value (w := wx) ?_ hT); go_simp <;> rfl
        simp only [pu]
        refine anyR_take (i := 2) (v := ?_) rfl (by kernel_rfl) (by kernel_rfl) (by kernel_rfl) (yr_other (by decide) (by decide) rfl (fun f1 f2 wx hT => ?_)) ?_; rotate_left
        · have c0 : wx.cell? ⟨W.heap.size + 1 + 1, 0, none⟩ = some (.int .i64 (d : Int)) := hT.c.cell 0; refine Lands.r (lands_value (w := wx) ?_ hT); go_simp <;> rfl
        simp only [pu]
        refine anyR_take (i := 3) (v := ?_) rfl (by kernel_rfl) (by kernel_rfl) (by kernel_rfl) (yr_other (by decide) (by decide) rfl (fun f1 f2 wx hT => ?_)) ?_; rotate_left
        · refine Lands.r (lands_value (w := wx) ?_ hT); go_simp <;> rfl
        simp only [pu]
        refine anyR_take (i := 4) (v := .bool true) rfl (by kernel_rfl) (by kernel_rfl) (by kernel_rfl) (yr_first (by decide) rfl (fun f2 wx hT => ?_)) ?_
        · obtain ⟨fn, tm, ag, bd, hy, hr⟩ := hY2 wx hkt hT.r.j hT.r.c (by have := hT.z; omega); exact landsr_round (hr.mono fun e w' ⟨he, hj, hc, hu⟩ => ⟨he, GS.rounded hT hj hc hu⟩) (by go_simp)
        simp only [pu]
        refine anyR_take (i := 5) (v := ?_) rfl (by kernel_rfl) (by kernel_rfl) (by kernel_rfl) (yr_other (by decide) (by decide) rfl (fun f1 f2 wx hT => ?_)) ?_; rotate_left
        · refine Lands.r (lands_value (w := wx) ?_ hT); go_simp <;> rfl
        simp only [pu]
        refine anyR_done (by kernel_rfl) (fun w5 h5 => ?_) _
        replace h5 : GS W.heap.size V (RR J (capR CapI gf lbI bg bf bt fr to) W.heap.size l (k + 1)) x d w5 := h5
        clear h4 hY2 hsh
        obtain ⟨x', hx'⟩ : ∃ x', x' = num g ((k + 1) * to) d := ⟨_, rfl⟩
        rw [← hx'] at hX2
        obtain ⟨p, hp⟩ : ∃ p, p = 2 ^ d := ⟨_, rfl⟩
        have hp15 : p ≤ 32768 := by omega
        have hp0 : 0 < p := by omega
        have hsh : IntKind.u64.wrap ((2 : Int) ^ d) = (p : Int) := by
          rw [show (2 : Int) ^ d = (p : Int) by rw [hp]; push_cast; rfl]
          exact IntWalk.u64_in _ (by omega)
        obtain ⟨p1, hp1e⟩ : ∃ p1, p1 = p - 1 := ⟨_, rfl⟩
        have hs1 : IntKind.u64.wrap ((p : Int) - 1) = (p1 : Int) := by rw [IntWalk.u64_in _ (by omega)]; omega
        have hand : bits .and .u64 (x : Int) (p1 : Int) = (x' : Int) := by
          rw [bits_and_u64_nat _ _ (by omega) (by omega), hp1e, hp, Nat.and_two_pow_sub_one_eq_mod, hX2]
        have HX' := Lib.hid hx'
        clear hX2 hx' hp hp1e hp2 hp3
        gi_wp2_with fail
        refine wpIn_region_anyR (ro := some l2) (Two 5 1000 fun f1 _ wx => GS W.heap.size V (RR J (capR CapI gf lbI bg bf bt fr to) W.heap.size l (k + 1)) (if f1 then x' else x) d wx) (by kernel_rfl) (by kernel_rfl) (h5.drew (hR _)) ?_
        refine anyR_take (i := 0) (v := ?_) rfl (by kernel_rfl) (by kernel_rfl) (by kernel_rfl) (yr_ahead (n := 9) (by decide) (by decide) (by kernel_rfl) rfl (fun f2 wx hT => ?_)) ?_; rotate_left
        · have c0 : wx.cell? ⟨W.heap.size + 1, 0, none⟩ = some (.int .u64 (x : Int)) := hT.k.cell 0; refine Lands.r (lands_value (w := wx) ?_ hT); go_simp <;> rfl
        simp only [pu]
        refine anyR_take (i := 1) (v := ?_) rfl (by kernel_rfl) (by kernel_rfl) (by kernel_rfl) (yr_other (by decide) (by decide) rfl (fun f1 f2 wx hT => ?_)) ?_; rotate_left
        · have c0 : wx.cell? ⟨W.heap.size + 1 + 1, 0, none⟩ = some (.int .i64 (d : Int)) := hT.c.cell 0; refine Lands.r (lands_value (w := wx) ?_ hT); go_simp <;> rfl
        simp only [pu]
        refine anyR_take (i := 2) (v := ?_) rfl (by kernel_rfl) (by kernel_rfl) (by kernel_rfl) (yr_other (by decide) (by decide) rfl (fun f1 f2 wx hT => ?_)) ?_; rotate_left
        · refine Lands.r (lands_value (w := wx) ?_ hT); go_simp <;> rfl
        simp only [pu]
        refine anyR_take (i := 3) (v := ?_) rfl (by kernel_rfl) (by kernel_rfl) (by kernel_rfl) (yr_other (by decide) (by decide) rfl (fun f1 f2 wx hT => ?_)) ?_; rotate_left
        · refine Lands.r (lands_value (w := wx) ?_ hT); go_simp <;> rfl
        simp only [pu]
        refine anyR_take (i := 4) (v := ?_) rfl (by kernel_rfl) (by kernel_rfl) (by kernel_rfl) (yr_other (by decide) (by decide) rfl (fun f1 f2 wx hT => ?_)) ?_; rotate_left
        · refine Lands.r (lands_value (w := wx) ?_ hT); go_simp <;> rfl
        simp only [pu]
        refine anyR_take (i := 5) (v := undef) rfl (by kernel_rfl) (by kernel_rfl) (by kernel_rfl) (yr_first (by decide) rfl (fun f2 wx hT => ?_)) ?_
        · have c0 := hT.k.cell 0; have c1 := hT.k.frozen 0; have K := hT.setK (hR _) x'; go_simp; exact ⟨rfl, K⟩
        simp only [Act.put]
        refine anyR_done (by kernel_rfl) (fun w6 h6 => ?_) _
        replace h6 : GS W.heap.size V (RR J (capR CapI gf lbI bg bf bt fr to) W.heap.size l (k + 1)) x' d w6 := h6
        clear h5
        gi_wp2_with fail
        go_roundw
        case rel => exact ⟨k + 1, d, h6.cast HX'.out rfl, by rw [Nat.succ_mul, Nat.add_assoc, ← HD.out]; exact hkc, hd15⟩
        case measure => have := HD.out; rw [h6.cnt, hcn]; omega
  case done =>
    intro D V hD hi hcI hK
    obtain ⟨k, hk⟩ : ∃ k, k = N * fr / to := ⟨_, rfl⟩
    obtain ⟨c, hc⟩ : ∃ c, c = N * fr % to := ⟨_, rfl⟩
    have hmul : k * to + c = N * fr := by rw [hk, hc, Nat.mul_comm]; exact Nat.div_add_mod _ _
    have hct : c < to := by rw [hc]; exact Nat.mod_lt _ (by omega)
    rw [← hk, ← hc] at hi
    clear hk hc
    have q1 : V.cell? ⟨W.heap.size + 1 + 1, 0, none⟩ = some (.int .i64 (c : Int)) := hi.c.cell 0
    by_cases h0c : c = 0
    · have hci : ¬ (c : Int) > 0 := by omega
      have hT : T = k := by
        rw [HT0.out, ← hmul, h0c, Nat.add_zero, show k * to + to - 1 = to * k + (to - 1) by rw [Nat.mul_comm]; omega, Nat.mul_add_div (by omega), Nat.div_eq_of_lt (by omega), Nat.add_zero]
      have bD : Below W.heap.size V (V.putObj D (.deferred none)) := below_putObj _ hK (by omega)
      have HT := Lib.hid hT
      clear hY h0c hT
      gi_wp2_with fail
      refine ⟨by simp, .inl ⟨_, _, rfl, run_takeDeferred hK, ?_⟩⟩
      exact ⟨_, results_none rfl _ _ _, ⟨_, rfl⟩, HT.out ▸ hJ _ _ _ hi.r.j (by have := hi.z; omega) bD, hcap.below hst (Nat.le_refl _) hi.r.c bD, Nat.le_trans (by have := hi.z; omega) bD.size⟩
    · have hci : (c : Int) > 0 := by omega
      have hT : T = k + 1 := by
        rw [HT0.out, ← hmul, show k * to + c + to - 1 = to * (k + 1) + (c - 1) by rw [Nat.mul_add, Nat.mul_comm]; omega, Nat.mul_add_div (by omega), Nat.div_eq_of_lt (by omega), Nat.add_zero]
      obtain ⟨d, hd⟩ : ∃ d, d = to - c := ⟨_, rfl⟩
      have hsub : IntKind.i64.wrap ((to : Int) - c) = (d : Int) := by rw [IntWalk.i64_in _ (by omega)]; omega
      obtain ⟨z, hz0⟩ : ∃ z, z = num (bitG G fr N) (k * to) to := ⟨_, rfl⟩
      have hY2 := hY k
      have HT := Lib.hid hT
      have hkT : k < T := by omega
      have hd8 : d ≤ 8 := by omega
      clear hT
      rw [← hz0] at hY2
      have hzx : z = num (bitG G fr N) (k * to) c * 2 ^ d := by
        rw [hz0, ← num_fill G fr N (k * to) c d (by omega) (by omega), show c + d = to by omega]
      have hxl := num_lt (bitG G fr N) (k * to) c
      have hzl := num_lt (bitG G fr N) (k * to) to
      have hp2 : 2 ^ to ≤ 2 ^ 8 := Nat.pow_le_pow_right (by decide) (by omega)
      rw [← hz0] at hzl
      generalize num (bitG G fr N) (k * to) c = x at *
      have hsh : IntKind.u64.wrap ((x : Int) * 2 ^ d) = (z : Int) := by
        rw [show (x : Int) * 2 ^ d = (z : Int) by rw [hzx]; push_cast; rfl]
        exact IntWalk.u64_in _ (by omega)
      clear hzx hz0 hd hY hxl hmul
      gi_wp2_with fail
      refine wpIn_region_anyR (ro := none) (Two 6 1000 fun f1 _ wx => GS W.heap.size V (RR J (capR CapI gf lbI bg bf bt fr to) W.heap.size l (if f1 then k + 1 else k)) x c wx) (by kernel_rfl) (by kernel_rfl) (hi.self.drew (hR _)) ?_
      refine anyR_take (i := 0) (v := ?_) rfl (by kernel_rfl) (by kernel_rfl) (by kernel_rfl) (yr_other (by decide) (by decide) rfl (fun f1 f2 wx hT => ?_)) ?_; rotate_left
      · have c0 : wx.cell? ⟨W.heap.size, 0, none⟩ = some (.func (.yield l) #[] #[]) := hT.r.y.cell 0; refine Lands.r (lands_value (w := wx) ?_ hT); go_simp <;> rfl
      simp only [pu]
      refine anyR_take (i := 1) (v := ?_) rfl (by kernel_rfl) (by kernel_rfl) (by kernel_rfl) (yr_other (by decide) (by decide) rfl (fun f1 f2 wx hT => ?_)) ?_; rotate_left
      · have c0 : wx.cell? ⟨W.heap.size + 1, 0, none⟩ = some (.int .u64 (x : Int)) := hT.k.cell 0; refine Lands.r (lands_value (w := wx) ?_ hT); go_simp <;> rfl
      simp only [pu]
      refine anyR_take (i := 2) (v := ?_) rfl (by kernel_rfl) (by kernel_rfl) (by kernel_rfl) (yr_other (by decide) (by decide) rfl (fun f1 f2 wx hT => ?_)) ?_; rotate_left
      · have c0 : wx.cell? ⟨bt, 0, none⟩ = some (.int .i64 (to : Int)) := hT.r.c.t.cell 0; refine Lands.r (lands_value (w := wx) ?_ hT); go_simp <;> rfl
      simp only [pu]
      refine anyR_take (i := 3) (v := ?_) rfl (by kernel_rfl) (by kernel_rfl) (by kernel_rfl) (yr_other (by decide) (by decide) rfl (fun f1 f2 wx hT => ?_)) ?_; rotate_left
      · have c0 : wx.cell? ⟨W.heap.size + 1 + 1, 0, none⟩ = some (.int .i64 (c : Int)) := hT.c.cell 0; refine Lands.r (lands_value (w := wx) ?_ hT); go_simp <;> rfl
      simp only [pu]
      refine anyR_take (i := 4) (v := ?_) rfl (by kernel_rfl) (by kernel_rfl) (by kernel_rfl) (yr_other (by decide) (by decide) rfl (fun f1 f2 wx hT => ?_)) ?_; rotate_left
      · refine Lands.r (lands_value (w := wx) ?_ hT); go_simp <;> rfl
      simp only [pu]
      refine anyR_take (i := 5) (v := ?_) rfl (by kernel_rfl) (by kernel_rfl) (by kernel_rfl) (yr_other (by decide) (by decide) rfl (fun f1 f2 wx hT => ?_)) ?_; rotate_left
      · refine Lands.r (lands_value (w := wx) ?_ hT); go_simp <;> rfl
      simp only [pu]
      refine anyR_take (i := 6) (v := .bool true) rfl (by kernel_rfl) (by kernel_rfl) (by kernel_rfl) (yr_first (by decide) rfl (fun f2 wx hT => ?_)) ?_
      · obtain ⟨fn, tm, ag, bd, hy, hr⟩ := hY2 wx hkT hT.r.j hT.r.c (by have := hT.z; omega); exact landsr_round (hr.mono fun e w' ⟨he, hj, hc, hu⟩ => ⟨he, GS.rounded hT hj hc hu⟩) (by go_simp)
      simp only [pu]
      refine anyR_done (by kernel_rfl) (fun w6 h6 => ?_) _
      replace h6 : GS W.heap.size V (RR J (capR CapI gf lbI bg bf bt fr to) W.heap.size l (k + 1)) x c w6 := h6
      have hK6 := h6.u.obj (by omega) hK
      have bD : Below W.heap.size w6 (w6.putObj D (.deferred none)) := below_putObj _ hK6 (by omega)
      gi_wp2_with fail
      refine ⟨by simp, .inl ⟨_, _, rfl, run_takeDeferred hK6, ?_⟩⟩
      exact ⟨_, results_none rfl _ _ _, ⟨_, rfl⟩, HT.out ▸ hJ _ _ _ h6.r.j (by have := h6.z; omega) bD, hcap.below hst (Nat.le_refl _) h6.r.c bD, Nat.le_trans (by have := h6.z; omega) bD.size⟩
end Go.Proofs.YtbipbkancghkfaaDoor
