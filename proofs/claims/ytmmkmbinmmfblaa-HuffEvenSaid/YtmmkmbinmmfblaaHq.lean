/- lengths of the reference of chapter 9: the walk. -/
import Derived.Test.YtmmkmbinmmfblaaHr
import Derived.Test.YtmmkmbinmmfblaaMC
import Derived.Test.YtmmkmbinmmfblaaMA
namespace Go.Proofs.Ytmmkmbinmmfblaa
open Go.RowKit
/-- The most that any of the first m was. -/
def mxN (F : Nat → Nat) : Nat → Nat
  | 0 => 0
  | m + 1 => max (mxN F m) (F m)
structure LW (n g : Nat) (w : World) (l : List Ny) (F : Nat → Nat) (v : Value) (wr : World) : Prop where
  on : ON w.heap.size w (nxs l) v wr
  rl : ∀ x ∈ l, RL wr x.2.1 x.2.2 ∧ x.2.1.ownBlock ≠ some g
  o : Blk wr g 3 (rI n fun i => (F i : Int))
  gl : w.heap.size ≤ g
theorem LW.below {n g : Nat} {w w1 w2 : World} {l : List Ny} {F : Nat → Nat} {v : Value} (h : LW n g w l F v w1) (hb : Below w1.heap.size w1 w2) : LW n g w l F v w2 :=
  ⟨h.on.below hb, fun x hx => ⟨(h.rl x hx).1.below hb, (h.rl x hx).2⟩, h.o.below hb h.o.lt, h.gl⟩
theorem RL.form {w : World} {v : Value} {L : List Nat} (h : RL w v L) : ∃ p c, v = .slice p L.length c := by
  rcases h.2 with ⟨rfl, h2⟩ | ⟨g, cap, cur, rfl, _⟩
  · exact ⟨none, 0, by rw [h2]⟩
  · exact ⟨_, _, rfl⟩
theorem ON.up {B : Nat} {w0 w1 w : World} {l : List Nx} {v : Value} (h : ON w1.heap.size w1 l v w) (hb : Below B w0 w1) (hB : B ≤ w1.heap.size) : ON B w0 l v w := by
  refine ⟨⟨h.own.1, ?_⟩, hb.trans (h.b.mono hB), Nat.le_trans hB h.lo⟩
  rcases h.own.2 with h1 | ⟨g, cap, cur, h1, h2, h3⟩
  · exact .inl h1
  · exact .inr ⟨g, cap, cur, h1, Nat.le_trans hB h2, h3⟩
theorem mem_erase {α : Type} {l : List α} {i : Nat} {x : α} (h : x ∈ l.eraseIdx i) : x ∈ l := by
  rw [List.eraseIdx_eq_take_drop_succ] at h
  rcases List.mem_append.1 h with h | h
  · exact List.mem_of_mem_take h
  · exact List.mem_of_mem_drop h
theorem okK_tail {x : Kd} {l : List Kd} {n : Nat} (h : okK (x :: l) n) : okK l n :=
  ⟨(List.nodup_cons.1 (by simpa only [List.map_cons] using h.1)).2, fun y hy => h.2 y (List.mem_cons_of_mem _ hy)⟩
/-- A node less, of the list. -/
theorem LW.without {n g : Nat} {w w1 w2 : World} {l : List Ny} {F : Nat → Nat} {v v' : Value} {i : Nat} (h : LW n g w l F v w1) (hN : ON w1.heap.size w1 ((nxs l).eraseIdx i) v' w2) : LW n g w (l.eraseIdx i) F v' w2 :=
  ⟨by rw [nxs_erase]; exact hN.up h.on.b h.on.lo, fun x hx => ⟨(h.rl x (mem_erase hx)).1.below hN.b, (h.rl x (mem_erase hx)).2⟩, h.o.below hN.b h.o.lt, h.gl⟩
theorem mxN_zero (m : Nat) : mxN (fun _ => 0) m = 0 := by
  induction m with
  | zero => rfl
  | succ m ih => show max (mxN _ m) 0 = 0; rw [ih]; rfl
theorem mxN_depM {c F : Nat → Nat} {n m : Nat} (h : ∀ s, s < m → F s = if 0 < c s then dep c n s else 0) : mxN F m = depM c n m := by
  induction m with
  | zero => rfl
  | succ m ih => show max _ _ = max _ _; rw [ih fun s hs => h s (by omega), h m (by omega)]
theorem LP.done {c : Nat → Nat} {n nx : Nat} {l : List Ny} {F : Nat → Nat} (h : LP c n l nx F) (hl : l.length ≤ 1) : ∀ s, s < n → F s = if c s = 0 then 0 else dep c n s := fun s hs => by
  by_cases h0 : c s = 0
  · rw [if_pos h0, h.z s h0]
  · rw [if_neg h0]
    obtain ⟨x, hx, hsx⟩ := h.cov s hs (by omega)
    have := h.fd x hx s hsx
    rw [hD_one (by rw [kys_len]; exact hl)] at this
    omega
theorem LP.two {c : Nat → Nat} {n nx : Nat} {l r : List Ny} {F : Nat → Nat} {a b : Ny} (h : LP c n l nx F) (hp : l.Perm (a :: b :: r)) : a.2.2.length + b.2.2.length ≤ n := by
  have nd2 : ((a :: b :: r).flatMap (·.2.2)).Nodup := (hp.flatMap_right _).nodup_iff.1 h.nd
  have nd3 : ((a.2.2 ++ b.2.2) ++ r.flatMap (·.2.2)).Nodup := by simpa [List.append_assoc] using nd2
  have nd4 := (List.nodup_append.1 nd3).1
  have hs : ∀ s ∈ a.2.2 ++ b.2.2, s ∈ List.range n := fun s hs => by
    rcases List.mem_append.1 hs with h1 | h1
    · exact List.mem_range.2 (h.lt a (hp.mem_iff.2 (List.mem_cons_self ..)) s h1).1
    · exact List.mem_range.2 (h.lt b (hp.mem_iff.2 (List.mem_cons_of_mem _ (List.mem_cons_self ..))) s h1).1
  have h5 := List.Nodup.length_le_of_subset nd4 hs
  rw [List.length_range, List.length_append] at h5
  exact h5
theorem own_far {w : World} {B e size n : Nat} {v : Value} {xs : List Value} {g : Nat} (h : w.ownsRow B e size v n xs) (hg : v.ownBlock ≠ some g) (s : Nat) (u : Value) : (w.setCell ⟨g, s, none⟩ u).ownsRow B e size v n xs := by
  refine ⟨h.1, ?_⟩
  rcases h.2 with h1 | ⟨q, cap, cur, h1, h2, h3, h4⟩
  · exact .inl h1
  · refine .inr ⟨q, cap, cur, h1, h2, ?_, h4⟩
    rw [Below.heap_setCell w ⟨g, s, none⟩ u q (fun e => hg (by rw [h1]; exact congrArg some e))]
    exact h3
/-- While symbols are counted. -/
structure CLW (n g : Nat) (w : World) (l : List Ny) (F : Nat → Nat) (v vB : Value) (M : List Nat) (ba bb : Nat) (Ca Cb : Array Value) (wr : World) : Prop where
  lw : LW n g w l F v wr
  rb : RL wr vB M
  b1 : Blk wr ba 82 Ca
  b2 : Blk wr bb 82 Cb
theorem blk_types {w : World} {g q : Nat} {Cs Ds : Array Value} (h : Blk w g 3 Cs) (h2 : Blk w q 82 Ds) : q ≠ g := fun e => by
  subst e
  unfold Blk at h h2
  rw [h] at h2
  simp only [Option.some.injEq, Obj.cells.injEq] at h2
  exact int_node h2.2.1
theorem CLW.put {n g : Nat} {w wr : World} {l : List Ny} {F G : Nat → Nat} {v vB : Value} {M : List Nat} {ba bb : Nat} {Ca Cb : Array Value} (h : CLW n g w l F v vB M ba bb Ca Cb wr) (hB : vB.ownBlock ≠ some g) {s : Nat} (hs : s < n)
    (hG : ∀ j, (if j = s then F s + 1 else F j) = G j) : CLW n g w l G v vB M ba bb Ca Cb (wr.setCell ⟨g, s, none⟩ (.int .i64 ((F s + 1 : Nat) : Int))) := by
  have hv : v.ownBlock ≠ some g := fun e => by
    obtain ⟨cur, h1⟩ := h.lw.on.type e
    exact blk_types h.lw.o h1 rfl
  refine ⟨⟨⟨own_far h.lw.on.own hv s _, h.lw.on.b.setCell h.lw.gl _, ?_⟩, fun x hx => ⟨own_far (h.lw.rl x hx).1 (h.lw.rl x hx).2 s _, (h.lw.rl x hx).2⟩, ?_, h.lw.gl⟩, own_far h.rb hB s _, h.b1.far (blk_types h.lw.o h.b1) _, h.b2.far (blk_types h.lw.o h.b2) _⟩
  · simp [World.setCell]; exact h.lw.on.lo
  · refine (h.lw.o.put hs _).cast_ (row_ext fun i _ => ?_)
    show (if i = s then Value.int .i64 ((F s + 1 : Nat) : Int) else Value.int .i64 ((F i : Nat) : Int)) = Value.int .i64 ((G i : Nat) : Int)
    rw [← hG i]
    split <;> rfl
theorem mxN_put {H G : Nat → Nat} {s m : Nat} (hG : ∀ j, (if j = s then H s + 1 else H j) = G j) (hs : s < m) : mxN G m = max (mxN H m) (H s + 1) := by
  have lo : ∀ i, i ≤ s → mxN G i = mxN H i := fun i => by
    induction i with
    | zero => intro _; rfl
    | succ i ih => intro hi; show max _ _ = max _ _; rw [ih (by omega), ← hG i, if_neg (by omega)]
  induction m with
  | zero => omega
  | succ m ih =>
    show max _ _ = max (max _ _) _
    by_cases h : m = s
    · subst h
      rw [lo m (Nat.le_refl _), ← hG m, if_pos rfl]
      omega
    · rw [ih (by omega), ← hG m, if_neg h]
      omega
theorem addH_zero (F : Nat → Nat) (M : List Nat) : addH F (M.take 0) = F := funext fun s => by unfold addH; rw [if_neg (by simp)]
theorem addH_next (F : Nat → Nat) (M : List Nat) (hM : M.Nodup) (t : Nat) (ht : t < M.length) : ∀ j, (if j = M[t] then addH F (M.take t) M[t] + 1 else addH F (M.take t) j) = addH F (M.take (t + 1)) j := fun j => by
  have e : M.take (t + 1) = M.take t ++ [M[t]] := by rw [List.take_succ_eq_append_getElem ht]
  have hn : M[t] ∉ M.take t := fun hm => by
    have h1 : (M.take (t + 1)).Nodup := hM.sublist (List.take_sublist _ _)
    rw [e] at h1
    exact (List.nodup_append.1 h1).2.2 _ hm _ (List.mem_singleton.2 rfl) rfl
  rw [e]
  unfold addH
  by_cases h : j = M[t]
  · subst h
    rw [if_pos rfl, if_neg hn, if_pos (List.mem_append.2 (.inr (List.mem_singleton.2 rfl)))]
  · rw [if_neg h]
    by_cases h2 : j ∈ M.take t
    · rw [if_pos h2, if_pos (List.mem_append.2 (.inl h2))]
    · rw [if_neg h2, if_neg]
      intro h3
      rcases List.mem_append.1 h3 with h4 | h4
      · exact h2 h4
      · exact h (List.mem_singleton.1 h4)
theorem addH_at (F : Nat → Nat) (M : List Nat) (hM : M.Nodup) (t : Nat) (ht : t < M.length) : addH F (M.take t) M[t] = F M[t] := by
  have e : M.take (t + 1) = M.take t ++ [M[t]] := by rw [List.take_succ_eq_append_getElem ht]
  have h1 : (M.take (t + 1)).Nodup := hM.sublist (List.take_sublist _ _)
  rw [e] at h1
  unfold addH
  rw [if_neg fun hm => (List.nodup_append.1 h1).2.2 _ hm _ (List.mem_singleton.2 rfl) rfl]
theorem lands_max2 {o : Oper} {a : Act} {w : World} (x y : Operand) (n m r : Nat) (hr : r = max n m) (ho : o.op = .call { callee := .builtin .max, args := #[x, y], argTypes := #[3, 3] }) (ht : o.type = 3) (hx : a.eval x = .int .i64 (n : Int)) (hy : a.eval y = .int .i64 (m : Int)) :
    Lands Try.prog (fun w' => w' = w) (.int .i64 (r : Int)) ((execOp a.eval o).run Try.prog w) := by
  refine lands_value (w := w) ?_ rfl
  simp [execOp, ho, ht, hx, hy, resolve, invoke, builtin]
  have e : ∀ at_ ty, (Builtin.max_ at_ ty #[Value.int .i64 (n : Int), .int .i64 (m : Int)]).run Try.prog w = .ok (.int .i64 (r : Int)) w := fun at_ ty => by
    simp only [Builtin.max_, Builtin.max2, List.foldlM, Sem.run_bind, Sem.run_pure, Result.andThen]
    subst hr
    congr 2
    split <;> omega
  rw [e]
  rfl
theorem LP.pair {c : Nat → Nat} {n nx : Nat} {l r : List Ny} {F : Nat → Nat} {a b : Ny} (h : LP c n l nx F) (hp : l.Perm (a :: b :: r)) : a.1.1 + b.1.1 ≤ n * 1099511627776 := by
  have h1 := h.wt
  have hk : (kys l).Perm (a.1 :: b.1 :: kys r) := hp.map _
  rw [sumW_perm hk] at h1
  have h2 : sumW (a.1 :: b.1 :: kys r) = a.1.1 + (b.1.1 + sumW (kys r)) := rfl
  generalize n * 1099511627776 = K at *
  omega
theorem PN.form {B : Nat} {w0 w : World} {l : List Ny} {v : Value} (h : PN B w0 l v w) : ∃ p c, v = .slice p l.length c := by
  rcases h.on.own.2 with ⟨h1, h2⟩ | ⟨gl, cap, cur, h1, _⟩
  · exact ⟨none, 0, by rw [nxs_len] at h2; rw [h2]; exact h1⟩
  · exact ⟨_, _, by rw [nxs_len] at h1; exact h1⟩
def lenVN : Value → Nat
  | .slice _ n _ => n
  | _ => 0
theorem sumW_app (a b : List Kd) : sumW (a ++ b) = sumW a + sumW b := by
  induction a with
  | nil => exact (Nat.zero_add _).symm
  | cons x a ih => show x.1 + sumW (a ++ b) = x.1 + sumW a + sumW b; rw [ih, Nat.add_assoc]
theorem sumW_nds (c : Nat → Nat) (n K : Nat) (hc : ∀ i, i < n → c i ≤ K) : ∀ m, m ≤ n → sumW (nds c m) ≤ m * K := by
  intro m hm
  induction m with
  | zero => exact Nat.zero_le _
  | succ m ih =>
    have h1 := ih (by omega)
    have h2 := hc m (by omega)
    show sumW (nds c m ++ _) ≤ _
    rw [sumW_app, Nat.succ_mul]
    split
    · exact Nat.add_le_add h1 h2
    · exact Nat.le_trans h1 (Nat.le_add_right _ _)
theorem P1.lp {c : Nat → Nat} {n : Nat} {w wr : World} {l : List Ny} {v : Value} (h : P1 c n w l v wr) (hc : ∀ i, i < n → c i ≤ 1099511627776) : LP c n l n (fun _ => 0) := by
  have hm : ∀ x ∈ l, x.1.2 < n ∧ 0 < c x.1.2 := fun x hx => by
    have := kys_mem hx
    rw [h.ks] at this
    exact ⟨(nds_mem.1 this).1, (nds_mem.1 this).2.1⟩
  have hs := sumW_nds c n 1099511627776 hc
  refine ⟨by rw [h.ks]; exact nds_ok c n, ?_, ?_, ?_, ?_, fun _ _ => rfl, ?_, by rw [h.ks]; exact hs n (Nat.le_refl _), fun x hx => by rw [h.sy x hx]; exact List.cons_ne_nil _ _⟩
  · have e : l.flatMap (·.2.2) = (kys l).map (·.2) := by
      have : ∀ m : List Ny, (∀ x ∈ m, x.2.2 = [x.1.2]) → m.flatMap (·.2.2) = (kys m).map (·.2) := fun m => by
        induction m with
        | nil => intro _; rfl
        | cons x m ih =>
          intro hx
          show x.2.2 ++ m.flatMap (·.2.2) = x.1.2 :: (kys m).map (·.2)
          rw [hx x (List.mem_cons_self ..), ih fun y hy => hx y (List.mem_cons_of_mem _ hy)]; rfl
      exact this l h.sy
    rw [e, h.ks]; exact (nds_ok c n).1
  · intro x hx s hs2
    rw [h.sy x hx] at hs2
    rw [List.mem_singleton.1 hs2]; exact hm x hx
  · intro s hs2 hcs
    have : (c s, s) ∈ kys l := by rw [h.ks]; exact nds_mem.2 ⟨hs2, hcs, rfl⟩
    obtain ⟨x, hx, e⟩ := List.mem_map.1 this
    refine ⟨x, hx, ?_⟩
    rw [h.sy x hx, e]; exact List.mem_singleton.2 rfl
  · intro x hx s hs2
    rw [h.sy x hx] at hs2
    rw [List.mem_singleton.1 hs2, h.ks, Nat.zero_add]; rfl
  · have := h.len; omega
set_option maxRecDepth 100000 in
set_option maxHeartbeats 8000000 in
theorem rlengths9_any (p : Option Addr) (n cap : Nat) (f : Nat → Int) (w : World) (h : IS p n cap f w) (hn : n ≤ 300) (hc : ∀ i, i < n → 0 ≤ f i ∧ f i ≤ 1099511627776) :
    Calls Try.prog 26 #[.slice p n cap] w fun e w' => ∃ g, e = .returned (.tuple #[.slice (some ⟨g, 0, none⟩) n n, .int .i64 (depM (toL f) n n : Int)]) ∧ Blk w' g 3 (rI n fun i => (lenO (toL f) n i : Int)) ∧ w.heap.size ≤ g ∧ Below w.heap.size w w' := by
  have HC := Lib.hid hc
  obtain ⟨c, hc0⟩ : ∃ c, c = toL f := ⟨_, rfl⟩
  rw [← hc0]
  have HCF := Lib.hid hc0
  clear hc hc0
  go_enter Try.func26, Try.ntmps26
  go_wp2_with fail
  go_loopw [4, 5] (fun v i wr => ∃ (k : Nat) (l : List Ny), k ≤ n ∧ i = .int .i64 (k : Int) ∧ P1 c k w l v wr) (fun _ i _ => n - (intOf i).toNat)
  case atStart => exact ⟨0, [], by omega, rfl, ⟨⟨ON.nil (Below.refl _ _) (Nat.le_refl _), fun x hx => by cases hx⟩, rfl, fun x hx => by cases hx⟩⟩
  case round =>
    obtain ⟨k, l, hk, rfl, hr⟩ := hrel
    by_cases hlt : k < n
    · cases p with
      | none => have := (h.nil_ rfl).1; omega
      | some a =>
        have c0 := (h.below hr.pn.on.b).cell a rfl k hlt
        have hv := HC.out k hlt
        obtain ⟨W, hW⟩ := Int.eq_ofNat_of_zero_le hv.1
        have hcw : c k = W := by rw [HCF.out]; unfold toL; omega
        rw [hW] at c0
        by_cases hz : W = 0
        · have hs := hr.skip (by omega)
          subst hz
          clear hv hW hcw hr
          go_wp2_with fail
          go_roundw
          case rel => exact ⟨k + 1, l, by omega, by go_num, hs⟩
          case measure => simp [intOf]; omega
        · have hpos : (0 : Int) < (W : Int) := by omega
          have hp1 := hr.pn.below ((Below.refl _ wr).alloc (Nat.le_refl _) (.cells #[.int .i64 (k : Int)] 3))
          have hR1 := RL_one wr k
          have hll : l.length ≤ 1000 := by have := hr.len; omega
          have HM := Lib.hid (fun sv v' w2 => hr.more (v' := v') (sv := sv) (w2 := w2) (by omega))
          rw [hcw] at HM
          clear hv hW hcw hr hz
          go_wp2_with (refine wpList_oneN rfl (.tmp 25) (.tmp 34) rfl rfl hp1 ((W, k), .slice (some ⟨wr.heap.size, 0, none⟩) 1 1, [k]) hR1 (by show Value.slice (some ⟨wr.heap.size + 1, 0, none⟩) 1 1 = _; simp) hll ?_; intro v2 w2 hP hG)
          go_roundw
          case rel => exact ⟨k + 1, _, by omega, by go_num, HM.out _ _ _ hP⟩
          case measure => simp [intOf]; omega
    · obtain rfl : k = n := by omega
      have hmk := run_ints k (by omega) wr
      have hll := hr.len
      obtain ⟨g, hg⟩ : ∃ g, g = wr.heap.size := ⟨_, rfl⟩
      have HGE := Lib.hid hg
      have hal : Below wr.heap.size wr (wr.alloc (.cells (rI k fun _ => 0) 3)) := (Below.refl _ _).alloc (Nat.le_refl _) _
      have hpn := hr.pn.below hal
      have HO0 : Hid (Blk (wr.alloc (.cells (rI k fun _ => 0) 3)) g 3 (rI k fun i => ((fun _ => 0 : Nat → Nat) i : Int))) := Lib.hid (by rw [hg]; exact Blk.new wr _ _)
      have HGL : Hid (w.heap.size ≤ g) := Lib.hid (by rw [hg]; exact hr.pn.on.lo)
      have hR0 : ∀ x ∈ l, RL (wr.alloc (.cells (rI k fun _ => 0) 3)) x.2.1 x.2.2 ∧ x.2.1.ownBlock ≠ some g := fun x hx => ⟨hpn.rl x hx, fun e => by
        obtain ⟨_, _, h2⟩ := (hr.pn.rl x hx).lt e
        omega⟩
      have HLP := Lib.hid (hr.lp fun i hi => by have := HC.out i hi; rw [HCF.out]; unfold toL; omega)
      have HKS := Lib.hid hr.ks
      have hW0 : LW k g w l (fun _ => 0) u4 (wr.alloc (.cells (rI k fun _ => 0) 3)) := ⟨hpn.on, hR0, HO0.out, HGL.out⟩
      by_cases hl1 : l.length = 1
      · obtain ⟨y, rfl⟩ : ∃ y, l = [y] := by
          match l, hl1 with
          | [y], _ => exact ⟨y, rfl⟩
        obtain ⟨gl, cl, hv, _, _, _, hrb⟩ := hW0.on.rb (by simp [nxs])
        have hv2 : u4 = .slice (some ⟨gl, 0, none⟩) 1 cl := hv
        subst hv2
        obtain ⟨⟨W, s⟩, sv, L⟩ := y
        have hks : nds c k = [(W, s)] := HKS.out.symm
        have hmem : (W, s) ∈ nds c k := by rw [hks]; exact List.mem_singleton.2 rfl
        obtain ⟨hsk, hsc, _⟩ := nds_mem.1 hmem
        have c1 : (wr.alloc (.cells (rI k fun _ => 0) 3)).cell? ⟨gl, 1, none⟩ = some (.int .i64 (s : Int)) := hrb.c 1 (by simp [nxs])
        have hsk2 : s < k := hsk
        have hski : (s : Int) < (k : Int) := by omega
        have HX : Hid (depM c k k = 0) := Lib.hid (Nat.le_zero.1 (depM_le.2 fun i _ _ => by show hD (nds c k) k i ≤ 0; rw [hD_one (by rw [hks]; exact Nat.le_refl _)]; exact Nat.le_refl _))
        have e1 := HO0.out.at_ hsk2
        have f1 := HO0.out.frozen s
        have HB9 : Hid (Blk ((wr.alloc (.cells (rI k fun _ => 0) 3)).setCell ⟨g, s, none⟩ (.int .i64 1)) g 3 (rI k fun i => (lenO c k i : Int))) := Lib.hid ((HO0.out.put hsk2 (.int .i64 1)).cast_ (row_ext fun i hi => by
          show (if i = s then Value.int .i64 1 else Value.int .i64 ((0 : Nat) : Int)) = Value.int .i64 ((lenO c k i : Nat) : Int)
          unfold lenO
          by_cases h0 : c i = 0
          · have h3 : i ≠ s := fun e => by subst e; exact absurd hsc (by show ¬ 0 < c i; omega)
            rw [if_neg h3, if_pos h0]
          · have h3 : i = s := by
              have : (c i, i) ∈ nds c k := nds_mem.2 ⟨hi, by show 0 < c i; omega, rfl⟩
              rw [hks] at this
              have := List.mem_singleton.1 this
              exact congrArg Prod.snd this
            rw [if_pos h3, if_neg h0, if_pos (by rw [hks]; rfl)]; rfl))
        have HL9 : Hid (Below w.heap.size w ((wr.alloc (.cells (rI k fun _ => 0) 3)).setCell ⟨g, s, none⟩ (.int .i64 1))) := Lib.hid (hW0.on.b.setCell HGL.out _)
        rw [← hg] at hmk
        clear hal hpn hR0 HC hr hW0 hrb hv hl1 hll hmem hsk hsc hks HO0 HLP HKS HGE hg
        go_wp2_with fail
        go_loopw [4, 7, 8] (fun v nx m wq => v = .slice (some ⟨gl, 0, none⟩) 1 cl ∧ nx = .int .i64 (k : Int) ∧ m = .int .i64 0 ∧ Hid (Blk wq g 3 (rI k fun i => (lenO c k i : Int))) ∧ Hid (Below w.heap.size w wq)) (fun _ _ _ _ => 0)
        case atStart => exact ⟨rfl, rfl, rfl, HB9, HL9⟩
        case round =>
          obtain ⟨rfl, rfl, rfl, HB, HL⟩ := hrel
          go_wp2_with fail
          go_ret2
          rw [HX.out]
          exact ⟨g, rfl, HB.out, HGL.out, HL.out⟩
      · rw [← hg] at hmk
        clear hal hpn hR0 HC
        have hv : u4 = .slice none 0 0 ∧ l.length = 0 ∨ ∃ gl cap, u4 = .slice (some ⟨gl, 0, none⟩) l.length cap := by
          rcases hW0.on.own.2 with ⟨h1, h2⟩ | ⟨gl, cap, cur, h1, _⟩
          · exact .inl ⟨h1, by rw [nxs_len] at h2; exact h2⟩
          · exact .inr ⟨gl, cap, by rw [nxs_len] at h1; exact h1⟩
        have hv2 : ∃ pl cl, u4 = .slice pl l.length cl := by
          rcases hv with ⟨h1, h2⟩ | ⟨gl, cl, h1⟩
          · exact ⟨none, 0, by rw [h2]; exact h1⟩
          · exact ⟨_, cl, h1⟩
        obtain ⟨pl, cl, rfl⟩ := hv2
        have hl1i : ¬ (l.length : Int) = 1 := by omega
        clear hv hr hg
        go_wp2_with fail
        have HN1 : Hid ((nds c k).length ≠ 1) := Lib.hid (by rw [← HKS.out, kys_len]; exact hl1)
        clear hl1i hl1 hmk HO0 hll HKS HGE
        go_loopw [4, 7, 8] (fun v nx m wr => ∃ (l : List Ny) (N : Nat) (F : Nat → Nat), nx = .int .i64 (N : Int) ∧ m = .int .i64 (mxN F k : Int) ∧ Hid (LP c k l N F) ∧ Hid (LW k g w l F v wr) ∧ ∃ pl cl, v = .slice pl l.length cl) (fun v _ _ _ => lenVN v)
        case atStart => exact ⟨l, k, fun _ => 0, rfl, by rw [mxN_zero]; rfl, HLP, Lib.hid hW0, pl, cl, rfl⟩
        case round =>
          obtain ⟨l, N, F, rfl, rfl, HP, HW, pl, cl, rfl⟩ := hrel
          by_cases hlt : 1 < l.length
          · have hli : (1 : Int) < (l.length : Int) := by omega
            have hnea : nxs l ≠ [] := fun e => by have := nxs_len l; rw [e] at this; simp at this; omega
            obtain ⟨gl, cl2, hva, _, hcapa, hcma, hrba⟩ := HW.out.on.rb hnea
            have hza := nxs_len l
            rw [hza] at hva hcapa
            cases hva
            obtain ⟨hia, hpaa, hlaa⟩ := least_of HP.out.ok (show 0 < l.length by omega)
            have CLa := Lib.hid (rleast9_any gl l.length cl (keyL (nxs l)) (symL (nxs l)) wr (hza ▸ hrba.nb) (by have := HP.out.nb; omega) (by omega))
            obtain ⟨i, hi0a⟩ : ∃ i, i = lsI (keyL (nxs l)) l.length := ⟨_, rfl⟩
            rw [← hi0a] at CLa
            simp only [← hi0a] at hia hpaa hlaa
            have HPAa := Lib.hid hpaa
            have HLAa := Lib.hid hlaa
            have hixa : (nxs l)[i]? = some ((l[i]).1, (l[i]).2.1) := by unfold nxs; rw [List.getElem?_map, List.getElem?_eq_getElem hia]; rfl
            have HIXa := Lib.hid (cellsL_at (nxs l) i _ hixa)
            obtain ⟨a, hae⟩ : ∃ a, a = l[i] := ⟨_, rfl⟩
            rw [← hae] at HPAa HLAa HIXa
            have hmema : a ∈ l := by rw [hae]; exact List.getElem_mem hia
            have HRa := Lib.hid (HW.out.rl a hmema)
            have hl3a : l.length ≤ 1000 := by have := HP.out.nb; omega
            have H1Ca : Hid (∀ y ∈ nxs l, y.2.oneCell' = true) := Lib.hid fun y hy => by
              obtain ⟨z, hz2, rfl⟩ := List.mem_map.1 hy
              exact (HW.out.rl z hz2).1.cellOk
            clear hi0a hpaa hlaa hixa hae hnea
            obtain ⟨⟨Wa, Na⟩, sva, La⟩ := a
            obtain ⟨pa, ca, rfl⟩ : ∃ pa ca, sva = .slice pa La.length ca := HRa.out.1.form
            go_wp2_with fail
            refine (CLa.out).mono ?_
            rintro e w1 ⟨rfl, b1a⟩
            have hrb1a := hrba.below b1a
            have HW1a := Lib.hid (HW.out.below b1a)
            have q0a : w1.cell? ⟨gl, i * 3, none⟩ = some (.int .i64 (Wa : Int)) := (hrb1a.c _ (by omega)).trans HIXa.out.1
            have q1a : w1.cell? ⟨gl, i * 3 + 1, none⟩ = some (.int .i64 (Na : Int)) := (hrb1a.c _ (by omega)).trans HIXa.out.2.1
            have q2a : w1.cell? ⟨gl, i * 3 + 2, none⟩ = some (.slice pa La.length ca) := (hrb1a.c _ (by omega)).trans HIXa.out.2.2
            obtain ⟨ba, hba0⟩ : ∃ ba, ba = w1.heap.size := ⟨_, rfl⟩
            have HbaE := Lib.hid hba0
            have hbl1a : Below w1.heap.size w1 (w1.alloc (.cells #[.int .i64 (Wa : Int), .int .i64 (Na : Int), .slice pa La.length ca] 82)) := (Below.refl _ _).alloc (Nat.le_refl _) _
            have HBa : Hid (Blk (w1.alloc (.cells #[.int .i64 (Wa : Int), .int .i64 (Na : Int), .slice pa La.length ca] 82)) ba 82 #[.int .i64 (Wa : Int), .int .i64 (Na : Int), .slice pa La.length ca]) := Lib.hid (by rw [hba0]; exact Blk.new w1 _ _)
            have HW2a := Lib.hid (HW1a.out.below hbl1a)
            have CWa := Lib.hid (fun w' hrb hcm => rwithout9_any gl cl i (nxs l) w' hrb (by rw [hza]; exact hcapa) hcm H1Ca.out (by rw [hza]; exact hl3a) (by rw [hza]; exact hia))
            rw [hza] at CWa
            have HRB2a := Lib.hid (hrb1a.below hbl1a)
            have HCMa : Hid (cl ≤ 9223372036854775807) := Lib.hid (by unfold maxLen at hcma; omega)
            have HBBa : Hid (Below wr.heap.size wr (w1.alloc (.cells #[.int .i64 (Wa : Int), .int .i64 (Na : Int), .slice pa La.length ca] 82))) := Lib.hid (b1a.trans (hbl1a.mono b1a.size))
            clear CLa hrba b1a HW HW1a hbl1a hcma hba0
            go_wp2_with fail
            refine (CWa.out _ HRB2a.out HCMa.out).mono ?_
            rintro e w3 ⟨v1, rfl, hNa⟩
            rw [← HbaE.out]
            obtain ⟨l1, hl1⟩ : ∃ l1, l1 = l.eraseIdx i := ⟨_, rfl⟩
            have HW3a : Hid (LW k g w l1 F v1 w3) := Lib.hid (by rw [hl1]; exact HW2a.out.without hNa)
            have HBB3a : Hid (Below wr.heap.size wr w3) := Lib.hid (HBBa.out.trans (hNa.b.mono HBBa.out.size))
            have HB3a : Hid (Blk w3 ba 82 #[.int .i64 (Wa : Int), .int .i64 (Na : Int), .slice pa La.length ca]) := Lib.hid (HBa.out.below hNa.b HBa.out.lt)
            rw [← hl1] at HPAa HLAa
            have hlenl1 : l1.length + 1 = l.length := by have := HPAa.out.length_eq; simp at this; omega
            clear CWa HRB2a HCMa HBBa HBa HW2a hNa q0a q1a q2a hrb1a HIXa H1Ca hcapa hl1 hia hl3a hza
            have HOK1 : Hid (okK (kys l1) N) := Lib.hid (okK_tail (okK_perm (HPAa.out.map _) HP.out.ok))
            have HR1a : Hid (RL w3 (.slice pa La.length ca) La ∧ (Value.slice pa La.length ca).ownBlock ≠ some g) := Lib.hid ⟨HRa.out.1.below HBB3a.out, HRa.out.2⟩
            obtain ⟨pm, cm, hvm⟩ : ∃ pm cm, v1 = .slice pm l1.length cm := by
              rcases HW3a.out.on.own.2 with ⟨h1, h2⟩ | ⟨gl, cap, cur, h1, _⟩
              · exact ⟨none, 0, by rw [nxs_len] at h2; rw [h2]; exact h1⟩
              · exact ⟨_, _, by rw [nxs_len] at h1; exact h1⟩
            subst hvm
            clear HRa HBB3a
            have hneb : nxs l1 ≠ [] := fun e => by have := nxs_len l1; rw [e] at this; simp at this; omega
            obtain ⟨gm, cm2, hvb, _, hcapb, hcmb, hrbb⟩ := HW3a.out.on.rb hneb
            have hzb := nxs_len l1
            rw [hzb] at hvb hcapb
            cases hvb
            obtain ⟨hib, hpab, hlab⟩ := least_of HOK1.out (show 0 < l1.length by omega)
            have CLb := Lib.hid (rleast9_any gm l1.length cm (keyL (nxs l1)) (symL (nxs l1)) w3 (hzb ▸ hrbb.nb) (by have := HP.out.nb; omega) (by omega))
            obtain ⟨j, hi0b⟩ : ∃ j, j = lsI (keyL (nxs l1)) l1.length := ⟨_, rfl⟩
            rw [← hi0b] at CLb
            simp only [← hi0b] at hib hpab hlab
            have HPAb := Lib.hid hpab
            have HLAb := Lib.hid hlab
            have hixb : (nxs l1)[j]? = some ((l1[j]).1, (l1[j]).2.1) := by unfold nxs; rw [List.getElem?_map, List.getElem?_eq_getElem hib]; rfl
            have HIXb := Lib.hid (cellsL_at (nxs l1) j _ hixb)
            obtain ⟨b, hbe⟩ : ∃ b, b = l1[j] := ⟨_, rfl⟩
            rw [← hbe] at HPAb HLAb HIXb
            have hmemb : b ∈ l1 := by rw [hbe]; exact List.getElem_mem hib
            have HRb := Lib.hid (HW3a.out.rl b hmemb)
            have hl3b : l1.length ≤ 1000 := by have := HP.out.nb; omega
            have H1Cb : Hid (∀ y ∈ nxs l1, y.2.oneCell' = true) := Lib.hid fun y hy => by
              obtain ⟨z, hz2, rfl⟩ := List.mem_map.1 hy
              exact (HW3a.out.rl z hz2).1.cellOk
            clear hi0b hpab hlab hixb hbe hneb
            obtain ⟨⟨Wb, Nb⟩, svb, Lb⟩ := b
            obtain ⟨pb, cb, rfl⟩ : ∃ pb cb, svb = .slice pb Lb.length cb := HRb.out.1.form
            go_wp2_with fail
            refine (CLb.out).mono ?_
            rintro e w4 ⟨rfl, b1b⟩
            have hrb1b := hrbb.below b1b
            have HW1b := Lib.hid (HW3a.out.below b1b)
            have q0b : w4.cell? ⟨gm, j * 3, none⟩ = some (.int .i64 (Wb : Int)) := (hrb1b.c _ (by omega)).trans HIXb.out.1
            have q1b : w4.cell? ⟨gm, j * 3 + 1, none⟩ = some (.int .i64 (Nb : Int)) := (hrb1b.c _ (by omega)).trans HIXb.out.2.1
            have q2b : w4.cell? ⟨gm, j * 3 + 2, none⟩ = some (.slice pb Lb.length cb) := (hrb1b.c _ (by omega)).trans HIXb.out.2.2
            obtain ⟨bb, hbb0⟩ : ∃ bb, bb = w4.heap.size := ⟨_, rfl⟩
            have HbbE := Lib.hid hbb0
            have hbl1b : Below w4.heap.size w4 (w4.alloc (.cells #[.int .i64 (Wb : Int), .int .i64 (Nb : Int), .slice pb Lb.length cb] 82)) := (Below.refl _ _).alloc (Nat.le_refl _) _
            have HBb : Hid (Blk (w4.alloc (.cells #[.int .i64 (Wb : Int), .int .i64 (Nb : Int), .slice pb Lb.length cb] 82)) bb 82 #[.int .i64 (Wb : Int), .int .i64 (Nb : Int), .slice pb Lb.length cb]) := Lib.hid (by rw [hbb0]; exact Blk.new w4 _ _)
            have HW2b := Lib.hid (HW1b.out.below hbl1b)
            have CWb := Lib.hid (fun w' hrb hcm => rwithout9_any gm cm j (nxs l1) w' hrb (by rw [hzb]; exact hcapb) hcm H1Cb.out (by rw [hzb]; exact hl3b) (by rw [hzb]; exact hib))
            rw [hzb] at CWb
            have HRB2b := Lib.hid (hrb1b.below hbl1b)
            have HCMb : Hid (cm ≤ 9223372036854775807) := Lib.hid (by unfold maxLen at hcmb; omega)
            have HBBb : Hid (Below w3.heap.size w3 (w4.alloc (.cells #[.int .i64 (Wb : Int), .int .i64 (Nb : Int), .slice pb Lb.length cb] 82))) := Lib.hid (b1b.trans (hbl1b.mono b1b.size))
            clear CLb hrbb b1b HW3a HW1b hbl1b hcmb hbb0
            go_wp2_with fail
            refine (CWb.out _ HRB2b.out HCMb.out).mono ?_
            rintro e w6 ⟨v2, rfl, hNb⟩
            rw [← HbbE.out]
            obtain ⟨l2, hl2⟩ : ∃ l2, l2 = l1.eraseIdx j := ⟨_, rfl⟩
            have HW3b : Hid (LW k g w l2 F v2 w6) := Lib.hid (by rw [hl2]; exact HW2b.out.without hNb)
            have HBB3b : Hid (Below w3.heap.size w3 w6) := Lib.hid (HBBb.out.trans (hNb.b.mono HBBb.out.size))
            have HB3b : Hid (Blk w6 bb 82 #[.int .i64 (Wb : Int), .int .i64 (Nb : Int), .slice pb Lb.length cb]) := Lib.hid (HBb.out.below hNb.b HBb.out.lt)
            rw [← hl2] at HPAb HLAb
            have hlenl2 : l2.length + 1 = l1.length := by have := HPAb.out.length_eq; simp at this; omega
            have HB6a : Hid (Blk w6 ba 82 #[.int .i64 (Wa : Int), .int .i64 (Na : Int), .slice pa La.length ca]) := Lib.hid (HB3a.out.below HBB3b.out HB3a.out.lt)
            have HR6a : Hid (RL w6 (.slice pa La.length ca) La) := Lib.hid (HR1a.out.1.below HBB3b.out)
            have HR6b : Hid (RL w6 (.slice pb Lb.length cb) Lb) := Lib.hid (HRb.out.1.below HBB3b.out)
            clear CWb HRB2b HCMb HBBb HBb HW2b hNb q0b q1b q2b hrb1b HIXb H1Cb hcapb hl2 hib hl3b hzb
            go_wp2_with fail
            have HNA : Hid (La ≠ []) := Lib.hid (HP.out.ne _ hmema)
            have HNB : Hid (Lb ≠ []) := Lib.hid (HP.out.ne _ (HPAa.out.mem_iff.2 (List.mem_cons_of_mem _ hmemb)))
            have HLN : Hid (La.length + Lb.length ≤ k) := Lib.hid (HP.out.two (HPAa.out.trans (HPAb.out.cons _)))
            obtain ⟨vA, wA, rA, oA, gA⟩ := run_joinR w6.drew w6.heap.size (.slice none 0 0) (.slice pa La.length ca) [] La ⟨rfl, .inl ⟨rfl, rfl⟩⟩ (HR6a.out.block fun _ _ => rfl) HNA.out (Nat.le_refl _) (by have := HLN.out; simp; omega) 22
            rw [List.nil_append] at oA
            have bA : Below w6.heap.size w6 wA := (Below.refl _ w6).drew.grown gA (Nat.le_refl _) (fun k e => by cases e)
            obtain ⟨vB, wB, rB, oB, gB⟩ := run_joinR wA w6.heap.size vA (.slice pb Lb.length cb) La Lb oA (HR6b.out.below bA) HNB.out bA.size (by have := HLN.out; omega) 22
            have bB : Below w6.heap.size w6 wB := bA.grown gB bA.size (own_le oA)
            have HrA := Lib.hid rA
            have HrB := Lib.hid rB
            obtain ⟨T, hT0⟩ : ∃ T : Bool → Bool → World → Prop, T = fun f1 f2 wx => (f1 = false ∧ f2 = false ∧ wx = w6.drew) ∨ (f1 = true ∧ f2 = false ∧ wx = wA) ∨ (f1 = true ∧ f2 = true ∧ wx = wB) := ⟨_, rfl⟩
            have HTA : Hid (∀ f1 f2 wx, T f1 f2 wx → wx.cell? ⟨ba, 2, none⟩ = some (.slice pa La.length ca)) := Lib.hid (by
              rw [hT0]
              rintro f1 f2 wx (⟨_, _, rfl⟩ | ⟨_, _, rfl⟩ | ⟨_, _, rfl⟩)
              · exact HB6a.out.cell 2
              · exact (HB6a.out.below bA HB6a.out.lt).cell 2
              · exact (HB6a.out.below bB HB6a.out.lt).cell 2)
            have HTB : Hid (∀ f1 f2 wx, T f1 f2 wx → wx.cell? ⟨bb, 2, none⟩ = some (.slice pb Lb.length cb)) := Lib.hid (by
              rw [hT0]
              rintro f1 f2 wx (⟨_, _, rfl⟩ | ⟨_, _, rfl⟩ | ⟨_, _, rfl⟩)
              · exact HB3b.out.cell 2
              · exact (HB3b.out.below bA HB3b.out.lt).cell 2
              · exact (HB3b.out.below bB HB3b.out.lt).cell 2)
            have HT0 : Hid (T false false w6.drew) := Lib.hid (by rw [hT0]; exact .inl ⟨rfl, rfl, rfl⟩)
            have HTS : Hid (∀ f2 wx, T false f2 wx → wx = w6.drew) := Lib.hid (by
              rw [hT0]
              rintro f2 wx (⟨_, _, h⟩ | ⟨h, _⟩ | ⟨h, _⟩)
              · exact h
              · cases h
              · cases h)
            have HTS2 : Hid (∀ f2 wx, T false f2 wx → T true f2 wA) := Lib.hid (by
              rw [hT0]
              rintro f2 wx (⟨_, h2, h⟩ | ⟨h, _⟩ | ⟨h, _⟩)
              · exact .inr (.inl ⟨rfl, h2, rfl⟩)
              · cases h
              · cases h)
            have HTU : Hid (∀ wx, T true false wx → wx = wA) := Lib.hid (by
              rw [hT0]
              rintro wx (⟨h, _⟩ | ⟨_, _, h⟩ | ⟨_, h, _⟩)
              · cases h
              · exact h
              · cases h)
            have HTV : Hid (T true true wB) := Lib.hid (by rw [hT0]; exact .inr (.inr ⟨rfl, rfl, rfl⟩))
            have HTW : Hid (∀ wx, T true true wx → wx = wB) := Lib.hid (by
              rw [hT0]
              rintro wx (⟨h, _⟩ | ⟨_, h, _⟩ | ⟨_, _, h⟩)
              · cases h
              · cases h
              · exact h)
            clear hT0 rA rB
            refine wp_region_anyL (Two 2 5 T) (by kernel_rfl) HT0.out ?_
            refine anyL_take (i := 0) (v := .pointer (some ⟨ba, 2, none⟩)) rfl (by kernel_rfl) (by kernel_rfl) (by kernel_rfl) (yl_other (by decide) (by decide) rfl (fun f1 f2 wx hT => ?_)) ?_
            · refine lands_value (w := wx) ?_ hT; go_simp; try rfl
            simp only [pu]
            refine anyL_take (i := 1) (v := .slice pa La.length ca) rfl (by kernel_rfl) (by kernel_rfl) (by kernel_rfl) (yl_other (by decide) (by decide) rfl (fun f1 f2 wx hT => ?_)) ?_
            · have k := HTA.out f1 f2 wx hT; refine lands_value (w := wx) ?_ hT; go_simp
            simp only [pu]
            refine anyL_take (i := 2) (v := vA) rfl (by kernel_rfl) (by kernel_rfl) (by kernel_rfl) (yl_first (by decide) rfl (fun f2 wx hT => ?_)) ?_
            · exact lands_appendH (.const (.slice none 0 0)) (.tmp 72) 22 rfl rfl rfl (show (Builtin.append_ #[22, 22] 22 #[.slice none 0 0, .slice pa La.length ca]).run Try.prog wx = .ok vA wA by rw [HTS.out f2 wx hT]; exact HrA.out) (HTS2.out f2 wx hT)
            simp only [pu]
            refine anyL_take (i := 3) (v := .pointer (some ⟨bb, 2, none⟩)) rfl (by kernel_rfl) (by kernel_rfl) (by kernel_rfl) (yl_other (by decide) (by decide) rfl (fun f1 f2 wx hT => ?_)) ?_
            · refine lands_value (w := wx) ?_ hT; go_simp; try rfl
            simp only [pu]
            refine anyL_take (i := 4) (v := .slice pb Lb.length cb) rfl (by kernel_rfl) (by kernel_rfl) (by kernel_rfl) (yl_other (by decide) (by decide) rfl (fun f1 f2 wx hT => ?_)) ?_
            · have k := HTB.out f1 f2 wx hT; refine lands_value (w := wx) ?_ hT; go_simp
            simp only [pu]
            refine anyL_take (i := 5) (v := vB) rfl (by kernel_rfl) (by kernel_rfl) (by kernel_rfl) (yl_late (by decide) rfl (by kernel_rfl) rfl (fun wx hT => ?_)) ?_
            · exact lands_appendH (.tmp 73) (.tmp 75) 22 rfl rfl rfl (show (Builtin.append_ #[22, 22] 22 #[vA, .slice pb Lb.length cb]).run Try.prog wx = .ok vB wB by rw [HTU.out wx hT]; exact HrB.out) HTV.out
            simp only [pu]
            refine anyL_take (i := 6) (v := ?_) rfl (by kernel_rfl) (by kernel_rfl) (by kernel_rfl) (yl_other (by decide) (by decide) rfl (fun f1 f2 wx hT => ?_)) ?_; rotate_left
            · refine lands_value (w := wx) ?_ hT; go_simp <;> rfl
            simp only [pu]
            refine anyL_done (by kernel_rfl) (fun w7 (hw7 : T true true w7) => ?_) _
            obtain rfl := (HTW.out w7 hw7).symm
            go_wp2_with fail
            obtain ⟨M, hM⟩ : ∃ M, M = La ++ Lb := ⟨_, rfl⟩
            rw [← hM] at oB
            have HMM := Lib.hid hM
            have hMn : M.Nodup := by
              have nd2 := ((HPAa.out.trans (HPAb.out.cons _)).flatMap_right (·.2.2)).nodup_iff.1 HP.out.nd
              have nd3 : ((La ++ Lb) ++ l2.flatMap (·.2.2)).Nodup := by simpa [List.append_assoc] using nd2
              rw [hM]; exact (List.nodup_append.1 nd3).1
            have hMm : ∀ s ∈ M, s < k ∧ F s ≤ 300 := fun s hs => by
              have hx : ∃ x ∈ l, s ∈ x.2.2 := by
                rw [hM] at hs
                rcases List.mem_append.1 hs with h1 | h1
                · exact ⟨_, hmema, h1⟩
                · exact ⟨_, HPAa.out.mem_iff.2 (List.mem_cons_of_mem _ hmemb), h1⟩
              obtain ⟨x, hx, hsx⟩ := hx
              have h1 := HP.out.lt x hx s hsx
              have h2 := HP.out.fd x hx s hsx
              have h3 := hD_le k (nds c k) k s (by have := nds_len c k; omega) (nds_ok c k)
              exact ⟨h1.1, by show F s ≤ 300; have : dep c k s ≤ k := h3; omega⟩
            have hMl : M.length ≤ k := by rw [hM, List.length_append]; exact HLN.out
            have HMN := Lib.hid hMn
            have HMH := Lib.hid hMm
            have hgB : vB.ownBlock ≠ some g := fun e => by
              have h1 := own_le oB g e
              have h2 := HW3b.out.o.lt
              omega
            obtain ⟨pB, cB, hvB⟩ : ∃ pB cB, vB = .slice pB M.length cB := by
              rcases oB.2 with ⟨h1, h2⟩ | ⟨gl, cap, cur, h1, _⟩
              · exact ⟨none, 0, by rw [h2]; exact h1⟩
              · exact ⟨_, _, h1⟩
            have HGB := Lib.hid hgB
            have HRM : Hid (RL wB vB M) := Lib.hid ⟨oB.1, by
              rcases oB.2 with h1 | ⟨q, cap, cur, h1, _, h3⟩
              · exact .inl h1
              · exact .inr ⟨q, cap, cur, h1, Nat.zero_le _, h3⟩⟩
            subst hvB
            have HCL : Hid (CLW k g w l2 (addH F (M.take 0)) v2 (.slice pB M.length cB) M ba bb #[.int .i64 (Wa : Int), .int .i64 (Na : Int), .slice pa La.length ca] #[.int .i64 (Wb : Int), .int .i64 (Nb : Int), .slice pb Lb.length cb] wB) :=
              Lib.hid (by rw [addH_zero]; exact ⟨HW3b.out.below bB, HRM.out, HB6a.out.below bB HB6a.out.lt, HB3b.out.below bB HB3b.out.lt⟩)
            have HLW6 := Lib.hid HW3b.out.on.lo
            obtain ⟨pc, cc, hvc⟩ : ∃ pc cc, v2 = .slice pc l2.length cc := by
              rcases HW3b.out.on.own.2 with ⟨h1, h2⟩ | ⟨gl, cap, cur, h1, _⟩
              · exact ⟨none, 0, by rw [nxs_len] at h2; rw [h2]; exact h1⟩
              · exact ⟨_, _, by rw [nxs_len] at h1; exact h1⟩
            subst hvc
            clear hM hMn hMm hgB oA oB gA gB bA bB HrA HrB HTA HTB HT0 HTS HTS2 HTU HTV HTW hw7 HRM HW3b HB6a HB3b HNA HNB
            go_loopw [8, 13] (fun m i wr => ∃ t : Nat, t ≤ M.length ∧ i = .int .i64 (t : Int) ∧ m = .int .i64 (mxN (addH F (M.take t)) k : Int) ∧ Hid (CLW k g w l2 (addH F (M.take t)) (.slice pc l2.length cc) (.slice pB M.length cB) M ba bb #[.int .i64 (Wa : Int), .int .i64 (Na : Int), .slice pa La.length ca] #[.int .i64 (Wb : Int), .int .i64 (Nb : Int), .slice pb Lb.length cb] wr)) (fun _ i _ => M.length - (intOf i).toNat)
            case atStart => exact ⟨0, by omega, rfl, by rw [addH_zero], HCL⟩
            case round =>
              obtain ⟨t, ht, rfl, rfl, HC⟩ := hrel
              by_cases hlt2 : t < M.length
              · obtain ⟨q, cq, cur, hvq, hcur, hct⟩ : ∃ q cq cur, (Value.slice pB M.length cB) = .slice (some ⟨q, 0, none⟩) M.length cq ∧ wr.heap[q]? = some (.cells cur 3 (0, 0)) ∧ cur.toList.take (M.length * 1) = M.map fun (i : Nat) => Value.int .i64 (i : Int) := by
                  rcases HC.out.rb.2 with ⟨_, h2⟩ | ⟨q, cap, cur, h1, _, h3, _, _, _, h7⟩
                  · omega
                  · exact ⟨q, cap, cur, h1, h3, h7⟩
                cases hvq
                obtain ⟨s, hs⟩ : ∃ s, s = M[t] := ⟨_, rfl⟩
                have hsM : s ∈ M := by rw [hs]; exact List.getElem_mem hlt2
                obtain ⟨hsk, hs3⟩ := HMH.out s hsM
                have hat := addH_at F M HMN.out t hlt2
                have HNX := Lib.hid (addH_next F M HMN.out t hlt2)
                rw [← hs] at hat HNX
                obtain ⟨H, hH⟩ : ∃ H, H = addH F (M.take t) := ⟨_, rfl⟩
                rw [← hH] at hat HNX HC ⊢
                obtain ⟨G, hG⟩ : ∃ G, G = addH F (M.take (t + 1)) := ⟨_, rfl⟩
                rw [← hG] at HNX
                have HGE2 := Lib.hid hG
                have HK := Lib.hid (HC.out.put HGB.out hsk HNX.out)
                have HX := Lib.hid (mxN_put HNX.out hsk)
                have d0 : ∀ w2 : World, w2.heap[q]? = some (.cells cur 3 (0, 0)) → w2.cell? ⟨q, t, none⟩ = some (.int .i64 (s : Int)) := fun w2 h2 => by
                  rw [cell_of_row w2 q t cur _ (0, 0) h2]
                  have : (cur.toList.take (M.length * 1))[t]? = some (.int .i64 (s : Int)) := by rw [hct, List.getElem?_map, List.getElem?_eq_getElem hlt2, hs]; rfl
                  rw [List.getElem?_take, if_pos (by omega)] at this
                  simpa using this
                have e0 := d0 wr hcur
                have e1 : wr.cell? ⟨g, s, none⟩ = some (.int .i64 ((H s : Nat) : Int)) := HC.out.lw.o.at_ hsk
                have e2 := HC.out.lw.o.frozen s
                obtain ⟨x, hx⟩ : ∃ x, x = H s := ⟨_, rfl⟩
                have hx3 : x ≤ 300 := by rw [hx, hat]; exact hs3
                rw [← hx] at e1 HK HX
                have hne : q ≠ g := fun e => HGB.out (by rw [e]; rfl)
                have e3 : (wr.setCell ⟨g, s, none⟩ (.int .i64 ((x : Int) + 1))).cell? ⟨q, t, none⟩ = some (.int .i64 (s : Int)) := d0 _ (by rw [Below.heap_setCell wr ⟨g, s, none⟩ _ q hne]; exact hcur)
                have e4 : (wr.setCell ⟨g, s, none⟩ (.int .i64 ((x : Int) + 1))).cell? ⟨g, s, none⟩ = some (.int .i64 ((x : Int) + 1)) := World.cell?_setCell_same _ _ _ e1
                have hski : (s : Int) < (k : Int) := by omega
                have hwx : IntKind.i64.wrap ((x : Int) + 1) = (x : Int) + 1 := IntWalk.i64_in _ (by omega)
                obtain ⟨m, hm⟩ : ∃ m, m = mxN H k := ⟨_, rfl⟩
                rw [← hm] at HX ⊢
                clear hs hsM hs3 hat hH hG d0 hx hm hcur hct hsk
                go_wp2_with (refine wpList_valK (.int .i64 ((max m (x + 1) : Nat) : Int)) rfl (lands_max2 (.tmp 92) (.tmp 99) m (x + 1) _ rfl rfl rfl rfl rfl) ?_; rintro _ rfl)
                rw [← HX.out]
                go_roundw
                case rel => exact ⟨t + 1, by omega, by go_num, by rw [HGE2.out], Lib.hid (by rw [← HGE2.out]; exact HK.out)⟩
                case measure => simp [intOf]; omega
              · obtain rfl : t = M.length := by omega
                have hpp : l.Perm (((Wa, Na), Value.slice pa La.length ca, La) :: ((Wb, Nb), Value.slice pb Lb.length cb, Lb) :: l2) := HPAa.out.trans (HPAb.out.cons _)
                have hWb : Wa + Wb ≤ k * 1099511627776 := HP.out.pair hpp
                have hWc : Wa + Wb ≤ 329853488332800 := Nat.le_trans hWb (Nat.mul_le_mul_right 1099511627776 hn)
                have hNb : N ≤ 1000 := by have := HP.out.nb; omega
                rw [List.take_length] at HC ⊢
                have hstep := HP.out.step hpp (fun x hx => HLAa.out x ((HPAb.out.map (·.1)).mem_iff.2 hx)) HLAb.out
                have HSTEP : Hid (LP c k (l2 ++ [((Wa + Wb, N), Value.slice pB M.length cB, M)]) (N + 1) (addH F M)) := Lib.hid (by
                  have h3 : LP c k (l2 ++ [((Wa + Wb, N), Value.slice pB M.length cB, La ++ Lb)]) (N + 1) (addH F (La ++ Lb)) := hstep _
                  rw [← HMM.out] at h3; exact h3)
                have e0 := HC.out.b1.cell 0
                have e1 := HC.out.b2.cell 0
                have e2 : wr.cell? ⟨ba, 0, none⟩ = some (.int .i64 (Wa : Int)) := e0
                have e3 : wr.cell? ⟨bb, 0, none⟩ = some (.int .i64 (Wb : Int)) := e1
                have hww : IntKind.i64.wrap ((Wa : Int) + (Wb : Int)) = ((Wa + Wb : Nat) : Int) := by rw [IntWalk.i64_in _ (by omega)]; omega
                have hNw : IntKind.i64.wrap ((N : Int) + 1) = ((N + 1 : Nat) : Int) := by rw [IntWalk.i64_in _ (by omega)]; omega
                have hPN : Hid (PN w.heap.size w l2 (.slice pc l2.length cc) wr) := Lib.hid ⟨HC.out.lw.on, fun x hx => (HC.out.lw.rl x hx).1⟩
                have hl2 : l2.length ≤ 1000 := by have := HP.out.nb; omega
                have HRB := Lib.hid HC.out.rb
                obtain ⟨S, hS⟩ : ∃ S, S = Wa + Wb := ⟨_, rfl⟩
                rw [← hS] at hww HSTEP
                clear hstep e0 e1 hpp hWb hWc hS
                go_wp2_with (refine wpList_oneN rfl (.tmp 101) (.tmp 110) rfl rfl hPN.out ((S, N), .slice pB M.length cB, M) HRB.out rfl hl2 ?_; intro v8 w8 hP8 hG8; obtain ⟨p8, c8, hv8⟩ := hP8.form; subst hv8)
                have e8 : (l2 ++ [(((S, N), Value.slice pB M.length cB, M) : Ny)]).length = l1.length := by simp; omega
                rw [e8] at hP8
                have HW8 : Hid (LW k g w (l2 ++ [((S, N), Value.slice pB M.length cB, M)]) (addH F M) (.slice p8 l1.length c8) w8) := Lib.hid ⟨hP8.on, fun x hx => ⟨hP8.rl x hx, by
                    rcases List.mem_append.1 hx with h1 | h1
                    · exact (HC.out.lw.rl x h1).2
                    · rw [List.mem_singleton.1 h1]; exact HGB.out⟩, (hG8.block g HC.out.lw.o.lt (fun e => by
                      obtain ⟨cur, h1⟩ := HC.out.lw.on.type e.symm
                      exact blk_types HC.out.lw.o h1 rfl)).trans HC.out.lw.o, HC.out.lw.gl⟩
                go_roundw
                case rel => exact ⟨_, N + 1, addH F M, by go_num, rfl, HSTEP, HW8, p8, c8, by rw [e8]⟩
                case measure => simp [lenVN]; omega
          · have hli : ¬ (1 : Int) < (l.length : Int) := by omega
            have hd := HP.out.done (by omega)
            have HO := HW.out.o
            have hb := HW.out.on.b
            have HX : Hid (mxN F k = depM c k k) := Lib.hid (mxN_depM fun s hs => by
              rw [hd s hs]
              by_cases h0 : c s = 0
              · rw [if_pos h0, if_neg (by omega)]
              · rw [if_neg h0, if_pos (by omega)])
            have HL : Hid (rI k (fun i => (F i : Int)) = rI k fun i => (lenO c k i : Int)) := Lib.hid (row_ext fun i hi => by
              show Value.int .i64 ((F i : Nat) : Int) = Value.int .i64 ((lenO c k i : Nat) : Int)
              rw [hd i hi]
              unfold lenO
              by_cases h0 : c i = 0
              · rw [if_pos h0, if_pos h0]
              · rw [if_neg h0, if_neg h0, if_neg HN1.out])
            clear hd
            go_wp2_with fail
            go_ret2
            rw [← HX.out, ← HL.out]
            exact ⟨g, rfl, HO, HGL.out, hb⟩
end Go.Proofs.Ytmmkmbinmmfblaa
