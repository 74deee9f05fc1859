/- A signature's second half and the order, added byte by byte. -/
import Derived.Test.YtggalphgnloneaaGreatTf
namespace Go.Proofs.YtggalphgnloneaaGreat
open Go.RowKit
/-- What is carried into byte k. -/
def caK (S Q k : Nat) : Nat := (S % 2 ^ (8 * k) + Q % 2 ^ (8 * k)) / 2 ^ (8 * k)
theorem caK_zero (S Q : Nat) : caK S Q 0 = 0 := by unfold caK; simp [Nat.mod_one]
theorem caK_sum (S Q k : Nat) : (S + Q) / 2 ^ (8 * k) = S / 2 ^ (8 * k) + Q / 2 ^ (8 * k) + caK S Q k := by
  unfold caK
  have hP : 0 < 2 ^ (8 * k) := Nat.pow_pos (by decide)
  generalize 2 ^ (8 * k) = P at *
  have h1 := Nat.div_add_mod S P
  have h2 := Nat.div_add_mod Q P
  have h3 : S + Q = S % P + Q % P + P * (S / P + Q / P) := by rw [Nat.mul_add]; omega
  have h4 := Nat.add_mul_div_left (S % P + Q % P) (S / P + Q / P) hP
  rw [← h3] at h4
  omega
theorem caK_byte (S Q k : Nat) : (byteK S k + byteK Q k + caK S Q k) % 256 = byteK (S + Q) k := by
  have h := caK_sum S Q k
  unfold byteK
  rw [h]; omega
theorem caK_next (S Q k : Nat) : (byteK S k + byteK Q k + caK S Q k) / 256 = caK S Q (k + 1) := by
  have h := caK_sum S Q k
  have h2 := caK_sum S Q (k + 1)
  rw [pow8, ← Nat.div_div_eq_div_mul, ← Nat.div_div_eq_div_mul, ← Nat.div_div_eq_div_mul, h] at h2
  unfold byteK
  omega
theorem caK_le (S Q k : Nat) : caK S Q k ≤ 1 := by
  unfold caK
  have hP : 0 < 2 ^ (8 * k) := Nat.pow_pos (by decide)
  generalize 2 ^ (8 * k) = P at *
  have h1 := Nat.mod_lt S hP
  have h2 := Nat.mod_lt Q hP
  have : (S % P + Q % P) / P < 2 := (Nat.div_lt_iff_lt_mul hP).2 (by omega)
  omega
/-- n bytes by their numbers. -/
def textN (n : Nat) (f : Nat → Nat) : ByteArray := ⟨(asBytes ((List.range n).map fun i => BitVec.ofNat 8 (f i))).toArray⟩
theorem textN_size (n : Nat) (f : Nat → Nat) : (textN n f).size = n := by
  show Array.size _ = n
  simp [asBytes]
theorem byteS_textN (n : Nat) (f : Nat → Nat) (j : Nat) (hj : j < n) (hf : f j < 256) : byteS (textN n f) j = f j := by
  unfold byteS
  rw [dif_pos (by rw [textN_size]; exact hj)]
  have : (textN n f)[j]'(by rw [textN_size]; exact hj) = UInt8.ofBitVec (BitVec.ofNat 8 (f j)) := by
    have hl : j < (asBytes ((List.range n).map fun i => BitVec.ofNat 8 (f i))).toArray.size := by simp [asBytes]; exact hj
    show (asBytes ((List.range n).map fun i => BitVec.ofNat 8 (f i))).toArray[j]'hl = _
    simp [asBytes]
  rw [this]
  show (BitVec.ofNat 8 (f j)).toNat = _
  rw [BitVec.toNat_ofNat, Nat.mod_eq_of_lt (show f j < 2 ^ 8 by omega)]
theorem byteS_ext (s : ByteArray) (a b j : Nat) (hb : b ≤ s.size) (hj : a + j < b) : byteS (s.extract a b) j = byteS s (a + j) := by
  unfold byteS
  have h1 : j < (s.extract a b).size := by rw [ByteArray.size_extract]; omega
  rw [dif_pos h1, dif_pos (by omega), ByteArray.getElem_extract]
structure ClY (N : Nat) (f : Nat → Nat) (g : Nat) (wr : World) : Prop where
  c : ∀ j, j < N → wr.cell? ⟨g, j, none⟩ = some (.int .u8 (f j : Int))
  fz : ∀ j, j < N → wr.frozen? ⟨g, j, none⟩ = false
  lt : g < wr.heap.size
theorem ClY.drew {N : Nat} {f : Nat → Nat} {g : Nat} {wr : World} (h : ClY N f g wr) : ClY N f g wr.drew := ⟨h.c, h.fz, h.lt⟩
theorem ClY.below {N : Nat} {f : Nat → Nat} {g : Nat} {wr w' : World} (h : ClY N f g wr) (hb : Below wr.heap.size wr w') : ClY N f g w' :=
  ⟨fun j hj => (hb.cell (p := ⟨g, j, none⟩) h.lt).trans (h.c j hj), fun j hj => (hb.frozen (p := ⟨g, j, none⟩) h.lt).trans (h.fz j hj), Nat.lt_of_lt_of_le h.lt hb.size⟩
theorem ClY.put {N : Nat} {f : Nat → Nat} {g : Nat} {wr : World} (h : ClY N f g wr) (k : Nat) (v : Nat) : ClY N (fun j => if j = k then v else f j) g (wr.setCell ⟨g, k, none⟩ (.int .u8 (v : Int))) :=
  ⟨fun j hj => by
    by_cases h1 : j = k
    · subst h1; simp only [if_true]; exact World.cell?_setCell_same _ _ _ (h.c j hj)
    · have hne : (⟨g, k, none⟩ : Addr) ≠ ⟨g, j, none⟩ := by intro hh; injection hh with _ h2; exact h1 h2.symm
      rw [if_neg h1, World.cell?_setCell_other _ _ _ _ hne]; exact h.c j hj,
   fun j hj => (World.frozen?_setCell _ _ _ _).trans (h.fz j hj), by simp [World.setCell]; exact h.lt⟩
theorem ClY.cast {N : Nat} {f f' : Nat → Nat} {g : Nat} {wr : World} (h : ClY N f g wr) (e : f = f') : ClY N f' g wr := e ▸ h
theorem bytesN_start {N : Nat} (s : ByteArray) (w : World) (h : s.size = N) : ∃ cap W1, (convert 9 29 (.string s)).run Tryz.prog w = .ok (.slice (some ⟨w.heap.size, 0, none⟩) N cap) W1 ∧ ClY N (byteS s) w.heap.size W1 ∧ Below w.heap.size w W1 := by
  refine ⟨_, _, (Lib.run_convert_string_bytes w _ _ 5 s Tryz.underlying9 Tryz.underlying29 Tryz.underlying5).trans (by rw [h]), ?_⟩
  have hsz : ∀ j, j < N → j < (Lib.bytesCells w 5 s).size := fun j hj => by
    unfold Lib.bytesCells; rw [Array.size_append, Array.size_map]
    have : s.data.size = N := h
    omega
  refine ⟨⟨fun j hj => ?_, fun j hj => ?_, by rw [Lib.bytesWorld_size]; omega⟩, ⟨rfl, rfl, rfl, by rw [Lib.bytesWorld_size]; omega, fun k hk => Lib.bytesWorld_at_old _ _ _ _ hk⟩⟩
  · rw [Lib.bytesWorld_cell _ _ _ _ (by omega)]
    rw [← byteS_at s j (by omega)]
    congr 3
    rw [List.getD_eq_getElem?_getD, List.getElem?_eq_getElem (by simpa using (show j < s.size by omega))]
    rfl
  · have := hsz j hj
    simp [World.frozen?, Lib.bytesWorld_at_new]
    omega
theorem bytesN_end {N : Nat} {f : Nat → Nat} {g : Nat} {wr : World} (h : ClY N f g wr) (hf : ∀ j, f j < 256) (cap : Nat) : (convert 29 9 (.slice (some ⟨g, 0, none⟩) N cap)).run Tryz.prog wr = .ok (.string (textN N f)) wr := by
  have hl : (asBytes ((List.range N).map fun i => BitVec.ofNat 8 (f i))).length = N := by rw [asBytes_length]; simp
  have := run_convert_bytes_back (P := Tryz.prog) wr 29 9 5 ⟨g, 0, none⟩ cap (asBytes ((List.range N).map fun i => BitVec.ofNat 8 (f i))) Tryz.underlying29 Tryz.underlying5 Tryz.underlying9 (fun j hj => by
    rw [hl] at hj
    rw [addr_add, Nat.zero_add, h.c j hj]
    congr 2
    have hb := hf j
    simp only [asBytes, List.getElem_map, List.getElem_range]
    show (f j : Int) = ((BitVec.ofNat 8 (f j)).toNat : Int)
    rw [BitVec.toNat_ofNat, Nat.mod_eq_of_lt (show f j < 2 ^ 8 by omega)])
  rwa [hl] at this
/-- The bytes when k of the second half are added to. -/
def haF (a : ByteArray) (S Q k j : Nat) : Nat := if 32 ≤ j ∧ j < 32 + k then byteK (S + Q) (j - 32) else byteS a j
theorem haF_zero (a : ByteArray) (S Q : Nat) : haF a S Q 0 = byteS a := funext fun j => by unfold haF; rw [if_neg (by omega)]
theorem haF_lt (a : ByteArray) (S Q k j : Nat) : haF a S Q k j < 256 := by unfold haF; split; exact byteK_lt _ _; exact byteS_lt _ _
theorem haF_put (a : ByteArray) (S Q k : Nat) : (fun j => if j = 32 + k then byteK (S + Q) k else haF a S Q k j) = haF a S Q (k + 1) := funext fun j => by
  unfold haF
  by_cases h1 : j = 32 + k
  · rw [if_pos h1, if_pos (by omega), h1, Nat.add_sub_cancel_left]
  · rw [if_neg h1]
    by_cases h2 : 32 ≤ j ∧ j < 32 + k
    · rw [if_pos h2, if_pos (by omega)]
    · rw [if_neg h2, if_neg (by omega)]
theorem haF_at (a : ByteArray) (S Q k : Nat) (h : byteS a (32 + k) = byteK S k) : haF a S Q k (32 + k) = byteK S k := by
  unfold haF; rw [if_neg (by omega), h]
theorem numV_same {n m : Nat} (hn : n < 2 ^ (8 * 32)) (hm : m < 2 ^ (8 * 32)) (h : bytesV n = bytesV m) : n = m := by
  have h1 := numV_bytesV (m := 32) (by decide) hn
  rw [h, numV_bytesV (by decide) hm] at h1
  exact h1.symm
theorem two_qL : qL + qL < 2 ^ (8 * 32) := by decide
theorem over_wrong {S : Nat} (h : S < qL) : ¬ L4.redV (bytesV (S + qL)) = bytesV (S + qL) := fun e => by
  have h2 := two_qL
  have hq : 0 < qL := by decide
  rw [redV_bytesV (by omega), Nat.add_mod_right, Nat.mod_eq_of_lt h] at e
  have := numV_same (by omega) (by omega) e
  omega
theorem half_wrong (a : ByteArray) {S : Nat} (h : S < qL) : ¬ L4.redV ((textN 64 (haF a S qL 32)).extract 32 64) = (textN 64 (haF a S qL 32)).extract 32 64 := by
  have e : (textN 64 (haF a S qL 32)).extract 32 64 = bytesV (S + qL) := text_is (by rw [ByteArray.size_extract, textN_size]; rfl) fun j hj => by
    rw [byteS_ext _ _ _ _ (by rw [textN_size]; decide) (by omega), byteS_textN _ _ _ (by omega) (haF_lt _ _ _ _ _)]
    unfold haF
    rw [if_pos (by omega), Nat.add_sub_cancel_left]
  rw [e]; exact over_wrong h
theorem caK_end {S : Nat} (h : S < qL) : caK S qL 32 = 0 := by
  have h2 := two_qL
  have hq := qL_M
  unfold caK
  rw [Nat.mod_eq_of_lt (show S < 2 ^ (8 * 32) by omega), Nat.mod_eq_of_lt hq]
  exact Nat.div_eq_of_lt (by omega)
theorem second_byte (s t : ByteArray) : ∃ S, S < qL ∧ ∀ j, j < 32 → byteS (signV s t) (32 + j) = byteK S j := by
  refine ⟨_, second_lt (kS (firstS s t) (publicV s) t) (numS s) (rS s t), fun j hj => ?_⟩
  rw [← byteS_ext _ 32 64 _ (by rw [signV_size]; decide) (by omega), sign_second]
  exact byteS_bytesV _ _ hj
end Go.Proofs.YtggalphgnloneaaGreat
