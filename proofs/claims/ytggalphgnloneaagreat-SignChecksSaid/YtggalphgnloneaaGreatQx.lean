/- Decode in numbers. -/
import Derived.Test.YtggalphgnloneaaGreatQw
namespace Go.Proofs.YtggalphgnloneaaGreat
open Go.RowKit
theorem byteK_mod (n m j : Nat) (h : j < m) : byteK (n % 2 ^ (8 * m)) j = byteK n j := by
  unfold byteK
  obtain ⟨d, rfl⟩ : ∃ d, m = j + 1 + d := ⟨m - (j + 1), by omega⟩
  rw [show 8 * (j + 1 + d) = 8 * j + (8 + 8 * d) by omega, Nat.pow_add, Nat.mod_mul_right_div_self, Nat.pow_add, Nat.mod_mod_of_dvd _ (Nat.dvd_mul_right _ _)]
/-- A text of 32 bytes by its bytes. -/
theorem text_is {t : ByteArray} (h : t.size = 32) {n : Nat} (hb : ∀ j, j < 32 → byteS t j = byteK n j) : t = bytesV n := by
  rw [← bytes_bv_S t h, bv_congr 32 hb, bv_bytes]
  unfold bytesV
  have : ((List.range 32).map fun i => BitVec.ofNat 8 (byteK (n % 2 ^ (8 * 32)) i)) = (List.range 32).map fun i => BitVec.ofNat 8 (byteK n i) := List.map_congr_left fun i hi => by
    rw [byteK_mod n 32 i (List.mem_range.1 hi)]
  rw [this]
def yV (s : ByteArray) : Nat := bv (byteS s) 32 % B255
theorem yV_lt (s : ByteArray) : yV s < B255 := Nat.mod_lt _ (by decide)
theorem yV_byte (s : ByteArray) (j : Nat) (hj : j < 32) : byteK (yV s) j = if j = 31 then byteS s 31 % 128 else byteS s j := by
  have e : B255 = 128 * 2 ^ (8 * 31) := by decide
  by_cases h1 : j = 31
  · subst h1
    rw [if_pos rfl, ← bv_byte (byteS s) (byteS_lt s) 31 32 (by decide)]
    unfold yV byteK
    generalize bv (byteS s) 32 = N
    rw [e, Nat.mul_comm, Nat.mod_mul_right_div_self]
    omega
  · rw [if_neg h1, ← bv_byte (byteS s) (byteS_lt s) j 32 hj]
    unfold yV byteK
    obtain ⟨d, hd⟩ : ∃ d, 31 = j + 1 + d := ⟨30 - j, by omega⟩
    have e2 : B255 = 2 ^ (8 * j) * (256 * (128 * 2 ^ (8 * d))) := by
      rw [e, hd, show 8 * (j + 1 + d) = 8 * j + (8 + 8 * d) by omega, Nat.pow_add, Nat.pow_add, show (256 : Nat) = 2 ^ 8 by rfl]
      rw [Nat.mul_left_comm 128, Nat.mul_left_comm 128]
    rw [e2, Nat.mod_mul_right_div_self, Nat.mod_mul_right_mod]
theorem make_of {n : Nat} (h : n < B255) : makeV (bytesV n) = if n % pP = n then (n, true) else (0, false) := by
  have e : bv (byteS (bytesV n)) 32 = n := by
    rw [bv_congr 32 (fun j hj => byteS_bytesV n j hj), bv_bytes]
    exact Nat.mod_eq_of_lt (Nat.lt_trans h (by decide))
  unfold makeV
  rw [if_pos (bytesV_size n), e]
theorem wpList_skipG {P : Program} {ops : Array Oper} {Q : Exit → Act → World → Prop} {o : Oper} {rest : List Oper} {a : Act} {w : World} (hw : Region.wanted o (yielded ops a.tmps) = false) (k : wpList P ops Q rest (a.put o.dst undef) w) : wpList P ops Q (o :: rest) a w :=
  wpList_step fun _ hK => by rw [if_neg (by rw [hw]; decide)]; exact hK _ _ k
theorem size_append (a b : ByteArray) : (a ++ b).size = a.size + b.size := by simp
theorem byteS_append (a b : ByteArray) (j : Nat) : byteS (a ++ b) j = if j < a.size then byteS a j else byteS b (j - a.size) := by
  unfold byteS
  have hs := size_append a b
  by_cases h1 : j < a.size
  · rw [if_pos h1, dif_pos (by omega), dif_pos h1]
    congr 1
    exact ByteArray.getElem_append_left h1
  · rw [if_neg h1]
    by_cases h2 : j - a.size < b.size
    · rw [dif_pos (by omega), dif_pos h2]
      congr 1
      exact ByteArray.getElem_append_right (by omega)
    · rw [dif_neg (by omega), dif_neg h2]
theorem byteS_extract' (s : ByteArray) (n j : Nat) (hn : n ≤ s.size) (hj : j < n) : byteS (s.extract 0 n) j = byteS s j := by
  unfold byteS
  have h1 : j < (s.extract 0 n).size := by rw [ByteArray.size_extract]; omega
  rw [dif_pos h1, dif_pos (by omega), ByteArray.getElem_extract]
  congr 2; omega
/-- The text without its highest bit. -/
theorem low_text (s : ByteArray) (h : s.size = 32) (b : UInt8) (hb : b.toNat = byteS s 31 % 128) : s.extract 0 31 ++ ⟨#[b]⟩ = bytesV (yV s) := by
  have h31 : (s.extract 0 31).size = 31 := by simp; omega
  refine text_is (by rw [size_append, h31]; rfl) fun j hj => ?_
  rw [byteS_append, h31, yV_byte s j hj]
  by_cases h1 : j = 31
  · subst h1
    rw [if_neg (by decide), if_pos rfl, ← hb]
    rfl
  · rw [if_pos (by omega), if_neg h1, byteS_extract' s 31 j (by omega) (by omega)]
theorem and127' : ∀ x : Fin 256, bits .and .u8 (x.val : Int) 127 = ((x.val % 128 : Nat) : Int) := by decide +kernel
theorem and127 (x : Nat) (h : x < 256) : bits .and .u8 (x : Int) 127 = ((x % 128 : Nat) : Int) := and127' ⟨x, h⟩
theorem lands_skip {P : Program} {R : World → Prop} {r : Result Next} {w : World} (h : r = .ok .skip w) (hR : R w) : Lands P R undef r := by subst h; exact ⟨rfl, hR⟩
theorem KD.cellfar {B g k : Nat} {w0 w : World} {l : Blks} (h : KD B w0 l w) (hne : ∀ x ∈ l, x.1 < g) (hge : B ≤ g) (u : Value) : KD B w0 l (w.setCell ⟨g, k, none⟩ u) :=
  ⟨h.b.setCell hge _, by simp [World.setCell]; exact h.lo, fun x hx => (h.blk x hx).far (by have := hne x hx; simp; omega) _, h.ge, h.nd⟩
/-- The bit above a point's y. -/
theorem bit255 (s : ByteArray) : bitI s 255 = byteS s 31 / 128 := by
  unfold bitI bitS
  rw [if_neg (by decide)]
  have := byteS_lt s 31
  show byteS s (255 / 8) / 2 ^ (255 % 8) % 2 = _
  rw [show 255 / 8 = 31 by decide, show 255 % 8 = 7 by decide, show 2 ^ 7 = 128 by decide]
  omega
/-- A root's point is on the curve. -/
theorem root_on {x y : Nat} (hy : y < pP) (h : rV (subP (mulP y y) 1) (addP (mulP dP (mulP y y)) 1) = (x, true)) : onC ⟨x, y⟩ := by
  rw [rV_eq] at h
  obtain ⟨h1, h2, _⟩ := rootV_ok h
  refine ⟨h2, hy, ?_⟩
  have e : tsV (addP (mulP dP (mulP y y)) 1) x = mulP (addP (mulP dP (mulP y y)) 1) (mulP x x) := rfl
  rw [e, Nat.mod_eq_of_lt (subP_p _ _)] at h1
  have hy2 := cM (c0 (y : Int)) (c0 (y : Int))
  have hu := cS hy2 (c0 ((1 : Nat) : Int))
  have hv := cM (cA (cM (c0 (dP : Int)) hy2) (c0 ((1 : Nat) : Int))) (cM (c0 (x : Int)) (c0 (x : Int)))
  rw [h1] at hv
  show D0 ((y : Int)^2 - (x : Int)^2 - 1 - dP*(x : Int)^2*(y : Int)^2)
  clear h1 hy2
  generalize ((subP (mulP y y) 1 : Nat) : Int) = u at hu hv
  exact D0.lin2 1 (-1) hv hu (by grind)
theorem root_even {x u v : Nat} (h : rV u v = (x, true)) : oddP x = false := by
  rw [rV_eq] at h
  exact (rootV_ok h).2.2
theorem neg_same {x : Nat} (h : x < pP) : negP x = x ↔ x = 0 := by
  unfold negP
  rw [Nat.mod_eq_of_lt h]
  have hp : pP = 57896044618658097711785492504343953926634992332820282019728792003956564819949 := rfl
  by_cases h0 : x = 0
  · subst h0; rw [Nat.sub_zero, Nat.mod_self]
  · rw [Nat.mod_eq_of_lt (by omega)]
    rw [hp] at *
    omega
theorem byte1 (z : Nat) (h : z < 256) : #[Value.int .u8 (z : Int)] = r8 1 (fun _ => BitVec.ofNat 8 z) := by
  have e : iw (BitVec.ofNat 8 z) = (z : Int) := by unfold iw; rw [BitVec.toNat_ofNat, Nat.mod_eq_of_lt (show z < 2 ^ 8 by omega)]
  show _ = #[Value.int .u8 (iw (BitVec.ofNat 8 z))]
  rw [e]
/-- One byte as a text. -/
def oneB (z : Nat) : ByteArray := ⟨(asBytes ((List.range 1).map fun _ => BitVec.ofNat 8 z)).toArray⟩
theorem oneB_size (z : Nat) : (oneB z).size = 1 := rfl
theorem one_back {w : World} {g : Nat} {t : TypeId} (z : Nat) (h : z < 256) (hb : Blk w g t #[Value.int .u8 (z : Int)]) : (convert 29 9 (.slice (some ⟨g, 0, none⟩) 1 1)).run Tryz.prog w = .ok (.string (oneB z)) w :=
  run_string_of_blk (P := Tryz.prog) w 29 9 5 Tryz.underlying29 Tryz.underlying5 Tryz.underlying9 g 1 1 t _ (hb.cast_ (byte1 z h))
theorem low_one (s : ByteArray) (h : s.size = 32) : s.extract 0 31 ++ oneB (byteS s 31 % 128) = bytesV (yV s) :=
  low_text s h ⟨BitVec.ofNat 8 (byteS s 31 % 128)⟩ (by
    show (BitVec.ofNat 8 (byteS s 31 % 128)).toNat = _
    rw [BitVec.toNat_ofNat, Nat.mod_eq_of_lt (by omega)])
/-- What Decode answers. -/
noncomputable def decV (s : ByteArray) : Pt × Bool :=
  if s.size = 32 ∧ yV s % pP = yV s ∧ (rV (subP (mulP (yV s) (yV s)) 1) (addP (mulP dP (mulP (yV s) (yV s))) 1)).2 = true then
    (if byteS s 31 < 128 then (⟨(rV (subP (mulP (yV s) (yV s)) 1) (addP (mulP dP (mulP (yV s) (yV s))) 1)).1, yV s⟩, true)
     else if (rV (subP (mulP (yV s) (yV s)) 1) (addP (mulP dP (mulP (yV s) (yV s))) 1)).1 = 0 then (⟨0, 0⟩, false)
     else (⟨negP (rV (subP (mulP (yV s) (yV s)) 1) (addP (mulP dP (mulP (yV s) (yV s))) 1)).1, yV s⟩, true))
  else (⟨0, 0⟩, false)
theorem decV_size {s : ByteArray} (h : ¬ s.size = 32) : decV s = (⟨0, 0⟩, false) := by unfold decV; rw [if_neg (fun c => h c.1)]
theorem decV_make {s : ByteArray} (h : ¬ yV s % pP = yV s) : decV s = (⟨0, 0⟩, false) := by unfold decV; rw [if_neg (fun c => h c.2.1)]
theorem decV_none {s : ByteArray} {x : Nat} (h : rV (subP (mulP (yV s) (yV s)) 1) (addP (mulP dP (mulP (yV s) (yV s))) 1) = (x, false)) : decV s = (⟨0, 0⟩, false) := by
  unfold decV; rw [if_neg (fun c => by rw [h] at c; cases c.2.2)]
theorem decV_even {s : ByteArray} {x : Nat} (hs : s.size = 32) (hm : yV s % pP = yV s) (h : rV (subP (mulP (yV s) (yV s)) 1) (addP (mulP dP (mulP (yV s) (yV s))) 1) = (x, true)) (hb : byteS s 31 < 128) : decV s = (⟨x, yV s⟩, true) := by
  unfold decV; rw [if_pos ⟨hs, hm, by rw [h]⟩, if_pos hb, h]
theorem decV_same {s : ByteArray} {x : Nat} (hs : s.size = 32) (hm : yV s % pP = yV s) (h : rV (subP (mulP (yV s) (yV s)) 1) (addP (mulP dP (mulP (yV s) (yV s))) 1) = (x, true)) (hb : ¬ byteS s 31 < 128) (hx : x = 0) : decV s = (⟨0, 0⟩, false) := by
  unfold decV; rw [if_pos ⟨hs, hm, by rw [h]⟩, if_neg hb, h, if_pos hx]
theorem decV_odd {s : ByteArray} {x : Nat} (hs : s.size = 32) (hm : yV s % pP = yV s) (h : rV (subP (mulP (yV s) (yV s)) 1) (addP (mulP dP (mulP (yV s) (yV s))) 1) = (x, true)) (hb : ¬ byteS s 31 < 128) (hx : ¬ x = 0) : decV s = (⟨negP x, yV s⟩, true) := by
  unfold decV; rw [if_pos ⟨hs, hm, by rw [h]⟩, if_neg hb, h, if_neg hx]
theorem make_yes {s : ByteArray} (hm : yV s % pP = yV s) : makeV (bytesV (yV s)) = (yV s, true) := by rw [make_of (yV_lt s), if_pos hm]
theorem make_not {s : ByteArray} (hm : ¬ yV s % pP = yV s) : makeV (bytesV (yV s)) = (0, false) := by rw [make_of (yV_lt s), if_neg hm]
theorem yV_M (s : ByteArray) : yV s < M256 := Nat.lt_trans (yV_lt s) (by decide)
theorem yV_p {s : ByteArray} (hm : yV s % pP = yV s) : yV s < pP := by rw [← hm]; exact Nat.mod_lt _ pP_pos
theorem rmake_is (s : ByteArray) (y : Nat) (b : Bool) (w : World) (h : makeV s = (y, b)) :
    Calls Tryz.prog 63 #[.string s] w fun e w' => e = .returned (.tuple #[.agg (r64 4 (F4 y)), .bool b]) ∧ Below w.heap.size w w' := by
  have := rmake_any s w
  rw [h] at this; exact this
end Go.Proofs.YtggalphgnloneaaGreat
