/- A number by its bytes, the least one first; a text's bytes; bytes and words. -/
import Derived.Test.YtmmkmbinmmfblaaKa
import Derived.Test.YtmmkmbinmmfblaaGx
import Derived.Test.YtmmkmbinmmfblaaCopy
namespace Go.Proofs.Ytmmkmbinmmfblaa
open Go.RowKit
def byteS (s : ByteArray) (j : Nat) : Nat := if h : j < s.size then (s[j]).toNat else 0
theorem byteS_lt (s : ByteArray) (j : Nat) : byteS s j < 256 := by
  unfold byteS; split
  · exact UInt8.toNat_lt _
  · decide
theorem byteS_at (s : ByteArray) (j : Nat) (h : j < s.size) : (s[j]).toNat = byteS s j := by unfold byteS; rw [dif_pos h]
theorem byteS_out (s : ByteArray) (j : Nat) (h : ¬ j < s.size) : byteS s j = 0 := by unfold byteS; rw [dif_neg h]
/-- The number of the first n bytes, the least one first. -/
def bv (f : Nat → Nat) : Nat → Nat
  | 0 => 0
  | i + 1 => bv f i + f i * 2 ^ (8 * i)
theorem bv_lt (f : Nat → Nat) (hf : ∀ j, f j < 256) : ∀ i, bv f i < 2 ^ (8 * i)
  | 0 => by show 0 < _; exact Nat.pow_pos (by decide)
  | i + 1 => by
    have h := bv_lt f hf i
    have h1 := hf i
    rw [pow8, Nat.mul_comm]
    show bv f i + f i * 2 ^ (8 * i) < _
    have h2 : f i * 2 ^ (8 * i) ≤ 255 * 2 ^ (8 * i) := Nat.mul_le_mul_right _ (by omega)
    omega
theorem bv_byte (f : Nat → Nat) (hf : ∀ j, f j < 256) (i : Nat) : ∀ k, i < k → byteK (bv f k) i = f i
  | 0, h => by omega
  | k + 1, h => by
    have hQ : 0 < 2 ^ (8 * i) := Nat.pow_pos (by decide)
    by_cases hk : i = k
    · subst hk
      show (bv f i + f i * 2 ^ (8 * i)) / 2 ^ (8 * i) % 256 = f i
      rw [Nat.add_mul_div_right _ _ hQ, Nat.div_eq_of_lt (bv_lt f hf i), Nat.zero_add, Nat.mod_eq_of_lt (hf i)]
    · have ih := bv_byte f hf i k (by omega)
      show (bv f k + f k * 2 ^ (8 * k)) / 2 ^ (8 * i) % 256 = f i
      obtain ⟨d, rfl⟩ : ∃ d, k = i + 1 + d := ⟨k - (i + 1), by omega⟩
      have e : (2 : Nat) ^ (8 * (i + 1 + d)) = 2 ^ (8 * i) * (256 * 2 ^ (8 * d)) := by
        rw [show (256 : Nat) = 2 ^ 8 by rfl, ← Nat.pow_add, ← Nat.pow_add]; congr 1; omega
      rw [e, Nat.mul_left_comm, Nat.add_mul_div_left _ _ hQ, Nat.mul_left_comm, Nat.add_mul_mod_self_left]
      exact ih
theorem bv_congr {f g : Nat → Nat} : ∀ n, (∀ j, j < n → f j = g j) → bv f n = bv g n
  | 0, _ => rfl
  | n + 1, h => by
    show bv f n + f n * _ = bv g n + g n * _
    rw [bv_congr n (fun j hj => h j (by omega)), h n (by omega)]
/-- The number of a text's first m bytes. -/
def numV (s : ByteArray) (m : Nat) : Nat := bv (byteS s) (min s.size m)
/-- Bytes as a number again. -/
theorem bv_bytes (n : Nat) : ∀ i, bv (byteK n) i = n % 2 ^ (8 * i)
  | 0 => by show 0 = _; rw [Nat.mul_zero, Nat.pow_zero, Nat.mod_one]
  | i + 1 => by
    show bv (byteK n) i + byteK n i * 2 ^ (8 * i) = _
    rw [bv_bytes n i, mod8, Nat.mul_comm (byteK n i)]
theorem pow_split (q r : Nat) : (2 : Nat) ^ (8 * (8 * q + r)) = 2 ^ (64 * q) * 2 ^ (8 * r) := by
  rw [← Nat.pow_add]; congr 1; omega
theorem bv_word (f : Nat → Nat) (hf : ∀ j, f j < 256) (q r : Nat) (hr : r < 8) : orw (F4 (bv f (8 * q + r)) q) (shlw (nw (f (8 * q + r))) (8 * r)) = F4 (bv f (8 * q + r + 1)) q := by
  apply BitVec.eq_of_toNat_eq
  have h0 := bv_lt f hf (8 * q + r)
  have h1 := hf (8 * q + r)
  have hQ : 0 < 2 ^ (64 * q) := Nat.pow_pos (by decide)
  have hlow : bv f (8 * q + r) / 2 ^ (64 * q) < 2 ^ (8 * r) := Nat.div_lt_of_lt_mul (by rw [← pow_split]; exact h0)
  have hsum : bv f (8 * q + r + 1) / 2 ^ (64 * q) = bv f (8 * q + r) / 2 ^ (64 * q) + 2 ^ (8 * r) * f (8 * q + r) := by
    show (bv f (8 * q + r) + f (8 * q + r) * 2 ^ (8 * (8 * q + r))) / _ = _
    rw [pow_split, Nat.mul_comm (f _), Nat.mul_assoc, Nat.add_mul_div_left _ _ hQ]
  unfold orw shlw
  rw [BitVec.toNat_or, BitVec.toNat_shiftLeft, Nat.shiftLeft_eq, F4_nat, F4_nat, hsum, nw_nat _ (by unfold W64; omega)]
  generalize bv f (8 * q + r) / 2 ^ (64 * q) = x at *
  generalize f (8 * q + r) = b at *
  have hs : 2 ^ (8 * r) * b + x < 18446744073709551616 := by
    have h5 : (2 : Nat) ^ (8 * r) * 256 ≤ 18446744073709551616 := by
      rw [show (256 : Nat) = 2 ^ 8 by rfl, ← Nat.pow_add, show (18446744073709551616 : Nat) = 2 ^ 64 by rfl]
      exact Nat.pow_le_pow_right (by decide) (by omega)
    have h6 := Nat.mul_le_mul_left (2 ^ (8 * r)) (show b ≤ 255 by omega)
    omega
  have h3 := Nat.two_pow_add_eq_or_of_lt hlow b
  have e1 : x % 18446744073709551616 = x := Nat.mod_eq_of_lt (by omega)
  have e2 : b * 2 ^ (8 * r) % 2 ^ 64 = 2 ^ (8 * r) * b := by rw [Nat.mul_comm]; exact Nat.mod_eq_of_lt (by omega)
  rw [e1, e2, Nat.or_comm, ← h3, Nat.add_comm x, Nat.mod_eq_of_lt hs]
theorem bv_other (f : Nat → Nat) (hf : ∀ j, f j < 256) (q r k : Nat) (hr : r < 8) (hk : k ≠ q) : F4 (bv f (8 * q + r)) k = F4 (bv f (8 * q + r + 1)) k := by
  apply BitVec.eq_of_toNat_eq
  have h0 := bv_lt f hf (8 * q + r)
  have h1 := bv_lt f hf (8 * q + r + 1)
  rw [F4_nat, F4_nat]
  rcases Nat.lt_or_ge k q with hlt | hge
  · obtain ⟨d, rfl⟩ : ∃ d, q = k + 1 + d := ⟨q - (k + 1), by omega⟩
    show _ = (bv f (8 * (k + 1 + d) + r) + f (8 * (k + 1 + d) + r) * 2 ^ (8 * (8 * (k + 1 + d) + r))) / _ % _
    have e : (2 : Nat) ^ (8 * (8 * (k + 1 + d) + r)) = 2 ^ (64 * k) * (18446744073709551616 * 2 ^ (64 * d + 8 * r)) := by
      rw [show (18446744073709551616 : Nat) = 2 ^ 64 by rfl, ← Nat.pow_add, ← Nat.pow_add]; congr 1; omega
    rw [e, Nat.mul_left_comm, Nat.add_mul_div_left _ _ (Nat.pow_pos (by decide)), Nat.mul_left_comm, Nat.add_mul_mod_self_left]
  · have hz : ∀ x, x < 2 ^ (8 * (8 * q + r + 1)) → x / 2 ^ (64 * k) = 0 := fun x hx =>
      Nat.div_eq_of_lt (Nat.lt_of_lt_of_le hx (Nat.pow_le_pow_right (by decide) (by omega)))
    have h2 : bv f (8 * q + r) < 2 ^ (8 * (8 * q + r + 1)) := Nat.lt_of_lt_of_le h0 (Nat.pow_le_pow_right (by decide) (by omega))
    rw [hz _ h1, hz _ h2]
theorem byte_word (n q r : Nat) (hr : r < 8) : castw 8 (shrw (F4 n q) (8 * r)) = BitVec.ofNat 8 (byteK n (8 * q + r)) := by
  apply BitVec.eq_of_toNat_eq
  unfold castw shrw byteK
  rw [BitVec.toNat_ofNat, BitVec.toNat_ofNat, BitVec.toNat_ushiftRight, Nat.shiftRight_eq_div_pow, F4_nat, pow_split, ← Nat.div_div_eq_div_mul]
  generalize n / 2 ^ (64 * q) = x
  have e : (18446744073709551616 : Nat) = 2 ^ (8 * r) * 2 ^ (64 - 8 * r) := by
    rw [← Nat.pow_add, show 8 * r + (64 - 8 * r) = 64 by omega]
  rw [e, Nat.mod_mul_right_div_self, show (2 : Nat) ^ 8 = 256 by rfl, Nat.mod_mod_of_dvd _ (show 256 ∣ 2 ^ (64 - 8 * r) by
    rw [show (256 : Nat) = 2 ^ 8 by rfl]; exact Nat.pow_dvd_pow 2 (by omega)), Nat.mod_mod]
/-- The steps. -/
abbrev r8 (n : Nat) (f : Nat → BitVec 8) : Array Value := row n fun i => Value.int .u8 (iw (f i))
/-- A block of bytes as a string. -/
theorem run_string_of_blk {P : Program} (w : World) (src dst e : Nat) (hs : P.underlying src = some (.slice e)) (he : P.underlying e = some (.int .u8)) (hd : P.underlying dst = some .string)
    (g n cap : Nat) (t : TypeId) (f : Nat → BitVec 8) (h : Blk w g t (r8 n f)) : (convert src dst (.slice (some ⟨g, 0, none⟩) n cap)).run P w = .ok (.string ⟨(asBytes ((List.range n).map f)).toArray⟩) w := by
  rw [run_convert_bytes_string w src dst e _ _ _ hs he hd]
  rw [run_bytesToString w ⟨g, 0, none⟩ n cap (((List.range n).map f).map iw)]
  · rw [foldl_push]; simp
  · have := run_loadCells_list (P := P) w ⟨g, 0, none⟩ ((List.range n).map fun i => Value.int .u8 (iw (f i))) (fun j u hu => by
      have hadd : (⟨g, 0, none⟩ : Addr).add j = ⟨g, j, none⟩ := by unfold Addr.add; split <;> simp_all
      rw [hadd]
      simp only [List.getElem?_map, Option.map_eq_some_iff] at hu
      obtain ⟨i, hi, rfl⟩ := hu
      obtain ⟨hlt, rfl⟩ : j < n ∧ i = j := by
        by_cases hj : j < n
        · rw [List.getElem?_range hj] at hi
          exact ⟨hj, (Option.some.inj hi).symm⟩
        · rw [List.getElem?_eq_none (by simp; omega)] at hi
          cases hi
      exact h.at_ hlt)
    rw [List.length_map, List.length_range] at this
    rw [this]
    congr 2
    simp [Function.comp_def]
/-- The 32 bytes of a number as a text. -/
def bytesV (n : Nat) : ByteArray := ⟨(asBytes ((List.range 32).map fun i => BitVec.ofNat 8 (byteK n i))).toArray⟩
def bF (n k i : Nat) : BitVec 8 := if i < k then BitVec.ofNat 8 (byteK n i) else litw 8 0
theorem bF_none (n : Nat) : r8 32 (bF n 0) = row 32 (fun _ => Value.int .u8 0) := row_ext fun i _ => by unfold bF; rw [if_neg (by omega), iw_zero]
theorem bF_put (n k j : Nat) : (if j = k then Value.int .u8 (iw (BitVec.ofNat 8 (byteK n k))) else Value.int .u8 (iw (bF n k j))) = Value.int .u8 (iw (bF n (k + 1) j)) := by
  unfold bF
  by_cases h1 : j = k
  · subst h1; rw [if_pos rfl, if_pos (by omega)]
  · rw [if_neg h1]
    by_cases h2 : j < k
    · rw [if_pos h2, if_pos (by omega)]
    · rw [if_neg h2, if_neg (by omega)]
theorem bF_all (n : Nat) : (⟨(asBytes ((List.range 32).map (bF n 32))).toArray⟩ : ByteArray) = bytesV n := by
  unfold bytesV
  rw [show (List.range 32).map (bF n 32) = (List.range 32).map fun i => BitVec.ofNat 8 (byteK n i) from List.map_congr_left fun i hi => by
    unfold bF; rw [if_pos (List.mem_range.1 hi)]]
theorem byte_iw (n k : Nat) : (byteK n k : Int) = iw (BitVec.ofNat 8 (byteK n k)) := by
  have := byteK_lt n k
  unfold iw; rw [BitVec.toNat_ofNat, Nat.mod_eq_of_lt (show byteK n k < 2 ^ 8 by omega)]
end Go.Proofs.Ytmmkmbinmmfblaa
