/- Bytes of the layer field. -/
import Derived.Test.YtjggclhhimccoaaGu
namespace Go.Proofs.Ytjggclhhimccoaa
open Go.RowKit
abbrev r8 (n : Nat) (f : Nat → BitVec 8) : Array Value := row n fun i => Value.int .u8 (iw (f i))
/-- A block of bytes as a string. -/
theorem run_string_of_blk {P : Program} (w : World) (src dst e : Nat) (hs : P.underlying src = some (.slice e)) (he : P.underlying e = some (.int .u8)) (hd : P.underlying dst = some .string)
    (g n cap : Nat) (t : TypeId) (f : Nat → BitVec 8) (h : Blk w g t (r8 n f)) : (convert src dst (.slice (some ⟨g, 0, none⟩) n cap)).run P w = .ok (.string ⟨(asBytes ((List.range n).map f)).toArray⟩) w := by
  rw [run_convert_bytes_string w src dst e _ _ _ hs he hd]
  rw [run_bytesToString w ⟨g, 0, none⟩ n cap (((List.range n).map f).map iw)]
  · rw [foldl_push]; simp
  · have := run_loadCells_list (P := P) w ⟨g, 0, none⟩ ((List.range n).map fun i => Value.int .u8 (iw (f i))) (fun j u hu => by
      have hadd : (⟨g, 0, none⟩ : Addr).add j = ⟨g, j, none⟩ := by unfold Addr.add; split <;> simp_all
      rw [hadd]
      simp only [List.getElem?_map, Option.map_eq_some_iff] at hu
      obtain ⟨i, hi, rfl⟩ := hu
      obtain ⟨hlt, rfl⟩ : j < n ∧ i = j := by
        by_cases hj : j < n
        · rw [List.getElem?_range hj] at hi
          exact ⟨hj, (Option.some.inj hi).symm⟩
        · rw [List.getElem?_eq_none (by simp; omega)] at hi
          cases hi
      exact h.at_ hlt)
    rw [List.length_map, List.length_range] at this
    rw [this]
    congr 2
    simp [Function.comp_def]
def bytesV (n : Nat) : ByteArray := ⟨(asBytes ((List.range 32).map fun i => BitVec.ofNat 8 (byteN n i))).toArray⟩
def bF (n k i : Nat) : BitVec 8 := if i < k then BitVec.ofNat 8 (byteN n i) else litw 8 0
/-- Within Bytes: the number, the bytes so far. -/
structure ByW (n k g : Nat) (w wr : World) : Prop where
  d : Blk wr w.heap.size 24 (r64 4 (F4 n))
  o : Blk wr g 58 (r8 32 (bF n k))
  l : Below w.heap.size w wr
  lt : w.heap.size < g
theorem ByW.put {n k g : Nat} {w wr : World} (h : ByW n k g w wr) (hk : k < 32) : ByW n (k + 1) g w (wr.setCell ⟨g, k, none⟩ (.int .u8 (iw (BitVec.ofNat 8 (byteN n k))))) :=
  ⟨h.d.far (by have := h.lt; simp; omega) _, (h.o.put hk _).cast_ (row_ext fun i _ => by
    unfold bF
    by_cases h1 : i = k
    · subst h1; rw [if_pos rfl, if_pos (by omega)]
    · rw [if_neg h1]
      by_cases h2 : i < k
      · rw [if_pos h2, if_pos (by omega)]
      · rw [if_neg h2, if_neg (by omega)]), h.l.setCell (by have := h.lt; simp; omega) _, h.lt⟩
theorem bF_none (n : Nat) : (Array.replicate 32 (Value.int .u8 0)) = r8 32 (bF n 0) := by
  have : r8 32 (bF n 0) = r8 32 (fun _ => litw 8 0) := row_ext fun i _ => by unfold bF; rw [if_neg (by omega)]
  rw [this]; simp only [r8, iw_zero]; rfl
theorem bF_all (n : Nat) : (asBytes ((List.range 32).map (bF n 32))) = asBytes ((List.range 32).map fun i => BitVec.ofNat 8 (byteN n i)) := by
  have : (List.range 32).map (bF n 32) = (List.range 32).map fun i => BitVec.ofNat 8 (byteN n i) := List.map_congr_left fun i hi => by
    unfold bF; rw [if_pos (List.mem_range.1 hi)]
  rw [this]
theorem byte_word' (n q r : Nat) (hr : r < 8) : castw 8 (shrw (F4 n q) (r * 8)) = BitVec.ofNat 8 (byteN n (8 * q + r)) := by
  rw [Nat.mul_comm]; exact byte_word n q r hr
set_option maxRecDepth 100000 in
set_option maxHeartbeats 2000000 in
theorem fbytes_any (a : Nat) (w : World) (ha : a < M256) :
    Calls Try.prog 26 #[.agg (r64 4 (F4 a))] w fun e w' => e = .returned (.string (bytesV (a % pP))) ∧ Below w.heap.size w w' := by
  have HS := Lib.hid fe_size
  have hal : Try.prog.arrayLen 24 = 4 := by kernel_rfl
  have hal2 : Try.prog.arrayLen 58 = 32 := by kernel_rfl
  have L0 := KF.mk1 w (F4 a)
  go_enter Try.func26, Try.ntmps26
  go_wp2_with (refine wpList_load_row rfl 24 _ rfl w.heap.size rfl 24 _ (0, 0) _ (L0.blk _ m0) Try.underlying24 rfl (HS.out _) ?_)
  refine (reduced_any a _ ha).mono ?_
  rintro e w1 ⟨rfl, hq⟩
  have h1 := L0.below hq
  clear L0 hq
  generalize hN : a % pP = n
  have HN := Lib.hid hN
  clear hN
  go_wp2_with (refine wpList_store_row rfl 24 _ _ rfl w.heap.size (r64 4 (F4 n)) rfl rfl 24 _ (h1.blk _ m0) (HS.out _) (by simp only [row_size]) (row_one fun _ => rfl) ?_; refine wpList_gen (KF w.heap.size w [(w.heap.size, F4 n)]) (h1.put0 (by omega) (fun x hx => by cases hx) _) (fun w2 h2 => ?_))
  clear h1
  go_loopw [7] (fun i wr => ∃ k : Nat, k ≤ 32 ∧ i = .int .i64 (k : Int) ∧ ByW n k w2.heap.size w wr) (fun i _ => 32 - (intOf i).toNat)
  case atStart => exact ⟨0, by omega, rfl, ⟨(h2.blk _ m0).alloc _, (Blk.new w2 _ _).cast_ (bF_none n), h2.b.alloc h2.lo _, h2.lt _ m0⟩⟩
  case round =>
    obtain ⟨k, hk, rfl, hr⟩ := hrel
    clear h2
    by_cases hlt : k < 32
    · obtain ⟨q, hqd⟩ : ∃ q, q = k / 8 := ⟨_, rfl⟩
      obtain ⟨r, hrd⟩ : ∃ r, r = k % 8 := ⟨_, rfl⟩
      have hq4 : q < 4 := by omega
      have hr8' : r < 8 := by omega
      have hq : (k : Int).tdiv 8 = (q : Int) := by rw [Int.tdiv_eq_ediv_of_nonneg (by omega)]; omega
      have hr8 : (k : Int).tmod 8 = (r : Int) := by rw [Int.tmod_eq_emod_of_nonneg (by omega)]; omega
      have hl0 : (q : Int) < 4 := by omega
      have hl1 : (0 : Int) ≤ q := by omega
      have c0 := hr.d.at_ hq4
      have co := hr.o.at_ hlt
      have fo := hr.o.frozen k
      have HK := Lib.hid (hr.put hlt)
      have HW := Lib.hid (show castw 8 (shrw (F4 n q) (r * 8)) = BitVec.ofNat 8 (byteN n k) by rw [byte_word' n q r hr8', show 8 * q + r = k by omega])
      clear hqd hrd hr
      go_wp2_with fail
      rw [HW.out]
      go_roundw
      case rel => exact ⟨k + 1, by omega, by go_num, HK.out⟩
      case measure => simp [intOf]; omega
    · obtain rfl : k = 32 := by omega
      have hst := run_string_of_blk (P := Try.prog) wr 59 9 5 Try.underlying59 Try.underlying5 Try.underlying9 w2.heap.size 32 32 _ _ hr.o
      rw [bF_all] at hst
      have hst2 : (convert 59 9 (.slice (some ⟨w2.heap.size, 0, none⟩) 32 32)).run Try.prog wr = .ok (.string (bytesV n)) wr := hst
      have hl := hr.l
      clear hr hst
      go_wp2_with fail
      go_ret
      exact ⟨by rw [HN.out]; rfl, hl⟩
end Go.Proofs.Ytjggclhhimccoaa
