/- Decode of layer 5 by names of points. -/
import Derived.Test.YtggalphgnloneaaQy
namespace Go.Proofs.Ytggalphgnloneaa
open Go.RowKit
theorem dec_is (s : ByteArray) (P : Pt) (c : Bool) (h : decV s = (P, c)) (w : World) :
    Calls Try.prog 16 #[.string s] w fun e w' => e = .returned (.tuple #[.agg (nums 2 (two P.x P.y)), .bool c]) ∧ Below w.heap.size w w' := by
  have := qdec_any s w
  rwa [h] at this
theorem decV_ok (s : ByteArray) : (decV s).1.ok := by
  have z : (Pt.mk 0 0).ok := ⟨by show 0 < M256; decide, by show 0 < M256; decide⟩
  by_cases hs : s.size = 32
  · by_cases hm : yV s % pP = yV s
    · cases hr : rV (subP (mulP (yV s) (yV s)) 1) (addP (mulP dP (mulP (yV s) (yV s))) 1) with
      | mk x b =>
        cases b with
        | false => rw [decV_none hr]; exact z
        | true =>
          by_cases hb : byteS s 31 < 128
          · rw [decV_even hs hm hr hb]; exact ⟨rV_lt hr, yV_M s⟩
          · by_cases hx : x = 0
            · rw [decV_same hs hm hr hb hx]; exact z
            · rw [decV_odd hs hm hr hb hx]; exact ⟨negP_lt _, yV_M s⟩
    · rw [decV_make hm]; exact z
  · rw [decV_size hs]; exact z
end Go.Proofs.Ytggalphgnloneaa
