/- The chapter's example in numbers; points of law 5. -/
import Derived.Test.YtggalphgnloneaaQAa
namespace Go.Proofs.Ytggalphgnloneaa
open Go.RowKit
theorem base_even : oddP bP.x = false := by
  show oddB (bxP % pP) = false
  decide +kernel
def baseT : ByteArray := bytesV byP
theorem base_enc : encV bP = (baseT, true) := by
  rw [encV_on (onB_C.2 base_on), encN_even base_even]; rfl
theorem base_text : (⟨#[88]⟩ : ByteArray) ++ sixT = baseT := by
  have h : ((⟨#[88]⟩ : ByteArray) ++ sixT).data = baseT.data := by
    rw [ByteArray.data_append]
    decide +kernel
  cases hb : baseT; cases ha : (⟨#[88]⟩ : ByteArray) ++ sixT
  rw [ha, hb] at h
  exact congrArg ByteArray.mk h
theorem cnt_C' {P : Pt} (h : onC P) : cnt P = P := cnt_on (onB_C.2 h)
theorem cnt_base : cnt bP = bP := cnt_C' base_on
theorem cnt_zero : cnt pZ = pZ := cnt_C' pZ_on
theorem base_plus : padd (cnt bP) (cnt pZ) = bP := by rw [cnt_base, cnt_zero, padd_zero base_on]
theorem text_self' (r : ByteArray) : (r.toList == r.toList) = true := by simp
theorem negP_twice {x : Nat} (h : x < pP) : negP (negP x) = x := by
  refine D0.nat (negP_p _) h ?_
  exact D0.lin2 1 (-1) (negP_D (negP x)) (negP_D x) (by omega)
theorem pneg_twice {P : Pt} (h : onC P) : pneg (pneg P) = P := Pt.same (negP_twice h.x) rfl
theorem size_six : sixT.size = 31 := rfl
end Go.Proofs.Ytggalphgnloneaa
