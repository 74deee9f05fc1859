/- The example of chapter 6 in numbers. (written by mkTb.py) -/
import Derived.Test.YtggalphgnloneaaGreatTa
namespace Go.Proofs.YtggalphgnloneaaGreat
open Go.RowKit
def seedE : ByteArray := ⟨#[157, 97, 177, 157, 239, 253, 90, 96, 186, 132, 74, 244, 146, 236, 44, 196, 68, 73, 197, 105, 123, 50, 105, 25, 112, 59, 172, 3, 28, 174, 127, 96]⟩
def numE : ByteArray := ⟨#[48, 124, 131, 134, 79, 40, 51, 203, 66, 122, 46, 241, 192, 10, 1, 60, 253, 255, 39, 104, 217, 128, 192, 163, 165, 32, 240, 6, 144, 77, 233, 79]⟩
def preE : ByteArray := ⟨#[155, 79, 10, 254, 40, 11, 116, 106, 119, 134, 132, 231, 84, 66, 80, 32, 87, 183, 71, 58, 3, 240, 143, 150, 245, 163, 142, 146, 135, 224, 31, 143]⟩
def pubE : ByteArray := ⟨#[215, 90, 152, 1, 130, 177, 10, 183, 213, 75, 254, 211, 201, 100, 7, 58, 14, 225, 114, 243, 218, 166, 35, 37, 175, 2, 26, 104, 247, 7, 81, 26]⟩
def rE : ByteArray := ⟨#[243, 137, 7, 48, 140, 137, 61, 234, 242, 68, 120, 125, 180, 175, 83, 104, 34, 73, 16, 116, 24, 175, 194, 237, 197, 143, 117, 172, 88, 160, 116, 4]⟩
def fstE : ByteArray := ⟨#[229, 86, 67, 0, 195, 96, 172, 114, 144, 134, 226, 204, 128, 110, 130, 138, 132, 135, 127, 30, 184, 229, 217, 116, 216, 115, 224, 101, 34, 73, 1, 85]⟩
def kE : ByteArray := ⟨#[134, 234, 188, 142, 76, 150, 25, 61, 41, 5, 4, 231, 198, 0, 223, 108, 248, 216, 37, 97, 49, 236, 44, 19, 138, 62, 126, 22, 46, 82, 84, 4]⟩
def sndE : ByteArray := ⟨#[95, 184, 130, 21, 144, 163, 59, 172, 198, 30, 57, 112, 28, 249, 180, 107, 210, 91, 245, 240, 89, 91, 190, 36, 101, 81, 65, 67, 142, 122, 16, 11]⟩
def sigE : ByteArray := ⟨#[229, 86, 67, 0, 195, 96, 172, 114, 144, 134, 226, 204, 128, 110, 130, 138, 132, 135, 127, 30, 184, 229, 217, 116, 216, 115, 224, 101, 34, 73, 1, 85, 95, 184, 130, 21, 144, 163, 59, 172, 198, 30, 57, 112, 28, 249, 180, 107, 210, 91, 245, 240, 89, 91, 190, 36, 101, 81, 65, 67, 142, 122, 16, 11]⟩
def s1L : List UInt8 := [53, 124, 131, 134, 79, 40, 51, 203, 66, 122, 46, 241, 192, 10, 1, 60, 253, 255, 39, 104, 217, 128, 192, 163, 165, 32, 240, 6, 144, 77, 233, 15, 155, 79, 10, 254, 40, 11, 116, 106, 119, 134, 132, 231, 84, 66, 80, 32, 87, 183, 71, 58, 3, 240, 143, 150, 245, 163, 142, 146, 135, 224, 31, 143]
theorem s1_sum : (L2.H0.write (lB seedE)).out = s1L := by decide +kernel
def s2L : List UInt8 := [182, 177, 156, 216, 224, 66, 111, 89, 131, 250, 17, 45, 137, 161, 67, 170, 151, 218, 184, 188, 93, 235, 141, 91, 98, 83, 201, 40, 182, 82, 114, 244, 4, 64, 152, 194, 169, 144, 3, 156, 222, 91, 106, 72, 24, 223, 11, 251, 110, 64, 220, 93, 238, 84, 36, 128, 50, 150, 35, 35, 231, 1, 53, 45]
theorem s2_sum : (L2.H0.write (lB preE ++ lB ⟨#[]⟩)).out = s2L := by decide +kernel
def s3L : List UInt8 := [39, 113, 6, 43, 107, 83, 111, 231, 255, 189, 218, 3, 32, 195, 130, 123, 3, 93, 241, 13, 40, 77, 243, 240, 130, 34, 240, 77, 188, 167, 164, 194, 14, 241, 91, 220, 152, 138, 34, 199, 32, 116, 17, 55, 124, 51, 242, 172, 9, 177, 232, 106, 4, 98, 52, 40, 55, 104, 238, 123, 160, 60, 14, 159]
theorem s3_sum : (L2.H0.write (lB fstE ++ lB pubE ++ lB ⟨#[]⟩)).out = s3L := by decide +kernel
theorem sumV_of {l o : List UInt8} (h : (L2.H0.write l).out = o) : sumV l = ⟨o.toArray⟩ := by unfold sumV; rw [h]
theorem s1_is : sumV (lB seedE) = ⟨s1L.toArray⟩ := sumV_of s1_sum
theorem s2_is : sumV (lB preE ++ lB ⟨#[]⟩) = ⟨s2L.toArray⟩ := sumV_of s2_sum
theorem s3_is : sumV (lB fstE ++ lB pubE ++ lB ⟨#[]⟩) = ⟨s3L.toArray⟩ := sumV_of s3_sum
theorem num_E : numS seedE = numE := by unfold numS; rw [s1_is]; decide +kernel
theorem pre_E : preS seedE = preE := by unfold preS; rw [s1_is]; decide +kernel
theorem point_of {r : R3} {S : Pt} (hS : onC S) (h : Rep r S) (x y : Nat) (hx : x < pP) (hy : y < pP) (ex : mulP x r.z = r.x % pP) (ey : mulP y r.z = r.y % pP) : S = ⟨x, y⟩ := by
  have h1 := h.x
  have h2 := h.y
  have kx := mulP_D x r.z
  have ky := mulP_D y r.z
  rw [ex] at kx
  rw [ey] at ky
  have mx := mod_D r.x
  have my := mod_D r.y
  refine Pt.same (D0.nat hS.x hx ?_) (D0.nat hS.y hy ?_)
  · exact D0.cancel (u := (r.z : Int)) (D0.lin3 (-1) 1 (-1) h1 kx mx (by show (r.z : Int) * (S.x - x) = _; grind)) h.z
  · exact D0.cancel (u := (r.z : Int)) (D0.lin3 (-1) 1 (-1) h2 ky my (by show (r.z : Int) * (S.y - y) = _; grind)) h.z
theorem base_times (N x y : Nat) (hN : N < 2 ^ 255) (hx : x < pP) (hy : y < pP) (ex : mulP x (runP bP N 255 255).z = (runP bP N 255 255).x % pP) (ey : mulP y (runP bP N 255 255).z = (runP bP N 255 255).y % pP) : pmul bP N = ⟨x, y⟩ := by
  have h := rep_runP base_on N 255 hN 255 (Nat.le_refl _)
  rw [Nat.sub_self, show topB N 0 = N by unfold topB; simp] at h
  exact point_of (pmul_on base_on N) h x y hx hy ex ey
theorem pub_pt : pmul bP 36144925721603087658594284515452164870581325872720374094707712194495455132720 = ⟨38815646466658113194383306759739515082307681141926459231621296960732224964046, 11903303657706407974989296177215005343713679411332034699907763981919547054807⟩ := base_times _ _ _ (by decide) (by decide) (by decide) (by decide +kernel) (by decide +kernel)
theorem fst_pt : pmul bP 2015312323900227545039973048451112962192803170366412514267238242679089760755 = ⟨44370630452101398467924320556439323233869374150616132215183787387252341590058, 38448863731492799660668882834560725606410712239157980760146247592118262650597⟩ := base_times _ _ _ (by decide) (by decide) (by decide) (by decide +kernel) (by decide +kernel)
theorem num_n : numV numE 32 = 36144925721603087658594284515452164870581325872720374094707712194495455132720 := by decide +kernel
theorem r_n : numV rE 32 = 2015312323900227545039973048451112962192803170366412514267238242679089760755 := by decide +kernel
theorem pub_E : tbV numE = pubE := by unfold tbV; rw [num_n, pub_pt]; decide +kernel
theorem r_E : rS seedE ⟨#[]⟩ = rE := by unfold rS; rw [pre_E, s2_is]; decide +kernel
theorem fst_E : firstS seedE ⟨#[]⟩ = fstE := by unfold firstS; rw [r_E]; unfold tbV; rw [r_n, fst_pt]; decide +kernel
theorem public_E : publicV seedE = pubE := by unfold publicV; rw [num_E, pub_E]
theorem k_E : kS fstE pubE ⟨#[]⟩ = kE := by unfold kS; rw [s3_is]; decide +kernel
theorem snd_E : secondS seedE ⟨#[]⟩ = sndE := by unfold secondS; rw [fst_E, public_E, k_E, num_E, r_E]; decide +kernel
theorem sig_E : signV seedE ⟨#[]⟩ = sigE := by unfold signV; rw [fst_E, snd_E]; decide +kernel
theorem pubA_E : pubA seedE = (pubE, true) := by unfold pubA; rw [if_pos (by decide), public_E]
theorem sigA_E : sigA seedE ⟨#[]⟩ = (sigE, true) := by unfold sigA; rw [if_pos (by decide), sig_E]
end Go.Proofs.YtggalphgnloneaaGreat
