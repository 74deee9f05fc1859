/- GzPacks: any text is packed as the chapter says. -/
import Derived.Test.YtmhoejmgjbgddaaGreatOG
namespace Go.Proofs.YtmhoejmgjbgddaaGreat
open Go.RowKit
set_option maxRecDepth 100000 in
theorem gzPacks_any (s:ByteArray) (hs:s.size≤140737488351232) (w:World):
  Calls Tryz.prog 3 #[.string s] w fun e w'=>e= .returned (.bool true)∧Below w.heap.size w w':=by
 obtain⟨M,hM⟩:∃M,M=min s.size 1000:=⟨_,rfl⟩;obtain⟨U,hU⟩:∃U,U=s.extract 0 M:=⟨_,rfl⟩;have hUz:U.size≤1000:=by rw [hU,ByteArray.size_extract];omega
 have HM:=Lib.hid hM;have HU:=Lib.hid hU;have hM1:(M:Int)≤(s.size:Int):=by omega
 have hM2:(0:Int)≤(M:Int):=by omega
 have hM3:M≤s.size:=by omega
 clear hM hU;have C1:=fun wx=>gzPack_any U (by omega) wx
 have C2:=fun wx=>rgzPack_any U (by omega) wx
 generalize gzT U=G at*;go_enter Tryz.func3,Tryz.ntmps3;go_wp2_with fail;refine(examples12_any w).mono ?_;rintro e w1 ⟨rfl,b1⟩;have HB1:=Lib.hid b1;clear b1;go_wp2_with (refine wpList_valK (.int .i64 ((min s.size 1000:Nat):Int)) rfl (lands_min (.tmp 9) s.size 1000 rfl rfl rfl) ?_;intro w8 h8;obtain rfl:w1=w8:=h8.symm;rw [←HM.out]);rw [←HU.out];refine(C1 w1).mono ?_;rintro e w2 ⟨rfl,b2⟩;have HB2:=Lib.hid (HB1.out.trans (b2.mono HB1.out.size));clear b2 HB1;go_wp2_with fail;refine(C2 w2).mono ?_;rintro e w3 ⟨rfl,b3⟩;have HB3:=Lib.hid (HB2.out.trans (b3.mono HB2.out.size));clear b3 HB2;go_wp2_with fail;go_ret;exact⟨rfl,HB3.out⟩
end Go.Proofs.YtmhoejmgjbgddaaGreat
