/- The developers' Pack and Open of chapter 12, the examples. -/
import Derived.Test.YtmhoejmgjbgddaaGreatOD
import Derived.Test.YtmhoejmgjbgddaaGreatOB
namespace Go.Proofs.YtmhoejmgjbgddaaGreat
open Go.RowKit
set_option maxRecDepth 100000 in
theorem gzPack_any (s:ByteArray) (hs:s.size≤10000) (w:World):
  Calls Tryz.prog 10 #[.string s] w fun e w'=>e= .returned (.string (gzT s))∧Below w.heap.size w w':=by
 have C1:=fun wx=>Pack_any s wx (by omega)
 have C2:=fun wx=>seal_any s (by omega) wx
 have hP:=pack_size s (by omega)
 have hS:=sealT_size s;have HT:Hid (gzT s=plainT++packT s++sealT s):=Lib.hid rfl;have hp:plainT=⟨#[31,139,8,0,0,0,0,0,0,255]⟩:=rfl;rw [hp]at HT;generalize packT s=A at*;generalize sealT s=B at*;have hz1:¬((((⟨#[31,139,8,0,0,0,0,0,0,255]⟩:ByteArray).size+A.size:Nat):Int))>9223372036854775807:=by
  rw [show (⟨#[31,139,8,0,0,0,0,0,0,255]⟩:ByteArray).size=10 from rfl];omega
 have hz2:¬((((⟨#[31,139,8,0,0,0,0,0,0,255]⟩:ByteArray)++A).size+B.size:Nat):Int)>9223372036854775807:=by
  rw [size_app,show(⟨#[31,139,8,0,0,0,0,0,0,255]⟩:ByteArray).size=10 from rfl];omega
 clear hp;go_enter Tryz.func10,Tryz.ntmps10;go_wp2_with fail;refine(C1 _).mono ?_;rintro e w1 ⟨rfl,b1⟩;go_wp2_with fail;refine(C2 _).mono ?_;rintro e w2 ⟨rfl,b2⟩;have b2:=b1.trans (b2.mono b1.size);clear b1;go_wp2_with fail;go_ret;rw [HT.out];exact⟨rfl,b2⟩
set_option maxRecDepth 100000 in
set_option maxHeartbeats 8000000 in
theorem gzOpen_any (b:ByteArray) (most:Int) (hb:b.size≤281474976710656) (w:World):
  Calls Tryz.prog 12 #[.string b,.int .i64 most] w fun e w'=>e= .returned (.tuple #[.string (gzOpen b most).1,.int .i64 ((gzOpen b most).2:Int)])∧Below w.heap.size w w':=by
 by_cases hm:most<0∨most>1048576
 ·have HE:Hid (gzOpen b most=(⟨#[]⟩,1)):=Lib.hid (if_pos hm)
  rcases hm with hm|hm
  ·go_enter Tryz.func12,Tryz.ntmps12
   go_wp2_with fail;go_ret2;rw [HE.out];exact⟨rfl,Below.refl _ _⟩
  ·have hm0:¬most<0:=by omega
   go_enter Tryz.func12,Tryz.ntmps12
   go_wp2_with fail;go_ret2;rw [HE.out];exact⟨rfl,Below.refl _ _⟩
 ·have hm0:¬most<0:=by omega
  have hm1:¬most>1048576:=by omega
  obtain⟨g,hg⟩:∃g,g=w.heap.size:=⟨_,rfl⟩;obtain⟨w1,hw1⟩:∃w1,w1=w.alloc (.cells #[.string b,.int .i64 0] 42):=⟨_,rfl⟩;have h1:HW g b 0 w1:=⟨by rw [hw1,hg];exact Blk.new w _ _,Nat.zero_le _⟩
  have hbl:Below w.heap.size w w1:=by rw [hw1];exact(Below.refl _ w).alloc (Nat.le_refl _) _
  have HWE:=Lib.hid (⟨hw1,hg⟩:w1=w.alloc (.cells #[.string b,.int .i64 0] 42)∧g=w.heap.size);have C:=pass_any g b w1 h1 hb;have HB1:Hid (Below w.heap.size w w1∧w.heap.size≤g∧w.heap.size≤w1.heap.size):=Lib.hid ⟨hbl,by omega,hbl.size⟩
  have HE:Hid (gzOpen b most=if (bodyS b).2≠0 then(⟨#[]⟩,(bodyS b).2)else
   if(openS (b.extract (bodyS b).1 b.size) most).2.2≠0 then(⟨#[]⟩,(openS (b.extract (bodyS b).1 b.size) most).2.2)else
   if b.size-((bodyS b).1+(openS (b.extract (bodyS b).1 b.size) most).2.1)≠8 then(⟨#[]⟩,2)else
   if b.extract ((bodyS b).1+(openS (b.extract (bodyS b).1 b.size) most).2.1) b.size=sealT (txtL (openS (b.extract (bodyS b).1 b.size) most).1)then (txtL (openS (b.extract (bodyS b).1 b.size) most).1,0)else (⟨#[]⟩,8)):=Lib.hid (if_neg hm)
  have HBL:Hid ((bodyS b).2=0→(bodyS b).1≤b.size):=Lib.hid bodyS_le;unfold PassV at C;generalize bodyS b=r at*;obtain⟨a,x⟩:=r;dsimp only at C HE HBL;clear hw1 hg h1 hbl hm;by_cases hx:x=0
  ·subst hx
   have ha:=HBL.out rfl;have HE2:=Lib.hid ((HE.out).trans (if_neg (fun h=>h rfl)));have hsz:(b.extract a b.size).size=b.size-a:=by rw [ByteArray.size_extract];omega
   have CO:=fun wx=>dopen_any (b.extract a b.size) most wx trivial (by rw [hsz];omega)
   have HUL:=Lib.hid (openS_used (b.extract a b.size) most);rw [hsz]at HUL;clear HE HBL hsz;have ha1:(a:Int)≤(b.size:Int):=by omega
   have ha0:(0:Int)≤(a:Int):=by omega
   have HA:=Lib.hid ha;generalize hX:b.extract a b.size=X at*;generalize openS X most=r at*;obtain⟨L,u,y⟩:=r;dsimp only at CO HE2 HUL;have HTL:Hid ((txtL L).size=L.length):=Lib.hid (textN_size _ _);generalize txtL L=T at*;clear ha;go_enter Tryz.func12,Tryz.ntmps12;go_wp2_with fail;rw [←HWE.out.1,←HWE.out.2];refine C.mono ?_;rintro e w2 ⟨rfl,m2,k2⟩;have k2:=k2 trivial;have HK2:=Lib.hid (⟨k2,HB1.out.1.trans (m2.below HB1.out.2.1 HB1.out.2.2)⟩:HW g b a w2∧Below w.heap.size w w2);have c1:=k2.c1;clear C m2 k2;go_wp2_with fail;refine(CO _).mono ?_;rintro e w3 ⟨rfl,b3⟩;have HK3:=Lib.hid (⟨HK2.out.1.below b3,HK2.out.2.trans (b3.mono HK2.out.2.size)⟩:HW g b a w3∧Below w.heap.size w w3);clear HK2 b3 c1 CO;by_cases hy:y=0
   ·subst hy
    have HE3:=Lib.hid ((HE2.out).trans (if_neg (fun h=>h rfl)));have hul:=HUL.out;have hu0:IntKind.i64.wrap ((a:Int)+(u:Int))=((a+u:Nat):Int):=by rw [IntWalk.i64_in _ (by have:=HA.out;omega)];rfl
    have CS:=fun wx=>seal_any T (by rw [HTL.out];omega) wx
    have hS8:=sealT_size T;clear HE2;generalize sealT T=K at*;have HZ:Hid ((b.extract (a+u) b.size).size=b.size-(a+u)):=Lib.hid (by rw [ByteArray.size_extract];omega)
    have hv1:((a+u:Nat):Int)≤(b.size:Int):=by have:=HA.out;omega
    have hv0:(0:Int)≤((a+u:Nat):Int):=by omega
    generalize hV:a+u=v at*;generalize hR:b.extract v b.size=R at*;have hz0:=HZ.out;clear hul;go_wp2_with fail;refine heldJ_start (fun wx=>HW g b a wx) (by kernel_rfl) ?_
    change wpAnyH _ _ _ _ _ _ _ _ w3.drew;have HJ:=Lib.hid HK3.out.1.drew;have HB3:=Lib.hid HK3.out.2.drew;generalize w3.drew=w4 at HJ HB3⊢;clear HK3;refine heldJ_take (i:=0) (v:= .string b) rfl rfl (fun wx hJ=> ?_) HJ.out ?_
    ·go_simp;skip
    simp only [pu];refine heldJ_take (i:=1) (v:= .pointer (some ⟨g,0,none⟩)) rfl rfl (fun wx hJ=> ?_) HJ.out ?_
    ·go_simp;skip
    simp only [pu];refine heldJ_take (i:=2) (v:= .pointer (some ⟨g,0,none⟩)) rfl rfl (fun wx hJ=> ?_) HJ.out ?_
    ·go_simp;skip
    simp only [pu];refine heldJ_take (i:=3) (v:= .pointer (some ⟨g,1,none⟩)) rfl rfl (fun wx hJ=> ?_) HJ.out ?_
    ·go_simp;skip
    simp only [pu];refine heldJ_take (i:=4) (v:= .int .i64 (a:Int)) rfl rfl (fun wx hJ=> ?_) HJ.out ?_
    ·have cc:=hJ.c1;go_simp;skip
    simp only [pu];refine heldJ_take (i:=5) (v:= .int .i64 (u:Int)) rfl rfl (fun wx hJ=> ?_) HJ.out ?_
    ·go_simp;skip
    simp only [pu];refine heldJ_take (i:=6) (v:= .int .i64 (v:Int)) rfl rfl (fun wx hJ=> ?_) HJ.out ?_
    ·go_simp;skip
    simp only [pu];refine heldJ_take (i:=7) (v:= .string R) rfl rfl (fun wx hJ=> ?_) HJ.out ?_
    ·go_simp;skip
    simp only [pu];refine heldJ_take (i:=8) (v:= .string T) rfl rfl (fun wx hJ=> ?_) HJ.out ?_
    ·go_simp;skip
    simp only [pu];refine heldJ_call (i:=9) (f:=17) (by kernel_rfl) rfl rfl (by go_simp;skip) ((CS _).mono ?_)
    rintro e w5 ⟨rfl,b5⟩;have HB5:=Lib.hid (HB3.out.trans (b5.mono HB3.out.size));have HJ5:=Lib.hid (HJ.out.below b5);clear HJ HB3 b5;have HJ:=HJ5;clear HJ5;refine⟨_,rfl,HJ.out,?_⟩;simp only [pu];refine heldJ_take (i:=10) (v:= .string R) rfl rfl (fun wx hJ=> ?_) HJ.out ?_
    ·go_simp;skip
    simp only [pu];refine heldJ_take (i:=11) (v:= .string K) rfl rfl (fun wx hJ=> ?_) HJ.out ?_
    ·go_simp;skip
    simp only [pu];refine wpAnyH_done (by kernel_rfl) ?_ _
    clear HJ;have hK8:(K.size:Int)=8:=by omega
    by_cases h8:R.size=8
    ·have hR8:(R.size:Int)=8:=by omega
     by_cases hq:R=K
     ·have HE4:=Lib.hid (HE3.out.trans ((if_neg (by omega)).trans (if_pos hq)))
      clear HE3;go_wp2_with fail;go_ret2;rw [HE4.out];exact⟨rfl,HB5.out⟩
     ·have HE4:=Lib.hid (HE3.out.trans ((if_neg (by omega)).trans (if_neg hq)))
      have hql:=text_ne hq;clear HE3;go_wp2_with fail;go_ret2;rw [HE4.out];exact⟨rfl,HB5.out⟩
    ·have hR8:¬(R.size:Int)=8:=by omega
     have HE4:=Lib.hid (HE3.out.trans (if_pos (by omega)))
     clear HE3;go_wp2_with fail;go_ret2;rw [HE4.out];exact⟨rfl,HB5.out⟩
   ·have hyi:¬(y:Int)=0:=by omega
    have HE3:=Lib.hid ((HE2.out).trans (if_pos hy));go_wp2_with fail;go_ret2;rw [HE3.out];exact⟨rfl,HK3.out.2⟩
  ·have hxi:¬(x:Int)=0:=by omega
   have HE2:=Lib.hid (HE.out.trans (if_pos hx));clear HE;go_enter Tryz.func12,Tryz.ntmps12;go_wp2_with fail;rw [←HWE.out.1,←HWE.out.2];refine C.mono ?_;rintro e w2 ⟨rfl,m2,k2⟩;have HB2:=Lib.hid (HB1.out.1.trans (m2.below HB1.out.2.1 HB1.out.2.2));clear m2 k2;go_wp2_with fail;go_ret2;rw [HE2.out];exact⟨rfl,HB2.out⟩
theorem gzT_size (s:ByteArray):(gzT s).size=18+(packT s).size:=by
 have hp:plainT.size=10:=rfl;unfold gzT;rw [size_app,size_app,sealT_size,hp];omega
theorem gz_both (U:ByteArray) (hU:U.size≤1000):∃P:ByteArray,P=gzT U∧P.size≤1100∧18≤P.size∧
  Hid (∀wx,Calls Tryz.prog 10 #[.string U] wx fun e w'=>e= .returned (.string P)∧Below wx.heap.size wx w'):=by
 have hz:=pack_size U (by omega)
 have hg:=gzT_size U;exact⟨gzT U,rfl,by omega,by omega,Lib.hid fun wx=>gzPack_any U (by omega) wx⟩
theorem gz_ans (b:ByteArray) (most:Int) (hb:b.size≤281474976710656) (T:ByteArray) (x:Nat) (h:gzOpen b most=(T,x)):Hid (∀wx,Calls Tryz.prog 12 #[.string b,.int .i64 most] wx fun e w'=>e= .returned (.tuple #[.string T,.int .i64 (x:Int)])∧Below wx.heap.size wx w'):=Lib.hid fun wx=>by
 have C:=gzOpen_any b most hb wx;rw [h]at C;exact C
set_option maxRecDepth 100000 in
theorem examples12_any (w:World):Calls Tryz.prog 9 #[] w fun e w'=>e= .returned (.bool true)∧Below w.heap.size w w':=by
 have hz:(⟨#[97,98,99]⟩:ByteArray).size=3:=rfl;obtain⟨P,hP,hP1,_,HP⟩:=gz_both ⟨#[97,98,99]⟩ (by rw [hz];decide)
 have H1:=gz_ans P 3 (by omega) ⟨#[97,98,99]⟩ 0 (by rw [hP];exact gz_self _ 3 (by rw [hz];decide) (by decide))
 have H2:=gz_ans ⟨#[]⟩ 3 (by show 0≤281474976710656;decide) ⟨#[]⟩ 2 (gz_bad (.inl (by decide)) 3 (by decide))
 clear hP hP1 hz;go_enter Tryz.func9,Tryz.ntmps9;go_wp2_with fail;refine(HP.out _).mono ?_;rintro e w1 ⟨rfl,b1⟩;go_wp2_with fail;refine(H1.out _).mono ?_;rintro e w2 ⟨rfl,b2⟩;have b2:=b1.trans (b2.mono b1.size);clear b1;go_wp2_with fail;refine(H2.out _).mono ?_;rintro e w3 ⟨rfl,b3⟩;have b3:=b2.trans (b3.mono b2.size);clear b2;go_wp2_with fail;go_ret;exact⟨rfl,b3⟩
end Go.Proofs.YtmhoejmgjbgddaaGreat
