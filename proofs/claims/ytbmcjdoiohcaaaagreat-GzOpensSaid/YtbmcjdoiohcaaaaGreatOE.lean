/- OE -/
import Derived.Test.YtbmcjdoiohcaaaaGreatOD
set_option maxRecDepth 100000
set_option maxHeartbeats 8000000
namespace Go.Proofs.YtbmcjdoiohcaaaaGreat
open Go.RowKit
theorem Qsp (s:ByteArray) (hs:s.size≤10000) (w:World):
  Calls Tryz.prog 10 #[.string s] w fun e w'=>e= .returned (.string (gzT s))∧Below w.heap.size w w':=by
 have C1:=fun wx=>Qw8 s wx (by omega)
 have C2:=fun wx=>Qr0 s (by omega) wx
 have hP:=Qj2 s (by omega)
 have hS:=Qgf s;have HT:Hid (gzT s=Qob++Qgl s++Qih s):=Qh rfl;have hp:Qob=⟨#[31,139,8,0,0,0,0,0,0,255]⟩:=rfl;rw [hp]at HT;generalize Qgl s=A at*;generalize Qih s=B at*;have hz1:¬((((⟨#[31,139,8,0,0,0,0,0,0,255]⟩:ByteArray).size+A.size:Nat):Int))>9223372036854775807:=by
  rw [show (⟨#[31,139,8,0,0,0,0,0,0,255]⟩:ByteArray).size=10 from rfl];omega
 have hz2:¬((((⟨#[31,139,8,0,0,0,0,0,0,255]⟩:ByteArray)++A).size+B.size:Nat):Int)>9223372036854775807:=by
  rw [Qc5,show(⟨#[31,139,8,0,0,0,0,0,0,255]⟩:ByteArray).size=10 from rfl];omega
 clear hp;go_enter Tryz.func10,Tryz.ntmps10;go_wp2_with fail;refine(C1 _).mono ?_;rintro e w1 ⟨rfl,b1⟩;go_wp2_with fail;refine(C2 _).mono ?_;rintro e w2 ⟨rfl,b2⟩;have b2:=b1.trans (b2.mono b1.size);clear b1;go_wp2_with fail;go_ret;rw [HT.out];exact⟨rfl,b2⟩
theorem Qh6 (b:ByteArray) (most:Int) (hb:b.size≤281474976710656) (w:World):
  Calls Tryz.prog 12 #[.string b,.int .i64 most] w fun e w'=>e= .returned (.tuple #[.string (Qgn b most).1,.int .i64 ((Qgn b most).2:Int)])∧Below w.heap.size w w':=by
 by_cases hm:most<0∨most>1048576
 ·have HE:Hid (Qgn b most=(⟨#[]⟩,1)):=Qh (if_pos hm);rcases hm with hm|hm
  ·go_enter Tryz.func12,Tryz.ntmps12
   go_wp2_with fail;go_ret2;rw [HE.out];exact⟨rfl,Below.refl _ _⟩
  ·have hm0:¬most<0:=by omega
   go_enter Tryz.func12,Tryz.ntmps12
   go_wp2_with fail;go_ret2;rw [HE.out];exact⟨rfl,Below.refl _ _⟩
 ·have hm0:¬most<0:=by omega
  have hm1:¬most>1048576:=by omega
  obtain⟨g,hg⟩:∃g,g=w.heap.size:=⟨_,rfl⟩;obtain⟨w1,hw1⟩:∃w1,w1=w.alloc (.cells #[.string b,.int .i64 0] 42):=⟨_,rfl⟩;have h1:HW g b 0 w1:=⟨by rw [hw1,hg];exact Blk.new w _ _,Nat.zero_le _⟩
  have hbl:Below w.heap.size w w1:=by rw [hw1];exact(Below.refl _ w).alloc Ql _
  have HWE:=Qh (⟨hw1,hg⟩:w1=w.alloc (.cells #[.string b,.int .i64 0] 42)∧g=w.heap.size);have C:=Qyr g b w1 h1 hb;have HB1:Hid (Below w.heap.size w w1∧w.heap.size≤g∧w.heap.size≤w1.heap.size):=Qh ⟨hbl,by omega,hbl.size⟩
  have HE:Hid (Qgn b most=if (Qbq b).2≠0 then(⟨#[]⟩,(Qbq b).2)else
   if(Qct (b.extract (Qbq b).1 b.size) most).2.2≠0 then(⟨#[]⟩,(Qct (b.extract (Qbq b).1 b.size) most).2.2)else
   if b.size-((Qbq b).1+(Qct (b.extract (Qbq b).1 b.size) most).2.1)≠8 then(⟨#[]⟩,2)else
   if b.extract ((Qbq b).1+(Qct (b.extract (Qbq b).1 b.size) most).2.1) b.size=Qih (txtL (Qct (b.extract (Qbq b).1 b.size) most).1)then (txtL (Qct (b.extract (Qbq b).1 b.size) most).1,0)else (⟨#[]⟩,8)):=Qh (if_neg hm)
  have HBL:Hid ((Qbq b).2=0→(Qbq b).1≤b.size):=Qh Qqv;unfold Qtb at C;generalize Qbq b=r at*;obtain⟨a,x⟩:=r;dsimp only at C HE HBL;clear hw1 hg h1 hbl hm;by_cases hx:x=0
  ·subst hx;have ha:=HBL.out rfl;have HE2:=Qh ((HE.out).trans (if_neg (fun h=>h rfl)));have hsz:(b.extract a b.size).size=b.size-a:=by rw [ByteArray.size_extract];omega
   have CO:=fun wx=>Qub (b.extract a b.size) most wx trivial (by rw [hsz];omega)
   have HUL:=Qh (Qlq (b.extract a b.size) most);rw [hsz]at HUL;clear HE HBL hsz;have ha1:(a:Int)≤(b.size:Int):=by omega
   have ha0:(0:Int)≤(a:Int):=by omega
   have HA:=Qh ha;generalize hX:b.extract a b.size=X at*;generalize Qct X most=r at*;obtain⟨L,u,y⟩:=r;dsimp only at CO HE2 HUL;have HTL:Hid ((txtL L).size=L.length):=Qh (Qb1 _ _);generalize txtL L=T at*;clear ha;go_enter Tryz.func12,Tryz.ntmps12;go_wp2_with fail;rw [←HWE.out.1,←HWE.out.2];refine C.mono ?_;rintro e w2 ⟨rfl,m2,k2⟩;have k2:=k2 trivial;have HK2:=Qh (⟨k2,HB1.out.1.trans (m2.below HB1.out.2.1 HB1.out.2.2)⟩:HW g b a w2∧Below w.heap.size w w2);have c1:=k2.c1;clear C m2 k2;go_wp2_with fail;refine(CO _).mono ?_;rintro e w3 ⟨rfl,b3⟩;have HK3:=Qh (⟨HK2.out.1.below b3,HK2.out.2.trans (b3.mono HK2.out.2.size)⟩:HW g b a w3∧Below w.heap.size w w3);clear HK2 b3 c1 CO;by_cases hy:y=0
   ·subst hy;have HE3:=Qh ((HE2.out).trans (if_neg (fun h=>h rfl)));have hul:=HUL.out;have hu0:IntKind.i64.wrap ((a:Int)+(u:Int))=((a+u:Nat):Int):=by rw [IntWalk.i64_in _ (by have:=HA.out;omega)];rfl
    have CS:=fun wx=>Qr0 T (by rw [HTL.out];omega) wx
    have hS8:=Qgf T;clear HE2;generalize Qih T=K at*;have HZ:Hid ((b.extract (a+u) b.size).size=b.size-(a+u)):=Qh (by rw [ByteArray.size_extract];omega)
    have hv1:((a+u:Nat):Int)≤(b.size:Int):=by have:=HA.out;omega
    have hv0:(0:Int)≤((a+u:Nat):Int):=by omega
    generalize hV:a+u=v at*;generalize hR:b.extract v b.size=R at*;have hz0:=HZ.out;clear hul;go_wp2_with fail;refine Qgs (fun wx=>HW g b a wx) (by kernel_rfl) ?_
    change wpAnyH _ _ _ _ _ _ _ _ w3.drew;have HJ:=Qh HK3.out.1.drew;have HB3:=Qh HK3.out.2.drew;generalize w3.drew=w4 at HJ HB3⊢;clear HK3;refine Qar (i:=0) (v:= .string b) rfl rfl (fun wx hJ=> ?_) HJ.out ?_
    ·go_simp;skip
    simp only [pu];refine Qar (i:=1) (v:= .pointer (some ⟨g,0,none⟩)) rfl rfl (fun wx hJ=> ?_) HJ.out ?_
    ·go_simp;skip
    simp only [pu];refine Qar (i:=2) (v:= .pointer (some ⟨g,0,none⟩)) rfl rfl (fun wx hJ=> ?_) HJ.out ?_
    ·go_simp;skip
    simp only [pu];refine Qar (i:=3) (v:= .pointer (some ⟨g,1,none⟩)) rfl rfl (fun wx hJ=> ?_) HJ.out ?_
    ·go_simp;skip
    simp only [pu];refine Qar (i:=4) (v:= .int .i64 (a:Int)) rfl rfl (fun wx hJ=> ?_) HJ.out ?_
    ·have cc:=hJ.c1;go_simp;skip
    simp only [pu];refine Qar (i:=5) (v:= .int .i64 (u:Int)) rfl rfl (fun wx hJ=> ?_) HJ.out ?_
    ·go_simp;skip
    simp only [pu];refine Qar (i:=6) (v:= .int .i64 (v:Int)) rfl rfl (fun wx hJ=> ?_) HJ.out ?_
    ·go_simp;skip
    simp only [pu];refine Qar (i:=7) (v:= .string R) rfl rfl (fun wx hJ=> ?_) HJ.out ?_
    ·go_simp;skip
    simp only [pu];refine Qar (i:=8) (v:= .string T) rfl rfl (fun wx hJ=> ?_) HJ.out ?_
    ·go_simp;skip
    simp only [pu];refine Qe1 (i:=9) (f:=17) (by kernel_rfl) rfl rfl (by go_simp;skip) ((CS _).mono ?_)
    rintro e w5 ⟨rfl,b5⟩;have HB5:=Qh (HB3.out.trans (b5.mono HB3.out.size));have HJ5:=Qh (HJ.out.below b5);clear HJ HB3 b5;have HJ:=HJ5;clear HJ5;refine⟨_,rfl,HJ.out,?_⟩;simp only [pu];refine Qar (i:=10) (v:= .string R) rfl rfl (fun wx hJ=> ?_) HJ.out ?_
    ·go_simp;skip
    simp only [pu];refine Qar (i:=11) (v:= .string K) rfl rfl (fun wx hJ=> ?_) HJ.out ?_
    ·go_simp;skip
    simp only [pu];refine wpAnyH_done (by kernel_rfl) ?_ _
    clear HJ;have hK8:(K.size:Int)=8:=by omega
    by_cases h8:R.size=8
    ·have hR8:(R.size:Int)=8:=by omega
     by_cases hq:R=K
     ·have HE4:=Qh (HE3.out.trans ((if_neg (by omega)).trans (if_pos hq)))
      clear HE3;go_wp2_with fail;go_ret2;rw [HE4.out];exact⟨rfl,HB5.out⟩
     ·have HE4:=Qh (HE3.out.trans ((if_neg (by omega)).trans (if_neg hq)))
      have hql:=Qm7 hq;clear HE3;go_wp2_with fail;go_ret2;rw [HE4.out];exact⟨rfl,HB5.out⟩
    ·have hR8:¬(R.size:Int)=8:=by omega
     have HE4:=Qh (HE3.out.trans (if_pos (by omega)))
     clear HE3;go_wp2_with fail;go_ret2;rw [HE4.out];exact⟨rfl,HB5.out⟩
   ·have hyi:¬(y:Int)=0:=by omega
    have HE3:=Qh ((HE2.out).trans (if_pos hy));go_wp2_with fail;go_ret2;rw [HE3.out];exact⟨rfl,HK3.out.2⟩
  ·have hxi:¬(x:Int)=0:=by omega
   have HE2:=Qh (HE.out.trans (if_pos hx));clear HE;go_enter Tryz.func12,Tryz.ntmps12;go_wp2_with fail;rw [←HWE.out.1,←HWE.out.2];refine C.mono ?_;rintro e w2 ⟨rfl,m2,k2⟩;have HB2:=Qh (HB1.out.1.trans (m2.below HB1.out.2.1 HB1.out.2.2));clear m2 k2;go_wp2_with fail;go_ret2;rw [HE2.out];exact⟨rfl,HB2.out⟩
theorem Qx5 (s:ByteArray):(gzT s).size=18+(Qgl s).size:=by
 have hp:Qob.size=10:=rfl;unfold gzT;rw [Qc5,Qc5,Qgf,hp];omega
end Go.Proofs.YtbmcjdoiohcaaaaGreat
