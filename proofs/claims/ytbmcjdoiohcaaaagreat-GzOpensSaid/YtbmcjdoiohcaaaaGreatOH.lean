/- OH -/
import Derived.Test.YtbmcjdoiohcaaaaGreatOG
import Derived.Test.YtbmcjdoiohcaaaaGreatOV
set_option maxRecDepth 100000
set_option maxHeartbeats 8000000
namespace Go.Proofs.YtbmcjdoiohcaaaaGreat
open Go.RowKit
def rnV:Option Nat→Value
 |some b=> .tuple #[.int .i64 (b:Int),.bool true]
 |none=> .tuple #[.int .i64 0,.bool false]
theorem Qv0 (s:ByteArray) (a:Nat) (ha:a≤s.size) (hs:s.size≤281474976710656) (w:World):
  Calls Tryz.prog 40 #[.string s,.int .i64 (a:Int)] w fun e w'=>e= .returned (rnV (Qfo s (s.size-a) a))∧w'=w:=by
 obtain⟨R,hR⟩:∃R,R=Qfo s (s.size-a) a:=⟨_,rfl⟩;have HR0:=Qh hR.symm;rw [←hR];clear hR;go_enter Tryz.func40,Tryz.ntmps40;go_wp2_with fail;go_loopw [1] (fun u wr=>∃i:Nat,u= .int .i64 (i:Int)∧i≤s.size∧w=wr∧Hid (Qfo s (s.size-i) i=R)) (fun u _=>s.size-(intOf u).toNat)
 case atStart=>exact⟨a,rfl,ha,rfl,HR0⟩
 case round=>
  obtain⟨i,rfl,hi,rfl,HR⟩:=hrel;clear HR0;by_cases h1:i<s.size
  ·have h1i:(i:Int)<(s.size:Int):=by omega
   have hw1:IntKind.i64.wrap ((i:Int)+1)=((i+1:Nat):Int):=by rw [IntWalk.i64_in _ (by omega)];rfl
   have hw2:IntKind.i64.wrap (((i+1:Nat):Int)-1)=(i:Int):=by rw [IntWalk.i64_in _ (by omega)];omega
   have hb:=Qa2 s i h1;have hst:Qfo s (s.size-i) i=if Qac s i=0 then some (i+1)else Qfo s (s.size-(i+1)) (i+1):=by
    rw [show s.size-i=(s.size-(i+1))+1 by omega];rfl
   obtain⟨j,hj⟩:∃j,j=i+1:=⟨_,rfl⟩;have hjs:j≤s.size:=by omega
   rw [←hj]at hw1 hw2 hst;by_cases h0:Qac s i=0
   ·have hbn:s[i].toNat=0:=by rw [hb,h0]
    have HE:Hid (R=some j):=Qh (by rw [←HR.out,hst,if_pos h0])
    have HJI:Hid ((i:Int)+1=(j:Int)):=Qh (by omega)
    clear hb h0 hst;go_wp2_with fail;go_ret2;rw [HE.out];refine⟨?_,rfl⟩;show Ending.returned (.tuple #[.int .i64 _,.bool true])=Ending.returned (.tuple #[.int .i64 (j:Int),.bool true]);rw [←HJI.out]
   ·have hbn:¬s[i].toNat=0:=by rw [hb];exact h0
    have HE:Hid (Qfo s (s.size-j) j=R):=Qh (by rw [←HR.out,hst,if_neg h0])
    have HJ:=Qh hj;clear hb h0 hst hj;go_wp2_with fail;exact⟨⟨j,rfl,hjs,trivial,HE⟩,by simp only [intOf];have:=HJ.out;omega⟩
  ·have h1i:¬(i:Int)<(s.size:Int):=by omega
   have HE:Hid (R=none):=Qh (by rw [←HR.out,show s.size-i=0 by omega];rfl)
   go_wp2_with fail;go_ret2;rw [HE.out];exact⟨rfl,rfl⟩
def Qhy (s:ByteArray) (B:Nat) (w:World) (e:Ending) (w':World):Prop:=∃x:Int,e= .returned (.tuple #[.int .i64 x,.int .i64 ((Qbq s).2:Int)])∧((Qbq s).2=0→x=((Qbq s).1:Int))∧Below B w w'
theorem Qvw (s:ByteArray) (hs:s.size≤281474976710656) (w:World):
  Calls Tryz.prog 23 #[.string s] w (Qhy s w.heap.size w):=by
 have CN:=Qh fun a (ha:a≤s.size) wx=>Qv0 s a ha hs wx;have CS:=Qh fun a wx=>Qj6 (s.extract 0 a) wx (by rw [ByteArray.size_extract];omega)
 have CF:=Qh fun n wx=>Qhc n wx;by_cases hbad:badS s
 ·have HE:Hid (Qbq s=(0,2)):=Qh (if_pos hbad);unfold badS at hbad;by_cases h1:s.size<10
  ·have h1i:(s.size:Int)<10:=by omega
   go_enter Tryz.func23,Tryz.ntmps23
   go_wp2_with fail;go_ret2;unfold Qhy;rw [HE.out];exact⟨_,rfl,(fun h=>by cases h),Below.refl _ _⟩
  ·have h1i:¬(s.size:Int)<10:=by omega
   have h3i:(3:Int)≤(s.size:Int):=by omega
   have h3l:(3:Int)<(s.size:Int):=by omega
   have h3:3<s.size:=by omega
   have hb:=Qa2 s 3 h3;generalize hU:s.extract 0 3=U at*;by_cases h2:U=⟨#[31,139,8]⟩
   ·have h32:32≤Qac s 3:=by
     rcases hbad with h|h|h
     ·exact absurd h h1
     ·exact absurd h2 h
     ·exact h
    have hge:(s[3].toNat:Int)≥32:=by rw [hb];omega
    have hge2:32≤s[3].toNat:=by rw [hb];omega
    clear hb hbad;go_enter Tryz.func23,Tryz.ntmps23;go_wp2_with fail;go_ret2;unfold Qhy;rw [HE.out];exact⟨_,rfl,(fun h=>by cases h),Below.refl _ _⟩
   ·have hbl:(U.toList==[31,139,8])=false:=Qzy h2;clear hb hbad;go_enter Tryz.func23,Tryz.ntmps23;go_wp2_with fail;go_ret2;unfold Qhy;rw [HE.out];exact⟨_,rfl,(fun h=>by cases h),Below.refl _ _⟩
 ·have HE:Hid (Qbq s=preS s 4):=Qh (if_neg hbad);unfold badS at hbad;have h10:10≤s.size:=by omega
  have h1i:¬(s.size:Int)<10:=by omega
  have h3i:(3:Int)≤(s.size:Int):=by omega
  have h3l:(3:Int)<(s.size:Int):=by omega
  have h3:3<s.size:=by omega
  have hb:=Qa2 s 3 h3;generalize hU:s.extract 0 3=U at*;have h2:U=⟨#[31,139,8]⟩:=by
   by_cases h:U=⟨#[31,139,8]⟩
   ·exact h
   ·exact absurd (.inr (.inl h)) hbad
  have hF32:Qac s 3<32:=by omega
  obtain⟨F,hF⟩:∃F,F=Qac s 3:=⟨_,rfl⟩;rw [←hF]at hb hF32;have hsn:s[3].toNat=F:=hb;have hlt:¬(F:Int)≥32:=by omega
  have hwF:IntKind.i64.wrap (F:Int)=(F:Int):=IntWalk.i64_in _ (by omega)
  have HFS:Hid (∀k,Qgr s k=decide (F /2^k%2=1)):=Qh fun k=>by unfold Qgr;rw [hF]
  have d4:(F:Int).tdiv 4=((F /4:Nat):Int):=by rw [Int.tdiv_eq_ediv_of_nonneg (by omega)];rfl
  have d8:(F:Int).tdiv 8=((F /8:Nat):Int):=by rw [Int.tdiv_eq_ediv_of_nonneg (by omega)];rfl
  have d16:(F:Int).tdiv 16=((F /16:Nat):Int):=by rw [Int.tdiv_eq_ediv_of_nonneg (by omega)];rfl
  have d2:(F:Int).tdiv 2=((F /2:Nat):Int):=by rw [Int.tdiv_eq_ediv_of_nonneg (by omega)];rfl
  obtain⟨G2,hG2⟩:∃x,x=F /4:=⟨_,rfl⟩;obtain⟨G3,hG3⟩:∃x,x=F /8:=⟨_,rfl⟩;obtain⟨G4,hG4⟩:∃x,x=F /16:=⟨_,rfl⟩;obtain⟨G1,hG1⟩:∃x,x=F /2:=⟨_,rfl⟩;obtain⟨K2,hK2⟩:∃x,x=G2%2:=⟨_,rfl⟩;obtain⟨K3,hK3⟩:∃x,x=G3%2:=⟨_,rfl⟩;obtain⟨K4,hK4⟩:∃x,x=G4%2:=⟨_,rfl⟩;obtain⟨K1,hK1⟩:∃x,x=G1%2:=⟨_,rfl⟩;rw [←hG2]at d4;rw [←hG3]at d8;rw [←hG4]at d16;rw [←hG1]at d2;have e4:(F:Int) /4=(G2:Int):=by omega
  have e8:(F:Int) /8=(G3:Int):=by omega
  have e16:(F:Int) /16=(G4:Int):=by omega
  have e2:(F:Int) /2=(G1:Int):=by omega
  have m2:(G2:Int).tmod 2=(K2:Int):=by rw [Int.tmod_eq_emod_of_nonneg (by omega)];omega
  have m3:(G3:Int).tmod 2=(K3:Int):=by rw [Int.tmod_eq_emod_of_nonneg (by omega)];omega
  have m4:(G4:Int).tmod 2=(K4:Int):=by rw [Int.tmod_eq_emod_of_nonneg (by omega)];omega
  have m1:(G1:Int).tmod 2=(K1:Int):=by rw [Int.tmod_eq_emod_of_nonneg (by omega)];omega
  have n2:(G2:Int)%2=(K2:Int):=by omega
  have n3:(G3:Int)%2=(K3:Int):=by omega
  have n4:(G4:Int)%2=(K4:Int):=by omega
  have n1:(G1:Int)%2=(K1:Int):=by omega
  have w2:IntKind.i64.wrap (G2:Int)=(G2:Int):=IntWalk.i64_in _ (by omega)
  have w3:IntKind.i64.wrap (G3:Int)=(G3:Int):=IntWalk.i64_in _ (by omega)
  have w4:IntKind.i64.wrap (G4:Int)=(G4:Int):=IntWalk.i64_in _ (by omega)
  have w1:IntKind.i64.wrap (G1:Int)=(G1:Int):=IntWalk.i64_in _ (by omega)
  have y2:IntKind.i64.wrap (K2:Int)=(K2:Int):=IntWalk.i64_in _ (by omega)
  have y3:IntKind.i64.wrap (K3:Int)=(K3:Int):=IntWalk.i64_in _ (by omega)
  have y4:IntKind.i64.wrap (K4:Int)=(K4:Int):=IntWalk.i64_in _ (by omega)
  have y1:IntKind.i64.wrap (K1:Int)=(K1:Int):=IntWalk.i64_in _ (by omega)
  have HK:Hid ((Qgr s 2=decide (K2=1))∧(Qgr s 3=decide (K3=1))∧(Qgr s 4=decide (K4=1))∧(Qgr s 1=decide (K1=1))):=Qh (by
   rw [HFS.out,HFS.out,HFS.out,HFS.out,hK2,hK3,hK4,hK1,hG2,hG3,hG4,hG1];exact⟨rfl,rfl,rfl,rfl⟩)
  have H10:=Qh h10;clear hF hb hbad hF32 hG2 hG3 hG4 hG1 hK2 hK3 hK4 hK1 HFS h10;by_cases hk2:K2=1
  rotate_left
  focus
   have hk2i:¬(K2:Int)=1:=by omega
   have HPR:Hid (preS s 1=(10,0)):=Qh (Qfz (s:=s) (i:=0) (HK.out.1.trans (decide_eq_false hk2)));obtain⟨a,hea⟩:∃a,a=10:=⟨_,rfl⟩;have hle:a≤s.size:=by have:=H10.out;omega
   rw [←hea]at HPR;go_enter Tryz.func23,Tryz.ntmps23;go_wp2_with fail;obtain⟨wd,hwd⟩:∃wd,wd=w:=⟨_,rfl⟩;have hbd:Below w.heap.size w wd:=by rw [hwd];exact Below.refl _ _
   rw [←hwd];clear hwd
  rotate_left
  focus
   have hk2i:(K2:Int)=1:=by omega
   have HON:=Qh (Qiq (s:=s) (i:=0) (HK.out.1.trans (decide_eq_true hk2)) rfl);by_cases h12:s.size<12
   ·have h12i:(s.size:Int)<12:=by omega
    have HEX:Hid (Qbq s=(10,2)):=Qh (by
     have e:preS s 1=(10,2):=by rw [HON.out];show Qd4 s 10=_;exact if_pos (.inl (by omega))
     rw [HE.out,show(4:Nat)=1+3 from rfl,Qfd (i:=1) (by rw [e];decide),e])
    go_enter Tryz.func23,Tryz.ntmps23
    go_wp2_with fail;go_ret2;unfold Qhy;rw [HEX.out];exact⟨_,rfl,(fun h=>by cases h),Below.refl _ _⟩
   have h12i:¬(s.size:Int)<12:=by omega
   obtain⟨A,hA⟩:∃A,A=Qac s 10:=⟨_,rfl⟩;obtain⟨B,hB⟩:∃B,B=Qac s 11:=⟨_,rfl⟩;have hA8:A<256:=by rw [hA];exact Qaz _ _
   have hB8:B<256:=by rw [hB];exact Qaz _ _
   have gA:s[10].toNat=A:=by rw [Qa2 s 10 (by omega),hA]
   have gB:s[11].toNat=B:=by rw [Qa2 s 11 (by omega),hB]
   have l10:(10:Int)<(s.size:Int):=by omega
   have l11:(11:Int)<(s.size:Int):=by omega
   have u1:IntKind.i64.wrap (A:Int)=(A:Int):=IntWalk.i64_in _ (by omega)
   have u2:IntKind.i64.wrap (B:Int)=(B:Int):=IntWalk.i64_in _ (by omega)
   have u3:IntKind.i64.wrap (12+(A:Int))=12+(A:Int):=IntWalk.i64_in _ (by omega)
   have u4:IntKind.i64.wrap (256*(B:Int))=256*(B:Int):=IntWalk.i64_in _ (by omega)
   obtain⟨a,hea⟩:∃a,a=12+A+256*B:=⟨_,rfl⟩;have u5:IntKind.i64.wrap (12+(A:Int)+256*(B:Int))=(a:Int):=by rw [IntWalk.i64_in _ (by omega)];omega
   by_cases hla:s.size<a
   ·have hlai:(s.size:Int)<(a:Int):=by omega
    have HEX:Hid (Qbq s=(10,2)):=Qh (by
     have e:preS s 1=(10,2):=by
      rw [HON.out];show Qd4 s 10=_;refine if_pos (.inr ?_);show s.size<10+2+Qac s 10+256*Qac s (10+1);rw [←hA,show Qac s (10+1)=B from hB.symm];omega
     rw [HE.out,show(4:Nat)=1+3 from rfl,Qfd (i:=1) (by rw [e];decide),e])
    clear hA hB hea;go_enter Tryz.func23,Tryz.ntmps23;go_wp2_with fail;refine Qbc (by kernel_rfl) ?_
    change wpAnyH _ _ _ _ _ _ _ _ w.drew;have hbd:=(Below.refl w.heap.size w).drew;generalize w.drew=wd at hbd⊢;refine tH (i:=0) (v:= .int .i64 10) rfl rfl ?_;simp only [pu];refine Qa4 (i:=1) (v:= .int .i64 12) rfl rfl (fun wx=> ?_) ?_
    ·go_simp;decide
    simp only [pu];refine tH (i:=2) (v:= .string s) rfl rfl ?_;simp only [pu];refine tH (i:=3) (v:= .int .i64 10) rfl rfl ?_;simp only [pu];refine tH (i:=4) (v:= .int .u8 (A:Int)) rfl rfl ?_;simp only [pu];refine tH (i:=5) (v:= .int .i64 (A:Int)) rfl rfl ?_;simp only [pu];refine tH (i:=6) (v:= .int .i64 (12+(A:Int))) rfl rfl ?_;simp only [pu];refine tH (i:=7) (v:= .string s) rfl rfl ?_;simp only [pu];refine tH (i:=8) (v:= .int .i64 10) rfl rfl ?_;simp only [pu];refine Qa4 (i:=9) (v:= .int .i64 11) rfl rfl (fun wx=> ?_) ?_
    ·go_simp;decide
    simp only [pu];refine tH (i:=10) (v:= .int .u8 (B:Int)) rfl rfl ?_;simp only [pu];refine tH (i:=11) (v:= .int .i64 (B:Int)) rfl rfl ?_;simp only [pu];refine tH (i:=12) (v:= .int .i64 (256*(B:Int))) rfl rfl ?_;simp only [pu];refine tH (i:=13) (v:= .int .i64 (a:Int)) rfl rfl ?_;simp only [pu];refine tH (i:=14) (v:= .int .i64 (a:Int)) rfl rfl ?_;simp only [pu];refine wpAnyH_done (by kernel_rfl) ?_ _
    go_wp2_with fail;go_ret2;unfold Qhy;rw [HEX.out];exact⟨_,rfl,(fun h=>by cases h),hbd⟩
   have hlai:¬(s.size:Int)<(a:Int):=by omega
   have hle:a≤s.size:=by omega
   have HPR:Hid (preS s 1=(a,0)):=Qh (by
    rw [HON.out];show Qd4 s 10=_;unfold Qd4;rw [←hA,show Qac s (10+1)=B from hB.symm,if_neg (by omega)]
    exact congrArg (fun t=>(t,0)) (by omega))
   clear hA hB hea;go_enter Tryz.func23,Tryz.ntmps23;go_wp2_with fail;refine Qbc (by kernel_rfl) ?_
   change wpAnyH _ _ _ _ _ _ _ _ w.drew;have hbd:=(Below.refl w.heap.size w).drew;generalize w.drew=wd at hbd⊢;refine tH (i:=0) (v:= .int .i64 10) rfl rfl ?_;simp only [pu];refine Qa4 (i:=1) (v:= .int .i64 12) rfl rfl (fun wx=> ?_) ?_
   ·go_simp;decide
   simp only [pu];refine tH (i:=2) (v:= .string s) rfl rfl ?_;simp only [pu];refine tH (i:=3) (v:= .int .i64 10) rfl rfl ?_;simp only [pu];refine tH (i:=4) (v:= .int .u8 (A:Int)) rfl rfl ?_;simp only [pu];refine tH (i:=5) (v:= .int .i64 (A:Int)) rfl rfl ?_;simp only [pu];refine tH (i:=6) (v:= .int .i64 (12+(A:Int))) rfl rfl ?_;simp only [pu];refine tH (i:=7) (v:= .string s) rfl rfl ?_;simp only [pu];refine tH (i:=8) (v:= .int .i64 10) rfl rfl ?_;simp only [pu];refine Qa4 (i:=9) (v:= .int .i64 11) rfl rfl (fun wx=> ?_) ?_
   ·go_simp;decide
   simp only [pu];refine tH (i:=10) (v:= .int .u8 (B:Int)) rfl rfl ?_;simp only [pu];refine tH (i:=11) (v:= .int .i64 (B:Int)) rfl rfl ?_;simp only [pu];refine tH (i:=12) (v:= .int .i64 (256*(B:Int))) rfl rfl ?_;simp only [pu];refine tH (i:=13) (v:= .int .i64 (a:Int)) rfl rfl ?_;simp only [pu];refine tH (i:=14) (v:= .int .i64 (a:Int)) rfl rfl ?_;simp only [pu];refine wpAnyH_done (by kernel_rfl) ?_ _
   go_wp2_with fail
  all_goals
   have HP:Hid ((preS s 1).2=0∧(preS s 1).1=a∧a≤s.size):=Qh (by rw [HPR.out];exact⟨rfl,rfl,hle⟩)
   go_loopw [5,6] (fun u v wr=>∃(m x:Nat) (k:Int),m≤2∧u= .int .i64 (x:Int)∧v= .int .i64 k∧k=[8,16,24].getD m 0∧wd=wr∧Hid ((preS s (m+1)).2=0∧(preS s (m+1)).1=x∧x≤s.size)) (fun _ v _=>24-(intOf v).toNat)
   case atStart=>exact⟨0,a,8,by decide,(by first|rfl|(rw [hea];rfl)),rfl,rfl,rfl,HP⟩
   case round=>
    obtain⟨m,x,k,hm,rfl,rfl,hkk,rfl,HR⟩:=hrel;clear HP HPR;have hm3:m=0∨m=1∨m=2:=by omega
    have CNx:=CN.out x HR.out.2.2;rcases hm3 with rfl|rfl|rfl
    ·obtain rfl:k=8:=hkk;clear CS CF;by_cases hk:K3=1
     ·have hki:(K3:Int)=1:=by omega
      have HON:=Qh (Qiq (s:=s) (i:=1) (HK.out.2.1.trans (decide_eq_true hk)) HR.out.1);cases hn:Qfo s (s.size-x) x with
      |none=>
       have HEX:Hid (Qbq s=(x,2)):=Qh (by
        have e:preS s 2=(x,2):=by rw [HON.out];show Qfi s (preS s 1).1=_;rw [HR.out.2.1];unfold Qfi;rw [hn]
        rw [HE.out,show(4:Nat)=2+2 from rfl,Qfd (i:=2) (by rw [e];exact fun h=>by cases h),e])
       rw [hn]at CNx;simp only [rnV]at CNx;go_wp2_with fail;refine(CNx _).mono ?_;rintro e w9 ⟨rfl,rfl⟩;go_wp2_with fail;go_ret2;unfold Qhy;rw [HEX.out];exact⟨_,rfl,(fun h=>by cases h),by first|exact hbd|exact Below.refl _ _⟩
      |some y=>
       have hy:=Qgc hn;have HNX:Hid ((preS s 2).2=0∧(preS s 2).1=y∧y≤s.size):=Qh (by
        have e:preS s 2=(y,0):=by rw [HON.out];show Qfi s (preS s 1).1=_;rw [HR.out.2.1];unfold Qfi;rw [hn]
        have:=HR.out.2.2;rw [e];exact⟨rfl,rfl,by omega⟩)
       rw [hn]at CNx;simp only [rnV]at CNx;clear hy;go_wp2_with fail;refine(CNx _).mono ?_;rintro e w9 ⟨rfl,rfl⟩;go_wp2_with fail
       first
       |exact ⟨⟨1,y,16,by decide,rfl,rfl,rfl,trivial,HNX⟩,by decide⟩
       |exact ⟨⟨_,_,_,_,_,_,_,_,_,_,_,_,_,_,_,_,_,_,_,_,_,_,_,_,⟨1,y,16,by decide,rfl,rfl,rfl,trivial,HNX⟩,rfl⟩,by show 24-(16:Int).toNat<24-(8:Int).toNat;decide⟩
     ·have hki:¬(K3:Int)=1:=by omega
      have HNX:Hid ((preS s 2).2=0∧(preS s 2).1=x∧x≤s.size):=Qh (by
       rw [Qfz (s:=s) (i:=1) (HK.out.2.1.trans (decide_eq_false hk))];exact HR.out)
      go_wp2_with fail;exact⟨⟨1,x,16,by decide,rfl,rfl,rfl,trivial,HNX⟩,by decide⟩
    ·obtain rfl:k=16:=hkk;clear CS CF;by_cases hk:K4=1
     ·have hki:(K4:Int)=1:=by omega
      have HON:=Qh (Qiq (s:=s) (i:=2) (HK.out.2.2.1.trans (decide_eq_true hk)) HR.out.1);cases hn:Qfo s (s.size-x) x with
      |none=>
       have HEX:Hid (Qbq s=(x,2)):=Qh (by
        have e:preS s 3=(x,2):=by rw [HON.out];show Qfi s (preS s 2).1=_;rw [HR.out.2.1];unfold Qfi;rw [hn]
        rw [HE.out,show(4:Nat)=3+1 from rfl,Qfd (i:=3) (by rw [e];exact fun h=>by cases h),e])
       rw [hn]at CNx;simp only [rnV]at CNx;go_wp2_with fail;refine(CNx _).mono ?_;rintro e w9 ⟨rfl,rfl⟩;go_wp2_with fail;go_ret2;unfold Qhy;rw [HEX.out];exact⟨_,rfl,(fun h=>by cases h),by first|exact hbd|exact Below.refl _ _⟩
      |some y=>
       have hy:=Qgc hn;have HNX:Hid ((preS s 3).2=0∧(preS s 3).1=y∧y≤s.size):=Qh (by
        have e:preS s 3=(y,0):=by rw [HON.out];show Qfi s (preS s 2).1=_;rw [HR.out.2.1];unfold Qfi;rw [hn]
        have:=HR.out.2.2;rw [e];exact⟨rfl,rfl,by omega⟩)
       rw [hn]at CNx;simp only [rnV]at CNx;clear hy;go_wp2_with fail;refine(CNx _).mono ?_;rintro e w9 ⟨rfl,rfl⟩;go_wp2_with fail
       first
       |exact ⟨⟨2,y,24,by decide,rfl,rfl,rfl,trivial,HNX⟩,by decide⟩
       |exact ⟨⟨_,_,_,_,_,_,_,_,_,_,_,_,_,_,_,_,_,_,_,_,_,_,_,_,⟨2,y,24,by decide,rfl,rfl,rfl,trivial,HNX⟩,rfl⟩,by show 24-(24:Int).toNat<24-(16:Int).toNat;decide⟩
     ·have hki:¬(K4:Int)=1:=by omega
      have HNX:Hid ((preS s 3).2=0∧(preS s 3).1=x∧x≤s.size):=Qh (by
       rw [Qfz (s:=s) (i:=2) (HK.out.2.2.1.trans (decide_eq_false hk))];exact HR.out)
      go_wp2_with fail;exact⟨⟨2,x,24,by decide,rfl,rfl,rfl,trivial,HNX⟩,by decide⟩
    ·obtain rfl:k=24:=hkk;clear CNx;have hxs:=HR.out.2.2;by_cases hk:K1=1
     ·have hki:(K1:Int)=1:=by omega
      have HON:=Qh (Qiq (s:=s) (i:=3) (HK.out.2.2.2.trans (decide_eq_true hk)) HR.out.1);obtain⟨j,hj⟩:∃j,j=x+2:=⟨_,rfl⟩;have hjw:IntKind.i64.wrap ((x:Int)+2)=(j:Int):=by rw [IntWalk.i64_in _ (by omega)];omega
      have HSU:Hid (Qbq s=sumS s x):=Qh (by
       rw [HE.out,HON.out];show sumS s (preS s 3).1=_;rw [HR.out.2.1])
      by_cases h2:s.size<j
      ·have h2i:(s.size:Int)<(j:Int):=by omega
       have HEX:Hid (Qbq s=(x,2)):=Qh (by rw [HSU.out];exact if_pos (by omega))
       clear hj;go_wp2_with fail;go_ret2;unfold Qhy;rw [HEX.out];exact⟨_,rfl,(fun h=>by cases h),hbd⟩
      ·have h2i:¬(s.size:Int)<(j:Int):=by omega
       have C1:=CS.out x;have hi:iw (Qb7 0#32 (s.extract 0 x))=((Qb7 0#32 (s.extract 0 x)).toNat:Int):=by unfold iw;rfl
       rw [hi]at C1;have HSV:Hid (Qbq s=if s.extract x j=(Qcg (Qb7 0#32 (s.extract 0 x)).toNat).extract 0 2 then(j,0)else (x,8)):=Qh (by
        rw [HSU.out];unfold sumS;rw [if_neg (by omega),hj])
       generalize (Qb7 0#32 (s.extract 0 x)).toNat=c at*;have C2:=CF.out c;have hz:(Qcg c).size=4:=Qb1 _ _;generalize Qcg c=K at*;have hk2:(2:Int)≤(K.size:Int):=by omega
       have hx0:(0:Int)≤(x:Int):=by omega
       have hx1:(x:Int)≤(s.size:Int):=by omega
       have hxj:(x:Int)≤(j:Int):=by omega
       have hjs:(j:Int)≤(s.size:Int):=by omega
       generalize hT:K.extract 0 2=T at*;generalize hV:s.extract x j=V at*;generalize hX0:s.extract 0 x=X0 at*;clear hi hz;by_cases hq:V=T
       ·have HEX:=Qh (HSV.out.trans (if_pos hq));have HJ:=Qh hj;clear hj HSU HSV;go_wp2_with fail;refine Qbc (by kernel_rfl) ?_
        change wpAnyH _ _ _ _ _ _ _ _ wd.drew;have hb2:=hbd.drew;generalize wd.drew=w3 at hb2⊢;refine tH (i:=0) (v:= .string s) rfl rfl ?_;simp only [pu];refine tH (i:=1) (v:= .int .i64 (x:Int)) rfl rfl ?_;simp only [pu];refine tH (i:=2) (v:= .string X0) rfl rfl ?_;simp only [pu];refine tH (i:=6) (v:= .string s) rfl rfl ?_;simp only [pu];refine tH (i:=7) (v:= .int .i64 (x:Int)) rfl rfl ?_;simp only [pu];refine tH (i:=8) (v:= .int .i64 (x:Int)) rfl rfl ?_;simp only [pu];refine tH (i:=9) (v:= .int .i64 (j:Int)) rfl rfl ?_;simp only [pu];refine tH (i:=10) (v:= .string V) rfl rfl ?_;simp only [pu];refine Qau (i:=3) (f:=20) (by kernel_rfl) rfl rfl (by go_simp;skip) ((C1 _).mono ?_)
        rintro e w4 ⟨rfl,rfl⟩;refine⟨_,rfl,?_⟩;simp only [pu];refine Qau (i:=4) (f:=19) (by kernel_rfl) rfl rfl (by go_simp;skip) ((C2 _).mono ?_)
        rintro e w5 ⟨rfl,b5⟩;have hb5:=hb2.trans (b5.mono hb2.size);refine⟨_,rfl,?_⟩;simp only [pu];refine tH (i:=5) (v:= .string T) rfl rfl ?_;simp only [pu];refine tH (i:=11) (v:= .bool false) rfl rfl ?_;simp only [pu];refine wpAnyH_done (by kernel_rfl) ?_ _
        go_wp2_with fail;go_ret2;unfold Qhy;rw [HEX.out];exact⟨_,rfl,(fun _=>by first|rfl|(show _=(j:Int);have:=HJ.out;omega)),hb5⟩
       ·have HEX:=Qh (HSV.out.trans (if_neg hq));have hql:(T.toList==V.toList)=false:=Qm7 (fun e=>hq e.symm);clear hj HSU HSV;go_wp2_with fail;refine Qbc (by kernel_rfl) ?_
        change wpAnyH _ _ _ _ _ _ _ _ wd.drew;have hb2:=hbd.drew;generalize wd.drew=w3 at hb2⊢;refine tH (i:=0) (v:= .string s) rfl rfl ?_;simp only [pu];refine tH (i:=1) (v:= .int .i64 (x:Int)) rfl rfl ?_;simp only [pu];refine tH (i:=2) (v:= .string X0) rfl rfl ?_;simp only [pu];refine tH (i:=6) (v:= .string s) rfl rfl ?_;simp only [pu];refine tH (i:=7) (v:= .int .i64 (x:Int)) rfl rfl ?_;simp only [pu];refine tH (i:=8) (v:= .int .i64 (x:Int)) rfl rfl ?_;simp only [pu];refine tH (i:=9) (v:= .int .i64 (j:Int)) rfl rfl ?_;simp only [pu];refine tH (i:=10) (v:= .string V) rfl rfl ?_;simp only [pu];refine Qau (i:=3) (f:=20) (by kernel_rfl) rfl rfl (by go_simp;skip) ((C1 _).mono ?_)
        rintro e w4 ⟨rfl,rfl⟩;refine⟨_,rfl,?_⟩;simp only [pu];refine Qau (i:=4) (f:=19) (by kernel_rfl) rfl rfl (by go_simp;skip) ((C2 _).mono ?_)
        rintro e w5 ⟨rfl,b5⟩;have hb5:=hb2.trans (b5.mono hb2.size);refine⟨_,rfl,?_⟩;simp only [pu];refine tH (i:=5) (v:= .string T) rfl rfl ?_;simp only [pu];refine tH (i:=11) (v:= .bool true) rfl rfl ?_;simp only [pu];refine wpAnyH_done (by kernel_rfl) ?_ _
        go_wp2_with fail;go_ret2;unfold Qhy;rw [HEX.out];exact⟨_,rfl,(fun h=>by cases h),hb5⟩
     ·have hki:¬(K1:Int)=1:=by omega
      have HEX:Hid (Qbq s=(x,0)):=Qh (by
       rw [HE.out,Qfz (s:=s) (i:=3) (HK.out.2.2.2.trans (decide_eq_false hk))];exact Prod.ext HR.out.2.1 HR.out.1)
      go_wp2_with fail;go_ret2;unfold Qhy;rw [HEX.out];exact⟨_,rfl,(fun _=>rfl),hbd⟩
theorem Qp5 (b:ByteArray) (most:Int) (hb:b.size≤281474976710656) (w:World):
  Calls Tryz.prog 13 #[.string b,.int .i64 most] w fun e w'=>e= .returned (.tuple #[.string (Qgn b most).1,.int .i64 ((Qgn b most).2:Int)])∧Below w.heap.size w w':=by
 by_cases hm:most<0∨most>1048576
 ·have HE:Hid (Qgn b most=(⟨#[]⟩,1)):=Qh (if_pos hm);rcases hm with hm|hm
  ·go_enter Tryz.func13,Tryz.ntmps13
   go_wp2_with fail;go_ret2;rw [HE.out];exact⟨rfl,Below.refl _ _⟩
  ·have hm0:¬most<0:=by omega
   go_enter Tryz.func13,Tryz.ntmps13
   go_wp2_with fail;go_ret2;rw [HE.out];exact⟨rfl,Below.refl _ _⟩
 ·have hm0:¬most<0:=by omega
  have hm1:¬most>1048576:=by omega
  have C:=Qvw b hb w;have HE:Hid (Qgn b most=if (Qbq b).2≠0 then(⟨#[]⟩,(Qbq b).2)else
   if(Qct (b.extract (Qbq b).1 b.size) most).2.2≠0 then(⟨#[]⟩,(Qct (b.extract (Qbq b).1 b.size) most).2.2)else
   if b.size-((Qbq b).1+(Qct (b.extract (Qbq b).1 b.size) most).2.1)≠8 then(⟨#[]⟩,2)else
   if b.extract ((Qbq b).1+(Qct (b.extract (Qbq b).1 b.size) most).2.1) b.size=Qih (txtL (Qct (b.extract (Qbq b).1 b.size) most).1)then (txtL (Qct (b.extract (Qbq b).1 b.size) most).1,0)else (⟨#[]⟩,8)):=Qh (if_neg hm)
  have HBL:Hid ((Qbq b).2=0→(Qbq b).1≤b.size):=Qh Qqv;unfold Qhy at C;generalize Qbq b=r at*;obtain⟨a,x⟩:=r;dsimp only at C HE HBL;clear hm;by_cases hx:x=0
  ·subst hx;have ha:=HBL.out rfl;have HE2:=Qh ((HE.out).trans (if_neg (fun h=>h rfl)));have hsz:(b.extract a b.size).size=b.size-a:=by rw [ByteArray.size_extract];omega
   have CO:=fun wx=>Qp8 (b.extract a b.size) most wx (by rw [hsz];omega)
   have HUL:=Qh (Qlq (b.extract a b.size) most);rw [hsz]at HUL;clear HE HBL hsz;have ha1:(a:Int)≤(b.size:Int):=by omega
   have ha0:(0:Int)≤(a:Int):=by omega
   have HA:=Qh ha;generalize hX:b.extract a b.size=X at*;generalize Qct X most=r at*;obtain⟨L,u,y⟩:=r;dsimp only at CO HE2 HUL;have HTL:Hid ((txtL L).size=L.length):=Qh (Qb1 _ _);generalize txtL L=T at*;clear ha;go_enter Tryz.func13,Tryz.ntmps13;go_wp2_with fail;refine C.mono ?_;rintro e w2 ⟨z,rfl,hz,b2⟩;obtain rfl:=hz trivial;have HB2:=Qh b2;clear C b2 hz;go_wp2_with fail;refine(CO _).mono ?_;rintro e w3 ⟨rfl,b3⟩;have HB3:=Qh (HB2.out.trans (b3.mono HB2.out.size));clear HB2 b3 CO;by_cases hy:y=0
   ·subst hy;have HE3:=Qh ((HE2.out).trans (if_neg (fun h=>h rfl)));have hul:=HUL.out;have hu0:IntKind.i64.wrap ((a:Int)+(u:Int))=((a+u:Nat):Int):=by rw [IntWalk.i64_in _ (by have:=HA.out;omega)];rfl
    have hTz:T.size≤1048576:=by rw [HTL.out];omega
    have hwu:IntKind.u32.wrap (T.size:Int)=(T.size:Int):=by rw [IntKind.wrap_u32'];omega
    have CS:=fun wx=>Qj6 T wx (by omega)
    have hi:iw (Qb7 0#32 T)=((Qb7 0#32 T).toNat:Int):=by unfold iw;rfl
    rw [hi]at CS;have C3:=fun wx=>Qhc (Qb7 0#32 T).toNat wx;have C4:=fun wx=>Qhc T.size wx;have hS8:=Qgf T;have hsl:Qih T=Qcg (Qb7 0#32 T).toNat++Qcg T.size:=rfl;have k4:∀n,(Qcg n).size=4:=fun n=>Qb1 _ _;have s1:=k4 (Qb7 0#32 T).toNat;have s2:=k4 T.size;have hadd:¬(((Qcg (Qb7 0#32 T).toNat).size+(Qcg T.size).size:Nat):Int)>9223372036854775807:=by omega
    clear HE2 hi k4 s1 s2;generalize Qcg (Qb7 0#32 T).toNat=Q1 at*;generalize Qcg T.size=Q2 at*;generalize (Qb7 0#32 T).toNat=cc at*;replace hsl:=hsl.symm;generalize Qih T=K at*;have HZ:Hid ((b.extract (a+u) b.size).size=b.size-(a+u)):=Qh (by rw [ByteArray.size_extract];omega)
    have hv1:((a+u:Nat):Int)≤(b.size:Int):=by have:=HA.out;omega
    have hv0:(0:Int)≤((a+u:Nat):Int):=by omega
    generalize hV:a+u=v at*;generalize hR:b.extract v b.size=R at*;have hz0:=HZ.out;clear hul;by_cases h8:R.size=8
    ·have hR8:(R.size:Int)=8:=by omega
     by_cases hq:R=K
     ·have HE4:=Qh (HE3.out.trans ((if_neg (by omega)).trans (if_pos hq)))
      clear HE3 hz0 h8;go_wp2_with fail;refine(CS _).mono ?_;rintro e w4 ⟨rfl,rfl⟩;go_wp2_with fail;refine(C3 _).mono ?_;rintro e w5 ⟨rfl,b5⟩;have HB5:=Qh (HB3.out.trans (b5.mono HB3.out.size));clear b5;go_wp2_with fail;refine(C4 _).mono ?_;rintro e w6 ⟨rfl,b6⟩;have HB6:=Qh (HB5.out.trans (b6.mono HB5.out.size));clear b6;go_wp2_with fail;go_ret2;rw [HE4.out];exact⟨rfl,HB6.out⟩
     ·have HE4:=Qh (HE3.out.trans ((if_neg (by omega)).trans (if_neg hq)))
      have hql:=Qm7 hq;clear HE3 hz0 h8;go_wp2_with fail;refine(CS _).mono ?_;rintro e w4 ⟨rfl,rfl⟩;go_wp2_with fail;refine(C3 _).mono ?_;rintro e w5 ⟨rfl,b5⟩;have HB5:=Qh (HB3.out.trans (b5.mono HB3.out.size));clear b5;go_wp2_with fail;refine(C4 _).mono ?_;rintro e w6 ⟨rfl,b6⟩;have HB6:=Qh (HB5.out.trans (b6.mono HB5.out.size));clear b6;go_wp2_with fail;go_ret2;rw [HE4.out];exact⟨rfl,HB6.out⟩
    ·have hR8:¬(R.size:Int)=8:=by omega
     have HE4:=Qh (HE3.out.trans (if_pos (by omega)))
     clear HE3 hz0;go_wp2_with fail;go_ret2;rw [HE4.out];exact⟨rfl,HB3.out⟩
   ·have hyi:¬(y:Int)=0:=by omega
    have HE3:=Qh ((HE2.out).trans (if_pos hy));go_wp2_with fail;go_ret2;rw [HE3.out];exact⟨rfl,HB3.out⟩
  ·have hxi:¬(x:Int)=0:=by omega
   have HE2:=Qh (HE.out.trans (if_pos hx));clear HE;go_enter Tryz.func13,Tryz.ntmps13;go_wp2_with fail;refine C.mono ?_;rintro e w2 ⟨z,rfl,hz,b2⟩;have HB2:=Qh b2;clear hz b2;go_wp2_with fail;go_ret2;rw [HE2.out];exact⟨rfl,HB2.out⟩
theorem Qvq:Qgl ⟨#[97,98,99]⟩=⟨#[75,76,74,6,0]⟩:=by decide+kernel
theorem Q0u:gzT ⟨#[97,98,99]⟩=⟨#[31,139,8,0,0,0,0,0,0,255,75,76,74,6,0,194,65,36,53,3,0,0,0]⟩:=by
 unfold gzT;rw [Qvq]
 decide+kernel
theorem Qyq:Qgn ⟨#[31,139,8,0,0,0,0,0,0,255,75,76,74,6,0,194,65,36,53,3,0,0,0]⟩ 3=(⟨#[97,98,99]⟩,0):=by decide+kernel
theorem Qvj:Qgn ⟨#[]⟩ 3=(⟨#[]⟩,2):=by decide+kernel
theorem Qha (w:World):Calls Tryz.prog 9 #[] w fun e w'=>e= .returned (.bool true)∧Below w.heap.size w w':=by
 have hz:(⟨#[97,98,99]⟩:ByteArray).size=3:=rfl;have C1:=fun wx=>Qsp ⟨#[97,98,99]⟩ (by rw [hz];decide) wx
 rw [Q0u]at C1;have C2:=fun wx=>Qh6 ⟨#[31,139,8,0,0,0,0,0,0,255,75,76,74,6,0,194,65,36,53,3,0,0,0]⟩ 3 (by decide) wx
 rw [Qyq]at C2;have C3:=fun wx=>Qh6 ⟨#[]⟩ 3 (by decide) wx
 rw [Qvj]at C3;clear hz;generalize (⟨#[31,139,8,0,0,0,0,0,0,255,75,76,74,6,0,194,65,36,53,3,0,0,0]⟩:ByteArray)=P at*;go_enter Tryz.func9,Tryz.ntmps9;go_wp2_with fail;refine(C1 _).mono ?_;rintro e w1 ⟨rfl,b1⟩;go_wp2_with fail;refine(C2 _).mono ?_;rintro e w2 ⟨rfl,b2⟩;have b2:=b1.trans (b2.mono b1.size);clear b1;go_wp2_with fail;refine(C3 _).mono ?_;rintro e w3 ⟨rfl,b3⟩;have b3:=b2.trans (b3.mono b2.size);clear b2;go_wp2_with fail;go_ret;exact⟨rfl,b3⟩
end Go.Proofs.YtbmcjdoiohcaaaaGreat
