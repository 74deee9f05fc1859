/- OC -/
import Derived.Test.YtbmcjdoiohcaaaaGreatOB
set_option maxRecDepth 100000
namespace Go.Proofs.YtbmcjdoiohcaaaaGreat
open Go.RowKit
theorem Qur (s:ByteArray) (c:Int) (w:World):
  Calls Tryz.prog 98 #[.string s,.int .u8 c] w fun e w'=>e= .returned (.int .i64 (Go.Lib.indexByte s.data.toList c.toNat.toUInt8))∧w'=w:=by
 go_enter Tryz.func98,Tryz.ntmps98
 go_wp2
 rw [run_callFunc_extern Tryz.func128 (by kernel_rfl) (by kernel_rfl) (by kernel_rfl) (e:=Extern.BytealgIndexByte.indexByte) (by kernel_rfl),Lib.run_indexByteString]
 simp only [Result.andThen];rw [Oper.upon_value];go_wp2;go_ret;exact⟨rfl,rfl⟩
theorem Qmg (s:ByteArray) (c:Int) (w:World):
  Calls Tryz.prog 64 #[.string s,.int .u8 c] w fun e w'=>e= .returned (.int .i64 (Go.Lib.indexByte s.data.toList c.toNat.toUInt8))∧w'=w:=by
 have C:=Qur s c w;generalize Go.Lib.indexByte s.data.toList c.toNat.toUInt8=r at*;go_enter Tryz.func64,Tryz.ntmps64;go_wp2_with fail;refine C.mono ?_;rintro e w1 ⟨rfl,rfl⟩;go_wp2_with fail;go_ret;exact⟨rfl,rfl⟩
theorem Qzy {U:ByteArray} {l:List UInt8} (h:¬U=⟨l.toArray⟩):(U.toList==l)=false:=by
 rw [beq_eq_false_iff_ne];intro e
 apply h
 rw [←e,ByteArray.toList_eq]
theorem Qm7 {U T:ByteArray} (h:¬U=T):(U.toList==T.toList)=false:=by
 rw [beq_eq_false_iff_ne];intro e
 apply h
 rw [ByteArray.toList_eq,ByteArray.toList_eq]at e;cases U;cases T;exact congrArg ByteArray.mk (Array.toList_inj.1 e)
def Qtb (g:Nat) (s:ByteArray) (r:Nat×Nat) (w:World) (e:Ending) (w':World):Prop:=e= .returned (.int .i64 (r.2:Int))∧Ho g w w'∧(r.2=0→HW g s r.1 w')
theorem Qms (g a:Nat) (s:ByteArray) (w:World) (h:HW g s a w) (hs:s.size≤281474976710656):
  Calls Tryz.prog 35 #[.pointer (some ⟨g,0,none⟩)] w (Qtb g s (Qd4 s a) w):=by
 have C:=Qgi g a 2 s w h hs (by decide)
 by_cases h1:a+2≤s.size
 ·simp only [if_pos h1]at C;obtain⟨A,hA⟩:∃A,A=Qac s a:=⟨_,rfl⟩;obtain⟨B,hB⟩:∃B,B=Qac s (a+1):=⟨_,rfl⟩;have hA8:A<256:=by rw [hA];exact Qaz _ _
  have hB8:B<256:=by rw [hB];exact Qaz _ _
  have hz:(s.extract a (a+2)).size=2:=by rw [ByteArray.size_extract];omega
  have e0:Qac (s.extract a (a+2)) 0=A:=by rw [Qey s a (a+2) 0 h1 (by omega),hA];rfl
  have e1:Qac (s.extract a (a+2)) 1=B:=by rw [Qey s a (a+2) 1 h1 (by omega),hB]
  have HE:Hid (Qd4 s a=if s.size<a+2+A+256*B then(a,2)else (a+2+A+256*B,0)):=Qh (by
   unfold Qd4;rw [hA,hB];by_cases k:s.size<a+2+Qac s a+256*Qac s (a+1)
   ·rw [if_pos (.inr k),if_pos k]
   ·rw [if_neg (by omega),if_neg k])
  generalize s.extract a (a+2)=T at*;have hT0:0<T.size:=by omega
  have hT1:1<T.size:=by omega
  have g0:(T[0].toNat:Int)=(A:Int):=by rw [Qa2 T 0 hT0,e0]
  have g1:(T[1].toNat:Int)=(B:Int):=by rw [Qa2 T 1 hT1,e1]
  have hw0:IntKind.i64.wrap (A:Int)=(A:Int):=IntWalk.i64_in _ (by omega)
  have hw1:IntKind.i64.wrap (B:Int)=(B:Int):=IntWalk.i64_in _ (by omega)
  have hw2:IntKind.i64.wrap ((B:Int)*256)=(B:Int)*256:=IntWalk.i64_in _ (by omega)
  have hw3:IntKind.i64.wrap ((A:Int)+(B:Int)*256)=((A+256*B:Nat):Int):=by rw [IntWalk.i64_in _ (by omega)];omega
  clear hA hB e0 e1 h;go_enter Tryz.func35,Tryz.ntmps35;go_wp2_with fail;refine C.mono ?_;rintro e w1 ⟨m1,rfl,k1⟩;have C2:=Qgi g (a+2) (A+256*B) s w1.drew k1.drew hs (by omega)
  have m2:=m1.drew;clear k1 C m1;have hi0:(0:Int)<(T.size:Int):=by omega
  have hi1:(1:Int)<(T.size:Int):=by omega
  go_wp2_with fail;refine Qbc (by kernel_rfl) ?_
  change wpAnyH _ _ _ _ _ _ _ _ w1.drew;generalize w1.drew=w2 at C2 m2⊢;refine tH (i:=0) (v:= .pointer (some ⟨g,0,none⟩)) rfl rfl ?_;simp only [pu];refine tH (i:=1) (v:= .string T) rfl rfl ?_;simp only [pu];refine tH (i:=2) (v:= .int .u8 (A:Int)) rfl rfl ?_;simp only [pu];refine tH (i:=3) (v:= .int .i64 (A:Int)) rfl rfl ?_;simp only [pu];refine tH (i:=4) (v:= .string T) rfl rfl ?_;simp only [pu];refine tH (i:=5) (v:= .int .u8 (B:Int)) rfl rfl ?_;simp only [pu];refine tH (i:=6) (v:= .int .i64 (B:Int)) rfl rfl ?_;simp only [pu];refine tH (i:=7) (v:= .int .i64 ((B:Int)*256)) rfl rfl ?_;simp only [pu];refine tH (i:=8) (v:= .int .i64 ((A+256*B:Nat):Int)) rfl rfl ?_;simp only [pu];by_cases h2:a+2+(A+256*B)≤s.size
  ·simp only [if_pos h2]at C2;refine Qau (i:=9) (f:=63) (by kernel_rfl) rfl rfl (by go_simp;skip) (C2.mono ?_)
   rintro e w3 ⟨m3,rfl,k3⟩;refine⟨_,rfl,?_⟩;simp only [pu];refine tH (i:=10) (v:= .tuple #[.string (s.extract (a+2) (a+2+(A+256*B))),.bool true]) rfl rfl ?_;simp only [pu];refine tH (i:=11) (v:= .string (s.extract (a+2) (a+2+(A+256*B)))) rfl rfl ?_;simp only [pu];refine tH (i:=12) (v:= .bool true) rfl rfl ?_;simp only [pu];refine tH (i:=13) (v:= .string (s.extract (a+2) (a+2+(A+256*B)))) rfl rfl ?_;simp only [pu];refine tH (i:=14) (v:= .bool true) rfl rfl ?_;simp only [pu];refine wpAnyH_done (by kernel_rfl) ?_ _
   have HK3:=Qh (⟨m2.trans m3,k3⟩:Ho g w w3∧HW g s (a+2+(A+256*B)) w3);clear C2 m2 m3 k3;go_wp2_with fail;go_ret;rw [HE.out,if_neg (by omega)]
   exact⟨rfl,HK3.out.1,fun _=>by rw [show a+2+A+256*B=a+2+(A+256*B)by omega];exact HK3.out.2⟩
  ·simp only [if_neg h2]at C2;refine Qau (i:=9) (f:=63) (by kernel_rfl) rfl rfl (by go_simp;skip) (C2.mono ?_)
   rintro e w3 ⟨m3,rfl⟩;refine⟨_,rfl,?_⟩;simp only [pu];refine tH (i:=10) (v:= .tuple #[.string ⟨#[]⟩,.bool false]) rfl rfl ?_;simp only [pu];refine tH (i:=11) (v:= .string ⟨#[]⟩) rfl rfl ?_;simp only [pu];refine tH (i:=12) (v:= .bool false) rfl rfl ?_;simp only [pu];refine tH (i:=13) (v:= .string ⟨#[]⟩) rfl rfl ?_;simp only [pu];refine tH (i:=14) (v:= .bool false) rfl rfl ?_;simp only [pu];refine wpAnyH_done (by kernel_rfl) ?_ _
   have HK3:=Qh (m2.trans m3);clear C2 m2 m3;go_wp2_with fail;go_ret;rw [HE.out,if_pos (by omega)]
   exact⟨rfl,HK3.out,fun k=>by cases k⟩
 ·simp only [if_neg h1]at C;have HE:Hid (Qd4 s a=(a,2)):=Qh (if_pos (.inl (by omega)))
  clear h;go_enter Tryz.func35,Tryz.ntmps35;go_wp2_with fail;refine C.mono ?_;rintro e w1 ⟨m1,rfl⟩;go_wp2_with fail;go_ret;rw [HE.out];exact⟨rfl,m1,fun k=>by cases k⟩
theorem Quj (s:ByteArray) (a:Nat) (ha:a≤s.size) (w:World):
  Calls Tryz.prog 64 #[.string (s.extract a s.size),.int .u8 0] w fun e w'=>e= .returned (.int .i64 (match Qfo s (s.size-a) a with|some b=>((b-1-a:Nat):Int)|none=> -1))∧w'=w:=by
 have C:=Qmg (s.extract a s.size) 0 w;rw [Lib.extract_data,List.take_of_length_le (by rw [List.length_drop,show s.data.toList.length=s.size from Array.length_toList];exact Ql),show((0:Int).toNat.toUInt8)=0 from rfl,Qll s (s.size-a) a (by omega)]at C
 exact C
theorem Qoa (g a:Nat) (s:ByteArray) (w:World) (h:HW g s a w) (hs:s.size≤281474976710656):
  Calls Tryz.prog 36 #[.pointer (some ⟨g,0,none⟩)] w (Qtb g s (Qfi s a) w):=by
 have C:=fun wx=>Quj s a h.le wx;have c0:=h.c0;have c1:=h.c1;have ha:(a:Int)≤(s.size:Int):=by have:=h.le;omega
 have HE:Hid (Qfi s a=match Qfo s (s.size-a) a with|some b=>(b,0)|none=>(a,2)):=Qh rfl
 have hm2:=(Ho.refl g w);cases hn:Qfo s (s.size-a) a with
 |none=>
  rw [hn]at C HE;go_enter Tryz.func36,Tryz.ntmps36;go_wp2_with fail;go_quiet (refine Calls.quiet_of_same (C _));have m2:=hm2.drewN nq;clear h c0 c1 C;generalize w.drewN nq=w0 at m2⊢;go_wp2_with fail;go_ret;rw [HE.out];exact⟨rfl,m2,fun k=>by cases k⟩
 |some b=>
  rw [hn]at C HE;have hb:=Qgc hn;have HB:Hid (a<b∧b≤s.size):=Qh (by have:=h.le;omega)
  obtain⟨d,hd⟩:∃d,d=b-1-a:=⟨_,rfl⟩;have hw1:IntKind.i64.wrap ((d:Int)+1)=(d:Int)+1:=IntWalk.i64_in _ (by omega)
  have hw2:IntKind.i64.wrap ((a:Int)+((d:Int)+1))=(b:Int):=by rw [IntWalk.i64_in _ (by omega)];omega
  dsimp only at C;rw [←hd]at C;have hdn:¬(d:Int)<0:=by omega
  clear hn hb hd;go_enter Tryz.func36,Tryz.ntmps36;go_wp2_with fail;go_quiet (refine Calls.quiet_of_same (C _));have m2:=hm2.drewN nq;have h2:=h.drewN nq;clear h c0 c1 C;generalize w.drewN nq=w0 at m2 h2⊢;have c1:=h2.c1;have f1:=h2.fz 1;go_wp2_with fail;go_ret;rw [HE.out];exact⟨rfl,m2.set 1 _,fun _=>h2.to b HB.out.2⟩
theorem Qmr (g:Nat) (s:ByteArray) (w:World) (h:HW g s 0 w) (hs:s.size≤281474976710656):
  Calls Tryz.prog 34 #[.pointer (some ⟨g,0,none⟩)] w fun e w'=>Ho g w w'∧((badS s∧∃v,e= .returned (.tuple #[v,.int .i64 2]))∨(¬badS s∧e= .returned (.tuple #[.int .u8 (Qac s 3:Int),.int .i64 0])∧HW g s 10 w')):=by
 have C:=Qgi g 0 10 s w h hs (by decide)
 simp only [Nat.zero_add]at C;clear h;by_cases h1:10≤s.size
 ·simp only [if_pos h1]at C;have hz:(s.extract 0 10).size=10:=by rw [ByteArray.size_extract];omega
  have e3:Qac (s.extract 0 10) 3=Qac s 3:=Qey s 0 10 3 h1 (by decide)
  have e0:(s.extract 0 10).extract 0 3=s.extract 0 3:=by rw [ByteArray.extract_extract];rfl
  have HB:Hid (badS s↔s.extract 0 3≠Qz1∨32≤Qac s 3):=Qh ⟨fun k=>k.resolve_left (by omega),.inr⟩
  obtain⟨F,hF⟩:∃F,F=Qac s 3:=⟨_,rfl⟩;have hF8:F<256:=by rw [hF];exact Qaz _ _
  rw [←hF]at e3 HB;rw [←hF];generalize hT:s.extract 0 10=T at*;generalize hU:s.extract 0 3=U at*;have hT3:3<T.size:=by omega
  have hi3:(3:Int)<(T.size:Int):=by omega
  have hi3':(3:Int)≤(T.size:Int):=by omega
  have g3:(T[3].toNat:Int)=(F:Int):=by rw [Qa2 T 3 hT3,e3]
  have hand:bits .and .u8 (F:Int) 224=((F&&&224:Nat):Int):=u8_and_nat F 224 hF8 (by decide)
  have hflag:(F&&&224=0)↔F<32:=by
   have:∀j:Fin 256,(j.val&&&224=0)↔j.val<32:=by decide+kernel
   exact this ⟨F,hF8⟩
  by_cases hb:U=⟨#[31,139,8]⟩
  ·by_cases hf:F<32
   ·have HN:Hid (¬badS s):=Qh fun k=>by
     rcases HB.out.1 k with k|k
     ·exact k hb
     ·omega
    have hand0:bits .and .u8 (F:Int) 224=0:=by rw [hand,hflag.2 hf];rfl
    have g3F:T[3].toNat=F:=by rw [Qa2 T 3 hT3,e3]
    clear hflag hF hand HB hz e3 h1;go_enter Tryz.func34,Tryz.ntmps34;go_wp2_with fail;refine C.mono ?_;rintro e w1 ⟨m1,rfl,k1⟩;go_wp2_with fail;go_ret2;exact⟨m1,.inr ⟨HN.out,rfl,k1⟩⟩
   ·have HN:Hid (badS s):=Qh (HB.out.2 (.inr (by omega)))
    have hand0:¬bits .and .u8 (F:Int) 224=0:=by rw [hand];intro k;exact hf (hflag.1 (by omega))
    have g3F:T[3].toNat=F:=by rw [Qa2 T 3 hT3,e3]
    clear hflag hF hand HB hz e3 h1;go_enter Tryz.func34,Tryz.ntmps34;go_wp2_with fail;refine C.mono ?_;rintro e w1 ⟨m1,rfl,k1⟩;go_wp2_with fail;go_ret2;exact⟨m1,.inl ⟨HN.out,_,rfl⟩⟩
  ·have HN:Hid (badS s):=Qh (HB.out.2 (.inl hb));have hbl:(U.toList==[31,139,8])=false:=Qzy hb;clear hflag hF hand HB hz e3 h1;go_enter Tryz.func34,Tryz.ntmps34;go_wp2_with fail;refine C.mono ?_;rintro e w1 ⟨m1,rfl,k1⟩;go_wp2_with fail;go_ret2;exact⟨m1,.inl ⟨HN.out,_,rfl⟩⟩
 ·simp only [if_neg h1]at C;have HB:Hid (badS s):=Qh (.inl (by omega))
  go_enter Tryz.func34,Tryz.ntmps34
  go_wp2_with fail;refine C.mono ?_;rintro e w1 ⟨m1,rfl⟩;go_wp2_with fail;go_ret2;exact⟨m1,.inl ⟨HB.out,_,rfl⟩⟩
theorem Qp1 (g a:Nat) (s:ByteArray) (w:World) (h:HW g s a w) (hs:s.size≤281474976710656):
  Calls Tryz.prog 37 #[.pointer (some ⟨g,0,none⟩)] w (Qtb g s (sumS s a) w):=by
 have hle:=h.le;have hi:iw (Qb7 0#32 (s.extract 0 a))=((Qb7 0#32 (s.extract 0 a)).toNat:Int):=by unfold iw;rfl
 have C1:=fun wx=>Qwg (s.extract 0 a) (by rw [ByteArray.size_extract];omega) _ rfl wx
 rw [hi]at C1;have HE:Hid (sumS s a=if s.size<a+2 then(a,2)else if s.extract a (a+2)=(Qcg (Qb7 0#32 (s.extract 0 a)).toNat).extract 0 2 then(a+2,0)else (a,8)):=Qh rfl;generalize (Qb7 0#32 (s.extract 0 a)).toNat=c at*;have C2:=fun wx=>Qd7 c wx;have hz:(Qcg c).size=4:=by unfold Qcg txtL;rw [Qb1];rfl
 have C3:=fun wx (hx:HW g s a wx)=>Qgi g a 2 s wx hx (by omega) (by decide)
 generalize Qcg c=K at*;have hk:(2:Int)≤(K.size:Int):=by omega
 have ha0:(0:Int)≤(a:Int):=by omega
 have ha1:(a:Int)≤(s.size:Int):=by omega
 generalize hT:K.extract 0 2=T at*;clear hi hz;generalize hX:s.extract 0 a=X at*;go_enter Tryz.func37,Tryz.ntmps37;go_wp2_with fail;refine Qgs (fun wx=>HW g s a wx) (by kernel_rfl) ?_
 change wpAnyH _ _ _ _ _ _ _ _ w.drew;have HJ:=Qh h.drew;have m2:=(Ho.refl g w).drew;generalize w.drew=w2 at HJ m2⊢;clear h;refine Qar (i:=0) (v:= .pointer (some ⟨g,0,none⟩)) rfl rfl (fun wx hJ=> ?_) HJ.out ?_
 ·go_simp;skip
 simp only [pu];refine Qar (i:=1) (v:= .pointer (some ⟨g,0,none⟩)) rfl rfl (fun wx hJ=> ?_) HJ.out ?_
 ·go_simp;skip
 simp only [pu];refine Qar (i:=2) (v:= .pointer (some ⟨g,0,none⟩)) rfl rfl (fun wx hJ=> ?_) HJ.out ?_
 ·go_simp;skip
 simp only [pu];refine Qar (i:=3) (v:= .string s) rfl rfl (fun wx hJ=> ?_) HJ.out ?_
 ·have cc:=hJ.c0;go_simp;skip
 simp only [pu];refine Qar (i:=4) (v:= .pointer (some ⟨g,0,none⟩)) rfl rfl (fun wx hJ=> ?_) HJ.out ?_
 ·go_simp;skip
 simp only [pu];refine Qar (i:=5) (v:= .pointer (some ⟨g,0,none⟩)) rfl rfl (fun wx hJ=> ?_) HJ.out ?_
 ·go_simp;skip
 simp only [pu];refine Qar (i:=6) (v:= .pointer (some ⟨g,1,none⟩)) rfl rfl (fun wx hJ=> ?_) HJ.out ?_
 ·go_simp;skip
 simp only [pu];refine Qar (i:=7) (v:= .int .i64 (a:Int)) rfl rfl (fun wx hJ=> ?_) HJ.out ?_
 ·have cc:=hJ.c1;go_simp;skip
 simp only [pu];refine Qar (i:=8) (v:= .string X) rfl rfl (fun wx hJ=> ?_) HJ.out ?_
 ·go_simp;skip
 simp only [pu];refine Qe1 (i:=9) (f:=15) (by kernel_rfl) rfl rfl (by go_simp;skip) ((C1 _).mono ?_)
 rintro e w3 ⟨rfl,b3⟩;have HJ3:=Qh (HJ.out.below b3);have m3:=m2.trans (Ho.of b3);clear HJ m2 b3;have HJ:=HJ3;clear HJ3;refine⟨_,rfl,HJ.out,?_⟩;simp only [pu];refine Qe1 (i:=10) (f:=30) (by kernel_rfl) rfl rfl (by go_simp;skip) ((C2 _).mono ?_)
 rintro e w4 ⟨rfl,b4⟩;have HJ3:=Qh (HJ.out.below b4);have m4:=m3.trans (Ho.of b4);clear HJ m3 b4;have HJ:=HJ3;clear HJ3;refine⟨_,rfl,HJ.out,?_⟩;simp only [pu];refine Qar (i:=11) (v:= .string T) rfl rfl (fun wx hJ=> ?_) HJ.out ?_
 ·go_simp;skip
 simp only [pu];refine Qar (i:=12) (v:= .string T) rfl rfl (fun wx hJ=> ?_) HJ.out ?_
 ·go_simp;skip
 simp only [pu];refine wpAnyH_done (by kernel_rfl) ?_ _
 go_wp2_with fail;refine(C3 _ HJ.out).mono ?_;by_cases h1:a+2≤s.size
 ·simp only [if_pos h1];rintro e w5 ⟨m5,rfl,k5⟩;have m6:=m4.trans m5;clear HJ m4 m5;generalize hU:s.extract a (a+2)=U at*;by_cases hq:U=T
  ·go_wp2_with fail;go_ret;rw [HE.out,if_neg (by omega),if_pos hq]
   exact⟨rfl,m6,fun _=>k5⟩
  ·have hql:=Qm7 hq;go_wp2_with fail;go_ret;rw [HE.out,if_neg (by omega),if_neg hq]
   exact⟨rfl,m6,fun k=>by cases k⟩
 ·simp only [if_neg h1];rintro e w5 ⟨m5,rfl⟩;have m6:=m4.trans m5;clear HJ m4 m5;go_wp2_with fail;go_ret;rw [HE.out,if_pos (by omega)]
  exact⟨rfl,m6,fun k=>by cases k⟩
end Go.Proofs.YtbmcjdoiohcaaaaGreat
