/- The developers' head of chapter 12: its parts. -/
import Derived.Test.YtmhoejmgjbgddaaGreatOB
import Derived.Test.YtmhoejmgjbgddaaGreatNI
namespace Go.Proofs.YtmhoejmgjbgddaaGreat
open Go.RowKit
set_option maxRecDepth 100000 in
theorem index_any (s:ByteArray) (c:Int) (w:World):
  Calls Tryz.prog 98 #[.string s,.int .u8 c] w fun e w'=>e= .returned (.int .i64 (Go.Lib.indexByte s.data.toList c.toNat.toUInt8))∧w'=w:=by
 go_enter Tryz.func98,Tryz.ntmps98
 go_wp2
 rw [run_callFunc_extern Tryz.func128 (by kernel_rfl) (by kernel_rfl) (by kernel_rfl) (e:=Extern.BytealgIndexByte.indexByte) (by kernel_rfl),Lib.run_indexByteString]
 simp only [Result.andThen];rw [Oper.upon_value];go_wp2;go_ret;exact⟨rfl,rfl⟩
set_option maxRecDepth 100000 in
theorem indexByte_any (s:ByteArray) (c:Int) (w:World):
  Calls Tryz.prog 64 #[.string s,.int .u8 c] w fun e w'=>e= .returned (.int .i64 (Go.Lib.indexByte s.data.toList c.toNat.toUInt8))∧w'=w:=by
 have C:=index_any s c w;generalize Go.Lib.indexByte s.data.toList c.toNat.toUInt8=r at*;go_enter Tryz.func64,Tryz.ntmps64;go_wp2_with fail;refine C.mono ?_;rintro e w1 ⟨rfl,rfl⟩;go_wp2_with fail;go_ret;exact⟨rfl,rfl⟩
theorem lit_ne {U:ByteArray} {l:List UInt8} (h:¬U=⟨l.toArray⟩):(U.toList==l)=false:=by
 rw [beq_eq_false_iff_ne];intro e
 apply h
 rw [←e,ByteArray.toList_eq]
theorem text_ne {U T:ByteArray} (h:¬U=T):(U.toList==T.toList)=false:=by
 rw [beq_eq_false_iff_ne];intro e
 apply h
 rw [ByteArray.toList_eq,ByteArray.toList_eq]at e;cases U;cases T;exact congrArg ByteArray.mk (Array.toList_inj.1 e)
def PassV (g:Nat) (s:ByteArray) (r:Nat×Nat) (w:World) (e:Ending) (w':World):Prop:=e= .returned (.int .i64 (r.2:Int))∧Ho g w w'∧(r.2=0→HW g s r.1 w')
set_option maxRecDepth 100000 in
theorem passExtra_any (g a:Nat) (s:ByteArray) (w:World) (h:HW g s a w) (hs:s.size≤281474976710656):
  Calls Tryz.prog 35 #[.pointer (some ⟨g,0,none⟩)] w (PassV g s (extraS s a) w):=by
 have C:=take12_any g a 2 s w h hs (by decide)
 by_cases h1:a+2≤s.size
 ·simp only [if_pos h1]at C
  obtain⟨A,hA⟩:∃A,A=byteS s a:=⟨_,rfl⟩;obtain⟨B,hB⟩:∃B,B=byteS s (a+1):=⟨_,rfl⟩;have hA8:A<256:=by rw [hA];exact byteS_lt _ _
  have hB8:B<256:=by rw [hB];exact byteS_lt _ _
  have hz:(s.extract a (a+2)).size=2:=by rw [ByteArray.size_extract];omega
  have e0:byteS (s.extract a (a+2)) 0=A:=by rw [byteS_ext s a (a+2) 0 h1 (by omega),hA];rfl
  have e1:byteS (s.extract a (a+2)) 1=B:=by rw [byteS_ext s a (a+2) 1 h1 (by omega),hB]
  have HE:Hid (extraS s a=if s.size<a+2+A+256*B then(a,2)else (a+2+A+256*B,0)):=Lib.hid (by
   unfold extraS;rw [hA,hB];by_cases k:s.size<a+2+byteS s a+256*byteS s (a+1)
   ·rw [if_pos (.inr k),if_pos k]
   ·rw [if_neg (by omega),if_neg k])
  generalize s.extract a (a+2)=T at*;have hT0:0<T.size:=by omega
  have hT1:1<T.size:=by omega
  have g0:(T[0].toNat:Int)=(A:Int):=by rw [byteS_at T 0 hT0,e0]
  have g1:(T[1].toNat:Int)=(B:Int):=by rw [byteS_at T 1 hT1,e1]
  have hw0:IntKind.i64.wrap (A:Int)=(A:Int):=IntWalk.i64_in _ (by omega)
  have hw1:IntKind.i64.wrap (B:Int)=(B:Int):=IntWalk.i64_in _ (by omega)
  have hw2:IntKind.i64.wrap ((B:Int)*256)=(B:Int)*256:=IntWalk.i64_in _ (by omega)
  have hw3:IntKind.i64.wrap ((A:Int)+(B:Int)*256)=((A+256*B:Nat):Int):=by rw [IntWalk.i64_in _ (by omega)];omega
  clear hA hB e0 e1 h;go_enter Tryz.func35,Tryz.ntmps35;go_wp2_with fail;refine C.mono ?_;rintro e w1 ⟨m1,rfl,k1⟩;have C2:=take12_any g (a+2) (A+256*B) s w1.drew k1.drew hs (by omega)
  have m2:=m1.drew;clear k1 C m1;have hi0:(0:Int)<(T.size:Int):=by omega
  have hi1:(1:Int)<(T.size:Int):=by omega
  go_wp2_with fail;refine heldT_start (by kernel_rfl) ?_
  change wpAnyH _ _ _ _ _ _ _ _ w1.drew;generalize w1.drew=w2 at C2 m2⊢;refine heldT_take (i:=0) (v:= .pointer (some ⟨g,0,none⟩)) rfl rfl (fun wx=> ?_) ?_
  ·go_simp;skip
  simp only [pu];refine heldT_take (i:=1) (v:= .string T) rfl rfl (fun wx=> ?_) ?_
  ·go_simp;skip
  simp only [pu];refine heldT_take (i:=2) (v:= .int .u8 (A:Int)) rfl rfl (fun wx=> ?_) ?_
  ·go_simp;skip
  simp only [pu];refine heldT_take (i:=3) (v:= .int .i64 (A:Int)) rfl rfl (fun wx=> ?_) ?_
  ·go_simp;skip
  simp only [pu];refine heldT_take (i:=4) (v:= .string T) rfl rfl (fun wx=> ?_) ?_
  ·go_simp;skip
  simp only [pu];refine heldT_take (i:=5) (v:= .int .u8 (B:Int)) rfl rfl (fun wx=> ?_) ?_
  ·go_simp;skip
  simp only [pu];refine heldT_take (i:=6) (v:= .int .i64 (B:Int)) rfl rfl (fun wx=> ?_) ?_
  ·go_simp;skip
  simp only [pu];refine heldT_take (i:=7) (v:= .int .i64 ((B:Int)*256)) rfl rfl (fun wx=> ?_) ?_
  ·go_simp;skip
  simp only [pu];refine heldT_take (i:=8) (v:= .int .i64 ((A+256*B:Nat):Int)) rfl rfl (fun wx=> ?_) ?_
  ·go_simp;skip
  simp only [pu];by_cases h2:a+2+(A+256*B)≤s.size
  ·simp only [if_pos h2]at C2
   refine heldT_call (i:=9) (f:=63) (by kernel_rfl) rfl rfl (by go_simp;skip) (C2.mono ?_)
   rintro e w3 ⟨m3,rfl,k3⟩;refine⟨_,rfl,?_⟩;simp only [pu];refine heldT_take (i:=10) (v:= .tuple #[.string (s.extract (a+2) (a+2+(A+256*B))),.bool true]) rfl rfl (fun wx=> ?_) ?_
   ·go_simp;skip
   simp only [pu];refine heldT_take (i:=11) (v:= .string (s.extract (a+2) (a+2+(A+256*B)))) rfl rfl (fun wx=> ?_) ?_
   ·go_simp;skip
   simp only [pu];refine heldT_take (i:=12) (v:= .bool true) rfl rfl (fun wx=> ?_) ?_
   ·go_simp;skip
   simp only [pu];refine heldT_take (i:=13) (v:= .string (s.extract (a+2) (a+2+(A+256*B)))) rfl rfl (fun wx=> ?_) ?_
   ·go_simp;skip
   simp only [pu];refine heldT_take (i:=14) (v:= .bool true) rfl rfl (fun wx=> ?_) ?_
   ·go_simp;skip
   simp only [pu];refine wpAnyH_done (by kernel_rfl) ?_ _
   have HK3:=Lib.hid (⟨m2.trans m3,k3⟩:Ho g w w3∧HW g s (a+2+(A+256*B)) w3);clear C2 m2 m3 k3;go_wp2_with fail;go_ret;rw [HE.out,if_neg (by omega)]
   exact⟨rfl,HK3.out.1,fun _=>by rw [show a+2+A+256*B=a+2+(A+256*B)by omega];exact HK3.out.2⟩
  ·simp only [if_neg h2]at C2
   refine heldT_call (i:=9) (f:=63) (by kernel_rfl) rfl rfl (by go_simp;skip) (C2.mono ?_)
   rintro e w3 ⟨m3,rfl⟩;refine⟨_,rfl,?_⟩;simp only [pu];refine heldT_take (i:=10) (v:= .tuple #[.string ⟨#[]⟩,.bool false]) rfl rfl (fun wx=> ?_) ?_
   ·go_simp;skip
   simp only [pu];refine heldT_take (i:=11) (v:= .string ⟨#[]⟩) rfl rfl (fun wx=> ?_) ?_
   ·go_simp;skip
   simp only [pu];refine heldT_take (i:=12) (v:= .bool false) rfl rfl (fun wx=> ?_) ?_
   ·go_simp;skip
   simp only [pu];refine heldT_take (i:=13) (v:= .string ⟨#[]⟩) rfl rfl (fun wx=> ?_) ?_
   ·go_simp;skip
   simp only [pu];refine heldT_take (i:=14) (v:= .bool false) rfl rfl (fun wx=> ?_) ?_
   ·go_simp;skip
   simp only [pu];refine wpAnyH_done (by kernel_rfl) ?_ _
   have HK3:=Lib.hid (m2.trans m3);clear C2 m2 m3;go_wp2_with fail;go_ret;rw [HE.out,if_pos (by omega)]
   exact⟨rfl,HK3.out,fun k=>by cases k⟩
 ·simp only [if_neg h1]at C
  have HE:Hid (extraS s a=(a,2)):=Lib.hid (if_pos (.inl (by omega)))
  clear h;go_enter Tryz.func35,Tryz.ntmps35;go_wp2_with fail;refine C.mono ?_;rintro e w1 ⟨m1,rfl⟩;go_wp2_with fail;go_ret;rw [HE.out];exact⟨rfl,m1,fun k=>by cases k⟩
theorem find_name (s:ByteArray) (a:Nat) (ha:a≤s.size) (w:World):
  Calls Tryz.prog 64 #[.string (s.extract a s.size),.int .u8 0] w fun e w'=>e= .returned (.int .i64 (match nameS s (s.size-a) a with|some b=>((b-1-a:Nat):Int)|none=> -1))∧w'=w:=by
 have C:=indexByte_any (s.extract a s.size) 0 w;rw [Lib.extract_data,List.take_of_length_le (by rw [List.length_drop,show s.data.toList.length=s.size from Array.length_toList];exact Nat.le_refl _),show((0:Int).toNat.toUInt8)=0 from rfl,index_name s (s.size-a) a (by omega)]at C
 exact C
set_option maxRecDepth 100000 in
theorem passText_any (g a:Nat) (s:ByteArray) (w:World) (h:HW g s a w) (hs:s.size≤281474976710656):
  Calls Tryz.prog 36 #[.pointer (some ⟨g,0,none⟩)] w (PassV g s (textS s a) w):=by
 have C:=fun wx=>find_name s a h.le wx;have c0:=h.c0;have c1:=h.c1;have ha:(a:Int)≤(s.size:Int):=by have:=h.le;omega
 have HE:Hid (textS s a=match nameS s (s.size-a) a with|some b=>(b,0)|none=>(a,2)):=Lib.hid rfl
 have hm2:=(Ho.refl g w);cases hn:nameS s (s.size-a) a with
 |none=>
  rw [hn]at C HE;go_enter Tryz.func36,Tryz.ntmps36;go_wp2_with fail;go_quiet (refine Calls.quiet_of_same (C _));have m2:=hm2.drewN nq;clear h c0 c1 C;generalize w.drewN nq=w0 at m2⊢;go_wp2_with fail;go_ret;rw [HE.out];exact⟨rfl,m2,fun k=>by cases k⟩
 |some b=>
  rw [hn]at C HE;have hb:=nameS_le hn;have HB:Hid (a<b∧b≤s.size):=Lib.hid (by have:=h.le;omega)
  obtain⟨d,hd⟩:∃d,d=b-1-a:=⟨_,rfl⟩;have hw1:IntKind.i64.wrap ((d:Int)+1)=(d:Int)+1:=IntWalk.i64_in _ (by omega)
  have hw2:IntKind.i64.wrap ((a:Int)+((d:Int)+1))=(b:Int):=by rw [IntWalk.i64_in _ (by omega)];omega
  dsimp only at C;rw [←hd]at C;have hdn:¬(d:Int)<0:=by omega
  clear hn hb hd;go_enter Tryz.func36,Tryz.ntmps36;go_wp2_with fail;go_quiet (refine Calls.quiet_of_same (C _));have m2:=hm2.drewN nq;have h2:=h.drewN nq;clear h c0 c1 C;generalize w.drewN nq=w0 at m2 h2⊢;have c1:=h2.c1;have f1:=h2.fz 1;go_wp2_with fail;go_ret;rw [HE.out];exact⟨rfl,m2.set 1 _,fun _=>h2.to b HB.out.2⟩
set_option maxRecDepth 100000 in
theorem passBegin_any (g:Nat) (s:ByteArray) (w:World) (h:HW g s 0 w) (hs:s.size≤281474976710656):
  Calls Tryz.prog 34 #[.pointer (some ⟨g,0,none⟩)] w fun e w'=>Ho g w w'∧((badS s∧∃v,e= .returned (.tuple #[v,.int .i64 2]))∨(¬badS s∧e= .returned (.tuple #[.int .u8 (byteS s 3:Int),.int .i64 0])∧HW g s 10 w')):=by
 have C:=take12_any g 0 10 s w h hs (by decide)
 simp only [Nat.zero_add]at C;clear h;by_cases h1:10≤s.size
 ·simp only [if_pos h1]at C
  have hz:(s.extract 0 10).size=10:=by rw [ByteArray.size_extract];omega
  have e3:byteS (s.extract 0 10) 3=byteS s 3:=byteS_ext s 0 10 3 h1 (by decide)
  have e0:(s.extract 0 10).extract 0 3=s.extract 0 3:=by rw [ByteArray.extract_extract];rfl
  have HB:Hid (badS s↔s.extract 0 3≠startT∨32≤byteS s 3):=Lib.hid ⟨fun k=>k.resolve_left (by omega),.inr⟩
  obtain⟨F,hF⟩:∃F,F=byteS s 3:=⟨_,rfl⟩;have hF8:F<256:=by rw [hF];exact byteS_lt _ _
  rw [←hF]at e3 HB;rw [←hF];generalize hT:s.extract 0 10=T at*;generalize hU:s.extract 0 3=U at*;have hT3:3<T.size:=by omega
  have hi3:(3:Int)<(T.size:Int):=by omega
  have hi3':(3:Int)≤(T.size:Int):=by omega
  have g3:(T[3].toNat:Int)=(F:Int):=by rw [byteS_at T 3 hT3,e3]
  have hand:bits .and .u8 (F:Int) 224=((F&&&224:Nat):Int):=u8_and_nat F 224 hF8 (by decide)
  have hflag:(F&&&224=0)↔F<32:=by
   have:∀j:Fin 256,(j.val&&&224=0)↔j.val<32:=by decide+kernel
   exact this ⟨F,hF8⟩
  by_cases hb:U=⟨#[31,139,8]⟩
  ·by_cases hf:F<32
   ·have HN:Hid (¬badS s):=Lib.hid fun k=>by
     rcases HB.out.1 k with k|k
     ·exact k hb
     ·omega
    have hand0:bits .and .u8 (F:Int) 224=0:=by rw [hand,hflag.2 hf];rfl
    have g3F:T[3].toNat=F:=by rw [byteS_at T 3 hT3,e3]
    clear hflag hF hand HB hz e3 h1;go_enter Tryz.func34,Tryz.ntmps34;go_wp2_with fail;refine C.mono ?_;rintro e w1 ⟨m1,rfl,k1⟩;go_wp2_with fail;go_ret2;exact⟨m1,.inr ⟨HN.out,rfl,k1⟩⟩
   ·have HN:Hid (badS s):=Lib.hid (HB.out.2 (.inr (by omega)))
    have hand0:¬bits .and .u8 (F:Int) 224=0:=by rw [hand];intro k;exact hf (hflag.1 (by omega))
    have g3F:T[3].toNat=F:=by rw [byteS_at T 3 hT3,e3]
    clear hflag hF hand HB hz e3 h1;go_enter Tryz.func34,Tryz.ntmps34;go_wp2_with fail;refine C.mono ?_;rintro e w1 ⟨m1,rfl,k1⟩;go_wp2_with fail;go_ret2;exact⟨m1,.inl ⟨HN.out,_,rfl⟩⟩
  ·have HN:Hid (badS s):=Lib.hid (HB.out.2 (.inl hb))
   have hbl:(U.toList==[31,139,8])=false:=lit_ne hb;clear hflag hF hand HB hz e3 h1;go_enter Tryz.func34,Tryz.ntmps34;go_wp2_with fail;refine C.mono ?_;rintro e w1 ⟨m1,rfl,k1⟩;go_wp2_with fail;go_ret2;exact⟨m1,.inl ⟨HN.out,_,rfl⟩⟩
 ·simp only [if_neg h1]at C
  have HB:Hid (badS s):=Lib.hid (.inl (by omega))
  go_enter Tryz.func34,Tryz.ntmps34
  go_wp2_with fail;refine C.mono ?_;rintro e w1 ⟨m1,rfl⟩;go_wp2_with fail;go_ret2;exact⟨m1,.inl ⟨HB.out,_,rfl⟩⟩
set_option maxRecDepth 100000 in
theorem passSum_any (g a:Nat) (s:ByteArray) (w:World) (h:HW g s a w) (hs:s.size≤281474976710656):
  Calls Tryz.prog 37 #[.pointer (some ⟨g,0,none⟩)] w (PassV g s (sumS s a) w):=by
 have hle:=h.le;have hi:iw (moreT 0#32 (s.extract 0 a))=((moreT 0#32 (s.extract 0 a)).toNat:Int):=by unfold iw;rfl
 have C1:=fun wx=>sum_crc (s.extract 0 a) (by rw [ByteArray.size_extract];omega) _ rfl wx
 rw [hi]at C1;have HE:Hid (sumS s a=if s.size<a+2 then(a,2)else if s.extract a (a+2)=(fourB (moreT 0#32 (s.extract 0 a)).toNat).extract 0 2 then(a+2,0)else (a,8)):=Lib.hid rfl;generalize (moreT 0#32 (s.extract 0 a)).toNat=c at*;have C2:=fun wx=>lowestFirst_any c wx;have hz:(fourB c).size=4:=by unfold fourB txtL;rw [textN_size];rfl
 have C3:=fun wx (hx:HW g s a wx)=>take12_any g a 2 s wx hx (by omega) (by decide)
 generalize fourB c=K at*;have hk:(2:Int)≤(K.size:Int):=by omega
 have ha0:(0:Int)≤(a:Int):=by omega
 have ha1:(a:Int)≤(s.size:Int):=by omega
 generalize hT:K.extract 0 2=T at*;clear hi hz;generalize hX:s.extract 0 a=X at*;go_enter Tryz.func37,Tryz.ntmps37;go_wp2_with fail;refine heldJ_start (fun wx=>HW g s a wx) (by kernel_rfl) ?_
 change wpAnyH _ _ _ _ _ _ _ _ w.drew;have HJ:=Lib.hid h.drew;have m2:=(Ho.refl g w).drew;generalize w.drew=w2 at HJ m2⊢;clear h;refine heldJ_take (i:=0) (v:= .pointer (some ⟨g,0,none⟩)) rfl rfl (fun wx hJ=> ?_) HJ.out ?_
 ·go_simp;skip
 simp only [pu];refine heldJ_take (i:=1) (v:= .pointer (some ⟨g,0,none⟩)) rfl rfl (fun wx hJ=> ?_) HJ.out ?_
 ·go_simp;skip
 simp only [pu];refine heldJ_take (i:=2) (v:= .pointer (some ⟨g,0,none⟩)) rfl rfl (fun wx hJ=> ?_) HJ.out ?_
 ·go_simp;skip
 simp only [pu];refine heldJ_take (i:=3) (v:= .string s) rfl rfl (fun wx hJ=> ?_) HJ.out ?_
 ·have cc:=hJ.c0;go_simp;skip
 simp only [pu];refine heldJ_take (i:=4) (v:= .pointer (some ⟨g,0,none⟩)) rfl rfl (fun wx hJ=> ?_) HJ.out ?_
 ·go_simp;skip
 simp only [pu];refine heldJ_take (i:=5) (v:= .pointer (some ⟨g,0,none⟩)) rfl rfl (fun wx hJ=> ?_) HJ.out ?_
 ·go_simp;skip
 simp only [pu];refine heldJ_take (i:=6) (v:= .pointer (some ⟨g,1,none⟩)) rfl rfl (fun wx hJ=> ?_) HJ.out ?_
 ·go_simp;skip
 simp only [pu];refine heldJ_take (i:=7) (v:= .int .i64 (a:Int)) rfl rfl (fun wx hJ=> ?_) HJ.out ?_
 ·have cc:=hJ.c1;go_simp;skip
 simp only [pu];refine heldJ_take (i:=8) (v:= .string X) rfl rfl (fun wx hJ=> ?_) HJ.out ?_
 ·go_simp;skip
 simp only [pu];refine heldJ_call (i:=9) (f:=15) (by kernel_rfl) rfl rfl (by go_simp;skip) ((C1 _).mono ?_)
 rintro e w3 ⟨rfl,b3⟩;have HJ3:=Lib.hid (HJ.out.below b3);have m3:=m2.trans (Ho.of b3);clear HJ m2 b3;have HJ:=HJ3;clear HJ3;refine⟨_,rfl,HJ.out,?_⟩;simp only [pu];refine heldJ_call (i:=10) (f:=30) (by kernel_rfl) rfl rfl (by go_simp;skip) ((C2 _).mono ?_)
 rintro e w4 ⟨rfl,b4⟩;have HJ3:=Lib.hid (HJ.out.below b4);have m4:=m3.trans (Ho.of b4);clear HJ m3 b4;have HJ:=HJ3;clear HJ3;refine⟨_,rfl,HJ.out,?_⟩;simp only [pu];refine heldJ_take (i:=11) (v:= .string T) rfl rfl (fun wx hJ=> ?_) HJ.out ?_
 ·go_simp;skip
 simp only [pu];refine heldJ_take (i:=12) (v:= .string T) rfl rfl (fun wx hJ=> ?_) HJ.out ?_
 ·go_simp;skip
 simp only [pu];refine wpAnyH_done (by kernel_rfl) ?_ _
 go_wp2_with fail;refine(C3 _ HJ.out).mono ?_;by_cases h1:a+2≤s.size
 ·simp only [if_pos h1]
  rintro e w5 ⟨m5,rfl,k5⟩;have m6:=m4.trans m5;clear HJ m4 m5;generalize hU:s.extract a (a+2)=U at*;by_cases hq:U=T
  ·go_wp2_with fail
   go_ret;rw [HE.out,if_neg (by omega),if_pos hq]
   exact⟨rfl,m6,fun _=>k5⟩
  ·have hql:=text_ne hq
   go_wp2_with fail;go_ret;rw [HE.out,if_neg (by omega),if_neg hq]
   exact⟨rfl,m6,fun k=>by cases k⟩
 ·simp only [if_neg h1]
  rintro e w5 ⟨m5,rfl⟩;have m6:=m4.trans m5;clear HJ m4 m5;go_wp2_with fail;go_ret;rw [HE.out,if_pos (by omega)]
  exact⟨rfl,m6,fun k=>by cases k⟩
end Go.Proofs.YtmhoejmgjbgddaaGreat
