/- NL -/
import Derived.Test.YtbmcjdoiohcaaaaGreatNK
set_option maxRecDepth 100000
set_option maxHeartbeats 16000000
namespace Go.Proofs.YtbmcjdoiohcaaaaGreat
open Go.RowKit
theorem Qxw:fixL.length=316:=by unfold fixL txL;rw [List.length_append,List.length_take,List.length_take,Qe8,Qe8];rfl
theorem Gg.belowN {g:Nat} {v v':Value} {w w':World} (h:Gg g v w v' w') (hv:v.ownBlock=none) (hg:g≤w.heap.size):Below g w w':=⟨h.os,h.tape,h.output,h.size,fun i hi=>h.block i (by omega) (by omega) (by rw [hv];exact fun e=>by cases e)⟩
theorem Qrr (s:ByteArray) (f a B to:Nat) (h:min (a+32768) s.size=to):Qn9 s (f+1) a B=Qe3 s a to B++if to=s.size then []else Qn9 s f (a+32768) (B+Qaj (Qe3 s a to B)):=by
 subst h;rfl
structure Qz6 (g:Nat) (af:Addr) (cf:Nat) (s:ByteArray) (w0:World) (F:Nat) (last:Bool) (w:World):Prop where
 ex:∃(v:Value) (N c h f:Nat) (pre:List (Nat×Nat)),h<8∧BP g (.slice (some af) 316 cf) N c h v w∧Gg g (.slice none 0 0) w0 v w∧N=valN pre∧8*c+h=Qaj pre∧8*c+h≤400*F∧
  (if last=true then Qmq s=pre else Qmq s=pre++Qn9 s f F (8*c+h)∧s.size<F+32768*f∧0<f∧F≤s.size)
 fx:RS 2 (some af) 316 cf (fixL.map encP) w
theorem Qw8 (s:ByteArray) (w:World) (hs:s.size≤100000):
  Calls Tryz.prog 16 #[.string s] w fun e w'=>e= .returned (.string (Qgl s))∧Below w.heap.size w w':=by
 have C0:=Qmd w;have HS:=Qh hs;clear hs;go_enter Tryz.func16,Tryz.ntmps16;go_wp2_with fail;refine C0.mono ?_;rintro e w1 ⟨v1,rfl,hL⟩;obtain⟨p1,cf,rfl,hR,hB⟩:=hL.rs;have hb:=hL.b;rw [List.length_map,Qxw]at hR⊢;obtain⟨af,rfl⟩:=hR.some_ (by decide)
 obtain⟨g,hg⟩:∃g,g=w1.heap.size:=⟨_,rfl⟩;obtain⟨w2,hw2⟩:∃w2,w2=w1.alloc (.cells #[.slice none 0 0,.int .u64 0,.int .i64 0,.slice (some af) 316 cf] 59):=⟨_,rfl⟩;have hal:=(Below.refl _ w1).alloc Ql (.cells #[.slice none 0 0,.int .u64 0,.int .i64 0,.slice (some af) 316 cf] 59);rw [←hw2]at hal;have hlt:=hR.lt af rfl;have hbp:BP g (.slice (some af) 316 cf) 0 0 0 (.slice none 0 0) w2:=⟨by rw [hw2,hg];exact Blk.new w1 _ _,⟨rfl,.inl ⟨rfl,rfl⟩⟩,Nat.one_pos⟩
 have HP0:Hid (Qz6 g af cf s w2 0 false w2):=Qh ⟨⟨_,0,0,0,s.size /32768+1,[],by decide,hbp,Gg.refl _ _ _,rfl,rfl,by decide,by
  rw [if_neg (by decide)]
  exact⟨rfl,by omega,by omega,Nat.zero_le _⟩⟩,hR.below hal⟩
 have HB0:Hid (Below w.heap.size w w2∧w.heap.size≤g∧af.block<g∧g<w2.heap.size):=Qh ⟨hb.trans (hal.mono hb.size),by rw [hg];exact hb.size,by rw [hg];exact hlt,hbp.blk.lt⟩
 have HWE:=Qh (⟨hw2,hg⟩:w2=w1.alloc (.cells #[.slice none 0 0,.int .u64 0,.int .i64 0,.slice (some af) 316 cf] 59)∧g=w1.heap.size);have HFX:=Qh (hR.below hal);clear C0 hL hR hB hb hal hlt hbp hw2 hg;go_upto_region 2 with fail;rw [←HWE.out.1,←HWE.out.2];go_wp2_with fail;go_loopw [4,5] (fun x y wr=>∃(F:Nat) (b:Bool),x= .int .i64 (F:Int)∧y= .int .i64 (if b=true then 1 else 0)∧F≤200000∧Hid (Qz6 g af cf s w2 F b wr)) (fun x y _=>if intOf y=1 then 0 else 300000-(intOf x).toNat)
 case atStart=>exact⟨0,false,rfl,rfl,by decide,HP0⟩
 case round=>
  obtain⟨F,b,rfl,rfl,hF2,HP⟩:=hrel;clear HP0;cases b with
  |true=>
   obtain⟨⟨v,N,c,h,f,pre,hh,hbp,hgg,hN,hbits,hle,hpk⟩,hfx⟩:=HP.out;rw [if_pos rfl]at hpk;have CX:=Qzd g (.slice (some af) 316 cf) N c h v wr hbp hh (by omega)
   have HPT:Hid (Qgl s=txtN N (8*c+h)):=Qh (by unfold Qgl;rw [hpk,hN,hbits])
   have HGG:=Qh hgg;clear hbp hgg hN hbits hle hpk hfx hh HP;go_wp2_with fail;refine CX.mono ?_;rintro e w9 ⟨rfl,v9,gg9⟩;have HB9:=Qh (HB0.out.1.trans (((HGG.out.trans gg9).belowN rfl (by have:=HB0.out;omega)).mono HB0.out.2.1))
   clear CX gg9;go_wp2_with fail;go_ret;rw [HPT.out];exact⟨rfl,HB9.out⟩
  |false=>
   obtain⟨⟨v,N,c,h,f,pre,hh,hbp,hgg,hN,hbits,hle,hpk⟩,hfx⟩:=HP.out;rw [if_neg (by decide)]at hpk
   obtain⟨hpk,hsf,hf0,hFs⟩:=hpk;obtain⟨f,rfl⟩:∃k,f=k+1:=⟨f-1,by omega⟩
   obtain⟨T,hT⟩:∃T,T=min (F+32768) s.size:=⟨_,rfl⟩;have hsz:=HS.out;have hFT:F≤T∧T≤s.size∧T≤F+32768:=by omega
   obtain⟨F2,hF2e⟩:∃F2,F2=F+32768:=⟨_,rfl⟩;have hw1:IntKind.i64.wrap ((F:Int)+32768)=(F2:Int):=by rw [IntWalk.i64_in _ (by omega)];omega
   have HMIN:Hid (min F2 s.size=T):=Qh (by omega)
   have hxs:(s.extract F T).size=T-F:=by rw [ByteArray.size_extract];omega
   have CT:Hid (∀wx,Calls Tryz.prog 28 #[.string s,.int .i64 (F:Int),.int .i64 (T:Int)] wx fun e w'=>∃v,e= .returned v∧LS 110 2 wx.heap.size wx ((Qbl (Qac (s.extract 0 T)) F T).map encT) v w'):=Qh fun wx=>Qpe s F T wx hFT.1 hFT.2.1 (by omega) (by omega)
   obtain⟨L,hL⟩:∃L,L=if T=s.size then 1 else 0:=⟨_,rfl⟩;have hB8:(8*c+h)%8=h:=by omega
   have hpiece:Qe3 s F T (8*c+h)=Qcj (s.extract F T) (Qbl (Qac (s.extract 0 T)) F T) h L:=by unfold Qe3;rw [hB8,hL]
   have hpb:=(Qj3 s F T (8*c+h) hFT.1 hFT.2.2 hFT.2.1).2;have hat:=Qrr s f F (8*c+h) T hT.symm;rw [hpiece]at hat hpb;rw [hat]at hpk;have HNB:Hid ((Qbl (Qac (s.extract 0 T)) F T).length≤100000∧(s.extract F T).size≤32768∧OkTs (s.extract F T).size (Qbl (Qac (s.extract 0 T)) F T)∧L≤1∧c≤10000000000):=Qh ⟨by have:(Qbl (Qac (s.extract 0 T)) F T).length≤T-F:=Qht _ _ _ _ _;omega,by omega,by rw [hxs];exact Qm9 _ F T hFT.1 hFT.2.2,by rw [hL];split<;>decide,by omega⟩
   have HBP:Hid (BP g (.slice (some af) 316 cf) N c h v wr.drew∧h<8∧Gg g (.slice none 0 0) w2 v wr.drew∧RS 2 (some af) 316 cf (fixL.map encP) wr.drew):=Qh ⟨hbp.below Qb.drew,hh,hgg.drew,hfx.below Qb.drew⟩;have HFIN:Hid (∀v6 c6 h6 w6,h6<8→8*c6+h6=8*c+h+Qaj (Qcj (s.extract F T) (Qbl (Qac (s.extract 0 T)) F T) h L)→BP g (.slice (some af) 316 cf) (N+2^(8*c+h)*valN (Qcj (s.extract F T) (Qbl (Qac (s.extract 0 T)) F T) h L)) c6 h6 v6 w6→Gg g (.slice none 0 0) w2 v6 w6→Qz6 g af cf s w2 F2 (decide (T=s.size)) w6):=Qh fun v6 c6 h6 w6 k1 k2 k3 k4=>by
    obtain⟨P,hP⟩:∃P,P=Qcj (s.extract F T) (Qbl (Qac (s.extract 0 T)) F T) h L:=⟨_,rfl⟩;rw [←hP]at k2 k3 hpb hpk;refine⟨⟨v6,_,c6,h6,f,pre++P,k1,k3,k4,by rw [Qco,hN,hbits],by rw [Qa6,k2,hbits],by omega,?_⟩,?_⟩
    ·by_cases e:T=s.size
     ·rw [if_pos (decide_eq_true e),hpk,if_pos e,List.append_nil]
     ·rw [if_neg (by rw [decide_eq_false e];decide),hpk,if_neg e,k2,←hF2e,List.append_assoc]
      exact⟨rfl,by omega,by omega,by omega⟩
    ·exact HFX.out.gg k4 (fun a ha=>by cases ha;exact⟨by have:=HB0.out;omega,fun e=>by cases e⟩)
   have HF2:Hid (F2=F+32768∧(T≠s.size→F2≤s.size)∧F≤s.size∧s.size≤100000):=Qh ⟨hF2e,fun _=>by omega,hFs,hsz⟩
   have hTi1:¬(F:Int)>(T:Int):=by omega
   have hTi2:¬(T:Int)>(s.size:Int):=by omega
   have hTi3:(F:Int)≤(T:Int):=by omega
   have hTi4:(T:Int)≤(s.size:Int):=by omega
   by_cases hE:T=s.size
   ·have hL1:L=1:=by rw [hL,if_pos hE]
    have hEi:((T:Int)==(s.size:Int))=true:=by rw [hE];exact beq_self_eq_true _
    have HE:=Qh hE;subst hL1;clear hE hL hbp hgg hN hbits hle hpk hfx hh HP hsf hf0 hFs hT hsz hFT hF2e hxs hB8 hpiece hpb hat;go_wp2_with (refine Qav (.int .i64 ((min F2 s.size:Nat):Int)) rfl (Qbz (.tmp 15) (.tmp 17) F2 s.size rfl rfl rfl rfl) ?_;intro w8 h8;obtain rfl:wr=w8:=h8.symm;simp only [pu];rw [HMIN.out]);refine Qbc (by kernel_rfl) ?_
    change wpAnyH _ _ _ _ _ _ _ _ wr.drew;generalize wr.drew=wd at HBP⊢;refine tH (i:=0) (v:= .pointer (some ⟨g,0,none⟩)) rfl rfl ?_;simp only [pu];refine tH (i:=1) (v:= .string s) rfl rfl ?_;simp only [pu];refine tH (i:=2) (v:= .int .i64 (F:Int)) rfl rfl ?_;simp only [pu];refine tH (i:=3) (v:= .int .i64 (T:Int)) rfl rfl ?_;simp only [pu];refine tH (i:=4) (v:= .string (s.extract F T)) rfl rfl ?_;simp only [pu];refine tH (i:=5) (v:= .string s) rfl rfl ?_;simp only [pu];refine tH (i:=6) (v:= .int .i64 (F:Int)) rfl rfl ?_;simp only [pu];refine tH (i:=7) (v:= .int .i64 (T:Int)) rfl rfl ?_;simp only [pu];refine tH (i:=9) (v:= .int .i64 1) rfl rfl ?_;simp only [pu];refine Qau (i:=8) (f:=28) (by kernel_rfl) rfl rfl (by go_simp;skip) ((CT.out wd).mono ?_)
    rintro e w5 ⟨v5,rfl,hL⟩;refine⟨_,rfl,?_⟩;simp only [pu];obtain⟨p5,c5,rfl,hR,-⟩:=hL.rs;have hb:=hL.b;rw [List.length_map]at hR⊢;have CP:=Qrs g af cf N c h v (s.extract F T) p5 ((Qbl (Qac (s.extract 0 T)) F T).length) c5 (Qbl (Qac (s.extract 0 T)) F T) 1 w5 (HBP.out.1.below hb) HBP.out.2.1 (HBP.out.2.2.2.below hb) hR HNB.out.1 HNB.out.2.1 HNB.out.2.2.1 HNB.out.2.2.2.1 HNB.out.2.2.2.2;have HG5:=Qh (HBP.out.2.2.1.trans (Gg.of hb));clear hL hR hb;refine Qau (i:=10) (f:=27) (by kernel_rfl) rfl rfl (by go_simp;skip) (CP.mono ?_)
    rintro e w6 ⟨rfl,v6,c6,h6,hh6,hs6,bp6,gg6⟩;refine⟨_,rfl,?_⟩;simp only [pu];refine wpAnyH_done (by kernel_rfl) ?_ _
    have HW6:=Qh (HFIN.out v6 c6 h6 w6 hh6 hs6 bp6 (HG5.out.trans gg6));clear CP hh6 hs6 bp6 gg6 HG5;rw [decide_eq_true HE.out]at HW6;go_wp2_with fail;exact⟨⟨F2,true,rfl,rfl,by have:=HF2.out;omega,HW6⟩,by have:=HF2.out;show(if(1:Int)=1 then 0 else 300000-((F2:Int)).toNat)<(if(0:Int)=1 then 0 else 300000-((F:Int)).toNat);rw [if_pos rfl,if_neg (by decide)];omega⟩
   ·have hL1:L=0:=by rw [hL,if_neg hE]
    have hEi:((T:Int)==(s.size:Int))=false:=Bool.eq_false_iff.2 fun h=>hE (by have:=eq_of_beq h;omega)
    have HE:=Qh hE;subst hL1;clear hE hL hbp hgg hN hbits hle hpk hfx hh HP hsf hf0 hFs hT hsz hFT hF2e hxs hB8 hpiece hpb hat;go_wp2_with (refine Qav (.int .i64 ((min F2 s.size:Nat):Int)) rfl (Qbz (.tmp 15) (.tmp 17) F2 s.size rfl rfl rfl rfl) ?_;intro w8 h8;obtain rfl:wr=w8:=h8.symm;simp only [pu];rw [HMIN.out]);refine Qbc (by kernel_rfl) ?_
    change wpAnyH _ _ _ _ _ _ _ _ wr.drew;generalize wr.drew=wd at HBP⊢;refine tH (i:=0) (v:= .pointer (some ⟨g,0,none⟩)) rfl rfl ?_;simp only [pu];refine tH (i:=1) (v:= .string s) rfl rfl ?_;simp only [pu];refine tH (i:=2) (v:= .int .i64 (F:Int)) rfl rfl ?_;simp only [pu];refine tH (i:=3) (v:= .int .i64 (T:Int)) rfl rfl ?_;simp only [pu];refine tH (i:=4) (v:= .string (s.extract F T)) rfl rfl ?_;simp only [pu];refine tH (i:=5) (v:= .string s) rfl rfl ?_;simp only [pu];refine tH (i:=6) (v:= .int .i64 (F:Int)) rfl rfl ?_;simp only [pu];refine tH (i:=7) (v:= .int .i64 (T:Int)) rfl rfl ?_;simp only [pu];refine tH (i:=9) (v:= .int .i64 0) rfl rfl ?_;simp only [pu];refine Qau (i:=8) (f:=28) (by kernel_rfl) rfl rfl (by go_simp;skip) ((CT.out wd).mono ?_)
    rintro e w5 ⟨v5,rfl,hL⟩;refine⟨_,rfl,?_⟩;simp only [pu];obtain⟨p5,c5,rfl,hR,-⟩:=hL.rs;have hb:=hL.b;rw [List.length_map]at hR⊢;have CP:=Qrs g af cf N c h v (s.extract F T) p5 ((Qbl (Qac (s.extract 0 T)) F T).length) c5 (Qbl (Qac (s.extract 0 T)) F T) 0 w5 (HBP.out.1.below hb) HBP.out.2.1 (HBP.out.2.2.2.below hb) hR HNB.out.1 HNB.out.2.1 HNB.out.2.2.1 HNB.out.2.2.2.1 HNB.out.2.2.2.2;have HG5:=Qh (HBP.out.2.2.1.trans (Gg.of hb));clear hL hR hb;refine Qau (i:=10) (f:=27) (by kernel_rfl) rfl rfl (by go_simp;skip) (CP.mono ?_)
    rintro e w6 ⟨rfl,v6,c6,h6,hh6,hs6,bp6,gg6⟩;refine⟨_,rfl,?_⟩;simp only [pu];refine wpAnyH_done (by kernel_rfl) ?_ _
    have HW6:=Qh (HFIN.out v6 c6 h6 w6 hh6 hs6 bp6 (HG5.out.trans gg6));clear CP hh6 hs6 bp6 gg6 HG5;rw [decide_eq_false HE.out]at HW6;go_wp2_with fail;exact⟨⟨F2,false,rfl,rfl,by have:=HF2.out;omega,HW6⟩,by have:=HF2.out;have h2:=HF2.out.2.1 HE.out;show(if(0:Int)=1 then 0 else 300000-((F2:Int)).toNat)<(if(0:Int)=1 then 0 else 300000-((F:Int)).toNat);rw [if_neg (by decide),if_neg (by decide)];omega⟩
end Go.Proofs.YtbmcjdoiohcaaaaGreat
/- Chapter 11: the examples ahead of each law. -/
namespace Go.Proofs.YtbmcjdoiohcaaaaGreat
open Go.RowKit
end Go.Proofs.YtbmcjdoiohcaaaaGreat
