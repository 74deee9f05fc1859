/- NV -/
import Derived.Test.YtbmcjdoiohcaaaaGreatNU
set_option maxRecDepth 100000
set_option maxHeartbeats 16000000
namespace Go.Proofs.YtbmcjdoiohcaaaaGreat
open Go.RowKit
theorem Qwu (s:ByteArray) (a to:Nat) (h:a≤to) (hp:to≤a+32768):OkR (to-a) (Qbl (Qac s) a to):=fun k hk=>by
 have:=Qm8 (Qaz s) (a-32768) to (to-a) a k hk;obtain⟨h1,h2,h3,h4,h5⟩:=this;have h1:a+sumT ((Qbl (Qac s) a to).take k)<to:=h1;refine⟨by omega,?_⟩
 rcases h5 with h5|h5
 ·exact .inl ⟨Prod.ext h5.1 h5.2,by omega⟩
 ·exact .inr ⟨h5.1,h4,h5.2.1,h5.2.2.2.1⟩
theorem Qyt (s:ByteArray) (l:List (Nat×Nat)) (_hs:s.size≤32768) (hok:OkTs s.size l) (hn:l.length≤32768):(∀x∈Qas (Qac s) l,0≤x.1∧x.1<316)∧Qaj (Qbs (Qas (Qac s) l))≤1000000000∧Qaj (Qaw fixL (Qas (Qac s) l))≤1000000000:=by
 have htx:=Qm5 s hok;have htl:=Qkl (Qac s) l;have hf1:FitN (Qaw fixL (Qas (Qac s) l)):=Qe2 Qmb fun x hx=>(htx x hx).2;have hf2:FitN (Qbs (Qas (Qac s) l)):=Qhz (by omega) fun x hx=>(htx x hx).2
 have l1:(Qaw fixL (Qas (Qac s) l)).length≤131074:=by rw [Qcs];omega
 have l2:=Qk4 (Qas (Qac s) l);have b1:=Qg4 hf1;have b2:=Qg4 hf2;exact⟨fun x hx=>(htx x hx).1,by omega,by omega⟩
theorem Qvn (s:ByteArray) (f a B to:Nat) (h:min (a+32768) s.size=to):Qn9 s (f+1) a B=Qe3 s a to B++if to=s.size then []else Qn9 s f (a+32768) (B+Qaj (Qe3 s a to B)):=by
 subst h;rfl
theorem Gg.belowP {g:Nat} {v v':Value} {w w':World} (h:Gg g v w v' w') (hv:v.ownBlock=none) (hg:g≤w.heap.size):Below g w w':=⟨h.os,h.tape,h.output,h.size,fun i hi=>h.block i (by omega) (by omega) (by rw [hv];exact fun e=>by cases e)⟩
def Qz5 (g:Nat) (s:ByteArray) (w0:World) (F:Nat) (w:World):Prop:=
 ∃(v:Value) (N n f:Nat) (pre:List (Nat×Nat)),OW g N n v w∧Gg g (.slice none 0 0) w0 v w∧N=valN pre∧n=Qaj pre∧n≤400*F∧
  (if F≠0∧s.size≤F then Qmq s=pre else Qmq s=pre++Qn9 s f F n∧s.size<F+32768*f∧0<f∧F≤s.size)
theorem Qvu (s:ByteArray) (w:World) (hs:s.size≤100000):
  Calls Tryz.prog 18 #[.string s] w fun e w'=>e= .returned (.string (Qgl s))∧Below w.heap.size w w':=by
 obtain⟨g,hg⟩:∃g,g=w.heap.size:=⟨_,rfl⟩;obtain⟨w2,hw2⟩:∃w2,w2=w.alloc (.cells #[.slice none 0 0,.int .i64 0] 66):=⟨_,rfl⟩;have hal:Below w.heap.size w w2:=by rw [hw2];exact(Below.refl _ w).alloc Ql _
 have how:OW g 0 0 (.slice none 0 0) w2:=by rw [hw2,hg];exact OW.new w
 have HP0:Hid (Qz5 g s w2 0 w2):=Qh ⟨_,0,0,s.size /32768+1,[],how,Gg.refl _ _ _,rfl,rfl,by decide,by
  rw [if_neg (fun h=>h.1 rfl)];exact⟨rfl,by omega,by omega,Nat.zero_le _⟩⟩
 have HB0:Hid (Below w.heap.size w w2∧w.heap.size=g∧g<w2.heap.size):=Qh ⟨hal,hg.symm,how.blk.lt⟩;have HWE:=Qh (⟨hw2,hg⟩:w2=w.alloc (.cells #[.slice none 0 0,.int .i64 0] 66)∧g=w.heap.size);have HS:=Qh hs;have hzo:=Qsc;clear hs hal how hw2 hg;go_enter Tryz.func18,Tryz.ntmps18;go_upto_region 2 with fail;rw [←HWE.out.1,←HWE.out.2];clear hzo;go_wp2_with fail;go_loopw [4] (fun x wr=>∃(F:Nat),x= .int .i64 (F:Int)∧F≤200000∧Hid (Qz5 g s w2 F wr)) (fun x _=>300000-(intOf x).toNat)
 case atStart=>exact⟨0,rfl,by decide,HP0⟩
 case round=>
  obtain⟨F,rfl,hF2,HP⟩:=hrel;clear HP0;by_cases hend:F≠0∧s.size≤F
  ·obtain⟨v,N,n,f,pre,how,hgg,hN,hbits,hle,hpk⟩:=HP.out;rw [if_pos hend]at hpk;have HPT:Hid (Qgl s=txtN N n):=Qh (by unfold Qgl;rw [hpk,hN,hbits])
   have hq0:((F:Int)==0)=false:=beq_eq_false_iff_ne.2 (by omega)
   have hq1:¬(F:Int)<(s.size:Int):=by omega
   have c0:wr.cell? ⟨g,0,none⟩=some v:=how.blk.cell 0;have hown:=how.own;rw [Qzp]at hown;have hcv:=Qcm (P:=Tryz.prog) wr 25 9 5 (g+1) Tryz.underlying25 Tryz.underlying5 Tryz.underlying9 v ((n+7) /8) _ hown;have HE:Hid ((⟨(Qd3 ((List.range ((n+7) /8)).map fun i=>BitVec.ofNat 8 (N /256^i%256))).toArray⟩:ByteArray)=txtN N n):=Qh rfl;have HB9:=Qh (HB0.out.1.trans ((hgg.belowP rfl (by have:=HB0.out;omega)).mono (by have:=HB0.out;omega)))
   generalize (⟨(Qd3 ((List.range ((n+7) /8)).map fun i=>BitVec.ofNat 8 (N /256^i%256))).toArray⟩:ByteArray)=Z at hcv HE;clear hpk hN hbits hle how hgg hown hend HP;go_wp2_with fail;go_ret;rw [HPT.out,HE.out];exact⟨rfl,HB9.out⟩
  ·obtain⟨v,N,n,f,pre,how,hgg,hN,hbits,hle,hpk⟩:=HP.out;rw [if_neg hend]at hpk;obtain⟨hpk,hsf,hf0,hFs⟩:=hpk;obtain⟨f,rfl⟩:∃k,f=k+1:=⟨f-1,by omega⟩
   obtain⟨T,hT⟩:∃T,T=min (F+32768) s.size:=⟨_,rfl⟩;have hsz:=HS.out;have hFT:F≤T∧T≤s.size∧T≤F+32768:=by omega
   obtain⟨F2,hF2e⟩:∃F2,F2=F+32768:=⟨_,rfl⟩;have hw1:IntKind.i64.wrap ((F:Int)+32768)=(F2:Int):=by rw [IntWalk.i64_in _ (by omega)];omega
   have HMIN:Hid (min F2 s.size=T):=Qh (by omega)
   have hxs:(s.extract F T).size=T-F:=by rw [ByteArray.size_extract];omega
   have CT:Hid (∀wx,Calls Tryz.prog 31 #[.string s,.int .i64 (F:Int),.int .i64 (T:Int)] wx fun e w'=>∃v,e= .returned v∧LS 113 2 wx.heap.size wx ((Qbl (Qac (s.extract 0 T)) F T).map encT) v w'):=Qh fun wx=>Qp2 s F T wx hFT.1 hFT.2.1 (by omega) (by omega)
   obtain⟨L,hL⟩:∃L,L=if T=s.size then 1 else 0:=⟨_,rfl⟩;have hpiece:Qe3 s F T n=Qcj (s.extract F T) (Qbl (Qac (s.extract 0 T)) F T) (n%8) L:=by unfold Qe3;rw [hL]
   have hpb:=(Qj3 s F T n hFT.1 hFT.2.2 hFT.2.1).2;have hat:=Qvn s f F n T hT.symm;rw [hpiece]at hat hpb;rw [hat]at hpk;have hlen:(Qbl (Qac (s.extract 0 T)) F T).length≤T-F:=Qht _ _ _ _ _;have HPI:=Qh (Qyt (s.extract F T) (Qbl (Qac (s.extract 0 T)) F T) (by omega) (by rw [hxs];exact Qm9 _ F T hFT.1 hFT.2.2) (by omega))
   have HNB:Hid ((Qbl (Qac (s.extract 0 T)) F T).length≤100000∧(s.extract F T).size≤65535∧OkR (s.extract F T).size (Qbl (Qac (s.extract 0 T)) F T)∧L≤1∧n≤1000000000):=Qh ⟨by omega,by omega,by rw [hxs];exact Qwu _ F T hFT.1 hFT.2.2,by rw [hL];split<;>decide,by omega⟩
   have HBP:Hid (OW g N n v wr.drew∧Gg g (.slice none 0 0) w2 v wr.drew):=Qh ⟨how.drew,hgg.drew⟩;have HFIN:Hid (∀v6 w6,OW g (N+2^n*valN (Qcj (s.extract F T) (Qbl (Qac (s.extract 0 T)) F T) (n%8) L)) (n+Qaj (Qcj (s.extract F T) (Qbl (Qac (s.extract 0 T)) F T) (n%8) L)) v6 w6→Gg g (.slice none 0 0) w2 v6 w6→Qz5 g s w2 F2 w6):=Qh fun v6 w6 k3 k4=>by
    obtain⟨P,hP⟩:∃P,P=Qcj (s.extract F T) (Qbl (Qac (s.extract 0 T)) F T) (n%8) L:=⟨_,rfl⟩;rw [←hP]at k3 hpb hpk;refine⟨v6,_,_,f,pre++P,k3,k4,by rw [Qco,hN,hbits],by rw [Qa6,hbits],by omega,?_⟩
    by_cases e:T=s.size
    ·rw [if_pos ⟨by omega,by omega⟩,hpk,if_pos e,List.append_nil]
    ·rw [if_neg (fun h=>e (by omega)),hpk,if_neg e,←hF2e,List.append_assoc]
     exact⟨rfl,by omega,by omega,by omega⟩
   have HF2:Hid (F2=F+32768∧F≤s.size∧s.size≤100000):=Qh ⟨hF2e,hFs,hsz⟩;have hTi1:¬(F:Int)>(T:Int):=by omega
   have hTi2:¬(T:Int)>(s.size:Int):=by omega
   have hTi3:(F:Int)≤(T:Int):=by omega
   have hTi4:(T:Int)≤(s.size:Int):=by omega
   have hst:F=0∨(F≠0∧F<s.size):=by omega
   by_cases hE:T=s.size
   ·have hL1:L=1:=by rw [hL,if_pos hE]
    have hEi:((T:Int)==(s.size:Int))=true:=by rw [hE];exact beq_self_eq_true _
    subst hL1;have hst0:=hst;rcases hst0 with hz|hz
    ·have hq0:((F:Int)==0)=true:=beq_iff_eq.2 (by omega)
     clear hz;clear hE hL how hgg hN hbits hle hpk HP hsf hf0 hFs hT hsz hFT hF2e hxs hpiece hpb hat hlen hst hend;go_wp2_with (refine Qav (.int .i64 ((min F2 s.size:Nat):Int)) rfl (Qbz (.tmp 20) (.tmp 22) F2 s.size rfl rfl rfl rfl) ?_;intro w8 h8;obtain rfl:wr=w8:=h8.symm;simp only [pu];rw [HMIN.out]);refine Qbc (by kernel_rfl) ?_
     change wpAnyH _ _ _ _ _ _ _ _ wr.drew;generalize wr.drew=wd at HBP⊢;refine tH (i:=0) (v:= .string s) rfl rfl ?_;simp only [pu];refine tH (i:=1) (v:= .int .i64 (F:Int)) rfl rfl ?_;simp only [pu];refine tH (i:=2) (v:= .int .i64 (T:Int)) rfl rfl ?_;simp only [pu];refine tH (i:=4) (v:= .string s) rfl rfl ?_;simp only [pu];refine tH (i:=5) (v:= .int .i64 (F:Int)) rfl rfl ?_;simp only [pu];refine tH (i:=6) (v:= .int .i64 (T:Int)) rfl rfl ?_;simp only [pu];refine tH (i:=7) (v:= .string (s.extract F T)) rfl rfl ?_;simp only [pu];refine tH (i:=9) (v:= .pointer (some ⟨g,0,none⟩)) rfl rfl ?_;simp only [pu];refine tH (i:=10) (v:= .int .i64 1) rfl rfl ?_;simp only [pu];refine Qau (i:=3) (f:=31) (by kernel_rfl) rfl rfl (by go_simp;skip) ((CT.out wd).mono ?_)
     rintro e w5 ⟨v5,rfl,hL⟩;refine⟨_,rfl,?_⟩;simp only [pu];obtain⟨p5,c5,rfl,hR,hab⟩:=hL.rs;have hb:=hL.b;rw [List.length_map]at hR⊢;have hgl:=HBP.out.1.blk.lt;have hob:=HBP.out.1.ownB;have CP:=Qjb g N n v (s.extract F T) p5 ((Qbl (Qac (s.extract 0 T)) F T).length) c5 (Qbl (Qac (s.extract 0 T)) F T) 1 w5 (HBP.out.1.below hb) hR (fun a e=>⟨by have:=hab a e;omega,fun e2=>by have:=(hob _ e2).2;have:=hab a e;omega⟩) HNB.out.1 HNB.out.2.1 HNB.out.2.2.1 HPI.out.1 HNB.out.2.2.2.1 HNB.out.2.2.2.2 HPI.out.2.1 HPI.out.2.2
     have HG5:=Qh (HBP.out.2.trans (Gg.of hb));clear hL hR hb hab hgl hob;refine tH (i:=8) (v:= .agg #[.slice p5 ((Qbl (Qac (s.extract 0 T)) F T).length) c5,.string (s.extract F T)]) rfl rfl ?_;simp only [pu];refine Qau (i:=11) (f:=32) (by kernel_rfl) rfl rfl (by go_simp;skip) (CP.mono ?_)
     rintro e w6 ⟨rfl,v6,ow6,gg6⟩;refine⟨_,rfl,?_⟩;simp only [pu];refine wpAnyH_done (by kernel_rfl) ?_ _
     have HW6:=Qh (HFIN.out v6 w6 ow6 (HG5.out.trans gg6));clear CP ow6 gg6 HG5;go_wp2_with fail;exact⟨⟨F2,rfl,by have:=HF2.out;omega,HW6⟩,by have:=HF2.out;show 300000-((F2:Int)).toNat<300000-((F:Int)).toNat;omega⟩
    ·have hq0:((F:Int)==0)=false:=beq_eq_false_iff_ne.2 (by omega)
     have hq1:(F:Int)<(s.size:Int):=by omega
     clear hz;clear hE hL how hgg hN hbits hle hpk HP hsf hf0 hFs hT hsz hFT hF2e hxs hpiece hpb hat hlen hst hend;go_wp2_with (refine Qav (.int .i64 ((min F2 s.size:Nat):Int)) rfl (Qbz (.tmp 20) (.tmp 22) F2 s.size rfl rfl rfl rfl) ?_;intro w8 h8;obtain rfl:wr=w8:=h8.symm;simp only [pu];rw [HMIN.out]);refine Qbc (by kernel_rfl) ?_
     change wpAnyH _ _ _ _ _ _ _ _ wr.drew;generalize wr.drew=wd at HBP⊢;refine tH (i:=0) (v:= .string s) rfl rfl ?_;simp only [pu];refine tH (i:=1) (v:= .int .i64 (F:Int)) rfl rfl ?_;simp only [pu];refine tH (i:=2) (v:= .int .i64 (T:Int)) rfl rfl ?_;simp only [pu];refine tH (i:=4) (v:= .string s) rfl rfl ?_;simp only [pu];refine tH (i:=5) (v:= .int .i64 (F:Int)) rfl rfl ?_;simp only [pu];refine tH (i:=6) (v:= .int .i64 (T:Int)) rfl rfl ?_;simp only [pu];refine tH (i:=7) (v:= .string (s.extract F T)) rfl rfl ?_;simp only [pu];refine tH (i:=9) (v:= .pointer (some ⟨g,0,none⟩)) rfl rfl ?_;simp only [pu];refine tH (i:=10) (v:= .int .i64 1) rfl rfl ?_;simp only [pu];refine Qau (i:=3) (f:=31) (by kernel_rfl) rfl rfl (by go_simp;skip) ((CT.out wd).mono ?_)
     rintro e w5 ⟨v5,rfl,hL⟩;refine⟨_,rfl,?_⟩;simp only [pu];obtain⟨p5,c5,rfl,hR,hab⟩:=hL.rs;have hb:=hL.b;rw [List.length_map]at hR⊢;have hgl:=HBP.out.1.blk.lt;have hob:=HBP.out.1.ownB;have CP:=Qjb g N n v (s.extract F T) p5 ((Qbl (Qac (s.extract 0 T)) F T).length) c5 (Qbl (Qac (s.extract 0 T)) F T) 1 w5 (HBP.out.1.below hb) hR (fun a e=>⟨by have:=hab a e;omega,fun e2=>by have:=(hob _ e2).2;have:=hab a e;omega⟩) HNB.out.1 HNB.out.2.1 HNB.out.2.2.1 HPI.out.1 HNB.out.2.2.2.1 HNB.out.2.2.2.2 HPI.out.2.1 HPI.out.2.2
     have HG5:=Qh (HBP.out.2.trans (Gg.of hb));clear hL hR hb hab hgl hob;refine tH (i:=8) (v:= .agg #[.slice p5 ((Qbl (Qac (s.extract 0 T)) F T).length) c5,.string (s.extract F T)]) rfl rfl ?_;simp only [pu];refine Qau (i:=11) (f:=32) (by kernel_rfl) rfl rfl (by go_simp;skip) (CP.mono ?_)
     rintro e w6 ⟨rfl,v6,ow6,gg6⟩;refine⟨_,rfl,?_⟩;simp only [pu];refine wpAnyH_done (by kernel_rfl) ?_ _
     have HW6:=Qh (HFIN.out v6 w6 ow6 (HG5.out.trans gg6));clear CP ow6 gg6 HG5;go_wp2_with fail;exact⟨⟨F2,rfl,by have:=HF2.out;omega,HW6⟩,by have:=HF2.out;show 300000-((F2:Int)).toNat<300000-((F:Int)).toNat;omega⟩
   ·have hL1:L=0:=by rw [hL,if_neg hE]
    have hEi:((T:Int)==(s.size:Int))=false:=Bool.eq_false_iff.2 fun h=>hE (by have:=eq_of_beq h;omega)
    subst hL1;have hst0:=hst;rcases hst0 with hz|hz
    ·have hq0:((F:Int)==0)=true:=beq_iff_eq.2 (by omega)
     clear hz;clear hE hL how hgg hN hbits hle hpk HP hsf hf0 hFs hT hsz hFT hF2e hxs hpiece hpb hat hlen hst hend;go_wp2_with (refine Qav (.int .i64 ((min F2 s.size:Nat):Int)) rfl (Qbz (.tmp 20) (.tmp 22) F2 s.size rfl rfl rfl rfl) ?_;intro w8 h8;obtain rfl:wr=w8:=h8.symm;simp only [pu];rw [HMIN.out]);refine Qbc (by kernel_rfl) ?_
     change wpAnyH _ _ _ _ _ _ _ _ wr.drew;generalize wr.drew=wd at HBP⊢;refine tH (i:=0) (v:= .string s) rfl rfl ?_;simp only [pu];refine tH (i:=1) (v:= .int .i64 (F:Int)) rfl rfl ?_;simp only [pu];refine tH (i:=2) (v:= .int .i64 (T:Int)) rfl rfl ?_;simp only [pu];refine tH (i:=4) (v:= .string s) rfl rfl ?_;simp only [pu];refine tH (i:=5) (v:= .int .i64 (F:Int)) rfl rfl ?_;simp only [pu];refine tH (i:=6) (v:= .int .i64 (T:Int)) rfl rfl ?_;simp only [pu];refine tH (i:=7) (v:= .string (s.extract F T)) rfl rfl ?_;simp only [pu];refine tH (i:=9) (v:= .pointer (some ⟨g,0,none⟩)) rfl rfl ?_;simp only [pu];refine tH (i:=10) (v:= .int .i64 0) rfl rfl ?_;simp only [pu];refine Qau (i:=3) (f:=31) (by kernel_rfl) rfl rfl (by go_simp;skip) ((CT.out wd).mono ?_)
     rintro e w5 ⟨v5,rfl,hL⟩;refine⟨_,rfl,?_⟩;simp only [pu];obtain⟨p5,c5,rfl,hR,hab⟩:=hL.rs;have hb:=hL.b;rw [List.length_map]at hR⊢;have hgl:=HBP.out.1.blk.lt;have hob:=HBP.out.1.ownB;have CP:=Qjb g N n v (s.extract F T) p5 ((Qbl (Qac (s.extract 0 T)) F T).length) c5 (Qbl (Qac (s.extract 0 T)) F T) 0 w5 (HBP.out.1.below hb) hR (fun a e=>⟨by have:=hab a e;omega,fun e2=>by have:=(hob _ e2).2;have:=hab a e;omega⟩) HNB.out.1 HNB.out.2.1 HNB.out.2.2.1 HPI.out.1 HNB.out.2.2.2.1 HNB.out.2.2.2.2 HPI.out.2.1 HPI.out.2.2
     have HG5:=Qh (HBP.out.2.trans (Gg.of hb));clear hL hR hb hab hgl hob;refine tH (i:=8) (v:= .agg #[.slice p5 ((Qbl (Qac (s.extract 0 T)) F T).length) c5,.string (s.extract F T)]) rfl rfl ?_;simp only [pu];refine Qau (i:=11) (f:=32) (by kernel_rfl) rfl rfl (by go_simp;skip) (CP.mono ?_)
     rintro e w6 ⟨rfl,v6,ow6,gg6⟩;refine⟨_,rfl,?_⟩;simp only [pu];refine wpAnyH_done (by kernel_rfl) ?_ _
     have HW6:=Qh (HFIN.out v6 w6 ow6 (HG5.out.trans gg6));clear CP ow6 gg6 HG5;go_wp2_with fail;exact⟨⟨F2,rfl,by have:=HF2.out;omega,HW6⟩,by have:=HF2.out;show 300000-((F2:Int)).toNat<300000-((F:Int)).toNat;omega⟩
    ·have hq0:((F:Int)==0)=false:=beq_eq_false_iff_ne.2 (by omega)
     have hq1:(F:Int)<(s.size:Int):=by omega
     clear hz;clear hE hL how hgg hN hbits hle hpk HP hsf hf0 hFs hT hsz hFT hF2e hxs hpiece hpb hat hlen hst hend;go_wp2_with (refine Qav (.int .i64 ((min F2 s.size:Nat):Int)) rfl (Qbz (.tmp 20) (.tmp 22) F2 s.size rfl rfl rfl rfl) ?_;intro w8 h8;obtain rfl:wr=w8:=h8.symm;simp only [pu];rw [HMIN.out]);refine Qbc (by kernel_rfl) ?_
     change wpAnyH _ _ _ _ _ _ _ _ wr.drew;generalize wr.drew=wd at HBP⊢;refine tH (i:=0) (v:= .string s) rfl rfl ?_;simp only [pu];refine tH (i:=1) (v:= .int .i64 (F:Int)) rfl rfl ?_;simp only [pu];refine tH (i:=2) (v:= .int .i64 (T:Int)) rfl rfl ?_;simp only [pu];refine tH (i:=4) (v:= .string s) rfl rfl ?_;simp only [pu];refine tH (i:=5) (v:= .int .i64 (F:Int)) rfl rfl ?_;simp only [pu];refine tH (i:=6) (v:= .int .i64 (T:Int)) rfl rfl ?_;simp only [pu];refine tH (i:=7) (v:= .string (s.extract F T)) rfl rfl ?_;simp only [pu];refine tH (i:=9) (v:= .pointer (some ⟨g,0,none⟩)) rfl rfl ?_;simp only [pu];refine tH (i:=10) (v:= .int .i64 0) rfl rfl ?_;simp only [pu];refine Qau (i:=3) (f:=31) (by kernel_rfl) rfl rfl (by go_simp;skip) ((CT.out wd).mono ?_)
     rintro e w5 ⟨v5,rfl,hL⟩;refine⟨_,rfl,?_⟩;simp only [pu];obtain⟨p5,c5,rfl,hR,hab⟩:=hL.rs;have hb:=hL.b;rw [List.length_map]at hR⊢;have hgl:=HBP.out.1.blk.lt;have hob:=HBP.out.1.ownB;have CP:=Qjb g N n v (s.extract F T) p5 ((Qbl (Qac (s.extract 0 T)) F T).length) c5 (Qbl (Qac (s.extract 0 T)) F T) 0 w5 (HBP.out.1.below hb) hR (fun a e=>⟨by have:=hab a e;omega,fun e2=>by have:=(hob _ e2).2;have:=hab a e;omega⟩) HNB.out.1 HNB.out.2.1 HNB.out.2.2.1 HPI.out.1 HNB.out.2.2.2.1 HNB.out.2.2.2.2 HPI.out.2.1 HPI.out.2.2
     have HG5:=Qh (HBP.out.2.trans (Gg.of hb));clear hL hR hb hab hgl hob;refine tH (i:=8) (v:= .agg #[.slice p5 ((Qbl (Qac (s.extract 0 T)) F T).length) c5,.string (s.extract F T)]) rfl rfl ?_;simp only [pu];refine Qau (i:=11) (f:=32) (by kernel_rfl) rfl rfl (by go_simp;skip) (CP.mono ?_)
     rintro e w6 ⟨rfl,v6,ow6,gg6⟩;refine⟨_,rfl,?_⟩;simp only [pu];refine wpAnyH_done (by kernel_rfl) ?_ _
     have HW6:=Qh (HFIN.out v6 w6 ow6 (HG5.out.trans gg6));clear CP ow6 gg6 HG5;go_wp2_with fail;exact⟨⟨F2,rfl,by have:=HF2.out;omega,HW6⟩,by have:=HF2.out;show 300000-((F2:Int)).toNat<300000-((F:Int)).toNat;omega⟩
end Go.Proofs.YtbmcjdoiohcaaaaGreat
