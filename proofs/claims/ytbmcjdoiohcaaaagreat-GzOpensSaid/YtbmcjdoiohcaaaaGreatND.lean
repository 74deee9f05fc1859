/- ND -/
import Derived.Test.YtbmcjdoiohcaaaaGreatNC
import Derived.RegionTactic
import Derived.BigRegion
import Derived.ChangeAlike
set_option maxRecDepth 100000
set_option maxHeartbeats 16000000
namespace Go.Proofs.YtbmcjdoiohcaaaaGreat
open Go.RowKit
theorem Qik:(Tryz.prog.info? 110).map (·.size)=some 2:=by kernel_rfl
theorem Qcu (a b:Int):(#[Value.int .i64 a,Value.int .i64 b]:Array Value).all (·.oneCell')=true:=by kernel_rfl
theorem Blk.fm {g qm qg:Nat} {w w':World} {q:Nat} {t:TypeId} {cs:Array Value} (h:Blk w q t cs) (hf:Fm g qm qg w w') (h1:q≠g) (h2:q≠qm) (h3:q≠qg):Blk w' q t cs:=(hf.block q h.lt h1 h2 h3).trans h
theorem FN.row {g qm qg n:Nat} {s:ByteArray} {lo len p:Nat} {w:World} (h:FN g qm qg n s lo len p w) (q:Nat) (cs:Array Value) (h1:q≠g) (h2:q≠qm) (h3:q≠qg):FN g qm qg n s lo len p (w.setRow q cs):=
 ⟨(setRow_other w q g cs (fun e=>h1 e.symm)).trans h.blk,h.map.same (setRow_other w q qm cs (fun e=>h2 e.symm)),(by obtain⟨F,k1,k2⟩:=h.gap;exact⟨F,(setRow_other w q qg cs (fun e=>h3 e.symm)).trans k1,k2⟩),h.ne,h.ge,h.cnt⟩
theorem Fm.row {g qm qg:Nat} {w w':World} (h:Fm g qm qg w w') (q:Nat) (cs:Array Value) (hq:w.heap.size≤q):Fm g qm qg w (w'.setRow q cs):=
 ⟨h.os,h.tape,h.output,by simp [World.setRow];exact h.size,fun i hi h1 h2 h3=>(setRow_other w' q i cs (by omega)).trans (h.block i hi h1 h2 h3)⟩
def TokP (g qm qg:Nat) (s:ByteArray) (lo len at_:Nat) (w:World) (e:Ending) (w':World):Prop:=
 e= .returned (.agg #[.int .i64 ((Qce (Qac s) lo s.size at_).1:Int),.int .i64 ((Qce (Qac s) lo s.size at_).2:Int)])∧∃n' p',p'≤at_∧FN g qm qg n' s lo len p' w'∧Fm g qm qg w w'
theorem Qwt (g qm qg n:Nat) (s:ByteArray) (lo len p at_:Nat) (w:World) (h:FN g qm qg n s lo len p w) (hp:p≤at_) (ha:at_<s.size) (hs:s.size≤281474976710656) (hlen:len=min (s.size-lo) 32768) (hmx:s.size-lo<1000000):
  Calls Tryz.prog 57 #[.pointer (some ⟨g,0,none⟩),.int .i64 (at_:Int)] w (TokP g qm qg s lo len at_ w):=by
 have hlo:=h.ge;have b0:=(Below.refl _ w).alloc Ql (.cells #[.int .i64 0,.int .i64 0] 110);have k4:=Blk.new w 110 #[.int .i64 0,.int .i64 0];obtain⟨W1,hW1⟩:∃W1,W1=w.alloc (.cells #[.int .i64 0,.int .i64 0] 110):=⟨_,rfl⟩;have hz1:W1.heap.size=w.heap.size+1:=by rw [hW1];simp
 rw [←hW1]at b0 k4;have b1:=b0.alloc (by omega) (.cells #[.int .i64 0,.int .i64 0] 110)
 have k5:=Blk.new W1 110 #[.int .i64 0,.int .i64 0];have b2:=Qai b1 (show w.heap.size≤W1.heap.size by omega) #[.int .i64 1,.int .i64 0]
 have k5b:=k5.row_ #[.int .i64 1,.int .i64 0];have k4b:=(setRow_other (W1.alloc (.cells #[.int .i64 0,.int .i64 0] 110)) W1.heap.size w.heap.size #[.int .i64 1,.int .i64 0] (by omega)).trans (k4.alloc (.cells #[.int .i64 0,.int .i64 0] 110))
 have HW1:=Qh hW1;have HK5:=Qh k5;have HSZ:=Qh Qik;obtain⟨W2,hW2⟩:∃W2,W2=(W1.alloc (.cells #[.int .i64 0,.int .i64 0] 110)).setRow W1.heap.size #[.int .i64 1,.int .i64 0]:=⟨_,rfl⟩;rw [←hW2]at b2 k5b k4b;have HW2:=Qh hW2;obtain⟨q4,hq4⟩:∃q4,q4=w.heap.size:=⟨_,rfl⟩;obtain⟨q5,hq5⟩:∃q5,q5=W1.heap.size:=⟨_,rfl⟩;rw [←hq4]at k4b;rw [←hq5]at k5b;have HQ4:Hid (w.heap.size≤q4):=Qh (by omega)
 have HQ5:Hid (w.heap.size≤q5):=Qh (by omega)
 have HE4:=Qh hq4;have HE5:=Qh hq5;have f2:=h.below b2;have c0:W2.cell? ⟨g,0,none⟩=some (.string s):=f2.blk.cell 0;have H2:=Qh (⟨f2,Fm.of b2,k4b,k5b⟩:FN g qm qg n s lo len p W2∧Fm g qm qg w W2∧Blk W2 q4 110 #[.int .i64 0,.int .i64 0]∧Blk W2 q5 110 #[.int .i64 1,.int .i64 0]);obtain⟨most,hm⟩:∃most,most=min (s.size-at_) 258:=⟨_,rfl⟩;have HM:=Qh hm;have hsub:IntKind.i64.wrap ((s.size:Int)-(at_:Int))=((s.size-at_:Nat):Int):=by rw [IntWalk.i64_in _ (by omega)];omega
 have HNE:Hid (q4≠g∧q4≠qm∧q4≠qg∧q5≠g∧q5≠qm∧q5≠qg∧q5≠q4):=Qh (by
  have:=h.blk.lt;have:=h.map.lt;obtain⟨F,hF,_⟩:=h.gap;have:=hF.lt;omega)
 have HPA:=Qh hp;have hm258:most≤258:=by omega
 have HMA:Hid (at_+most≤s.size):=Qh (by omega)
 have HLEN:=Qh hlen;have HLL:Hid (0<len∧len≤32768):=Qh (by omega)
 clear h b0 k4 b1 k5 b2 k5b k4b f2 hW1 hW2 hz1 hq4 hq5 hm hlen;go_enter Tryz.func57,Tryz.ntmps57;go_wp2_with fail;rw [←HW1.out];go_step3;by_cases hm3:most<3
 ·have HE:Hid (Qce (Qac s) lo s.size at_=(1,0)):=Qh (by unfold Qce;rw [←HM.out,if_pos hm3])
  have hm3i:(most:Int)<3:=by omega
  go_wp2_with (first|(refine wpList_store_row rfl 110 _ _ rfl W1.heap.size #[.int .i64 1,.int .i64 0] rfl rfl 110 _ HK5.out HSZ.out rfl (Qcu _ _) ?_;rw [←HW2.out,←HE4.out,←HE5.out])|(refine Qav (.int .i64 ((min (s.size-at_) 258:Nat):Int)) rfl (Qjy (.tmp 18) (s.size-at_) 258 rfl rfl rfl) ?_;intro w8 h8;obtain rfl:W2=w8:=h8.symm;simp only [pu];rw [←HM.out])|(refine wpList_load_row rfl 110 (.tmp 5) rfl q5 rfl 110 _ (0,0) _ H2.out.2.2.2 Tryz.underlying110 rfl HSZ.out ?_)|(refine wpList_store_row rfl 110 _ _ rfl q4 #[.int .i64 1,.int .i64 0] rfl rfl 110 _ H2.out.2.2.1 HSZ.out rfl (Qcu _ _) ?_))
  try rw [Exit.noGoto_ret]
  refine bodyPost_ret (results_cell_row rfl _ _ q4 110 #[.int .i64 1,.int .i64 0] (0,0) _ rfl (H2.out.2.2.1.row_ _) Tryz.underlying110 rfl HSZ.out) rfl ?_;unfold TokP;rw [HE.out];exact⟨rfl,_,_,HPA.out,H2.out.1.row q4 _ HNE.out.1 HNE.out.2.1 HNE.out.2.2.1,H2.out.2.1.row q4 _ HQ4.out⟩
 ·have hm3i:¬(most:Int)<3:=by omega
  have hm3n:3≤most:=by omega
  have hat2:at_+2<s.size:=by have:=HMA.out;omega
  have HBE:Hid (Qce (Qac s) lo s.size at_=srch (Qac s) lo most at_ 16 (prv (Qac s) lo (th (Qac s) at_) at_) (1,0)):=Qh (by unfold Qce;rw [←HM.out,if_neg hm3])
  have hl0:=HLL.out.1;have hl1:=HLL.out.2;have CL:=Qu0 g qm qg n s lo len p at_ W2 H2.out.1 hp hat2 hs hl0 (by omega) (by omega)
  clear hm3;go_wp2_with (first|(refine wpList_store_row rfl 110 _ _ rfl W1.heap.size #[.int .i64 1,.int .i64 0] rfl rfl 110 _ HK5.out HSZ.out rfl (Qcu _ _) ?_;rw [←HW2.out,←HE4.out,←HE5.out])|(refine Qav (.int .i64 ((min (s.size-at_) 258:Nat):Int)) rfl (Qjy (.tmp 18) (s.size-at_) 258 rfl rfl rfl) ?_;intro w8 h8;obtain rfl:W2=w8:=h8.symm;simp only [pu];rw [←HM.out]))
  refine CL.mono ?_;rintro e w3 ⟨rfl,n3,f3,m3⟩;have H3:=Qh (⟨f3,H2.out.2.1.trans (⟨m3.os,m3.tape,m3.output,m3.size,m3.block⟩:Fm g qm qg W2 w3),H2.out.2.2.1.fm m3 HNE.out.1 HNE.out.2.1 HNE.out.2.2.1,H2.out.2.2.2.fm m3 HNE.out.2.2.2.1 HNE.out.2.2.2.2.1 HNE.out.2.2.2.2.2.1⟩:FN g qm qg n3 s lo len at_ w3∧Fm g qm qg w w3∧Blk w3 q4 110 #[.int .i64 0,.int .i64 0]∧Blk w3 q5 110 #[.int .i64 1,.int .i64 0]);clear CL f3 m3 H2 c0 hp;obtain⟨T3,hT3⟩:∃T3,T3=th (Qac s) at_:=⟨_,rfl⟩;have ht3:T3<16777216:=by rw [hT3];exact Q26 (Qaz s) at_
  obtain⟨pl0,hpl0⟩:∃pl0,pl0=prv (Qac s) lo T3 at_:=⟨_,rfl⟩;have HBE2:Hid (Qce (Qac s) lo s.size at_=srch (Qac s) lo most at_ 16 pl0 (1,0)):=Qh (by rw [hpl0,hT3];exact HBE.out)
  have HTA:Hid (∀nx,Calls Tryz.prog 88 #[.pointer (some ⟨g,0,none⟩),.int .i64 (at_:Int)] (w3.drewN nx) fun e w'=>e= .returned (.int .u32 (T3:Int))∧∃nq,w'=w3.drewN nq):=Qh fun nx=>by
   have C:=Qkm g s _ _ _ at_ (w3.drewN nx) (H3.out.1.drewN nx).blk hat2 hs;rw [←hT3]at C;refine C.mono ?_;rintro e w' ⟨h1,nq,h2⟩;exact⟨h1,nx+nq,by rw [h2,World.drewN_drewN]⟩
  obtain⟨x0,hx0⟩:∃x0,x0=pl0.getD 0:=⟨_,rfl⟩;obtain⟨b0,hb0⟩:∃b0,b0=pl0.isSome:=⟨_,rfl⟩;have HLK:Hid (∀nx,(Instr.lookup 144 (.map (some qm)) (.int .u32 (T3:Int)) true).run Tryz.prog (w3.drewN nx)= .ok (.tuple #[.int .i64 (x0:Int),.bool b0]) (w3.drewN nx)):=Qh fun nx=>by
   rw [hx0,hb0,hpl0];exact(H3.out.1.drewN nx).map.look (by omega)
  have HPL:Hid (∀k,pl0=some k→x0=k∧lo≤k∧k<at_∧th (Qac s) k=th (Qac s) at_):=Qh fun k e=>by
   have h1:=Qir (hpl0.symm.trans e);exact⟨by rw [hx0,e];rfl,h1.1,h1.2.1,by rw [h1.2.2,hT3]⟩
  have HB0:=Qh hb0;clear hx0 hb0 hpl0 hT3;go_wp2_with fail;refine Qad (Two 1000 1001 fun _ _ wx=>∃nx,wx=w3.drewN nx) (by kernel_rfl) ⟨1,rfl⟩ ?_
  refine tN (i:=0) rfl rfl ?_;simp only [pu];refine tN (i:=1) rfl rfl ?_;simp only [pu];refine tN (i:=2) rfl rfl ?_;simp only [pu];refine Qaa (i:=3) (v:= .map (some qm)) rfl (Qaf rfl (fun f1 f2 wx hT=> ?_)) ?_
  ·obtain⟨nx,hx⟩:=hT;subst hx;have cc:=H3.out.1.blk.cell 1;refine Qab (w:=w3.drewN nx) ?_ ⟨nx,rfl⟩;go_simp;skip
  simp only [pu];refine tN (i:=4) rfl rfl ?_;simp only [pu];refine tM (i:=5) (v:= .int .i64 (at_:Int)) rfl rfl ?_;simp only [pu];refine Qaa (i:=6) (v:= .int .u32 (T3:Int)) rfl (Qaf rfl (fun f1 f2 wx hT=> ?_)) ?_
  ·obtain⟨nx,hx⟩:=hT;subst hx;refine Qao (f:=88) ((HTA.out nx).mono fun e w' ⟨he,hq⟩=>⟨he,hq⟩) ?_;go_simp;skip
  simp only [pu];refine Qaa (i:=7) (v:= .tuple #[.int .i64 (x0:Int),.bool b0]) rfl (Qaf rfl (fun f1 f2 wx hT=> ?_)) ?_
  ·obtain⟨nx,hx⟩:=hT;subst hx;have cc:=HLK.out nx;refine Qab (w:=w3.drewN nx) ?_ ⟨nx,rfl⟩;go_simp;skip
  simp only [pu];refine tM (i:=8) (v:= .tuple #[.int .i64 (x0:Int),.bool b0]) rfl rfl ?_;simp only [pu];refine tM (i:=9) (v:= .int .i64 (x0:Int)) rfl rfl ?_;simp only [pu];refine tM (i:=10) (v:= .bool b0) rfl rfl ?_;simp only [pu];refine tM (i:=11) (v:= .int .i64 (x0:Int)) rfl rfl ?_;simp only [pu];refine tM (i:=12) (v:= .bool b0) rfl rfl ?_;simp only [pu];refine Qag rfl ?_ _;rintro w4 ⟨nx,rfl⟩;have H4:Hid (FN g qm qg n3 s lo len at_ (w3.drewN nx)∧Fm g qm qg w (w3.drewN nx)∧Blk (w3.drewN nx) q4 110 #[.int .i64 0,.int .i64 0]∧Blk (w3.drewN nx) q5 110 #[.int .i64 1,.int .i64 0]):=Qh ⟨H3.out.1.drewN nx,H3.out.2.1.drewN nx,H3.out.2.2.1,H3.out.2.2.2⟩;clear H3 HTA HLK;generalize w3.drewN nx=w5 at H4⊢;go_wp2_with fail;rw [HB0.out];clear HB0;go_step3;go_wp2_with fail;go_loopg [7,8,37] 16 (fun gk u7 u8 u37 wr=>∃(i n4 x b1 b2:Nat) (pl:Option Nat),gk=16-i∧u7= .int .i64 (x:Int)∧u8= .bool pl.isSome∧u37= .int .i64 (i:Int)∧i≤16∧b1≤258∧Hid (∀k,pl=some k→x=k∧lo≤k∧k<at_∧th (Qac s) k=th (Qac s) at_)∧Hid (Qce (Qac s) lo s.size at_=srch (Qac s) lo most at_ (16-i) pl (b1,b2))∧Hid (FN g qm qg n4 s lo len at_ wr∧Fm g qm qg w wr∧Blk wr q4 110 #[.int .i64 0,.int .i64 0]∧Blk wr q5 110 #[.int .i64 (b1:Int),.int .i64 (b2:Int)]))
  case atStart=>exact⟨0,n3,x0,1,0,pl0,rfl,rfl,rfl,rfl,by decide,by decide,HPL,HBE2,H4⟩
  case round=>
   obtain⟨i,n4,x,b1,b2,pl,hgk,rfl,rfl,rfl,hi,hb1,HPX,HBX,HR⟩:=hrel;clear H4 HPL HBE2 HBE;by_cases hi16:i<16
   ·have hii:(i:Int)<16:=by omega
    obtain⟨f,hf⟩:∃f,16-i=f+1:=⟨15-i,by omega⟩
    cases pl with
    |none=>
     have HE:Hid (Qce (Qac s) lo s.size at_=(b1,b2)):=Qh (by rw [HBX.out,hf];rfl)
     clear hf HBX;have hsn:(none:Option Nat).isSome=false:=rfl;go_wp2_with (first|(refine wpList_load_row rfl 110 (.tmp 5) rfl q5 rfl 110 _ (0,0) _ HR.out.2.2.2 Tryz.underlying110 rfl HSZ.out ?_)|(refine wpList_store_row rfl 110 _ _ rfl q4 #[.int .i64 (b1:Int),.int .i64 (b2:Int)] rfl rfl 110 _ HR.out.2.2.1 HSZ.out rfl (Qcu _ _) ?_))
     try rw [Exit.noGoto_ret]
     refine bodyPost_ret (results_cell_row rfl _ _ q4 110 #[.int .i64 (b1:Int),.int .i64 (b2:Int)] (0,0) _ rfl (HR.out.2.2.1.row_ _) Tryz.underlying110 rfl HSZ.out) rfl ?_;unfold TokP;rw [HE.out];exact⟨rfl,_,_,Ql,HR.out.1.row q4 _ HNE.out.1 HNE.out.2.1 HNE.out.2.2.1,HR.out.2.1.row q4 _ HQ4.out⟩
    |some k=>
     have hpk:=HPX.out k rfl;obtain rfl:x=k:=hpk.1;have hsn:(some x:Option Nat).isSome=true:=rfl;have hkat:=hpk.2.2.1;have hsb:IntKind.i64.wrap ((at_:Int)-(x:Int))=((at_-x:Nat):Int):=by rw [IntWalk.i64_in _ (by omega)];omega
     obtain⟨d,hd⟩:∃d,d=at_-x:=⟨_,rfl⟩;rw [←hd]at hsb;have HD:=Qh hd;have HP4:=Qh hpk;have HF:=Qh hf;clear hd hf hpk;by_cases hfar:d>32768
     ·have HE:Hid (Qce (Qac s) lo s.size at_=(b1,b2)):=Qh (by
       rw [HBX.out,HF.out];show(if at_-x>32768 then(b1,b2)else _)=_;rw [←HD.out,if_pos hfar])
      have hfi:(d:Int)>32768:=by omega
      clear HBX;go_wp2_with (first|(refine wpList_load_row rfl 110 (.tmp 5) rfl q5 rfl 110 _ (0,0) _ HR.out.2.2.2 Tryz.underlying110 rfl HSZ.out ?_)|(refine wpList_store_row rfl 110 _ _ rfl q4 #[.int .i64 (b1:Int),.int .i64 (b2:Int)] rfl rfl 110 _ HR.out.2.2.1 HSZ.out rfl (Qcu _ _) ?_))
      try rw [Exit.noGoto_ret]
      refine bodyPost_ret (results_cell_row rfl _ _ q4 110 #[.int .i64 (b1:Int),.int .i64 (b2:Int)] (0,0) _ rfl (HR.out.2.2.1.row_ _) Tryz.underlying110 rfl HSZ.out) rfl ?_;unfold TokP;rw [HE.out];exact⟨rfl,_,_,Ql,HR.out.1.row q4 _ HNE.out.1 HNE.out.2.1 HNE.out.2.2.1,HR.out.2.1.row q4 _ HQ4.out⟩
     ·have hfi:¬(d:Int)>32768:=by omega
      have HBY:Hid (Qce (Qac s) lo s.size at_=if Qcc (Qac s) x at_ most=most then(most,d)else srch (Qac s) lo most at_ f (prv (Qac s) lo (th (Qac s) x) x) (if b1<Qcc (Qac s) x at_ most then(Qcc (Qac s) x at_ most,d)else (b1,b2))):=Qh (by
       rw [HBX.out,HF.out];show(if at_-x>32768 then(b1,b2)else if Qcc (Qac s) x at_ most=most then(most,at_-x)else _)=_;rw [←HD.out,if_neg hfar])
      have CS:=Qy1 g s _ _ _ x at_ most wr HR.out.1.blk (by have:=HMA.out;omega) (by have:=HMA.out;omega) hs (by omega)
      have hnm:=Qho (Qac s) x at_ most;obtain⟨N,hN⟩:∃N,N=Qcc (Qac s) x at_ most:=⟨_,rfl⟩;rw [←hN]at HBY CS hnm;have HFAR:=Qh hfar;clear hN HBX hfar;go_wp2_with fail;refine CS.mono ?_;rintro e wt ⟨rfl,nt,rfl⟩;have HRd:Hid (FN g qm qg n4 s lo len at_ (wr.drewN nt)∧Fm g qm qg w (wr.drewN nt)∧Blk (wr.drewN nt) q4 110 #[.int .i64 0,.int .i64 0]∧Blk (wr.drewN nt) q5 110 #[.int .i64 (b1:Int),.int .i64 (b2:Int)]):=Qh ⟨HR.out.1.drewN nt,HR.out.2.1.drewN nt,HR.out.2.2.1,HR.out.2.2.2⟩;clear CS HR;generalize wr.drewN nt=wb at HRd⊢;by_cases hnmo:N=most
      ·subst hnmo;have HE:Hid (Qce (Qac s) lo s.size at_=(N,d)):=Qh (by rw [HBY.out,if_pos rfl])
       have HR:Hid (FN g qm qg n4 s lo len at_ (wb.setRow q5 #[.int .i64 (N:Int),.int .i64 (d:Int)])∧Fm g qm qg w (wb.setRow q5 #[.int .i64 (N:Int),.int .i64 (d:Int)])∧Blk (wb.setRow q5 #[.int .i64 (N:Int),.int .i64 (d:Int)]) q4 110 #[.int .i64 0,.int .i64 0]∧Blk (wb.setRow q5 #[.int .i64 (N:Int),.int .i64 (d:Int)]) q5 110 #[.int .i64 (N:Int),.int .i64 (d:Int)]):=Qh ⟨HRd.out.1.row q5 _ HNE.out.2.2.2.1 HNE.out.2.2.2.2.1 HNE.out.2.2.2.2.2.1,HRd.out.2.1.row q5 _ HQ5.out,(setRow_other wb q5 q4 _ (fun e=>HNE.out.2.2.2.2.2.2 e.symm)).trans HRd.out.2.2.1,HRd.out.2.2.2.row_ _⟩;obtain⟨wz,hwz⟩:∃wz,wz=wb.setRow q5 #[.int .i64 (N:Int),.int .i64 (d:Int)]:=⟨_,rfl⟩;rw [←hwz]at HR;have HWZ:=Qh hwz;clear hwz HBY;have hnn:(N:Int)=(N:Int):=rfl;go_wp2_with (first|(refine wpList_store_row rfl 110 _ _ rfl q5 #[.int .i64 (N:Int),.int .i64 (d:Int)] rfl rfl 110 _ HRd.out.2.2.2 HSZ.out rfl (Qcu _ _) ?_;rw [←HWZ.out])|(refine wpList_load_row rfl 110 (.tmp 5) rfl q5 rfl 110 _ (0,0) _ HR.out.2.2.2 Tryz.underlying110 rfl HSZ.out ?_)|(refine wpList_store_row rfl 110 _ _ rfl q4 #[.int .i64 (N:Int),.int .i64 (d:Int)] rfl rfl 110 _ HR.out.2.2.1 HSZ.out rfl (Qcu _ _) ?_))
       try rw [Exit.noGoto_ret]
       refine bodyPost_ret (results_cell_row rfl _ _ q4 110 #[.int .i64 (N:Int),.int .i64 (d:Int)] (0,0) _ rfl (HR.out.2.2.1.row_ _) Tryz.underlying110 rfl HSZ.out) rfl ?_;unfold TokP;rw [HE.out];exact⟨rfl,_,_,Ql,HR.out.1.row q4 _ HNE.out.1 HNE.out.2.1 HNE.out.2.2.1,HR.out.2.1.row q4 _ HQ4.out⟩
      ·have hnn:¬(N:Int)=(most:Int):=by omega
       have hnb:((N:Int)==(most:Int))=false:=by simpa using hnn
       have HBZ:Hid (Qce (Qac s) lo s.size at_=srch (Qac s) lo most at_ f (prv (Qac s) lo (th (Qac s) x) x) (if b1<N then(N,d)else (b1,b2))):=Qh (by rw [HBY.out,if_neg hnmo])
       obtain⟨G,hG⟩:∃G,G=gapV (Qac s) lo x:=⟨_,rfl⟩;have hgp:= @Qme (Qac s) lo x;rw [←hG]at hgp;have hgx:=hgp.2.2;have hgs:IntKind.i64.wrap ((x:Int)-(G:Int))=((x-G:Nat):Int):=by rw [IntWalk.i64_in _ (by omega)];omega
       obtain⟨r,hr⟩:∃r,r=x%len:=⟨_,rfl⟩;have hrl:r<len:=by rw [hr];exact Nat.mod_lt _ hl0
       have hr1:(x:Int).tmod (len:Int)=(r:Int):=by rw [Int.tmod_eq_emod_of_nonneg (by omega),hr];rfl
       have hr2:(x:Int)%(len:Int)=(r:Int):=by rw [hr];rfl
       have hl00:¬len=0:=by omega
       have hrli:(r:Int)<(len:Int):=by omega
       have HRX:=Qh hr;obtain⟨pn,hpn⟩:∃pn,pn=prv (Qac s) lo (th (Qac s) x) x:=⟨_,rfl⟩;have hgb:decide ((G:Int)>0)=pn.isSome:=by
        rw [hpn,Bool.eq_iff_iff,←hgp.1,decide_eq_true_iff];omega
       have hgb2:decide (0<G)=pn.isSome:=by
        rw [hpn,Bool.eq_iff_iff,←hgp.1,decide_eq_true_iff]
       have HPN:Hid (∀k,pn=some k→x-G=k∧lo≤k∧k<at_∧th (Qac s) k=th (Qac s) at_):=Qh fun k e=>by
        have h1:=Qir (hpn.symm.trans e);have h2:=hgp.2.1 k (hpn.symm.trans e);exact⟨h2.1,h1.1,by omega,h1.2.2.trans HP4.out.2.2.2⟩
       have HGG:=Qh hG;rw [←hpn]at HBZ;have HIN:=Qh (⟨hi16,hgk,hb1⟩:i<16∧gk=16-i∧b1≤258);have hiw:IntKind.i64.wrap ((i:Int)+1)=((i+1:Nat):Int):=by rw [IntWalk.i64_in _ (by omega)];rfl
       have HNL:=Qh hnm;clear hG hgp hr hpn HBY hnmo;by_cases hbn:b1<N
       ·have hbi:(N:Int)>(b1:Int):=by omega
        have hbi2:b1<N:=hbn;have HZ:Hid (FN g qm qg n4 s lo len at_ (wb.setRow q5 #[.int .i64 (N:Int),.int .i64 (d:Int)])∧Fm g qm qg w (wb.setRow q5 #[.int .i64 (N:Int),.int .i64 (d:Int)])∧Blk (wb.setRow q5 #[.int .i64 (N:Int),.int .i64 (d:Int)]) q4 110 #[.int .i64 0,.int .i64 0]∧Blk (wb.setRow q5 #[.int .i64 (N:Int),.int .i64 (d:Int)]) q5 110 #[.int .i64 (N:Int),.int .i64 (d:Int)]):=Qh ⟨HRd.out.1.row q5 _ HNE.out.2.2.2.1 HNE.out.2.2.2.2.1 HNE.out.2.2.2.2.2.1,HRd.out.2.1.row q5 _ HQ5.out,(setRow_other wb q5 q4 _ (fun e=>HNE.out.2.2.2.2.2.2 e.symm)).trans HRd.out.2.2.1,HRd.out.2.2.2.row_ _⟩;obtain⟨wz,hwz⟩:∃wz,wz=wb.setRow q5 #[.int .i64 (N:Int),.int .i64 (d:Int)]:=⟨_,rfl⟩;rw [←hwz]at HZ;have HWZ:=Qh hwz;have cb:wb.cell? ⟨q5,0,none⟩=some (.int .i64 (b1:Int)):=HRd.out.2.2.2.cell 0;have HBV:Hid (Qce (Qac s) lo s.size at_=srch (Qac s) lo most at_ f pn (N,d)):=Qh (by rw [HBZ.out,if_pos hbn])
        clear hwz HBZ;go_wp2_with (first|(refine wpList_store_row rfl 110 _ _ rfl q5 #[.int .i64 (N:Int),.int .i64 (d:Int)] rfl rfl 110 _ HRd.out.2.2.2 HSZ.out rfl (Qcu _ _) ?_;rw [←HWZ.out]))
        clear HRd cb;have HCG:Hid (wz.cell? ⟨qg,r,none⟩=some (.int .i64 (G:Int))):=Qh (by
         obtain⟨F,hF1,hF2⟩:=HZ.out.1.gap;rw [hF1.at_ hrl];dsimp only;rw [HRX.out,hF2 x HP4.out.2.1 HP4.out.2.2.1 (by have:=HFAR.out;have:=HD.out;have:=HLEN.out;have:=HP4.out;omega),←HGG.out])
        refine Qad (Two 1000 1001 fun _ _ wx=>∃nx,wx=wz.drewN nx) (by kernel_rfl) ⟨1,rfl⟩ ?_
        refine tN (i:=0) rfl rfl ?_;simp only [pu];refine tN (i:=1) rfl rfl ?_;simp only [pu];refine tN (i:=2) rfl rfl ?_;simp only [pu];refine Qaa (i:=3) (v:= .slice (some ⟨qg,0,none⟩) len len) rfl (Qaf rfl (fun f1 f2 wx hT=> ?_)) ?_
        ·obtain⟨nx,hx⟩:=hT;subst hx;have cc:=HZ.out.1.blk.cell 2;refine Qab (w:=wz.drewN nx) ?_ ⟨nx,rfl⟩;go_simp;skip
        simp only [pu];refine tM (i:=4) (v:= .int .i64 (x:Int)) rfl rfl ?_;simp only [pu];refine tN (i:=5) rfl rfl ?_;simp only [pu];refine tN (i:=6) rfl rfl ?_;simp only [pu];refine tN (i:=7) rfl rfl ?_;simp only [pu];refine Qaa (i:=8) (v:= .slice (some ⟨qg,0,none⟩) len len) rfl (Qaf rfl (fun f1 f2 wx hT=> ?_)) ?_
        ·obtain⟨nx,hx⟩:=hT;subst hx;have cc:=HZ.out.1.blk.cell 2;refine Qab (w:=wz.drewN nx) ?_ ⟨nx,rfl⟩;go_simp;skip
        simp only [pu];refine tM (i:=9) (v:= .int .i64 (len:Int)) rfl rfl ?_;simp only [pu];refine tM (i:=10) (v:= .int .i64 (r:Int)) rfl rfl ?_;simp only [pu];refine tM (i:=11) (v:= .pointer (some ⟨qg,r,none⟩)) rfl rfl ?_;simp only [pu];refine Qaa (i:=12) (v:= .int .i64 (G:Int)) rfl (Qaf rfl (fun f1 f2 wx hT=> ?_)) ?_
        ·obtain⟨nx,hx⟩:=hT;subst hx;have cc:=HCG.out;refine Qab (w:=wz.drewN nx) ?_ ⟨nx,rfl⟩;go_simp;skip
        simp only [pu];refine tM (i:=13) (v:= .int .i64 (G:Int)) rfl rfl ?_;simp only [pu];refine Qag rfl ?_ _;rintro w4 ⟨nx,rfl⟩;have HZ2:Hid (FN g qm qg n4 s lo len at_ (wz.drewN nx)∧Fm g qm qg w (wz.drewN nx)∧Blk (wz.drewN nx) q4 110 #[.int .i64 0,.int .i64 0]∧Blk (wz.drewN nx) q5 110 #[.int .i64 (N:Int),.int .i64 (d:Int)]):=Qh ⟨HZ.out.1.drewN nx,HZ.out.2.1.drewN nx,HZ.out.2.2.1,HZ.out.2.2.2⟩;clear HZ HCG;generalize wz.drewN nx=wy at HZ2⊢;go_wp2_with fail;go_roundg (15-i)
        case measure=>have:=HIN.out;omega
        case rel=>exact⟨i+1,n4,x-G,N,d,pn,by have:=HIN.out;omega,rfl,rfl,by go_num,by have:=HIN.out;omega,by have:=HIN.out;have:=HNL.out;omega,HPN,Qh (by rw [show 16-(i+1)=f by have:=HF.out;omega];exact HBV.out),HZ2⟩
       ·have hbi:¬(N:Int)>(b1:Int):=by omega
        have hbi2:N≤b1:=by omega
        have cb:wb.cell? ⟨q5,0,none⟩=some (.int .i64 (b1:Int)):=HRd.out.2.2.2.cell 0;have HBV:Hid (Qce (Qac s) lo s.size at_=srch (Qac s) lo most at_ f pn (b1,b2)):=Qh (by rw [HBZ.out,if_neg hbn])
        have HZ:=HRd;clear HBZ;go_wp2_with fail;clear HRd cb;generalize wb=wz at HZ⊢;have HCG:Hid (wz.cell? ⟨qg,r,none⟩=some (.int .i64 (G:Int))):=Qh (by
         obtain⟨F,hF1,hF2⟩:=HZ.out.1.gap;rw [hF1.at_ hrl];dsimp only;rw [HRX.out,hF2 x HP4.out.2.1 HP4.out.2.2.1 (by have:=HFAR.out;have:=HD.out;have:=HLEN.out;have:=HP4.out;omega),←HGG.out])
        refine Qad (Two 1000 1001 fun _ _ wx=>∃nx,wx=wz.drewN nx) (by kernel_rfl) ⟨1,rfl⟩ ?_
        refine tN (i:=0) rfl rfl ?_;simp only [pu];refine tN (i:=1) rfl rfl ?_;simp only [pu];refine tN (i:=2) rfl rfl ?_;simp only [pu];refine Qaa (i:=3) (v:= .slice (some ⟨qg,0,none⟩) len len) rfl (Qaf rfl (fun f1 f2 wx hT=> ?_)) ?_
        ·obtain⟨nx,hx⟩:=hT;subst hx;have cc:=HZ.out.1.blk.cell 2;refine Qab (w:=wz.drewN nx) ?_ ⟨nx,rfl⟩;go_simp;skip
        simp only [pu];refine tM (i:=4) (v:= .int .i64 (x:Int)) rfl rfl ?_;simp only [pu];refine tN (i:=5) rfl rfl ?_;simp only [pu];refine tN (i:=6) rfl rfl ?_;simp only [pu];refine tN (i:=7) rfl rfl ?_;simp only [pu];refine Qaa (i:=8) (v:= .slice (some ⟨qg,0,none⟩) len len) rfl (Qaf rfl (fun f1 f2 wx hT=> ?_)) ?_
        ·obtain⟨nx,hx⟩:=hT;subst hx;have cc:=HZ.out.1.blk.cell 2;refine Qab (w:=wz.drewN nx) ?_ ⟨nx,rfl⟩;go_simp;skip
        simp only [pu];refine tM (i:=9) (v:= .int .i64 (len:Int)) rfl rfl ?_;simp only [pu];refine tM (i:=10) (v:= .int .i64 (r:Int)) rfl rfl ?_;simp only [pu];refine tM (i:=11) (v:= .pointer (some ⟨qg,r,none⟩)) rfl rfl ?_;simp only [pu];refine Qaa (i:=12) (v:= .int .i64 (G:Int)) rfl (Qaf rfl (fun f1 f2 wx hT=> ?_)) ?_
        ·obtain⟨nx,hx⟩:=hT;subst hx;have cc:=HCG.out;refine Qab (w:=wz.drewN nx) ?_ ⟨nx,rfl⟩;go_simp;skip
        simp only [pu];refine tM (i:=13) (v:= .int .i64 (G:Int)) rfl rfl ?_;simp only [pu];refine Qag rfl ?_ _;rintro w4 ⟨nx,rfl⟩;have HZ2:Hid (FN g qm qg n4 s lo len at_ (wz.drewN nx)∧Fm g qm qg w (wz.drewN nx)∧Blk (wz.drewN nx) q4 110 #[.int .i64 0,.int .i64 0]∧Blk (wz.drewN nx) q5 110 #[.int .i64 (b1:Int),.int .i64 (b2:Int)]):=Qh ⟨HZ.out.1.drewN nx,HZ.out.2.1.drewN nx,HZ.out.2.2.1,HZ.out.2.2.2⟩;clear HZ HCG;generalize wz.drewN nx=wy at HZ2⊢;go_wp2_with fail;go_roundg (15-i)
        case measure=>have:=HIN.out;omega
        case rel=>exact⟨i+1,n4,x-G,b1,b2,pn,by have:=HIN.out;omega,rfl,rfl,by go_num,by have:=HIN.out;omega,by have:=HIN.out;have:=HNL.out;omega,HPN,Qh (by rw [show 16-(i+1)=f by have:=HF.out;omega];exact HBV.out),HZ2⟩
   ·obtain rfl:i=16:=by omega
    have hii:¬(((16:Nat):Int))<16:=by omega
    have HE:Hid (Qce (Qac s) lo s.size at_=(b1,b2)):=Qh (by rw [HBX.out];rfl)
    clear HBX;go_wp2_with (first|(refine wpList_load_row rfl 110 (.tmp 5) rfl q5 rfl 110 _ (0,0) _ HR.out.2.2.2 Tryz.underlying110 rfl HSZ.out ?_)|(refine wpList_store_row rfl 110 _ _ rfl q4 #[.int .i64 (b1:Int),.int .i64 (b2:Int)] rfl rfl 110 _ HR.out.2.2.1 HSZ.out rfl (Qcu _ _) ?_))
    try rw [Exit.noGoto_ret]
    refine bodyPost_ret (results_cell_row rfl _ _ q4 110 #[.int .i64 (b1:Int),.int .i64 (b2:Int)] (0,0) _ rfl (HR.out.2.2.1.row_ _) Tryz.underlying110 rfl HSZ.out) rfl ?_;unfold TokP;rw [HE.out];exact⟨rfl,_,_,Ql,HR.out.1.row q4 _ HNE.out.1 HNE.out.2.1 HNE.out.2.2.1,HR.out.2.1.row q4 _ HQ4.out⟩
theorem Qmt (b:Nat→Nat) (lo h:Nat):∀i,i≤lo→prv b lo h i=none
 |0,_=>rfl
 |i+1,hi=>by
  unfold prv;rw [if_neg (fun e=>by have:=e.1;omega)]
  exact Qmt b lo h i (by omega)
theorem Qum (s:ByteArray) (lo N:Nat) (w:World):
  FN (w.heap.size+1+1) w.heap.size (w.heap.size+1) 0 s lo N lo ((((w.alloc (.map #[] 0)).alloc (.cells (rI N fun _=>0) 3)).alloc (.cells #[.string s,.map (some w.heap.size),.slice (some ⟨w.heap.size+1,0,none⟩) N N,.int .i64 (lo:Int)] 146)).drew):=by
 have z1:(w.alloc (.map #[] 0)).heap.size=w.heap.size+1:=by simp
 have z2:((w.alloc (.map #[] 0)).alloc (.cells (rI N fun _=>0) 3)).heap.size=w.heap.size+1+1:=by simp
 have k1:=Blk.new (w.alloc (.map #[] 0)) 3 (rI N fun _=>0);rw [z1]at k1;have k2:=Blk.new ((w.alloc (.map #[] 0)).alloc (.cells (rI N fun _=>0) 3)) 146 #[.string s,.map (some w.heap.size),.slice (some ⟨w.heap.size+1,0,none⟩) N N,.int .i64 (lo:Int)];rw [z2]at k2;have m0:=((MT.made w).below (Qb.alloc Ql (.cells (rI N fun _=>0) 3))).below (Qb.alloc Ql (.cells #[.string s,.map (some w.heap.size),.slice (some ⟨w.heap.size+1,0,none⟩) N N,.int .i64 (lo:Int)] 146));exact⟨k2.drew,(m0.same rfl).cast fun x=>(Qmt _ lo x lo Ql).symm,⟨fun _=>0,(k1.alloc _).drew,fun k h1 h2 _=>by omega⟩,by omega,Ql,Nat.zero_le _⟩
theorem Qun (s:ByteArray) (lo N:Nat) (w:World):
  FN (w.heap.size+1+1) (w.heap.size+1) w.heap.size 0 s lo N lo ((((w.alloc (.cells (rI N fun _=>0) 3)).alloc (.map #[] 0)).alloc (.cells #[.string s,.map (some (w.heap.size+1)),.slice (some ⟨w.heap.size,0,none⟩) N N,.int .i64 (lo:Int)] 146)).drew):=by
 have z1:(w.alloc (.cells (rI N fun _=>0) 3)).heap.size=w.heap.size+1:=by simp
 have z2:((w.alloc (.cells (rI N fun _=>0) 3)).alloc (.map #[] 0)).heap.size=w.heap.size+1+1:=by simp
 have k1:=(Blk.new w 3 (rI N fun _=>0)).alloc (.map #[] 0);have k2:=Blk.new ((w.alloc (.cells (rI N fun _=>0) 3)).alloc (.map #[] 0)) 146 #[.string s,.map (some (w.heap.size+1)),.slice (some ⟨w.heap.size,0,none⟩) N N,.int .i64 (lo:Int)];rw [z2]at k2;have m0:=MT.made (w.alloc (.cells (rI N fun _=>0) 3));rw [z1]at m0;have m1:=m0.below (Qb.alloc Ql (.cells #[.string s,.map (some (w.heap.size+1)),.slice (some ⟨w.heap.size,0,none⟩) N N,.int .i64 (lo:Int)] 146));exact⟨k2.drew,(m1.same rfl).cast fun x=>(Qmt _ lo x lo Ql).symm,⟨fun _=>0,(k1.alloc _).drew,fun k h1 h2 _=>by omega⟩,by omega,Ql,Nat.zero_le _⟩
def NewP (s:ByteArray) (lo N:Nat) (w:World) (e:Ending) (w':World):Prop:=
 ∃g qm qg n,e= .returned (.pointer (some ⟨g,0,none⟩))∧FN g qm qg n s lo N lo w'∧Below w.heap.size w w'∧w.heap.size≤g∧w.heap.size≤qm∧w.heap.size≤qg
theorem Qym (s:ByteArray) (from_ to:Nat) (w:World) (h1:from_≤to) (h2:to≤s.size) (hs:s.size≤281474976710656) (hd:to-(from_-32768)<1000000):
  Calls Tryz.prog 56 #[.string s,.int .i64 (from_:Int),.int .i64 (to:Int)] w (NewP (s.extract 0 to) (from_-32768) (min (to-(from_-32768)) 32768) w):=by
 obtain⟨lo,hlo⟩:∃lo,lo=from_-32768:=⟨_,rfl⟩;obtain⟨N,hN⟩:∃N,N=min (to-lo) 32768:=⟨_,rfl⟩;rw [←hlo]at hd⊢;rw [←hN];have hmx:max 0 ((from_:Int)-32768)=(lo:Int):=by omega
 have HMX:=Qh hmx;have HN:=Qh hN;have hw1:IntKind.i64.wrap ((from_:Int)-32768)=(from_:Int)-32768:=IntWalk.i64_in _ (by omega)
 obtain⟨K,hK⟩:∃K,K=to-lo:=⟨_,rfl⟩;have hw2:IntKind.i64.wrap ((to:Int)-(lo:Int))=(K:Int):=by rw [IntWalk.i64_in _ (by omega)];omega
 have hto:(to:Int)≤(s.size:Int):=by omega
 have hmm:=fun w=> @run_makeMap Tryz.prog 144 w;rw [←hK]at hN hd;by_cases h32:32768<K
 ·obtain rfl:N=32768:=by omega
  have h32i:(32768:Int)<(K:Int):=by omega
  have hmk:∀w,(Instr.makeSlice 92 (.int .i64 32768) (.int .i64 32768)).run Tryz.prog w= .ok (.slice (some ⟨w.heap.size,0,none⟩) 32768 32768) (w.alloc (.cells (rI 32768 fun _=>0) 3)):=Qdo 32768 (by decide)
  clear hmx hN hlo hK HN;go_enter Tryz.func56,Tryz.ntmps56;go_wp2_with (refine Qav (.int .i64 (max 0 ((from_:Int)-32768))) rfl (Qd2 (.tmp 9) ((from_:Int)-32768) rfl rfl rfl) ?_;intro w8 h8;obtain rfl:w=w8:=h8.symm;simp only [pu];rw [HMX.out]);go_region
  ·have HF:=Qum (s.extract 0 to) lo 32768 w;have HB:Below w.heap.size w ((((w.alloc (.map #[] 0)).alloc (.cells (rI 32768 fun _=>0) 3)).alloc (.cells #[.string (s.extract 0 to),.map (some w.heap.size),.slice (some ⟨w.heap.size+1,0,none⟩) 32768 32768,.int .i64 (lo:Int)] 146)).drew):=(((Qb.alloc Ql _).alloc (by simp) _).alloc (by simp;omega) _).drew
   generalize (((w.alloc (.map #[] 0)).alloc (.cells (rI 32768 fun _=>0) 3)).alloc (.cells #[.string (s.extract 0 to),.map (some w.heap.size),.slice (some ⟨w.heap.size+1,0,none⟩) 32768 32768,.int .i64 (lo:Int)] 146)).drew=wn at*;go_wp2_with fail;go_ret;exact⟨_,_,_,_,rfl,HF,HB,by omega,by omega,by omega⟩
  ·have HF:=Qun (s.extract 0 to) lo 32768 w;have HB:Below w.heap.size w ((((w.alloc (.cells (rI 32768 fun _=>0) 3)).alloc (.map #[] 0)).alloc (.cells #[.string (s.extract 0 to),.map (some (w.heap.size+1)),.slice (some ⟨w.heap.size,0,none⟩) 32768 32768,.int .i64 (lo:Int)] 146)).drew):=(((Qb.alloc Ql _).alloc (by simp) _).alloc (by simp;omega) _).drew
   generalize (((w.alloc (.cells (rI 32768 fun _=>0) 3)).alloc (.map #[] 0)).alloc (.cells #[.string (s.extract 0 to),.map (some (w.heap.size+1)),.slice (some ⟨w.heap.size,0,none⟩) 32768 32768,.int .i64 (lo:Int)] 146)).drew=wn at*;go_wp2_with fail;go_ret;exact⟨_,_,_,_,rfl,HF,HB,by omega,by omega,by omega⟩
 ·obtain rfl:N=K:=by omega
  have h32i:¬(32768:Int)<(N:Int):=by omega
  have hmk:∀w,(Instr.makeSlice 92 (.int .i64 (N:Int)) (.int .i64 (N:Int))).run Tryz.prog w= .ok (.slice (some ⟨w.heap.size,0,none⟩) N N) (w.alloc (.cells (rI N fun _=>0) 3)):=Qdo N (by omega)
  clear hmx hN hlo hK HN;go_enter Tryz.func56,Tryz.ntmps56;go_wp2_with (refine Qav (.int .i64 (max 0 ((from_:Int)-32768))) rfl (Qd2 (.tmp 9) ((from_:Int)-32768) rfl rfl rfl) ?_;intro w8 h8;obtain rfl:w=w8:=h8.symm;simp only [pu];rw [HMX.out]);go_region
  ·have HF:=Qum (s.extract 0 to) lo N w;have HB:Below w.heap.size w ((((w.alloc (.map #[] 0)).alloc (.cells (rI N fun _=>0) 3)).alloc (.cells #[.string (s.extract 0 to),.map (some w.heap.size),.slice (some ⟨w.heap.size+1,0,none⟩) N N,.int .i64 (lo:Int)] 146)).drew):=(((Qb.alloc Ql _).alloc (by simp) _).alloc (by simp;omega) _).drew
   generalize (((w.alloc (.map #[] 0)).alloc (.cells (rI N fun _=>0) 3)).alloc (.cells #[.string (s.extract 0 to),.map (some w.heap.size),.slice (some ⟨w.heap.size+1,0,none⟩) N N,.int .i64 (lo:Int)] 146)).drew=wn at*;go_wp2_with fail;go_ret;exact⟨_,_,_,_,rfl,HF,HB,by omega,by omega,by omega⟩
  ·have HF:=Qun (s.extract 0 to) lo N w;have HB:Below w.heap.size w ((((w.alloc (.cells (rI N fun _=>0) 3)).alloc (.map #[] 0)).alloc (.cells #[.string (s.extract 0 to),.map (some (w.heap.size+1)),.slice (some ⟨w.heap.size,0,none⟩) N N,.int .i64 (lo:Int)] 146)).drew):=(((Qb.alloc Ql _).alloc (by simp) _).alloc (by simp;omega) _).drew
   generalize (((w.alloc (.cells (rI N fun _=>0) 3)).alloc (.map #[] 0)).alloc (.cells #[.string (s.extract 0 to),.map (some (w.heap.size+1)),.slice (some ⟨w.heap.size,0,none⟩) N N,.int .i64 (lo:Int)] 146)).drew=wn at*;go_wp2_with fail;go_ret;exact⟨_,_,_,_,rfl,HF,HB,by omega,by omega,by omega⟩
theorem LS.fm {E:TypeId} {z B:Nat} {w0 w w':World} {l:List (List Value)} {v:Value} {g qm qg:Nat} (h:LS E z B w0 l v w) (hf:Fm g qm qg w w') (hv:v.ownBlock≠some g∧v.ownBlock≠some qm∧v.ownBlock≠some qg) (hB:B≤g∧B≤qm∧B≤qg):LS E z B w0 l v w':=by
 refine⟨⟨h.own.1,?_⟩,h.each,⟨hf.os.trans h.b.os,hf.tape.trans h.b.tape,hf.output.trans h.b.output,Nat.le_trans h.b.size hf.size,fun i hi=>(hf.block i (Nat.lt_of_lt_of_le hi h.lo) (by omega) (by omega) (by omega)).trans (h.b.block i hi)⟩,Nat.le_trans h.lo hf.size⟩
 rcases h.own.2 with h1|⟨q,cap,cur,h1,h2,h3,h4⟩
 ·exact .inl h1
 ·refine .inr ⟨q,cap,cur,h1,h2,?_,h4⟩;rw [h1]at hv;rw [hf.block q (by
   rcases Nat.lt_or_ge q w.heap.size with hlt|hge
   ·exact hlt
   ·rw [Array.getElem?_eq_none hge]at h3;cases h3) (fun e=>hv.1 (by rw [←e];rfl)) (fun e=>hv.2.1 (by rw [←e];rfl)) (fun e=>hv.2.2 (by rw [←e];rfl))]
  exact h3
theorem FN.gr {g qm qg n:Nat} {s:ByteArray} {lo len p:Nat} {w w':World} {v v':Value} (h:FN g qm qg n s lo len p w) (hg:Gr v w v' w') (h1:v.ownBlock≠some g) (h2:v.ownBlock≠some qm) (h3:v.ownBlock≠some qg):FN g qm qg n s lo len p w':=
 ⟨h.blk.gr hg h1,h.map.same (hg.block qm h.map.lt h2),(by obtain⟨F,k1,k2⟩:=h.gap;exact⟨F,k1.gr hg h3,k2⟩),h.ne,h.ge,h.cnt⟩
def encT (x:Nat×Nat):List Value:=Ql9 (x.1:Int) (x.2:Int)
theorem Qpe (s:ByteArray) (from_ to:Nat) (w:World) (h1:from_≤to) (h2:to≤s.size) (hs:s.size≤281474976710656) (hd:to-(from_-32768)<1000000):
  Calls Tryz.prog 28 #[.string s,.int .i64 (from_:Int),.int .i64 (to:Int)] w fun e w'=>∃v,e= .returned v∧LS 110 2 w.heap.size w ((Qbl (Qac (s.extract 0 to)) from_ to).map encT) v w':=by
 have CN:=Qym s from_ to w h1 h2 hs hd;obtain⟨S,hS⟩:∃S,S=s.extract 0 to:=⟨_,rfl⟩;have hSz:S.size=to:=by rw [hS,ByteArray.size_extract];omega
 obtain⟨lo,hlo⟩:∃lo,lo=from_-32768:=⟨_,rfl⟩;have HTV:Hid (Qbl (Qac S) from_ to=Qdy (Qac S) lo to (to-from_) from_):=Qh (by unfold Qbl;rw [←hlo])
 rw [←hS,←hlo]at CN;rw [←hS];have hll:lo≤from_:=by omega
 rw [←hlo]at hd;have hf0:¬(from_:Int)<0:=by omega
 have hf1:¬(to:Int)<(from_:Int):=by omega
 have hf2:¬(to:Int)>(s.size:Int):=by omega
 have HTB:=Qh (⟨by omega,hSz⟩:to≤281474976710656∧S.size=to)
 have HSZ:=Qh Qik;clear hS hlo hSz;go_enter Tryz.func28,Tryz.ntmps28;go_wp2_with fail;refine CN.mono ?_;rintro e w1 ⟨g,qm,qg,n,rfl,f1,b1,hg,hqm,hqg⟩;have HG:=Qh (⟨hg,hqm,hqg⟩:w.heap.size≤g∧w.heap.size≤qm∧w.heap.size≤qg);have H1:Hid (FN g qm qg n S lo (min (to-lo) 32768) lo w1∧LS 110 2 w.heap.size w [] (.slice none 0 0) w1):=Qh ⟨f1,LS.nil b1 b1.size⟩;obtain⟨len,hlen⟩:∃len,len=min (to-lo) 32768:=⟨_,rfl⟩;rw [←hlen]at H1;have HLEN:=Qh hlen;clear CN f1 b1 hg hqm hqg hlen hf2;go_wp2_with fail;go_loopg [8,9] (to-from_) (fun gk u8 u9 wr=>∃(a n' p':Nat) (v:Value) (l:List (List Value)),v=u8∧gk=to-a∧u9= .int .i64 (a:Int)∧a≤to∧lo≤a∧l.length+from_≤a∧p'≤a∧Hid ((Qbl (Qac S) from_ to).map encT=l++(Qdy (Qac S) lo to (to-a) a).map encT)∧Hid (FN g qm qg n' S lo len p' wr∧LS 110 2 w.heap.size w l v wr∧v.ownBlock≠some g∧v.ownBlock≠some qm∧v.ownBlock≠some qg))
 case atStart=>exact⟨from_,n,lo,_,[],rfl,rfl,rfl,h1,hll,by simp,hll,Qh (by rw [HTV.out];rfl),Qh ⟨H1.out.1,H1.out.2,(fun e=>by cases e),(fun e=>by cases e),(fun e=>by cases e)⟩⟩
 case round=>
  obtain⟨a,n',p',v,l,rfl,hgk,rfl,ha,hla,hll2,hpa,HK,HR⟩:=hrel;clear H1;by_cases hlt:a<to
  ·have hlti:(a:Int)<(to:Int):=by omega
   have hSz:=HTB.out.2;have CT:=Qwt g qm qg n' S lo len p' a wr HR.out.1 hpa (by omega) (by omega) (by rw [hSz];exact HLEN.out) (by omega)
   unfold TokP at CT;rw [hSz]at CT;have hok:=Qi3 (Qaz S) lo (to:=to) hlt;have HK2:Hid ((Qbl (Qac S) from_ to).map encT=(l++[encT (Qce (Qac S) lo to a)])++(Qdy (Qac S) lo to (to-(a+(Qce (Qac S) lo to a).1)) (a+(Qce (Qac S) lo to a).1)).map encT):=Qh (by
    rw [HK.out,show to-a=to-a-1+1 by omega,Qf7 hlt,Qil (Qaz S) lo to (to-a-1) (to-(a+(Qce (Qac S) lo to a).1)) _ (by have:=hok.1;omega) (by omega)]
    simp)
   generalize Qce (Qac S) lo to a=bt at CT hok HK2;obtain⟨x,y⟩:=bt;have hx1:1≤x∧a+x≤to∧x≤258:=⟨hok.1,hok.2.1,hok.2.2.1⟩;dsimp only at CT HK2;have HX:=Qh (⟨hx1,hlt,hgk,hla,hll2⟩:(1≤x∧a+x≤to∧x≤258)∧a<to∧gk=to-a∧lo≤a∧l.length+from_≤a);have hw:IntKind.i64.wrap ((a:Int)+(x:Int))=((a+x:Nat):Int):=by have:=HTB.out;rw [IntWalk.i64_in _ (by omega)];rfl
   have HLN:Hid (l.length≤999999999999):=Qh (by have:=HTB.out;omega)
   clear hok hx1 hlt hgk hla hll2 hSz hpa;go_wp2_with fail;refine CT.mono ?_;rintro e w2 ⟨rfl,n2,p2,hp2,f2,m2⟩;have HP2:=Qh hp2;have H2:Hid (FN g qm qg n2 S lo len p2 w2∧LS 110 2 w.heap.size w l v w2):=Qh ⟨f2,HR.out.2.1.fm m2 HR.out.2.2 HG.out⟩;have HNV:=Qh HR.out.2.2;clear CT f2 m2 HR hp2;have HZ:=Qh (Blk.new w2 110 #[.int .i64 0,.int .i64 0]);have HZ2:=Qh (HZ.out.row_ #[.int .i64 (x:Int),.int .i64 (y:Int)]);have HB2:=Qh (Qai ((Below.refl _ w2).alloc Ql (.cells #[.int .i64 0,.int .i64 0] 110)) Ql #[.int .i64 (x:Int),.int .i64 (y:Int)]);have H3:=Qh (⟨H2.out.1.below HB2.out,H2.out.2.below HB2.out⟩:FN g qm qg n2 S lo len p2 ((w2.alloc (.cells #[.int .i64 0,.int .i64 0] 110)).setRow w2.heap.size #[.int .i64 (x:Int),.int .i64 (y:Int)])∧LS 110 2 w.heap.size w l v ((w2.alloc (.cells #[.int .i64 0,.int .i64 0] 110)).setRow w2.heap.size #[.int .i64 (x:Int),.int .i64 (y:Int)]));have HQN:Hid (v.ownBlock≠some w2.heap.size):=Qh fun e=>by have:=(H2.out.2.ownB _ e).2;omega
   have HQF:Hid (g<w2.heap.size∧qm<w2.heap.size∧qg<w2.heap.size):=Qh ⟨H2.out.1.blk.lt,H2.out.1.map.lt,by obtain⟨F,k,_⟩:=H2.out.1.gap;exact k.lt⟩
   have HWS:=Qh HB2.out.size;obtain⟨W2,hW2⟩:∃W2,W2=(w2.alloc (.cells #[.int .i64 0,.int .i64 0] 110)).setRow w2.heap.size #[.int .i64 (x:Int),.int .i64 (y:Int)]:=⟨_,rfl⟩;rw [←hW2]at HZ2 HB2 H3 HWS;have HWE:=Qh hW2;obtain⟨q,hq⟩:∃q,q=w2.heap.size:=⟨_,rfl⟩;rw [←hq]at HZ2 HQN;have HQE:=Qh hq;clear hW2 hq H2 HB2;go_wp2_with (first|(refine wpList_store_row rfl 110 _ _ rfl w2.heap.size #[.int .i64 (x:Int),.int .i64 (y:Int)] rfl rfl 110 _ HZ.out HSZ.out rfl (Qcu _ _) ?_;rw [←HWE.out,←HQE.out])|(refine wpList_load_row rfl 110 (.tmp 10) rfl q rfl 110 _ (0,0) _ HZ2.out Tryz.underlying110 rfl HSZ.out ?_)|(at_builtin;refine Qo0 rfl (.tmp 35) (.tmp 37) 61 rfl rfl rfl H3.out.2 (x:Int) (y:Int) rfl HLN.out ?_;intro v9 w9 h9 g9;have H9:Hid (FN g qm qg n2 S lo len p2 w9∧LS 110 2 w.heap.size w (l++[encT (x,y)]) v9 w9∧v9.ownBlock≠some g∧v9.ownBlock≠some qm∧v9.ownBlock≠some qg):=Qh ⟨H3.out.1.gr g9 HNV.out.1 HNV.out.2.1 HNV.out.2.2,h9,fun e=>by rcases g9.own _ e with h|h;exact HNV.out.1 h;have:=HQF.out;have:=HWS.out;omega,fun e=>by rcases g9.own _ e with h|h;exact HNV.out.2.1 h;have:=HQF.out;have:=HWS.out;omega,fun e=>by rcases g9.own _ e with h|h;exact HNV.out.2.2 h;have:=HQF.out;have:=HWS.out;omega⟩;have c9:w9.cell? ⟨q,0,none⟩=some (.int .i64 (x:Int)):=(HZ2.out.gr g9 HQN.out).cell 0;clear h9 g9))
   go_roundg (to-(a+x))
   case measure=>have:=HX.out;omega
   case rel=>exact⟨a+x,n2,p2,_,l++[encT (x,y)],rfl,rfl,by go_num,by have:=HX.out;omega,by have:=HX.out;omega,by rw [List.length_append];have:=HX.out;show l.length+1+from_≤a+x;omega,by have:=HP2.out;omega,HK2,H9⟩
  ·obtain rfl:a=to:=by omega
   have hlti:¬(a:Int)<(a:Int):=by omega
   have HE:Hid ((Qbl (Qac S) from_ a).map encT=l):=Qh (by rw [HK.out,Nat.sub_self];simp [Qdy])
   clear HK;go_wp2_with fail;go_ret;rw [HE.out];exact⟨_,rfl,HR.out.2.1⟩
end Go.Proofs.YtbmcjdoiohcaaaaGreat
