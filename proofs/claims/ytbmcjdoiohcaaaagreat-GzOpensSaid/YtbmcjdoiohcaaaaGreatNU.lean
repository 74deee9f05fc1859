/- NU -/
import Derived.Test.YtbmcjdoiohcaaaaGreatNT
set_option maxRecDepth 100000
set_option maxHeartbeats 32000000
namespace Go.Proofs.YtbmcjdoiohcaaaaGreat
open Go.RowKit
theorem Qit (g N n:Nat) (v:Value) (S:ByteArray) (p:Option Addr) (m cap:Nat) (L:List (Nat×Nat)) (w:World)
  (h0:OW g N n v w) (h:RS 2 p m cap (L.map encT) w) (hp:∀a,p=some a→a.block≠g∧v.ownBlock≠some a.block) (hm:m≤100000) (hS:S.size≤1000000) (hok:OkR S.size L) (hws:∀x∈Qas (Qac S) L,0≤x.1∧x.1<316) (hn:n≤10000000000) (hbits:Qaj (Qbs (Qas (Qac S) L))≤10000000000):
  Calls Tryz.prog 59 #[.agg #[.slice p m cap,.string S],.pointer (some ⟨g,0,none⟩)] w fun e w'=>e= .returned (.tuple #[])∧
   ∃v',OW g (N+2^n*valN (Qbs (Qas (Qac S) L))) (n+Qaj (Qbs (Qas (Qac S) L))) v' w'∧Gg g v w v' w':=by
 have hlen:L.length=m:=by have:=h.len;rwa [List.length_map]at this
 obtain⟨ws,hwsd⟩:∃ws,ws=Qas (Qac S) L:=⟨_,rfl⟩;have hwl:ws.length≤1000000:=by have:=Qkl (Qac S) L;rw [hwsd];omega
 obtain⟨-,m1,m2,m3⟩:=Qcq (cntV ws) 286 15 (fun i _=>by have:=Qcf ws i;omega) (by decide) (.inl ⟨by decide,by decide⟩)
 obtain⟨-,d1,d2,d3⟩:=Qcq (fun i=>cntV ws (286+i)) 30 15 (fun i _=>by have:=Qcf ws (286+i);omega) (by decide) (.inl ⟨by decide,by decide⟩)
 have HCB:Hid (∀i,cntV ws i≤1000000):=Qh fun i=>by have:=Qcf ws i;omega
 obtain⟨A,hA⟩:∃A,A=kLs ws:=⟨_,rfl⟩;obtain⟨B,hB⟩:∃B,B=kLd ws:=⟨_,rfl⟩;obtain⟨nA,hnA⟩:∃nA,nA=kNs ws:=⟨_,rfl⟩;obtain⟨nB,hnB⟩:∃nB,nB=kNd ws:=⟨_,rfl⟩;rw [show Qee (cntV ws) 286 15=A by rw [hA,kLs]]at m1 m2 m3
 rw [show Qee (fun i=>cntV ws (286+i)) 30 15=B by rw [hB,kLd]]at d1 d2 d3
 have hnA2:nA=upN (fun i=>(A i:Int)) 257 286:=by rw [hnA,hA,kNs]
 have hnB2:nB=upN (fun i=>(B i:Int)) 1 30:=by rw [hnB,hB,kNd]
 have hN1:257≤nA:=by rw [hnA2];exact Qkq _ _ _ (by decide)
 have hN2:nA≤286:=by rw [hnA2];exact Qdr _ _ _
 have hD1:1≤nB:=by rw [hnB2];exact Qkq _ _ _ (by decide)
 have hD2:nB≤30:=by rw [hnB2];exact Qdr _ _ _
 have hA15:∀i,i<286→A i≤15:=fun i hi=>(m1 i hi).1;have hB15:∀i,i<30→B i≤15:=fun i hi=>(d1 i hi).1;have HAB:=Qh (⟨hA15,hB15,hN1,hN2,hD1,hD2⟩:(∀i,i<286→A i≤15)∧(∀i,i<30→B i≤15)∧257≤nA∧nA≤286∧1≤nB∧nB≤30);have HMD:=Qh (⟨m1,m3,d1,d3⟩:(∀i,i<286→A i≤15∧(0<A i↔0<cntV ws i))∧newE (fun i=>(A i:Int)) 286=0∧(∀i,i<30→B i≤15∧(0<B i↔0<cntV ws (286+i)))∧newE (fun i=>(B i:Int)) 30=0);have HNE:=Qh (⟨hA,hB,hnA,hnB,hnA2,hnB2,hwsd⟩:A=kLs ws∧B=kLd ws∧nA=kNs ws∧nB=kNd ws∧nA=upN (fun i=>(A i:Int)) 257 286∧nB=upN (fun i=>(B i:Int)) 1 30∧ws=Qas (Qac S) L);have HW:=Qh hws;have HB0:=Qh hbits;have HOK:=Qh hok;have HNN:=Qh (⟨hm,hS,hn,hlen⟩:m≤100000∧S.size≤1000000∧n≤10000000000∧L.length=m);have hb0:=(Below.refl _ w).alloc Ql (.cells #[.slice p m cap,.string S] 70);have hbx:=Blk.new w 70 #[.slice p m cap,.string S];obtain⟨wp,hwp⟩:∃wp,wp=w.alloc (.cells #[.slice p m cap,.string S] 70):=⟨_,rfl⟩;obtain⟨gx,hgx⟩:∃gx,gx=w.heap.size:=⟨_,rfl⟩;rw [←hwp]at hb0 hbx;rw [←hgx]at hbx;have x0:=hbx.cell 0;have x1:=hbx.cell 1;have C1:=Qp4 S p m cap L wp (h.below hb0) hm hS hok;rw [←hwsd]at C1;have HWP:=Qh (⟨hwp,hgx⟩:wp=w.alloc (.cells #[.slice p m cap,.string S] 70)∧gx=w.heap.size);have H0:=Qh (⟨h0,h,hp,hbx,hb0⟩:OW g N n v w∧RS 2 p m cap (L.map encT) w∧(∀a,p=some a→a.block≠g∧v.ownBlock≠some a.block)∧Blk wp gx 70 #[.slice p m cap,.string S]∧Below w.heap.size w wp);clear h0 h hp hm hS hok hws hn hbits hlen hwsd hwl m1 m2 m3 d1 d2 d3 hA hB hnA hnB hnA2 hnB2 hA15 hB15 hwp hgx hbx hb0;go_enter Tryz.func59,Tryz.ntmps59;go_wp2_with fail;rw [←HWP.out.1,←HWP.out.2];go_wp2_with fail;refine C1.mono ?_;rintro e w1 ⟨z1,z2,rfl,k1,k2,b1,hz1,hz2,hzz⟩;have C2:=Qj5 z1 286 (cntV ws) 15 w1 k1 (fun i _=>HCB.out i) (by decide) (.inl rfl)
 have HK2:=Qh (⟨k2,H0.out.2.2.2.2.trans (b1.mono H0.out.2.2.2.2.size),H0.out.2.2.2.1.below b1 H0.out.2.2.2.1.lt⟩:Blk w1 z2 3 (rI 30 fun i=>(cntV ws (286+i):Int))∧Below w.heap.size w w1∧Blk w1 gx 70 #[.slice p m cap,.string S]);clear C1 k1 k2 b1 hz1 hz2 hzz x0 x1;go_wp2_with fail;refine C2.mono ?_;rintro e w2 ⟨gA,rfl,iA,hgA,b2⟩;have HGA:Hid (w.heap.size≤gA):=Qh (Nat.le_trans HK2.out.2.1.size hgA);have C3:=Qj5 z2 30 (fun i=>cntV ws (286+i)) 15 w2 (HK2.out.1.below b2 HK2.out.1.lt) (fun i _=>HCB.out _) (by decide) (.inl rfl)
 have eA:Qee (cntV ws) 286 15=A:=by rw [HNE.out.1,kLs]
 have eB:Qee (fun i=>cntV ws (286+i)) 30 15=B:=by rw [HNE.out.2.1,kLd]
 rw [eA]at iA;rw [eB]at C3;have HK3:=Qh (⟨iA,HK2.out.2.1.trans (b2.mono HK2.out.2.1.size),HK2.out.2.2.below b2 HK2.out.2.2.lt⟩:IS (some ⟨gA,0,none⟩) 286 286 (fun i=>(A i:Int)) w2∧Below w.heap.size w w2∧Blk w2 gx 70 #[.slice p m cap,.string S]);clear C2 iA b2 HK2 eA eB hgA;go_wp2_with fail;refine C3.mono ?_;rintro e w3 ⟨gB,rfl,iB,hgB,b3⟩;have HGB:Hid (w.heap.size≤gB):=Qh (Nat.le_trans HK3.out.2.1.size hgB);have HK4:=Qh (⟨HK3.out.1.below b3,iB,HK3.out.2.1.trans (b3.mono HK3.out.2.1.size),HK3.out.2.2.below b3 HK3.out.2.2.lt⟩:IS (some ⟨gA,0,none⟩) 286 286 (fun i=>(A i:Int)) w3∧IS (some ⟨gB,0,none⟩) 30 30 (fun i=>(B i:Int)) w3∧Below w.heap.size w w3∧Blk w3 gx 70 #[.slice p m cap,.string S]);clear C3 iB b3 HK3 hgB;have C4:=Qj8 (some ⟨gA,0,none⟩) 286 286 (fun i=>(A i:Int)) 257 w3 HK4.out.1 (by decide) (by decide)
 rw [←HNE.out.2.2.2.2.1]at C4;go_wp2_with fail;refine C4.mono ?_;rintro e wu ⟨rfl,rfl⟩;have C5:=Qj8 (some ⟨gB,0,none⟩) 30 30 (fun i=>(B i:Int)) 1 wu HK4.out.2.1 (by decide) (by decide)
 rw [←HNE.out.2.2.2.2.2.1]at C5;clear C4;go_wp2_with fail;refine C5.mono ?_;rintro e w4 ⟨rfl,rfl⟩;clear C5;have HSA:Hid (IS (some ⟨gA,0,none⟩) nA 286 (fun i=>(A i:Int)) w4):=Qh (HK4.out.1.shorter HAB.out.2.2.2.1);have HSB:Hid (IS (some ⟨gB,0,none⟩) nB 30 (fun i=>(B i:Int)) w4):=Qh (HK4.out.2.1.shorter HAB.out.2.2.2.2.2);have HLN0:Hid (LS 3 1 w4.heap.size w4 [] (.slice none 0 0) w4):=Qh (LS.nil Qb Ql);have hla:((Qam (fun i=>(A i:Int)) nA).map encI).length=nA:=by rw [List.length_map,Qaq]
 have hlb:((Qam (fun i=>(B i:Int)) nB).map encI).length=nB:=by rw [List.length_map,Qaq]
 have hEI:∀l:List Int,Each 1 (l.map encI):=fun l x hx=>by
  obtain⟨y,_,rfl⟩:=List.mem_map.1 hx;exact Q0l y _ (.head _)
 have hna:=HAB.out;go_wp2_with (first|(at_builtin;refine Qeo rfl (.const (.slice none 0 0)) (.tmp 43) 92 rfl rfl rfl HLN0.out ⟨gA,0,none⟩ nA 286 ((Qam (fun i=>(A i:Int)) nA).map encI) rfl hla (hEI _) (fun j u hu=>HSA.out.flatI j u hu) (by omega) (by simp;omega) ?_;intro v5 w5 h5 _;have H5:=Qh h5;clear h5)|(at_builtin;refine Qeo rfl (.tmp 44) (.tmp 45) 92 rfl rfl rfl H5.out ⟨gB,0,none⟩ nB 30 ((Qam (fun i=>(B i:Int)) nB).map encI) rfl hlb (hEI _) (fun j u hu=>(HSB.out.below H5.out.b).flatI j u hu) (by omega) (by rw [List.nil_append,hla];omega) ?_;intro v6 w6 h6 _;rw [List.nil_append]at h6;have H6:=Qh h6;clear h6))
 obtain⟨p6,c6,rfl,hR6,-⟩:=H6.out.rs;have hlen6:((Qam (fun i=>(A i:Int)) nA).map encI++(Qam (fun i=>(B i:Int)) nB).map encI).length=nA+nB:=by rw [List.length_append,hla,hlb]
 rw [hlen6]at hR6⊢;have hJ:=Q00 (fun i hi=>hna.1 i (by omega)) (fun i hi=>hna.2.1 i (by omega)) hR6
 obtain⟨W,hW⟩:∃W,W=Qh8 A nA B:=⟨_,rfl⟩;rw [←hW]at hJ;have hW15:∀i,i<nA+nB→W i≤15:=fun i hi=>by
  rw [hW];unfold Qh8;split
  ·exact hna.1 i (by omega)
  ·exact hna.2.1 _ (by omega)
 have C6:=Qvv p6 (nA+nB) c6 _ w6 hJ (by omega)
 obtain⟨tw,htw⟩:∃tw,tw=Qef (fun i=>(W i:Int)) (nA+nB):=⟨_,rfl⟩;have htl:tw.length≤nA+nB:=by rw [htw];exact Qf3 _ _ _ _
 have HIN:Hid (∀x∈tw,∃s:Nat,x.1=(s:Int)∧s<19∧x.2.1≤138∧x.2.2=Qml s∧x.2.1<2^x.2.2):=Qh fun x hx=>by rw [htw]at hx;exact Q1g hW15 hx
 rw [←htw]at C6;have HTW:=Qh (⟨by rw [htw,hW];rfl,by omega⟩:tw=Qiv A nA B nB∧tw.length≤316)
 have HB6:Hid (Below w.heap.size w w6∧IS (some ⟨gA,0,none⟩) nA 286 (fun i=>(A i:Int)) w6∧IS (some ⟨gB,0,none⟩) nB 30 (fun i=>(B i:Int)) w6∧Blk w6 gx 70 #[.slice p m cap,.string S]):=Qh ⟨HK4.out.2.2.1.trans (H6.out.b.mono HK4.out.2.2.1.size),HSA.out.below H6.out.b,HSB.out.below H6.out.b,HK4.out.2.2.2.below H6.out.b HK4.out.2.2.2.lt⟩;obtain⟨M,hM⟩:∃M,M=tw.length:=⟨_,rfl⟩;have HM:=Qh hM;have hM316:M≤316:=by omega
 clear hW hJ hW15 htw htl hR6 hlen6 hla hlb hEI hna H5 H6 HLN0 HK4 HSA HSB hM;go_wp2_with fail;refine C6.mono ?_;rintro e w7 ⟨v7,v8,rfl,h7,h8⟩;obtain⟨p7,c7,rfl,r7,hp7⟩:=h7.rs;obtain⟨p8,c8,rfl,r8,hp8⟩:=h8.rs;have HP78:Hid ((∀a,p7=some a→w.heap.size≤a.block)∧∀a,p8=some a→w.heap.size≤a.block):=Qh ⟨fun a e=>Nat.le_trans HB6.out.1.size (hp7 a e),fun a e=>Nat.le_trans HB6.out.1.size (hp8 a e)⟩;rw [show (runA tw).length=M by unfold runA;rw [List.length_map,HM.out]]at r7⊢
 rw [show (runB tw).length=M by unfold runB;rw [List.length_map,HM.out]]at r8⊢
 have hmk:∀w,(Instr.makeSlice 92 (.int .i64 19) (.int .i64 19)).run Tryz.prog w= .ok (.slice (some ⟨w.heap.size,0,none⟩) 19 19) (w.alloc (.cells (rI 19 fun _=>0) 3)):=fun w=>Qdo 19 (by decide) w
 have hmk1:=hmk w7;obtain⟨w8,hw8⟩:∃w8,w8=w7.alloc (.cells (rI 19 fun _=>0) 3):=⟨_,rfl⟩;obtain⟨zM,hzM⟩:∃zM,zM=w7.heap.size:=⟨_,rfl⟩;have b8:Below w7.heap.size w7 w8:=by rw [hw8];exact Qb.alloc Ql _
 have k8:Blk w8 zM 3 (rI 19 fun i=>(cntV (tw.take 0) i:Int)):=by rw [hw8,hzM];exact Blk.new w7 _ _
 rw [←hw8,←hzM]at hmk1;have HB7:Hid (Below w.heap.size w w7∧IS (some ⟨gA,0,none⟩) nA 286 (fun i=>(A i:Int)) w7∧IS (some ⟨gB,0,none⟩) nB 30 (fun i=>(B i:Int)) w7∧Blk w7 gx 70 #[.slice p m cap,.string S]∧RS 1 p7 M c7 (runA tw) w7∧RS 1 p8 M c8 (runB tw) w7):=Qh ⟨HB6.out.1.trans (h7.b.mono HB6.out.1.size),HB6.out.2.1.below h7.b,HB6.out.2.2.1.below h7.b,HB6.out.2.2.2.below h7.b HB6.out.2.2.2.lt,r7,r8⟩;have H8:Hid (Blk w8 zM 3 (rI 19 fun i=>(cntV (tw.take 0) i:Int))∧Below w7.heap.size w7 w8):=Qh ⟨k8,b8⟩;have HZM:=Qh hzM;clear C6 h7 h8 r7 r8 hp7 hp8 hmk hw8 hzM b8 k8 HB6;go_wp2_with fail;clear hmk1;go_loopw [13] (fun u wr=>∃k:Nat,u= .int .i64 (k:Int)∧k≤M∧Hid (Blk wr zM 3 (rI 19 fun i=>(cntV (tw.take k) i:Int))∧Below w7.heap.size w7 wr)) (fun u _=>M-(intOf u).toNat)
 case atStart=>exact⟨0,rfl,Nat.zero_le _,H8⟩
 case round=>
  obtain⟨k,rfl,hk,HR⟩:=hrel;clear H8;by_cases hlt:k<M
  ·have hlti:(k:Int)<(M:Int):=by omega
   have hkw:IntKind.i64.wrap ((k:Int)+1)=((k+1:Nat):Int):=by rw [IntWalk.i64_in _ (by omega)];rfl
   obtain⟨a7,rfl⟩:=HB7.out.2.2.2.2.1.some_ (by omega)
   have hkl:k<tw.length:=by rw [←HM.out];exact hlt
   obtain⟨s,hs1,hs2,hs3,hs4⟩:=HIN.out _ (List.getElem_mem hkl);have c0:=Qqa (HB7.out.2.2.2.2.1.below HR.out.2) hkl;rw [hs1]at c0;obtain⟨C,hC⟩:∃C,C=cntV (tw.take k) s:=⟨_,rfl⟩;have hCb:C≤316:=by rw [hC];have h1:=Qcf (tw.take k) s;rw [List.length_take]at h1;omega
   obtain⟨C1,hC1⟩:∃C1,C1=C+1:=⟨_,rfl⟩;have hCw:IntKind.i64.wrap ((C:Int)+1)=(C1:Int):=by rw [IntWalk.i64_in _ (by omega)];omega
   have hsi:(s:Int)<19:=by omega
   have d1:wr.cell? ⟨zM,s,none⟩=some (.int .i64 (C:Int)):=by rw [HR.out.1.at_ hs2,hC]
   have d2:wr.frozen? ⟨zM,s,none⟩=false:=HR.out.1.frozen _;have HF:Hid (Blk (wr.setCell ⟨zM,s,none⟩ (.int .i64 (C1:Int))) zM 3 (rI 19 fun i=>(cntV (tw.take (k+1)) i:Int))∧Below w7.heap.size w7 (wr.setCell ⟨zM,s,none⟩ (.int .i64 (C1:Int)))):=Qh ⟨Qf0 HR.out.1 hs2 (by rw [hC1,hC]) (fun j _=>by
    rw [List.take_succ_eq_append_getElem hkl];have e:tw[k]=((s:Int),(tw[k]).2):=by rw [←hs1]
    rw [e];exact Qd0 _ s _ j),HR.out.2.setCell (p:=⟨zM,s,none⟩) (by rw [HZM.out];exact Ql) _⟩
   have HKN:=Qh hlt;clear hkl hs1 hs3 hs4 hC hC1 hCb hlt HR;go_wp2_with fail;exact⟨⟨k+1,by go_num,by have:=HKN.out;omega,HF⟩,by simp only [intOf];have:=HKN.out;omega⟩
  ·obtain rfl:M=k:=by omega
   have hlti:¬(M:Int)<(M:Int):=by omega
   have hE:tw.take M=tw:=List.take_of_length_le (by rw [HM.out];exact Ql)
   have h9:=HR.out;rw [hE]at h9;have C7:=Qj5 zM 19 (cntV tw) 7 wr h9.1 (fun i _=>by have:=Qcf tw i;have:=HM.out;omega) (by decide) (.inr ⟨rfl,by decide⟩)
   obtain⟨TL,hTL⟩:∃TL,TL=Qos A nA B nB:=⟨_,rfl⟩;have eT:Qee (cntV tw) 19 7=TL:=by rw [hTL,HTW.out.1];rfl
   rw [eT]at C7;obtain⟨-,t1,t2,t3⟩:=Qcq (cntV tw) 19 7 (fun i _=>by have:=Qcf tw i;have:=HM.out;omega) (by decide) (.inr ⟨rfl,by decide⟩)
   rw [eT]at t1 t2;have HTL:=Qh (⟨hTL,t1,t2⟩:TL=Qos A nA B nB∧(∀i,i<19→TL i≤7∧(0<TL i↔0<cntV tw i))∧Qba (fun i=>(TL i:Int)) 19=0);have HB9:Hid (Below w.heap.size w wr∧IS (some ⟨gA,0,none⟩) nA 286 (fun i=>(A i:Int)) wr∧IS (some ⟨gB,0,none⟩) nB 30 (fun i=>(B i:Int)) wr∧Blk wr gx 70 #[.slice p m cap,.string S]∧RS 1 p7 M c7 (runA tw) wr∧RS 1 p8 M c8 (runB tw) wr):=Qh ⟨HB7.out.1.trans (h9.2.mono HB7.out.1.size),HB7.out.2.1.below h9.2,HB7.out.2.2.1.below h9.2,HB7.out.2.2.2.1.below h9.2 HB7.out.2.2.2.1.lt,HB7.out.2.2.2.2.1.below h9.2,HB7.out.2.2.2.2.2.below h9.2⟩;clear hE h9 hTL eT t1 t2 t3 HR HB7 hk;go_wp2_with fail;refine C7.mono ?_;rintro e w10 ⟨gL,rfl,iL,hgL,b10⟩;have HGL:Hid (w.heap.size≤gL):=Qh (Nat.le_trans HB9.out.1.size hgL);obtain⟨⟨okT,_⟩,krT⟩:=Qby HTL.out.2.2;have C8:=Qde (some ⟨gL,0,none⟩) 19 19 (fun i=>(TL i:Int)) w10 iL (by decide) okT krT
   have hTT:toL (fun i=>(TL i:Int))=TL:=funext fun i=>by unfold toL;exact Int.toNat_natCast _
   rw [hTT]at C8;have HIL:=Qh (⟨iL,b10⟩:IS (some ⟨gL,0,none⟩) 19 19 (fun i=>(TL i:Int)) w10∧Below wr.heap.size wr w10);have HGC:Hid (w.heap.size≤w10.heap.size):=Qh (Nat.le_trans HB9.out.1.size b10.size);clear C7 iL b10 okT krT hTT hgL;go_wp2_with fail;refine C8.mono ?_;rintro e w11 ⟨rfl,iC,b11⟩;obtain⟨aC,haC⟩:∃aC:Addr,aC=⟨w10.heap.size,0,none⟩:=⟨_,rfl⟩;have HGC2:Hid (w.heap.size≤aC.block):=Qh (by rw [haC];exact HGC.out)
   have C9:=Qiu w11;have HAC:=Qh haC;rw [←haC]at iC;have HIC:=Qh (⟨iC,HIL.out.1.below b11,HIL.out.2.trans (b11.mono HIL.out.2.size)⟩:IS (some aC) 19 19 (fun i=>(Qa0 TL 19 i:Int)) w11∧IS (some ⟨gL,0,none⟩) 19 19 (fun i=>(TL i:Int)) w11∧Below wr.heap.size wr w11);clear C8 iC b11 haC HIL;go_wp2_with fail;refine C9.mono ?_;rintro e w12 ⟨rfl,iO,b12⟩;obtain⟨aO,haO⟩:∃aO:Addr,aO=⟨w11.heap.size,0,none⟩:=⟨_,rfl⟩;have HAO:=Qh haO;rw [←haO]at iO;have HIO:=Qh (⟨iO,HIC.out.1.below b12,HIC.out.2.1.below b12,HIC.out.2.2.trans (b12.mono HIC.out.2.2.size)⟩:IS (some aO) 19 19 (fun i=>((ordL.getD i 0:Nat):Int)) w12∧IS (some aC) 19 19 (fun i=>(Qa0 TL 19 i:Int)) w12∧IS (some ⟨gL,0,none⟩) 19 19 (fun i=>(TL i:Int)) w12∧Below wr.heap.size wr w12);clear C9 iO b12 haO HIC;go_wp2_with fail;rw [←HAC.out,←HAO.out];clear HAC HAO;have HB12:Hid (Below w.heap.size w w12∧IS (some ⟨gA,0,none⟩) nA 286 (fun i=>(A i:Int)) w12∧IS (some ⟨gB,0,none⟩) nB 30 (fun i=>(B i:Int)) w12∧Blk w12 gx 70 #[.slice p m cap,.string S]∧RS 1 p7 M c7 (runA tw) w12∧RS 1 p8 M c8 (runB tw) w12):=Qh ⟨HB9.out.1.trans (HIO.out.2.2.2.mono HB9.out.1.size),HB9.out.2.1.below HIO.out.2.2.2,HB9.out.2.2.1.below HIO.out.2.2.2,HB9.out.2.2.2.1.below HIO.out.2.2.2 HB9.out.2.2.2.1.lt,HB9.out.2.2.2.2.1.below HIO.out.2.2.2,HB9.out.2.2.2.2.2.below HIO.out.2.2.2⟩;have HI12:Hid (IS (some aO) 19 19 (fun i=>((ordL.getD i 0:Nat):Int)) w12∧IS (some aC) 19 19 (fun i=>(Qa0 TL 19 i:Int)) w12∧IS (some ⟨gL,0,none⟩) 19 19 (fun i=>(TL i:Int)) w12):=Qh ⟨HIO.out.1,HIO.out.2.1,HIO.out.2.2.1⟩;have HL0:Hid (LS 3 1 w12.heap.size w12 ((Qam (fun i=>(tOrd TL i:Int)) 0).map encI) (.slice none 0 0) w12):=Qh (LS.nil Qb Ql);clear HB9 HIO;go_loopw [19,20] (fun u19 u20 wr=>∃(i:Nat) (v9:Value),v9=u19∧u20= .int .i64 (i:Int)∧i≤19∧Hid (LS 3 1 w12.heap.size w12 ((Qam (fun i=>(tOrd TL i:Int)) i).map encI) v9 wr)) (fun _ u _=>19-(intOf u).toNat)
   case atStart=>exact⟨0,_,rfl,rfl,Nat.zero_le _,HL0⟩
   case round=>
    obtain⟨i,v9,rfl,rfl,hi,HL⟩:=hrel;clear HL0;by_cases hlt:i<19
    ·have hlti:(i:Int)<19:=by omega
     have hiw:IntKind.i64.wrap ((i:Int)+1)=((i+1:Nat):Int):=by rw [IntWalk.i64_in _ (by omega)];rfl
     obtain⟨o,ho⟩:∃o,o=ordL.getD i 0:=⟨_,rfl⟩;have ho19:o<19:=by rw [ho];exact Qj1 i
     have hoi:(o:Int)<19:=by omega
     have c0:=(HI12.out.1.below HL.out.b).cell aO rfl i hlt;rw [←ho]at c0;have c1:=(HI12.out.2.2.below HL.out.b).cell ⟨gL,0,none⟩ rfl o ho19;rw [Qay,Nat.zero_add]at c1;have HST:Hid ((Qam (fun i=>(tOrd TL i:Int)) (i+1)).map encI=(Qam (fun i=>(tOrd TL i:Int)) i).map encI++[encI (TL o:Int)]):=Qh (by
      rw [Qhb,List.map_append,ho];rfl)
     have HLN:Hid (((Qam (fun i=>(tOrd TL i:Int)) i).map encI).length≤999999999999):=Qh (by rw [List.length_map,Qaq];omega)
     have HKN:=Qh hlt;clear ho hlt;go_wp2_with (at_builtin;refine Qax rfl (.tmp 81) (.tmp 89) 92 rfl rfl rfl HL.out (TL o:Int) rfl HLN.out ?_;intro v10 w20 h10 _;have H10:Hid (LS 3 1 w12.heap.size w12 ((Qam (fun i=>(tOrd TL i:Int)) (i+1)).map encI) v10 w20):=Qh (by rw [HST.out];exact h10);clear h10)
     exact⟨⟨i+1,_,rfl,by go_num,by have:=HKN.out;omega,H10⟩,by simp only [intOf];have:=HKN.out;omega⟩
    ·obtain rfl:19=i:=by omega
     have hlti:¬(19:Int)<19:=by decide
     have hTL7:∀i,i<19→tOrd TL i≤7:=fun i hi=>by unfold tOrd;exact(HTL.out.2.1 _ (Qj1 i)).1
     obtain⟨pT,cT,rfl,hRT,hBT⟩:=HL.out.rs;rw [show ((Qam (fun i=>(tOrd TL i:Int)) 19).map encI).length=19 by rw [List.length_map,Qaq]]at hRT⊢
     obtain⟨aT,rfl⟩:=hRT.some_ (by decide)
     have hIT:IS (some aT) 19 cT (fun i=>(tOrd TL i:Int)) wr:=by
      have hg:∀i,i<19→(Qam (fun i=>(tOrd TL i:Int)) 19).getD i 0=(tOrd TL i:Int):=fun i hi=>by
       unfold Qam;rw [List.getD_eq_getElem?_getD,List.getElem?_map,List.getElem?_range hi];rfl
      have h:=RS.is1 hRT (fun i hi=>by rw [hg i hi];omega) (fun i hi=>by rw [hg i hi];have:=hTL7 i hi;omega)
      exact⟨h.nil_,fun a ha i hi=>by rw [h.cell a ha i hi,hg i hi],h.lt,fun i _=>by omega,fun i hi=>by have:=hTL7 i hi;omega⟩
     obtain⟨kT,hkT⟩:∃kT,kT=Qi0 TL:=⟨_,rfl⟩;have hk4:4≤kT:=by rw [hkT];exact Qkq _ _ _ (by decide)
     have hk19:kT≤19:=by rw [hkT];exact Qdr _ _ _
     have C10:=Qj8 (some aT) 19 cT (fun i=>(tOrd TL i:Int)) 4 wr hIT hRT.le (by decide)
     rw [show upN (fun i=>(tOrd TL i:Int)) 4 19=kT by rw [hkT];rfl]at C10
     have hbt:=HL.out.b;have HT7:=Qh (⟨hTL7,hkT,hk4,hk19⟩:(∀i,i<19→tOrd TL i≤7)∧kT=Qi0 TL∧4≤kT∧kT≤19);have hbw:=HB12.out.1.trans (hbt.mono HB12.out.1.size);have HKA:Hid (∀v' wx,Gg g v wr v' wx→RS 2 p m cap (L.map encT) wx∧IS (some ⟨gA,0,none⟩) nA 286 (fun i=>(A i:Int)) wx∧IS (some ⟨gB,0,none⟩) nB 30 (fun i=>(B i:Int)) wx∧Blk wx gx 70 #[.slice p m cap,.string S]∧RS 1 p7 M c7 (runA tw) wx∧RS 1 p8 M c8 (runB tw) wx∧IS (some aC) 19 19 (fun i=>(Qa0 TL 19 i:Int)) wx∧IS (some ⟨gL,0,none⟩) 19 19 (fun i=>(TL i:Int)) wx∧IS (some aT) kT cT (fun i=>(tOrd TL i:Int)) wx):=Qh fun v' wx hg=>by
      have hgl:g<w.heap.size:=H0.out.1.blk.lt;have hvl:∀i,v.ownBlock=some i→i<w.heap.size:=fun i e=>(H0.out.1.ownB i e).2;have fr:∀q,w.heap.size≤q→q≠g∧v.ownBlock≠some q:=fun q hq=>⟨by omega,fun e=>by have:=hvl _ e;omega⟩
      have hgx0:w.heap.size≤gx:=by rw [HWP.out.2];exact Ql
      have hw12:=HB12.out.1.size;refine⟨(H0.out.2.1.below hbw).gg hg H0.out.2.2.1,(HB12.out.2.1.below hbt).gg hg (fun a e=>by cases e;exact fr _ HGA.out),(HB12.out.2.2.1.below hbt).gg hg (fun a e=>by cases e;exact fr _ HGB.out),(HB12.out.2.2.2.1.below hbt HB12.out.2.2.2.1.lt).gg hg (fr _ hgx0),(HB12.out.2.2.2.2.1.below hbt).gg hg (fun a e=>fr _ (HP78.out.1 a e)),(HB12.out.2.2.2.2.2.below hbt).gg hg (fun a e=>fr _ (HP78.out.2 a e)),(HI12.out.2.1.below hbt).gg hg (fun a e=>by cases e;exact fr _ HGC2.out),(HI12.out.2.2.below hbt).gg hg (fun a e=>by cases e;exact fr _ HGL.out),(hIT.shorter hk19).gg hg (fun a e=>by cases e;exact fr _ (Nat.le_trans hw12 (hBT aT rfl)))⟩
     have HO0:Hid (OW g N n v wr):=Qh (H0.out.1.below hbw);have HFR:Hid (∀q,(w.heap.size≤q∨∃a,p=some a∧q=a.block)→q≠g∧v.ownBlock≠some q):=Qh fun q hq=>by
      have hgl:g<w.heap.size:=H0.out.1.blk.lt;rcases hq with hq|⟨a,e,rfl⟩
      ·exact⟨by omega,fun e=>by have:=(H0.out.1.ownB _ e).2;omega⟩
      ·exact H0.out.2.2.1 a e
     have HGW:Hid (Gg g v w v wr):=Qh (Gg.of hbw);have hna:=HAB.out;have hwa:IntKind.i64.wrap ((nA:Int)-257)=((nA-257:Nat):Int):=by rw [IntWalk.i64_in _ (by omega)];omega
     have hwb:IntKind.i64.wrap ((nB:Int)-1)=((nB-1:Nat):Int):=by rw [IntWalk.i64_in _ (by omega)];omega
     have hwk:IntKind.i64.wrap ((kT:Int)-4)=((kT-4:Nat):Int):=by rw [IntWalk.i64_in _ (by omega)];omega
     obtain⟨EA,hEA⟩:∃EA,EA=nA-257:=⟨_,rfl⟩;obtain⟨EB,hEB⟩:∃EB,EB=nB-1:=⟨_,rfl⟩;obtain⟨EK,hEK⟩:∃EK,EK=kT-4:=⟨_,rfl⟩;rw [←hEA]at hwa;rw [←hEB]at hwb;rw [←hEK]at hwk;have HEE:=Qh (⟨hEA,hEB,hEK,by omega,by omega,by omega⟩:EA=nA-257∧EB=nB-1∧EK=kT-4∧EA<32∧EB<32∧EK<16)
     have hnn:=HNN.out.2.2.1;have CN1:=Qbd g N n v EA 5 wr HO0.out (by have:=HEE.out;omega) (by decide) (by omega)
     clear hEA hEB hEK hna hRT hIT hBT hbt hbw hkT hk4 hk19 hTL7 HL HI12 HB12 H0;go_wp2_with fail;refine C10.mono ?_;rintro e w21 ⟨rfl,rfl⟩;clear C10;go_wp2_with fail;refine CN1.mono ?_;rintro e w22 ⟨rfl,v2,o2,g2⟩;have q1:=Qb4 (N:=N) (n:=n) (l:=[]) (NA:=N) (nA:=n) (by show N=N+2^n*0;rw [Nat.mul_zero,Nat.add_zero]) (by show n=n+0;omega) EA 5
     rw [Nat.mod_eq_of_lt (show EA<2^5 from HEE.out.2.2.2.1)]at o2;have CN2:=Qbd g _ (n+5) v2 EB 5 w22 o2 (by have:=HEE.out;omega) (by decide) (by omega)
     have q2:=Qb4 q1.1 q1.2 EB 5;rw [Nat.mod_eq_of_lt (show EB<2^5 from HEE.out.2.2.2.2.1)]at CN2;have HG2:=Qh g2;clear CN1 o2 g2;go_wp2_with fail;refine CN2.mono ?_;rintro e w23 ⟨rfl,v3,o3,g3⟩;have CN3:=Qbd g _ (n+5+5) v3 EK 4 w23 o3 (by have:=HEE.out;omega) (by decide) (by omega)
     have q3:=Qb4 q2.1 q2.2 EK 4;rw [Nat.mod_eq_of_lt (show EK<2^4 from HEE.out.2.2.2.2.2)]at CN3;have HG3:=Qh (HG2.out.trans g3);clear CN2 o3 g3 HG2;go_wp2_with fail;refine CN3.mono ?_;rintro e w24 ⟨rfl,v4,o4,g4⟩;have e0:[]++[(EA,5)]++[(EB,5)]++[(EK,4)]=Qb9 TL nA nB 0:=by rw [HEE.out.1,HEE.out.2.1,HEE.out.2.2.1,HT7.out.2.1];rfl
     rw [q3.1,q3.2,e0]at o4;have HO4:Hid (OW g (N+2^n*valN (Qb9 TL nA nB 0)) (n+Qaj (Qb9 TL nA nB 0)) v4 w24):=Qh o4;have HG4:=Qh (HG3.out.trans g4);have HTB:Hid (∀j,j≤19→Qaj (Qb9 TL nA nB j)≤71):=Qh fun j hj=>by
      show 5+(5+(4+Qaj ((List.range j).map fun i=>(tOrd TL i,3))))≤_
      rw [Qex];omega
     clear CN3 o4 g4 HG3 q1 q2 q3 e0 hwa hwb hwk;go_wp2_with fail;obtain⟨w13,hw13⟩:∃w13,w13=w21:=⟨_,rfl⟩;rw [←hw13]at HKA HG4 HGW;clear hw13 HO0;go_loopw [21] (fun u wy=>∃(j:Nat) (v5:Value),u= .int .i64 (j:Int)∧j≤kT∧Hid (OW g (N+2^n*valN (Qb9 TL nA nB j)) (n+Qaj (Qb9 TL nA nB j)) v5 wy)∧Hid (Gg g v w13 v5 wy)) (fun u _=>kT-(intOf u).toNat)
     case atStart=>exact⟨0,_,rfl,Nat.zero_le _,HO4,HG4⟩
     case round=>
      obtain⟨j,v5,rfl,hj,HO,HG⟩:=hrel;clear HO4 HG4;by_cases hjt:j<kT
      ·have hjti:(j:Int)<(kT:Int):=by omega
       have h7:=HT7.out;have hjw:IntKind.i64.wrap ((j:Int)+1)=((j+1:Nat):Int):=by rw [IntWalk.i64_in _ (by omega)];rfl
       obtain⟨E,hE⟩:∃E,E=tOrd TL j:=⟨_,rfl⟩;have hE7:E≤7:=by rw [hE];exact h7.1 j (by omega)
       have c0:=(HKA.out v5 wr HG.out).2.2.2.2.2.2.2.2.cell aT rfl j hjt;rw [←hE]at c0;have hbt:=HTB.out j (by omega)
       have CN:=Qbd g _ (n+Qaj (Qb9 TL nA nB j)) v5 E 3 wr HO.out (by omega) (by decide) (by omega)
       have q1:=Qb4 (N:=N) (n:=n) (l:=Qb9 TL nA nB j) rfl rfl E 3;have e1:Qb9 TL nA nB j++[(E,3)]=Qb9 TL nA nB (j+1):=by
        unfold Qb9;rw [List.range_succ,List.map_append,hE,List.append_assoc];rfl
       rw [Nat.mod_eq_of_lt (show E<2^3 by omega),q1.1,q1.2,e1]at CN
       have HKN:=Qh hjt;clear hE hE7 hbt q1 e1 h7 hjt HO;go_wp2_with fail;refine CN.mono ?_;rintro e w5 ⟨rfl,v6,o6,g6⟩;have HO6:=Qh o6;have HG6:=Qh (HG.out.trans g6);clear CN o6 g6;go_wp2_with fail;exact⟨⟨j+1,v6,by go_num,by have:=HKN.out;omega,HO6,HG6⟩,by simp only [intOf];have:=HKN.out;omega⟩
      ·obtain rfl:kT=j:=by omega
       have hjti:¬(kT:Int)<(kT:Int):=by omega
       have HOB:Hid (OW g (N+2^n*valN (Qb9 TL nA nB kT++Qaw (cdL TL 19) (tw.take 0))) (n+Qaj (Qb9 TL nA nB kT++Qaw (cdL TL 19) (tw.take 0))) v5 wr):=Qh (by
        have:Qaw (cdL TL 19) (tw.take 0)=[]:=rfl;rw [this,List.append_nil];exact HO.out)
       have HTE:Hid (Qfj A nA B nB=Qb9 TL nA nB kT++Qaw (cdL TL 19) tw):=Qh (by rw [HT7.out.2.1,HTL.out.1,HTW.out.1];rfl)
       have HLE:Hid (∀k,Qaj (Qb9 TL nA nB kT++Qaw (cdL TL 19) (tw.take k))≤10000000000):=Qh fun k=>by
        have h1:=HB0.out;have h2:Qbs (Qas (Qac S) L)=Qfj A nA B nB++Qaw (txL A 286 B 30) ws:=by rw [HNE.out.1,HNE.out.2.1,HNE.out.2.2.1,HNE.out.2.2.2.1,HNE.out.2.2.2.2.2.2];rfl
        have h3:Qaw (cdL TL 19) tw=Qaw (cdL TL 19) (tw.take k)++Qaw (cdL TL 19) (tw.drop k):=by rw [←Qea,List.take_append_drop]
        rw [h2,Qa6,HTE.out,Qa6,h3,Qa6]at h1;rw [Qa6];omega
       clear HO;go_wp2_with fail;go_loopw [22] (fun u wy=>∃(k:Nat) (v5:Value),u= .int .i64 (k:Int)∧k≤M∧Hid (OW g (N+2^n*valN (Qb9 TL nA nB kT++Qaw (cdL TL 19) (tw.take k))) (n+Qaj (Qb9 TL nA nB kT++Qaw (cdL TL 19) (tw.take k))) v5 wy)∧Hid (Gg g v w13 v5 wy)) (fun u _=>M-(intOf u).toNat)
       case atStart=>exact⟨0,_,rfl,Nat.zero_le _,HOB,HG⟩
       case round=>
        clear HOB HG;obtain⟨k,v1,rfl,hk,HO,HG⟩:=hrel;by_cases hlt:k<M
        ·have hlti:(k:Int)<(M:Int):=by omega
         have hkw:IntKind.i64.wrap ((k:Int)+1)=((k+1:Nat):Int):=by rw [IntWalk.i64_in _ (by omega)];rfl
         have hka:=HKA.out v1 wr HG.out;obtain⟨a7,rfl⟩:=hka.2.2.2.2.1.some_ (by omega)
         obtain⟨a8,rfl⟩:=hka.2.2.2.2.2.1.some_ (by omega)
         have hkl:k<tw.length:=by rw [←HM.out];exact hlt
         obtain⟨s,hs1,hs2,hs3,hs4,hs5⟩:=HIN.out _ (List.getElem_mem hkl);obtain⟨E,hE⟩:∃E,E=(tw[k]'hkl).2.1:=⟨_,rfl⟩;obtain⟨K2,hK2⟩:∃K2,K2=Qml s:=⟨_,rfl⟩;obtain⟨X,hX⟩:∃X,X=Qa0 TL 19 s:=⟨_,rfl⟩;obtain⟨K,hK⟩:∃K,K=TL s:=⟨_,rfl⟩;obtain⟨⟨okT,_⟩,krT⟩:=Qby HTL.out.2.2;have hTT:toL (fun i=>(TL i:Int))=TL:=funext fun i=>by unfold toL;exact Int.toNat_natCast _
         rw [hTT]at krT;have hXl:X≤32768:=by rw [hX];exact Nat.le_of_lt (Qi6 (fun i hi=>by have:=(HTL.out.2.1 i hi).1;omega) krT s hs2)
         have hKl:K≤7:=by rw [hK];exact(HTL.out.2.1 s hs2).1
         have hK2l:K2≤7:=by rw [hK2];unfold Qml;split;omega;split;omega;split<;>omega
         have hsi:(s:Int)<19:=by omega
         obtain⟨NA,hNA⟩:∃NA,NA=N+2^n*valN (Qb9 TL nA nB kT++Qaw (cdL TL 19) (tw.take k)):=⟨_,rfl⟩;obtain⟨mA,hmA⟩:∃mA,mA=n+Qaj (Qb9 TL nA nB kT++Qaw (cdL TL 19) (tw.take k)):=⟨_,rfl⟩;have hmb:mA≤20000000000:=by have:=HLE.out k;rw [hmA];omega
         rw [←hNA,←hmA]at HO;obtain⟨N1,hN1⟩:∃N1,N1=NA+2^mA*revN K X:=⟨_,rfl⟩;obtain⟨n1,hn1⟩:∃n1,n1=mA+K:=⟨_,rfl⟩;have HFIN:Hid (N1+2^n1*(E%2^K2)=N+2^n*valN (Qb9 TL nA nB kT++Qaw (cdL TL 19) (tw.take (k+1)))∧n1+K2=n+Qaj (Qb9 TL nA nB kT++Qaw (cdL TL 19) (tw.take (k+1)))):=Qh (by
          have q1:=Qb4 hNA hmA (revN K X) K;rw [←hN1,←hn1]at q1;have q2:=Qb4 q1.1 q1.2 E K2;have e1:Qaw (cdL TL 19) (tw.take (k+1))=Qaw (cdL TL 19) (tw.take k)++[(revN K X,K),(E,K2)]:=by
           rw [List.take_succ_eq_append_getElem hkl,Qea];show _++[(cdL TL 19).getD (Int.toNat (tw[k]).1) (0,0),(tw[k]).2]=_;have e2:(tw[k]).2=(E,K2):=by rw [hE,hK2,←hs4]
           rw [e2,hs1,Int.toNat_natCast,List.getD_eq_getElem?_getD,Qqy hs2,hX,hK];rfl
          rw [e1,Nat.mod_eq_of_lt (show E<2^K2 by rw [hE,hK2,←hs4];exact hs5)]
          have e3:Qb9 TL nA nB kT++(Qaw (cdL TL 19) (tw.take k)++[(revN K X,K),(E,K2)])=Qb9 TL nA nB kT++Qaw (cdL TL 19) (tw.take k)++[(revN K X,K)]++[(E,K2)]:=by simp only [List.append_assoc];rfl
          rw [e3];exact q2)
         have HT0:Hid (∀wx,CT g v1 wr N1 n1 false wx→wx.cell? (a7.add k)=some (.int .i64 (s:Int))∧wx.cell? (aC.add s)=some (.int .i64 (X:Int))∧wx.cell? ⟨gL,s,none⟩=some (.int .i64 (K:Int))∧Calls Tryz.prog 95 #[.pointer (some ⟨g,0,none⟩),.int .i64 (X:Int),.int .i64 (K:Int)] wx fun e w'=>e= .returned (.tuple #[])∧CT g v1 wr N1 n1 true w'):=Qh fun wx hT=>by
          rw [hN1,hn1]at hT⊢;obtain⟨e,hc⟩:=CT.code HO.out X K (by omega) (by omega) (by omega) hT
          refine⟨?_,?_,?_,hc⟩
          ·rw [e];have:=Qqa hka.2.2.2.2.1 hkl;rw [hs1]at this;exact this
          ·rw [e];have:=hka.2.2.2.2.2.2.1.cell aC rfl s hs2;rw [←hX]at this;exact this
          ·rw [e];have:=hka.2.2.2.2.2.2.2.1.cell ⟨gL,0,none⟩ rfl s hs2;rw [←hK,Qay,Nat.zero_add]at this;exact this
         have HT2:Hid (∀v2 w2,OW g N1 n1 v2 w2→Gg g v w13 v2 w2→∀wx,CT g v2 w2 (N1+2^n1*(E%2^K2)) (n1+K2) false wx→wx.cell? (a8.add k)=some (.int .i64 (E:Int))∧wx.cell? (a7.add k)=some (.int .i64 (s:Int))∧Calls Tryz.prog 62 #[.pointer (some ⟨g,0,none⟩),.int .i64 (E:Int),.int .i64 (K2:Int)] wx fun e w'=>e= .returned (.tuple #[])∧CT g v2 w2 (N1+2^n1*(E%2^K2)) (n1+K2) true w'):=Qh fun v2 w2 ho hg wx hT=>by
          have hk2:=HKA.out v2 w2 hg;obtain⟨e,hc⟩:=CT.number ho E K2 (by rw [hE];omega) (by omega) (by omega) hT
          refine⟨?_,?_,hc⟩
          ·rw [e,hE];exact Q1e hk2.2.2.2.2.2.1 hkl
          ·rw [e];have:=Qqa hk2.2.2.2.2.1 hkl;rw [hs1]at this;exact this
         have HMO:Hid (∀wx,Calls Tryz.prog 96 #[.int .i64 (s:Int)] wx fun e w'=>e= .returned (.int .i64 (K2:Int))∧w'=wx):=Qh fun wx=>by rw [hK2];exact Qvz s wx
         have HKN:=Qh hlt;clear hka hkl hs1 hs2 hs3 hs4 hs5 hE hK2 hX hK okT krT hTT hXl hKl hK2l hNA hmA hmb hN1 hn1 HO hlt;go_wp2_with fail;refine Qad (Two 15 1001 fun b _ wx=>CT g v1 wr N1 n1 b wx) (by kernel_rfl) (CT.start _ _ _ _ _) ?_
         refine tA (i:=0) rfl rfl ?_;simp only [pu];refine tA (i:=1) rfl rfl ?_;simp only [pu];refine tA (i:=2) rfl rfl ?_;simp only [pu];refine tA (i:=3) rfl rfl ?_;simp only [pu];refine tV (i:=4) (v:= .pointer (some (a7.add k))) rfl rfl ?_;simp only [pu];refine Qaa (i:=5) (v:= .int .i64 (s:Int)) rfl (Qah (n:=9) rfl (fun f2 wx hT=> ?_)) ?_
         ·have cc:=(HT0.out wx hT).1;refine Qab (w:=wx) ?_ hT;go_simp;skip
         simp only [pu];refine tV (i:=6) (v:= .pointer (some (aC.add s))) rfl rfl ?_;simp only [pu];refine Qaa (i:=7) (v:= .int .i64 (X:Int)) rfl (Qah (n:=9) rfl (fun f2 wx hT=> ?_)) ?_
         ·have cc:=(HT0.out wx hT).2.1;refine Qab (w:=wx) ?_ hT;go_simp;skip
         simp only [pu];refine tA (i:=8) rfl rfl ?_;simp only [pu];refine tA (i:=9) rfl rfl ?_;simp only [pu];refine tA (i:=10) rfl rfl ?_;simp only [pu];refine tV (i:=11) (v:= .pointer (some (a7.add k))) rfl rfl ?_;simp only [pu];refine Qaa (i:=12) (v:= .int .i64 (s:Int)) rfl (Qah (n:=9) rfl (fun f2 wx hT=> ?_)) ?_
         ·have cc:=(HT0.out wx hT).1;refine Qab (w:=wx) ?_ hT;go_simp;skip
         simp only [pu];refine tV (i:=13) (v:= .pointer (some ⟨gL,s,none⟩)) rfl rfl ?_;simp only [pu];refine Qaa (i:=14) (v:= .int .i64 (K:Int)) rfl (Qah (n:=9) rfl (fun f2 wx hT=> ?_)) ?_
         ·have cc:=(HT0.out wx hT).2.2.1;refine Qab (w:=wx) ?_ hT;go_simp;skip
         simp only [pu];refine Qaa (i:=15) (v:= .tuple #[]) rfl (Qa5 (by decide) rfl (fun f2 wx hT=> ?_)) ?_
         ·refine Qao (f:=95) (HT0.out wx hT).2.2.2 ?_;go_simp;skip
         simp only [pu];refine Qag rfl ?_ _;intro w31 hT;obtain⟨v2,o2,g2⟩:=CT.done hT;have HT1:=Qh (HT2.out v2 w31 o2 (HG.out.trans g2));have HG1:=Qh (HG.out.trans g2);clear HT0 hT HT2 o2 g2;go_wp2_with fail;refine Qad (Two 10 1001 fun b _ wx=>CT g v2 w31 (N1+2^n1*(E%2^K2)) (n1+K2) b wx) (by kernel_rfl) (CT.start _ _ _ _ _) ?_
         refine tA (i:=0) rfl rfl ?_;simp only [pu];refine tA (i:=1) rfl rfl ?_;simp only [pu];refine tA (i:=2) rfl rfl ?_;simp only [pu];refine tV (i:=3) (v:= .pointer (some (a8.add k))) rfl rfl ?_;simp only [pu];refine Qaa (i:=4) (v:= .int .i64 (E:Int)) rfl (Qah (n:=9) rfl (fun f2 wx hT=> ?_)) ?_
         ·have cc:=(HT1.out wx hT).1;refine Qab (w:=wx) ?_ hT;go_simp;skip
         simp only [pu];refine tA (i:=5) rfl rfl ?_;simp only [pu];refine tA (i:=6) rfl rfl ?_;simp only [pu];refine tV (i:=7) (v:= .pointer (some (a7.add k))) rfl rfl ?_;simp only [pu];refine Qaa (i:=8) (v:= .int .i64 (s:Int)) rfl (Qah (n:=9) rfl (fun f2 wx hT=> ?_)) ?_
         ·have cc:=(HT1.out wx hT).2.1;refine Qab (w:=wx) ?_ hT;go_simp;skip
         simp only [pu];refine Qaa (i:=9) (v:= .int .i64 (K2:Int)) rfl (Qah (n:=9) rfl (fun f2 wx hT=> ?_)) ?_
         ·refine Qao (f:=96) ((HMO.out wx).mono fun e w' ⟨h1,h2⟩=>⟨h1,by rw [h2];exact hT⟩) ?_;go_simp;skip
         simp only [pu];refine Qaa (i:=10) (v:= .tuple #[]) rfl (Qa5 (by decide) rfl (fun f2 wx hT=> ?_)) ?_
         ·refine Qao (f:=62) (HT1.out wx hT).2.2 ?_;go_simp;skip
         simp only [pu];refine Qag rfl ?_ _;intro w32 hT;obtain⟨v3,o3,g3⟩:=CT.done hT;rw [HFIN.out.1,HFIN.out.2]at o3;have HO3:=Qh o3;have HG3:=Qh (HG1.out.trans g3);clear HT1 hT o3 g3;go_wp2_with fail;exact⟨⟨k+1,v3,by go_num,by have:=HKN.out;omega,HO3,HG3⟩,by simp only [intOf];have:=HKN.out;omega⟩
        ·obtain rfl:M=k:=by omega
         have hlti:¬(M:Int)<(M:Int):=by omega
         have hka:=HKA.out v1 wr HG.out;have hk0:=HKA.out v w13 (Gg.refl g v w13);have y0:=hka.2.2.2.1.cell 0;have y1:=hka.2.2.2.1.cell 1;have hE:tw.take M=tw:=List.take_of_length_le (by rw [HM.out];exact Ql)
         have ho:=HO.out;rw [hE,←HTE.out]at ho;have hna:=HAB.out;have hmd:=HMD.out;have hTA:toL (fun i=>(A i:Int))=A:=funext fun i=>by unfold toL;exact Int.toNat_natCast _
         have hTB:toL (fun i=>(B i:Int))=B:=funext fun i=>by unfold toL;exact Int.toNat_natCast _
         have hbk:Qbs (Qas (Qac S) L)=Qfj A nA B nB++Qaw (txL A 286 B 30) ws:=by rw [HNE.out.1,HNE.out.2.1,HNE.out.2.2.1,HNE.out.2.2.2.1,HNE.out.2.2.2.2.2.2];rfl
         have hbb:=HB0.out;rw [hbk,Qa6]at hbb;have hCd:=Q17 hna.1 hna.2.1 HNE.out.2.2.2.2.1 HNE.out.2.2.2.2.2.1 hmd.2.1 hmd.2.2.2;have hUs:Usd A B ws:=fun x hx=>by
          have hx1:=HW.out x (by rw [←HNE.out.2.2.2.2.2.2];exact hx)
          by_cases h:x.1<286
          ·have e:x.1=((x.1.toNat:Nat):Int):=by omega
           have:=((hmd.1 x.1.toNat (by omega)).2).2 (Ql1 hx e)
           exact .inl ⟨x.1.toNat,e,by omega,by omega⟩
          ·have e:x.1=((286+(x.1.toNat-286):Nat):Int):=by omega
           have:=((hmd.2.2.1 (x.1.toNat-286) (by omega)).2).2 (Ql1 hx e)
           exact .inr ⟨x.1.toNat-286,e,by omega,by omega⟩
         rw [HNE.out.2.2.2.2.2.2]at hUs hbb;have hwl:=HGW.out.size;have C:=Qid g (N+2^n*valN (Qfj A nA B nB)) (n+Qaj (Qfj A nA B nB)) v1 S p m cap L ⟨gA,0,none⟩ ⟨gB,0,none⟩ nA 286 nB 30 (fun i=>(A i:Int)) (fun i=>(B i:Int)) (txL A 286 B 30) wr ho hka.1
          (fun a e=>⟨(HFR.out a.block (.inr ⟨a,e,rfl⟩)).1,HG.out.ne (HFR.out a.block (.inr ⟨a,e,rfl⟩)).2 (hk0.1.lt a e)⟩) hka.2.1 ⟨(HFR.out gA (.inl HGA.out)).1,HG.out.ne (HFR.out gA (.inl HGA.out)).2 (hk0.2.1.lt _ rfl)⟩ hka.2.2.1 ⟨(HFR.out gB (.inl HGB.out)).1,HG.out.ne (HFR.out gB (.inl HGB.out)).2 (hk0.2.2.1.lt _ rfl)⟩
          (by rw [hTA,hTB];exact hCd) (by omega) (by omega) (Qbr.2 fun i hi=>⟨by omega,by have:=hna.1 i (by omega);omega⟩) (Qbr.2 fun i hi=>⟨by omega,by have:=hna.2.1 i (by omega);omega⟩) (by rw [hTA,hTB];exact hUs) HNN.out.1 HNN.out.2.1 HOK.out (by have:=HNN.out;omega) (by omega)
         have e1:N+2^n*valN (Qfj A nA B nB)+2^(n+Qaj (Qfj A nA B nB))*valN (Qaw (txL A 286 B 30) (Qas (Qac S) L))=N+2^n*valN (Qbs (Qas (Qac S) L)):=by
          rw [hbk,HNE.out.2.2.2.2.2.2,Qco,Nat.mul_add,Nat.pow_add,Nat.mul_assoc,Nat.add_assoc]
         have e2:n+Qaj (Qfj A nA B nB)+Qaj (Qaw (txL A 286 B 30) (Qas (Qac S) L))=n+Qaj (Qbs (Qas (Qac S) L)):=by
          rw [hbk,HNE.out.2.2.2.2.2.2,Qa6,Nat.add_assoc]
         rw [e1,e2]at C;clear hka hk0 hE ho hna hmd hTA hTB hbk hbb hCd hUs e1 e2 HO;go_wp2_with fail;refine C.mono ?_;rintro e w40 ⟨rfl,v2,o2,g2⟩;have HO2:=Qh o2;have HG2:=Qh ((HGW.out.trans HG.out).trans g2);clear C o2 g2;go_wp2_with fail;go_end0;exact⟨rfl,v2,HO2.out,HG2.out⟩
theorem Quk:Cd fixL (toL (numF fixA)) 288 (toL (numF fixB)) 32:=by
 have e1:toL (numF fixA)=fun i=>fixA.getD i 0:=funext fun i=>by unfold toL numF;exact Int.toNat_natCast _
 have e2:toL (numF fixB)=fun i=>fixB.getD i 0:=funext fun i=>by unfold toL numF;exact Int.toNat_natCast _
 have h:=Q2b;rw [show fixA.length=288 by decide+kernel,show fixB.length=32 by decide+kernel]at h
 rw [e1,e2];exact h
theorem Qrb {ws:List (Int×Nat×Nat)} (hw:∀x∈ws,0≤x.1∧x.1<316):Usd (toL (numF fixA)) (toL (numF fixB)) ws:=by
 have e1:toL (numF fixA)=fun i=>fixA.getD i 0:=funext fun i=>by unfold toL numF;exact Int.toNat_natCast _
 have e2:toL (numF fixB)=fun i=>fixB.getD i 0:=funext fun i=>by unfold toL numF;exact Int.toNat_natCast _
 rw [e1,e2];exact Q0r hw
theorem Qul:okB (numF fixA) 288=true:=by decide+kernel
theorem Qmc:okB (numF fixB) 32=true:=by decide+kernel
theorem Qzv {z:Nat} {w:World} (h:Blk w z 3 (rI 32 (numF fixB))):IS (some ⟨z,0,none⟩) 32 32 (numF fixB) w:=
 IS.row h (fun i hi=>by have:=Qbr.1 Qmc i hi;omega) (fun i hi=>by have:=Qbr.1 Qmc i hi;omega)
theorem Qzh (a s:Nat) (r:List (Nat×Nat)):valN ([(a,1)]++[(0,2+s)]++r)=valN ([(a,1),(0,2)]++([(0,s)]++r))∧Qaj ([(a,1)]++[(0,2+s)]++r)=Qaj ([(a,1),(0,2)]++([(0,s)]++r)):=by
 constructor
 ·show a+2^1*(0+2^(2+s)*valN r)=a+2^1*(0+2^2*(0+2^s*valN r))
  rw [Nat.pow_add,Nat.zero_add,Nat.zero_add,Nat.zero_add,Nat.mul_assoc (2^2)]
 ·show 1+(2+s+Qaj r)=1+(2+(s+Qaj r));omega
theorem OW.new (w:World):OW w.heap.size 0 0 (.slice none 0 0) (w.alloc (.cells #[.slice none 0 0,.int .i64 0] 66)):=
 ⟨Blk.new w _ _,⟨by simp [byN],.inl ⟨rfl,rfl⟩⟩,Nat.one_pos⟩
theorem Qsc (w:World):(zeroValue 66).run Tryz.prog w= .ok (.agg #[.slice none 0 0,.int .i64 0]) w:=by kernel_rfl
theorem Qjb (g N n:Nat) (v:Value) (S:ByteArray) (p:Option Addr) (m cap:Nat) (L:List (Nat×Nat)) (last:Nat) (w:World)
  (h0:OW g N n v w) (h:RS 2 p m cap (L.map encT) w) (hp:∀a,p=some a→a.block≠g∧v.ownBlock≠some a.block) (hm:m≤100000) (hS:S.size≤65535) (hok:OkR S.size L) (hws:∀x∈Qas (Qac S) L,0≤x.1∧x.1<316) (hl:last≤1) (hn:n≤1000000000)
  (hb1:Qaj (Qbs (Qas (Qac S) L))≤1000000000) (hb2:Qaj (Qaw fixL (Qas (Qac S) L))≤1000000000):
  Calls Tryz.prog 32 #[.agg #[.slice p m cap,.string S],.pointer (some ⟨g,0,none⟩),.int .i64 (last:Int)] w fun e w'=>e= .returned (.tuple #[])∧
   ∃v',OW g (N+2^n*valN (Qcj S L (n%8) last)) (n+Qaj (Qcj S L (n%8) last)) v' w'∧Gg g v w v' w':=by
 obtain⟨ws,hwsd⟩:∃ws,ws=Qas (Qac S) L:=⟨_,rfl⟩;obtain⟨BB,hBB⟩:∃BB,BB=Qaj (Qbs ws):=⟨_,rfl⟩;obtain⟨FF,hFF⟩:∃FF,FF=Qaj (Qaw fixL ws):=⟨_,rfl⟩;have HNN:=Qh (⟨hm,hS,hn,hl,hb1,hb2⟩:m≤100000∧S.size≤65535∧n≤1000000000∧last≤1∧Qaj (Qbs (Qas (Qac S) L))≤1000000000∧Qaj (Qaw fixL (Qas (Qac S) L))≤1000000000);have HWS:=Qh (⟨hwsd,hBB,hFF,hws,hok⟩:ws=Qas (Qac S) L∧BB=Qaj (Qbs ws)∧FF=Qaj (Qaw fixL ws)∧(∀x∈Qas (Qac S) L,0≤x.1∧x.1<316)∧OkR S.size L)
 --the piece's box,the first packer
 obtain⟨wp,hwp⟩:∃wp,wp=w.alloc (.cells #[.slice p m cap,.string S] 70):=⟨_,rfl⟩;obtain⟨gx,hgx⟩:∃gx,gx=w.heap.size:=⟨_,rfl⟩;obtain⟨w2,hw2⟩:∃w2,w2=wp.alloc (.cells #[.slice none 0 0,.int .i64 0] 66):=⟨_,rfl⟩;obtain⟨g2,hg2⟩:∃g2,g2=wp.heap.size:=⟨_,rfl⟩;have b1:Below w.heap.size w wp:=by rw [hwp];exact Qb.alloc Ql _
 have b2:Below wp.heap.size wp w2:=by rw [hw2];exact Qb.alloc Ql _
 have kx:Blk wp gx 70 #[.slice p m cap,.string S]:=by rw [hwp,hgx];exact Blk.new w _ _
 have o2:OW g2 0 0 (.slice none 0 0) w2:=by rw [hw2,hg2];exact OW.new wp
 have b12:Below w.heap.size w w2:=b1.trans (b2.mono b1.size);have hgl:g<w.heap.size:=h0.blk.lt;have hpl:∀a,p=some a→a.block<w.heap.size:=h.lt;have hs1:=b1.size;have C1:=Qit g2 0 0 (.slice none 0 0) S p m cap L w2 o2 (h.below b12) (fun a e=>⟨by have:=hpl a e;omega,fun e=>by cases e⟩) hm (by omega) hok hws (by decide) (by omega)
 rw [←hwsd,←hBB,Nat.zero_add,Nat.zero_add]at C1;have HWP:=Qh (⟨hwp,hgx,hw2,hg2⟩:wp=w.alloc (.cells #[.slice p m cap,.string S] 70)∧gx=w.heap.size∧w2=wp.alloc (.cells #[.slice none 0 0,.int .i64 0] 66)∧g2=wp.heap.size);have HX2:Hid (Below w.heap.size w w2∧Blk w2 gx 70 #[.slice p m cap,.string S]∧w.heap.size≤gx∧gx<g2∧g2<w2.heap.size):=Qh ⟨b12,kx.below b2 kx.lt,by rw [hgx];exact Ql,by rw [hg2];exact kx.lt,o2.blk.lt⟩
 have H0:=Qh (⟨h0,h,hp⟩:OW g N n v w∧RS 2 p m cap (L.map encT) w∧(∀a,p=some a→a.block≠g∧v.ownBlock≠some a.block));have hgpx:w.heap.size+1=g2:=by rw [hg2,hwp];exact(Array.size_push _).symm
 have hzo:=Qsc;have x0:=HX2.out.2.1.cell 0;have x1:=HX2.out.2.1.cell 1;clear h0 h hp hm hS hok hws hl hn hb1 hb2 hwsd hBB hFF hwp hgx hw2 hg2 b1 b2 kx o2 b12 hgl hpl hs1;go_enter Tryz.func32,Tryz.ntmps32;go_wp2_with fail;rw [←HWP.out.1,←HWP.out.2.2.1,←HWP.out.2.1];refine C1.mono ?_;rintro e w3 ⟨rfl,v2,o2,gg2⟩;have hx2:=HX2.out;have b3:Below g2 w2 w3:=gg2.belowN rfl (by omega)
 have hb3:Below w.heap.size w w3:=hx2.1.trans (b3.mono (by omega))
 obtain⟨w4,hw4⟩:∃w4,w4=w3.alloc (.cells #[.slice none 0 0,.int .i64 0] 66):=⟨_,rfl⟩;obtain⟨g1,hg1⟩:∃g1,g1=w3.heap.size:=⟨_,rfl⟩;have b4:Below w3.heap.size w3 w4:=by rw [hw4];exact Qb.alloc Ql _
 have o1:OW g1 0 0 (.slice none 0 0) w4:=by rw [hw4,hg1];exact OW.new w3
 have hb4:Below w.heap.size w w4:=hb3.trans (b4.mono hb3.size);have kx3:=hx2.2.1.below b3 (by omega)
 have C2:=Qog w4;have H4:Hid (Below w.heap.size w w4∧Blk w4 gx 70 #[.slice p m cap,.string S]∧OW g1 0 0 (.slice none 0 0) w4∧OW g2 (2^0*valN (Qbs ws)) BB v2 w4∧g2<g1∧g1<w4.heap.size∧w.heap.size≤gx∧gx<g2):=Qh ⟨hb4,kx3.below b4 kx3.lt,o1,o2.below b4,by rw [hg1];exact o2.blk.lt,o1.blk.lt,hx2.2.2.1,hx2.2.2.2.1⟩
 have HW4:=Qh (⟨hw4,hg1⟩:w4=w3.alloc (.cells #[.slice none 0 0,.int .i64 0] 66)∧g1=w3.heap.size);clear C1 o2 gg2 hx2 b3 hb3 b4 o1 hb4 kx3 hw4 hg1 HX2 x0 x1 hgpx;have x0:=H4.out.2.1.cell 0;have x1:=H4.out.2.1.cell 1;go_wp2_with fail;rw [←HW4.out.1,←HW4.out.2];clear hzo;refine C2.mono ?_;rintro e w5 ⟨a1,c1,z,rfl,iA,kB,b5,ha1,hz1⟩;have h4:=H4.out;have hb5:Below w.heap.size w w5:=h4.1.trans (b5.mono h4.1.size);have iB:=Qzv kB;have hpl:∀a,p=some a→a.block<w.heap.size:=H0.out.2.1.lt;have C3:=Qid g1 0 0 (.slice none 0 0) S p m cap L a1 ⟨z,0,none⟩ 288 c1 32 32 (numF fixA) (numF fixB) fixL w5 (h4.2.2.1.below b5) (H0.out.2.1.below hb5) (fun a e=>⟨by have:=hpl a e;omega,fun e=>by cases e⟩) iA ⟨by omega,fun e=>by cases e⟩ iB ⟨by show z≠g1;omega,fun e=>by cases e⟩
  Quk (by decide) (by decide) Qul Qmc (Qrb HWS.out.2.2.2.1) HNN.out.1 (by have:=HNN.out;omega) HWS.out.2.2.2.2 (by decide) (by have:=HNN.out;omega)
 rw [←HWS.out.1,←HWS.out.2.2.1,Nat.zero_add,Nat.zero_add]at C3;have H5:Hid (Below w.heap.size w w5∧Blk w5 gx 70 #[.slice p m cap,.string S]∧OW g2 (2^0*valN (Qbs ws)) BB v2 w5∧IS (some a1) 288 c1 (numF fixA) w5∧Blk w5 z 3 (rI 32 (numF fixB))∧g1<a1.block∧g1<z∧a1.block<w5.heap.size):=Qh ⟨hb5,h4.2.1.below b5 h4.2.1.lt,h4.2.2.2.1.below b5,iA,kB,by omega,by omega,iA.lt a1 rfl⟩
 have x2:=H5.out.2.1.cell 0;have x3:=H5.out.2.1.cell 1;clear C2 iA kB b5 ha1 hz1 h4 hb5 iB hpl x0 x1;go_wp2_with fail;refine C3.mono ?_;rintro e w6 ⟨rfl,v3,o3,gg3⟩;have h4:=H4.out;have h5:=H5.out;have b6:Below g1 w5 w6:=gg3.belowN rfl (by have:=o3.blk.lt;have:=h5.2.2.2.2.2.2.2;omega)
 have hb6:Below w.heap.size w w6:=h5.1.trans (b6.mono (by omega))
 have HG1L0:Hid (w.heap.size≤g1∧g1<w6.heap.size):=Qh ⟨by omega,o3.blk.lt⟩
 have H6:Hid (Below w.heap.size w w6∧Blk w6 gx 70 #[.slice p m cap,.string S]∧w6.cell? ⟨g1,1,none⟩=some (.int .i64 (FF:Int))∧w6.cell? ⟨g2,1,none⟩=some (.int .i64 (BB:Int))∧IS (some a1) 288 c1 (numF fixA) w6∧Blk w6 z 3 (rI 32 (numF fixB))∧w.heap.size≤gx∧w.heap.size≤a1.block∧w.heap.size≤z):=Qh ⟨hb6,h5.2.1.below b6 (by omega),o3.blk.cell 1,(h5.2.2.1.blk.below b6 (by omega)).cell 1,h5.2.2.2.1.gg gg3 (fun a e=>by cases e;exact⟨by omega,fun e=>by cases e⟩),h5.2.2.2.2.1.gg gg3 ⟨by omega,fun e=>by cases e⟩,h4.2.2.2.2.2.2.1,by omega,by omega⟩
 clear C3 o3 gg3 h4 h5 b6 hb6 x2 x3 H4 H5;obtain⟨LV,hLV⟩:∃LV,LV=min FF BB:=⟨_,rfl⟩;have HT0:Hid (∀wx,CT 0 (.slice none 0 0) w6 0 0 false wx→wx.cell? ⟨g1,1,none⟩=some (.int .i64 (FF:Int))∧wx.cell? ⟨g2,1,none⟩=some (.int .i64 (BB:Int))):=Qh fun wx e=>by rw [e.1 rfl];exact⟨H6.out.2.2.1,H6.out.2.2.2.1⟩
 go_wp2_with fail;refine Qad (Two 1000 1001 fun _ _ wx=>CT 0 (.slice none 0 0) w6 0 0 false wx) (by kernel_rfl) (CT.start _ _ _ _ _) ?_
 refine tA (i:=0) rfl rfl ?_;simp only [pu];refine tA (i:=1) rfl rfl ?_;simp only [pu];refine tV (i:=2) (v:= .pointer (some ⟨g1,1,none⟩)) rfl rfl ?_;simp only [pu];refine tL (i:=3) (v:= .int .i64 (FF:Int)) rfl rfl (fun f1 f2 wx hT=> ?_) ?_
 ·have cc:=(HT0.out wx hT).1;go_simp;skip
 simp only [pu];refine tA (i:=4) rfl rfl ?_;simp only [pu];refine tA (i:=5) rfl rfl ?_;simp only [pu];refine tV (i:=6) (v:= .pointer (some ⟨g2,1,none⟩)) rfl rfl ?_;simp only [pu];refine tL (i:=7) (v:= .int .i64 (BB:Int)) rfl rfl (fun f1 f2 wx hT=> ?_) ?_
 ·have cc:=(HT0.out wx hT).2;go_simp;skip
 simp only [pu];refine Qaa (i:=8) (v:= .int .i64 ((min FF BB:Nat):Int)) rfl (Qaf rfl (fun f1 f2 wx hT=> ?_)) ?_
 ·exact(Qbz (w:=wx) (.tmp 32) (.tmp 36) FF BB rfl rfl rfl rfl).mono fun _ e=>e▸hT
 simp only [pu];refine tA (i:=9) rfl rfl ?_;simp only [pu];refine Qag rfl ?_ _;intro w7 hT;have hT:w7=w6.drew:=hT.1 rfl;have H7:Hid (Below w.heap.size w w7∧Blk w7 gx 70 #[.slice p m cap,.string S]∧IS (some a1) 288 c1 (numF fixA) w7∧Blk w7 z 3 (rI 32 (numF fixB))∧w7.cell? ⟨g1,1,none⟩=some (.int .i64 (FF:Int))∧w.heap.size≤gx∧w.heap.size≤a1.block∧w.heap.size≤z):=Qh (by
  rw [hT];exact⟨H6.out.1.drew,H6.out.2.1.drew,H6.out.2.2.2.2.1.below (Qbu Qb 1),H6.out.2.2.2.2.2.1.drew,H6.out.2.2.1,H6.out.2.2.2.2.2.2⟩)
 have HG1L:Hid (w.heap.size≤g1∧g1<w7.heap.size):=Qh (by rw [hT];exact HG1L0.out)
 rw [←hLV];have HLV:=Qh hLV;have hn:=HNN.out;obtain⟨r,hr⟩:∃r,r=(n+3)%8:=⟨_,rfl⟩;obtain⟨r8,hr8⟩:∃r8,r8=8-r:=⟨_,rfl⟩;obtain⟨sk,hsk⟩:∃sk,sk=r8%8:=⟨_,rfl⟩;obtain⟨n3,hn3⟩:∃n3,n3=n+3:=⟨_,rfl⟩;have a1w:IntKind.i64.wrap ((n:Int)+3)=(n3:Int):=by rw [IntWalk.i64_in _ (by omega)];omega
 have a2:(n3:Int).tmod 8=(r:Int):=by rw [Int.tmod_eq_emod_of_nonneg (by omega)];omega
 have a3:IntKind.i64.wrap (r:Int)=(r:Int):=IntWalk.i64_in _ (by omega)
 have a4:IntKind.i64.wrap (8-(r:Int))=(r8:Int):=by rw [IntWalk.i64_in _ (by omega)];omega
 have a5:(r8:Int).tmod 8=(sk:Int):=by rw [Int.tmod_eq_emod_of_nonneg (by omega)];omega
 have a6:IntKind.i64.wrap (sk:Int)=(sk:Int):=IntWalk.i64_in _ (by omega)
 have HSK:Hid (sk=Qdw (n%8+3)∧sk<8):=Qh ⟨by unfold Qdw;omega,by omega⟩
 have HO7:Hid (OW g N n v w7):=Qh (H0.out.1.below H7.out.1);have cn:=HO7.out.blk.cell 1;have CN:=Qbd g N n v last 1 w7 HO7.out (by omega) (by decide) (by omega)
 rw [Nat.mod_eq_of_lt (show last<2^1 by omega)]at CN
 have q1:=Qb4 (N:=N) (n:=n) (l:=[]) (NA:=N) (nA:=n) (by show N=N+2^n*0;rw [Nat.mul_zero,Nat.add_zero]) (by show n=n+0;omega) last 1
 rw [q1.1,q1.2,List.nil_append]at CN;have HBW:Hid (Below w.heap.size w w7):=Qh H7.out.1;clear HT0 hT H6 hn hr hr8 hsk hn3 q1 hLV;go_wp2_with fail;refine CN.mono ?_;rintro e w8 ⟨rfl,v4,o4,g4⟩;have HO8:=Qh o4;have HG8:Hid (Gg g v w v4 w8):=Qh ((Gg.of HBW.out).trans g4);have HK:Hid (∀v' wx,Gg g v w7 v' wx→RS 2 p m cap (L.map encT) wx∧Blk wx gx 70 #[.slice p m cap,.string S]∧IS (some a1) 288 c1 (numF fixA) wx∧Blk wx z 3 (rI 32 (numF fixB))∧(∀a,p=some a→a.block≠g∧v'.ownBlock≠some a.block)∧(a1.block≠g∧v'.ownBlock≠some a1.block)∧(z≠g∧v'.ownBlock≠some z)∧wx.cell? ⟨g1,1,none⟩=some (.int .i64 (FF:Int))):=Qh fun v' wx hg=>by
  have hgl:g<w.heap.size:=H0.out.1.blk.lt;have fr:∀q,w.heap.size≤q→q≠g∧v.ownBlock≠some q:=fun q hq=>⟨by omega,fun e=>by have:=(H0.out.1.ownB _ e).2;omega⟩
  have h7:=H7.out;have hs7:=h7.1.size;have hp:=H0.out.2.2;have hpl:∀a,p=some a→a.block<w.heap.size:=H0.out.2.1.lt;refine⟨(H0.out.2.1.below h7.1).gg hg hp,h7.2.1.gg hg (fr _ h7.2.2.2.2.2.1),h7.2.2.1.gg hg (fun a e=>by cases e;exact fr _ h7.2.2.2.2.2.2.1),h7.2.2.2.1.gg hg (fr _ h7.2.2.2.2.2.2.2),fun a e=>⟨(hp a e).1,hg.ne (hp a e).2 (by have:=hpl a e;omega)⟩,⟨(fr _ h7.2.2.2.2.2.2.1).1,hg.ne (fr _ h7.2.2.2.2.2.2.1).2 (h7.2.2.1.lt a1 rfl)⟩,⟨(fr _ h7.2.2.2.2.2.2.2).1,hg.ne (fr _ h7.2.2.2.2.2.2.2).2 h7.2.2.2.1.lt⟩,?_⟩
  have h1:=h7.2.2.2.2.1;rw [World.cell?_of_block (a:=⟨g1,1,none⟩) (w:=w7) (hg.block g1 HG1L.out.2 (fr _ HG1L.out.1).1 (fr _ HG1L.out.1).2)];exact h1
 have HG47:=Qh g4;clear CN o4 g4 a1w a2 a3 a4 a5 a6 cn HO7;have hkx:=HK.out v4 w8 HG47.out;have y0:=hkx.2.1.cell 0;have y1:=hkx.2.1.cell 1;have fOne:=hkx.2.2.2.2.2.2.2;obtain⟨s1,hs1⟩:∃s1,s1=sk+32:=⟨_,rfl⟩;obtain⟨e8,he8⟩:∃e8,e8=8*S.size:=⟨_,rfl⟩;obtain⟨s2,hs2⟩:∃s2,s2=s1+e8:=⟨_,rfl⟩;have hnn:=HNN.out;have hsk8:=HSK.out.2;have d1:IntKind.i64.wrap ((sk:Int)+32)=(s1:Int):=by rw [IntWalk.i64_in _ (by omega)];omega
 have d2:IntKind.i64.wrap (8*(S.size:Int))=(e8:Int):=by rw [IntWalk.i64_in _ (by omega)];omega
 have d3:IntKind.i64.wrap ((s1:Int)+(e8:Int))=(s2:Int):=by rw [IntWalk.i64_in _ (by omega)];omega
 have hsto:Qaj (stoV S (Qdw (n%8+3)))=s2:=by
  rw [←HSK.out.1];show sk+(16+(16+Qaj ((List.range S.size).map fun i=>(Qac S i,8))))=_;rw [Qex];omega
 have hpk:Qcj S L (n%8) last=if BB<FF then(if s2<BB then [(last,1),(0,2)]++stoV S sk else [(last,1),(2,2)]++Qbs (Qas (Qac S) L))else if s2<FF then [(last,1),(0,2)]++stoV S sk else [(last,1),(1,2)]++Qaw fixL (Qas (Qac S) L):=by
  unfold Qcj;rw [hsto,←HSK.out.1,←HWS.out.1,←HWS.out.2.1,←HWS.out.2.2.1]
 have hlv:=HLV.out;by_cases hc:s2<LV
 ·have hci:(s2:Int)<(LV:Int):=by omega
  have HPK:Hid (Qcj S L (n%8) last=[(last,1),(0,2)]++stoV S sk):=Qh (by
   rw [hpk];split
   ·rw [if_pos (by omega)]
   ·rw [if_pos (by omega)])
  obtain⟨s3,hs3⟩:∃s3,s3=2+sk:=⟨_,rfl⟩;have d4:IntKind.i64.wrap (2+(sk:Int))=(s3:Int):=by rw [IntWalk.i64_in _ (by omega)];omega
  obtain⟨e9,he9⟩:∃e9,e9=65535-S.size:=⟨_,rfl⟩;have d5:IntKind.i64.wrap (65535-(S.size:Int))=(e9:Int):=by rw [IntWalk.i64_in _ (by omega)];omega
  have hb0:Qaj [(last,1)]=1:=rfl;have CN1:=Qbd g _ (n+Qaj [(last,1)]) v4 0 s3 w8 HO8.out (by decide) (by omega) (by omega)
  have q1:=Qb4 (N:=N) (n:=n) (l:=[(last,1)]) rfl rfl 0 s3;rw [Nat.zero_mod,q1.1,q1.2]at CN1;have HS3:=Qh (⟨hs3,he9,hs1,he8,hs2⟩:s3=2+sk∧e9=65535-S.size∧s1=sk+32∧e8=8*S.size∧s2=s1+e8);clear hpk hsto hlv q1 hkx hs1 he8 hs2 hs3 he9 hc;go_wp2_with fail;refine CN1.mono ?_;rintro e w9 ⟨rfl,v5,o5,g5⟩;have h3:=HS3.out;have HG9:=Qh (HG47.out.trans g5);obtain⟨l1,hl1⟩:∃l1,l1=[(last,1)]++[(0,s3)]:=⟨_,rfl⟩;have hb1:Qaj l1≤20:=by rw [hl1];show 1+(s3+0)≤20;omega
  rw [←hl1]at o5;have HL1:=Qh hl1;clear hl1;have CN2:=Qbd g _ (n+Qaj l1) v5 S.size 16 w9 o5 (by omega) (by decide) (by omega)
  have q2:=Qb4 (N:=N) (n:=n) (l:=l1) rfl rfl S.size 16;rw [Nat.mod_eq_of_lt (show S.size<2^16 by omega),q2.1,q2.2]at CN2
  have kk:=(HK.out v5 w9 HG9.out).2.1;have y2:=kk.cell 0;have y3:=kk.cell 1;clear CN1 o5 g5 q2 kk y0 y1 h3;go_wp2_with fail;refine CN2.mono ?_;rintro e w10 ⟨rfl,v6,o6,g6⟩;have h3:=HS3.out;have HG10:=Qh (HG9.out.trans g6);obtain⟨l2,hl2⟩:∃l2,l2=l1++[(S.size,16)]:=⟨_,rfl⟩;have hb2:Qaj l2≤40:=by rw [hl2,Qa6];show Qaj l1+(16+0)≤40;omega
  rw [←hl2]at o6;have HL2:=Qh hl2;clear hl2;have CN3:=Qbd g _ (n+Qaj l2) v6 e9 16 w10 o6 (by omega) (by decide) (by omega)
  have q3:=Qb4 (N:=N) (n:=n) (l:=l2) rfl rfl e9 16;rw [Nat.mod_eq_of_lt (show e9<2^16 by omega),q3.1,q3.2]at CN3
  have kk:=(HK.out v6 w10 HG10.out).2.1;have y0:=kk.cell 0;have y1:=kk.cell 1;clear CN2 o6 g6 q3 kk y2 y3 h3;go_wp2_with fail;refine CN3.mono ?_;rintro e w11 ⟨rfl,v7,o7,g7⟩;have h3:=HS3.out;obtain⟨hd,hhd0⟩:∃hd,hd=l2++[(e9,16)]:=⟨_,rfl⟩;have hhb:Qaj hd≤60:=by rw [hhd0,Qa6];show Qaj l2+(16+0)≤60;omega
  rw [←hhd0]at o7;have hhd:hd=[(last,1)]++[(0,s3)]++[(S.size,16)]++[(e9,16)]:=by rw [hhd0,HL2.out,HL1.out]
  clear hhd0;have HO11:Hid (OW g (N+2^n*valN (hd++(List.range 0).map fun i=>(Qac S i,8))) (n+Qaj (hd++(List.range 0).map fun i=>(Qac S i,8))) v7 w11):=Qh (by show OW g (N+2^n*valN (hd++[])) (n+Qaj (hd++[])) v7 w11;rw [List.append_nil];exact o7)
  have HG11:=Qh (HG10.out.trans g7);have HHD:=Qh (⟨hhd,hhb⟩:hd=[(last,1)]++[(0,s3)]++[(S.size,16)]++[(e9,16)]∧Qaj hd≤60);clear CN3 o7 g7 y0 y1 hhd hhb hb0 hb1 hb2 h3 d1 d2 d3 d4 d5 hci HG9 HG10;go_wp2_with fail;go_loopw [12] (fun u wy=>∃(i:Nat) (v8:Value),u= .int .i64 (i:Int)∧i≤S.size∧Hid (OW g (N+2^n*valN (hd++(List.range i).map fun i=>(Qac S i,8))) (n+Qaj (hd++(List.range i).map fun i=>(Qac S i,8))) v8 wy)∧Hid (Gg g v w7 v8 wy)) (fun u _=>S.size-(intOf u).toNat)
  case atStart=>exact⟨0,_,rfl,Nat.zero_le _,HO11,HG11⟩
  case round=>
   obtain⟨i,v8,rfl,hi,HO,HG⟩:=hrel;clear HO11 HG11;have kk:=(HK.out v8 wr HG.out).2.1;have y0:=kk.cell 0;have y1:=kk.cell 1;by_cases hlt:i<S.size
   ·have hlti:(i:Int)<(S.size:Int):=by omega
    have hiw:IntKind.i64.wrap ((i:Int)+1)=((i+1:Nat):Int):=by rw [IntWalk.i64_in _ (by omega)];rfl
    obtain⟨y,hy⟩:∃y,y=Qac S i:=⟨_,rfl⟩;have hy8:y<256:=by rw [hy];exact Qaz _ _
    have hby:(S[i]'hlt).toNat=y:=by rw [hy];exact Qa2 S i hlt
    have hyw:IntKind.i64.wrap (y:Int)=(y:Int):=IntWalk.i64_in _ (by omega)
    have hbt:Qaj (hd++(List.range i).map fun i=>(Qac S i,8))≤600000:=by rw [Qa6,Qex];have:=HHD.out.2;omega
    have CN:=Qbd g _ (n+Qaj (hd++(List.range i).map fun i=>(Qac S i,8))) v8 y 8 wr HO.out (by omega) (by decide) (by omega)
    have q1:=Qb4 (N:=N) (n:=n) (l:=hd++(List.range i).map fun i=>(Qac S i,8)) rfl rfl y 8;have e1:hd++(List.range i).map (fun i=>(Qac S i,8))++[(y,8)]=hd++(List.range (i+1)).map fun i=>(Qac S i,8):=by
     rw [List.range_succ,List.map_append,hy,List.append_assoc];rfl
    rw [Nat.mod_eq_of_lt (show y<2^8 by omega),q1.1,q1.2,e1]at CN
    have HKN:=Qh hlt;clear hy hbt q1 e1 HO kk;go_wp2_with fail;refine CN.mono ?_;rintro e w12 ⟨rfl,v9,o9,g9⟩;have HO9:=Qh o9;have HG9:=Qh (HG.out.trans g9);have kk:=(HK.out v9 w12 HG9.out).2.1;have y2:=kk.cell 0;have y3:=kk.cell 1;clear CN o9 g9 kk y0 y1;go_wp2_with fail;exact⟨⟨i+1,v9,by go_num,by have:=HKN.out;omega,HO9,HG9⟩,by simp only [intOf];have:=HKN.out;omega⟩
   ·obtain rfl:i=S.size:=by omega
    have hlti:¬(S.size:Int)<(S.size:Int):=by omega
    have HF:Hid (OW g (N+2^n*valN (Qcj S L (n%8) last)) (n+Qaj (Qcj S L (n%8) last)) v8 wr):=Qh (by
     have h:=HO.out;have e:=Qzh last sk ([(S.size,16)]++[(65535-S.size,16)]++(List.range S.size).map fun i=>(Qac S i,8));have e2:hd++(List.range S.size).map (fun i=>(Qac S i,8))=[(last,1)]++[(0,2+sk)]++([(S.size,16)]++[(65535-S.size,16)]++(List.range S.size).map fun i=>(Qac S i,8)):=by rw [HHD.out.1,HS3.out.1,HS3.out.2.1];simp only [List.append_assoc]
     rw [e2,e.1,e.2]at h;rw [HPK.out];exact h)
    have HGF:=Qh ((Gg.of (g:=g) (v:=v) HBW.out).trans HG.out);go_wp2_with fail;go_end0;exact⟨rfl,v8,HF.out,HGF.out⟩
 ·have hci:¬(s2:Int)<(LV:Int):=by omega
  by_cases hf:FF=LV
  ·have hfe:((FF:Int)==(LV:Int))=true:=beq_iff_eq.2 (by omega)
   have HPK:Hid (Qcj S L (n%8) last=[(last,1),(1,2)]++Qaw fixL (Qas (Qac S) L)):=Qh (by
    rw [hpk,if_neg (by omega),if_neg (by omega)])
   have CN1:=Qbd g _ (n+Qaj [(last,1)]) v4 1 2 w8 HO8.out (by decide) (by decide) (by show n+(1+0)≤_;omega)
   have q1:=Qb4 (N:=N) (n:=n) (l:=[(last,1)]) rfl rfl 1 2;rw [show 1%2^2=1 by rfl,q1.1,q1.2]at CN1
   have HFL:=Qh hf;have HB3:=Qh (HNN.out.2.2.2.2.2);clear hpk hsto q1 hkx hs1 he8 hs2 hlv hc hf;go_wp2_with fail;refine CN1.mono ?_;rintro e w9 ⟨rfl,v5,o5,g5⟩;have HG9:=Qh (HG47.out.trans g5);have kk:=HK.out v5 w9 HG9.out;have y2:=kk.2.1.cell 0;have y3:=kk.2.1.cell 1;obtain⟨l1,hl1⟩:∃l1,l1=[(last,1)]++[(1,2)]:=⟨_,rfl⟩;have hb1:Qaj l1=3:=by rw [hl1];rfl
   rw [←hl1]at o5;have C:=Qid g _ _ v5 S p m cap L a1 ⟨z,0,none⟩ 288 c1 32 32 (numF fixA) (numF fixB) fixL w9 o5 kk.1 kk.2.2.2.2.1 kk.2.2.1 kk.2.2.2.2.2.1 (Qzv kk.2.2.2.1) kk.2.2.2.2.2.2.1
    Quk (by decide) (by decide) Qul Qmc (Qrb HWS.out.2.2.2.1) HNN.out.1 (by have:=HNN.out;omega) HWS.out.2.2.2.2 (by omega) (by have:=HB3.out;omega)
   obtain⟨Z,hZ⟩:∃Z,Z=Qaw fixL (Qas (Qac S) L):=⟨_,rfl⟩;rw [←hZ]at C;obtain⟨PK,hPK⟩:∃PK,PK=Qcj S L (n%8) last:=⟨_,rfl⟩;have HPE:=Qh hPK;have HFIN:Hid (N+2^n*valN l1+2^(n+Qaj l1)*valN Z=N+2^n*valN PK∧n+Qaj l1+Qaj Z=n+Qaj PK):=Qh (by
    have e:PK=l1++Z:=by rw [hPK,HPK.out,hl1,hZ];simp only [List.cons_append,List.nil_append]
    rw [e,Qco,Qa6,Nat.mul_add,Nat.pow_add,Nat.mul_assoc,Nat.add_assoc,Nat.add_assoc];exact⟨rfl,rfl⟩)
   clear CN1 o5 g5 kk y0 y1 hl1 hb1 hZ hPK;go_wp2_with fail;refine C.mono ?_;rintro e w10 ⟨rfl,v6,o6,g6⟩;rw [HFIN.out.1,HFIN.out.2]at o6;rw [HPE.out]at o6;have HO:=Qh o6;have HGF:=Qh (((Gg.of (g:=g) (v:=v) HBW.out).trans HG9.out).trans g6);clear C o6 g6;go_wp2_with fail;go_end0;exact⟨rfl,v6,HO.out,HGF.out⟩
  ·have hfe:((FF:Int)==(LV:Int))=false:=beq_eq_false_iff_ne.2 (by omega)
   have HPK:Hid (Qcj S L (n%8) last=[(last,1),(2,2)]++Qbs (Qas (Qac S) L)):=Qh (by
    rw [hpk,if_pos (by omega),if_neg (by omega)])
   have CN1:=Qbd g _ (n+Qaj [(last,1)]) v4 2 2 w8 HO8.out (by decide) (by decide) (by show n+(1+0)≤_;omega)
   have q1:=Qb4 (N:=N) (n:=n) (l:=[(last,1)]) rfl rfl 2 2;rw [show 2%2^2=2 by rfl,q1.1,q1.2]at CN1
   have HB3:=Qh (HNN.out.2.2.2.2.1);have HCN:=Qh CN1;clear hpk hsto q1 hkx hs1 he8 hs2 hlv hc hf CN1 hnn hsk8;dsimp only
   repeat go_step
   refine HCN.out.mono ?_;rintro e w9 ⟨rfl,v5,o5,g5⟩;have HG9:=Qh (HG47.out.trans g5);have kk:=HK.out v5 w9 HG9.out;have y2:=kk.2.1.cell 0;have y3:=kk.2.1.cell 1;obtain⟨l1,hl1⟩:∃l1,l1=[(last,1)]++[(2,2)]:=⟨_,rfl⟩;have hb1:Qaj l1=3:=by rw [hl1];rfl
   rw [←hl1]at o5;have C:=Qit g _ _ v5 S p m cap L w9 o5 kk.1 kk.2.2.2.2.1 HNN.out.1 (by have:=HNN.out;omega) HWS.out.2.2.2.2 HWS.out.2.2.2.1 (by have:=HNN.out;omega) (by have:=HB3.out;omega)
   obtain⟨Z,hZ⟩:∃Z,Z=Qbs (Qas (Qac S) L):=⟨_,rfl⟩;rw [←hZ]at C;obtain⟨PK,hPK⟩:∃PK,PK=Qcj S L (n%8) last:=⟨_,rfl⟩;have HPE:=Qh hPK;have HFIN:Hid (N+2^n*valN l1+2^(n+Qaj l1)*valN Z=N+2^n*valN PK∧n+Qaj l1+Qaj Z=n+Qaj PK):=Qh (by
    have e:PK=l1++Z:=by rw [hPK,HPK.out,hl1,hZ];simp only [List.cons_append,List.nil_append]
    rw [e,Qco,Qa6,Nat.mul_add,Nat.pow_add,Nat.mul_assoc,Nat.add_assoc,Nat.add_assoc];exact⟨rfl,rfl⟩)
   clear o5 g5 kk y0 y1 hl1 hb1 hZ hPK;go_wp2_with fail;refine C.mono ?_;rintro e w10 ⟨rfl,v6,o6,g6⟩;rw [HFIN.out.1,HFIN.out.2]at o6;rw [HPE.out]at o6;have HO:=Qh o6;have HGF:=Qh (((Gg.of (g:=g) (v:=v) HBW.out).trans HG9.out).trans g6);clear C o6 g6;go_wp2_with fail;go_end0;exact⟨rfl,v6,HO.out,HGF.out⟩
end Go.Proofs.YtbmcjdoiohcaaaaGreat
