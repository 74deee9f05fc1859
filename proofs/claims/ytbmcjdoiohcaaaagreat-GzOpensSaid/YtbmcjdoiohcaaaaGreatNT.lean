/- NT -/
import Derived.Test.YtbmcjdoiohcaaaaGreatNS
import Derived.Test.YtbmcjdoiohcaaaaGreatNQ
set_option maxRecDepth 100000
set_option maxHeartbeats 32000000
namespace Go.Proofs.YtbmcjdoiohcaaaaGreat
open Go.RowKit
theorem OW.keep {g N n:Nat} {v:Value} {w w1:World} (h:OW g N n v w) (e1:w1.heap[g]? =w.heap[g]?) (e2:∀i,v.ownBlock=some i→w1.heap[i]? =w.heap[i]?):OW g N n v w1:=by
 refine⟨e1.trans h.blk,⟨h.own.1,?_⟩,h.lt⟩;rcases h.own.2 with h1|⟨q,cap,cur,h1,h2,h3,h4⟩
 ·exact .inl h1
 ·exact .inr ⟨q,cap,cur,h1,h2,(e2 q (by rw [h1];rfl)).trans h3,h4⟩
theorem Gg.ne {g q:Nat} {v v':Value} {w w':World} (h:Gg g v w v' w') (hv:v.ownBlock≠some q) (hq:q<w.heap.size):v'.ownBlock≠some q:=fun e=>by
 rcases h.own q e with h1|h1
 ·exact hv h1
 ·omega
theorem OW.ownB {g N n:Nat} {v:Value} {w:World} (h:OW g N n v w):∀i,v.ownBlock=some i→g+1≤i∧i<w.heap.size:=World.ownsRow.lt h.own
theorem OW.below {g N n:Nat} {v:Value} {w w1:World} (h:OW g N n v w) (hb:Below w.heap.size w w1):OW g N n v w1:=h.keep (hb.block g h.blk.lt) fun i e=>hb.block i (h.ownB i e).2
theorem OW.drew {g N n:Nat} {v:Value} {w:World} (h:OW g N n v w):OW g N n v w.drew:=⟨h.blk.drew,h.own.drew,h.lt⟩
theorem IS.gg {g:Nat} {v v1:Value} {w w1:World} {p:Option Addr} {n cap:Nat} {f:Nat→Int} (h:IS p n cap f w) (hg:Gg g v w v1 w1) (hp:∀a,p=some a→a.block≠g∧v.ownBlock≠some a.block):IS p n cap f w1:=
 ⟨h.nil_,fun a ha i hi=>by
  have hl:=h.lt a ha;have:(a.add i).block=a.block:=by unfold Addr.add;split<;>rfl
  rw [World.cell?_of_block (a:=a.add i) (w:=w) (by rw [this];exact hg.block _ hl (hp a ha).1 (hp a ha).2)];exact h.cell a ha i hi,fun a ha=>Nat.lt_of_lt_of_le (h.lt a ha) hg.size,h.lo,h.hi⟩
theorem Blk.gg {g q:Nat} {v v1:Value} {w w1:World} {t:TypeId} {cs:Array Value} (h:Blk w q t cs) (hg:Gg g v w v1 w1) (hp:q≠g∧v.ownBlock≠some q):Blk w1 q t cs:=(hg.block q h.lt hp.1 hp.2).trans h
def CT (g:Nat) (v1:Value) (w1:World) (N1 n1:Nat) (b:Bool) (wx:World):Prop:=(b=false→wx=w1.drew)∧(b=true→∃v2,OW g N1 n1 v2 wx∧Gg g v1 w1 v2 wx)
theorem CT.start (g:Nat) (v1:Value) (w1:World) (N1 n1:Nat):CT g v1 w1 N1 n1 false w1.drew:=⟨fun _=>rfl,fun h=>(by cases h)⟩
theorem CT.done {g:Nat} {v1:Value} {w1:World} {N1 n1:Nat} {wx:World} (h:CT g v1 w1 N1 n1 true wx):∃v2,OW g N1 n1 v2 wx∧Gg g v1 w1 v2 wx:=h.2 rfl
theorem CT.code {g N n:Nat} {v1:Value} {w1:World} (ho:OW g N n v1 w1) (x k:Nat) (hx:x≤1000000000) (hk:k≤60) (hn:n≤900000000000) {wx:World} (h:CT g v1 w1 (N+2^n*revN k x) (n+k) false wx):
  wx=w1.drew∧Calls Tryz.prog 95 #[.pointer (some ⟨g,0,none⟩),.int .i64 (x:Int),.int .i64 (k:Int)] wx fun e w'=>e= .returned (.tuple #[])∧CT g v1 w1 (N+2^n*revN k x) (n+k) true w':=by
 have e:=h.1 rfl;refine⟨e,?_⟩;subst e;refine(Qvx g N n v1 x k w1.drew ho.drew hx hk hn).mono ?_;rintro e w' ⟨h1,v2,o2,g2⟩;exact⟨h1,(fun h=>by cases h),fun _=>⟨v2,o2,((Gg.refl g v1 w1).drew).trans g2⟩⟩
theorem CT.number {g N n:Nat} {v1:Value} {w1:World} (ho:OW g N n v1 w1) (x k:Nat) (hx:x≤1000000000) (hk:k≤60) (hn:n≤900000000000) {wx:World} (h:CT g v1 w1 (N+2^n*(x%2^k)) (n+k) false wx):
  wx=w1.drew∧Calls Tryz.prog 62 #[.pointer (some ⟨g,0,none⟩),.int .i64 (x:Int),.int .i64 (k:Int)] wx fun e w'=>e= .returned (.tuple #[])∧CT g v1 w1 (N+2^n*(x%2^k)) (n+k) true w':=by
 have e:=h.1 rfl;refine⟨e,?_⟩;subst e;refine(Qbd g N n v1 x k w1.drew ho.drew hx hk (by omega)).mono ?_
 rintro e w' ⟨h1,v2,o2,g2⟩;exact⟨h1,(fun h=>by cases h),fun _=>⟨v2,o2,((Gg.refl g v1 w1).drew).trans g2⟩⟩
theorem Qb4 {N n NA nA:Nat} {l:List (Nat×Nat)} (h1:NA=N+2^n*valN l) (h2:nA=n+Qaj l) (x k:Nat):NA+2^nA*x=N+2^n*valN (l++[(x,k)])∧nA+k=n+Qaj (l++[(x,k)]):=by
 rw [Qco,Qa6,h1,h2];show _=N+2^n*(valN l+2^Qaj l*(x+2^k*0))∧_=n+(Qaj l+(k+0));rw [Nat.mul_zero,Nat.add_zero,Nat.mul_add,Nat.pow_add,Nat.mul_assoc];exact⟨by omega,by omega⟩
theorem Qot (b:Nat→Nat) (L:List (Nat×Nat)) (k:Nat):∃r,Qas b L=Qap b (L.take k) 0++r:=by
 refine⟨Qap b (L.drop k) (0+sumT (L.take k))++[(256,0,0)],?_⟩;unfold Qas;rw [←List.append_assoc,←Qim,List.take_append_drop]
theorem Qz8 (C:List (Nat×Nat)) (b:Nat→Nat) (L:List (Nat×Nat)) (k:Nat):Qaj (Qaw C (Qap b (L.take k) 0))≤Qaj (Qaw C (Qas b L)):=by
 obtain⟨r,e⟩:=Qot b L k;rw [e,Qea,Qa6];omega
theorem Qid (g N n:Nat) (v:Value) (S:ByteArray) (p:Option Addr) (m cap:Nat) (L:List (Nat×Nat)) (aa ab:Addr) (na ca nb cb:Nat) (fa fb:Nat→Int) (C:List (Nat×Nat)) (w:World)
  (h0:OW g N n v w) (h:RS 2 p m cap (L.map encT) w) (hp:∀a,p=some a→a.block≠g∧v.ownBlock≠some a.block) (ha:IS (some aa) na ca fa w) (hpa:aa.block≠g∧v.ownBlock≠some aa.block) (hb:IS (some ab) nb cb fb w) (hpb:ab.block≠g∧v.ownBlock≠some ab.block)
  (hC:Cd C (toL fa) na (toL fb) nb) (hna:na≤300) (hnb:nb≤300) (hka:okB fa na=true) (hkb:okB fb nb=true) (hu:Usd (toL fa) (toL fb) (Qas (Qac S) L)) (hm:m≤100000) (hS:S.size≤1000000) (hok:OkR S.size L) (hn:n≤100000000000) (hbits:Qaj (Qaw C (Qas (Qac S) L))≤100000000000):
  Calls Tryz.prog 61 #[.agg #[.slice p m cap,.string S],.pointer (some ⟨g,0,none⟩),.slice (some aa) na ca,.slice (some ab) nb cb] w fun e w'=>e= .returned (.tuple #[])∧
   ∃v',OW g (N+2^n*valN (Qaw C (Qas (Qac S) L))) (n+Qaj (Qaw C (Qas (Qac S) L))) v' w'∧Gg g v w v' w':=by
 have hlen:L.length=m:=by have:=h.len;rwa [List.length_map]at this
 have HLN:=Qh hlen;have HOK:=Qh hok;have HC:=Qh hC;have HU:=Qh hu;have HNN:=Qh (⟨hm,hS,hn,hbits⟩:m≤100000∧S.size≤1000000∧n≤100000000000∧Qaj (Qaw C (Qas (Qac S) L))≤100000000000);have HFA:Hid (∀i,i<na→fa i=(toL fa i:Int)):=Qh fun i hi=>by have:=Qbr.1 hka i hi;unfold toL;omega
 have HFB:Hid (∀i,i<nb→fb i=(toL fb i:Int)):=Qh fun i hi=>by have:=Qbr.1 hkb i hi;unfold toL;omega
 have HXA:Hid (∀i,i<na→Qa0 (toL fa) na i≤32768):=Qh fun i hi=>Nat.le_of_lt (Qi6 hC.la15 (by have:=hC.ka;omega) i hi)
 have HXB:Hid (∀i,i<nb→Qa0 (toL fb) nb i≤32768):=Qh fun i hi=>Nat.le_of_lt (Qi6 hC.lb15 (by have:=hC.kb;omega) i hi)
 have hb0:=(Below.refl _ w).alloc Ql (.cells #[.slice p m cap,.string S] 70);have hbx:=Blk.new w 70 #[.slice p m cap,.string S];obtain⟨wp,hwp⟩:∃wp,wp=w.alloc (.cells #[.slice p m cap,.string S] 70):=⟨_,rfl⟩;obtain⟨gx,hgx⟩:∃gx,gx=w.heap.size:=⟨_,rfl⟩;rw [←hwp]at hb0 hbx;rw [←hgx]at hbx;have C1:=Qde (some aa) na ca fa wp (ha.below hb0) hna hka (by have:=hC.ka;omega)
 have HWP:=Qh (⟨hwp,hgx⟩:wp=w.alloc (.cells #[.slice p m cap,.string S] 70)∧gx=w.heap.size);have H0:=Qh (⟨h0,h,hp,ha,hpa,hb,hpb,hbx,hb0,hnb,hkb⟩:OW g N n v w∧RS 2 p m cap (L.map encT) w∧(∀a,p=some a→a.block≠g∧v.ownBlock≠some a.block)∧IS (some aa) na ca fa w∧(aa.block≠g∧v.ownBlock≠some aa.block)∧IS (some ab) nb cb fb w∧(ab.block≠g∧v.ownBlock≠some ab.block)∧Blk wp gx 70 #[.slice p m cap,.string S]∧Below w.heap.size w wp∧nb≤300∧okB fb nb=true);clear h0 h hp ha hpa hb hpb hC hna hnb hka hkb hu hm hS hok hn hbits hlen hb0 hbx hwp hgx;go_enter Tryz.func61,Tryz.ntmps61;go_wp2_with fail;rw [←HWP.out.1,←HWP.out.2];refine C1.mono ?_;rintro e w2 ⟨rfl,i2,b2⟩;have hbw:=H0.out.2.2.2.2.2.2.2.2.1.trans (b2.mono H0.out.2.2.2.2.2.2.2.2.1.size);have C2:=Qde (some ab) nb cb fb w2 (H0.out.2.2.2.2.2.1.below hbw) H0.out.2.2.2.2.2.2.2.2.2.1 H0.out.2.2.2.2.2.2.2.2.2.2 (by have:=HC.out.kb;omega)
 have hs0:w.heap.size≤wp.heap.size:=H0.out.2.2.2.2.2.2.2.2.1.size;have HI2:=Qh i2;have hbxl:gx<wp.heap.size:=H0.out.2.2.2.2.2.2.2.1.lt;have HB2:=Qh (⟨b2,hbw⟩:Below wp.heap.size wp w2∧Below w.heap.size w w2);obtain⟨ac,hac⟩:∃ac:Addr,ac=⟨wp.heap.size,0,none⟩:=⟨_,rfl⟩;rw [←hac]at HI2;have HAC:=Qh hac;clear C1 i2 b2 hbw;go_wp2_with fail;refine C2.mono ?_;rintro e w0 ⟨rfl,i3,b3⟩;obtain⟨ad,had⟩:∃ad:Addr,ad=⟨w2.heap.size,0,none⟩:=⟨_,rfl⟩;rw [←had]at i3⊢;have hbw0:Below w.heap.size w w0:=HB2.out.2.trans (b3.mono HB2.out.2.size);have hgl:g<w.heap.size:=H0.out.1.blk.lt;have hvl:∀i,v.ownBlock=some i→i<w.heap.size:=fun i e=>(H0.out.1.ownB i e).2;have hs2:=HB2.out.2.size;have hsp2:=HB2.out.1.size;have hgx0:w.heap.size≤gx:=by rw [HWP.out.2];exact Ql
 have HK:Hid (∀v' wx,Gg g v w0 v' wx→RS 2 p m cap (L.map encT) wx∧IS (some aa) na ca fa wx∧IS (some ab) nb cb fb wx∧IS (some ac) na na (fun i=>(Qa0 (toL fa) na i:Int)) wx∧IS (some ad) nb nb (fun i=>(Qa0 (toL fb) nb i:Int)) wx∧Blk wx gx 70 #[.slice p m cap,.string S]):=Qh fun v' wx hg=>by
  refine⟨(H0.out.2.1.below hbw0).gg hg H0.out.2.2.1,(H0.out.2.2.2.1.below hbw0).gg hg (fun a e=>by cases e;exact H0.out.2.2.2.2.1),(H0.out.2.2.2.2.2.1.below hbw0).gg hg (fun a e=>by cases e;exact H0.out.2.2.2.2.2.2.1),(HI2.out.below b3).gg hg (fun a e=> ?_),i3.gg hg (fun a e=> ?_),((H0.out.2.2.2.2.2.2.2.1.below HB2.out.1 hbxl).below b3 (by omega)).gg hg ⟨by omega,fun e=>by have:=hvl _ e;omega⟩⟩
  ·cases e;rw [hac];exact⟨by show wp.heap.size≠g;omega,fun e=>by have:wp.heap.size<w.heap.size:=hvl _ e;omega⟩
  ·cases e;rw [had];exact⟨by show w2.heap.size≠g;omega,fun e=>by have:w2.heap.size<w.heap.size:=hvl _ e;omega⟩
 have HO0:Hid (OW g (N+2^n*valN (Qaw C (Qap (Qac S) (L.take 0) 0))) (n+Qaj (Qaw C (Qap (Qac S) (L.take 0) 0))) v w0):=Qh (by
  show OW g (N+2^n*0) (n+0) v w0
  rw [Nat.mul_zero,Nat.add_zero,Nat.add_zero];exact H0.out.1.below hbw0)
 have HBW:=Qh (⟨hbw0,hgl,hvl⟩:Below w.heap.size w w0∧g<w.heap.size∧∀i,v.ownBlock=some i→i<w.heap.size);clear C2 i3 b3 hbw0 hgl hvl hs2 hsp2 hgx0 hac had HI2 HB2 hs0 hbxl HWP H0;go_wp2_with fail;rw [←HAC.out];clear HAC;go_loopw [12,13] (fun u12 u13 wr=>∃(i at_:Nat) (v1:Value),u12= .int .i64 (at_:Int)∧u13= .int .i64 (i:Int)∧i≤m∧Hid (at_=sumT (L.take i))∧Hid (OW g (N+2^n*valN (Qaw C (Qap (Qac S) (L.take i) 0))) (n+Qaj (Qaw C (Qap (Qac S) (L.take i) 0))) v1 wr)∧Hid (Gg g v w0 v1 wr)) (fun _ u _=>m-(intOf u).toNat)
 case atStart=>exact⟨0,0,_,rfl,rfl,Nat.zero_le _,Qh rfl,HO0,Qh (Gg.refl _ _ _)⟩
 case round=>
  obtain⟨i,at_,v1,rfl,rfl,hi,HAT,HO,HG⟩:=hrel;clear HO0;have hkx:=HK.out v1 wr HG.out;have x0:=hkx.2.2.2.2.2.cell 0;have x1:=hkx.2.2.2.2.2.cell 1;obtain⟨lst,hlst⟩:∃lst,lst=Qaw C (Qap (Qac S) (L.take i) 0):=⟨_,rfl⟩;obtain⟨NA,hNA⟩:∃NA,NA=N+2^n*valN lst:=⟨_,rfl⟩;obtain⟨nA,hnA⟩:∃nA,nA=n+Qaj lst:=⟨_,rfl⟩;have hnb:nA≤200000000000:=by have:=HNN.out;have:=Qz8 C (Qac S) L i;rw [hnA,hlst];omega
  rw [←hlst,←hNA,←hnA]at HO;have HLST:=Qh (⟨hlst,hNA,hnA⟩:lst=Qaw C (Qap (Qac S) (L.take i) 0)∧NA=N+2^n*valN lst∧nA=n+Qaj lst);clear hlst hNA hnA;by_cases hlt:i<m
  ·have hlti:(i:Int)<(m:Int):=by omega
   have hiw:IntKind.i64.wrap ((i:Int)+1)=((i+1:Nat):Int):=by have:=HNN.out;rw [IntWalk.i64_in _ (by omega)];rfl
   obtain⟨a,rfl⟩:=hkx.1.some_ (by omega)
   have hil:i<L.length:=by rw [HLN.out];exact hlt
   obtain⟨hsum,hcase⟩:=HOK.out i hil;have hwt:=Qks (Qac S) L i hil;have hst:=Qop L i hil;have hget:(L.map encT)[i]? =some (encT (L[i]'hil)):=by rw [List.getElem?_map,List.getElem?_eq_getElem hil];rfl
   generalize L[i]'hil=t at hcase hwt hst hget;obtain⟨TX,TY⟩:=t;obtain⟨c0,c1⟩:=hkx.1.at2 hget;rw [←HAT.out]at hsum hcase hwt hst;have hmem:∀x∈Qeh (Qac S) at_ (TX,TY),x∈Qas (Qac S) L:=fun x hx=>by
    obtain⟨r,e⟩:=Qot (Qac S) L (i+1);rw [e,hwt];exact List.mem_append_left _ (List.mem_append_right _ hx)
   have HB1:=Qh (Blk.new wr 113 #[.int .i64 0,.int .i64 0]);have HZ2:=HB1.out.row_ #[.int .i64 (TX:Int),.int .i64 (TY:Int)];have hb2:=Qai ((Below.refl _ wr).alloc Ql (.cells #[.int .i64 0,.int .i64 0] 113)) Ql #[.int .i64 (TX:Int),.int .i64 (TY:Int)];obtain⟨w1,hW2⟩:∃W2,W2=(wr.alloc (.cells #[.int .i64 0,.int .i64 0] 113)).setRow wr.heap.size #[.int .i64 (TX:Int),.int .i64 (TY:Int)]:=⟨_,rfl⟩;rw [←hW2]at HZ2 hb2;have HWE:=Qh hW2;obtain⟨q5,hq5⟩:∃q5,q5=wr.heap.size:=⟨_,rfl⟩;have HQ5:=Qh hq5;rw [←hq5]at HZ2;have HSZ:=Qh Qou;have HO1:=Qh (HO.out.below hb2);have HG1:Hid (Gg g v w0 v1 w1):=Qh (HG.out.trans (Gg.of hb2));have HQT:Hid (Blk w1 q5 113 #[.int .i64 (TX:Int),.int .i64 (TY:Int)]):=Qh HZ2;have HQN:Hid (q5≠g∧v1.ownBlock≠some q5):=Qh ⟨by have:=HO.out.blk.lt;omega,fun e=>by have:=(HO.out.ownB _ e).2;omega⟩
   have hk1:=HK.out v1 w1 HG1.out;have y0:=hk1.2.2.2.2.2.cell 0;have y1:=hk1.2.2.2.2.2.cell 1;have e0:=HZ2.cell 0;have e1:=HZ2.cell 1;have HKN:=Qh hlt;have HAN:=Qh hsum;have HWT:=Qh (⟨hwt,hst,hmem⟩:Qap (Qac S) (L.take (i+1)) 0=Qap (Qac S) (L.take i) 0++Qeh (Qac S) at_ (TX,TY)∧sumT (L.take (i+1))=at_+TX∧∀x∈Qeh (Qac S) at_ (TX,TY),x∈Qas (Qac S) L);clear hget hil hlt hW2 hq5 HZ2 hb2 HG HO hsum hwt hst hmem hkx;rcases hcase with⟨ht,hat⟩|⟨hx1,hx2,hy1,hy2⟩
   ·have hX:TX=1:=congrArg Prod.fst ht;have hY:TY=0:=congrArg Prod.snd ht;subst hX;subst hY;replace HWE:Hid (w1=(wr.alloc (.cells #[.int .i64 0,.int .i64 0] 113)).setRow wr.heap.size #[.int .i64 1,.int .i64 0]):=HWE;replace e0:w1.cell? ⟨q5,0,none⟩=some (.int .i64 1):=e0;replace e1:w1.cell? ⟨q5,1,none⟩=some (.int .i64 0):=e1;replace c0:wr.cell? (a.add (i*2))=some (.int .i64 1):=c0;replace c1:wr.cell? ⟨(a.add (i*2)).block,(a.add (i*2)).off+1,none⟩=some (.int .i64 0):=c1;obtain⟨y,hy⟩:∃y,y=Qac S at_:=⟨_,rfl⟩;have hy8:y<256:=by rw [hy];exact Qaz _ _
    have hati:(at_:Int)<(S.size:Int):=by omega
    have hby:(S[at_]'hat).toNat=y:=by rw [hy];exact Qa2 S at_ hat
    have hw1:Qeh (Qac S) at_ (1,0)=[((y:Int),(0,0))]:=by rw [hy];rfl
    have hl0:toL fa y≠0:=by
     rcases HU.out _ (HWT.out.2.2 _ (by rw [hw1];exact .head _))with ⟨j,e,_,hh⟩|⟨j,e,_,_⟩
     ·have:y=j:=by have e:(y:Int)=(j:Int):=e;omega
      rw [this];exact hh
     ·have e:(y:Int)=((286+j:Nat):Int):=e;omega
    obtain⟨hyn,hCy⟩:=HC.out.a y (by omega) hl0
    obtain⟨X,hX⟩:∃X,X=Qa0 (toL fa) na y:=⟨_,rfl⟩;obtain⟨K,hK⟩:∃K,K=toL fa y:=⟨_,rfl⟩;have hXl:X≤32768:=by rw [hX];exact HXA.out y hyn
    have hKl:K≤15:=by rw [hK];exact HC.out.la15 y hyn
    have hyni:(y:Int)<(na:Int):=by omega
    have hatw:IntKind.i64.wrap ((at_:Int)+1)=((at_+1:Nat):Int):=by have:=HAN.out;rw [IntWalk.i64_in _ (by omega)];rfl
    have HT0:Hid (∀wx,CT g v1 w1 (NA+2^nA*revN K X) (nA+K) false wx→wx.cell? (ac.add y)=some (.int .i64 (X:Int))∧wx.cell? (aa.add y)=some (.int .i64 (K:Int))∧wx.cell? ⟨gx,1,none⟩=some (.string S)∧Calls Tryz.prog 95 #[.pointer (some ⟨g,0,none⟩),.int .i64 (X:Int),.int .i64 (K:Int)] wx fun e w'=>e= .returned (.tuple #[])∧CT g v1 w1 (NA+2^nA*revN K X) (nA+K) true w'):=Qh fun wx hT=>by
     obtain⟨e,hc⟩:=CT.code HO1.out X K (by omega) (by omega) (by omega) hT
     refine⟨?_,?_,?_,hc⟩
     ·rw [e];have:=hk1.2.2.2.1.cell ac rfl y hyn;rw [←hX]at this;exact this
     ·rw [e];have:=hk1.2.1.cell aa rfl y hyn;rw [HFA.out y hyn,←hK]at this;exact this
     ·rw [e];exact y1
    have HNX:Hid (NA+2^nA*revN K X=N+2^n*valN (Qaw C (Qap (Qac S) (L.take (i+1)) 0))∧nA+K=n+Qaj (Qaw C (Qap (Qac S) (L.take (i+1)) 0))):=Qh (by
     have h1:=Qb4 HLST.out.2.1 HLST.out.2.2 (revN K X) K;have h2:Qaw C (Qap (Qac S) (L.take (i+1)) 0)=lst++[(revN K X,K)]++[(0,0)]:=by
      rw [HWT.out.1,hw1,Qea,HLST.out.1];show _++[C.getD (Int.toNat (y:Int)) (0,0),(0,0)]=_;rw [Int.toNat_natCast,hCy,←hX,←hK,List.append_assoc];rfl
     rw [h2,Qco (lst++[(revN K X,K)]) [(0,0)],Qa6 (lst++[(revN K X,K)]) [(0,0)]];have h3:valN [((0:Nat),(0:Nat))]=0:=rfl;have h4:Qaj [((0:Nat),(0:Nat))]=0:=rfl;rw [h3,h4,Nat.mul_zero,Nat.add_zero,Nat.add_zero];exact h1)
    have HAT2:Hid (at_+1=sumT (L.take (i+1))):=Qh (by rw [HWT.out.2.1])
    clear hX hK hXl hKl hy hw1 hl0 hCy hk1 ht hyn HAT;go_wp2_with (refine wpList_store_row rfl 113 _ _ rfl wr.heap.size #[.int .i64 1,.int .i64 0] rfl rfl 113 _ HB1.out HSZ.out rfl (Qjf _ _) ?_;rw [←HWE.out,←HQ5.out]);obtain⟨N1,hN1⟩:∃N1,N1=NA+2^nA*revN K X:=⟨_,rfl⟩;obtain⟨n1,hn1⟩:∃n1,n1=nA+K:=⟨_,rfl⟩;rw [←hN1,←hn1]at HT0 HNX;clear hN1 hn1;refine Qad (Two 15 1001 fun b _ wx=>CT g v1 w1 N1 n1 b wx) (by kernel_rfl) (CT.start _ _ _ _ _) ?_
    refine tA (i:=0) rfl rfl ?_;simp only [pu];refine tA (i:=1) rfl rfl ?_;simp only [pu];refine tV (i:=2) (v:= .pointer (some ⟨gx,1,none⟩)) rfl rfl ?_;simp only [pu];refine Qaa (i:=3) (v:= .string S) rfl (Qah (n:=9) rfl (fun f2 wx hT=> ?_)) ?_
    ·have cc:=(HT0.out wx hT).2.2.1;refine Qab (w:=wx) ?_ hT;go_simp;skip
    simp only [pu];refine tA (i:=4) rfl rfl ?_;simp only [pu];refine tV (i:=5) (v:= .int .u8 (y:Int)) rfl rfl ?_;simp only [pu];refine tV (i:=6) (v:= .pointer (some (ac.add y))) rfl rfl ?_;simp only [pu];refine Qaa (i:=7) (v:= .int .i64 (X:Int)) rfl (Qah (n:=9) rfl (fun f2 wx hT=> ?_)) ?_
    ·have cc:=(HT0.out wx hT).1;refine Qab (w:=wx) ?_ hT;go_simp;skip
    simp only [pu];refine tA (i:=8) rfl rfl ?_;simp only [pu];refine tV (i:=9) (v:= .pointer (some ⟨gx,1,none⟩)) rfl rfl ?_;simp only [pu];refine Qaa (i:=10) (v:= .string S) rfl (Qah (n:=9) rfl (fun f2 wx hT=> ?_)) ?_
    ·have cc:=(HT0.out wx hT).2.2.1;refine Qab (w:=wx) ?_ hT;go_simp;skip
    simp only [pu];refine tA (i:=11) rfl rfl ?_;simp only [pu];refine tV (i:=12) (v:= .int .u8 (y:Int)) rfl rfl ?_;simp only [pu];refine tV (i:=13) (v:= .pointer (some (aa.add y))) rfl rfl ?_;simp only [pu];refine Qaa (i:=14) (v:= .int .i64 (K:Int)) rfl (Qah (n:=9) rfl (fun f2 wx hT=> ?_)) ?_
    ·have cc:=(HT0.out wx hT).2.1;refine Qab (w:=wx) ?_ hT;go_simp;skip
    simp only [pu];refine Qaa (i:=15) (v:= .tuple #[]) rfl (Qa5 (by decide) rfl (fun f2 wx hT=> ?_)) ?_
    ·refine Qao (f:=95) (HT0.out wx hT).2.2.2 ?_;go_simp;skip
    simp only [pu];refine Qag rfl ?_ _;intro wx hT;obtain⟨v2,o2,g2⟩:=CT.done hT;have f0:=(HQT.out.gg g2 HQN.out).cell 0;replace f0:wx.cell? ⟨q5,0,none⟩=some (.int .i64 1):=f0;have HO2:Hid (OW g (N+2^n*valN (Qaw C (Qap (Qac S) (L.take (i+1)) 0))) (n+Qaj (Qaw C (Qap (Qac S) (L.take (i+1)) 0))) v2 wx):=Qh (by rw [←HNX.out.1,←HNX.out.2];exact o2)
    have HG2:=Qh (HG1.out.trans g2);clear HT0 hT o2 g2 e0 e1 c0 c1 x0 x1 y0 y1;go_wp2_with fail;exact⟨⟨i+1,at_+1,v2,by go_num,by go_num,by have:=HKN.out;omega,HAT2,HO2,HG2⟩,by simp only [intOf];have:=HKN.out;omega⟩
   ·have CL:=Qoj TX hx1 hx2;have CD:=Qoi TY hy1 hy2;obtain⟨i1,hi1,ei1,hl1⟩:=Qpx hx1 hx2;obtain⟨j1,hj1,ej1,hl2⟩:=Qpg hy1;have hf1:=(Qmk hx1 hx2).1;rw [ei1]at hf1;dsimp only at hf1;have hf2:=(Ql5 hy1 hy2).1;rw [ej1]at hf2;dsimp only at hf2;have hwd:Qeh (Qac S) at_ (TX,TY)=[(((257+i1:Nat):Int),(TX-lenB i1,lenX i1)),(((286+j1:Nat):Int),(TY-Qbe j1,Qb2 j1))]:=by
     unfold Qeh;rw [if_neg (show¬TX=1 by omega)]
     show [((((lenW TX).1:Nat):Int),(lenW TX).2),((((disW TY).1:Nat):Int),(disW TY).2)]=_
     rw [ei1,ej1]
    obtain⟨A1,hA1⟩:∃A1,A1=257+i1:=⟨_,rfl⟩;have hlA:toL fa A1≠0:=by
     rcases HU.out _ (HWT.out.2.2 _ (by rw [hwd];exact .head _))with ⟨j,e,_,hh⟩|⟨j,e,_,_⟩
     ·have:A1=j:=by have e:((257+i1:Nat):Int)=(j:Int):=e;omega
      rw [this];exact hh
     ·have e:((257+i1:Nat):Int)=((286+j:Nat):Int):=e;omega
    have hlB:toL fb j1≠0:=by
     rcases HU.out _ (HWT.out.2.2 _ (by rw [hwd];exact .tail _ (.head _)))with ⟨j,e,_,_⟩|⟨j,e,_,hh⟩
     ·have e:((286+j1:Nat):Int)=(j:Int):=e;omega
     ·have:j1=j:=by have e:((286+j1:Nat):Int)=((286+j:Nat):Int):=e;omega
      rw [this];exact hh
    obtain⟨hAn,hCA⟩:=HC.out.a A1 (by omega) hlA
    obtain⟨hjn,hCB⟩:=HC.out.b j1 hj1 hlB;obtain⟨X,hX⟩:∃X,X=Qa0 (toL fa) na A1:=⟨_,rfl⟩;obtain⟨K,hK⟩:∃K,K=toL fa A1:=⟨_,rfl⟩;obtain⟨X2,hX2⟩:∃X,X=Qa0 (toL fb) nb j1:=⟨_,rfl⟩;obtain⟨K2,hK2⟩:∃K,K=toL fb j1:=⟨_,rfl⟩;have hXl:X≤32768:=by rw [hX];exact HXA.out A1 hAn
    have hKl:K≤15:=by rw [hK];exact HC.out.la15 A1 hAn
    have hXl2:X2≤32768:=by rw [hX2];exact HXB.out j1 hjn
    have hKl2:K2≤15:=by rw [hK2];exact HC.out.lb15 j1 hjn
    obtain⟨E1,hE1⟩:∃E1,E1=TX-lenB i1:=⟨_,rfl⟩;obtain⟨E2,hE2⟩:∃E2,E2=TY-Qbe j1:=⟨_,rfl⟩;obtain⟨B1,hB1⟩:∃B1,B1=lenX i1:=⟨_,rfl⟩;obtain⟨B2,hB2⟩:∃B2,B2=Qb2 j1:=⟨_,rfl⟩;have hB1l:B1≤5:=by rw [hB1];unfold lenX Qgt;split<;>omega
    have hB2l:B2≤13:=by rw [hB2];unfold Qb2;omega
    have hEw1:IntKind.i64.wrap ((TX:Int)-(lenB i1:Int))=(E1:Int):=by rw [IntWalk.i64_in _ (by omega)];omega
    have hEw2:IntKind.i64.wrap ((TY:Int)-(Qbe j1:Int))=(E2:Int):=by rw [IntWalk.i64_in _ (by omega)];omega
    have hAni:(A1:Int)<(na:Int):=by omega
    have hjni:(j1:Int)<(nb:Int):=by omega
    have hyne:((TY:Int)==0)=false:=beq_eq_false_iff_ne.2 (by omega)
    have hatw:IntKind.i64.wrap ((at_:Int)+(TX:Int))=((at_+TX:Nat):Int):=by have:=HAN.out;rw [IntWalk.i64_in _ (by omega)];rfl
    obtain⟨N1,hN1⟩:∃N1,N1=NA+2^nA*revN K X:=⟨_,rfl⟩;obtain⟨n1,hn1⟩:∃n1,n1=nA+K:=⟨_,rfl⟩;obtain⟨N2,hN2⟩:∃N2,N2=N1+2^n1*(E1%2^B1):=⟨_,rfl⟩;obtain⟨n2,hn2⟩:∃n2,n2=n1+B1:=⟨_,rfl⟩;obtain⟨N3,hN3⟩:∃N3,N3=N2+2^n2*revN K2 X2:=⟨_,rfl⟩;obtain⟨n3,hn3⟩:∃n3,n3=n2+K2:=⟨_,rfl⟩;have HNX:Hid (N3+2^n3*(E2%2^B2)=N+2^n*valN (Qaw C (Qap (Qac S) (L.take (i+1)) 0))∧n3+B2=n+Qaj (Qaw C (Qap (Qac S) (L.take (i+1)) 0))):=Qh (by
     have q1:=Qb4 HLST.out.2.1 HLST.out.2.2 (revN K X) K;rw [←hN1,←hn1]at q1;have q2:=Qb4 q1.1 q1.2 E1 B1;have m1:E1%2^B1=E1:=Nat.mod_eq_of_lt (by rw [hE1,hB1];exact hf1)
     have m2:E2%2^B2=E2:=Nat.mod_eq_of_lt (by rw [hE2,hB2];exact hf2)
     rw [m1]at hN2;rw [←hN2,←hn2]at q2;have q3:=Qb4 q2.1 q2.2 (revN K2 X2) K2;rw [←hN3,←hn3]at q3;have q4:=Qb4 q3.1 q3.2 E2 B2;have h2:Qaw C (Qap (Qac S) (L.take (i+1)) 0)=lst++[(revN K X,K)]++[(E1,B1)]++[(revN K2 X2,K2)]++[(E2,B2)]:=by
      rw [HWT.out.1,hwd,Qea,HLST.out.1];show _++[C.getD (Int.toNat ((257+i1:Nat):Int)) (0,0),(TX-lenB i1,lenX i1),C.getD (Int.toNat ((286+j1:Nat):Int)) (0,0),(TY-Qbe j1,Qb2 j1)]=_;rw [Int.toNat_natCast,Int.toNat_natCast,←hA1,hCA,hCB,←hX,←hK,←hX2,←hK2,←hE1,←hB1,←hE2,←hB2];simp only [List.append_assoc];rfl
     rw [h2,m2];exact q4)
    have HT1:Hid (∀wx,CT g v1 w1 N1 n1 false wx→wx.cell? (ac.add A1)=some (.int .i64 (X:Int))∧wx.cell? (aa.add A1)=some (.int .i64 (K:Int))∧Calls Tryz.prog 95 #[.pointer (some ⟨g,0,none⟩),.int .i64 (X:Int),.int .i64 (K:Int)] wx fun e w'=>e= .returned (.tuple #[])∧CT g v1 w1 N1 n1 true w'):=Qh fun wx hT=>by
     rw [hN1,hn1]at hT⊢;obtain⟨e,hc⟩:=CT.code HO1.out X K (by omega) (by omega) (by omega) hT
     refine⟨?_,?_,hc⟩
     ·rw [e];have:=hk1.2.2.2.1.cell ac rfl A1 hAn;rw [←hX]at this;exact this
     ·rw [e];have:=hk1.2.1.cell aa rfl A1 hAn;rw [HFA.out A1 hAn,←hK]at this;exact this
    have HT3:Hid (∀v3 w3,OW g N2 n2 v3 w3→Gg g v w0 v3 w3→∀wx,CT g v3 w3 N3 n3 false wx→wx.cell? (ad.add j1)=some (.int .i64 (X2:Int))∧wx.cell? (ab.add j1)=some (.int .i64 (K2:Int))∧Calls Tryz.prog 95 #[.pointer (some ⟨g,0,none⟩),.int .i64 (X2:Int),.int .i64 (K2:Int)] wx fun e w'=>e= .returned (.tuple #[])∧CT g v3 w3 N3 n3 true w'):=Qh fun v3 w3 ho hg wx hT=>by
     have hk3:=HK.out v3 w3 hg;rw [hN3,hn3]at hT⊢;obtain⟨e,hc⟩:=CT.code ho X2 K2 (by omega) (by omega) (by omega) hT
     refine⟨?_,?_,hc⟩
     ·rw [e];have:=hk3.2.2.2.2.1.cell ad rfl j1 hjn;rw [←hX2]at this;exact this
     ·rw [e];have:=hk3.2.2.1.cell ab rfl j1 hjn;rw [HFB.out j1 hjn,←hK2]at this;exact this
    have HLIM:=Qh (⟨by omega,by omega,by omega,by omega,by omega,by omega,hN2,hn2⟩:E1≤1000000000∧E2≤1000000000∧B1≤60∧B2≤60∧n1≤900000000000∧n3≤900000000000∧N2=N1+2^n1*(E1%2^B1)∧n2=n1+B1)
    have HAT2:Hid (at_+TX=sumT (L.take (i+1))):=Qh (by rw [HWT.out.2.1])
    have HEI:=Qh (⟨ei1,hA1,ej1⟩:lenW TX=(257+i1,TX-lenB i1,lenX i1)∧A1=257+i1∧disW TY=(286+j1,TY-Qbe j1,Qb2 j1));have HBX:=Qh (⟨hB1,hB2⟩:B1=lenX i1∧B2=Qb2 j1);clear hX hK hX2 hK2 hXl hKl hXl2 hKl2 hlA hlB hCA hCB hk1 hAn hjn HAT hN1 hn1 hN2 hn2 hN3 hn3 hE1 hE2 hB1 hB2 hB1l hB2l hf1 hf2 hwd ei1 ej1 hA1 hl1 hl2 hi1 hx1 hx2 hy1 hy2 hnb;go_wp2_with (refine wpList_store_row rfl 113 _ _ rfl wr.heap.size #[.int .i64 (TX:Int),.int .i64 (TY:Int)] rfl rfl 113 _ HB1.out HSZ.out rfl (Qjf _ _) ?_;rw [←HWE.out,←HQ5.out]);refine(CL w1).mono ?_;rintro e w4 ⟨i2,hi2,ei2,_,rfl,rfl⟩;have hii:i2=i1:=by have h:=HEI.out.1;rw [ei2]at h;have:=congrArg Prod.fst h;simp only at this;omega
    subst hii;rw [←HEI.out.2.1,←HBX.out.1];clear ei2 CL hi2;go_wp2_with fail;refine(CD _).mono ?_;rintro e w5 ⟨j2,hj2,ej2,_,rfl,rfl⟩;have hjj:j2=j1:=by have h:=HEI.out.2.2;rw [ej2]at h;have:=congrArg Prod.fst h;simp only at this;omega
    subst hjj;rw [←HBX.out.2];clear ej2 CD hj2;go_wp2_with fail;refine Qad (Two 9 1001 fun b _ wx=>CT g v1 w5 N1 n1 b wx) (by kernel_rfl) (CT.start _ _ _ _ _) ?_
    refine tA (i:=0) rfl rfl ?_;simp only [pu];refine tA (i:=1) rfl rfl ?_;simp only [pu];refine tA (i:=2) rfl rfl ?_;simp only [pu];refine tV (i:=3) (v:= .pointer (some (ac.add A1))) rfl rfl ?_;simp only [pu];refine Qaa (i:=4) (v:= .int .i64 (X:Int)) rfl (Qah (n:=9) rfl (fun f2 wx hT=> ?_)) ?_
    ·have cc:=(HT1.out wx hT).1;refine Qab (w:=wx) ?_ hT;go_simp;skip
    simp only [pu];refine tA (i:=5) rfl rfl ?_;simp only [pu];refine tA (i:=6) rfl rfl ?_;simp only [pu];refine tV (i:=7) (v:= .pointer (some (aa.add A1))) rfl rfl ?_;simp only [pu];refine Qaa (i:=8) (v:= .int .i64 (K:Int)) rfl (Qah (n:=9) rfl (fun f2 wx hT=> ?_)) ?_
    ·have cc:=(HT1.out wx hT).2.1;refine Qab (w:=wx) ?_ hT;go_simp;skip
    simp only [pu];refine Qaa (i:=9) (v:= .tuple #[]) rfl (Qa5 (by decide) rfl (fun f2 wx hT=> ?_)) ?_
    ·refine Qao (f:=95) (HT1.out wx hT).2.2 ?_;go_simp;skip
    simp only [pu];refine Qag rfl ?_ _;intro wA hT;obtain⟨vA,oA,gA⟩:=CT.done hT;have HOA:=Qh oA;have HGA:=Qh (HG1.out.trans gA);have hqA:=HQT.out.gg gA HQN.out;have HQA:=Qh (⟨hqA,HQN.out.1,gA.ne HQN.out.2 HQT.out.lt⟩:Blk wA q5 113 #[.int .i64 (TX:Int),.int .i64 (TY:Int)]∧q5≠g∧vA.ownBlock≠some q5);have f0:=hqA.cell 0;replace f0:wA.cell? ⟨q5,0,none⟩=some (.int .i64 (TX:Int)):=f0;have CN:=Qbd g N1 n1 vA E1 B1 wA oA HLIM.out.1 HLIM.out.2.2.1 (by have:=HLIM.out;omega)
    rw [←HLIM.out.2.2.2.2.2.2.1,←HLIM.out.2.2.2.2.2.2.2]at CN;clear HT1 hT oA gA hqA e0 e1 c0 c1 x0 x1 y0 y1;go_wp2_with fail;refine CN.mono ?_;rintro e wB ⟨rfl,vB,oB,gB⟩;have HOB:=Qh oB;have HGB:=Qh (HGA.out.trans gB);have HQB:=Qh (⟨HQA.out.1.gg gB HQA.out.2,HQA.out.2.1,gB.ne HQA.out.2.2 HQA.out.1.lt⟩:Blk wB q5 113 #[.int .i64 (TX:Int),.int .i64 (TY:Int)]∧q5≠g∧vB.ownBlock≠some q5);have HT0:=Qh (HT3.out vB wB HOB.out HGB.out);clear CN oB gB f0 HT3;go_wp2_with fail;refine Qad (Two 9 1001 fun b _ wx=>CT g vB wB N3 n3 b wx) (by kernel_rfl) (CT.start _ _ _ _ _) ?_
    refine tA (i:=0) rfl rfl ?_;simp only [pu];refine tA (i:=1) rfl rfl ?_;simp only [pu];refine tA (i:=2) rfl rfl ?_;simp only [pu];refine tV (i:=3) (v:= .pointer (some (ad.add j2))) rfl rfl ?_;simp only [pu];refine Qaa (i:=4) (v:= .int .i64 (X2:Int)) rfl (Qah (n:=9) rfl (fun f2 wx hT=> ?_)) ?_
    ·have cc:=(HT0.out wx hT).1;refine Qab (w:=wx) ?_ hT;go_simp;skip
    simp only [pu];refine tA (i:=5) rfl rfl ?_;simp only [pu];refine tA (i:=6) rfl rfl ?_;simp only [pu];refine tV (i:=7) (v:= .pointer (some (ab.add j2))) rfl rfl ?_;simp only [pu];refine Qaa (i:=8) (v:= .int .i64 (K2:Int)) rfl (Qah (n:=9) rfl (fun f2 wx hT=> ?_)) ?_
    ·have cc:=(HT0.out wx hT).2.1;refine Qab (w:=wx) ?_ hT;go_simp;skip
    simp only [pu];refine Qaa (i:=9) (v:= .tuple #[]) rfl (Qa5 (by decide) rfl (fun f2 wx hT=> ?_)) ?_
    ·refine Qao (f:=95) (HT0.out wx hT).2.2 ?_;go_simp;skip
    simp only [pu];refine Qag rfl ?_ _;intro wC hT;obtain⟨vC,oC,gC⟩:=CT.done hT;have HOC:=Qh oC;have HGC:=Qh (HGB.out.trans gC);have hqC:=HQB.out.1.gg gC HQB.out.2;have HQC:=Qh (⟨hqC,HQB.out.2.1,gC.ne HQB.out.2.2 HQB.out.1.lt⟩:Blk wC q5 113 #[.int .i64 (TX:Int),.int .i64 (TY:Int)]∧q5≠g∧vC.ownBlock≠some q5);have f1:=hqC.cell 1;replace f1:wC.cell? ⟨q5,1,none⟩=some (.int .i64 (TY:Int)):=f1;have CN:=Qbd g N3 n3 vC E2 B2 wC oC HLIM.out.2.1 HLIM.out.2.2.2.1 (by have:=HLIM.out;omega)
    clear HT0 hT oC gC hqC;go_wp2_with fail;refine CN.mono ?_;rintro e wD ⟨rfl,vD,oD,gD⟩;have HOD:Hid (OW g (N+2^n*valN (Qaw C (Qap (Qac S) (L.take (i+1)) 0))) (n+Qaj (Qaw C (Qap (Qac S) (L.take (i+1)) 0))) vD wD):=Qh (by rw [←HNX.out.1,←HNX.out.2];exact oD)
    have HGD:=Qh (HGC.out.trans gD);have f0:=(HQC.out.1.gg gD HQC.out.2).cell 0;replace f0:wD.cell? ⟨q5,0,none⟩=some (.int .i64 (TX:Int)):=f0;clear CN oD gD f1;go_wp2_with fail;exact⟨⟨i+1,at_+TX,vD,by go_num,by go_num,by have:=HKN.out;omega,HAT2,HOD,HGD⟩,by simp only [intOf];have:=HKN.out;omega⟩
  ·obtain rfl:i=m:=by omega
   have hlti:¬(i:Int)<(i:Int):=by omega
   have HE:Hid (L.take i=L):=Qh (List.take_of_length_le (by rw [HLN.out];exact Ql))
   have h256:((256:Int),(0:Nat),(0:Nat))∈Qas (Qac S) L:=by unfold Qas;exact List.mem_append_right _ (.head _)
   have hl0:toL fa 256≠0:=by
    rcases HU.out _ h256 with⟨j,e,_,hh⟩|⟨j,e,_,_⟩
    ·have:256=j:=by have e:(256:Int)=(j:Int):=e;omega
     rw [this];exact hh
    ·have e:(256:Int)=((286+j:Nat):Int):=e;omega
   obtain⟨hyn,hCy⟩:=HC.out.a 256 (by decide) hl0
   obtain⟨X,hX⟩:∃X,X=Qa0 (toL fa) na 256:=⟨_,rfl⟩;obtain⟨K,hK⟩:∃K,K=toL fa 256:=⟨_,rfl⟩;have hXl:X≤32768:=by rw [hX];exact HXA.out 256 hyn
   have hKl:K≤15:=by rw [hK];exact HC.out.la15 256 hyn
   have hyni:(256:Int)<(na:Int):=by omega
   obtain⟨w1,hw1⟩:∃w1,w1=wr:=⟨_,rfl⟩;rw [←hw1]at HO HG hkx x0 x1⊢;clear hw1;have HT0:Hid (∀wx,CT g v1 w1 (NA+2^nA*revN K X) (nA+K) false wx→wx.cell? ⟨ac.block,ac.off+256,none⟩=some (.int .i64 (X:Int))∧wx.cell? ⟨aa.block,aa.off+256,none⟩=some (.int .i64 (K:Int))∧Calls Tryz.prog 95 #[.pointer (some ⟨g,0,none⟩),.int .i64 (X:Int),.int .i64 (K:Int)] wx fun e w'=>e= .returned (.tuple #[])∧CT g v1 w1 (NA+2^nA*revN K X) (nA+K) true w'):=Qh fun wx hT=>by
    obtain⟨e,hc⟩:=CT.code HO.out X K (by omega) (by omega) (by omega) hT
    refine⟨?_,?_,hc⟩
    ·rw [e];have:=hkx.2.2.2.1.cell ac rfl 256 hyn;rw [←hX,Qfp ac 256 (by decide)]at this;exact this
    ·rw [e];have:=hkx.2.1.cell aa rfl 256 hyn;rw [HFA.out 256 hyn,←hK,Qfp aa 256 (by decide)]at this;exact this
   have HNX:Hid (NA+2^nA*revN K X=N+2^n*valN (Qaw C (Qas (Qac S) L))∧nA+K=n+Qaj (Qaw C (Qas (Qac S) L))):=Qh (by
    have h1:=Qb4 HLST.out.2.1 HLST.out.2.2 (revN K X) K;have h2:Qaw C (Qas (Qac S) L)=lst++[(revN K X,K)]++[(0,0)]:=by
     unfold Qas;rw [Qea,HLST.out.1,HE.out];show _++[C.getD 256 (0,0),(0,0)]=_;rw [hCy,←hX,←hK,List.append_assoc];rfl
    rw [h2,Qco (lst++[(revN K X,K)]) [(0,0)],Qa6 (lst++[(revN K X,K)]) [(0,0)]];have h3:valN [((0:Nat),(0:Nat))]=0:=rfl;have h4:Qaj [((0:Nat),(0:Nat))]=0:=rfl;rw [h3,h4,Nat.mul_zero,Nat.add_zero,Nat.add_zero];exact h1)
   have HBG:=Qh (HBW.out.1);clear hX hK hXl hKl hl0 hCy hyn h256;go_wp2_with fail;obtain⟨N1,hN1⟩:∃N1,N1=NA+2^nA*revN K X:=⟨_,rfl⟩;obtain⟨n1,hn1⟩:∃n1,n1=nA+K:=⟨_,rfl⟩;rw [←hN1,←hn1]at HT0 HNX;clear hN1 hn1;refine Qad (Two 7 1001 fun b _ wx=>CT g v1 w1 N1 n1 b wx) (by kernel_rfl) (CT.start _ _ _ _ _) ?_
   refine tA (i:=0) rfl rfl ?_;simp only [pu];refine tA (i:=1) rfl rfl ?_;simp only [pu];refine tV (i:=2) (v:= .pointer (some (ac.add 256))) rfl rfl ?_;simp only [pu];refine Qaa (i:=3) (v:= .int .i64 (X:Int)) rfl (Qah (n:=9) rfl (fun f2 wx hT=> ?_)) ?_
   ·have cc:=(HT0.out wx hT).1;refine Qab (w:=wx) ?_ hT;go_simp;skip
   simp only [pu];refine tA (i:=4) rfl rfl ?_;simp only [pu];refine tV (i:=5) (v:= .pointer (some (aa.add 256))) rfl rfl ?_;simp only [pu];refine Qaa (i:=6) (v:= .int .i64 (K:Int)) rfl (Qah (n:=9) rfl (fun f2 wx hT=> ?_)) ?_
   ·have cc:=(HT0.out wx hT).2.1;refine Qab (w:=wx) ?_ hT;go_simp;skip
   simp only [pu];refine Qaa (i:=7) (v:= .tuple #[]) rfl (Qa5 (by decide) rfl (fun f2 wx hT=> ?_)) ?_
   ·refine Qao (f:=95) (HT0.out wx hT).2.2 ?_;go_simp;skip
   simp only [pu];refine Qag rfl ?_ _;intro wx hT;obtain⟨v2,o2,g2⟩:=CT.done hT;have HO2:Hid (OW g (N+2^n*valN (Qaw C (Qas (Qac S) L))) (n+Qaj (Qaw C (Qas (Qac S) L))) v2 wx):=Qh (by rw [←HNX.out.1,←HNX.out.2];exact o2)
   have HG2:Hid (Gg g v w v2 wx):=Qh (((Gg.of HBW.out.1).trans HG.out).trans g2);clear HT0 hT o2 g2 x0 x1;go_wp2_with fail;go_end0;exact⟨rfl,v2,HO2.out,HG2.out⟩
theorem Qq9:∀i,i<288→fixA.getD i 0=if i>143∧i<256 then 9 else if i>255∧i<280 then 7 else 8:=by decide+kernel
theorem Qhb (f:Nat→Int) (n:Nat):Qam f (n+1)=Qam f n++[f n]:=by simp [Qam,List.range_succ]
theorem Qog (w:World):
  Calls Tryz.prog 60 #[] w fun e w'=>∃a1 c1 z,e= .returned (.tuple #[.slice (some a1) 288 c1,.slice (some ⟨z,0,none⟩) 32 32])∧IS (some a1) 288 c1 (numF fixA) w'∧Blk w' z 3 (rI 32 (numF fixB))∧Below w.heap.size w w'∧w.heap.size≤a1.block∧w.heap.size≤z:=by
 have hmk:∀w,(Instr.makeSlice 92 (.int .i64 32) (.int .i64 32)).run Tryz.prog w= .ok (.slice (some ⟨w.heap.size,0,none⟩) 32 32) (w.alloc (.cells (rI 32 fun _=>0) 3)):=fun w=>Qdo 32 (by decide) w
 have HMK:=Qh hmk;have HL0:Hid (LS 3 1 w.heap.size w ((Qam (numF fixA) 0).map encI) (.slice none 0 0) w):=Qh (LS.nil Qb Ql);clear hmk;go_enter Tryz.func60,Tryz.ntmps60;go_wp2_with fail;go_loopw [2,3] (fun u2 u3 wr=>∃(i:Nat) (v:Value),v=u2∧u3= .int .i64 (i:Int)∧i≤288∧Hid (LS 3 1 w.heap.size w ((Qam (numF fixA) i).map encI) v wr)) (fun _ u _=>288-(intOf u).toNat)
 case atStart=>exact⟨0,_,rfl,rfl,Nat.zero_le _,HL0⟩
 case round=>
  obtain⟨i,v,rfl,rfl,hi,HL⟩:=hrel;clear HL0;by_cases hlt:i<288
  ·have hlti:(i:Int)<288:=by omega
   have hiw:IntKind.i64.wrap ((i:Int)+1)=((i+1:Nat):Int):=by rw [IntWalk.i64_in _ (by omega)];rfl
   have HLN:Hid (((Qam (numF fixA) i).map encI).length≤999999999999):=Qh (by rw [List.length_map,Qaq];omega)
   have hval:=Qq9 i hlt;have HKN:=Qh hlt;by_cases h1:i>143∧i<256
   ·have g1:(i:Int)>143:=by omega
    have g2:(i:Int)<256:=by omega
    have HST:Hid ((Qam (numF fixA) (i+1)).map encI=(Qam (numF fixA) i).map encI++[encI 9]):=Qh (by
     rw [Qhb,List.map_append];unfold numF;rw [hval,if_pos h1];rfl)
    clear hval h1 hlt;go_wp2_with (at_builtin;refine Qax rfl (.tmp 20) (.tmp 21) 92 rfl rfl rfl HL.out 9 rfl HLN.out ?_;intro v9 w9 h9 _;have H9:Hid (LS 3 1 w.heap.size w ((Qam (numF fixA) (i+1)).map encI) v9 w9):=Qh (by rw [HST.out];exact h9);clear h9)
    exact⟨⟨i+1,_,rfl,by go_num,by have:=HKN.out;omega,H9⟩,by simp only [intOf];have:=HKN.out;omega⟩
   ·by_cases h2:i>255∧i<280
    ·have g1:(i:Int)>143:=by omega
     have g2:¬(i:Int)<256:=by omega
     have g3:(i:Int)>255:=by omega
     have g4:(i:Int)<280:=by omega
     have HST:Hid ((Qam (numF fixA) (i+1)).map encI=(Qam (numF fixA) i).map encI++[encI 7]):=Qh (by
      rw [Qhb,List.map_append];unfold numF;rw [hval,if_neg h1,if_pos h2];rfl)
     clear hval h1 h2 hlt;go_wp2_with (at_builtin;refine Qax rfl (.tmp 30) (.tmp 31) 92 rfl rfl rfl HL.out 7 rfl HLN.out ?_;intro v9 w9 h9 _;have H9:Hid (LS 3 1 w.heap.size w ((Qam (numF fixA) (i+1)).map encI) v9 w9):=Qh (by rw [HST.out];exact h9);clear h9)
     exact⟨⟨i+1,_,rfl,by go_num,by have:=HKN.out;omega,H9⟩,by simp only [intOf];have:=HKN.out;omega⟩
    ·have HST:Hid ((Qam (numF fixA) (i+1)).map encI=(Qam (numF fixA) i).map encI++[encI 8]):=Qh (by
      rw [Qhb,List.map_append];unfold numF;rw [hval,if_neg h1,if_neg h2];rfl)
     by_cases h3:i>143
     ·have g1:(i:Int)>143:=by omega
      have g2:¬(i:Int)<256:=by omega
      have g3:(i:Int)>255:=by omega
      have g4:¬(i:Int)<280:=by omega
      clear hval h1 h2 h3 hlt;go_wp2_with (at_builtin;refine Qax rfl (.tmp 10) (.tmp 11) 92 rfl rfl rfl HL.out 8 rfl HLN.out ?_;intro v9 w9 h9 _;have H9:Hid (LS 3 1 w.heap.size w ((Qam (numF fixA) (i+1)).map encI) v9 w9):=Qh (by rw [HST.out];exact h9);clear h9)
      exact⟨⟨i+1,_,rfl,by go_num,by have:=HKN.out;omega,H9⟩,by simp only [intOf];have:=HKN.out;omega⟩
     ·have g1:¬(i:Int)>143:=by omega
      have g3:¬(i:Int)>255:=by omega
      clear hval h1 h2 h3 hlt;go_wp2_with (at_builtin;refine Qax rfl (.tmp 10) (.tmp 11) 92 rfl rfl rfl HL.out 8 rfl HLN.out ?_;intro v9 w9 h9 _;have H9:Hid (LS 3 1 w.heap.size w ((Qam (numF fixA) (i+1)).map encI) v9 w9):=Qh (by rw [HST.out];exact h9);clear h9)
      exact⟨⟨i+1,_,rfl,by go_num,by have:=HKN.out;omega,H9⟩,by simp only [intOf];have:=HKN.out;omega⟩
  ·obtain rfl:288=i:=by omega
   obtain⟨p1,c1,rfl,hR,hB⟩:=HL.out.rs;rw [show ((Qam (numF fixA) 288).map encI).length=288 by rw [List.length_map,Qaq]]at hR⊢
   obtain⟨a1,rfl⟩:=hR.some_ (by decide)
   have hla:a1.block<wr.heap.size:=hR.lt a1 rfl;have hI:IS (some a1) 288 c1 (numF fixA) wr:=by
    have hg:∀i,i<288→(Qam (numF fixA) 288).getD i 0=numF fixA i:=fun i hi=>by
     unfold Qam;rw [List.getD_eq_getElem?_getD,List.getElem?_map,List.getElem?_range hi];rfl
    have hv:∀i,i<288→0≤numF fixA i∧numF fixA i≤9:=fun i hi=>by
     unfold numF;rw [Qq9 i hi];split
     ·omega
     ·split<;>omega
    have h:=RS.is1 hR (fun i hi=>by rw [hg i hi];have:=hv i hi;omega) (fun i hi=>by rw [hg i hi];have:=hv i hi;omega)
    exact⟨h.nil_,fun a ha i hi=>by rw [h.cell a ha i hi,hg i hi],h.lt,fun i hi=>by have:=hv i hi;omega,fun i hi=>by have:=hv i hi;omega⟩
   have hb:=HL.out.b;have ha:=(Below.refl _ wr).alloc Ql (.cells (rI 32 fun _=>0) 3);obtain⟨wz,hwz⟩:∃wz,wz=wr.alloc (.cells (rI 32 fun _=>0) 3):=⟨_,rfl⟩;obtain⟨z,hz⟩:∃z,z=wr.heap.size:=⟨_,rfl⟩;have hbz:=Blk.new wr 3 (rI 32 fun _=>0);rw [←hwz]at ha hbz;rw [←hz]at hbz;have hlt1:¬(288:Int)<288:=by decide
   have H2:Hid (IS (some a1) 288 c1 (numF fixA) wz∧Blk wz z 3 (rI 32 fun j=>if j<0 then 5 else 0)∧Below w.heap.size w wz):=Qh ⟨hI.below ha,by simpa using hbz,hb.trans (ha.mono hb.size)⟩
   have HZ:=Qh (⟨hB a1 rfl,by have:=hb.size;omega,by omega,hwz,hz⟩:w.heap.size≤a1.block∧w.heap.size≤z∧a1.block≠z∧wz=wr.alloc (.cells (rI 32 fun _=>0) 3)∧z=wr.heap.size)
   have hmk:=HMK.out wr;rw [←hwz,←hz]at hmk;clear hR hI hb ha hwz hz hbz HL hB hla hi;go_wp2_with fail;clear hmk;go_loopw [5] (fun u wx=>∃j:Nat,u= .int .i64 (j:Int)∧j≤32∧Hid (IS (some a1) 288 c1 (numF fixA) wx∧Blk wx z 3 (rI 32 fun k=>if k<j then 5 else 0)∧Below w.heap.size w wx)) (fun u _=>32-(intOf u).toNat)
   case atStart=>exact⟨0,rfl,Nat.zero_le _,H2⟩
   case round=>
    obtain⟨j,rfl,hj,HR⟩:=hrel;clear H2;by_cases hjt:j<32
    ·have hjti:(j:Int)<32:=by omega
     have hjw:IntKind.i64.wrap ((j:Int)+1)=((j+1:Nat):Int):=by rw [IntWalk.i64_in _ (by omega)];rfl
     have d1:∃u,wr.cell? ⟨z,j,none⟩=some (.int .i64 u):=⟨_,HR.out.2.1.at_ hjt⟩;obtain⟨u,d1⟩:=d1;have d2:wr.frozen? ⟨z,j,none⟩=false:=HR.out.2.1.frozen _;have HF:Hid (IS (some a1) 288 c1 (numF fixA) (wr.setCell ⟨z,j,none⟩ (.int .i64 5))∧Blk (wr.setCell ⟨z,j,none⟩ (.int .i64 5)) z 3 (rI 32 fun k=>if k<j+1 then 5 else 0)∧Below w.heap.size w (wr.setCell ⟨z,j,none⟩ (.int .i64 5))):=Qh ⟨?hI,(HR.out.2.1.put hjt (.int .i64 5)).cast_ (Qa3 fun k hk=> ?hF),HR.out.2.2.setCell (p:=⟨z,j,none⟩) HZ.out.2.1 _⟩
     case hI=>
      refine⟨HR.out.1.nil_,fun a ha i hi=> ?_,fun a ha=>by have:=HR.out.1.lt a ha;simp [World.setCell];exact this,HR.out.1.lo,HR.out.1.hi⟩
      cases ha
      have hne:(⟨z,j,none⟩:Addr)≠a1.add i:=fun e=>by
       have e1:z=(a1.add i).block:=congrArg Addr.block e;have e2:(a1.add i).block=a1.block:=by unfold Addr.add;split<;>rfl
       have:=HZ.out.2.2.1;omega
      rw [World.cell?_setCell_other _ _ _ _ hne];exact HR.out.1.cell a1 rfl i hi
     case hF=>
      by_cases e:k=j
      ·rw [if_pos e];show _=Value.int .i64 (if k<j+1 then 5 else 0);rw [if_pos (by omega)]
      ·rw [if_neg e];show Value.int .i64 (if k<j then 5 else 0)=Value.int .i64 (if k<j+1 then 5 else 0);by_cases e2:k<j
       ·rw [if_pos e2,if_pos (by omega)]
       ·rw [if_neg e2,if_neg (by omega)]
     have HKN:=Qh hjt;clear hjt HR;go_wp2_with fail;exact⟨⟨j+1,by go_num,by have:=HKN.out;omega,HF⟩,by simp only [intOf];have:=HKN.out;omega⟩
    ·obtain rfl:32=j:=by omega
     have hjti:¬(32:Int)<32:=by decide
     go_wp2_with fail;go_ret2;exact⟨a1,c1,z,rfl,HR.out.1,HR.out.2.1.cast_ (Qa3 fun k hk=>by
      show Value.int .i64 (if k<32 then 5 else 0)=Value.int .i64 (numF fixB k)
      rw [if_pos hk];have:fixB.getD k 0=5:=(by decide+kernel:∀k,k<32→fixB.getD k 0=5) k hk
      unfold numF;rw [this];rfl),HR.out.2.2,HZ.out.1,HZ.out.2.1⟩
theorem Qj5 (z n:Nat) (c:Nat→Nat) (most:Nat) (w:World) (h:Blk w z 3 (rI n fun i=>(c i:Int))) (hc:∀i,i<n→c i≤1000000) (hn:n≤300) (hM:most=15∨(most=7∧n≤19)):
  Calls Tryz.prog 91 #[.slice (some ⟨z,0,none⟩) n n,.int .i64 (most:Int)] w fun e w'=>∃g,e= .returned (.tuple #[.slice (some ⟨g,0,none⟩) n n,.bool true])∧IS (some ⟨g,0,none⟩) n n (fun i=>(Qee c n most i:Int)) w'∧w.heap.size≤g∧Below w.heap.size w w':=by
 have hM2:okM (most:Int) n:=by rcases hM with h|h;exact .inl (by omega);exact .inr (by omega)
 have hok:okC (fun i=>(c i:Int)) n=true:=Qhm.2 fun i hi=>⟨by omega,by have:=hc i hi;omega⟩
 have hTc:toL (fun i=>(c i:Int))=c:=funext fun i=>by unfold toL;exact Int.toNat_natCast _
 obtain⟨l,hl⟩:=Qn0 hok hn hM2;have hl2:=hl;rw [hTc,Int.toNat_natCast]at hl2;have hml:Qee c n most=l:=by unfold Qee;rw [hl2];rfl
 have hA:=Qcq c n most hc hn (by rcases hM with h|h;exact .inl (by omega);exact .inr h)
 have hi:=IS.row (cap:=n) h (fun i hi=>by have:=hc i hi;omega) (fun i hi=>by have:=hc i hi;omega)
 refine(Qoc (some ⟨z,0,none⟩) n n (fun i=>(c i:Int)) (most:Int) w hi hM2 hn hok l hl).mono ?_;rintro e w' ⟨g,h1,h2,h3,h4⟩;rw [←hml]at h2;have h15:∀i,i<n→Qee c n most i≤15:=fun i hi=>by have:=(hA.2.1 i hi).1;omega
 exact⟨g,h1,IS.row h2 (fun i hi=>by omega) (fun i hi=>by have:=h15 i hi;omega),h3,h4⟩
theorem Qry {f:Nat→Int} {n:Nat} {x:Int×Nat×Nat}:∀{k a:Nat},x∈Qdg f n k a→∃j,j<n∧x=(runV f n j).1
 |0,_,h=>by cases h
 |k+1,a,h=>by
  by_cases ha:a<n
  ·rw [Qcb ha]at h;rcases List.mem_cons.1 h with h|h
   ·exact⟨a,ha,h⟩
   ·exact Qry h
  ·rw [Qf2 ha]at h;cases h
theorem Q1g {v:Nat→Nat} {n:Nat} (hv:∀i,i<n→v i≤15) {x:Int×Nat×Nat} (hx:x∈Qef (fun i=>(v i:Int)) n):∃s:Nat,x.1=(s:Int)∧s<19∧x.2.1≤138∧x.2.2=Qml s∧x.2.1<2^x.2.2:=by
 have hfit:=Qj7 (fun i=>(v i:Int)) n n 0 x hx;obtain⟨j,hj,e⟩:=Qry hx;have hvj:=hv j hj;have hfit2:x.2.1<2^x.2.2:=hfit.1;rcases Qs2 (fun i=>(v i:Int)) n j hj with⟨t,e2,h1,h2,_⟩|⟨t,e2,h1,h2,_⟩|⟨t,e2,_,_,h1,h2,_⟩|e2
 ·rw [e2]at e;subst e;exact⟨18,rfl,by decide,by show t-11≤138;omega,rfl,hfit2⟩
 ·rw [e2]at e;subst e;exact⟨17,rfl,by decide,by show t-3≤138;omega,rfl,hfit2⟩
 ·rw [e2]at e;subst e;exact⟨16,rfl,by decide,by show t-3≤138;omega,rfl,hfit2⟩
 ·rw [e2]at e;subst e;refine⟨v j,rfl,by omega,Nat.zero_le _,?_,hfit2⟩
  show 0=Qml (v j)
  unfold Qml;rw [if_neg (by omega),if_neg (by omega),if_neg (by omega)]
theorem Qqa {l:List (Int×Nat×Nat)} {a:Addr} {m cap i:Nat} {w:World} (h:RS 1 (some a) m cap (runA l) w) (hi:i<l.length):w.cell? (a.add i)=some (.int .i64 (l[i]'hi).1):=by
 have h:RS 1 (some a) m cap (l.map fun x=>encI x.1) w:=h;have hl:i<(l.map fun x=>encI x.1).length:=by rw [List.length_map];exact hi
 have:=h.cell a rfl i hl 0 (.int .i64 (l[i]'hi).1) (by rw [List.getElem_map];rfl)
 rwa [Nat.mul_one,Nat.add_zero]at this
theorem Q1e {l:List (Int×Nat×Nat)} {a:Addr} {m cap i:Nat} {w:World} (h:RS 1 (some a) m cap (runB l) w) (hi:i<l.length):w.cell? (a.add i)=some (.int .i64 ((l[i]'hi).2.1:Int)):=by
 have h:RS 1 (some a) m cap (l.map fun x=>encI (x.2.1:Int)) w:=h;have hl:i<(l.map fun x=>encI (x.2.1:Int)).length:=by rw [List.length_map];exact hi
 have:=h.cell a rfl i hl 0 (.int .i64 ((l[i]'hi).2.1:Int)) (by rw [List.getElem_map];rfl)
 rwa [Nat.mul_one,Nat.add_zero]at this
theorem Q17 {A B:Nat→Nat} {nA nB:Nat} (hA:∀i,i<286→A i≤15) (hB:∀i,i<30→B i≤15) (eA:nA=upN (fun i=>(A i:Int)) 257 286) (eB:nB=upN (fun i=>(B i:Int)) 1 30) (zA:newE (fun i=>(A i:Int)) 286=0) (zB:newE (fun i=>(B i:Int)) 30=0):
  Cd (txL A 286 B 30) A nA B nB:=by
 have lA:nA≤286:=by rw [eA];exact Qdr _ _ _
 have lB:nB≤30:=by rw [eB];exact Qdr _ _ _
 have hzA:∀j,nA≤j→j<286→A j=0:=fun j h1 h2=>by have:=Qnb (fun i=>(A i:Int)) 257 286 j (by omega) h2;omega
 have hzB:∀j,nB≤j→j<30→B j=0:=fun j h1 h2=>by have:=Qnb (fun i=>(B i:Int)) 1 30 j (by omega) h2;omega
 have kz:∀(l:Nat→Nat) (n:Nat),newE (fun i=>(l i:Int)) n=0→kr l n≤2^15:=fun l n h=>by
  have hT:toL (fun i=>(l i:Int))=l:=funext fun i=>by unfold toL;exact Int.toNat_natCast _
  have hc:Qba (fun i=>(l i:Int)) n=0:=by
   by_cases h1:Qba (fun i=>(l i:Int)) n=0
   ·exact h1
   ·unfold newE at h;rw [if_neg h1]at h;exact absurd h h1
  have:=(Qby hc).2;rw [hT]at this;exact this
 refine⟨fun i hi h0=> ?_,fun i hi h0=> ?_,fun j hj=>hA j (by omega),fun j hj=>hB j (by omega),?_,?_⟩
 ·have hin:i<nA:=by
   rcases Nat.lt_or_ge i nA with h|h
   ·exact h
   ·exact absurd (hzA i h hi) h0
  refine⟨hin,?_⟩;rw [Q27 hi (by decide)]
  show(revN (A i) (Qa0 A 286 i),A i)=_
  rw [Qnq lA hzA]
 ·have hin:i<nB:=by
   rcases Nat.lt_or_ge i nB with h|h
   ·exact h
   ·exact absurd (hzB i h hi) h0
  refine⟨hin,?_⟩;rw [Q28 hi (by decide) (by decide)]
  show(revN (B i) (Qa0 B 30 i),B i)=_
  rw [Qnq lB hzB]
 ·rw [←Quy lA hzA];exact kz A 286 zA
 ·rw [←Quy lB hzB];exact kz B 30 zB
theorem Q00 {f g:Nat→Nat} {n m cap:Nat} {p:Option Addr} {w:World} (hf:∀i,i<n→f i≤15) (hg:∀i,i<m→g i≤15) (h:RS 1 p (n+m) cap ((Qam (fun i=>(f i:Int)) n).map encI++(Qam (fun i=>(g i:Int)) m).map encI) w):IS p (n+m) cap (fun i=>(Qh8 f n g i:Int)) w:=by
 rw [←List.map_append]at h;have hb:∀i,i<n+m→Qh8 f n g i≤15:=fun i hi=>by
  unfold Qh8;split
  ·next h=>exact hf i h
  ·exact hg _ (by omega)
 have hI:=RS.is1 h (fun i hi=>by rw [Qi7 f n g m i hi];omega) (fun i hi=>by rw [Qi7 f n g m i hi];have:=hb i hi;omega)
 exact⟨hI.nil_,fun a ha i hi=>by rw [hI.cell a ha i hi,Qi7 f n g m i hi],hI.lt,fun i _=>by omega,fun i hi=>by have:=hb i hi;omega⟩
end Go.Proofs.YtbmcjdoiohcaaaaGreat
