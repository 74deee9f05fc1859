/- NK -/
import Derived.Test.YtbmcjdoiohcaaaaGreatNJ
set_option maxRecDepth 100000
set_option maxHeartbeats 16000000
namespace Go.Proofs.YtbmcjdoiohcaaaaGreat
open Go.RowKit
def kLs (ws:List (Int×Nat×Nat)):Nat→Nat:=Qee (cntV ws) 286 15
def kLd (ws:List (Int×Nat×Nat)):Nat→Nat:=Qee (fun i=>cntV ws (286+i)) 30 15
def kNs (ws:List (Int×Nat×Nat)):Nat:=upN (fun i=>(kLs ws i:Int)) 257 286
def kNd (ws:List (Int×Nat×Nat)):Nat:=upN (fun i=>(kLd ws i:Int)) 1 30
def Qbs (ws:List (Int×Nat×Nat)):List (Nat×Nat):=Qfj (kLs ws) (kNs ws) (kLd ws) (kNd ws)++Qaw (txL (kLs ws) 286 (kLd ws) 30) ws
theorem Qws (l:Nat→Nat):toL (fun i=>(l i:Int))=l:=funext fun i=>by unfold toL;exact Int.toNat_natCast _
theorem Q1w (f:Nat→Nat) (g:Nat→Nat):(txL f 286 g 30).length=316:=by unfold txL;rw [List.length_append,List.length_take,List.length_take,Qe8,Qe8];rfl
theorem Qko (f:Nat→Nat) (n:Nat) (g:Nat→Nat) (m:Nat) (hn:n≤300) (hm:m≤300):(Qfj f n g m).length≤2000:=by
 unfold Qfj;rw [List.length_append,Qkj,Qcs];have h1:Qi0 (Qos f n g m)≤19:=Qdr _ _ _;have h2:(Qiv f n g m).length≤n+m:=Qf3 _ _ _ _;omega
theorem Qna (p:Option Addr) (K cap:Nat) (ws:List (Int×Nat×Nat)) (w:World) (h:RS 3 p K cap (ws.map encR) w) (hin:∀x∈ws,0≤x.1∧x.1<316) (hK:0<K∧K≤1000000):
  Calls Tryz.prog 51 #[.slice p K cap] w fun e w'=>∃v,e= .returned v∧LS 106 2 w.heap.size w ((Qbs ws).map encP) v w':=by
 have hwl:ws.length=K:=by have:=h.len;rwa [List.length_map]at this
 have hA:=Qcq (cntV ws) 286 15 (fun i _=>by have:=Qcf ws i;omega) (by decide) (.inl ⟨by decide,by decide⟩)
 have hB:=Qcq (fun i=>cntV ws (286+i)) 30 15 (fun i _=>by have:=Qcf ws (286+i);omega) (by decide) (.inl ⟨by decide,by decide⟩)
 obtain⟨A,hAe⟩:∃A,A=kLs ws:=⟨_,rfl⟩;obtain⟨B,hBe⟩:∃B,B=kLd ws:=⟨_,rfl⟩;rw [show Qee (cntV ws) 286 15=A by rw [hAe,kLs]]at hA
 rw [show Qee (fun i=>cntV ws (286+i)) 30 15=B by rw [hBe,kLd]]at hB
 obtain⟨n,hn⟩:∃n,n=kNs ws:=⟨_,rfl⟩;obtain⟨m,hm⟩:∃m,m=kNd ws:=⟨_,rfl⟩;have hnu:upN (fun i=>(A i:Int)) 257 286=n:=by rw [hn,hAe,kNs]
 have hmu:upN (fun i=>(B i:Int)) 1 30=m:=by rw [hm,hBe,kNd]
 have HNM:Hid ((257≤n∧n≤286)∧1≤m∧m≤30):=Qh (by
  rw [←hnu,←hmu];exact⟨⟨Qkq _ _ _ (by decide),Qdr _ _ _⟩,Qkq _ _ _ (by decide),Qdr _ _ _⟩)
 have HRES:Hid (Qbs ws=Qfj A n B m++Qaw (txL A 286 B 30) ws):=Qh (by unfold Qbs;rw [hAe,hBe,hn,hm])
 have HA:=Qh hA;have HB:=Qh hB;have HU:=Qh (⟨hnu,hmu⟩:upN (fun i=>(A i:Int)) 257 286=n∧upN (fun i=>(B i:Int)) 1 30=m);have HIN:=Qh hin;have HK:=Qh (⟨hwl,hK⟩:ws.length=K∧0<K∧K≤1000000);have HR:=Qh h;have C1:=Qld p K cap ws 316 w h (fun x hx=>by have:=hin x hx;omega) hK.2 (by decide)
 clear h hin hK hwl hA hB hAe hBe hn hm hnu hmu;go_enter Tryz.func51,Tryz.ntmps51;go_wp2_with fail;refine C1.mono ?_;rintro e w1 ⟨z,rfl,hz,b1,-⟩;have hc:∀i,(cntV ws i:Int)<9223372036854775808:=fun i=>by have:=Qcf ws i;have:=HK.out;omega
 have hi1:IS (some ⟨z,0,none⟩) 316 316 (fun i=>(cntV ws i:Int)) w1:=IS.row hz (fun i _=>by omega) (fun i _=>hc i)
 have hi2:IS (some ⟨z,286,none⟩) 30 30 (fun i=>((cntV ws (286+i):Nat):Int)) w1:=⟨fun e=>(by cases e),fun a ha i hi=>by
  cases ha
  rw [Qay];exact hz.at_ (show 286+i<316 by omega),fun a ha=>(by cases ha;exact hz.lt),fun i _=>by omega,fun i _=>hc _⟩
 have CA:=Qe9 (some ⟨z,0,none⟩) 286 316 (fun i=>(cntV ws i:Int)) 15 w1 (hi1.shorter (by decide)) (by decide) A HA.out.1
 have H1:=Qh (⟨HR.out.below b1,b1,hi2⟩:RS 3 p K cap (ws.map encR) w1∧Below w.heap.size w w1∧IS (some ⟨z,286,none⟩) 30 30 (fun i=>((cntV ws (286+i):Nat):Int)) w1);clear C1 hz b1 hi1 hi2 hc HR;go_wp2_with fail;refine CA.mono ?_;rintro e w2 ⟨p1,c1,rfl,i1,b2,l1⟩;have CB:=Qe9 (some ⟨z,286,none⟩) 30 30 (fun i=>((cntV ws (286+i):Nat):Int)) 15 w2 (H1.out.2.2.below b2) (by decide) B HB.out.1
 have H2:=Qh (⟨H1.out.1.below b2,H1.out.2.1.trans (b2.mono H1.out.2.1.size),i1,l1⟩:RS 3 p K cap (ws.map encR) w2∧Below w.heap.size w w2∧IS p1 286 c1 (fun i=>(A i:Int)) w2∧286≤c1);clear CA i1 b2 l1 H1;go_wp2_with fail;refine CB.mono ?_;rintro e w3 ⟨p2,c2,rfl,i2,b3,l2⟩;have H3:=Qh (⟨H2.out.1.below b3,H2.out.2.1.trans (b3.mono H2.out.2.1.size),H2.out.2.2.1.below b3,i2,H2.out.2.2.2,l2⟩:RS 3 p K cap (ws.map encR) w3∧Below w.heap.size w w3∧IS p1 286 c1 (fun i=>(A i:Int)) w3∧IS p2 30 c2 (fun i=>(B i:Int)) w3∧286≤c1∧30≤c2);clear CB i2 b3 l2 H2;obtain⟨a1,rfl⟩:∃a,p1=some a:=by
  cases p1 with
  |none=>have:=(H3.out.2.2.1.nil_ rfl).1;omega
  |some a=>exact⟨a,rfl⟩
 obtain⟨a2,rfl⟩:∃a,p2=some a:=by
  cases p2 with
  |none=>have:=(H3.out.2.2.2.1.nil_ rfl).1;omega
  |some a=>exact⟨a,rfl⟩
 have CU1:=Qnd (some a1) 286 c1 (fun i=>(A i:Int)) 257 w3 H3.out.2.2.1 H3.out.2.2.2.2.1 (by decide)
 have CU2:=Qnd (some a2) 30 c2 (fun i=>(B i:Int)) 1 w3 H3.out.2.2.2.1 H3.out.2.2.2.2.2 (by decide)
 rw [HU.out.1]at CU1;rw [HU.out.2]at CU2;have CT:=Qkn a1 a2 n c1 m c2 A B w3 (H3.out.2.2.1.shorter HNM.out.1.2) (H3.out.2.2.2.1.shorter HNM.out.2.2) ⟨HNM.out.1.1,by have:=HNM.out;omega⟩ ⟨HNM.out.2.1,by have:=HNM.out;omega⟩ (fun i hi=>(HA.out.2.1 i (by have:=HNM.out;omega)).1) (fun i hi=>(HB.out.2.1 i (by have:=HNM.out;omega)).1)
 go_wp2_with fail;refine CU1.mono ?_;rintro e w8 ⟨rfl,rfl⟩;clear CU1;go_wp2_with fail;refine CU2.mono ?_;rintro e w8 ⟨rfl,rfl⟩;clear CU2;go_wp2_with fail;refine CT.mono ?_;rintro e w9 ⟨v9,rfl,hL9⟩;have hb9:=hL9.b;have CC:=Qiw (some a1) 286 c1 (fun i=>(A i:Int)) (some a2) 30 c2 (fun i=>(B i:Int)) w9 (H3.out.2.2.1.below hb9) (H3.out.2.2.2.1.below hb9) (by decide) (by decide) HA.out.2.2.1 HB.out.2.2.1 (fun i hi=>by have:=(HA.out.2.1 i hi).1;omega) (fun i hi=>by have:=(HB.out.2.1 i hi).1;omega)
 rw [Qws,Qws]at CC;have H9:=Qh (⟨H3.out.1.below hb9,H3.out.2.1,hL9⟩:RS 3 p K cap (ws.map encR) w9∧Below w.heap.size w w3∧LS 106 2 w3.heap.size w3 ((Qfj A n B m).map encP) v9 w9);clear CT hb9 hL9 H3;go_wp2_with fail;refine CC.mono ?_;rintro e w10 ⟨v10,rfl,hL10⟩;obtain⟨p10,c10,rfl,hR10,-⟩:=hL10.rs;rw [List.length_map,Q1w]at hR10⊢;have CM:=Qgv p10 316 c10 (txL A 286 B 30) p K cap ws w10 hR10 (H9.out.1.below hL10.b) (fun x hx=>HIN.out x hx) (by have:=HK.out;omega)
 have H10:=Qh (⟨H9.out.2.1,H9.out.2.2.below hL10.b⟩:Below w.heap.size w w3∧LS 106 2 w3.heap.size w3 ((Qfj A n B m).map encP) v9 w10);clear CC hR10 hL10 H9;go_wp2_with fail;refine CM.mono ?_;rintro e w11 ⟨v11,rfl,hL11⟩;have HL11:=Qh (H10.out.2.below hL11.b);obtain⟨p11,c11,rfl,hR11,-⟩:=hL11.rs;rw [List.length_map,Qcs]at hR11⊢;obtain⟨J,hJ⟩:∃J,J=2*ws.length:=⟨_,rfl⟩;rw [←hJ]at hR11⊢;have hJ0:0<J:=by have:=HK.out;omega
 have hJ1:J≤2000000:=by have:=HK.out;omega
 obtain⟨a11,rfl⟩:=hR11.some_ hJ0;have HR11:=Qh (⟨hR11,hJ0⟩:RS 2 (some a11) J c11 ((Qaw (txL A 286 B 30) ws).map encP) w11∧0<J);have HLL:Hid (((Qfj A n B m).map encP).length+J≤1000000000000):=Qh (by have:=Qko A n B m (by have:=HNM.out;omega) (by have:=HNM.out;omega);rw [List.length_map];omega)
 have HBW:=Qh H10.out.1;clear CM hL11 hR11 hJ hJ0 hJ1 H10;go_wp2_with (at_builtin;refine Qc9 rfl (.tmp 28) (.tmp 33) 52 rfl rfl rfl HL11.out a11 J c11 _ rfl HR11.out.1.len HR11.out.1.each (fun j u hu=>HR11.out.1.flat j u hu) HR11.out.2 HLL.out ?_;intro v12 w12 h12 _;have H12:=Qh (h12.fin HBW.out HBW.out.size);clear h12);go_ret;refine⟨_,rfl,?_⟩;rw [HRES.out,List.map_append];exact H12.out
theorem Qmk {n:Nat} (h1:3≤n) (h2:n≤258):(lenW n).2.1<2^(lenW n).2.2∧(lenW n).2.2≤16∧257≤(lenW n).1∧(lenW n).1<286:=by
 have:∀i:Fin 256,(lenW (i.val+3)).2.1<2^(lenW (i.val+3)).2.2∧(lenW (i.val+3)).2.2≤16∧257≤(lenW (i.val+3)).1∧(lenW (i.val+3)).1<286:=by decide+kernel
 have k:=this ⟨n-3,by omega⟩
 have e:n-3+3=n:=by omega
 simp only [e]at k;exact k
theorem Ql5 {n:Nat} (h1:1≤n) (h2:n≤32768):(disW n).2.1<2^(disW n).2.2∧(disW n).2.2≤16∧286≤(disW n).1∧(disW n).1<316:=by
 obtain⟨k,hk⟩:∃k,Qbh Qbe n 30=k+1:=by
  have h:=Qb3 Qbe n 30 0;cases e:Qbh Qbe n 30 with
  |zero=>rw [e]at h;have:=h Ql (by decide);have h0:Qbe 0=1:=rfl;omega
  |succ k=>exact⟨k,rfl⟩
 have hk30:k<30:=by have:=Qc6 Qbe n 30;omega
 have hb:Qb2 k≤16:=by unfold Qb2;omega
 have hlt:n<Qbe k+2^Qb2 k:=by
  by_cases e:k=29
  ·subst e;have:Qbe 29+2^Qb2 29=32769:=by decide+kernel
   omega
  ·have:=Qb3 Qbe n 30 (k+1) (by omega) (by omega)
   exact this
 have hp:0<2^Qb2 k:=Nat.pow_pos (by decide)
 unfold disW;rw [hk,Nat.add_sub_cancel];refine⟨?_,hb,by show 286≤286+k;omega,by show 286+k<316;omega⟩
 show n-Qbe k<2^Qb2 k
 omega
theorem Qo9 {l:Nat→Nat} {n:Nat} (h:∀i,i<n→l i≤15):FitN (cdL l n):=fun x hx=>by
 obtain⟨i,hi,rfl⟩:=List.mem_map.1 hx;have hi:=h i (List.mem_range.1 hi);exact⟨Qie _ _,by show l i≤16;omega⟩
theorem FitN.take {l:List (Nat×Nat)} (h:FitN l) (k:Nat):FitN (l.take k):=fun x hx=>h x (List.mem_of_mem_take hx)
theorem Qwx {f:Nat→Nat} {n:Nat} {g:Nat→Nat} {m:Nat} (hf:∀i,i<n→f i≤15) (hg:∀i,i<m→g i≤15):FitN (txL f n g m):=((Qo9 hf).take 286).app ((Qo9 hg).take 30)
def FitW (ws:List (Int×Nat×Nat)):Prop:=∀x∈ws,x.2.1<2^x.2.2∧x.2.2≤16
theorem Qe2 {c:List (Nat×Nat)} (hc:FitN c):∀{ws:List (Int×Nat×Nat)},FitW ws→FitN (Qaw c ws)
 |[],_=>fun x hx=>by cases hx
 |y::r,h=>fun x hx=>by
  rcases List.mem_cons.1 hx with rfl|hx
  ·rw [List.getD_eq_getElem?_getD];cases e:c[y.1.toNat]? with
   |none=>exact⟨Nat.one_pos,Nat.zero_le _⟩
   |some z=>exact hc z (List.mem_of_getElem? e)
  ·rcases List.mem_cons.1 hx with rfl|hx
   ·exact h y (.head _)
   ·exact Qe2 hc (fun z hz=>h z (.tail _ hz)) x hx
theorem Qyx (f:Nat→Int) (n a:Nat):(runV f n a).1.2.1<2^(runV f n a).1.2.2∧(runV f n a).1.2.2≤16:=by
 have h1:=Qfm f n a 138;have h2:=Qfm f n a 10;have h3:=Qfm f n a 6;unfold runV;split
 ·split
  ·exact⟨by show ali f n a 138-11<128;omega,by show 7≤16;omega⟩
  ·split
   ·exact⟨by show ali f n a 10-3<8;omega,by show 3≤16;omega⟩
   ·exact⟨Nat.one_pos,Nat.zero_le _⟩
 ·split
  ·exact⟨by show ali f n a 6-3<4;omega,by show 2≤16;omega⟩
  ·exact⟨Nat.one_pos,Nat.zero_le _⟩
theorem Qj7 (f:Nat→Int) (n:Nat):∀k a,FitW (Qdg f n k a)
 |0,_,x,hx=>by cases hx
 |k+1,a,x,hx=>by
  unfold Qdg at hx;split at hx
  ·rcases List.mem_cons.1 hx with rfl|hx
   ·exact Qyx f n a
   ·exact Qj7 f n k _ x hx
  ·cases hx
theorem Qwk (L:Nat→Nat) (hL:∀i,i<19→L i≤7) (n m k:Nat) (hn:n≤286) (hm:m≤30):FitN (Qb9 L n m k):=fun x hx=>by
 have h19:Qi0 L≤19:=Qdr _ _ _;unfold Qb9 at hx;rcases List.mem_append.1 hx with hx|hx
 ·simp only [List.mem_cons,List.not_mem_nil,or_false]at hx;rcases hx with rfl|rfl|rfl
  ·exact⟨by show n-257<32;omega,by show 5≤16;omega⟩
  ·exact⟨by show m-1<32;omega,by show 5≤16;omega⟩
  ·exact⟨by show Qi0 L-4<16;omega,by show 4≤16;omega⟩
 ·obtain⟨i,_,rfl⟩:=List.mem_map.1 hx;have:=hL _ (Qj1 i);exact⟨by show tOrd L i<8;unfold tOrd;omega,by show 3≤16;omega⟩
theorem Qr5 (f:Nat→Nat) (n:Nat) (g:Nat→Nat) (m:Nat) (hn:n≤300) (hm:m≤300):∀i,i<19→Qos f n g m i≤7:=fun i hi=>by
 have hl:(Qiv f n g m).length≤n+m:=Qf3 _ _ _ _;exact((Qcq (cntV (Qiv f n g m)) 19 7 (fun i _=>by have:=Qcf (Qiv f n g m) i;omega) (by decide) (.inr ⟨rfl,by decide⟩)).2.1 i hi).1
theorem Qwv (f:Nat→Nat) (n:Nat) (g:Nat→Nat) (m:Nat) (hn:n≤286) (hm:m≤30):FitN (Qfj f n g m):=
 (Qwk _ (Qr5 f n g m (by omega) (by omega)) n m _ hn hm).app (Qe2 (Qo9 fun i hi=>by have:=Qr5 f n g m (by omega) (by omega) i hi;omega) (Qj7 _ _ _ _))
theorem Q2m {ws:List (Int×Nat×Nat)} (h:ws.length≤1000000):∀i,i<286→kLs ws i≤15:=fun i hi=>
 ((Qcq (cntV ws) 286 15 (fun i _=>by have:=Qcf ws i;omega) (by decide) (.inl ⟨by decide,by decide⟩)).2.1 i hi).1
theorem Q2l {ws:List (Int×Nat×Nat)} (h:ws.length≤1000000):∀i,i<30→kLd ws i≤15:=fun i hi=>
 ((Qcq (fun i=>cntV ws (286+i)) 30 15 (fun i _=>by have:=Qcf ws (286+i);omega) (by decide) (.inl ⟨by decide,by decide⟩)).2.1 i hi).1
theorem Qhz {ws:List (Int×Nat×Nat)} (h:ws.length≤1000000) (hw:FitW ws):FitN (Qbs ws):=
 (Qwv _ _ _ _ (Qdr _ _ _) (Qdr _ _ _)).app (Qe2 (Qwx (Q2m h) (Q2l h)) hw)
theorem Qmb:FitN fixL:=Qwx (by decide+kernel) (by decide+kernel)
theorem Qr2 (s:ByteArray) (p:Nat) (hs:s.size≤65535) (hp:p≤16):FitN (stoV s p):=fun x hx=>by
 unfold stoV stoG at hx;rcases List.mem_append.1 hx with hx|hx
 ·simp only [List.mem_cons,List.not_mem_nil,or_false]at hx;rcases hx with rfl|rfl|rfl
  ·exact⟨Nat.pow_pos (by decide),hp⟩
  ·exact⟨by show s.size<65536;omega,by show 16≤16;omega⟩
  ·exact⟨by show 65535-s.size<65536;omega,by show 16≤16;omega⟩
 ·obtain⟨i,_,rfl⟩:=List.mem_map.1 hx;exact⟨Qaz s i,by show 8≤16;omega⟩
def OkTs (N:Nat) (l:List (Nat×Nat)):Prop:=∀k (h:k<l.length),sumT (l.take k)≤1000000∧((l[k].1=1∧sumT (l.take k)<N)∨(3≤l[k].1∧l[k].1≤258∧1≤l[k].2∧l[k].2≤32768))
theorem Qzj (s:ByteArray) (a:Nat) (t:Nat×Nat) (ht:t.1=1∨(3≤t.1∧t.1≤258∧1≤t.2∧t.2≤32768)):∀x∈Qeh (Qac s) a t,(0≤x.1∧x.1<316)∧x.2.1<2^x.2.2∧x.2.2≤16:=fun x hx=>by
 unfold Qeh at hx;by_cases h1:t.1=1
 ·rw [if_pos h1]at hx;rw [List.mem_singleton.1 hx];have:=Qaz s a;exact⟨⟨Int.natCast_nonneg _,by show(Qac s a:Int)<316;omega⟩,Nat.one_pos,Nat.zero_le _⟩
 ·rw [if_neg h1]at hx;rcases ht with h|h
  ·exact absurd h h1
  ·have hl:=Qmk h.1 h.2.1;have hd:=Ql5 h.2.2.1 h.2.2.2;rcases List.mem_cons.1 hx with rfl|hx
   ·exact⟨⟨Int.natCast_nonneg _,by show((lenW t.1).1:Int)<316;omega⟩,hl.1,hl.2.1⟩
   ·rw [List.mem_singleton.1 hx];exact⟨⟨Int.natCast_nonneg _,by show((disW t.2).1:Int)<316;omega⟩,hd.1,hd.2.1⟩
theorem Qox (s:ByteArray):∀(l:List (Nat×Nat)) (a:Nat),(∀t∈l,t.1=1∨(3≤t.1∧t.1≤258∧1≤t.2∧t.2≤32768))→∀x∈Qap (Qac s) l a,(0≤x.1∧x.1<316)∧x.2.1<2^x.2.2∧x.2.2≤16
 |[],_,_,x,hx=>by cases hx
 |t::r,a,h,x,hx=>by
  rcases List.mem_append.1 hx with hx|hx
  ·exact Qzj s a t (h t (.head _)) x hx
  ·exact Qox s r _ (fun y hy=>h y (.tail _ hy)) x hx
theorem Qm5 (s:ByteArray) {l:List (Nat×Nat)} (h:OkTs s.size l):∀x∈Qas (Qac s) l,(0≤x.1∧x.1<316)∧x.2.1<2^x.2.2∧x.2.2≤16:=fun x hx=>by
 rcases List.mem_append.1 hx with hx|hx
 ·refine Qox s l 0 (fun t ht=> ?_) x hx;obtain⟨k,hk,e⟩:=List.mem_iff_getElem.1 ht;have:=(h k hk).2;rw [e]at this;rcases this with h1|h1
  ·exact .inl h1.1
  ·exact .inr h1
 ·rw [List.mem_singleton.1 hx];exact⟨⟨by decide,by decide⟩,Nat.one_pos,Nat.zero_le _⟩
def Qcj (s:ByteArray) (l:List (Nat×Nat)) (h last:Nat):List (Nat×Nat):=
 if Qaj (Qbs (Qas (Qac s) l))<Qaj (Qaw fixL (Qas (Qac s) l))then
  if Qaj (stoV s (Qdw (h+3)))<Qaj (Qbs (Qas (Qac s) l))then [(last,1),(0,2)]++stoV s (Qdw (h+3))else [(last,1),(2,2)]++Qbs (Qas (Qac s) l)
 else if Qaj (stoV s (Qdw (h+3)))<Qaj (Qaw fixL (Qas (Qac s) l))then [(last,1),(0,2)]++stoV s (Qdw (h+3))else [(last,1),(1,2)]++Qaw fixL (Qas (Qac s) l)
theorem RS.two (w:World) (a b c d:Int):RS 2 (some ⟨w.heap.size,0,none⟩) 2 2 [encN a b,encN c d] (w.alloc (.cells #[.int .i64 a,.int .i64 b,.int .i64 c,.int .i64 d] 106)):=
 ⟨rfl,fun x hx=>by
  simp only [List.mem_cons,List.not_mem_nil,or_false]at hx;rcases hx with rfl|rfl<;>exact Qnx _ _ _ (.head _),fun e=>(by cases e),Ql,by decide,fun ad ha i hi j u hu=>by
  cases ha
  have hi2:i<2:=hi;have hx:=Qci w #[.int .i64 a,.int .i64 b,.int .i64 c,.int .i64 d] 106 (i*2+j) u;rcases(show i=0∨i=1 by omega)with rfl|rfl
  ·have hu:[Value.int .i64 a,.int .i64 b][j]? =some u:=hu;have hj:j<2:=(List.getElem?_eq_some_iff.1 hu).1;rcases(show j=0∨j=1 by omega)with rfl|rfl
   ·exact hx (by simpa using hu)
   ·exact hx (by simpa using hu)
  ·have hu:[Value.int .i64 c,.int .i64 d][j]? =some u:=hu;have hj:j<2:=(List.getElem?_eq_some_iff.1 hu).1;rcases(show j=0∨j=1 by omega)with rfl|rfl
   ·exact hx (by simpa using hu)
   ·exact hx (by simpa using hu),fun ad ha=>by cases ha;exact(Blk.new w _ _).lt⟩
theorem Qrs (g:Nat) (af:Addr) (cf N c h:Nat) (v:Value) (s:ByteArray) (p:Option Addr) (n cap:Nat) (l:List (Nat×Nat)) (last:Nat) (w:World) (h0:BP g (.slice (some af) 316 cf) N c h v w) (hh:h<8) (hfx:RS 2 (some af) 316 cf (fixL.map encP) w) (hp:RS 2 p n cap (l.map encT) w) (hn:n≤100000) (hs:s.size≤32768) (hok:OkTs s.size l) (hl:last≤1) (hc:c≤10000000000):
  Calls Tryz.prog 27 #[.pointer (some ⟨g,0,none⟩),.string s,.slice p n cap,.int .i64 (last:Int)] w fun e w'=>e= .returned (.tuple #[])∧∃v' c' h',h'<8∧8*c'+h'=8*c+h+Qaj (Qcj s l h last)∧BP g (.slice (some af) 316 cf) (N+2^(8*c+h)*valN (Qcj s l h last)) c' h' v' w'∧Gg g v w v' w':=by
 obtain⟨one,hone⟩:∃x,x=Qaw fixL (Qas (Qac s) l):=⟨_,rfl⟩;obtain⟨two,htwo⟩:∃x,x=Qbs (Qas (Qac s) l):=⟨_,rfl⟩;obtain⟨sto,hsto⟩:∃x,x=stoV s (Qdw (h+3)):=⟨_,rfl⟩;have HPN:Hid (Qcj s l h last=if Qaj two<Qaj one then(if Qaj sto<Qaj two then [(last,1),(0,2)]++sto else [(last,1),(2,2)]++two)else (if Qaj sto<Qaj one then [(last,1),(0,2)]++sto else [(last,1),(1,2)]++one)):=Qh (by unfold Qcj;rw [hone,htwo,hsto])
 have hll:l.length=n:=by have:=hp.len;rwa [List.length_map]at this
 have htx:=Qm5 s hok;have htl:(Qas (Qac s) l).length≤200001:=by unfold Qas;rw [List.length_append];have:=Qdh (Qac s) l 0;show _+1≤_;omega
 have ht0:0<(Qas (Qac s) l).length:=by unfold Qas;rw [List.length_append];exact Nat.succ_pos _
 have hf1:FitN one:=by rw [hone];exact Qe2 Qmb fun x hx=>(htx x hx).2
 have hf2:FitN two:=by rw [htwo];exact Qhz (by omega) fun x hx=>(htx x hx).2
 have hlv:Qdw (h+3)≤7:=by unfold Qdw;omega
 have hf3:FitN sto:=by rw [hsto];exact Qr2 s _ (by omega) (by omega)
 have HF:=Qh (⟨hf1,hf2,hf3⟩:FitN one∧FitN two∧FitN sto);have HT:=Qh (⟨htx,htl,ht0⟩:(∀x∈Qas (Qac s) l,(0≤x.1∧x.1<316)∧x.2.1<2^x.2.2∧x.2.2≤16)∧(Qas (Qac s) l).length≤200001∧0<(Qas (Qac s) l).length);have HD:=Qh (⟨hone,htwo,hsto⟩:one=Qaw fixL (Qas (Qac s) l)∧two=Qbs (Qas (Qac s) l)∧sto=stoV s (Qdw (h+3)));have HG:=Qh (⟨h0.blk.lt,fun i e=>(h0.ownB i e).2,hh,by omega,hl,hs,hc⟩:g<w.heap.size∧(∀i,v.ownBlock=some i→i<w.heap.size)∧h<8∧c≤100000000000∧last≤1∧s.size≤32768∧c≤10000000000)
 have C1:=Qm6 s p n cap l w hp hn (by omega) hok
 have H0:=Qh (⟨h0,Below.refl _ _,hfx⟩:BP g (.slice (some af) 316 cf) N c h v w∧Below w.heap.size w w∧RS 2 (some af) 316 cf (fixL.map encP) w);clear h0 hh hfx hp hn hs hok hl hc hone htwo hsto hll htx htl ht0 hf1 hf2 hf3 hlv;go_enter Tryz.func27,Tryz.ntmps27;go_wp2_with fail;refine C1.mono ?_;rintro e w1 ⟨v1,rfl,hL⟩;obtain⟨p1,c1,rfl,hR,-⟩:=hL.rs;have hb:=hL.b;rw [List.length_map]at hR⊢;obtain⟨K,hK⟩:∃K,K=(Qas (Qac s) l).length:=⟨_,rfl⟩;have HKE:=Qh hK;rw [←hK]at hR HT⊢;have H1:=Qh (⟨H0.out.1.below hb,H0.out.2.1.trans (hb.mono H0.out.2.1.size),H0.out.2.2.below hb,hR⟩:BP g (.slice (some af) 316 cf) N c h v w1∧Below w.heap.size w w1∧RS 2 (some af) 316 cf (fixL.map encP) w1∧RS 3 p1 K c1 ((Qas (Qac s) l).map encR) w1);have d3:w1.cell? ⟨g,3,none⟩=some (.slice (some af) 316 cf):=H1.out.1.blk.cell 3;have C2:=Qgv (some af) 316 cf fixL p1 K c1 (Qas (Qac s) l) w1 H1.out.2.2.1 H1.out.2.2.2 (fun x hx=>(HT.out.1 x hx).1) (by have:=HT.out;omega)
 rw [←HD.out.1]at C2;clear C1 hL hR hb hK H0;go_wp2_with fail;refine C2.mono ?_;rintro e w2 ⟨v2,rfl,hL⟩;obtain⟨p2,c2,rfl,hR,hB2⟩:=hL.rs;have hb:=hL.b;rw [List.length_map]at hR⊢;obtain⟨n2,hn2⟩:∃n,n=one.length:=⟨_,rfl⟩;have HN2:Hid (n2≤1000000000):=Qh (by rw [hn2,HD.out.1,Qcs];have:=HT.out.2.1;have:=HKE.out;omega)
 rw [←hn2]at hR⊢;have HB2:Hid (∀a,p2=some a→w.heap.size≤a.block):=Qh fun a ha=>Nat.le_trans H1.out.2.1.size (hB2 a ha);have H2:=Qh (⟨H1.out.1.below hb,H1.out.2.1.trans (hb.mono H1.out.2.1.size),H1.out.2.2.1.below hb,H1.out.2.2.2.below hb,hR⟩:BP g (.slice (some af) 316 cf) N c h v w2∧Below w.heap.size w w2∧RS 2 (some af) 316 cf (fixL.map encP) w2∧RS 3 p1 K c1 ((Qas (Qac s) l).map encR) w2∧RS 2 p2 n2 c2 (one.map encP) w2);have C3:=Qna p1 K c1 (Qas (Qac s) l) w2 H2.out.2.2.2.1 (fun x hx=>(HT.out.1 x hx).1) ⟨HT.out.2.2,by have:=HT.out;omega⟩
 rw [←HD.out.2.1]at C3;clear C2 hL hR hb hn2 hB2 H1 d3;go_wp2_with fail;refine C3.mono ?_;rintro e w3 ⟨v3,rfl,hL⟩;obtain⟨p3,c3,rfl,hR,hB3⟩:=hL.rs;have hb:=hL.b;rw [List.length_map]at hR⊢;obtain⟨n3,hn3⟩:∃n,n=two.length:=⟨_,rfl⟩;have HN3:Hid (n3≤1000000000):=Qh (by
  rw [hn3,HD.out.2.1];unfold Qbs;rw [List.length_append,Qcs];have h1:=Qko (kLs (Qas (Qac s) l)) (kNs (Qas (Qac s) l)) (kLd (Qas (Qac s) l)) (kNd (Qas (Qac s) l)) (by have:kNs (Qas (Qac s) l)≤286:=Qdr _ _ _;omega) (by have:kNd (Qas (Qac s) l)≤30:=Qdr _ _ _;omega)
  have:=HT.out.2.1;have:=HKE.out;omega)
 rw [←hn3]at hR⊢;have HB3:Hid (∀a,p3=some a→w.heap.size≤a.block):=Qh fun a ha=>Nat.le_trans H2.out.2.1.size (hB3 a ha);have H3:=Qh (⟨H2.out.1.below hb,H2.out.2.1.trans (hb.mono H2.out.2.1.size),H2.out.2.2.1.below hb,H2.out.2.2.2.2.below hb,hR⟩:BP g (.slice (some af) 316 cf) N c h v w3∧Below w.heap.size w w3∧RS 2 (some af) 316 cf (fixL.map encP) w3∧RS 2 p2 n2 c2 (one.map encP) w3∧RS 2 p3 n3 c3 (two.map encP) w3);clear C3 hL hR hb hn3 hB3 H2;go_wp2_with fail;refine(Qgg p3 n3 c3 two w3 H3.out.2.2.2.2 HF.out.2.1 HN3.out).mono ?_;rintro e w3a ⟨rfl,hb⟩;have H3a:=Qh (⟨H3.out.1.below hb,H3.out.2.1.trans (hb.mono H3.out.2.1.size),H3.out.2.2.1.below hb,H3.out.2.2.2.1.below hb,H3.out.2.2.2.2.below hb⟩:BP g (.slice (some af) 316 cf) N c h v w3a∧Below w.heap.size w w3a∧RS 2 (some af) 316 cf (fixL.map encP) w3a∧RS 2 p2 n2 c2 (one.map encP) w3a∧RS 2 p3 n3 c3 (two.map encP) w3a);clear H3 hb;go_wp2_with fail;refine(Qgg p2 n2 c2 one w3a H3a.out.2.2.2.1 HF.out.1 HN2.out).mono ?_;rintro e w4 ⟨rfl,hb⟩;have H4:=Qh (⟨H3a.out.1.below hb,H3a.out.2.1.trans (hb.mono H3a.out.2.1.size),H3a.out.2.2.1.below hb,H3a.out.2.2.2.1.below hb,H3a.out.2.2.2.2.below hb⟩:BP g (.slice (some af) 316 cf) N c h v w4∧Below w.heap.size w w4∧RS 2 (some af) 316 cf (fixL.map encP) w4∧RS 2 p2 n2 c2 (one.map encP) w4∧RS 2 p3 n3 c3 (two.map encP) w4);clear H3a hb;by_cases hA:Qaj two<Qaj one
 ·have HAH:=Qh hA;have hAi:((Qaj two:Nat):Int)<((Qaj one:Nat):Int):=by omega
  clear hA;go_wp2_with fail;refine(Qmi g (.slice (some af) 316 cf) N c h v 3 w4 H4.out.1 HG.out.2.2.1 (by decide)).mono ?_
  rintro e w5 ⟨rfl,rfl⟩;have C5:=Qlu s (Qdw (h+3)) w4 (by have:=HG.out;omega)
  rw [←HD.out.2.2]at C5;generalize Qdw (h+3)=lv at C5⊢;go_wp2_with fail;refine C5.mono ?_;rintro e w5 ⟨v5,rfl,hL⟩;obtain⟨p5,c5,rfl,hR,hB5⟩:=hL.rs;have hb:=hL.b;rw [List.length_map]at hR⊢;obtain⟨n5,hn5⟩:∃n,n=sto.length:=⟨_,rfl⟩;have HN5:Hid (n5≤1000000000):=Qh (by rw [hn5,HD.out.2.2];unfold stoV;rw [Qjd];have:=HG.out;omega)
  rw [←hn5]at hR⊢;have HB5:Hid (∀a,p5=some a→w.heap.size≤a.block):=Qh fun a ha=>Nat.le_trans H4.out.2.1.size (hB5 a ha);have H5:=Qh (⟨H4.out.1.below hb,H4.out.2.1.trans (hb.mono H4.out.2.1.size),H4.out.2.2.1.below hb,H4.out.2.2.2.1.below hb,H4.out.2.2.2.2.below hb,hR⟩:BP g (.slice (some af) 316 cf) N c h v w5∧Below w.heap.size w w5∧RS 2 (some af) 316 cf (fixL.map encP) w5∧RS 2 p2 n2 c2 (one.map encP) w5∧RS 2 p3 n3 c3 (two.map encP) w5∧RS 2 p5 n5 c5 (sto.map encP) w5);clear C5 hL hR hb hn5 hB5 H4;go_wp2_with fail;refine(Qgg p5 n5 c5 sto w5 H5.out.2.2.2.2.2 HF.out.2.2 HN5.out).mono ?_;rintro e w6 ⟨rfl,hb⟩;have H6:=Qh (⟨H5.out.1.below hb,H5.out.2.1.trans (hb.mono H5.out.2.1.size),H5.out.2.2.1.below hb,H5.out.2.2.2.1.below hb,H5.out.2.2.2.2.1.below hb,H5.out.2.2.2.2.2.below hb⟩:BP g (.slice (some af) 316 cf) N c h v w6∧Below w.heap.size w w6∧RS 2 (some af) 316 cf (fixL.map encP) w6∧RS 2 p2 n2 c2 (one.map encP) w6∧RS 2 p3 n3 c3 (two.map encP) w6∧RS 2 p5 n5 c5 (sto.map encP) w6);clear H5 hb;go_wp2_with fail;refine(Qgg p3 n3 c3 two w6 H6.out.2.2.2.2.1 HF.out.2.1 HN3.out).mono ?_;rintro e wz ⟨rfl,hb⟩;have Hz:=Qh (⟨H6.out.1.below hb,H6.out.2.1.trans (hb.mono H6.out.2.1.size),H6.out.2.2.1.below hb,H6.out.2.2.2.1.below hb,H6.out.2.2.2.2.1.below hb,H6.out.2.2.2.2.2.below hb⟩:BP g (.slice (some af) 316 cf) N c h v wz∧Below w.heap.size w wz∧RS 2 (some af) 316 cf (fixL.map encP) wz∧RS 2 p2 n2 c2 (one.map encP) wz∧RS 2 p3 n3 c3 (two.map encP) wz∧RS 2 p5 n5 c5 (sto.map encP) wz);clear H6 hb;by_cases hC:Qaj sto<Qaj two
  ·have HCH:=Qh hC;have hCi:((Qaj sto:Nat):Int)<((Qaj two:Nat):Int):=by omega
   clear hC;have HSEL:Hid (Qcj s l h last=[(last,1),(0,2)]++sto):=Qh (by rw [HPN.out,if_pos HAH.out,if_pos HCH.out])
   have hrs:=Hz.out.2.2.2.2.2;have hbp:=Hz.out.1;have hbw:=Hz.out.2.1;have hq:∀a,p5=some a→w.heap.size≤a.block:=HB5.out;have hg0:g<w.heap.size:=HG.out.1;have hal:=(Below.refl _ wz).alloc Ql (.cells #[.int .i64 (last:Int),.int .i64 1,.int .i64 0,.int .i64 2] 106);have CW:=Qda g (.slice (some af) 316 cf) N c h v (some ⟨wz.heap.size,0,none⟩) 2 2 [(last,1),(0,2)] (wz.alloc (.cells #[.int .i64 (last:Int),.int .i64 1,.int .i64 0,.int .i64 2] 106)) (hbp.below hal) HG.out.2.2.1 (RS.two wz (last:Int) 1 0 2) (fun a ha=>by
    cases ha
    have hsz:=hbw.size;exact⟨fun e=>by have e:wz.heap.size=g:=e;omega,fun e=>by have:=(hbp.ownB _ e).2;simp only at this;omega⟩) (fun x hx=>by
    rcases List.mem_cons.1 hx with rfl|hx
    ·exact⟨by show last<2;have:=HG.out;omega,by show 1≤16;omega⟩
    ·rw [List.mem_singleton.1 hx];exact⟨by show 0<4;omega,by show 2≤16;omega⟩) (by decide) HG.out.2.2.2.1
   have hgg:=Gg.of (g:=g) (v:=v) (hbw.mono Ql);have HQ:=Qh (⟨hrs.below hal,hq,(Gg.of (g:=g) (v:=v) hbw).trans (Gg.of hal),HF.out.2.2,HN5.out⟩:RS 2 p5 n5 c5 (sto.map encP) (wz.alloc (.cells #[.int .i64 (last:Int),.int .i64 1,.int .i64 0,.int .i64 2] 106))∧(∀a,p5=some a→w.heap.size≤a.block)∧Gg g v w v (wz.alloc (.cells #[.int .i64 (last:Int),.int .i64 1,.int .i64 0,.int .i64 2] 106))∧FitN sto∧n5≤1000000000);clear hrs hbp hbw hq hg0 hal hgg;go_wp2_with fail;refine CW.mono ?_;rintro e wy ⟨rfl,v8,c8,h8,hh8,hs8,bp8,gg8⟩;have hb3:Qaj [(last,1),(0,2)]=3:=rfl;have hbo:∀a,p5=some a→a.block≠g∧v.ownBlock≠some a.block:=fun a ha=>by
    have h1:=HQ.out.2.1 a ha;exact⟨by have:=HG.out.1;omega,fun e=>by have:=HG.out.2.1 _ e;omega⟩
   have CW2:=Qda g (.slice (some af) 316 cf) (N+2^(8*c+h)*valN [(last,1),(0,2)]) c8 h8 v8 p5 n5 c5 sto wy bp8 hh8 (HQ.out.1.gg gg8 hbo) (fun a ha=>⟨(hbo a ha).1,fun e=>by
    rcases gg8.own _ e with h1|h1
    ·exact(hbo a ha).2 h1
    ·have:=HQ.out.1.lt a ha;omega⟩) HQ.out.2.2.2.1 HQ.out.2.2.2.2 (by have:=HG.out;omega)
   have H8:=Qh (⟨hs8,HQ.out.2.2.1.trans gg8,hb3⟩:8*c8+h8=8*c+h+Qaj [(last,1),(0,2)]∧Gg g v w v8 wy∧Qaj [(last,1),(0,2)]=3);clear CW bp8 gg8 hs8 hb3 hbo hh8 HQ;go_wp2_with fail;refine CW2.mono ?_;rintro e wx ⟨rfl,v9,c9,h9,hh9,hs9,bp9,gg9⟩;go_wp2_with fail;go_end0;refine⟨rfl,v9,c9,h9,hh9,?_,?_,H8.out.2.1.trans gg9⟩
   ·rw [HSEL.out,Qa6,hs9,H8.out.1,Nat.add_assoc]
   ·rw [HSEL.out,Qco,Nat.mul_add,←Nat.add_assoc,←Nat.mul_assoc,←Nat.pow_add,←H8.out.1];exact bp9
  ·have HCH:=Qh hC;have hCi:¬((Qaj sto:Nat):Int)<((Qaj two:Nat):Int):=by omega
   clear hC;have HSEL:Hid (Qcj s l h last=[(last,1),(2,2)]++two):=Qh (by rw [HPN.out,if_pos HAH.out,if_neg HCH.out])
   have hrs:=Hz.out.2.2.2.2.1;have hbp:=Hz.out.1;have hbw:=Hz.out.2.1;have hq:∀a,p3=some a→w.heap.size≤a.block:=HB3.out;have hg0:g<w.heap.size:=HG.out.1;have hal:=(Below.refl _ wz).alloc Ql (.cells #[.int .i64 (last:Int),.int .i64 1,.int .i64 2,.int .i64 2] 106);have CW:=Qda g (.slice (some af) 316 cf) N c h v (some ⟨wz.heap.size,0,none⟩) 2 2 [(last,1),(2,2)] (wz.alloc (.cells #[.int .i64 (last:Int),.int .i64 1,.int .i64 2,.int .i64 2] 106)) (hbp.below hal) HG.out.2.2.1 (RS.two wz (last:Int) 1 2 2) (fun a ha=>by
    cases ha
    have hsz:=hbw.size;exact⟨fun e=>by have e:wz.heap.size=g:=e;omega,fun e=>by have:=(hbp.ownB _ e).2;simp only at this;omega⟩) (fun x hx=>by
    rcases List.mem_cons.1 hx with rfl|hx
    ·exact⟨by show last<2;have:=HG.out;omega,by show 1≤16;omega⟩
    ·rw [List.mem_singleton.1 hx];exact⟨by show 2<4;omega,by show 2≤16;omega⟩) (by decide) HG.out.2.2.2.1
   have hgg:=Gg.of (g:=g) (v:=v) (hbw.mono Ql);have HQ:=Qh (⟨hrs.below hal,hq,(Gg.of (g:=g) (v:=v) hbw).trans (Gg.of hal),HF.out.2.1,HN3.out⟩:RS 2 p3 n3 c3 (two.map encP) (wz.alloc (.cells #[.int .i64 (last:Int),.int .i64 1,.int .i64 2,.int .i64 2] 106))∧(∀a,p3=some a→w.heap.size≤a.block)∧Gg g v w v (wz.alloc (.cells #[.int .i64 (last:Int),.int .i64 1,.int .i64 2,.int .i64 2] 106))∧FitN two∧n3≤1000000000);clear hrs hbp hbw hq hg0 hal hgg;go_wp2_with fail;refine CW.mono ?_;rintro e wy ⟨rfl,v8,c8,h8,hh8,hs8,bp8,gg8⟩;have hb3:Qaj [(last,1),(2,2)]=3:=rfl;have hbo:∀a,p3=some a→a.block≠g∧v.ownBlock≠some a.block:=fun a ha=>by
    have h1:=HQ.out.2.1 a ha;exact⟨by have:=HG.out.1;omega,fun e=>by have:=HG.out.2.1 _ e;omega⟩
   have CW2:=Qda g (.slice (some af) 316 cf) (N+2^(8*c+h)*valN [(last,1),(2,2)]) c8 h8 v8 p3 n3 c3 two wy bp8 hh8 (HQ.out.1.gg gg8 hbo) (fun a ha=>⟨(hbo a ha).1,fun e=>by
    rcases gg8.own _ e with h1|h1
    ·exact(hbo a ha).2 h1
    ·have:=HQ.out.1.lt a ha;omega⟩) HQ.out.2.2.2.1 HQ.out.2.2.2.2 (by have:=HG.out;omega)
   have H8:=Qh (⟨hs8,HQ.out.2.2.1.trans gg8,hb3⟩:8*c8+h8=8*c+h+Qaj [(last,1),(2,2)]∧Gg g v w v8 wy∧Qaj [(last,1),(2,2)]=3);clear CW bp8 gg8 hs8 hb3 hbo hh8 HQ;go_wp2_with fail;refine CW2.mono ?_;rintro e wx ⟨rfl,v9,c9,h9,hh9,hs9,bp9,gg9⟩;go_wp2_with fail;go_end0;refine⟨rfl,v9,c9,h9,hh9,?_,?_,H8.out.2.1.trans gg9⟩
   ·rw [HSEL.out,Qa6,hs9,H8.out.1,Nat.add_assoc]
   ·rw [HSEL.out,Qco,Nat.mul_add,←Nat.add_assoc,←Nat.mul_assoc,←Nat.pow_add,←H8.out.1];exact bp9
 ·have HAH:=Qh hA;have hAi:¬((Qaj two:Nat):Int)<((Qaj one:Nat):Int):=by omega
  clear hA;go_wp2_with fail;refine(Qmi g (.slice (some af) 316 cf) N c h v 3 w4 H4.out.1 HG.out.2.2.1 (by decide)).mono ?_
  rintro e w5 ⟨rfl,rfl⟩;have C5:=Qlu s (Qdw (h+3)) w4 (by have:=HG.out;omega)
  rw [←HD.out.2.2]at C5;generalize Qdw (h+3)=lv at C5⊢;go_wp2_with fail;refine C5.mono ?_;rintro e w5 ⟨v5,rfl,hL⟩;obtain⟨p5,c5,rfl,hR,hB5⟩:=hL.rs;have hb:=hL.b;rw [List.length_map]at hR⊢;obtain⟨n5,hn5⟩:∃n,n=sto.length:=⟨_,rfl⟩;have HN5:Hid (n5≤1000000000):=Qh (by rw [hn5,HD.out.2.2];unfold stoV;rw [Qjd];have:=HG.out;omega)
  rw [←hn5]at hR⊢;have HB5:Hid (∀a,p5=some a→w.heap.size≤a.block):=Qh fun a ha=>Nat.le_trans H4.out.2.1.size (hB5 a ha);have H5:=Qh (⟨H4.out.1.below hb,H4.out.2.1.trans (hb.mono H4.out.2.1.size),H4.out.2.2.1.below hb,H4.out.2.2.2.1.below hb,H4.out.2.2.2.2.below hb,hR⟩:BP g (.slice (some af) 316 cf) N c h v w5∧Below w.heap.size w w5∧RS 2 (some af) 316 cf (fixL.map encP) w5∧RS 2 p2 n2 c2 (one.map encP) w5∧RS 2 p3 n3 c3 (two.map encP) w5∧RS 2 p5 n5 c5 (sto.map encP) w5);clear C5 hL hR hb hn5 hB5 H4;go_wp2_with fail;refine(Qgg p5 n5 c5 sto w5 H5.out.2.2.2.2.2 HF.out.2.2 HN5.out).mono ?_;rintro e w6 ⟨rfl,hb⟩;have H6:=Qh (⟨H5.out.1.below hb,H5.out.2.1.trans (hb.mono H5.out.2.1.size),H5.out.2.2.1.below hb,H5.out.2.2.2.1.below hb,H5.out.2.2.2.2.1.below hb,H5.out.2.2.2.2.2.below hb⟩:BP g (.slice (some af) 316 cf) N c h v w6∧Below w.heap.size w w6∧RS 2 (some af) 316 cf (fixL.map encP) w6∧RS 2 p2 n2 c2 (one.map encP) w6∧RS 2 p3 n3 c3 (two.map encP) w6∧RS 2 p5 n5 c5 (sto.map encP) w6);clear H5 hb;go_wp2_with fail;refine(Qgg p2 n2 c2 one w6 H6.out.2.2.2.1 HF.out.1 HN2.out).mono ?_;rintro e wz ⟨rfl,hb⟩;have Hz:=Qh (⟨H6.out.1.below hb,H6.out.2.1.trans (hb.mono H6.out.2.1.size),H6.out.2.2.1.below hb,H6.out.2.2.2.1.below hb,H6.out.2.2.2.2.1.below hb,H6.out.2.2.2.2.2.below hb⟩:BP g (.slice (some af) 316 cf) N c h v wz∧Below w.heap.size w wz∧RS 2 (some af) 316 cf (fixL.map encP) wz∧RS 2 p2 n2 c2 (one.map encP) wz∧RS 2 p3 n3 c3 (two.map encP) wz∧RS 2 p5 n5 c5 (sto.map encP) wz);clear H6 hb;by_cases hC:Qaj sto<Qaj one
  ·have HCH:=Qh hC;have hCi:((Qaj sto:Nat):Int)<((Qaj one:Nat):Int):=by omega
   clear hC;have HSEL:Hid (Qcj s l h last=[(last,1),(0,2)]++sto):=Qh (by rw [HPN.out,if_neg HAH.out,if_pos HCH.out])
   have hrs:=Hz.out.2.2.2.2.2;have hbp:=Hz.out.1;have hbw:=Hz.out.2.1;have hq:∀a,p5=some a→w.heap.size≤a.block:=HB5.out;have hg0:g<w.heap.size:=HG.out.1;have hal:=(Below.refl _ wz).alloc Ql (.cells #[.int .i64 (last:Int),.int .i64 1,.int .i64 0,.int .i64 2] 106);have CW:=Qda g (.slice (some af) 316 cf) N c h v (some ⟨wz.heap.size,0,none⟩) 2 2 [(last,1),(0,2)] (wz.alloc (.cells #[.int .i64 (last:Int),.int .i64 1,.int .i64 0,.int .i64 2] 106)) (hbp.below hal) HG.out.2.2.1 (RS.two wz (last:Int) 1 0 2) (fun a ha=>by
    cases ha
    have hsz:=hbw.size;exact⟨fun e=>by have e:wz.heap.size=g:=e;omega,fun e=>by have:=(hbp.ownB _ e).2;simp only at this;omega⟩) (fun x hx=>by
    rcases List.mem_cons.1 hx with rfl|hx
    ·exact⟨by show last<2;have:=HG.out;omega,by show 1≤16;omega⟩
    ·rw [List.mem_singleton.1 hx];exact⟨by show 0<4;omega,by show 2≤16;omega⟩) (by decide) HG.out.2.2.2.1
   have hgg:=Gg.of (g:=g) (v:=v) (hbw.mono Ql);have HQ:=Qh (⟨hrs.below hal,hq,(Gg.of (g:=g) (v:=v) hbw).trans (Gg.of hal),HF.out.2.2,HN5.out⟩:RS 2 p5 n5 c5 (sto.map encP) (wz.alloc (.cells #[.int .i64 (last:Int),.int .i64 1,.int .i64 0,.int .i64 2] 106))∧(∀a,p5=some a→w.heap.size≤a.block)∧Gg g v w v (wz.alloc (.cells #[.int .i64 (last:Int),.int .i64 1,.int .i64 0,.int .i64 2] 106))∧FitN sto∧n5≤1000000000);clear hrs hbp hbw hq hg0 hal hgg;go_wp2_with fail;refine CW.mono ?_;rintro e wy ⟨rfl,v8,c8,h8,hh8,hs8,bp8,gg8⟩;have hb3:Qaj [(last,1),(0,2)]=3:=rfl;have hbo:∀a,p5=some a→a.block≠g∧v.ownBlock≠some a.block:=fun a ha=>by
    have h1:=HQ.out.2.1 a ha;exact⟨by have:=HG.out.1;omega,fun e=>by have:=HG.out.2.1 _ e;omega⟩
   have CW2:=Qda g (.slice (some af) 316 cf) (N+2^(8*c+h)*valN [(last,1),(0,2)]) c8 h8 v8 p5 n5 c5 sto wy bp8 hh8 (HQ.out.1.gg gg8 hbo) (fun a ha=>⟨(hbo a ha).1,fun e=>by
    rcases gg8.own _ e with h1|h1
    ·exact(hbo a ha).2 h1
    ·have:=HQ.out.1.lt a ha;omega⟩) HQ.out.2.2.2.1 HQ.out.2.2.2.2 (by have:=HG.out;omega)
   have H8:=Qh (⟨hs8,HQ.out.2.2.1.trans gg8,hb3⟩:8*c8+h8=8*c+h+Qaj [(last,1),(0,2)]∧Gg g v w v8 wy∧Qaj [(last,1),(0,2)]=3);clear CW bp8 gg8 hs8 hb3 hbo hh8 HQ;go_wp2_with fail;refine CW2.mono ?_;rintro e wx ⟨rfl,v9,c9,h9,hh9,hs9,bp9,gg9⟩;go_wp2_with fail;go_end0;refine⟨rfl,v9,c9,h9,hh9,?_,?_,H8.out.2.1.trans gg9⟩
   ·rw [HSEL.out,Qa6,hs9,H8.out.1,Nat.add_assoc]
   ·rw [HSEL.out,Qco,Nat.mul_add,←Nat.add_assoc,←Nat.mul_assoc,←Nat.pow_add,←H8.out.1];exact bp9
  ·have HCH:=Qh hC;have hCi:¬((Qaj sto:Nat):Int)<((Qaj one:Nat):Int):=by omega
   clear hC;have HSEL:Hid (Qcj s l h last=[(last,1),(1,2)]++one):=Qh (by rw [HPN.out,if_neg HAH.out,if_neg HCH.out])
   have hrs:=Hz.out.2.2.2.1;have hbp:=Hz.out.1;have hbw:=Hz.out.2.1;have hq:∀a,p2=some a→w.heap.size≤a.block:=HB2.out;have hg0:g<w.heap.size:=HG.out.1;have hal:=(Below.refl _ wz).alloc Ql (.cells #[.int .i64 (last:Int),.int .i64 1,.int .i64 1,.int .i64 2] 106);have CW:=Qda g (.slice (some af) 316 cf) N c h v (some ⟨wz.heap.size,0,none⟩) 2 2 [(last,1),(1,2)] (wz.alloc (.cells #[.int .i64 (last:Int),.int .i64 1,.int .i64 1,.int .i64 2] 106)) (hbp.below hal) HG.out.2.2.1 (RS.two wz (last:Int) 1 1 2) (fun a ha=>by
    cases ha
    have hsz:=hbw.size;exact⟨fun e=>by have e:wz.heap.size=g:=e;omega,fun e=>by have:=(hbp.ownB _ e).2;simp only at this;omega⟩) (fun x hx=>by
    rcases List.mem_cons.1 hx with rfl|hx
    ·exact⟨by show last<2;have:=HG.out;omega,by show 1≤16;omega⟩
    ·rw [List.mem_singleton.1 hx];exact⟨by show 1<4;omega,by show 2≤16;omega⟩) (by decide) HG.out.2.2.2.1
   have hgg:=Gg.of (g:=g) (v:=v) (hbw.mono Ql);have HQ:=Qh (⟨hrs.below hal,hq,(Gg.of (g:=g) (v:=v) hbw).trans (Gg.of hal),HF.out.1,HN2.out⟩:RS 2 p2 n2 c2 (one.map encP) (wz.alloc (.cells #[.int .i64 (last:Int),.int .i64 1,.int .i64 1,.int .i64 2] 106))∧(∀a,p2=some a→w.heap.size≤a.block)∧Gg g v w v (wz.alloc (.cells #[.int .i64 (last:Int),.int .i64 1,.int .i64 1,.int .i64 2] 106))∧FitN one∧n2≤1000000000);clear hrs hbp hbw hq hg0 hal hgg;go_wp2_with fail;refine CW.mono ?_;rintro e wy ⟨rfl,v8,c8,h8,hh8,hs8,bp8,gg8⟩;have hb3:Qaj [(last,1),(1,2)]=3:=rfl;have hbo:∀a,p2=some a→a.block≠g∧v.ownBlock≠some a.block:=fun a ha=>by
    have h1:=HQ.out.2.1 a ha;exact⟨by have:=HG.out.1;omega,fun e=>by have:=HG.out.2.1 _ e;omega⟩
   have CW2:=Qda g (.slice (some af) 316 cf) (N+2^(8*c+h)*valN [(last,1),(1,2)]) c8 h8 v8 p2 n2 c2 one wy bp8 hh8 (HQ.out.1.gg gg8 hbo) (fun a ha=>⟨(hbo a ha).1,fun e=>by
    rcases gg8.own _ e with h1|h1
    ·exact(hbo a ha).2 h1
    ·have:=HQ.out.1.lt a ha;omega⟩) HQ.out.2.2.2.1 HQ.out.2.2.2.2 (by have:=HG.out;omega)
   have H8:=Qh (⟨hs8,HQ.out.2.2.1.trans gg8,hb3⟩:8*c8+h8=8*c+h+Qaj [(last,1),(1,2)]∧Gg g v w v8 wy∧Qaj [(last,1),(1,2)]=3);clear CW bp8 gg8 hs8 hb3 hbo hh8 HQ;go_wp2_with fail;refine CW2.mono ?_;rintro e wx ⟨rfl,v9,c9,h9,hh9,hs9,bp9,gg9⟩;go_wp2_with fail;go_end0;refine⟨rfl,v9,c9,h9,hh9,?_,?_,H8.out.2.1.trans gg9⟩
   ·rw [HSEL.out,Qa6,hs9,H8.out.1,Nat.add_assoc]
   ·rw [HSEL.out,Qco,Nat.mul_add,←Nat.add_assoc,←Nat.mul_assoc,←Nat.pow_add,←H8.out.1];exact bp9
def Qe3 (s:ByteArray) (a to B:Nat):List (Nat×Nat):=Qcj (s.extract a to) (Qbl (Qac (s.extract 0 to)) a to) (B%8) (if to=s.size then 1 else 0)
def Qn9 (s:ByteArray):Nat→Nat→Nat→List (Nat×Nat)
 |0,_,_=>[]
 |f+1,a,B=>Qe3 s a (min (a+32768) s.size) B++if min (a+32768) s.size=s.size then []else Qn9 s f (a+32768) (B+Qaj (Qe3 s a (min (a+32768) s.size) B))
def Qmq (s:ByteArray):List (Nat×Nat):=Qn9 s (s.size /32768+1) 0 0
def Qgl (s:ByteArray):ByteArray:=txtN (valN (Qmq s)) (Qaj (Qmq s))
theorem Qm8 {b:Nat→Nat} (hb:∀i,b i<256) (lo to:Nat):∀f a k (h:k<(Qdy b lo to f a).length),a+sumT ((Qdy b lo to f a).take k)<to∧okT b to (a+sumT ((Qdy b lo to f a).take k)) ((Qdy b lo to f a)[k])
 |0,a,k,h=>absurd h (Nat.not_lt_zero k)
 |f+1,a,k,h=>by
  by_cases hlt:a<to
  ·have e:=Qf7 (b:=b) (lo:=lo) (f:=f) hlt;have hk:=Qi3 hb lo hlt;generalize Qce b lo to a=t at e hk;have key:∀(L:List (Nat×Nat)) (hL:L=t::Qdy b lo to f (a+t.1)) (h:k<L.length),a+sumT (L.take k)<to∧okT b to (a+sumT (L.take k)) L[k]:=by
    intro L hL h;subst hL;cases k with
    |zero=>exact⟨hlt,hk⟩
    |succ k=>
     have ih:=Qm8 hb lo to f (a+t.1) k (by simpa using h)
     have e2:a+sumT ((t::Qdy b lo to f (a+t.1)).take (k+1))=a+t.1+sumT ((Qdy b lo to f (a+t.1)).take k):=by
      show a+(t.1+sumT _)=_
      omega
     rw [e2];exact ih
   exact key _ e h
  ·rw [Qf6 hlt]at h;exact absurd h (Nat.not_lt_zero k)
theorem Qm9 (s:ByteArray) (a to:Nat) (h:a≤to) (hp:to≤a+32768):OkTs (to-a) (Qbl (Qac s) a to):=fun k hk=>by
 have:=Qm8 (Qaz s) (a-32768) to (to-a) a k hk;obtain⟨h1,h2,h3,h4,h5⟩:=this;have h1:a+sumT ((Qbl (Qac s) a to).take k)<to:=h1;refine⟨by omega,?_⟩
 rcases h5 with h5|h5
 ·exact .inl ⟨h5.1,by omega⟩
 ·exact .inr ⟨h5.1,h4,h5.2.1,h5.2.2.2.1⟩
theorem Qkl (b:Nat→Nat) (l:List (Nat×Nat)):(Qas b l).length≤2*l.length+1:=by
 unfold Qas;rw [List.length_append];have:=Qdh b l 0;show _+1≤_;omega
theorem Qk4 (ws:List (Int×Nat×Nat)):(Qbs ws).length≤2000+2*ws.length:=by
 unfold Qbs;rw [List.length_append,Qcs];have:=Qko (kLs ws) (kNs ws) (kLd ws) (kNd ws) (by have:kNs ws≤286:=Qdr _ _ _;omega) (by have:kNd ws≤30:=Qdr _ _ _;omega)
 omega
theorem Qvo (s:ByteArray) (l:List (Nat×Nat)) (h last:Nat) (hs:s.size≤32768) (hok:OkTs s.size l) (hl:last≤1) (hn:l.length≤32768):FitN (Qcj s l h last)∧(Qcj s l h last).length≤134000:=by
 have htx:=Qm5 s hok;have htl:=Qkl (Qac s) l;have hf1:FitN (Qaw fixL (Qas (Qac s) l)):=Qe2 Qmb fun x hx=>(htx x hx).2;have hf2:FitN (Qbs (Qas (Qac s) l)):=Qhz (by omega) fun x hx=>(htx x hx).2
 have hf3:FitN (stoV s (Qdw (h+3))):=Qr2 s _ (by omega) (by unfold Qdw;omega)
 have l1:(Qaw fixL (Qas (Qac s) l)).length≤131074:=by rw [Qcs];omega
 have l2:=Qk4 (Qas (Qac s) l);have l3:(stoV s (Qdw (h+3))).length≤32771:=by unfold stoV;rw [Qjd];omega
 have hh:∀k,k<4→FitN [(last,1),(k,2)]:=fun k hk x hx=>by
  rcases List.mem_cons.1 hx with rfl|hx
  ·exact⟨by show last<2;omega,by show 1≤16;omega⟩
  ·rw [List.mem_singleton.1 hx];exact⟨by show k<4;omega,by show 2≤16;omega⟩
 have ll:∀(k:Nat) (L:List (Nat×Nat)),([(last,1),(k,2)]++L).length=L.length+2:=fun k L=>by rw [List.length_append];show 2+L.length=_;omega
 unfold Qcj;split
 ·split
  ·exact⟨(hh 0 (by decide)).app hf3,by rw [ll];omega⟩
  ·exact⟨(hh 2 (by decide)).app hf2,by rw [ll];omega⟩
 ·split
  ·exact⟨(hh 0 (by decide)).app hf3,by rw [ll];omega⟩
  ·exact⟨(hh 1 (by decide)).app hf1,by rw [ll];omega⟩
theorem Qj3 (s:ByteArray) (a to B:Nat) (h:a≤to) (hp:to≤a+32768) (hs:to≤s.size):FitN (Qe3 s a to B)∧Qaj (Qe3 s a to B)≤2144000:=by
 have hsz:(s.extract a to).size=to-a:=by rw [ByteArray.size_extract];omega
 have:=Qvo (s.extract a to) (Qbl (Qac (s.extract 0 to)) a to) (B%8) (if to=s.size then 1 else 0) (by omega) (by rw [hsz];exact Qm9 _ a to h hp) (by split<;>decide) (by have:(Qbl (Qac (s.extract 0 to)) a to).length≤to-a:=Qht _ _ _ _ _;omega)
 refine⟨this.1,?_⟩;have h2:=Qg4 this.1;have h3:=this.2;show Qaj (Qcj _ _ _ _)≤_;omega
end Go.Proofs.YtbmcjdoiohcaaaaGreat
