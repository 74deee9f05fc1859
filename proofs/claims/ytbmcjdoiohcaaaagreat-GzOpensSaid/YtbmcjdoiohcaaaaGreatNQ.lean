/- NQ -/
import Derived.Test.YtbmcjdoiohcaaaaGreatND
import Derived.BigQuiet
set_option maxRecDepth 100000
set_option maxHeartbeats 16000000
namespace Go.Proofs.YtbmcjdoiohcaaaaGreat
open Go.RowKit
theorem Qmw (p:Option Addr) (n cap:Nat) (f:Nat→Int) (a most:Nat) (w:World) (h:IS p n cap f w) (ha:a<n) (hn:n≤17592186044416) (hm:most≤1000):
  Calls Tryz.prog 126 #[.slice p n cap,.int .i64 (a:Int),.int .i64 (most:Int)] w fun e w'=>e= .returned (.int .i64 (ali f n a most:Int))∧∃nq,w'=w.drewN nq:=by
 have HI:=Qh h;have HB:=Qh (⟨ha,hn,hm⟩:a<n∧n≤17592186044416∧most≤1000);obtain⟨pa,rfl⟩:∃b,p=some b:=by
  cases p with
  |none=>have:=(h.nil_ rfl).1;omega
  |some b=>exact⟨b,rfl⟩
 clear h ha hn hm;go_enter Tryz.func126,Tryz.ntmps126;go_wp2_with fail;go_loopw [7] (fun k wr=>∃i nq:Nat,k= .int .i64 (i:Int)∧i≤most∧Hid (aliG f n a i (most-i)=ali f n a most)∧wr=w.drewN nq) (fun k _=>most-(intOf k).toNat)
 case atStart=>exact⟨0,0,rfl,Nat.zero_le _,Qh rfl,rfl⟩
 case round=>
  obtain⟨i,nq,rfl,hi,HA,rfl⟩:=hrel;have hb:=HB.out;obtain⟨j,hj⟩:∃j,j=a+i:=⟨_,rfl⟩;have hw:IntKind.i64.wrap ((a:Int)+(i:Int))=(j:Int):=by rw [IntWalk.i64_in _ (by omega)];omega
  have hkw:IntKind.i64.wrap ((i:Int)+1)=((i+1:Nat):Int):=by rw [IntWalk.i64_in _ (by omega)];rfl
  have hai:(a:Int)<(n:Int):=by omega
  have HCA:Hid (w.cell? (pa.add a)=some (.int .i64 (f a))):=Qh (HI.out.cell pa rfl a hb.1);have HCJ:Hid (j<n→w.cell? (pa.add j)=some (.int .i64 (f j))):=Qh fun h=>HI.out.cell pa rfl j h;by_cases hjn:j<n
  ·have hjni:(j:Int)<(n:Int):=by omega
   replace HCJ:=Qh (HCJ.out hjn);by_cases him:i<most
   ·have himi:(i:Int)<(most:Int):=by omega
    have HS:Hid (most-i=(most-(i+1))+1):=Qh (by omega)
    have HIM:=Qh him;by_cases he:f j=f a
    ·have HA2:Hid (aliG f n a (i+1) (most-(i+1))=ali f n a most):=Qh (by rw [←HA.out,HS.out];show _=if a+i<n∧f (a+i)=f a then _ else _;rw [if_pos (by rw [←hj];exact⟨hjn,he⟩)])
     have HE:Hid ((f j==f a)=true):=Qh (beq_iff_eq.2 he);clear he HA HS hj hb hjn him;go_wp2_with fail;refine Qad (Two 1000 1001 fun _ _ wx=>wx=w.drewN (nq+1)) (by kernel_rfl) rfl ?_
     refine tA (i:=0) rfl rfl ?_;simp only [pu];refine tA (i:=1) rfl rfl ?_;simp only [pu];refine tV (i:=2) (v:= .int .i64 (j:Int)) rfl rfl ?_;simp only [pu];refine tA (i:=3) rfl rfl ?_;simp only [pu];refine tA (i:=4) rfl rfl ?_;simp only [pu];refine tV (i:=5) (v:= .bool true) rfl rfl ?_;simp only [pu];refine tA (i:=6) rfl rfl ?_;simp only [pu];refine tA (i:=7) rfl rfl ?_;simp only [pu];refine tA (i:=8) rfl rfl ?_;simp only [pu];refine tV (i:=9) (v:= .bool true) rfl rfl ?_;simp only [pu];refine tV (i:=10) (v:= .bool true) rfl rfl ?_;simp only [pu];refine tA (i:=11) rfl rfl ?_;simp only [pu];refine tA (i:=12) rfl rfl ?_;simp only [pu];refine tA (i:=13) rfl rfl ?_;simp only [pu];refine tA (i:=14) rfl rfl ?_;simp only [pu];refine tV (i:=15) (v:= .int .i64 (j:Int)) rfl rfl ?_;simp only [pu];refine tV (i:=16) (v:= .pointer (some (pa.add j))) rfl rfl ?_;simp only [pu];refine tL (i:=17) (v:= .int .i64 (f j)) rfl rfl (fun f1 f2 wx hT=> ?_) ?_
     ·have cc:=HCJ.out;go_simp;skip
     simp only [pu];refine tA (i:=18) rfl rfl ?_;simp only [pu];refine tA (i:=19) rfl rfl ?_;simp only [pu];refine tV (i:=20) (v:= .pointer (some (pa.add a))) rfl rfl ?_;simp only [pu];refine tL (i:=21) (v:= .int .i64 (f a)) rfl rfl (fun f1 f2 wx hT=> ?_) ?_
     ·have cc:=HCA.out;go_simp;skip
     simp only [pu];refine tL (i:=22) (v:= .bool true) rfl rfl (fun f1 f2 wx hT=> ?_) ?_
     ·have hE:=HE.out;go_simp;skip
     simp only [pu];refine tV (i:=23) (v:= .bool true) rfl rfl ?_;simp only [pu];refine Qag rfl ?_ _;intro w2 hT2;subst hT2;go_wp2_with fail;exact⟨⟨i+1,nq+1,by go_num,by have:=HIM.out;omega,HA2,rfl⟩,by simp only [intOf];have:=HIM.out;omega⟩
    ·have HR:Hid (ali f n a most=i):=Qh (by rw [←HA.out,HS.out];show(if a+i<n∧f (a+i)=f a then _ else _)=_;rw [if_neg (by rw [←hj];exact fun h=>he h.2)])
     have HE:Hid ((f j==f a)=false):=Qh (Bool.eq_false_iff.2 fun h=>he (beq_iff_eq.1 h));clear he HA HS hj hb hjn him;go_wp2_with fail;refine Qad (Two 1000 1001 fun _ _ wx=>wx=w.drewN (nq+1)) (by kernel_rfl) rfl ?_
     refine tA (i:=0) rfl rfl ?_;simp only [pu];refine tA (i:=1) rfl rfl ?_;simp only [pu];refine tV (i:=2) (v:= .int .i64 (j:Int)) rfl rfl ?_;simp only [pu];refine tA (i:=3) rfl rfl ?_;simp only [pu];refine tA (i:=4) rfl rfl ?_;simp only [pu];refine tV (i:=5) (v:= .bool true) rfl rfl ?_;simp only [pu];refine tA (i:=6) rfl rfl ?_;simp only [pu];refine tA (i:=7) rfl rfl ?_;simp only [pu];refine tA (i:=8) rfl rfl ?_;simp only [pu];refine tV (i:=9) (v:= .bool true) rfl rfl ?_;simp only [pu];refine tV (i:=10) (v:= .bool true) rfl rfl ?_;simp only [pu];refine tA (i:=11) rfl rfl ?_;simp only [pu];refine tA (i:=12) rfl rfl ?_;simp only [pu];refine tA (i:=13) rfl rfl ?_;simp only [pu];refine tA (i:=14) rfl rfl ?_;simp only [pu];refine tV (i:=15) (v:= .int .i64 (j:Int)) rfl rfl ?_;simp only [pu];refine tV (i:=16) (v:= .pointer (some (pa.add j))) rfl rfl ?_;simp only [pu];refine tL (i:=17) (v:= .int .i64 (f j)) rfl rfl (fun f1 f2 wx hT=> ?_) ?_
     ·have cc:=HCJ.out;go_simp;skip
     simp only [pu];refine tA (i:=18) rfl rfl ?_;simp only [pu];refine tA (i:=19) rfl rfl ?_;simp only [pu];refine tV (i:=20) (v:= .pointer (some (pa.add a))) rfl rfl ?_;simp only [pu];refine tL (i:=21) (v:= .int .i64 (f a)) rfl rfl (fun f1 f2 wx hT=> ?_) ?_
     ·have cc:=HCA.out;go_simp;skip
     simp only [pu];refine tL (i:=22) (v:= .bool false) rfl rfl (fun f1 f2 wx hT=> ?_) ?_
     ·have hE:=HE.out;go_simp;skip
     simp only [pu];refine tV (i:=23) (v:= .bool false) rfl rfl ?_;simp only [pu];refine Qag rfl ?_ _;intro w2 hT2;subst hT2;go_wp2_with fail;go_ret;exact⟨by rw [HR.out];rfl,nq+1,rfl⟩
   ·have himi:¬(i:Int)<(most:Int):=by omega
    have him2:most≤i:=by omega
    have HR:Hid (ali f n a most=i):=Qh (by rw [←HA.out,show most-i=0 by omega];rfl)
    clear HA hj hb hjn him;go_wp2_with fail;refine Qad (Two 1000 1001 fun _ _ wx=>wx=w.drewN (nq+1)) (by kernel_rfl) rfl ?_
    refine tA (i:=0) rfl rfl ?_;simp only [pu];refine tA (i:=1) rfl rfl ?_;simp only [pu];refine tV (i:=2) (v:= .int .i64 (j:Int)) rfl rfl ?_;simp only [pu];refine tA (i:=3) rfl rfl ?_;simp only [pu];refine tA (i:=4) rfl rfl ?_;simp only [pu];refine tV (i:=5) (v:= .bool true) rfl rfl ?_;simp only [pu];refine tA (i:=6) rfl rfl ?_;simp only [pu];refine tA (i:=7) rfl rfl ?_;simp only [pu];refine tA (i:=8) rfl rfl ?_;simp only [pu];refine tV (i:=9) (v:= .bool false) rfl rfl ?_;simp only [pu];refine tV (i:=10) (v:= .bool false) rfl rfl ?_;simp only [pu];refine tA (i:=11) rfl rfl ?_;simp only [pu];refine Qaa (i:=12) (v:=undef) rfl (Qae rfl) ?_;simp only [pu];refine Qaa (i:=13) (v:=undef) rfl (Qae rfl) ?_;simp only [pu];refine Qaa (i:=14) (v:=undef) rfl (Qae rfl) ?_;simp only [pu];refine Qaa (i:=15) (v:=undef) rfl (Qae rfl) ?_;simp only [pu];refine Qaa (i:=16) (v:=undef) rfl (Qae rfl) ?_;simp only [pu];refine Qaa (i:=17) (v:=undef) rfl (Qae rfl) ?_;simp only [pu];refine Qaa (i:=18) (v:=undef) rfl (Qae rfl) ?_;simp only [pu];refine Qaa (i:=19) (v:=undef) rfl (Qae rfl) ?_;simp only [pu];refine Qaa (i:=20) (v:=undef) rfl (Qae rfl) ?_;simp only [pu];refine Qaa (i:=21) (v:=undef) rfl (Qae rfl) ?_;simp only [pu];refine Qaa (i:=22) (v:=undef) rfl (Qae rfl) ?_;simp only [pu];refine tV (i:=23) (v:= .bool false) rfl rfl ?_;simp only [pu];refine Qag rfl ?_ _;intro w2 hT2;subst hT2;go_wp2_with fail;go_ret;exact⟨by rw [HR.out];rfl,nq+1,rfl⟩
  ·have hjni:¬(j:Int)<(n:Int):=by omega
   have hjn2:n≤j:=by omega
   have HR:Hid (ali f n a most=i):=Qh (by
    rw [←HA.out];cases most-i with
    |zero=>rfl
    |succ k=>show(if a+i<n∧f (a+i)=f a then _ else _)=_;rw [if_neg (by rw [←hj];exact fun h=>hjn h.1)])
   clear HA hj hb hjn;go_wp2_with fail;refine Qad (Two 1000 1001 fun _ _ wx=>wx=w.drewN (nq+1)) (by kernel_rfl) rfl ?_
   refine tA (i:=0) rfl rfl ?_;simp only [pu];refine tA (i:=1) rfl rfl ?_;simp only [pu];refine tV (i:=2) (v:= .int .i64 (j:Int)) rfl rfl ?_;simp only [pu];refine tA (i:=3) rfl rfl ?_;simp only [pu];refine tA (i:=4) rfl rfl ?_;simp only [pu];refine tV (i:=5) (v:= .bool false) rfl rfl ?_;simp only [pu];refine tA (i:=6) rfl rfl ?_;simp only [pu];refine Qaa (i:=7) (v:=undef) rfl (Qae rfl) ?_;simp only [pu];refine Qaa (i:=8) (v:=undef) rfl (Qae rfl) ?_;simp only [pu];refine Qaa (i:=9) (v:=undef) rfl (Qae rfl) ?_;simp only [pu];refine tV (i:=10) (v:= .bool false) rfl rfl ?_;simp only [pu];refine tA (i:=11) rfl rfl ?_;simp only [pu];refine Qaa (i:=12) (v:=undef) rfl (Qae rfl) ?_;simp only [pu];refine Qaa (i:=13) (v:=undef) rfl (Qae rfl) ?_;simp only [pu];refine Qaa (i:=14) (v:=undef) rfl (Qae rfl) ?_;simp only [pu];refine Qaa (i:=15) (v:=undef) rfl (Qae rfl) ?_;simp only [pu];refine Qaa (i:=16) (v:=undef) rfl (Qae rfl) ?_;simp only [pu];refine Qaa (i:=17) (v:=undef) rfl (Qae rfl) ?_;simp only [pu];refine Qaa (i:=18) (v:=undef) rfl (Qae rfl) ?_;simp only [pu];refine Qaa (i:=19) (v:=undef) rfl (Qae rfl) ?_;simp only [pu];refine Qaa (i:=20) (v:=undef) rfl (Qae rfl) ?_;simp only [pu];refine Qaa (i:=21) (v:=undef) rfl (Qae rfl) ?_;simp only [pu];refine Qaa (i:=22) (v:=undef) rfl (Qae rfl) ?_;simp only [pu];refine tV (i:=23) (v:= .bool false) rfl rfl ?_;simp only [pu];refine Qag rfl ?_ _;intro w2 hT2;subst hT2;go_wp2_with fail;go_ret;exact⟨by rw [HR.out];rfl,nq+1,rfl⟩
theorem Qfe (l:List (Int×Nat×Nat)) (x:Int×Nat×Nat):runA (l++[x])=runA l++[encI x.1]:=by unfold runA;rw [List.map_append];rfl
theorem Qff (l:List (Int×Nat×Nat)) (x:Int×Nat×Nat):runB (l++[x])=runB l++[encI (x.2.1:Int)]:=by unfold runB;rw [List.map_append];rfl
theorem Qvv (p:Option Addr) (n cap:Nat) (f:Nat→Int) (w:World) (h:IS p n cap f w) (hn:n≤1000000000):
  Calls Tryz.prog 93 #[.slice p n cap] w fun e w'=>∃v1 v2,e= .returned (.tuple #[v1,v2])∧LS 3 1 w.heap.size w (runA (Qef f n)) v1 w'∧LS 3 1 w.heap.size w (runB (Qef f n)) v2 w':=by
 have HI:Hid (∀wx,Below w.heap.size w wx→IS p n cap f wx):=Qh fun wx hb=>h.below hb;have HL0:Hid (LS 3 1 w.heap.size w (runA []) (.slice none 0 0) w):=Qh (LS.nil Qb Ql);clear h;go_enter Tryz.func93,Tryz.ntmps93;go_wp2_with fail;go_loopg [4,5,6] n (fun gk v1 v2 u wr=>∃(k:Nat) (x1 x2:Value) (l:List (Int×Nat×Nat)),gk=n-k∧x1=v1∧x2=v2∧u= .int .i64 (k:Int)∧k≤n∧l.length≤k∧Hid (Qef f n=l++Qdg f n (n-k) k)∧Hid (LS 3 1 w.heap.size w (runA l) x1 wr∧LS 3 1 w.heap.size w (runB l) x2 wr∧(∀i,x1.ownBlock=some i→x2.ownBlock≠some i)))
 case atStart=>exact⟨0,_,_,[],rfl,rfl,rfl,rfl,by omega,by decide,Qh rfl,Qh ⟨HL0.out,HL0.out,fun i e=>by cases e⟩⟩
 case round=>
  obtain⟨k,x1,x2,l,hgk,rfl,rfl,rfl,hk,hl,HK,HL⟩:=hrel;clear HL0;by_cases hlt:k<n
  ·have hlti:(k:Int)<(n:Int):=by omega
   have hI:=HI.out wr HL.out.1.b;obtain⟨pa,rfl⟩:∃a,p=some a:=by
    cases p with
    |none=>have:=(hI.nil_ rfl).1;omega
    |some a=>exact⟨a,rfl⟩
   have HC0:=Qh (hI.cell pa rfl k hlt);have HLN:Hid ((runA l).length≤999999999999∧(runB l).length≤999999999999):=Qh (by unfold runA runB;simp only [List.length_map];omega)
   have HKN:=Qh (⟨hlt,hgk,hn,hl⟩:k<n∧gk=n-k∧n≤1000000000∧l.length≤k);have HV:Hid (runV f n k=_):=Qh (runV.eq_1 f n k);have HPV:=Qh (⟨Qmy f n k,@Qv5 f n k hlt⟩:0<(runV f n k).2∧k+(runV f n k).2≤n);by_cases hz:f k=0
   ·have C:=Qmw (some pa) n cap f k 138 wr hI hlt (by omega) (by decide)
    have htl:=Qfm f n k 138;obtain⟨t,ht⟩:∃t,t=ali f n k 138:=⟨_,rfl⟩;rw [←ht]at C htl;have HTT:=Qh ht;clear ht hI;have cc:wr.cell? (pa.add k)=some (.int .i64 (f k)):=HC0.out;have HE:Hid ((f k==0)=true):=Qh (beq_iff_eq.2 hz);have hE:=HE.out;have HZ:=Qh hz;clear hz;go_wp2_with fail;refine C.mono ?_;rintro e w1 ⟨rfl,nq,rfl⟩;clear C cc;by_cases hc:11≤t
    ·have hgi:(t:Int)≥11:=by omega
     have HN:Hid (runV f n k=((18,t-11,7),t)):=Qh (by rw [HV.out,if_pos HZ.out,←HTT.out,if_pos hc])
     have HP:Hid (0<t∧k+t≤n):=Qh (by have:=HPV.out;rw [HN.out]at this;exact this)
     have hw:IntKind.i64.wrap ((t:Int)-11)=((t-11:Nat):Int):=by rw [IntWalk.i64_in _ (by omega)];omega
     have hw2:(t:Int)-11=((t-11:Nat):Int):=by omega
     clear HV HPV HTT;have HT:Hid (Qef f n=(l++[(18,t-11,7)])++Qdg f n (n-(k+t)) (k+t)):=Qh (by
      have h1:=HKN.out.1;have h2:=HKN.out.2;rw [HK.out,show n-k=n-k-1+1 by omega,Qcb HKN.out.1,HN.out,Qcn f n (n-k-1) (n-(k+t)) _ (by have:=HP.out;omega) (by have:=HP.out;omega)]
      simp)
     have H0:Hid (LS 3 1 w.heap.size w (runA l) x1 (wr.drewN (nq))∧LS 3 1 w.heap.size w (runB l) x2 (wr.drewN (nq))∧(∀i,x1.ownBlock=some i→x2.ownBlock≠some i)):=Qh ⟨HL.out.1.below (Qbu (Below.refl _ wr) _),HL.out.2.1.below (Qbu (Below.refl _ wr) _),HL.out.2.2⟩;have hkw:IntKind.i64.wrap ((k:Int)+(t:Int))=((k+t:Nat):Int):=by have:=HKN.out;have:=HP.out;rw [IntWalk.i64_in _ (by omega)];omega
     generalize wr.drewN (nq)=wz at H0⊢;clear HL HK HN;go_wp2_with (first|(at_builtin;refine Qax rfl (.tmp 61) (.tmp 63) 92 rfl rfl rfl H0.out.1 (18) rfl HLN.out.1 ?_;intro v9 w9 h9 g9;have H9:Hid (LS 3 1 w.heap.size w (runA (l++[(18,t-11,7)])) v9 w9∧LS 3 1 w.heap.size w (runB l) x2 w9∧(∀i,v9.ownBlock=some i→x2.ownBlock≠some i)):=Qh ⟨by rw [Qfe];exact h9,H0.out.2.1.gr g9 (Qcr H0.out.2.2) (fun i e=>(H0.out.1.ownB i e).1),Qcr (Qhj g9 (Qcr H0.out.2.2) (fun i e=>(H0.out.2.1.ownB i e).2))⟩;clear h9 g9)|(at_builtin;refine Qax rfl (.tmp 65) (.tmp 67) 92 rfl rfl rfl H9.out.2.1 ((t-11:Nat):Int) rfl HLN.out.2 ?_;intro v10 w10 h10 g10;have H10:Hid (LS 3 1 w.heap.size w (runA (l++[(18,t-11,7)])) v9 w10∧LS 3 1 w.heap.size w (runB (l++[(18,t-11,7)])) v10 w10∧(∀i,v9.ownBlock=some i→v10.ownBlock≠some i)):=Qh ⟨H9.out.1.gr g10 H9.out.2.2 (fun i e=>(H9.out.2.1.ownB i e).1),by rw [Qff];exact h10,Qhj g10 H9.out.2.2 (fun i e=>(H9.out.1.ownB i e).2)⟩;clear h10 g10))
     go_roundg (n-(k+t))
     case measure=>have:=HKN.out;have:=HP.out;omega
     case rel=>exact⟨k+t,_,_,l++[(18,t-11,7)],rfl,rfl,rfl,by go_num,by have:=HP.out;omega,by rw [List.length_append];have:=HKN.out;have:=HP.out;show l.length+1≤k+t;omega,HT,H10⟩
    ·by_cases hd:3≤t
     ·have hgi:¬(t:Int)≥11:=by omega
      have hgi3:(t:Int)≥3:=by omega
      have hgi4:¬(11:Int)≤(t:Int):=by omega
      have HN:Hid (runV f n k=((17,t-3,3),t)):=Qh (by
       have e:=Qti f n k 10 138 (by decide)
       rw [←HTT.out,show min t 10=t by omega]at e
       rw [HV.out,if_pos HZ.out,←HTT.out,if_neg hc,e,if_pos hd])
      have HP:Hid (0<t∧k+t≤n):=Qh (by have:=HPV.out;rw [HN.out]at this;exact this)
      have hw:IntKind.i64.wrap ((t:Int)-3)=((t-3:Nat):Int):=by rw [IntWalk.i64_in _ (by omega)];omega
      have hw2:(t:Int)-3=((t-3:Nat):Int):=by omega
      clear HV HPV HTT;have HT:Hid (Qef f n=(l++[(17,t-3,3)])++Qdg f n (n-(k+t)) (k+t)):=Qh (by
       have h1:=HKN.out.1;have h2:=HKN.out.2;rw [HK.out,show n-k=n-k-1+1 by omega,Qcb HKN.out.1,HN.out,Qcn f n (n-k-1) (n-(k+t)) _ (by have:=HP.out;omega) (by have:=HP.out;omega)]
       simp)
      have H0:Hid (LS 3 1 w.heap.size w (runA l) x1 (wr.drewN (nq))∧LS 3 1 w.heap.size w (runB l) x2 (wr.drewN (nq))∧(∀i,x1.ownBlock=some i→x2.ownBlock≠some i)):=Qh ⟨HL.out.1.below (Qbu (Below.refl _ wr) _),HL.out.2.1.below (Qbu (Below.refl _ wr) _),HL.out.2.2⟩;have hkw:IntKind.i64.wrap ((k:Int)+(t:Int))=((k+t:Nat):Int):=by have:=HKN.out;have:=HP.out;rw [IntWalk.i64_in _ (by omega)];omega
      generalize wr.drewN (nq)=wz at H0⊢;clear HL HK HN;go_wp2_with (first|(at_builtin;refine Qax rfl (.tmp 61) (.tmp 63) 92 rfl rfl rfl H0.out.1 (17) rfl HLN.out.1 ?_;intro v9 w9 h9 g9;have H9:Hid (LS 3 1 w.heap.size w (runA (l++[(17,t-3,3)])) v9 w9∧LS 3 1 w.heap.size w (runB l) x2 w9∧(∀i,v9.ownBlock=some i→x2.ownBlock≠some i)):=Qh ⟨by rw [Qfe];exact h9,H0.out.2.1.gr g9 (Qcr H0.out.2.2) (fun i e=>(H0.out.1.ownB i e).1),Qcr (Qhj g9 (Qcr H0.out.2.2) (fun i e=>(H0.out.2.1.ownB i e).2))⟩;clear h9 g9)|(at_builtin;refine Qax rfl (.tmp 65) (.tmp 67) 92 rfl rfl rfl H9.out.2.1 ((t-3:Nat):Int) rfl HLN.out.2 ?_;intro v10 w10 h10 g10;have H10:Hid (LS 3 1 w.heap.size w (runA (l++[(17,t-3,3)])) v9 w10∧LS 3 1 w.heap.size w (runB (l++[(17,t-3,3)])) v10 w10∧(∀i,v9.ownBlock=some i→v10.ownBlock≠some i)):=Qh ⟨H9.out.1.gr g10 H9.out.2.2 (fun i e=>(H9.out.2.1.ownB i e).1),by rw [Qff];exact h10,Qhj g10 H9.out.2.2 (fun i e=>(H9.out.1.ownB i e).2)⟩;clear h10 g10))
      go_roundg (n-(k+t))
      case measure=>have:=HKN.out;have:=HP.out;omega
      case rel=>exact⟨k+t,_,_,l++[(17,t-3,3)],rfl,rfl,rfl,by go_num,by have:=HP.out;omega,by rw [List.length_append];have:=HKN.out;have:=HP.out;show l.length+1≤k+t;omega,HT,H10⟩
     ·have hgi:¬(t:Int)≥11:=by omega
      have hgi3:¬(t:Int)≥3:=by omega
      have hgi5:¬(3:Int)≤(t:Int):=by omega
      have hgi4:¬(11:Int)≤(t:Int):=by omega
      have HN:Hid (runV f n k=((f k,0,0),1)):=Qh (by
       have e:=Qti f n k 10 138 (by decide)
       rw [←HTT.out,show min t 10=t by omega]at e
       rw [HV.out,if_pos HZ.out,←HTT.out,if_neg hc,e,if_neg hd])
      have HP:Hid (0<1∧k+1≤n):=Qh (by have:=HPV.out;rw [HN.out]at this;exact this)
      clear HV HPV HTT;have HT:Hid (Qef f n=(l++[(f k,0,0)])++Qdg f n (n-(k+1)) (k+1)):=Qh (by
       have h1:=HKN.out.1;have h2:=HKN.out.2;rw [HK.out,show n-k=n-k-1+1 by omega,Qcb HKN.out.1,HN.out,Qcn f n (n-k-1) (n-(k+1)) _ (by have:=HP.out;omega) (by have:=HP.out;omega)]
       simp)
      have H0:Hid (LS 3 1 w.heap.size w (runA l) x1 (wr.drewN (nq))∧LS 3 1 w.heap.size w (runB l) x2 (wr.drewN (nq))∧(∀i,x1.ownBlock=some i→x2.ownBlock≠some i)):=Qh ⟨HL.out.1.below (Qbu (Below.refl _ wr) _),HL.out.2.1.below (Qbu (Below.refl _ wr) _),HL.out.2.2⟩;have hkw:IntKind.i64.wrap ((k:Int)+1)=((k+1:Nat):Int):=by have:=HKN.out;have:=HP.out;rw [IntWalk.i64_in _ (by omega)];omega
      generalize wr.drewN (nq)=wz at H0⊢;clear HL HK HN;go_wp2_with (first|(at_builtin;refine Qax rfl (.tmp 61) (.tmp 63) 92 rfl rfl rfl H0.out.1 (f k) rfl HLN.out.1 ?_;intro v9 w9 h9 g9;have H9:Hid (LS 3 1 w.heap.size w (runA (l++[(f k,0,0)])) v9 w9∧LS 3 1 w.heap.size w (runB l) x2 w9∧(∀i,v9.ownBlock=some i→x2.ownBlock≠some i)):=Qh ⟨by rw [Qfe];exact h9,H0.out.2.1.gr g9 (Qcr H0.out.2.2) (fun i e=>(H0.out.1.ownB i e).1),Qcr (Qhj g9 (Qcr H0.out.2.2) (fun i e=>(H0.out.2.1.ownB i e).2))⟩;clear h9 g9)|(at_builtin;refine Qax rfl (.tmp 65) (.tmp 67) 92 rfl rfl rfl H9.out.2.1 ((0:Nat):Int) rfl HLN.out.2 ?_;intro v10 w10 h10 g10;have H10:Hid (LS 3 1 w.heap.size w (runA (l++[(f k,0,0)])) v9 w10∧LS 3 1 w.heap.size w (runB (l++[(f k,0,0)])) v10 w10∧(∀i,v9.ownBlock=some i→v10.ownBlock≠some i)):=Qh ⟨H9.out.1.gr g10 H9.out.2.2 (fun i e=>(H9.out.2.1.ownB i e).1),by rw [Qff];exact h10,Qhj g10 H9.out.2.2 (fun i e=>(H9.out.1.ownB i e).2)⟩;clear h10 g10))
      go_roundg (n-(k+1))
      case measure=>have:=HKN.out;have:=HP.out;omega
      case rel=>exact⟨k+1,_,_,l++[(f k,0,0)],rfl,rfl,rfl,by go_num,by have:=HP.out;omega,by rw [List.length_append];have:=HKN.out;have:=HP.out;show l.length+1≤k+1;omega,HT,H10⟩
   ·have HE0:Hid ((f k==0)=false):=Qh (beq_eq_false_iff_ne.2 hz);by_cases h0:0<k
    ·by_cases hs:f (k-1)=f k
     ·by_cases hq:3≤ali f n k 6
      ·have hk0:(k:Int)>0:=by omega
       have hk1:(0:Int)<(k:Int):=by omega
       have hk2:IntKind.i64.wrap ((k:Int)-1)=((k-1:Nat):Int):=by rw [IntWalk.i64_in _ (by omega)];omega
       have hk3:((k-1:Nat):Int)<(n:Int):=by omega
       have HC1:=Qh (hI.cell pa rfl (k-1) (by omega))
       have HE:Hid ((f (k-1)==f k)=true):=Qh (beq_iff_eq.2 hs);have htl:=Qfm f n k 6;obtain⟨t,ht⟩:∃t,t=ali f n k 6:=⟨_,rfl⟩;have HC:Hid (∀nx,Calls Tryz.prog 126 #[.slice (some pa) n cap,.int .i64 (k:Int),.int .i64 6] (wr.drewN nx) fun e w'=>e= .returned (.int .i64 (t:Int))∧∃nq,w'=wr.drewN nq):=Qh fun nx=>by
        rw [ht];refine(Qmw (some pa) n cap f k 6 (wr.drewN nx) (hI.below (Qbu (Below.refl _ wr) nx)) hlt (by omega) (by decide)).mono ?_
        rintro e w' ⟨h1,nq,h2⟩;exact⟨h1,nx+nq,by rw [h2,World.drewN_drewN]⟩
       rw [←ht]at htl;have hg3:(t:Int)≥3:=by omega
       have HN:Hid (runV f n k=((16,t-3,2),t)):=Qh (by rw [HV.out,if_neg hz,if_pos ⟨by omega,hs,by omega⟩,←ht])
       have hw:IntKind.i64.wrap ((t:Int)-3)=((t-3:Nat):Int):=by rw [IntWalk.i64_in _ (by omega)];omega
       have hw2:(t:Int)-3=((t-3:Nat):Int):=by omega
       have HP:Hid (0<t∧k+t≤n):=Qh (by have:=HPV.out;rw [HN.out]at this;exact this)
       have cc:wr.cell? (pa.add k)=some (.int .i64 (f k)):=HC0.out;have hE0:=HE0.out;clear ht;clear HV HPV hI;go_wp2_with fail;refine Qad (Two 1000 1001 fun _ _ wx=>∃nx,wx=wr.drewN nx) (by kernel_rfl) ⟨1,rfl⟩ ?_
       refine tN (i:=0) rfl rfl ?_;simp only [pu];refine tM (i:=1) (v:= .bool true) rfl rfl ?_;simp only [pu];refine tN (i:=2) rfl rfl ?_;simp only [pu];refine tN (i:=3) rfl rfl ?_;simp only [pu];refine tN (i:=4) rfl rfl ?_;simp only [pu];refine tM (i:=5) (v:= .int .i64 ((k-1:Nat):Int)) rfl rfl ?_;simp only [pu];refine tM (i:=6) (v:= .pointer (some (pa.add (k-1)))) rfl rfl ?_;simp only [pu];refine Qaa (i:=7) (v:= .int .i64 (f (k-1))) rfl (Qaf rfl (fun f1 f2 wx hT=> ?_)) ?_
       ·have cc:=HC1.out;obtain⟨nx,hx⟩:=hT;subst hx;refine Qab (w:=wr.drewN nx) ?_ ⟨nx,rfl⟩;go_simp;skip
       simp only [pu];refine tN (i:=8) rfl rfl ?_;simp only [pu];refine tN (i:=9) rfl rfl ?_;simp only [pu];refine tM (i:=10) (v:= .pointer (some (pa.add k))) rfl rfl ?_;simp only [pu];refine Qaa (i:=11) (v:= .int .i64 (f k)) rfl (Qaf rfl (fun f1 f2 wx hT=> ?_)) ?_
       ·have cc:=HC0.out;obtain⟨nx,hx⟩:=hT;subst hx;refine Qab (w:=wr.drewN nx) ?_ ⟨nx,rfl⟩;go_simp;skip
       simp only [pu];refine Qaa (i:=12) (v:= .bool true) rfl (Qaf rfl (fun f1 f2 wx hT=> ?_)) ?_
       ·have hE:=HE.out;obtain⟨nx,hx⟩:=hT;subst hx;refine Qab (w:=wr.drewN nx) ?_ ⟨nx,rfl⟩;go_simp;skip
       simp only [pu];refine tM (i:=13) (v:= .bool true) rfl rfl ?_;simp only [pu];refine tN (i:=14) rfl rfl ?_;simp only [pu];refine tN (i:=15) rfl rfl ?_;simp only [pu];refine tN (i:=16) rfl rfl ?_;simp only [pu];refine Qaa (i:=17) (v:= .int .i64 (t:Int)) rfl (Qaf rfl (fun f1 f2 wx hT=> ?_)) ?_
       ·obtain⟨nx,hx⟩:=hT;subst hx;refine Qao (f:=126) ((HC.out nx).mono fun e w' ⟨he,hq⟩=>⟨he,hq⟩) ?_;go_simp;skip
       simp only [pu];refine tM (i:=18) (v:= .bool true) rfl rfl ?_;simp only [pu];refine tM (i:=19) (v:= .bool true) rfl rfl ?_;simp only [pu];refine Qag rfl ?_ _;rintro w2 ⟨nx,rfl⟩;clear hk2 hk3 HC1 HE cc;have HC2:=Qh (HC.out nx);clear HC;go_wp2_with fail;refine HC2.out.mono ?_;rintro e w3 ⟨rfl,ny,rfl⟩;have HT:Hid (Qef f n=(l++[(16,t-3,2)])++Qdg f n (n-(k+t)) (k+t)):=Qh (by
        have h1:=HKN.out.1;have h2:=HKN.out.2;rw [HK.out,show n-k=n-k-1+1 by omega,Qcb HKN.out.1,HN.out,Qcn f n (n-k-1) (n-(k+t)) _ (by have:=HP.out;omega) (by have:=HP.out;omega)]
        simp)
       have H0:Hid (LS 3 1 w.heap.size w (runA l) x1 (wr.drewN (ny))∧LS 3 1 w.heap.size w (runB l) x2 (wr.drewN (ny))∧(∀i,x1.ownBlock=some i→x2.ownBlock≠some i)):=Qh ⟨HL.out.1.below (Qbu (Below.refl _ wr) _),HL.out.2.1.below (Qbu (Below.refl _ wr) _),HL.out.2.2⟩;have hkw:IntKind.i64.wrap ((k:Int)+(t:Int))=((k+t:Nat):Int):=by have:=HKN.out;have:=HP.out;rw [IntWalk.i64_in _ (by omega)];omega
       generalize wr.drewN (ny)=wz at H0⊢;clear HL HK HN;go_wp2_with (first|(at_builtin;refine Qax rfl (.tmp 61) (.tmp 63) 92 rfl rfl rfl H0.out.1 (16) rfl HLN.out.1 ?_;intro v9 w9 h9 g9;have H9:Hid (LS 3 1 w.heap.size w (runA (l++[(16,t-3,2)])) v9 w9∧LS 3 1 w.heap.size w (runB l) x2 w9∧(∀i,v9.ownBlock=some i→x2.ownBlock≠some i)):=Qh ⟨by rw [Qfe];exact h9,H0.out.2.1.gr g9 (Qcr H0.out.2.2) (fun i e=>(H0.out.1.ownB i e).1),Qcr (Qhj g9 (Qcr H0.out.2.2) (fun i e=>(H0.out.2.1.ownB i e).2))⟩;clear h9 g9)|(at_builtin;refine Qax rfl (.tmp 65) (.tmp 67) 92 rfl rfl rfl H9.out.2.1 ((t-3:Nat):Int) rfl HLN.out.2 ?_;intro v10 w10 h10 g10;have H10:Hid (LS 3 1 w.heap.size w (runA (l++[(16,t-3,2)])) v9 w10∧LS 3 1 w.heap.size w (runB (l++[(16,t-3,2)])) v10 w10∧(∀i,v9.ownBlock=some i→v10.ownBlock≠some i)):=Qh ⟨H9.out.1.gr g10 H9.out.2.2 (fun i e=>(H9.out.2.1.ownB i e).1),by rw [Qff];exact h10,Qhj g10 H9.out.2.2 (fun i e=>(H9.out.1.ownB i e).2)⟩;clear h10 g10))
       go_roundg (n-(k+t))
       case measure=>have:=HKN.out;have:=HP.out;omega
       case rel=>exact⟨k+t,_,_,l++[(16,t-3,2)],rfl,rfl,rfl,by go_num,by have:=HP.out;omega,by rw [List.length_append];have:=HKN.out;have:=HP.out;show l.length+1≤k+t;omega,HT,H10⟩
      ·have hk0:(k:Int)>0:=by omega
       have hk1:(0:Int)<(k:Int):=by omega
       have hk2:IntKind.i64.wrap ((k:Int)-1)=((k-1:Nat):Int):=by rw [IntWalk.i64_in _ (by omega)];omega
       have hk3:((k-1:Nat):Int)<(n:Int):=by omega
       have HC1:=Qh (hI.cell pa rfl (k-1) (by omega))
       have HE:Hid ((f (k-1)==f k)=true):=Qh (beq_iff_eq.2 hs);have htl:=Qfm f n k 6;obtain⟨t,ht⟩:∃t,t=ali f n k 6:=⟨_,rfl⟩;have HC:Hid (∀nx,Calls Tryz.prog 126 #[.slice (some pa) n cap,.int .i64 (k:Int),.int .i64 6] (wr.drewN nx) fun e w'=>e= .returned (.int .i64 (t:Int))∧∃nq,w'=wr.drewN nq):=Qh fun nx=>by
        rw [ht];refine(Qmw (some pa) n cap f k 6 (wr.drewN nx) (hI.below (Qbu (Below.refl _ wr) nx)) hlt (by omega) (by decide)).mono ?_
        rintro e w' ⟨h1,nq,h2⟩;exact⟨h1,nx+nq,by rw [h2,World.drewN_drewN]⟩
       rw [←ht]at htl;have hg3:¬(t:Int)≥3:=by omega
       have hg4:¬(3:Int)≤(t:Int):=by omega
       have HN:Hid (runV f n k=((f k,0,0),1)):=Qh (by rw [HV.out,if_neg hz,if_neg (fun h=>by have:=h.2.2;omega)])
       have HP:Hid (0<1∧k+1≤n):=Qh (by have:=HPV.out;rw [HN.out]at this;exact this)
       have cc:wr.cell? (pa.add k)=some (.int .i64 (f k)):=HC0.out;have hE0:=HE0.out;clear ht;clear HV HPV hI;go_wp2_with fail;refine Qad (Two 1000 1001 fun _ _ wx=>∃nx,wx=wr.drewN nx) (by kernel_rfl) ⟨1,rfl⟩ ?_
       refine tN (i:=0) rfl rfl ?_;simp only [pu];refine tM (i:=1) (v:= .bool true) rfl rfl ?_;simp only [pu];refine tN (i:=2) rfl rfl ?_;simp only [pu];refine tN (i:=3) rfl rfl ?_;simp only [pu];refine tN (i:=4) rfl rfl ?_;simp only [pu];refine tM (i:=5) (v:= .int .i64 ((k-1:Nat):Int)) rfl rfl ?_;simp only [pu];refine tM (i:=6) (v:= .pointer (some (pa.add (k-1)))) rfl rfl ?_;simp only [pu];refine Qaa (i:=7) (v:= .int .i64 (f (k-1))) rfl (Qaf rfl (fun f1 f2 wx hT=> ?_)) ?_
       ·have cc:=HC1.out;obtain⟨nx,hx⟩:=hT;subst hx;refine Qab (w:=wr.drewN nx) ?_ ⟨nx,rfl⟩;go_simp;skip
       simp only [pu];refine tN (i:=8) rfl rfl ?_;simp only [pu];refine tN (i:=9) rfl rfl ?_;simp only [pu];refine tM (i:=10) (v:= .pointer (some (pa.add k))) rfl rfl ?_;simp only [pu];refine Qaa (i:=11) (v:= .int .i64 (f k)) rfl (Qaf rfl (fun f1 f2 wx hT=> ?_)) ?_
       ·have cc:=HC0.out;obtain⟨nx,hx⟩:=hT;subst hx;refine Qab (w:=wr.drewN nx) ?_ ⟨nx,rfl⟩;go_simp;skip
       simp only [pu];refine Qaa (i:=12) (v:= .bool true) rfl (Qaf rfl (fun f1 f2 wx hT=> ?_)) ?_
       ·have hE:=HE.out;obtain⟨nx,hx⟩:=hT;subst hx;refine Qab (w:=wr.drewN nx) ?_ ⟨nx,rfl⟩;go_simp;skip
       simp only [pu];refine tM (i:=13) (v:= .bool true) rfl rfl ?_;simp only [pu];refine tN (i:=14) rfl rfl ?_;simp only [pu];refine tN (i:=15) rfl rfl ?_;simp only [pu];refine tN (i:=16) rfl rfl ?_;simp only [pu];refine Qaa (i:=17) (v:= .int .i64 (t:Int)) rfl (Qaf rfl (fun f1 f2 wx hT=> ?_)) ?_
       ·obtain⟨nx,hx⟩:=hT;subst hx;refine Qao (f:=126) ((HC.out nx).mono fun e w' ⟨he,hq⟩=>⟨he,hq⟩) ?_;go_simp;skip
       simp only [pu];refine tM (i:=18) (v:= .bool false) rfl rfl ?_;simp only [pu];refine tM (i:=19) (v:= .bool false) rfl rfl ?_;simp only [pu];refine Qag rfl ?_ _;rintro w2 ⟨nx,rfl⟩;clear cc;have HT:Hid (Qef f n=(l++[(f k,0,0)])++Qdg f n (n-(k+1)) (k+1)):=Qh (by
        have h1:=HKN.out.1;have h2:=HKN.out.2;rw [HK.out,show n-k=n-k-1+1 by omega,Qcb HKN.out.1,HN.out,Qcn f n (n-k-1) (n-(k+1)) _ (by have:=HP.out;omega) (by have:=HP.out;omega)]
        simp)
       have H0:Hid (LS 3 1 w.heap.size w (runA l) x1 (wr.drewN (nx))∧LS 3 1 w.heap.size w (runB l) x2 (wr.drewN (nx))∧(∀i,x1.ownBlock=some i→x2.ownBlock≠some i)):=Qh ⟨HL.out.1.below (Qbu (Below.refl _ wr) _),HL.out.2.1.below (Qbu (Below.refl _ wr) _),HL.out.2.2⟩;have hkw:IntKind.i64.wrap ((k:Int)+1)=((k+1:Nat):Int):=by have:=HKN.out;have:=HP.out;rw [IntWalk.i64_in _ (by omega)];omega
       generalize wr.drewN (nx)=wz at H0⊢;clear HL HK HN;go_wp2_with (first|(at_builtin;refine Qax rfl (.tmp 61) (.tmp 63) 92 rfl rfl rfl H0.out.1 (f k) rfl HLN.out.1 ?_;intro v9 w9 h9 g9;have H9:Hid (LS 3 1 w.heap.size w (runA (l++[(f k,0,0)])) v9 w9∧LS 3 1 w.heap.size w (runB l) x2 w9∧(∀i,v9.ownBlock=some i→x2.ownBlock≠some i)):=Qh ⟨by rw [Qfe];exact h9,H0.out.2.1.gr g9 (Qcr H0.out.2.2) (fun i e=>(H0.out.1.ownB i e).1),Qcr (Qhj g9 (Qcr H0.out.2.2) (fun i e=>(H0.out.2.1.ownB i e).2))⟩;clear h9 g9)|(at_builtin;refine Qax rfl (.tmp 65) (.tmp 67) 92 rfl rfl rfl H9.out.2.1 ((0:Nat):Int) rfl HLN.out.2 ?_;intro v10 w10 h10 g10;have H10:Hid (LS 3 1 w.heap.size w (runA (l++[(f k,0,0)])) v9 w10∧LS 3 1 w.heap.size w (runB (l++[(f k,0,0)])) v10 w10∧(∀i,v9.ownBlock=some i→v10.ownBlock≠some i)):=Qh ⟨H9.out.1.gr g10 H9.out.2.2 (fun i e=>(H9.out.2.1.ownB i e).1),by rw [Qff];exact h10,Qhj g10 H9.out.2.2 (fun i e=>(H9.out.1.ownB i e).2)⟩;clear h10 g10))
       go_roundg (n-(k+1))
       case measure=>have:=HKN.out;have:=HP.out;omega
       case rel=>exact⟨k+1,_,_,l++[(f k,0,0)],rfl,rfl,rfl,by go_num,by have:=HP.out;omega,by rw [List.length_append];have:=HKN.out;have:=HP.out;show l.length+1≤k+1;omega,HT,H10⟩
     ·have hk0:(k:Int)>0:=by omega
      have hk1:(0:Int)<(k:Int):=by omega
      have hk2:IntKind.i64.wrap ((k:Int)-1)=((k-1:Nat):Int):=by rw [IntWalk.i64_in _ (by omega)];omega
      have hk3:((k-1:Nat):Int)<(n:Int):=by omega
      have HC1:=Qh (hI.cell pa rfl (k-1) (by omega))
      have HE:Hid ((f (k-1)==f k)=false):=Qh (beq_eq_false_iff_ne.2 hs);have HN:Hid (runV f n k=((f k,0,0),1)):=Qh (by rw [HV.out,if_neg hz,if_neg (fun h=>hs h.2.1)])
      have HP:Hid (0<1∧k+1≤n):=Qh (by have:=HPV.out;rw [HN.out]at this;exact this)
      have cc:wr.cell? (pa.add k)=some (.int .i64 (f k)):=HC0.out;have hE0:=HE0.out;clear HV HPV hI;go_wp2_with fail;refine Qad (Two 1000 1001 fun _ _ wx=>∃nx,wx=wr.drewN nx) (by kernel_rfl) ⟨1,rfl⟩ ?_
      refine tN (i:=0) rfl rfl ?_;simp only [pu];refine tM (i:=1) (v:= .bool true) rfl rfl ?_;simp only [pu];refine tN (i:=2) rfl rfl ?_;simp only [pu];refine tN (i:=3) rfl rfl ?_;simp only [pu];refine tN (i:=4) rfl rfl ?_;simp only [pu];refine tM (i:=5) (v:= .int .i64 ((k-1:Nat):Int)) rfl rfl ?_;simp only [pu];refine tM (i:=6) (v:= .pointer (some (pa.add (k-1)))) rfl rfl ?_;simp only [pu];refine Qaa (i:=7) (v:= .int .i64 (f (k-1))) rfl (Qaf rfl (fun f1 f2 wx hT=> ?_)) ?_
      ·have cc:=HC1.out;obtain⟨nx,hx⟩:=hT;subst hx;refine Qab (w:=wr.drewN nx) ?_ ⟨nx,rfl⟩;go_simp;skip
      simp only [pu];refine tN (i:=8) rfl rfl ?_;simp only [pu];refine tN (i:=9) rfl rfl ?_;simp only [pu];refine tM (i:=10) (v:= .pointer (some (pa.add k))) rfl rfl ?_;simp only [pu];refine Qaa (i:=11) (v:= .int .i64 (f k)) rfl (Qaf rfl (fun f1 f2 wx hT=> ?_)) ?_
      ·have cc:=HC0.out;obtain⟨nx,hx⟩:=hT;subst hx;refine Qab (w:=wr.drewN nx) ?_ ⟨nx,rfl⟩;go_simp;skip
      simp only [pu];refine Qaa (i:=12) (v:= .bool false) rfl (Qaf rfl (fun f1 f2 wx hT=> ?_)) ?_
      ·have hE:=HE.out;obtain⟨nx,hx⟩:=hT;subst hx;refine Qab (w:=wr.drewN nx) ?_ ⟨nx,rfl⟩;go_simp;skip
      simp only [pu];refine tM (i:=13) (v:= .bool false) rfl rfl ?_;simp only [pu];refine tN (i:=14) rfl rfl ?_;simp only [pu];refine Qaa (i:=15) (v:=undef) rfl (Qae rfl) ?_;simp only [pu];refine Qaa (i:=16) (v:=undef) rfl (Qae rfl) ?_;simp only [pu];refine Qaa (i:=17) (v:=undef) rfl (Qae rfl) ?_;simp only [pu];refine Qaa (i:=18) (v:=undef) rfl (Qae rfl) ?_;simp only [pu];refine tM (i:=19) (v:= .bool false) rfl rfl ?_;simp only [pu];refine Qag rfl ?_ _;rintro w2 ⟨nx,rfl⟩;clear cc;have HT:Hid (Qef f n=(l++[(f k,0,0)])++Qdg f n (n-(k+1)) (k+1)):=Qh (by
       have h1:=HKN.out.1;have h2:=HKN.out.2;rw [HK.out,show n-k=n-k-1+1 by omega,Qcb HKN.out.1,HN.out,Qcn f n (n-k-1) (n-(k+1)) _ (by have:=HP.out;omega) (by have:=HP.out;omega)]
       simp)
      have H0:Hid (LS 3 1 w.heap.size w (runA l) x1 (wr.drewN (nx))∧LS 3 1 w.heap.size w (runB l) x2 (wr.drewN (nx))∧(∀i,x1.ownBlock=some i→x2.ownBlock≠some i)):=Qh ⟨HL.out.1.below (Qbu (Below.refl _ wr) _),HL.out.2.1.below (Qbu (Below.refl _ wr) _),HL.out.2.2⟩;have hkw:IntKind.i64.wrap ((k:Int)+1)=((k+1:Nat):Int):=by have:=HKN.out;have:=HP.out;rw [IntWalk.i64_in _ (by omega)];omega
      generalize wr.drewN (nx)=wz at H0⊢;clear HL HK HN;go_wp2_with (first|(at_builtin;refine Qax rfl (.tmp 61) (.tmp 63) 92 rfl rfl rfl H0.out.1 (f k) rfl HLN.out.1 ?_;intro v9 w9 h9 g9;have H9:Hid (LS 3 1 w.heap.size w (runA (l++[(f k,0,0)])) v9 w9∧LS 3 1 w.heap.size w (runB l) x2 w9∧(∀i,v9.ownBlock=some i→x2.ownBlock≠some i)):=Qh ⟨by rw [Qfe];exact h9,H0.out.2.1.gr g9 (Qcr H0.out.2.2) (fun i e=>(H0.out.1.ownB i e).1),Qcr (Qhj g9 (Qcr H0.out.2.2) (fun i e=>(H0.out.2.1.ownB i e).2))⟩;clear h9 g9)|(at_builtin;refine Qax rfl (.tmp 65) (.tmp 67) 92 rfl rfl rfl H9.out.2.1 ((0:Nat):Int) rfl HLN.out.2 ?_;intro v10 w10 h10 g10;have H10:Hid (LS 3 1 w.heap.size w (runA (l++[(f k,0,0)])) v9 w10∧LS 3 1 w.heap.size w (runB (l++[(f k,0,0)])) v10 w10∧(∀i,v9.ownBlock=some i→v10.ownBlock≠some i)):=Qh ⟨H9.out.1.gr g10 H9.out.2.2 (fun i e=>(H9.out.2.1.ownB i e).1),by rw [Qff];exact h10,Qhj g10 H9.out.2.2 (fun i e=>(H9.out.1.ownB i e).2)⟩;clear h10 g10))
      go_roundg (n-(k+1))
      case measure=>have:=HKN.out;have:=HP.out;omega
      case rel=>exact⟨k+1,_,_,l++[(f k,0,0)],rfl,rfl,rfl,by go_num,by have:=HP.out;omega,by rw [List.length_append];have:=HKN.out;have:=HP.out;show l.length+1≤k+1;omega,HT,H10⟩
    ·have hk0:¬(k:Int)>0:=by omega
     have hk1:¬(0:Int)<(k:Int):=by omega
     have HN:Hid (runV f n k=((f k,0,0),1)):=Qh (by rw [HV.out,if_neg hz,if_neg (fun h=>by omega)])
     have HP:Hid (0<1∧k+1≤n):=Qh (by have:=HPV.out;rw [HN.out]at this;exact this)
     have cc:wr.cell? (pa.add k)=some (.int .i64 (f k)):=HC0.out;have hE0:=HE0.out;clear HV HPV hI;go_wp2_with fail;refine Qad (Two 1000 1001 fun _ _ wx=>∃nx,wx=wr.drewN nx) (by kernel_rfl) ⟨1,rfl⟩ ?_
     refine tN (i:=0) rfl rfl ?_;simp only [pu];refine tM (i:=1) (v:= .bool false) rfl rfl ?_;simp only [pu];refine tN (i:=2) rfl rfl ?_;simp only [pu];refine Qaa (i:=3) (v:=undef) rfl (Qae rfl) ?_;simp only [pu];refine Qaa (i:=4) (v:=undef) rfl (Qae rfl) ?_;simp only [pu];refine Qaa (i:=5) (v:=undef) rfl (Qae rfl) ?_;simp only [pu];refine Qaa (i:=6) (v:=undef) rfl (Qae rfl) ?_;simp only [pu];refine Qaa (i:=7) (v:=undef) rfl (Qae rfl) ?_;simp only [pu];refine Qaa (i:=8) (v:=undef) rfl (Qae rfl) ?_;simp only [pu];refine Qaa (i:=9) (v:=undef) rfl (Qae rfl) ?_;simp only [pu];refine Qaa (i:=10) (v:=undef) rfl (Qae rfl) ?_;simp only [pu];refine Qaa (i:=11) (v:=undef) rfl (Qae rfl) ?_;simp only [pu];refine Qaa (i:=12) (v:=undef) rfl (Qae rfl) ?_;simp only [pu];refine tM (i:=13) (v:= .bool false) rfl rfl ?_;simp only [pu];refine tN (i:=14) rfl rfl ?_;simp only [pu];refine Qaa (i:=15) (v:=undef) rfl (Qae rfl) ?_;simp only [pu];refine Qaa (i:=16) (v:=undef) rfl (Qae rfl) ?_;simp only [pu];refine Qaa (i:=17) (v:=undef) rfl (Qae rfl) ?_;simp only [pu];refine Qaa (i:=18) (v:=undef) rfl (Qae rfl) ?_;simp only [pu];refine tM (i:=19) (v:= .bool false) rfl rfl ?_;simp only [pu];refine Qag rfl ?_ _;rintro w2 ⟨nx,rfl⟩;clear cc;have HT:Hid (Qef f n=(l++[(f k,0,0)])++Qdg f n (n-(k+1)) (k+1)):=Qh (by
      have h1:=HKN.out.1;have h2:=HKN.out.2;rw [HK.out,show n-k=n-k-1+1 by omega,Qcb HKN.out.1,HN.out,Qcn f n (n-k-1) (n-(k+1)) _ (by have:=HP.out;omega) (by have:=HP.out;omega)]
      simp)
     have H0:Hid (LS 3 1 w.heap.size w (runA l) x1 (wr.drewN (nx))∧LS 3 1 w.heap.size w (runB l) x2 (wr.drewN (nx))∧(∀i,x1.ownBlock=some i→x2.ownBlock≠some i)):=Qh ⟨HL.out.1.below (Qbu (Below.refl _ wr) _),HL.out.2.1.below (Qbu (Below.refl _ wr) _),HL.out.2.2⟩;have hkw:IntKind.i64.wrap ((k:Int)+1)=((k+1:Nat):Int):=by have:=HKN.out;have:=HP.out;rw [IntWalk.i64_in _ (by omega)];omega
     generalize wr.drewN (nx)=wz at H0⊢;clear HL HK HN;go_wp2_with (first|(at_builtin;refine Qax rfl (.tmp 61) (.tmp 63) 92 rfl rfl rfl H0.out.1 (f k) rfl HLN.out.1 ?_;intro v9 w9 h9 g9;have H9:Hid (LS 3 1 w.heap.size w (runA (l++[(f k,0,0)])) v9 w9∧LS 3 1 w.heap.size w (runB l) x2 w9∧(∀i,v9.ownBlock=some i→x2.ownBlock≠some i)):=Qh ⟨by rw [Qfe];exact h9,H0.out.2.1.gr g9 (Qcr H0.out.2.2) (fun i e=>(H0.out.1.ownB i e).1),Qcr (Qhj g9 (Qcr H0.out.2.2) (fun i e=>(H0.out.2.1.ownB i e).2))⟩;clear h9 g9)|(at_builtin;refine Qax rfl (.tmp 65) (.tmp 67) 92 rfl rfl rfl H9.out.2.1 ((0:Nat):Int) rfl HLN.out.2 ?_;intro v10 w10 h10 g10;have H10:Hid (LS 3 1 w.heap.size w (runA (l++[(f k,0,0)])) v9 w10∧LS 3 1 w.heap.size w (runB (l++[(f k,0,0)])) v10 w10∧(∀i,v9.ownBlock=some i→v10.ownBlock≠some i)):=Qh ⟨H9.out.1.gr g10 H9.out.2.2 (fun i e=>(H9.out.2.1.ownB i e).1),by rw [Qff];exact h10,Qhj g10 H9.out.2.2 (fun i e=>(H9.out.1.ownB i e).2)⟩;clear h10 g10))
     go_roundg (n-(k+1))
     case measure=>have:=HKN.out;have:=HP.out;omega
     case rel=>exact⟨k+1,_,_,l++[(f k,0,0)],rfl,rfl,rfl,by go_num,by have:=HP.out;omega,by rw [List.length_append];have:=HKN.out;have:=HP.out;show l.length+1≤k+1;omega,HT,H10⟩
  ·obtain rfl:k=n:=by omega
   have hlti:¬(k:Int)<(k:Int):=by omega
   have HE:Hid (Qef f k=l):=Qh (by rw [HK.out,Nat.sub_self];simp [Qdg])
   clear HK;go_wp2_with fail;go_ret2;have h1:=HL.out.1;have h2:=HL.out.2.1;rw [←HE.out]at h1 h2;exact⟨_,_,rfl,h1,h2⟩
theorem Qv4 (s:ByteArray) (x y to M:Nat) (w:World) (hxy:x≤y) (hyt:y≤to) (hts:to≤s.size) (hs:s.size≤281474976710656) (hM:M=min (to-y) 258):
  Calls Tryz.prog 58 #[.string s,.int .i64 (x:Int),.int .i64 (y:Int),.int .i64 (to:Int)] w fun e w'=>e= .returned (.int .i64 (Qcc (Qac s) x y M:Int))∧∃nq,w'=w.drewN nq:=by
 have HB:=Qh (⟨hxy,hyt,hts,hs,hM⟩:x≤y∧y≤to∧to≤s.size∧s.size≤281474976710656∧M=min (to-y) 258);clear hxy hyt hts hs hM;go_enter Tryz.func58,Tryz.ntmps58;go_wp2_with fail;go_loopw [9] (fun k wr=>∃i nq:Nat,k= .int .i64 (i:Int)∧i≤M∧Hid (Qev (Qac s) x y i (M-i)=Qcc (Qac s) x y M)∧wr=w.drewN nq) (fun k _=>M-(intOf k).toNat)
 case atStart=>exact⟨0,0,rfl,Nat.zero_le _,Qh rfl,rfl⟩
 case round=>
  obtain⟨i,nq,rfl,hi,HA,rfl⟩:=hrel;have hb:=HB.out;obtain⟨xi,hxi⟩:∃j,j=x+i:=⟨_,rfl⟩;obtain⟨yi,hyi⟩:∃j,j=y+i:=⟨_,rfl⟩;have hwx:IntKind.i64.wrap ((x:Int)+(i:Int))=(xi:Int):=by rw [IntWalk.i64_in _ (by omega)];omega
  have hwy:IntKind.i64.wrap ((y:Int)+(i:Int))=(yi:Int):=by rw [IntWalk.i64_in _ (by omega)];omega
  have hkw:IntKind.i64.wrap ((i:Int)+1)=((i+1:Nat):Int):=by rw [IntWalk.i64_in _ (by omega)];rfl
  by_cases h258:i<258
  ·have h258i:(i:Int)<258:=by omega
   by_cases hyt:yi<to
   ·have hyti:(yi:Int)<(to:Int):=by omega
    have hsx:xi<s.size:=by omega
    have hsy:yi<s.size:=by omega
    have hsxi:(xi:Int)<(s.size:Int):=by omega
    have hsyi:(yi:Int)<(s.size:Int):=by omega
    have HIM:Hid (i<M):=Qh (by omega)
    have HS:Hid (M-i=(M-(i+1))+1):=Qh (by omega)
    obtain⟨bx,hbx⟩:∃bx,bx=Qac s (x+i):=⟨_,rfl⟩;obtain⟨by_,hby⟩:∃by_,by_=Qac s (y+i):=⟨_,rfl⟩;have HBX:Hid ((s[xi]'hsx).toNat=bx):=Qh (by rw [hbx,←hxi];exact Qa2 s xi hsx)
    have HBY:Hid ((s[yi]'hsy).toNat=by_):=Qh (by rw [hby,←hyi];exact Qa2 s yi hsy)
    by_cases he:bx=by_
    ·have HA2:Hid (Qev (Qac s) x y (i+1) (M-(i+1))=Qcc (Qac s) x y M):=Qh (by
      rw [←HA.out,HS.out];show _=if Qac s (x+i)=Qac s (y+i)then _ else _;rw [if_pos (by rw [←hbx,←hby];exact he)])
     have HE:Hid (((bx:Int)==(by_:Int))=true):=Qh (beq_iff_eq.2 (by omega))
     clear he HA HS hxi hyi hb h258 hyt hbx hby;go_wp2_with fail;refine Qad (Two 1000 1001 fun _ _ wx=>wx=w.drewN (nq+1)) (by kernel_rfl) rfl ?_
     refine tA (i:=0) rfl rfl ?_;simp only [pu];refine tV (i:=1) (v:= .bool true) rfl rfl ?_;simp only [pu];refine tA (i:=2) rfl rfl ?_;simp only [pu];refine tA (i:=3) rfl rfl ?_;simp only [pu];refine tA (i:=4) rfl rfl ?_;simp only [pu];refine tV (i:=5) (v:= .int .i64 (yi:Int)) rfl rfl ?_;simp only [pu];refine tA (i:=6) rfl rfl ?_;simp only [pu];refine tV (i:=7) (v:= .bool true) rfl rfl ?_;simp only [pu];refine tV (i:=8) (v:= .bool true) rfl rfl ?_;simp only [pu];refine tA (i:=9) rfl rfl ?_;simp only [pu];refine tA (i:=10) rfl rfl ?_;simp only [pu];refine tA (i:=11) rfl rfl ?_;simp only [pu];refine tA (i:=12) rfl rfl ?_;simp only [pu];refine tV (i:=13) (v:= .int .i64 (xi:Int)) rfl rfl ?_;simp only [pu];refine tL (i:=14) (v:= .int .u8 (bx:Int)) rfl rfl (fun f1 f2 wx hT=> ?_) ?_
     ·have cc:=HBX.out;go_simp;skip
     simp only [pu];refine tA (i:=15) rfl rfl ?_;simp only [pu];refine tA (i:=16) rfl rfl ?_;simp only [pu];refine tA (i:=17) rfl rfl ?_;simp only [pu];refine tV (i:=18) (v:= .int .i64 (yi:Int)) rfl rfl ?_;simp only [pu];refine tL (i:=19) (v:= .int .u8 (by_:Int)) rfl rfl (fun f1 f2 wx hT=> ?_) ?_
     ·have cc:=HBY.out;go_simp;skip
     simp only [pu];refine tL (i:=20) (v:= .bool true) rfl rfl (fun f1 f2 wx hT=> ?_) ?_
     ·have hE:=HE.out;go_simp;skip
     simp only [pu];refine tV (i:=21) (v:= .bool true) rfl rfl ?_;simp only [pu];refine Qag rfl ?_ _;intro w2 hT2;subst hT2;go_wp2_with fail;exact⟨⟨i+1,nq+1,by go_num,by have:=HIM.out;omega,HA2,rfl⟩,by simp only [intOf];have:=HIM.out;omega⟩
    ·have HR:Hid (Qcc (Qac s) x y M=i):=Qh (by
      rw [←HA.out,HS.out];show(if Qac s (x+i)=Qac s (y+i)then _ else _)=_;rw [if_neg (by rw [←hbx,←hby];exact he)])
     have HE:Hid (((bx:Int)==(by_:Int))=false):=Qh (Bool.eq_false_iff.2 fun h=>he (by have:=eq_of_beq h;omega))
     clear he HA HS hxi hyi hb h258 hyt hbx hby;go_wp2_with fail;refine Qad (Two 1000 1001 fun _ _ wx=>wx=w.drewN (nq+1)) (by kernel_rfl) rfl ?_
     refine tA (i:=0) rfl rfl ?_;simp only [pu];refine tV (i:=1) (v:= .bool true) rfl rfl ?_;simp only [pu];refine tA (i:=2) rfl rfl ?_;simp only [pu];refine tA (i:=3) rfl rfl ?_;simp only [pu];refine tA (i:=4) rfl rfl ?_;simp only [pu];refine tV (i:=5) (v:= .int .i64 (yi:Int)) rfl rfl ?_;simp only [pu];refine tA (i:=6) rfl rfl ?_;simp only [pu];refine tV (i:=7) (v:= .bool true) rfl rfl ?_;simp only [pu];refine tV (i:=8) (v:= .bool true) rfl rfl ?_;simp only [pu];refine tA (i:=9) rfl rfl ?_;simp only [pu];refine tA (i:=10) rfl rfl ?_;simp only [pu];refine tA (i:=11) rfl rfl ?_;simp only [pu];refine tA (i:=12) rfl rfl ?_;simp only [pu];refine tV (i:=13) (v:= .int .i64 (xi:Int)) rfl rfl ?_;simp only [pu];refine tL (i:=14) (v:= .int .u8 (bx:Int)) rfl rfl (fun f1 f2 wx hT=> ?_) ?_
     ·have cc:=HBX.out;go_simp;skip
     simp only [pu];refine tA (i:=15) rfl rfl ?_;simp only [pu];refine tA (i:=16) rfl rfl ?_;simp only [pu];refine tA (i:=17) rfl rfl ?_;simp only [pu];refine tV (i:=18) (v:= .int .i64 (yi:Int)) rfl rfl ?_;simp only [pu];refine tL (i:=19) (v:= .int .u8 (by_:Int)) rfl rfl (fun f1 f2 wx hT=> ?_) ?_
     ·have cc:=HBY.out;go_simp;skip
     simp only [pu];refine tL (i:=20) (v:= .bool false) rfl rfl (fun f1 f2 wx hT=> ?_) ?_
     ·have hE:=HE.out;go_simp;skip
     simp only [pu];refine tV (i:=21) (v:= .bool false) rfl rfl ?_;simp only [pu];refine Qag rfl ?_ _;intro w2 hT2;subst hT2;go_wp2_with fail;go_ret;exact⟨by rw [HR.out];rfl,nq+1,rfl⟩
   ·have hyti:¬(yi:Int)<(to:Int):=by omega
    have hyt2:to≤yi:=by omega
    have HR:Hid (Qcc (Qac s) x y M=i):=Qh (by rw [←HA.out,show M-i=0 by omega];rfl)
    clear HA hxi hyi hb h258 hyt;go_wp2_with fail;refine Qad (Two 1000 1001 fun _ _ wx=>wx=w.drewN (nq+1)) (by kernel_rfl) rfl ?_
    refine tA (i:=0) rfl rfl ?_;simp only [pu];refine tV (i:=1) (v:= .bool true) rfl rfl ?_;simp only [pu];refine tA (i:=2) rfl rfl ?_;simp only [pu];refine tA (i:=3) rfl rfl ?_;simp only [pu];refine tA (i:=4) rfl rfl ?_;simp only [pu];refine tV (i:=5) (v:= .int .i64 (yi:Int)) rfl rfl ?_;simp only [pu];refine tA (i:=6) rfl rfl ?_;simp only [pu];refine tV (i:=7) (v:= .bool false) rfl rfl ?_;simp only [pu];refine tV (i:=8) (v:= .bool false) rfl rfl ?_;simp only [pu];refine tA (i:=9) rfl rfl ?_;simp only [pu];refine Qaa (i:=10) (v:=undef) rfl (Qae rfl) ?_;simp only [pu];refine Qaa (i:=11) (v:=undef) rfl (Qae rfl) ?_;simp only [pu];refine Qaa (i:=12) (v:=undef) rfl (Qae rfl) ?_;simp only [pu];refine Qaa (i:=13) (v:=undef) rfl (Qae rfl) ?_;simp only [pu];refine Qaa (i:=14) (v:=undef) rfl (Qae rfl) ?_;simp only [pu];refine Qaa (i:=15) (v:=undef) rfl (Qae rfl) ?_;simp only [pu];refine Qaa (i:=16) (v:=undef) rfl (Qae rfl) ?_;simp only [pu];refine Qaa (i:=17) (v:=undef) rfl (Qae rfl) ?_;simp only [pu];refine Qaa (i:=18) (v:=undef) rfl (Qae rfl) ?_;simp only [pu];refine Qaa (i:=19) (v:=undef) rfl (Qae rfl) ?_;simp only [pu];refine Qaa (i:=20) (v:=undef) rfl (Qae rfl) ?_;simp only [pu];refine tV (i:=21) (v:= .bool false) rfl rfl ?_;simp only [pu];refine Qag rfl ?_ _;intro w2 hT2;subst hT2;go_wp2_with fail;go_ret;exact⟨by rw [HR.out];rfl,nq+1,rfl⟩
  ·have h258i:¬(i:Int)<258:=by omega
   have h2582:258≤i:=by omega
   have HR:Hid (Qcc (Qac s) x y M=i):=Qh (by rw [←HA.out,show M-i=0 by omega];rfl)
   clear HA hxi hyi hb h258;go_wp2_with fail;refine Qad (Two 1000 1001 fun _ _ wx=>wx=w.drewN (nq+1)) (by kernel_rfl) rfl ?_
   refine tA (i:=0) rfl rfl ?_;simp only [pu];refine tV (i:=1) (v:= .bool false) rfl rfl ?_;simp only [pu];refine tA (i:=2) rfl rfl ?_;simp only [pu];refine Qaa (i:=3) (v:=undef) rfl (Qae rfl) ?_;simp only [pu];refine Qaa (i:=4) (v:=undef) rfl (Qae rfl) ?_;simp only [pu];refine Qaa (i:=5) (v:=undef) rfl (Qae rfl) ?_;simp only [pu];refine Qaa (i:=6) (v:=undef) rfl (Qae rfl) ?_;simp only [pu];refine Qaa (i:=7) (v:=undef) rfl (Qae rfl) ?_;simp only [pu];refine tV (i:=8) (v:= .bool false) rfl rfl ?_;simp only [pu];refine tA (i:=9) rfl rfl ?_;simp only [pu];refine Qaa (i:=10) (v:=undef) rfl (Qae rfl) ?_;simp only [pu];refine Qaa (i:=11) (v:=undef) rfl (Qae rfl) ?_;simp only [pu];refine Qaa (i:=12) (v:=undef) rfl (Qae rfl) ?_;simp only [pu];refine Qaa (i:=13) (v:=undef) rfl (Qae rfl) ?_;simp only [pu];refine Qaa (i:=14) (v:=undef) rfl (Qae rfl) ?_;simp only [pu];refine Qaa (i:=15) (v:=undef) rfl (Qae rfl) ?_;simp only [pu];refine Qaa (i:=16) (v:=undef) rfl (Qae rfl) ?_;simp only [pu];refine Qaa (i:=17) (v:=undef) rfl (Qae rfl) ?_;simp only [pu];refine Qaa (i:=18) (v:=undef) rfl (Qae rfl) ?_;simp only [pu];refine Qaa (i:=19) (v:=undef) rfl (Qae rfl) ?_;simp only [pu];refine Qaa (i:=20) (v:=undef) rfl (Qae rfl) ?_;simp only [pu];refine tV (i:=21) (v:= .bool false) rfl rfl ?_;simp only [pu];refine Qag rfl ?_ _;intro w2 hT2;subst hT2;go_wp2_with fail;go_ret;exact⟨by rw [HR.out];rfl,nq+1,rfl⟩
def Qeg (b:Nat→Nat) (to i:Nat):Nat→Nat→Nat×Nat→Nat×Nat
 |0,_,best=>best
 |k+1,met,best=>if i≤k+32768∧met<16∧i+3≤to then
   (if th b k=th b i then Qeg b to i k (met+1) (if best.1<Qcc b k i (min (to-i) 258)then (Qcc b k i (min (to-i) 258),i-k)else best)else Qeg b to i k met best)
  else best
theorem Qkb {b:Nat→Nat} {to i:Nat}:∀{k met:Nat} {best:Nat×Nat},min (to-i) 258≤best.1→Qeg b to i k met best=best
 |0,_,_,_=>rfl
 |k+1,met,best,h=>by
  have hs:=Qho b k i (min (to-i) 258);have h2:¬best.1<Qcc b k i (min (to-i) 258):=by omega
  unfold Qeg;rw [if_neg h2];split
  ·split
   ·exact Qkb h
   ·exact Qkb h
  ·rfl
theorem Qoo {b:Nat→Nat} {lo most i:Nat} (f:Nat) (best:Nat×Nat):srch b lo most i f none best=best:=by cases f<;>rfl
theorem Qy6 {b:Nat→Nat} {lo most i p:Nat} (f:Nat) (best:Nat×Nat) (h:i-p>32768):srch b lo most i f (some p) best=best:=by
 cases f with
 |zero=>rfl
 |succ f=>unfold srch;rw [if_pos h]
theorem Qy5 {b:Nat→Nat} {lo most i:Nat} (p:Option Nat) (best:Nat×Nat):srch b lo most i 0 p best=best:=by cases p<;>rfl
theorem Qkc {b:Nat→Nat} {lo to i:Nat} (hlo:lo≤i-32768) (hm:i+3≤to):∀{k met:Nat} {best:Nat×Nat},k≤i→best.1<min (to-i) 258→
  Qeg b to i k met best=srch b lo (min (to-i) 258) i (16-met) (prv b lo (th b i) k) best
 |0,met,best,_,_=>by show best=srch b lo _ i (16-met) none best;rw [Qoo]
 |k+1,met,best,hk,hb=>by
  by_cases h1:i≤k+32768
  ·by_cases h2:met<16
   ·obtain⟨f,hf⟩:∃f,16-met=f+1:=⟨15-met,by omega⟩
    have hl:lo≤k:=by omega
    unfold Qeg;rw [if_pos ⟨h1,h2,hm⟩];by_cases h3:th b k=th b i
    ·have e:prv b lo (th b i) (k+1)=some k:=by unfold prv;rw [if_pos ⟨hl,h3⟩]
     rw [if_pos h3,e,hf];unfold srch;rw [if_neg (show¬(i-k>32768)by omega)]
     have hs:=Qho b k i (min (to-i) 258);by_cases h4:Qcc b k i (min (to-i) 258)=min (to-i) 258
     ·rw [if_pos h4,h4,if_pos hb];exact Qkb Ql
     ·rw [if_neg h4,h3];have hb2:(if best.1<Qcc b k i (min (to-i) 258)then (Qcc b k i (min (to-i) 258),i-k)else best).1<min (to-i) 258:=by
       split
       ·show Qcc b k i (min (to-i) 258)<_;omega
       ·exact hb
      rw [Qkc hlo hm (by omega) hb2,show 16-(met+1)=f by omega]
    ·have e:prv b lo (th b i) (k+1)=prv b lo (th b i) k:=by
      show(if lo≤k∧th b k=th b i then some k else prv b lo (th b i) k)=_
      rw [if_neg (fun h=>h3 h.2)]
     rw [if_neg h3,e];exact Qkc hlo hm (by omega) hb
   ·rw [show 16-met=0 by omega,Qy5]
    unfold Qeg;rw [if_neg (fun h=>h2 h.2.1)]
  ·have e:Qeg b to i (k+1) met best=best:=by unfold Qeg;rw [if_neg (fun h=>h1 h.1)]
   rw [e];cases hp:prv b lo (th b i) (k+1)with
   |none=>rw [Qoo]
   |some p=>
    have:=Qir hp;rw [Qy6 _ _ (by omega)]
theorem Qv9 {b:Nat→Nat} {lo to i:Nat} (hlo:lo≤i-32768):Qeg b to i i 0 (1,0)=Qce b lo to i:=by
 unfold Qce;by_cases h:i+3≤to
 ·rw [if_neg (by omega)]
  exact Qkc hlo h Ql (by show 1<_;omega)
 ·rw [if_pos (by omega)]
  cases i with
  |zero=>rfl
  |succ i=>unfold Qeg;rw [if_neg (fun hh=>h hh.2.2)]
theorem Qj9 {b c:Nat→Nat} {x y to:Nat} (h:∀j,j<to→b j=c j) (hxy:x≤y):∀m k,y+k+m≤to→Qev b x y k m=Qev c x y k m
 |0,_,_=>rfl
 |m+1,k,hk=>by
  unfold Qev;rw [h (x+k) (by omega),h (y+k) (by omega),Qj9 h hxy m (k+1) (by omega)]
theorem Qqb {b c:Nat→Nat} {x y to m:Nat} (h:∀j,j<to→b j=c j) (hxy:x≤y) (hm:y+m≤to):Qcc b x y m=Qcc c x y m:=Qj9 h hxy m 0 (by omega)
theorem Q18 {s S:ByteArray} {to k i:Nat} (hS:S=s.extract 0 to) (hts:to≤s.size) (hk:k+3≤to) (hi:i+3≤to):s.extract k (k+3)=s.extract i (i+3)↔th (Qac S) k=th (Qac S) i:=by
 have hb:∀j,j<to→Qac S j=Qac s j:=fun j hj=>by rw [hS,Qey s 0 to j hts (by omega),Nat.zero_add]
 have hx:∀a,a+3≤to→∀j,j<3→Qac (s.extract a (a+3)) j=Qac S (a+j):=fun a ha j hj=>by rw [Qey s a (a+3) j (by omega) (by omega),hb _ (by omega)]
 rw [Q25 (Qaz S)]
 constructor
 ·intro e;have h0:=hx k hk 0 (by decide);have h1:=hx k hk 1 (by decide);have h2:=hx k hk 2 (by decide)
  rw [e]at h0 h1 h2;rw [hx i hi 0 (by decide)]at h0
  rw [hx i hi 1 (by decide)]at h1
  rw [hx i hi 2 (by decide)]at h2
  exact⟨h0.symm,h1.symm,h2.symm⟩
 ·rintro⟨h0,h1,h2⟩;refine Qwp (by rw [ByteArray.size_extract,ByteArray.size_extract];omega) fun j hj=> ?_
  rw [ByteArray.size_extract]at hj;rw [hx k hk j (by omega),hx i hi j (by omega)]
  have:j=0∨j=1∨j=2:=by omega
  rcases this with rfl|rfl|rfl
  ·exact h0
  ·exact h1
  ·exact h2
theorem Q2i:(Tryz.prog.info? 113).map (fun i=>(i.zero,i.size,i.bytes))=some (some (.agg #[.int .i64 0,.int .i64 0]),2,16):=by kernel_rfl
theorem Qng {ops:Array Oper} {rest:List Oper} {o:Oper} {a:Act} {Q:Exit→Act→World→Prop} {B:Nat} {w0 w:World} {l:List (List Value)} {v:Value} (hgd:o.guard=none) (s x:Operand) (T:TypeId) (hT:Tryz.prog.underlying T=Tryz.prog.underlying 67)
  (ho:o.op= .call {callee:= .builtin .append,args:=#[s,x],argTypes:=#[T,T]}) (hs:a.eval s=v) (h:LS 113 2 B w0 l v w) (ad:Addr) (m c:Nat) (xs:List (List Value))
  (hx:a.eval x= .slice (some ad) m c) (hm:xs.length=m) (hz:Each 2 xs) (hc:∀j u,xs.flatten[j]? =some u→w.cell? (ad.add j)=some u) (hm0:0<m) (hn:l.length+m≤1000000000000)
  (k:∀v' w',LS 113 2 B w0 (l++xs) v' w'→Gr v w v' w'→wpList Tryz.prog ops Q rest (a.put o.dst v') w'):
  wpList Tryz.prog ops Q (o::rest) a w:=by
 obtain⟨i0,hi,hz0,hz1,hz2⟩:=info_parts Q2i;refine wpList_append_lies _ hgd s x T ho B 113 i0 (.agg #[.int .i64 0,.int .i64 0]) 2 16 (hT.trans Tryz.underlying67) hi hz0 hz1 hz2 rfl (by decide) v l.length _ hs h.own ad m c xs.flatten hx (by rw [hz.len,hm]) hc hz.one hm0 (by unfold maxLen;omega) (by omega) h.lo _ rfl ?_
 intro q cap w2 hown hg hat hlt;have hG:Gr v w (.slice (some ⟨q,0,none⟩) (l.length+m) cap) w2:=⟨hg.os,hg.tape,hg.output,hg.size,fun i hi hv=>hg.block i hi (fun e=>hv e.symm),fun i e=>by
  have e:q=i:=by injection e
  rcases hat with h1|h1
  ·exact .inl (by rw [h1,e])
  ·right;omega⟩
 refine k _ w2 ⟨?_,h.each.app hz,Qdz h.b hG (fun i e=>(h.ownB i e).1) h.lo,Nat.le_trans h.lo hg.size⟩ hG;rw [List.length_append,List.flatten_append,hm];exact hown
theorem Qep {ops:Array Oper} {rest:List Oper} {o:Oper} {a:Act} {Q:Exit→Act→World→Prop} {B:Nat} {w0 w:World} {l:List (List Value)} {v:Value} (hgd:o.guard=none) (s x:Operand) (T:TypeId) (hT:Tryz.prog.underlying T=Tryz.prog.underlying 67)
  (ho:o.op= .call {callee:= .builtin .append,args:=#[s,x],argTypes:=#[T,T]}) (hs:a.eval s=v) (h:LS 113 2 B w0 l v w) (c0:Int) (c1:Int)
  (hx:a.eval x= .slice (some ⟨w.heap.size,0,none⟩) 1 1) (hn:l.length≤999999999999)
  (k:∀v' w',LS 113 2 B w0 (l++[Ql9 c0 c1]) v' w'→Gr v w v' w'→wpList Tryz.prog ops Q rest (a.put o.dst v') w'):
  wpList Tryz.prog ops Q (o::rest) a (w.alloc (.cells #[.int .i64 c0,.int .i64 c1] 113)):=
 Qng hgd s x T hT ho hs (h.below (Qb.alloc Ql _)) ⟨w.heap.size,0,none⟩ 1 1 [Ql9 c0 c1] hx rfl (Qzt c0 c1) (fun j u hu=>Qci w #[.int .i64 c0,.int .i64 c1] 113 j u (by simpa [Ql9]using hu)) (by decide) (by omega) fun v' w' h2 h3=>k v' w' h2 ((Gr.of (Qb.alloc Ql _)).trans h3)
theorem Qze {a b:ByteArray} (h:a=b):(a.toList==b.toList)=true:=by rw [h];exact beq_self_eq_true _
theorem Qzf {a b:ByteArray} (h:a≠b):(a.toList==b.toList)=false:=beq_eq_false_iff_ne.2 fun e=>h (by
 rw [ByteArray.toList_eq,ByteArray.toList_eq]at e;cases a;cases b;exact congrArg ByteArray.mk (Array.toList_inj.1 e))
theorem Qqg:(Tryz.prog.info? 113).map (·.size)=some 2:=by kernel_rfl
theorem Qp2 (s:ByteArray) (from_ to:Nat) (w:World) (h1:from_≤to) (h2:to≤s.size) (hs:s.size≤281474976710656) (hd:to-from_<1000000):
  Calls Tryz.prog 31 #[.string s,.int .i64 (from_:Int),.int .i64 (to:Int)] w fun e w'=>∃v,e= .returned v∧LS 113 2 w.heap.size w ((Qbl (Qac (s.extract 0 to)) from_ to).map encT) v w':=by
 obtain⟨S,hS⟩:∃S,S=s.extract 0 to:=⟨_,rfl⟩;have hSz:S.size=to:=by rw [hS,ByteArray.size_extract];omega
 obtain⟨lo,hlo⟩:∃lo,lo=from_-32768:=⟨_,rfl⟩;have HTV:Hid (Qbl (Qac S) from_ to=Qdy (Qac S) lo to (to-from_) from_):=Qh (by unfold Qbl;rw [←hlo])
 rw [←hS];have hf0:¬(from_:Int)<0:=by omega
 have hf1:¬(to:Int)<(from_:Int):=by omega
 have hf2:¬(to:Int)>(s.size:Int):=by omega
 have HTB:=Qh (⟨h1,h2,hs,hd,hlo⟩:from_≤to∧to≤s.size∧s.size≤281474976710656∧to-from_<1000000∧lo=from_-32768);have HSZ:=Qh Qqg;have HS:=Qh hS;have HBS:Hid (∀j,j<to→Qac s j=Qac S j):=Qh fun j hj=>by rw [hS,Qey s 0 to j h2 (by omega),Nat.zero_add]
 have HL0:Hid (LS 113 2 w.heap.size w [] (.slice none 0 0) w):=Qh (LS.nil Qb Ql);clear hS hlo hSz h1 h2 hs hd;go_enter Tryz.func31,Tryz.ntmps31;go_wp2_with fail;clear hf0 hf1 hf2;go_loopg [7,8] (to-from_) (fun gk u7 u8 wr=>∃(a:Nat) (v:Value) (l:List (List Value)),v=u7∧gk=to-a∧u8= .int .i64 (a:Int)∧a≤to∧from_≤a∧l.length+from_≤a∧Hid ((Qbl (Qac S) from_ to).map encT=l++(Qdy (Qac S) lo to (to-a) a).map encT)∧Hid (LS 113 2 w.heap.size w l v wr))
 case atStart=>exact⟨from_,_,[],rfl,rfl,rfl,HTB.out.1,Ql,by simp,Qh (by rw [HTV.out];rfl),HL0⟩
 case round=>
  obtain⟨a,v,l,rfl,hgk,rfl,ha,hfa,hll,HK,HR⟩:=hrel;clear HL0;by_cases hlt:a<to
  ·have hlti:(a:Int)<(to:Int):=by omega
   have hok:=Qi3 (Qaz S) lo (to:=to) hlt;have HK2:Hid ((Qbl (Qac S) from_ to).map encT=(l++[encT (Qce (Qac S) lo to a)])++(Qdy (Qac S) lo to (to-(a+(Qce (Qac S) lo to a).1)) (a+(Qce (Qac S) lo to a).1)).map encT):=Qh (by
    rw [HK.out,show to-a=to-a-1+1 by omega,Qf7 hlt,Qil (Qaz S) lo to (to-a-1) (to-(a+(Qce (Qac S) lo to a).1)) _ (by have:=hok.1;omega) (by omega)]
    simp)
   have HSK0:Hid (Qeg (Qac S) to a a 0 (1,0)=Qce (Qac S) lo to a):=Qh (Qv9 (by have:=HTB.out;omega))
   generalize Qce (Qac S) lo to a=bt at hok HK2 HSK0;obtain⟨X,Y⟩:=bt;have hx1:1≤X∧a+X≤to∧X≤258:=⟨hok.1,hok.2.1,hok.2.2.1⟩;dsimp only at HK2;have HX:=Qh (⟨hx1,hlt,hgk,hfa,hll⟩:(1≤X∧a+X≤to∧X≤258)∧a<to∧gk=to-a∧from_≤a∧l.length+from_≤a);have hw:IntKind.i64.wrap ((a:Int)+(X:Int))=((a+X:Nat):Int):=by have:=HTB.out;rw [IntWalk.i64_in _ (by omega)];rfl
   have hwa1:IntKind.i64.wrap ((a:Int)-1)=(a:Int)-1:=by have:=HTB.out;exact IntWalk.i64_in _ (by omega)
   have hwa2:IntKind.i64.wrap ((a:Int)-32768)=(a:Int)-32768:=by have:=HTB.out;exact IntWalk.i64_in _ (by omega)
   have HLN:Hid (l.length≤999999999999):=Qh (by have:=HTB.out;omega)
   have HZ:=Qh (Blk.new wr 113 #[.int .i64 0,.int .i64 0]);have HZ2:=Qh (HZ.out.row_ #[.int .i64 1,.int .i64 0]);have HB2:=Qh (Qai ((Below.refl _ wr).alloc Ql (.cells #[.int .i64 0,.int .i64 0] 113)) Ql #[.int .i64 1,.int .i64 0]);obtain⟨W2,hW2⟩:∃W2,W2=(wr.alloc (.cells #[.int .i64 0,.int .i64 0] 113)).setRow wr.heap.size #[.int .i64 1,.int .i64 0]:=⟨_,rfl⟩;rw [←hW2]at HZ2 HB2;have HWE:=Qh hW2;obtain⟨q,hq⟩:∃q,q=wr.heap.size:=⟨_,rfl⟩;rw [←hq]at HZ2 HB2;have HQE:=Qh hq;clear hok hx1 hlt hgk hll hW2 hq HK;go_wp2_with (refine wpList_store_row rfl 113 _ _ rfl wr.heap.size #[.int .i64 1,.int .i64 0] rfl rfl 113 _ HZ.out HSZ.out rfl (Qcu _ _) ?_;rw [←HWE.out,←HQE.out]);clear HZ HWE;obtain⟨wo,hwo⟩:∃wo,wo=wr:=⟨_,rfl⟩;rw [←hwo]at HB2 HQE HR;clear hwo;go_loopw [10,11] (fun u10 u11 wk=>∃(met kk x y:Nat) (z:Int),u10= .int .i64 (met:Int)∧u11= .int .i64 z∧z=(kk:Int)-1∧kk≤a∧met≤16∧Hid (Qeg (Qac S) to a kk met (x,y)=(X,Y))∧Hid (Below q wo wk)∧Hid (Blk wk q 113 #[.int .i64 (x:Int),.int .i64 (y:Int)])∧x≤258) (fun _ u _=>(intOf u+1).toNat)
   case atStart=>exact⟨0,a,1,0,(a:Int)-1,rfl,rfl,rfl,Ql,by decide,HSK0,HB2,HZ2,by decide⟩
   case round=>
    obtain⟨met,kk,x,y,z,rfl,rfl,hz,hka,hmet,HSK,HBW,HQ,hxb⟩:=hrel;clear HZ2 HB2 HSK0;have hTB:=HTB.out;rcases kk with _|k
    ·obtain rfl:z= -1:=by omega
     clear hz;have hz1:¬(-1:Int)≥0:=by decide
     have hz2:¬(0:Int)≤-1:=by decide
     have HXY:Hid (X=x∧Y=y):=Qh (by
      have h:=HSK.out
     
      exact⟨(congrArg Prod.fst h).symm,(congrArg Prod.snd h).symm⟩)
     have HLS:Hid (LS 113 2 w.heap.size w l v wr):=Qh (HR.out.below (by have:=HBW.out;rwa [HQE.out]at this))
     have HQN:Hid (v.ownBlock≠some q):=Qh fun e=>by have:=(HR.out.ownB _ e).2;have:=HQE.out;omega
     obtain rfl:X=x:=HXY.out.1;obtain rfl:Y=y:=HXY.out.2;clear HSK HBW HR;go_wp2_with (first|(refine wpList_load_row rfl 113 (.tmp 9) rfl q rfl 113 _ (0,0) _ HQ.out Tryz.underlying113 rfl HSZ.out ?_)|(at_builtin;refine Qep rfl (.tmp 80) (.tmp 82) 67 rfl rfl rfl HLS.out (X:Int) (Y:Int) rfl HLN.out ?_;intro v9 w9 h9 g9;have H9:Hid (LS 113 2 w.heap.size w (l++[encT (X,Y)]) v9 w9):=Qh h9;have c9:w9.cell? ⟨q,0,none⟩=some (.int .i64 (X:Int)):=(HQ.out.gr g9 HQN.out).cell 0;clear h9 g9))
     go_roundg (to-(a+X))
     case measure=>have:=HX.out;omega
     case rel=>exact⟨a+X,_,l++[encT (X,Y)],rfl,rfl,by go_num,by have:=HX.out;omega,by have:=HX.out;omega,by rw [List.length_append];have:=HX.out;show l.length+1+from_≤a+X;omega,HK2,H9⟩
    ·obtain rfl:z=(k:Int):=by omega
     clear hz;have hz0:(k:Int)≥0:=by omega
     by_cases hA:a≤k+32768
     ·by_cases hM:met<16
      ·by_cases hT3:a+3≤to
       ·have hAi:(k:Int)≥(a:Int)-32768:=by omega
        have hMi:(met:Int)<16:=by omega
        have hT3i:((a+3:Nat):Int)≤(to:Int):=by omega
        have hw3:IntKind.i64.wrap ((a:Int)+3)=((a+3:Nat):Int):=by rw [IntWalk.i64_in _ (by omega)];rfl
        have hwk3:IntKind.i64.wrap ((k:Int)+3)=((k+3:Nat):Int):=by rw [IntWalk.i64_in _ (by omega)];rfl
        have hwk1:IntKind.i64.wrap ((k:Int)-1)=(k:Int)-1:=IntWalk.i64_in _ (by omega)
        have hwm:IntKind.i64.wrap ((met:Int)+1)=((met+1:Nat):Int):=by rw [IntWalk.i64_in _ (by omega)];rfl
        have hwak:IntKind.i64.wrap ((a:Int)-(k:Int))=((a-k:Nat):Int):=by rw [IntWalk.i64_in _ (by omega)];omega
        have hs1:(k:Int)≤((k+3:Nat):Int):=by omega
        have hs2:((k+3:Nat):Int)≤(s.size:Int):=by omega
        have hs3:(a:Int)≤((a+3:Nat):Int):=by omega
        have hs4:((a+3:Nat):Int)≤(s.size:Int):=by omega
        have hs5:(0:Int)≤((k+3:Nat):Int):=by omega
        have hs6:(0:Int)≤((a+3:Nat):Int):=by omega
        have hs7:k≤k+3∧k+3≤s.size∧a+3≤s.size:=by omega
        have HTHQ:=Qh (Q18 (k:=k) (i:=a) HS.out (by omega) (by omega) hT3)
        by_cases hth:th (Qac S) k=th (Qac S) a
        ·have HE:Hid (((s.extract k (k+3)).toList==(s.extract a (a+3)).toList)=true):=Qh (Qze (HTHQ.out.2 hth));have hE:=HE.out;go_wp2_with fail;go_quiet (fail);have HBn:Hid (Below q wo (wr.drewN nq)):=Qh (Qbu HBW.out _);obtain⟨m,hm⟩:∃m,m=Qcc (Qac S) k a (min (to-a) 258):=⟨_,rfl⟩;have HMN:=Qh hm;have HMB:Hid (m≤258):=Qh (by rw [hm];have:=Qho (Qac S) k a (min (to-a) 258);omega)
         have C:=Qv4 s k a to (min (to-a) 258) (wr.drewN nq) (by omega) (by omega) (by omega) (by omega) rfl
         rw [Qqb HBS.out (show k≤a by omega) (show a+min (to-a) 258≤to by omega),←hm]at C
         clear hm hE HE;go_wp2_with fail;refine C.mono ?_;rintro e w5 ⟨rfl,n5,rfl⟩;replace HBn:Hid (Below q wo ((wr.drewN nq).drewN n5)):=Qh (Qbu HBn.out _);have HQn:Hid (Blk ((wr.drewN nq).drewN n5) q 113 #[.int .i64 (x:Int),.int .i64 (y:Int)]):=Qh (HQ.out.drewN_ (nq+n5));clear C HBW HQ;generalize (wr.drewN nq).drewN n5=wn at HBn HQn⊢;by_cases hb:x<m
         ·have hg:(m:Int)>(x:Int):=by omega
          have HSK2:Hid (Qeg (Qac S) to a k (met+1) (m,a-k)=(X,Y)):=Qh (by
           have h:=HSK.out;unfold Qeg at h;rw [if_pos ⟨hA,hM,hT3⟩,if_pos hth,←HMN.out,if_pos (show x<m by omega)]at h
           exact h)
          have c0:wn.cell? ⟨q,0,none⟩=some (.int .i64 (x:Int)):=HQn.out.cell 0;clear HSK hth;go_wp2_with (refine wpList_store_row rfl 113 _ _ rfl q #[.int .i64 (m:Int),.int .i64 ((a-k:Nat):Int)] rfl rfl 113 _ HQn.out HSZ.out rfl (Qcu _ _) ?_);exact⟨⟨met+1,k,m,a-k,(k:Int)-1,by go_num,by go_num,rfl,by omega,by omega,HSK2,Qh (Qai HBn.out Ql _),Qh (HQn.out.row_ _),HMB.out⟩,by simp only [intOf];omega⟩
         ·have hg:¬(m:Int)>(x:Int):=by omega
          have HSK2:Hid (Qeg (Qac S) to a k (met+1) (x,y)=(X,Y)):=Qh (by
           have h:=HSK.out;unfold Qeg at h;rw [if_pos ⟨hA,hM,hT3⟩,if_pos hth,←HMN.out,if_neg (show¬x<m by omega)]at h
           exact h)
          have c0:wn.cell? ⟨q,0,none⟩=some (.int .i64 (x:Int)):=HQn.out.cell 0;clear HSK hth;go_wp2_with fail;exact⟨⟨met+1,k,x,y,(k:Int)-1,by go_num,by go_num,rfl,by omega,by omega,HSK2,HBn,HQn,hxb⟩,by simp only [intOf];omega⟩
        ·have HE:Hid (((s.extract k (k+3)).toList==(s.extract a (a+3)).toList)=false):=Qh (Qzf fun h=>hth (HTHQ.out.1 h));have hE:=HE.out;have HSK2:Hid (Qeg (Qac S) to a k met (x,y)=(X,Y)):=Qh (by
          have h:=HSK.out;unfold Qeg at h;rw [if_pos ⟨hA,hM,hT3⟩,if_neg hth]at h;exact h)
         clear HSK hth;go_wp2_with fail;go_quiet (fail);go_wp2_with fail;exact⟨⟨met,k,x,y,(k:Int)-1,rfl,by go_num,rfl,by omega,hmet,HSK2,Qh (Qbu HBW.out _),Qh (HQ.out.drewN_ _),hxb⟩,by simp only [intOf];omega⟩
       ·have hAi:(k:Int)≥(a:Int)-32768:=by omega
        have hMi:(met:Int)<16:=by omega
        have hw3:IntKind.i64.wrap ((a:Int)+3)=((a+3:Nat):Int):=by rw [IntWalk.i64_in _ (by omega)];rfl
        have hT3i:¬((a+3:Nat):Int)≤(to:Int):=by omega
        have HXY:Hid (X=x∧Y=y):=Qh (by
         have h:=HSK.out;unfold Qeg at h;rw [if_neg (fun hh=>hT3 hh.2.2)]at h;exact⟨(congrArg Prod.fst h).symm,(congrArg Prod.snd h).symm⟩)
        have HLS:Hid (LS 113 2 w.heap.size w l v wr):=Qh (HR.out.below (by have:=HBW.out;rwa [HQE.out]at this))
        have HQN:Hid (v.ownBlock≠some q):=Qh fun e=>by have:=(HR.out.ownB _ e).2;have:=HQE.out;omega
        obtain rfl:X=x:=HXY.out.1;obtain rfl:Y=y:=HXY.out.2;clear HSK HBW HR;go_wp2_with (first|(refine wpList_load_row rfl 113 (.tmp 9) rfl q rfl 113 _ (0,0) _ HQ.out Tryz.underlying113 rfl HSZ.out ?_)|(at_builtin;refine Qep rfl (.tmp 80) (.tmp 82) 67 rfl rfl rfl HLS.out (X:Int) (Y:Int) rfl HLN.out ?_;intro v9 w9 h9 g9;have H9:Hid (LS 113 2 w.heap.size w (l++[encT (X,Y)]) v9 w9):=Qh h9;have c9:w9.cell? ⟨q,0,none⟩=some (.int .i64 (X:Int)):=(HQ.out.gr g9 HQN.out).cell 0;clear h9 g9))
        go_roundg (to-(a+X))
        case measure=>have:=HX.out;omega
        case rel=>exact⟨a+X,_,l++[encT (X,Y)],rfl,rfl,by go_num,by have:=HX.out;omega,by have:=HX.out;omega,by rw [List.length_append];have:=HX.out;show l.length+1+from_≤a+X;omega,HK2,H9⟩
      ·have hAi:(k:Int)≥(a:Int)-32768:=by omega
       have hMi:¬(met:Int)<16:=by omega
       have HXY:Hid (X=x∧Y=y):=Qh (by
        have h:=HSK.out;unfold Qeg at h;rw [if_neg (fun hh=>hM hh.2.1)]at h;exact⟨(congrArg Prod.fst h).symm,(congrArg Prod.snd h).symm⟩)
       have HLS:Hid (LS 113 2 w.heap.size w l v wr):=Qh (HR.out.below (by have:=HBW.out;rwa [HQE.out]at this))
       have HQN:Hid (v.ownBlock≠some q):=Qh fun e=>by have:=(HR.out.ownB _ e).2;have:=HQE.out;omega
       obtain rfl:X=x:=HXY.out.1;obtain rfl:Y=y:=HXY.out.2;clear HSK HBW HR;go_wp2_with (first|(refine wpList_load_row rfl 113 (.tmp 9) rfl q rfl 113 _ (0,0) _ HQ.out Tryz.underlying113 rfl HSZ.out ?_)|(at_builtin;refine Qep rfl (.tmp 80) (.tmp 82) 67 rfl rfl rfl HLS.out (X:Int) (Y:Int) rfl HLN.out ?_;intro v9 w9 h9 g9;have H9:Hid (LS 113 2 w.heap.size w (l++[encT (X,Y)]) v9 w9):=Qh h9;have c9:w9.cell? ⟨q,0,none⟩=some (.int .i64 (X:Int)):=(HQ.out.gr g9 HQN.out).cell 0;clear h9 g9))
       go_roundg (to-(a+X))
       case measure=>have:=HX.out;omega
       case rel=>exact⟨a+X,_,l++[encT (X,Y)],rfl,rfl,by go_num,by have:=HX.out;omega,by have:=HX.out;omega,by rw [List.length_append];have:=HX.out;show l.length+1+from_≤a+X;omega,HK2,H9⟩
     ·have hAi:¬(k:Int)≥(a:Int)-32768:=by omega
      have HXY:Hid (X=x∧Y=y):=Qh (by
       have h:=HSK.out;unfold Qeg at h;rw [if_neg (fun hh=>hA hh.1)]at h;exact⟨(congrArg Prod.fst h).symm,(congrArg Prod.snd h).symm⟩)
      have HLS:Hid (LS 113 2 w.heap.size w l v wr):=Qh (HR.out.below (by have:=HBW.out;rwa [HQE.out]at this))
      have HQN:Hid (v.ownBlock≠some q):=Qh fun e=>by have:=(HR.out.ownB _ e).2;have:=HQE.out;omega
      obtain rfl:X=x:=HXY.out.1;obtain rfl:Y=y:=HXY.out.2;clear HSK HBW HR;go_wp2_with (first|(refine wpList_load_row rfl 113 (.tmp 9) rfl q rfl 113 _ (0,0) _ HQ.out Tryz.underlying113 rfl HSZ.out ?_)|(at_builtin;refine Qep rfl (.tmp 80) (.tmp 82) 67 rfl rfl rfl HLS.out (X:Int) (Y:Int) rfl HLN.out ?_;intro v9 w9 h9 g9;have H9:Hid (LS 113 2 w.heap.size w (l++[encT (X,Y)]) v9 w9):=Qh h9;have c9:w9.cell? ⟨q,0,none⟩=some (.int .i64 (X:Int)):=(HQ.out.gr g9 HQN.out).cell 0;clear h9 g9))
      go_roundg (to-(a+X))
      case measure=>have:=HX.out;omega
      case rel=>exact⟨a+X,_,l++[encT (X,Y)],rfl,rfl,by go_num,by have:=HX.out;omega,by have:=HX.out;omega,by rw [List.length_append];have:=HX.out;show l.length+1+from_≤a+X;omega,HK2,H9⟩
  ·obtain rfl:a=to:=by omega
   have hlti:¬(a:Int)<(a:Int):=by omega
   have HE:Hid ((Qbl (Qac S) from_ a).map encT=l):=Qh (by rw [HK.out,Nat.sub_self];simp [Qdy])
   clear HK;go_wp2_with fail;go_ret;rw [HE.out];exact⟨_,rfl,HR.out⟩
end Go.Proofs.YtbmcjdoiohcaaaaGreat
