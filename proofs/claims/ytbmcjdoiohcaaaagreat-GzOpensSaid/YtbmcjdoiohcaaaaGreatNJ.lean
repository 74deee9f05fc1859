/- NJ -/
import Derived.Test.YtbmcjdoiohcaaaaGreatNI
set_option maxRecDepth 100000
set_option maxHeartbeats 16000000
namespace Go.Proofs.YtbmcjdoiohcaaaaGreat
open Go.RowKit
theorem Qqe {c:Nat→Nat} {n:Nat} (h:(nds c n).length≤1):kr (lenO c n) n≤32768∧(kr (lenO c n) n=0∨sgl (lenO c n) n=1):=by
 have key:∀m (l:Nat→Nat),(∀i,i<m→l i=if c i=0 then 0 else 1)→(nds c m).length≤1→sgl l m=(nds c m).length∧kr l m=16384*(nds c m).length:=by
  intro m l
  induction m with
  |zero=>intro _ _;exact⟨rfl,rfl⟩
  |succ m ih=>
   intro hl hm;have e:nds c (m+1)=nds c m++if 0<c m then [(c m,m)]else []:=rfl;rw [e,List.length_append]at hm;have hi:=ih (fun i hi=>hl i (by omega)) (by omega)
   rw [e,List.length_append];show sgl l m+l m=_∧kr l m+(if l m=0 then 0 else 2^(15-l m))=_;rw [hi.1,hi.2,hl m (by omega)]
   by_cases hc:c m=0
   ·rw [if_pos hc,if_neg (by omega)];simp
   ·rw [if_neg hc,if_pos (by omega)];simp;omega
 have hk:=key n (lenO c n) (fun i hi=>by
  unfold lenO;by_cases hc:c i=0
  ·rw [if_pos hc,if_pos hc]
  ·rw [if_neg hc,if_neg hc];have hx:(c i,i)∈nds c n:=Qbw.2 ⟨hi,by show 0<c i;omega,rfl⟩
   have:=List.length_pos_of_mem hx;rw [if_pos (by omega)]) h
 omega
def Qee (c:Nat→Nat) (n most:Nat):Nat→Nat:=(lenV 42 c n most).getD fun _=>0
theorem Qcq (c:Nat→Nat) (n most:Nat) (hc:∀i,i<n→c i≤1000000) (hn:n≤300) (hM:(9≤most∧most≤15)∨(most=7∧n≤19)):
  Qu2 (fun i=>(c i:Int)) n (most:Int)=some (Qee c n most)∧(∀i,i<n→Qee c n most i≤most∧(0<Qee c n most i↔0<c i))∧Qba (fun i=>(Qee c n most i:Int)) n=0∧newE (fun i=>(Qee c n most i:Int)) n=0:=by
 have hok:okC (fun i=>(c i:Int)) n=true:=Qhm.2 fun i hi=>⟨by omega,by have:=hc i hi;omega⟩
 have hM2:okM (most:Int) n:=by rcases hM with h|h;exact .inl (by omega);exact .inr (by omega)
 have hTc:toL (fun i=>(c i:Int))=c:=funext fun i=>by unfold toL;exact Int.toNat_natCast _
 obtain⟨l,hl⟩:=Qn0 hok hn hM2;rw [hTc,Int.toNat_natCast]at hl;have hml:Qee c n most=l:=by unfold Qee;rw [hl];rfl
 rw [hml];have hm15:most≤15:=by omega
 obtain⟨e,h1,h2,h3⟩:=Q03 42 hl;have h15:∀i,i<n→l i≤most:=fun i hi=>by rw [h1];exact Q02 hi h2 (by omega)
 have hB:okB (fun i=>(l i:Int)) n=true:=Qbr.2 fun i hi=>⟨by omega,by have:=h15 i hi;omega⟩
 have hT:toL (fun i=>(l i:Int))=l:=funext fun i=>by unfold toL;exact Int.toNat_natCast _
 have hkr:kr l n≤32768∧(kr l n=32768∨kr l n=0∨sgl l n=1):=by
  rcases Nat.lt_or_ge 1 (nds e n).length with h4|h4
  ·have:=Qst h4 h2 (by omega)
   rw [←h1]at this;exact⟨by omega,.inl this⟩
  ·have:=Qqe h4;rw [←h1]at this;exact⟨this.1,.inr this.2⟩
 have hE:Qba (fun i=>(l i:Int)) n=0:=by
  unfold Qba;rw [if_pos ⟨hB,by omega⟩,hT,if_pos hkr.1]
 refine⟨?_,fun i hi=>⟨h15 i hi,by rw [h1];exact(Qye hi h2).trans (h3 i)⟩,hE,?_⟩
 ·unfold Qu2;rw [if_pos ⟨hok,hn,hM2⟩,hTc,Int.toNat_natCast,hl]
 ·unfold newE;rw [if_pos hE,hT,if_pos hkr.2]
theorem Q0n {l:List Int} {i:Nat} (h:i<l.length):(l.map encI)[i]? =some [.int .i64 (l.getD i 0)]:=by
 rw [List.getElem?_map,List.getElem?_eq_getElem h,List.getD_eq_getElem?_getD,List.getElem?_eq_getElem h];rfl
theorem RS.is1 {p:Option Addr} {n cap:Nat} {l:List Int} {w:World} (h:RS 1 p n cap (l.map encI) w) (lo:∀i,i<n→-9223372036854775808≤l.getD i 0) (hi:∀i,i<n→l.getD i 0<9223372036854775808):IS p n cap (fun i=>l.getD i 0) w:=
 ⟨h.nil_,fun a ha i hin=>by
  have hl:l.length=n:=by have:=h.len;rwa [List.length_map]at this
  have hi2:i<(l.map encI).length:=by rw [List.length_map];omega
  have e:=Q0n (l:=l) (i:=i) (by omega)
  rw [List.getElem?_eq_getElem hi2]at e;have e:=Option.some.inj e;have:=h.cell a ha i hi2 0 (.int .i64 (l.getD i 0)) (by rw [e];rfl)
  rwa [Nat.mul_one,Nat.add_zero]at this,h.lt,lo,hi⟩
theorem Que (l:List Int):Each 1 (l.map encI):=fun x hx=>by
 obtain⟨y,_,rfl⟩:=List.mem_map.1 hx;exact Q0l y _ (.head _)
theorem IS.flatI {a:Addr} {n cap:Nat} {f:Nat→Int} {w:World} (h:IS (some a) n cap f w) (j:Nat) (u:Value) (hu:((Qam f n).map encI).flatten[j]? =some u):w.cell? (a.add j)=some u:=by
 rw [Quf,List.getElem?_map]at hu;have hj:j<n:=by
  rcases Nat.lt_or_ge j n with h1|h1
  ·exact h1
  ·rw [List.getElem?_eq_none (by rw [Qaq];exact h1)]at hu;cases hu
 have e:(Qam f n)[j]? =some (f j):=by unfold Qam;rw [List.getElem?_map,List.getElem?_range hj];rfl
 rw [e]at hu;have hu:=Option.some.inj hu;rw [h.cell a rfl j hj,←hu]
theorem Qps (q:Nat) (zz:Nat→Addr) (nn cc:Nat→Nat) (ff:Nat→Nat→Int) (w:World) (h:Blk w q 92 (row 2 fun i=> .slice (some (zz i)) (nn i) (cc i))) (hb:∀i,i<2→IS (some (zz i)) (nn i) (cc i) (ff i) w∧(zz i).block<w.heap.size) (hn:∀i,nn i≤400) (h1:1≤nn 0) (h2:1≤nn 1):
  Calls Tryz.prog 79 #[.slice (some ⟨q,0,none⟩) 2 2] w fun e w'=>∃v,e= .returned v∧LS 3 1 w.heap.size w (catN (fun i=>(Qam (ff i) (nn i)).map encI) 2) v w':=by
 obtain⟨ll,hll⟩:∃ll:Nat→List (List Value),ll=fun i=>(Qam (ff i) (nn i)).map encI:=⟨_,rfl⟩;have HLL:Hid (∀i,ll i=(Qam (ff i) (nn i)).map encI):=Qh fun i=>by rw [hll]
 rw [←hll];clear hll;have HC:Hid (∀k,k<2→∀wx,Below w.heap.size w wx→wx.cell? ⟨q,k,none⟩=some (.slice (some (zz k)) (nn k) (cc k))):=Qh fun k hk wx hx=>(h.below hx h.lt).at_ hk;have HB:Hid (∀k,k<2→∀wx,Below w.heap.size w wx→IS (some (zz k)) (nn k) (cc k) (ff k) wx):=Qh fun k hk wx hx=>(hb k hk).1.below hx;have HS:Hid (1≤sumN nn 2∧sumN nn 2≤800):=Qh ⟨by show 1≤0+nn 0+nn 1;omega,Qfg hn 2⟩
 have HLN:Hid (∀i,i<2→(ll i).length=nn i):=Qh fun i _=>by rw [HLL.out,List.length_map,Qaq]
 have HN1:Hid (∀k,k<2→0<nn k):=Qh fun k hk=>by rcases(show k=0∨k=1 by omega)with rfl|rfl<;>assumption
 have HN:=Qh hn;clear h hb hn h1 h2;go_enter Tryz.func79,Tryz.ntmps79;go_wp2_with fail;go_loopw [3,11] (fun s i wr=>∃k:Nat,k≤2∧s= .int .i64 (sumN nn k:Int)∧i= .int .i64 (k:Int)∧w=wr) (fun _ i _=>2-(intOf i).toNat)
 case atStart=>exact⟨0,by omega,rfl,rfl,rfl⟩
 case round=>
  obtain⟨k,hk,rfl,rfl,rfl⟩:=hrel;by_cases hlt:k<2
  ·have hki:(k:Int)<2:=by omega
   have c0:=HC.out k hlt w Qb;have hl:=HN.out k;have hs:=Qfg HN.out k;have hw:IntKind.i64.wrap ((sumN nn k:Int)+(nn k:Int))=(sumN nn (k+1):Int):=by
    rw [IntWalk.i64_in _ (by omega)];show _=((sumN nn k+nn k:Nat):Int);omega
   have hneg:¬((sumN nn (k+1):Nat):Int)<0:=by omega
   clear hl hs;obtain⟨Z,hZ⟩:∃Z,Z=sumN nn (k+1):=⟨_,rfl⟩;rw [←hZ]at hw hneg;have HZ:=Qh hZ;clear hZ;generalize sumN nn k=Y at hw⊢;generalize nn k=X at c0 hw⊢;go_wp2_with fail;go_roundw
   case rel=>exact⟨k+1,by omega,by rw [HZ.out],by go_num,by trivial⟩
   case measure=>simp only [intOf];omega
  ·obtain rfl:k=2:=by omega
   have hki:¬(((2:Nat):Int))<2:=by omega
   have G:=Qn1 (sumN nn 2) HS.out.1 (by have:=HS.out;omega) w
   go_wp2_with fail;refine G.mono ?_;rintro e w1 ⟨v,rfl,hL⟩;have HL:Hid (LS 3 1 w.heap.size w (catN ll 0) v w1):=Qh ⟨hL.own,fun _ h=>(by cases h),hL.b,hL.lo⟩
   clear G hL;go_wp2_with fail;go_loopw [6,27] (fun v i wr=>∃k:Nat,k≤2∧i= .int .i64 (k:Int)∧Hid (LS 3 1 w.heap.size w (catN ll k) v wr)) (fun _ i _=>2-(intOf i).toNat)
   case atStart=>exact⟨0,by omega,rfl,HL⟩
   case round=>
    obtain⟨k,hk,rfl,HL2⟩:=hrel;clear HL;by_cases hlt:k<2
    ·have hki:(k:Int)<2:=by omega
     have c0:=HC.out k hlt _ HL2.out.b;have HBK:=Qh (HB.out k hlt _ HL2.out.b);have HLen:Hid ((catN ll k).length+nn k≤1000000):=Qh (by rw [Qlz HLN.out k hk];have:=Qfg HN.out k;have:=HN.out k;omega)
     have HKK:=Qh hlt;clear hlt;go_wp2_with (at_builtin;refine Qeo rfl (.tmp 31) (.tmp 32) 92 rfl rfl rfl HL2.out (zz k) (nn k) (cc k) (ll k) rfl (HLN.out k HKK.out) (by rw [HLL.out];exact Que _) (fun j u hu=>by rw [HLL.out]at hu;exact HBK.out.flatI j u hu) (HN1.out k HKK.out) (by have:=HLen.out;omega) ?_;intro v2 w2 h2 h3)
     go_roundw
     case rel=>exact⟨k+1,by have:=HKK.out;omega,by go_num,Qh h2⟩
     case measure=>simp only [intOf];omega
    ·obtain rfl:k=2:=by omega
     have hki:¬(((2:Nat):Int))<2:=by omega
     go_wp2_with fail;go_ret;exact⟨_,rfl,HL2.out⟩
def Qh8 (f:Nat→Nat) (n:Nat) (g:Nat→Nat) (i:Nat):Nat:=if i<n then f i else g (i-n)
theorem Qh4 {f:Nat→Int} {n i:Nat} (h:i<n):(Qam f n)[i]? =some (f i):=by
 unfold Qam;rw [List.getElem?_map,List.getElem?_range h];rfl
theorem Qi7 (f:Nat→Nat) (n:Nat) (g:Nat→Nat) (m i:Nat) (h:i<n+m):(Qam (fun i=>(f i:Int)) n++Qam (fun i=>(g i:Int)) m).getD i 0=(Qh8 f n g i:Int):=by
 rw [List.getD_eq_getElem?_getD];unfold Qh8;by_cases hi:i<n
 ·rw [if_pos hi,List.getElem?_append_left (by rw [Qaq];exact hi),Qh4 hi];rfl
 ·rw [if_neg hi,List.getElem?_append_right (by rw [Qaq];omega),Qaq,Qh4 (by omega)];rfl
theorem Qyy (f:Nat→Int) (n:Nat) (h:∀i,i<n→0≤f i∧f i≤15) (a:Nat) (ha:a<n):0≤(runV f n a).1.1∧(runV f n a).1.1<19:=by
 have:=h a ha;unfold runV;split
 ·split
  ·exact⟨show (0:Int)≤18 by decide,show(18:Int)<19 by decide⟩
  ·split
   ·exact⟨show (0:Int)≤17 by decide,show(17:Int)<19 by decide⟩
   ·exact⟨this.1,by show f a<19;omega⟩
 ·split
  ·exact⟨show (0:Int)≤16 by decide,show(16:Int)<19 by decide⟩
  ·exact⟨this.1,by show f a<19;omega⟩
theorem Qol (f:Nat→Int) (n:Nat) (h:∀i,i<n→0≤f i∧f i≤15):∀k a,∀x∈Qdg f n k a,0≤x.1∧x.1<19
 |0,_,x,hx=>by cases hx
 |k+1,a,x,hx=>by
  unfold Qdg at hx;split at hx
  ·next ha=>
   rcases List.mem_cons.1 hx with rfl|hx
   ·exact Qyy f n h a ha
   ·exact Qol f n h k _ x hx
  ·cases hx
def Qiv (f:Nat→Nat) (n:Nat) (g:Nat→Nat) (m:Nat):List (Int×Nat×Nat):=Qef (fun i=>(Qh8 f n g i:Int)) (n+m)
def Qos (f:Nat→Nat) (n:Nat) (g:Nat→Nat) (m:Nat):Nat→Nat:=Qee (cntV (Qiv f n g m)) 19 7
def tOrd (L:Nat→Nat) (i:Nat):Nat:=L (ordL.getD i 0)
def Qi0 (L:Nat→Nat):Nat:=upN (fun i=>(tOrd L i:Int)) 4 19
def Qb9 (L:Nat→Nat) (n m k:Nat):List (Nat×Nat):=[(n-257,5),(m-1,5),(Qi0 L-4,4)]++(List.range k).map fun i=>(tOrd L i,3)
def Qfj (f:Nat→Nat) (n:Nat) (g:Nat→Nat) (m:Nat):List (Nat×Nat):=Qb9 (Qos f n g m) n m (Qi0 (Qos f n g m))++Qaw (cdL (Qos f n g m) 19) (Qiv f n g m)
theorem Qta (L:Nat→Nat) (n m k:Nat):(Qb9 L n m (k+1)).map encP=(Qb9 L n m k).map encP++[encN (tOrd L k:Int) 3]:=by
 unfold Qb9;rw [List.range_succ,List.map_append,List.map_append,List.map_append,List.map_append,List.append_assoc];rfl
theorem Qkj (L:Nat→Nat) (n m k:Nat):(Qb9 L n m k).length=k+3:=by unfold Qb9;simp
theorem Qj1 (i:Nat):ordL.getD i 0<19:=by
 by_cases h:i<19
 ·have:∀j:Fin 19,ordL.getD j.val 0<19:=by decide+kernel
  exact this ⟨i,h⟩
 ·simp [List.getD,List.getElem?_eq_none (show ordL.length≤i by show 19≤i;omega)]
theorem Q1q {p:Option Addr} {n cap:Nat} {f:Nat→Int} {w:World} (h:RS 1 p n cap ((Qam f n).map encI) w) (hb:∀i,i<n→-9223372036854775808≤f i∧f i<9223372036854775808):IS p n cap f w:=by
 have hj:∀i,i<n→(Qam f n).getD i 0=f i:=fun i hi=>by rw [List.getD_eq_getElem?_getD,Qh4 hi];rfl
 exact(h.is1 (fun i hi=>by rw [hj i hi];exact(hb i hi).1) (fun i hi=>by rw [hj i hi];exact(hb i hi).2)).castF hj
theorem Qvl (k:Nat) (h:k<19) (wx:World):(Instr.index 181 (.agg ordA) (.int .i64 (k:Int))).run Tryz.prog wx= .ok (.int .i64 ((ordL.getD k 0:Nat):Int)) wx:=by
 rcases(show k=0∨k=1∨k=2∨k=3∨k=4∨k=5∨k=6∨k=7∨k=8∨k=9∨k=10∨k=11∨k=12∨k=13∨k=14∨k=15∨k=16∨k=17∨k=18 by omega)with rfl|rfl|rfl|rfl|rfl|rfl|rfl|rfl|rfl|rfl|rfl|rfl|rfl|rfl|rfl|rfl|rfl|rfl|rfl<;>kernel_rfl
theorem LS.three (w:World) (a b c d e f:Int):LS 106 2 w.heap.size w [encN a b,encN c d,encN e f] (.slice (some ⟨w.heap.size,0,none⟩) 3 3) (w.alloc (.cells #[.int .i64 a,.int .i64 b,.int .i64 c,.int .i64 d,.int .i64 e,.int .i64 f] 106)):=
 ⟨⟨rfl,.inr ⟨w.heap.size,3,#[.int .i64 a,.int .i64 b,.int .i64 c,.int .i64 d,.int .i64 e,.int .i64 f],rfl,Ql,Blk.new w _ _,Ql,by unfold maxLen;omega,rfl,rfl⟩⟩,fun x hx=>by
  simp only [List.mem_cons,List.not_mem_nil,or_false]at hx;rcases hx with rfl|rfl|rfl<;>exact Qnx _ _ _ (.head _),(Below.refl _ w).alloc Ql _,((Below.refl _ w).alloc Ql _).size⟩
theorem Qwl (L:Nat→Nat) (k:Nat):(Qam (fun i=>(tOrd L i:Int)) (k+1)).map encI=(Qam (fun i=>(tOrd L i:Int)) k).map encI++[encI (tOrd L k:Int)]:=by
 unfold Qam;rw [List.range_succ,List.map_append,List.map_append];rfl
theorem Qkn (a1 a2:Addr) (n c1 m c2:Nat) (f g:Nat→Nat) (w:World) (h1:IS (some a1) n c1 (fun i=>(f i:Int)) w) (h2:IS (some a2) m c2 (fun i=>(g i:Int)) w) (hn:257≤n∧n≤300) (hm:1≤m∧m≤300) (hf:∀i,i<n→f i≤15) (hg:∀i,i<m→g i≤15):
  Calls Tryz.prog 85 #[.slice (some a1) n c1,.slice (some a2) m c2] w fun e w'=>∃v,e= .returned v∧LS 106 2 w.heap.size w ((Qfj f n g m).map encP) v w':=by
 obtain⟨F,hF⟩:∃F:Nat→Int,F=fun i=>(Qh8 f n g i:Int):=⟨_,rfl⟩;obtain⟨ws,hws⟩:∃ws,ws=Qiv f n g m:=⟨_,rfl⟩;have hwsF:ws=Qef F (n+m):=by rw [hws,hF];rfl
 have hF15:∀i,i<n+m→0≤F i∧F i≤15:=fun i hi=>by
  rw [hF];show(0:Int)≤(Qh8 f n g i:Nat)∧((Qh8 f n g i:Nat):Int)≤15;unfold Qh8;split
  ·next h=>have:=hf i h;omega
  ·next h=>have:=hg (i-n) (by omega);omega
 have hsym:∀x∈ws,0≤x.1∧x.1<19:=by rw [hwsF];exact Qol F (n+m) hF15 _ _
 have hwl:ws.length≤600:=by rw [hwsF];have:=Qf3 F (n+m) (n+m) 0;unfold Qef;omega
 obtain⟨L,hL⟩:∃L,L=Qos f n g m:=⟨_,rfl⟩;have hLm:=Qcq (cntV ws) 19 7 (fun i _=>by have:=Qcf ws i;omega) (by decide) (.inr ⟨rfl,by decide⟩)
 rw [show Qee (cntV ws) 19 7=L by rw [hL,hws];rfl]at hLm
 have HLM:=Qh hLm;have HWL:=Qh hwl;have HSYM:=Qh (⟨hsym,hwl⟩:(∀x∈ws,0≤x.1∧x.1<19)∧ws.length≤600);have HRES:Hid (Qfj f n g m=Qb9 L n m (Qi0 L)++Qaw (cdL L 19) ws):=Qh (by unfold Qfj;rw [hL,hws])
 --Concat
 have hal:=(Below.refl w.heap.size w).alloc Ql (.cells #[.slice (some a1) n c1,.slice (some a2) m c2] 92);have C1:=Qps w.heap.size (fun i=>if i=0 then a1 else a2) (fun i=>if i=0 then n else m) (fun i=>if i=0 then c1 else c2) (fun i=>if i=0 then(fun i=>(f i:Int))else (fun i=>(g i:Int))) (w.alloc (.cells #[.slice (some a1) n c1,.slice (some a2) m c2] 92)) (Blk.new _ _ _) (fun i hi=>by
  rcases(show i=0∨i=1 by omega)with rfl|rfl
  ·exact⟨h1.below hal,Nat.lt_of_lt_of_le (h1.lt a1 rfl) hal.size⟩
  ·exact⟨h2.below hal,Nat.lt_of_lt_of_le (h2.lt a2 rfl) hal.size⟩) (fun i=>by show(if i=0 then n else m)≤400;split<;>omega) (by show 1≤n;omega) (by show 1≤m;omega)
 have HBA:=Qh hal;have HNM:=Qh (⟨hn.1,hn.2,hm.1,hm.2⟩:257≤n∧n≤300∧1≤m∧m≤300);have HFF:=Qh (⟨hF,hwsF⟩:F=(fun i=>(Qh8 f n g i:Int))∧ws=Qef F (n+m));have HF15:=Qh hF15;have hw1:IntKind.i64.wrap ((n:Int)-257)=((n-257:Nat):Int):=by rw [IntWalk.i64_in _ (by omega)];omega
 have hw2:IntKind.i64.wrap ((m:Int)-1)=((m-1:Nat):Int):=by rw [IntWalk.i64_in _ (by omega)];omega
 obtain⟨N1,hN1⟩:∃N,N=n-257:=⟨_,rfl⟩;obtain⟨M1,hM1⟩:∃N,N=m-1:=⟨_,rfl⟩;rw [←hN1]at hw1;rw [←hM1]at hw2;have HNM1:=Qh (⟨hN1,hM1⟩:N1=n-257∧M1=m-1);clear h1 h2 hn hm hf hg hal hF hws hwsF hF15 hsym hwl hL hLm hN1 hM1;go_enter Tryz.func85,Tryz.ntmps85;go_wp2_with fail;refine C1.mono ?_;rintro e w1 ⟨v1,rfl,hL1⟩;have hL1:=hL1.fin HBA.out HBA.out.size;obtain⟨p,cap,rfl,hR1,-⟩:=hL1.rs;have hb1:=hL1.b;have hcat:catN (fun i=>(Qam ((fun i=>if i=0 then(fun i=>(f i:Int))else (fun i=>(g i:Int))) i) ((fun i=>if i=0 then n else m) i)).map encI) 2=(Qam (fun i=>(f i:Int)) n++Qam (fun i=>(g i:Int)) m).map encI:=by rw [List.map_append];rfl
 rw [hcat]at hR1;rw [hcat,List.length_map,List.length_append,Qaq,Qaq]at*;have hIS:IS p (n+m) cap F w1:=by
  have hj:∀i,i<n+m→(Qam (fun i=>(f i:Int)) n++Qam (fun i=>(g i:Int)) m).getD i 0=F i:=fun i hi=>by rw [Qi7 f n g m i hi,HFF.out.1]
  exact(hR1.is1 (fun i hi=>by rw [hj i hi];have:=HF15.out i hi;omega) (fun i hi=>by rw [hj i hi];have:=HF15.out i hi;omega)).castF hj
 have C2:=Qy0 p (n+m) cap F w1 hIS hR1.le (by have:=HNM.out;omega) hR1.mx
 rw [←HFF.out.2]at C2;have HB1:=Qh hb1;have HNP:Hid (0<ws.length):=Qh (by
  have h0:0<n+m:=by have:=HNM.out;omega
  rw [HFF.out.2];unfold Qef;obtain⟨k,hk⟩:∃k,n+m=k+1:=⟨n+m-1,by omega⟩
  rw [hk,Qcb (by omega)]
  exact Nat.succ_pos _)
 obtain⟨N,hN⟩:∃N,N=n+m:=⟨_,rfl⟩;rw [←hN]at C2⊢;clear C1 hL1 hR1 hb1 hcat hIS hN;go_wp2_with fail;refine C2.mono ?_;rintro e w2 ⟨v2,rfl,hL2⟩;have hL2:=hL2.fin HB1.out HB1.out.size;obtain⟨p2,cap2,rfl,hR2,-⟩:=hL2.rs;rw [List.length_map]at*;have HW2:=Qh (⟨hR2,hL2.b⟩:RS 3 p2 ws.length cap2 (ws.map encR) w2∧Below w.heap.size w w2);obtain⟨K,hK⟩:∃K,K=ws.length:=⟨_,rfl⟩;have HWK:=Qh hK;rw [←hK]at HW2 HNP HSYM⊢;clear C2 hL2 hR2 hK HB1;go_wp2_with fail;refine(Qlf w2).mono ?_;rintro e w3 ⟨rfl,b3⟩;have HZ3:=Qh (⟨(Below.refl _ w3).alloc Ql (.cells (rI 19 fun _=>0) 181),Blk.new w3 _ _⟩:Below w3.heap.size w3 (w3.alloc (.cells (rI 19 fun _=>0) 181))∧Blk (w3.alloc (.cells (rI 19 fun _=>0) 181)) w3.heap.size 181 (rI 19 fun _=>0));have hz:=Qw7;have HSZ:=Qh Qib;have hb3:=Qai HZ3.out.1 Ql ordA;have hz3:=HZ3.out.2.row_ ordA;obtain⟨W3,hW3⟩:∃W,W=(w3.alloc (.cells (rI 19 fun _=>0) 181)).setRow w3.heap.size ordA:=⟨_,rfl⟩;rw [←hW3]at hb3 hz3;obtain⟨q,hq⟩:∃q,q=w3.heap.size:=⟨_,rfl⟩;rw [←hq]at hz3;have HWE:=Qh (⟨hW3,hq⟩:W3=(w3.alloc (.cells (rI 19 fun _=>0) 181)).setRow w3.heap.size ordA∧q=w3.heap.size);have hbb:=b3.trans (hb3.mono b3.size);have H3:=Qh (⟨HW2.out.1.below hbb,HW2.out.2.trans (hbb.mono HW2.out.2.size),hz3⟩:RS 3 p2 K cap2 (ws.map encR) W3∧Below w.heap.size w W3∧Blk W3 q 181 ordA);clear b3 hb3 hz3 hW3 hq hbb HW2;go_wp2_with (refine wpList_store_row rfl 181 _ _ rfl w3.heap.size ordA rfl rfl 181 _ HZ3.out.2 HSZ.out rfl Qmo ?_;rw [←HWE.out.1,←HWE.out.2]);refine(Qld p2 K cap2 ws 19 W3 H3.out.1 HSYM.out.1 (by have:=HSYM.out.2;omega) (by decide)).mono ?_
 rintro e w4 ⟨z4,rfl,hz4,b4,-⟩;have H4:=Qh (⟨H3.out.1.below b4,H3.out.2.1.trans (b4.mono H3.out.2.1.size),H3.out.2.2.below b4 H3.out.2.2.lt⟩:RS 3 p2 K cap2 (ws.map encR) w4∧Below w.heap.size w w4∧Blk w4 q 181 ordA);have hi4:IS (some ⟨z4,0,none⟩) 19 19 (fun i=>(cntV ws i:Int)) w4:=IS.row hz4 (fun i _=>by omega) (fun i _=>by have:=Qcf ws i;have:=HWL.out;omega)
 have CL:=Qe9 (some ⟨z4,0,none⟩) 19 19 (fun i=>(cntV ws i:Int)) 7 w4 hi4 (by decide) L HLM.out.1
 clear hz4 b4 hi4 H3 HZ3 hz;go_wp2_with fail;refine CL.mono ?_;rintro e w5 ⟨p5,c5,rfl,hi5,b5,hc5⟩;have H5:=Qh (⟨H4.out.1.below b5,H4.out.2.1.trans (b5.mono H4.out.2.1.size),H4.out.2.2.below b5 H4.out.2.2.lt,hi5,hc5⟩:RS 3 p2 K cap2 (ws.map encR) w5∧Below w.heap.size w w5∧Blk w5 q 181 ordA∧IS p5 19 c5 (fun i=>(L i:Int)) w5∧19≤c5);clear CL hi5 b5 hc5 H4;obtain⟨a5,rfl⟩:∃a,p5=some a:=by
  cases p5 with
  |none=>have:=(H5.out.2.2.2.1.nil_ rfl).1;omega
  |some a=>exact⟨a,rfl⟩
 go_wp2_with (refine wpList_load_row rfl 181 (.tmp 6) rfl q rfl 181 _ (0,0) _ H5.out.2.2.1 Tryz.underlying181 rfl HSZ.out ?_)
 go_loopw [9,28] (fun x u wr=>∃(k:Nat) (x1:Value),x1=x∧u= .int .i64 (k:Int)∧k≤19∧Hid (LS 3 1 w5.heap.size w5 ((Qam (fun i=>(tOrd L i:Int)) k).map encI) x1 wr)) (fun _ u _=>19-(intOf u).toNat)
 case atStart=>exact⟨0,_,rfl,rfl,Nat.zero_le _,Qh (LS.nil Qb Ql)⟩
 case round=>
  obtain⟨k,x1,rfl,rfl,hk,HL⟩:=hrel;by_cases hlt:k<19
  ·have hlti:(k:Int)<19:=by omega
   obtain⟨S,hS⟩:∃S,S=ordL.getD k 0:=⟨_,rfl⟩;have hSl:S<19:=by rw [hS];exact Qj1 k
   have hix:∀wx,(Instr.index 181 (.agg ordA) (.int .i64 (k:Int))).run Tryz.prog wx= .ok (.int .i64 (S:Int)) wx:=by rw [hS];exact Qvl k hlt
   have hSi:(S:Int)<19:=by omega
   have c0:=(H5.out.2.2.2.1.below HL.out.b).cell a5 rfl S hSl;obtain⟨X,hX⟩:∃X,X=L S:=⟨_,rfl⟩;replace c0:wr.cell? (a5.add S)=some (.int .i64 (X:Int)):=by rw [hX];exact c0
   have HTO:Hid ((tOrd L k:Int)=(X:Int)):=Qh (by unfold tOrd;rw [←hS,←hX])
   have hkw:IntKind.i64.wrap ((k:Int)+1)=((k+1:Nat):Int):=by rw [IntWalk.i64_in _ (by omega)];rfl
   have HKN:=Qh hlt;clear hS hX hlt hSl;go_wp2_with (at_builtin;refine Qax rfl (.tmp 31) (.tmp 36) 92 rfl rfl rfl HL.out (X:Int) rfl (by rw [List.length_map,Qaq];omega) ?_;intro v9 w9 h9 _;have H9:Hid (LS 3 1 w5.heap.size w5 ((Qam (fun i=>(tOrd L i:Int)) (k+1)).map encI) v9 w9):=Qh (by rw [Qwl,HTO.out];exact h9);clear h9)
   exact⟨⟨k+1,_,rfl,by go_num,by have:=HKN.out;omega,H9⟩,by simp only [intOf];have:=HKN.out;omega⟩
  ·obtain rfl:k=19:=by omega
   have hlti:¬(((19:Nat):Int))<19:=by omega
   have hL6:=HL.out;obtain⟨p6,cap6,rfl,hR6,-⟩:=hL6.rs;rw [List.length_map,Qaq]at hR6⊢;have hi6:=Q1q hR6 (fun i hi=>by
    have:L (ordL.getD i 0)≤7:=(HLM.out.2.1 _ (Qj1 i)).1;show-9223372036854775808≤((tOrd L i:Nat):Int)∧((tOrd L i:Nat):Int)<9223372036854775808;unfold tOrd;omega)
   have CU:=Qnd p6 19 cap6 (fun i=>(tOrd L i:Int)) 4 wr hi6 hR6.le (by decide)
   have hb6:=hL6.b;have H6:=Qh (⟨H5.out.1.below hb6,H5.out.2.1.trans (hb6.mono H5.out.2.1.size),H5.out.2.2.2.1.below hb6,hi6⟩:RS 3 p2 K cap2 (ws.map encR) wr∧Below w.heap.size w wr∧IS (some a5) 19 c5 (fun i=>(L i:Int)) wr∧IS p6 19 cap6 (fun i=>(tOrd L i:Int)) wr);have HM4:Hid (4≤Qi0 L∧Qi0 L≤19):=Qh ⟨Qkq _ 4 19 (by decide),Qdr _ 4 19⟩
   rw [show upN (fun i=>(tOrd L i:Int)) 4 19=Qi0 L from rfl]at CU;obtain⟨M,hM⟩:∃M,M=Qi0 L:=⟨_,rfl⟩;rw [←hM]at CU HM4 HRES;obtain⟨M4,hM4⟩:∃N,N=M-4:=⟨_,rfl⟩;have hw3:IntKind.i64.wrap ((M:Int)-4)=(M4:Int):=by have:=HM4.out;rw [IntWalk.i64_in _ (by omega)];omega
   have HHD:Hid ((Qb9 L n m 0).map encP=[encN (N1:Int) 5,encN (M1:Int) 5,encN (M4:Int) 4]):=Qh (by rw [HNM1.out.1,HNM1.out.2,hM4,hM];rfl)
   clear hL6 hR6 hi6 hb6 HL hM hM4;go_wp2_with (refine CU.mono ?_;rintro e w8 ⟨rfl,rfl⟩);clear CU hw1 hw2 hw3;obtain⟨w8,h8⟩:∃w8,w8=wr:=⟨_,rfl⟩;rw [←h8]at H6⊢;clear h8;go_loopw [12,56] (fun x u wr=>∃(k:Nat) (x1:Value),x1=x∧u= .int .i64 (k:Int)∧k≤M∧Hid (LS 106 2 w8.heap.size w8 ((Qb9 L n m k).map encP) x1 wr)) (fun _ u _=>M-(intOf u).toNat)
   case atStart=>exact⟨0,_,rfl,rfl,Nat.zero_le _,Qh (by rw [HHD.out];exact LS.three w8 _ _ _ _ _ _)⟩
   case round=>
    obtain⟨k,x1,rfl,rfl,hk,HL⟩:=hrel;by_cases hlt:k<M
    ·have hlti:(k:Int)<(M:Int):=by omega
     have hk19:k<19:=by have:=HM4.out;omega
     obtain⟨a6,rfl⟩:∃a,p6=some a:=by
      cases p6 with
      |none=>have:=(H6.out.2.2.2.nil_ rfl).1;omega
      |some a=>exact⟨a,rfl⟩
     have c0:=(H6.out.2.2.2.below HL.out.b).cell a6 rfl k hk19;obtain⟨X,hX⟩:∃X,X=tOrd L k:=⟨_,rfl⟩;replace c0:wr.cell? (a6.add k)=some (.int .i64 (X:Int)):=by rw [hX];exact c0
     have HTO:Hid ((Qb9 L n m (k+1)).map encP=(Qb9 L n m k).map encP++[encN (X:Int) 3]):=Qh (by rw [Qta,hX])
     have hkw:IntKind.i64.wrap ((k:Int)+1)=((k+1:Nat):Int):=by rw [IntWalk.i64_in _ (by omega)];rfl
     have HKN:=Qh hlt;have HLN:Hid (((Qb9 L n m k).map encP).length≤999999999999):=Qh (by rw [List.length_map,Qkj];omega)
     clear hX hlt hk19;go_wp2_with (at_builtin;refine Qix rfl (.tmp 60) (.tmp 63) 52 rfl rfl rfl HL.out (X:Int) 3 rfl HLN.out ?_;intro v9 w9 h9 _;have H9:Hid (LS 106 2 w8.heap.size w8 ((Qb9 L n m (k+1)).map encP) v9 w9):=Qh (by rw [HTO.out];exact h9);clear h9)
     exact⟨⟨k+1,_,rfl,by go_num,by have:=HKN.out;omega,H9⟩,by simp only [intOf];have:=HKN.out;omega⟩
    ·obtain rfl:k=M:=by omega
     have hlti:¬(k:Int)<(k:Int):=by omega
     have hb:=HL.out.b;have CN:=Qgu (some a5) 19 c5 (fun i=>(L i:Int)) wr (H6.out.2.2.1.below hb) (by decide) HLM.out.2.2.1 (fun i hi=>by have:=(HLM.out.2.1 i hi).1;omega)
     have hTL:toL (fun i=>(L i:Int))=L:=funext fun i=>by unfold toL;exact Int.toNat_natCast _
     rw [hTL]at CN;have HRW:=Qh (H6.out.1.below hb);clear hb hTL;go_wp2_with fail;refine CN.mono ?_;rintro e w9 ⟨z9,rfl,hz9,b9,-⟩;have hrc:=Q0a hz9 (Nat.le_refl 19) (by decide)
     rw [List.take_of_length_le (by rw [Qe8];exact Ql)]at hrc
     have CM:=Qgv (some ⟨z9,0,none⟩) 19 19 (cdL L 19) p2 K cap2 ws w9 hrc (HRW.out.below b9) (fun x hx=>by have:=HSYM.out.1 x hx;omega) (by have:=HSYM.out.2;omega)
     have HL9:=Qh (HL.out.below b9);clear CN hz9 b9 hrc;go_wp2_with fail;refine CM.mono ?_;rintro e w10 ⟨v10,rfl,hL10⟩;have HL10:=Qh (HL9.out.below hL10.b);obtain⟨p10,c10,rfl,hR10,-⟩:=hL10.rs;rw [List.length_map,Qcs]at hR10⊢;obtain⟨J,hJ⟩:∃J,J=2*ws.length:=⟨_,rfl⟩;rw [←hJ]at hR10⊢;have hJ0:0<J:=by have:=HNP.out;have:=HWK.out;omega
     obtain⟨a10,rfl⟩:=hR10.some_ hJ0;have HR10:=Qh (⟨hR10,hJ0⟩:RS 2 (some a10) J c10 ((Qaw (cdL L 19) ws).map encP) w10∧0<J);have HBW:=Qh H6.out.2.1;have HLL:Hid (((Qb9 L n m k).map encP).length+J≤1000000000000):=Qh (by rw [List.length_map,Qkj];have:=HWL.out;have:=HM4.out;omega)
     clear CM hL10 hR10 hJ hJ0 HL9 HL HRW;go_wp2_with (at_builtin;refine Qc9 rfl (.tmp 66) (.tmp 70) 52 rfl rfl rfl HL10.out a10 J c10 _ rfl HR10.out.1.len HR10.out.1.each (fun j u hu=>HR10.out.1.flat j u hu) HR10.out.2 HLL.out ?_;intro v11 w11 h11 _;have H11:=Qh (h11.fin HBW.out HBW.out.size);clear h11);go_ret;refine⟨_,rfl,?_⟩;rw [HRES.out,List.map_append];exact H11.out
end Go.Proofs.YtbmcjdoiohcaaaaGreat
