/- NG -/
import Derived.Test.YtbmcjdoiohcaaaaGreatNF
set_option maxRecDepth 100000
set_option maxHeartbeats 16000000
namespace Go.Proofs.YtbmcjdoiohcaaaaGreat
open Go.RowKit
theorem LS.fin {E:TypeId} {z B B':Nat} {w0 w1 w2:World} {l:List (List Value)} {v:Value} (h:LS E z B' w1 l v w2) (hb:Below B w0 w1) (hB:B≤B'):LS E z B w0 l v w2:=by
 refine⟨⟨h.own.1,?_⟩,h.each,hb.trans (h.b.mono hB),Nat.le_trans hB h.lo⟩;rcases h.own.2 with h1|⟨g,cap,cur,h1,h2,h3⟩
 ·exact .inl h1
 ·exact .inr ⟨g,cap,cur,h1,Nat.le_trans hB h2,h3⟩
theorem Qqy {l:Nat→Nat} {n i:Nat} (h:i<n):(cdL l n)[i]? =some (cdV l n i):=by
 unfold cdL;rw [List.getElem?_map,List.getElem?_range h];rfl
theorem Qe8 (l:Nat→Nat) (n:Nat):(cdL l n).length=n:=by unfold cdL;rw [List.length_map,List.length_range]
theorem Q0a {l:Nat→Nat} {n m z:Nat} {w:World} (h:Blk w z 106 (rI (n*2) (cdC l n n))) (hm:m≤n) (hn:n≤300):RS 2 (some ⟨z,0,none⟩) m n (((cdL l n).take m).map encP) w:=by
 refine⟨by rw [List.length_map,List.length_take,Qe8];omega,fun x hx=> ?_,fun e=>(by cases e),hm,by omega,fun a ha i hi j u hu=> ?_,fun a ha=>(by injection ha with ha;rw [←ha];exact h.lt)⟩
 ·obtain⟨p,_,rfl⟩:=List.mem_map.1 hx;exact Qnx _ _ _ (.head _)
 ·injection ha with ha
  subst ha;have hi2:i<m:=by rw [List.length_map,List.length_take,Qe8]at hi;omega
  have e:(((cdL l n).take m).map encP)[i]=encP (cdV l n i):=by
   have:=List.getElem?_eq_getElem hi;rw [List.getElem?_map,List.getElem?_take,if_pos hi2,Qqy (show i<n by omega)]at this
   exact(Option.some.inj this).symm
  rw [e]at hu;have hj:j<2:=(List.getElem?_eq_some_iff.1 hu).1;rw [Qay,Nat.zero_add,h.at_ (show i*2+j<n*2 by omega)]
  rcases(show j=0∨j=1 by omega)with rfl|rfl
  ·rw [←hu];show some (Value.int .i64 (cdC l n n (i*2+0)))=some _;unfold cdC;rw [if_pos (by omega),if_pos (by omega),show(i*2+0) /2=i by omega]
  ·rw [←hu];show some (Value.int .i64 (cdC l n n (i*2+1)))=some _;unfold cdC;rw [if_pos (by omega),if_neg (by omega),show(i*2+1) /2=i by omega]
def txL (f:Nat→Nat) (n:Nat) (g:Nat→Nat) (m:Nat):List (Nat×Nat):=(cdL f n).take 286++(cdL g m).take 30
theorem Qiw (p1:Option Addr) (n c1:Nat) (f:Nat→Int) (p2:Option Addr) (m c2:Nat) (g:Nat→Int) (w:World) (h1:IS p1 n c1 f w) (h2:IS p2 m c2 g w) (hn:286≤n∧n≤300) (hm:30≤m∧m≤300) (e1:Qba f n=0) (e2:Qba g m=0) (hf:∀i,i<n→0≤f i∧f i≤15) (hg:∀i,i<m→0≤g i∧g i≤15):
  Calls Tryz.prog 47 #[.slice p1 n c1,.slice p2 m c2] w fun e w'=>∃v,e= .returned v∧LS 106 2 w.heap.size w ((txL (toL f) n (toL g) m).map encP) v w':=by
 have CA:Hid (∀wx,Below w.heap.size w wx→Calls Tryz.prog 78 #[.slice p1 n c1] wx fun e w'=>∃z,e= .returned (.slice (some ⟨z,0,none⟩) n n)∧RS 2 (some ⟨z,0,none⟩) 286 n (((cdL (toL f) n).take 286).map encP) w'∧z<w'.heap.size∧Below wx.heap.size wx w'):=Qh fun wx hb=>(Qgu p1 n c1 f wx (h1.below hb) hn.2 e1 hf).mono fun e w' ⟨z,he,k,b,_⟩=>⟨z,he,Q0a k hn.1 hn.2,k.lt,b⟩;have CB:Hid (∀wx,Below w.heap.size w wx→Calls Tryz.prog 78 #[.slice p2 m c2] wx fun e w'=>∃z,e= .returned (.slice (some ⟨z,0,none⟩) m m)∧RS 2 (some ⟨z,0,none⟩) 30 m (((cdL (toL g) m).take 30).map encP) w'∧z<w'.heap.size∧Below wx.heap.size wx w'):=Qh fun wx hb=>(Qgu p2 m c2 g wx (h2.below hb) hm.2 e2 hg).mono fun e w' ⟨z,he,k,b,_⟩=>⟨z,he,Q0a k hm.1 hm.2,k.lt,b⟩;have hni:¬(286:Int)>(n:Int):=by omega
 have hmi:¬(30:Int)>(m:Int):=by omega
 have hni2:(286:Int)≤(n:Int):=by omega
 have hmi2:(30:Int)≤(m:Int):=by omega
 clear h1 h2 hn hm e1 e2 hf hg;go_enter Tryz.func47,Tryz.ntmps47;go_wp2_with fail;refine Qbc (by kernel_rfl) ?_
 change wpAnyH _ _ _ _ _ _ _ _ w.drew;have HB0:Hid (Below w.heap.size w w.drew):=Qh Qb.drew;generalize w.drew=wd at*;refine tH (i:=0) (v:= .slice p1 n c1) rfl rfl ?_;simp only [pu];refine tH (i:=3) (v:= .slice p2 m c2) rfl rfl ?_;simp only [pu];refine Qau (i:=1) (f:=78) (by kernel_rfl) rfl rfl (by go_simp;skip) ((CA.out _ HB0.out).mono ?_)
 rintro e wa ⟨z0,rfl,q0,zl0,b0⟩;refine⟨_,rfl,?_⟩;simp only [pu];have hBa:=HB0.out.trans (b0.mono HB0.out.size);refine tH (i:=2) (v:= .slice (some ⟨z0,0,none⟩) 286 n) rfl rfl ?_;simp only [pu];refine Qau (i:=4) (f:=78) (by kernel_rfl) rfl rfl (by go_simp;skip) ((CB.out _ hBa).mono ?_)
 rintro e wb ⟨z1,rfl,hq1,hzz1,b1⟩;refine⟨_,rfl,?_⟩;simp only [pu];have hq0:=q0.below b1;have hzz0:z0<wb.heap.size:=Nat.lt_of_lt_of_le zl0 b1.size;have hBB:=Qh (hBa.trans (b1.mono hBa.size));clear q0 zl0 b0 b1 hBa;refine tH (i:=5) (v:= .slice (some ⟨z1,0,none⟩) 30 m) rfl rfl ?_;simp only [pu];have HQ:=Qh (⟨hq0,hq1,hzz0,hzz1⟩:RS 2 (some ⟨z0,0,none⟩) 286 n (((cdL (toL f) n).take 286).map encP) wb∧RS 2 (some ⟨z1,0,none⟩) 30 m (((cdL (toL g) m).take 30).map encP) wb∧z0<wb.heap.size∧z1<wb.heap.size);clear hq0 hq1 hzz0 hzz1;refine Qd6 (i:=6) (v:= .slice (some ⟨wb.heap.size,0,none⟩) 2 2) (R:=fun wx=>wx=wb.alloc (.cells #[.slice (some ⟨z0,0,none⟩) 286 n,.slice (some ⟨z1,0,none⟩) 30 m] 53)) (by kernel_rfl) rfl rfl (by go_simp;exact⟨rfl,rfl⟩) ?_
 rintro _ rfl;simp only [pu];refine Qau (i:=7) (f:=77) (by kernel_rfl) rfl rfl (by go_simp;skip) ((Qpy wb.heap.size (fun i=>if i=0 then z0 else z1) (fun i=>if i=0 then 286 else 30) (fun i=>if i=0 then n else m) (fun i=>if i=0 then((cdL (toL f) n).take 286).map encP else((cdL (toL g) m).take 30).map encP) _ (Blk.new _ _ _) (fun i hi=>by
  have hal:=(Below.refl wb.heap.size wb).alloc Ql (.cells #[.slice (some ⟨z0,0,none⟩) 286 n,.slice (some ⟨z1,0,none⟩) 30 m] 53);rcases(show i=0∨i=1 by omega)with rfl|rfl
  ·exact⟨HQ.out.1.below hal,Nat.lt_of_lt_of_le HQ.out.2.2.1 hal.size⟩
  ·exact⟨HQ.out.2.1.below hal,Nat.lt_of_lt_of_le HQ.out.2.2.2 hal.size⟩) (fun i=>by show(if i=0 then 286 else 30)≤400;split<;>decide) (by decide) (by decide)).mono ?_)
 rintro e wc ⟨v,rfl,hL⟩;refine⟨_,rfl,?_⟩;simp only [pu];have HL:=Qh (hL.fin (hBB.out.alloc hBB.out.size _) (hBB.out.alloc hBB.out.size (.cells #[.slice (some ⟨z0,0,none⟩) 286 n,.slice (some ⟨z1,0,none⟩) 30 m] 53)).size);clear hL;refine tH (i:=8) (v:=v) rfl rfl ?_;simp only [pu];refine wpAnyH_done (by kernel_rfl) ?_ _
 go_wp2_with fail;go_ret;exact⟨v,rfl,by rw [txL,List.map_append];exact HL.out⟩
theorem appN {B:Nat} {w0 w:World} {l:List (List Value)} {v:Value} (h:LS 106 2 B w0 l v w) (T ty:TypeId) (hT:Tryz.prog.underlying T=Tryz.prog.underlying 52) (ad:Addr) (m c:Nat) (xs:List (List Value)) (hm:xs.length=m) (hz:Each 2 xs) (hc:∀j u,xs.flatten[j]? =some u→w.cell? (ad.add j)=some u) (hm0:0<m) (hn:l.length+m≤1000000000000):
  ∃v' w',(Builtin.append_ #[T,T] ty #[v,.slice (some ad) m c]).run Tryz.prog w= .ok v' w'∧LS 106 2 B w0 (l++xs) v' w'∧Gr v w v' w':=by
 obtain⟨i0,hi,hz0,hz1,hz2⟩:=info_parts Qus;obtain⟨q,cap,w2,hap,hown,hg,hat,hlt⟩:=run_append_lies (P:=Tryz.prog) w T ty B 106 i0 (.agg #[.int .i64 0,.int .i64 0]) 2 16 (hT.trans Tryz.underlying52) hi hz0 hz1 hz2 rfl (by decide) v l.length _ h.own ad m c xs.flatten (by rw [hz.len,hm]) hc hz.one hm0 (by unfold maxLen;omega) (by omega) h.lo _ rfl
 have hG:Gr v w (.slice (some ⟨q,0,none⟩) (l.length+m) cap) w2:=⟨hg.os,hg.tape,hg.output,hg.size,fun i hi hv=>hg.block i hi (fun e=>hv e.symm),fun i e=>by
  have e:q=i:=by injection e
  rcases hat with h1|h1
  ·exact .inl (by rw [h1,e])
  ·right;omega⟩
 refine⟨_,w2,hap,⟨?_,h.each.app hz,Qdz h.b hG (fun i e=>(h.ownB i e).1) h.lo,Nat.le_trans h.lo hg.size⟩,hG⟩;rw [List.length_append,List.flatten_append,hm];exact hown
def Qaw (c:List (Nat×Nat)):List (Int×Nat×Nat)→List (Nat×Nat)
 |[]=>[]
 |x::r=>c.getD x.1.toNat (0,0)::x.2::Qaw c r
theorem Qea (c:List (Nat×Nat)) (a b:List (Int×Nat×Nat)):Qaw c (a++b)=Qaw c a++Qaw c b:=by
 induction a with
 |nil=>rfl
 |cons x a ih=>show _::_::Qaw c (a++b)=_;rw [ih];rfl
theorem Qcs (c:List (Nat×Nat)):∀l:List (Int×Nat×Nat),(Qaw c l).length=2*l.length
 |[]=>rfl
 |x::r=>by show(Qaw c r).length+1+1=2*(r.length+1);rw [Qcs c r];omega
theorem Qjl (n:Nat) (hn:n≤1000000000) (w:World):(Instr.makeSlice 52 (.int .i64 0) (.int .i64 (n:Int))).run Tryz.prog w= .ok (.slice (some ⟨w.heap.size,0,none⟩) 0 n) (w.alloc (.cells (rI (n*2) fun _=>0) 106)):=by
 obtain⟨i0,hi,hz0,hz1,hz2⟩:=info_parts Qus;have h:=run_make (P:=Tryz.prog) w 52 106 i0 (.agg #[.int .i64 0,.int .i64 0]) Tryz.underlying52 hi hz0 .i64 .i64 0 n (by omega) (by omega) (by rw [hz2];omega) (by omega)
 rw [hz1,Int.toNat_natCast]at h;have e:madeCells (Value.cells (.agg #[.int .i64 0,.int .i64 0])) (n*2)=rI (n*2) fun _=>0:=by
  apply Array.ext
  ·rw [size_madeCells,Qbb]
  ·intro i h1 h2;have h:i<n*2:=by rw [size_madeCells]at h1;exact h1
   have e:=Qeu (fun i=>Value.int .i64 ((fun _=>(0:Int)) i)) h;rw [Array.getElem?_eq_getElem h2]at e;rw [Option.some.inj e];simp only [madeCells];rcases(show i%2=0∨i%2=1 by omega)with e2|e2<;>simp [Value.cells,e2]
 rw [e]at h;exact h
theorem LS.room {w0 w:World} {B:Nat} (h:Below B w0 w) (hB:B≤w.heap.size) (n:Nat) (hn:n≤1000000000):LS 106 2 B w0 [] (.slice (some ⟨w.heap.size,0,none⟩) 0 n) (w.alloc (.cells (rI (n*2) fun _=>0) 106)):=
 ⟨⟨rfl,.inr ⟨w.heap.size,n,rI (n*2) fun _=>0,rfl,hB,Blk.new w _ _,Nat.zero_le _,by unfold maxLen;omega,by rw [Qbb],rfl⟩⟩,fun _ h=>(by cases h),h.alloc hB _,Nat.le_trans hB ((Below.refl _ w).alloc Ql _).size⟩
theorem Qgv (pc:Option Addr) (nc cc:Nat) (c:List (Nat×Nat)) (p:Option Addr) (n cap:Nat) (ws:List (Int×Nat×Nat)) (w:World) (hc:RS 2 pc nc cc (c.map encP) w) (hw:RS 3 p n cap (ws.map encR) w) (hin:∀x∈ws,0≤x.1∧x.1<(nc:Int)) (hn:n≤1000000):
  Calls Tryz.prog 50 #[.slice pc nc cc,.slice p n cap] w fun e w'=>∃v,e= .returned v∧LS 106 2 w.heap.size w ((Qaw c ws).map encP) v w':=by
 have hlen:ws.length=n:=by have:=hw.len;rwa [List.length_map]at this
 have hcl:c.length=nc:=by have:=hc.len;rwa [List.length_map]at this
 have HRC:Hid (∀wx,Below w.heap.size w wx→RS 2 pc nc cc (c.map encP) wx):=Qh fun wx hb=>hc.below hb;have HRW:Hid (∀wx,Below w.heap.size w wx→RS 3 p n cap (ws.map encR) wx):=Qh fun wx hb=>hw.below hb;have HPC:Hid (∀a,pc=some a→a.block<w.heap.size):=Qh hc.lt;have HIN:=Qh hin;have HLN:=Qh (⟨hlen,hcl⟩:ws.length=n∧c.length=nc);obtain⟨M,hM⟩:∃M,M=2*n:=⟨_,rfl⟩;have hmk:=fun w=>Qjl M (by omega) w
 have hmul:IntKind.i64.wrap (2*(n:Int))=(M:Int):=by rw [IntWalk.i64_in _ (by omega),hM];rfl
 have H0:=Qh (LS.room (Below.refl w.heap.size w) Ql M (by omega))
 have HNN:=Qh hn;clear hc hw hin hlen hcl hn hM;go_enter Tryz.func50,Tryz.ntmps50;go_wp2_with fail;go_loopw [5,14] (fun x u wr=>∃(k:Nat) (x1:Value),x1=x∧u= .int .i64 (k:Int)∧k≤n∧Hid (LS 106 2 w.heap.size w ((Qaw c (ws.take k)).map encP) x1 wr)) (fun _ u _=>n-(intOf u).toNat)
 case atStart=>exact⟨0,_,rfl,rfl,Nat.zero_le _,H0⟩
 case round=>
  obtain⟨k,x1,rfl,rfl,hk,HR⟩:=hrel;clear H0 hmk hmul;by_cases hlt:k<n
  ·have hlti:(k:Int)<(n:Int):=by omega
   obtain⟨a,rfl⟩:=(HRW.out w Qb).some_ (by omega)
   have hkl:k<ws.length:=by rw [HLN.out.1];exact hlt
   obtain⟨⟨s,y,b⟩,hx⟩:∃x,x=ws[k]'hkl:=⟨_,rfl⟩;have hget:(ws.map encR)[k]? =some [.int .i64 s,.int .i64 (y:Int),.int .i64 (b:Int)]:=by
    rw [List.getElem?_map,List.getElem?_eq_getElem hkl,←hx];rfl
   have hs:=HIN.out (s,y,b) (by rw [hx];exact List.getElem_mem hkl)
   obtain⟨S,rfl⟩:=Int.eq_ofNat_of_zero_le hs.1;have hSn:S<nc:=by have:=hs.2;simp only at this;omega
   obtain⟨pa,rfl⟩:=(HRC.out w Qb).some_ (by omega)
   have hSc:S<c.length:=by rw [HLN.out.2];exact hSn
   obtain⟨⟨X,Y⟩,hX⟩:∃x,x=c[S]'hSc:=⟨_,rfl⟩;have hgetc:(c.map encP)[S]? =some [.int .i64 (X:Int),.int .i64 (Y:Int)]:=by
    rw [List.getElem?_map,List.getElem?_eq_getElem hSc,←hX];rfl
   have HNX:Hid ((Qaw c (ws.take (k+1))).map encP=(Qaw c (ws.take k)).map encP++[encP (X,Y),encP (y,b)]):=Qh (by
    rw [List.take_succ_eq_append_getElem hkl,←hx,Qea,List.map_append];show _=_
    congr 1
    show [encP (c.getD (Int.toNat (S:Int)) (0,0)),encP (y,b)]=_
    rw [Int.toNat_natCast,List.getD_eq_getElem?_getD,List.getElem?_eq_getElem hSc,←hX];rfl)
   obtain⟨c0,c1,c2⟩:=(HRW.out wr HR.out.b).at3 hget;have hkw:IntKind.i64.wrap ((k:Int)+1)=((k+1:Nat):Int):=by have:=HNN.out;rw [IntWalk.i64_in _ (by omega)];rfl
   have HZ:=Qh (Blk.new wr 138 #[.int .i64 0,.int .i64 0,.int .i64 0]);have HZ2:=HZ.out.row_ #[.int .i64 (S:Int),.int .i64 (y:Int),.int .i64 (b:Int)];have hb2:=Qai ((Below.refl _ wr).alloc Ql (.cells #[.int .i64 0,.int .i64 0,.int .i64 0] 138)) Ql #[.int .i64 (S:Int),.int .i64 (y:Int),.int .i64 (b:Int)];obtain⟨W2,hW2⟩:∃W2,W2=(wr.alloc (.cells #[.int .i64 0,.int .i64 0,.int .i64 0] 138)).setRow wr.heap.size #[.int .i64 (S:Int),.int .i64 (y:Int),.int .i64 (b:Int)]:=⟨_,rfl⟩;rw [←hW2]at HZ2 hb2;have HWE:=Qh hW2;obtain⟨q5,hq5⟩:∃q5,q5=wr.heap.size:=⟨_,rfl⟩;have HQ5:=Qh hq5;have hL2:=HR.out.below hb2;obtain⟨wa,hwa⟩:∃wa,wa=W2.drew:=⟨_,rfl⟩;have hLa:LS 106 2 w.heap.size w ((Qaw c (ws.take k)).map encP) x1 wa:=by rw [hwa];exact hL2.drew
   have hZa:Blk wa q5 138 #[.int .i64 (S:Int),.int .i64 (y:Int),.int .i64 (b:Int)]:=by rw [hwa,hq5];exact HZ2.drew
   have hCa:=HRC.out wa hLa.b;obtain⟨a0,a1⟩:=hCa.at2 hgetc;have z0:wa.cell? ⟨q5,0,none⟩=some (.int .i64 (S:Int)):=hZa.cell 0;have z1:wa.cell? ⟨q5,1,none⟩=some (.int .i64 (y:Int)):=hZa.cell 1;have z2:wa.cell? ⟨q5,2,none⟩=some (.int .i64 (b:Int)):=hZa.cell 2;obtain⟨NB,hNB⟩:∃NB:Obj,NB= .cells #[.int .i64 (X:Int),.int .i64 (Y:Int),.int .i64 (y:Int),.int .i64 (b:Int)] 106:=⟨_,rfl⟩;have HNB:=Qh hNB;have hLb:=hLa.below ((Below.refl _ wa).alloc Ql NB);obtain⟨v',w2,hap,hl2,hgr⟩:=appN hLb 52 52 rfl ⟨wa.heap.size,0,none⟩ 2 2 [encP (X,Y),encP (y,b)] rfl (fun x hx=>by
    rcases List.mem_cons.1 hx with rfl|hx
    ·exact Qnx _ _ _ (.head _)
    ·rw [List.mem_singleton.1 hx];exact Qnx _ _ _ (.head _)) (fun j u hu=>by rw [hNB];exact Qci wa #[.int .i64 (X:Int),.int .i64 (Y:Int),.int .i64 (y:Int),.int .i64 (b:Int)] 106 j u (by simpa [encP,encN]using hu)) (by decide) (by rw [List.length_map,Qcs,List.length_take];have:=HNN.out;omega)
   obtain⟨T,hT⟩:∃T:Bool→Bool→World→Prop,T=fun a b wx=>(a=false→b=false∧wx=wa)∧(a=true→b=false→wx=wa.alloc NB)∧(b=true→wx=w2):=⟨_,rfl⟩;have HT0:Hid (T false false wa):=Qh (by rw [hT];exact⟨fun _=>⟨rfl,rfl⟩,fun h=>(by cases h),fun h=>(by cases h)⟩)
   have HA:Hid (∀f2 wx,T false f2 wx→wx.cell? ⟨q5,0,none⟩=some (.int .i64 (S:Int))∧wx.cell? (pa.add (S*2))=some (.int .i64 (X:Int))∧wx.cell? ⟨(pa.add (S*2)).block,(pa.add (S*2)).off+1,none⟩=some (.int .i64 (Y:Int))∧wx.cell? ⟨q5,1,none⟩=some (.int .i64 (y:Int))∧wx.cell? ⟨q5,2,none⟩=some (.int .i64 (b:Int))):=Qh fun f2 wx h=>by
    rw [hT]at h;rw [(h.1 rfl).2];exact⟨z0,a0,a1,z1,z2⟩
   have HF:Hid (∀f2 wx,T false f2 wx→wx=wa∧T true f2 (wa.alloc NB)):=Qh fun f2 wx h=>by
    rw [hT]at h⊢;obtain⟨rfl,e⟩:=h.1 rfl;exact⟨e,fun h=>(by cases h),fun _ _=>rfl,fun h=>(by cases h)⟩
   have HG:Hid (∀wx,T true false wx→wx=wa.alloc NB∧T true true w2):=Qh fun wx h=>by
    rw [hT]at h⊢;exact⟨h.2.1 rfl rfl,fun h=>(by cases h),fun _ h=>(by cases h),fun _=>rfl⟩
   have HE:Hid (∀wx,T true true wx→LS 106 2 w.heap.size w ((Qaw c (ws.take (k+1))).map encP) v' wx):=Qh fun wx h=>by
    rw [hT]at h;rw [h.2.2 rfl,HNX.out];exact hl2
   have HAP:=Qh hap;have HSC:Hid ((S:Int)<(nc:Int)∧(0:Int)≤(S:Int)∧(S:Int).toNat=S):=Qh ⟨by omega,by omega,rfl⟩
   have HKN:=Qh hlt;have HWA:=Qh hwa;clear hx hget hkl hlt hW2 hq5 hs hSn hSc hX hgetc HZ2 hb2 hL2 hLa hZa hCa a0 a1 z0 z1 z2 hNB hLb hap hl2 hgr hT hwa HR;go_wp2_with (refine wpList_store_row rfl 138 _ _ rfl wr.heap.size #[.int .i64 (S:Int),.int .i64 (y:Int),.int .i64 (b:Int)] rfl rfl 138 _ HZ.out Qc8 rfl (Qc7 _ _ _) ?_;rw [←HWE.out,←HQ5.out]);refine Qad (Two 8 9 T) (by kernel_rfl) ?_ ?_
   ·rw [←HWA.out];exact HT0.out
   refine tV (i:=0) (v:=x1) rfl rfl ?_;simp only [pu];refine tV (i:=1) (v:= .slice (some pa) nc cc) rfl rfl ?_;simp only [pu];refine tA (i:=2) rfl rfl ?_;simp only [pu];refine Qaa (i:=3) (v:= .int .i64 (S:Int)) rfl (Qah (n:=11) rfl (fun f2 wx hT=> ?_)) ?_
   ·have cq:=HA.out f2 wx hT;have cc:=cq.1;refine Qab (w:=wx) ?_ hT;go_simp;skip
   simp only [pu];refine tL (i:=4) (v:= .pointer (some (pa.add (S*2)))) rfl rfl (fun f1 f2 wx hT=> ?_) ?_
   ·have c1:=HSC.out;go_simp;skip
   simp only [pu];refine Qaa (i:=5) (v:= .agg #[.int .i64 (X:Int),.int .i64 (Y:Int)]) rfl (Qah (n:=11) rfl (fun f2 wx hT=> ?_)) ?_
   ·obtain⟨_,cc,c2,_⟩:=HA.out f2 wx hT;refine Qab (w:=wx) ?_ hT;go_simp;skip
   simp only [pu];refine tA (i:=6) rfl rfl ?_;simp only [pu];refine Qaa (i:=7) (v:= .agg #[.int .i64 (y:Int),.int .i64 (b:Int)]) rfl (Qah (n:=11) rfl (fun f2 wx hT=> ?_)) ?_
   ·obtain⟨_,_,_,cc,c2⟩:=HA.out f2 wx hT;refine Qab (w:=wx) ?_ hT;go_simp;skip
   simp only [pu];refine Qaa (i:=8) (v:= .slice (some ⟨wa.heap.size,0,none⟩) 2 2) rfl (Qa5 (by decide) rfl (fun f2 wx hT=> ?_)) ?_
   ·obtain⟨e1,K⟩:=HF.out f2 wx hT;rw [e1];refine Qab (w:=wa.alloc NB) ?_ K;rw [HNB.out];go_simp;skip
   simp only [pu];refine Qaa (i:=9) (v:=v') rfl (Qqo (by decide) rfl (by kernel_rfl) rfl (fun wx hT=> ?_)) ?_
   ·obtain⟨e1,K⟩:=HG.out wx hT;subst e1;exact Qek (.tmp 18) (.tmp 26) 52 rfl rfl rfl HAP.out K
   simp only [pu];refine tA (i:=10) rfl rfl ?_;simp only [pu];refine Qag rfl ?_ _;intro w9 hT9;have H9:=Qh (HE.out w9 hT9);clear hT9;go_wp2_with fail;exact⟨⟨k+1,_,rfl,by go_num,by have:=HKN.out;omega,H9⟩,by simp only [intOf];have:=HKN.out;omega⟩
  ·obtain rfl:k=n:=by omega
   have hlti:¬(k:Int)<(k:Int):=by omega
   have HE:Hid (ws.take k=ws):=Qh (List.take_of_length_le (by rw [HLN.out.1];exact Ql))
   go_wp2_with fail;go_ret;have h:=HR.out;rw [HE.out]at h;exact⟨_,rfl,h⟩
def fixL:List (Nat×Nat):=txL (toL (numF fixA)) 288 (toL (numF fixB)) 32
theorem Qmd (w:World):
  Calls Tryz.prog 26 #[] w fun e w'=>∃v,e= .returned v∧LS 106 2 w.heap.size w (fixL.map encP) v w':=by
 have C:=Qt9 w;go_enter Tryz.func26,Tryz.ntmps26;go_wp2_with fail;refine C.mono ?_;rintro e w1 ⟨p,cap,z,rfl,b1,i1,i2,_,_⟩;have T:=Qiw p 288 cap (numF fixA) (some ⟨z,0,none⟩) 32 32 (numF fixB) w1 i1 i2 (by decide) (by decide) (by decide+kernel) (by decide+kernel) (by decide+kernel) (by decide+kernel)
 have HB:=Qh b1;clear C i1 i2 b1;go_wp2_with fail;refine T.mono ?_;rintro e w2 ⟨v,rfl,hL⟩;have HL:=Qh (hL.fin HB.out HB.out.size);clear T hL;go_wp2_with fail;go_ret;exact⟨v,rfl,HL.out⟩
end Go.Proofs.YtbmcjdoiohcaaaaGreat
