/- MZ -/
import Derived.Test.YtbmcjdoiohcaaaaGreatMY
set_option maxRecDepth 100000
set_option maxHeartbeats 8000000
namespace Go.Proofs.YtbmcjdoiohcaaaaGreat
open Go.RowKit
theorem Qec (a b:Option Addr):(#[Value.pointer a,Value.pointer b]:Array Value).all (·.oneCell')=true:=by kernel_rfl
theorem Qa8.setRow {c:Value} {f:Nat→Int} {n:Nat} {w:World} (h:Qa8 c f n w) {q:Nat} {t:TypeId} {cs:Array Value} (hq:Blk w q t cs) (ht:t≠236) (cs':Array Value):Qa8 c f n (w.setRow q cs'):=by
 obtain⟨h1,h2,h3,w1,h4,⟨D,⟨es,clock,e1,e2⟩,h5⟩,h6⟩:=h;refine⟨h1,h2,h3,w1,h4,⟨D,⟨es,clock,(setRow_other w q _ cs' ?_).trans e1,e2⟩,h5⟩,(setRow_other w q _ cs' ?_).trans h6⟩
 ·intro e;unfold Blk at hq;rw [e,hq]at e1;cases e1
 ·intro e;unfold Blk at hq h6;rw [e,hq]at h6
  injection h6 with h6
  injection h6 with _ h6
  exact ht h6
theorem Qq6 (p1:Option Addr) (n1 cap1:Nat) (f1:Nat→Int) (p2:Option Addr) (n2 cap2:Nat) (f2:Nat→Int) (w:World) (h1:IS p1 n1 cap1 f1 w) (h2:IS p2 n2 cap2 f2 w) (hn1:n1≤17592186044416) (hn2:n2≤17592186044416):
  Calls Tryz.prog 129 #[.slice p1 n1 cap1,.slice p2 n2 cap2] w fun e w'=>∃v1 v2,e= .returned (.tuple #[.agg #[.pointer v1,.pointer v2],.bool (decide (newE f1 n1=0∧newE f2 n2=0))])∧Below w.heap.size w w'∧(newE f1 n1=0→Qa8 (.pointer v1) f1 n1 w')∧(newE f2 n2=0→Qa8 (.pointer v2) f2 n2 w'):=by
 have C1:Hid (∀wx,Below w.heap.size w wx→Calls Tryz.prog 151 #[.slice p1 n1 cap1] wx fun e w'=>∃v,e= .returned (.tuple #[.pointer v,.int .i64 (newE f1 n1:Int)])∧(newE f1 n1=0→Qa8 (.pointer v) f1 n1 w')∧Below wx.heap.size wx w'):=Qh fun wx hb=>by
  by_cases he:newE f1 n1=0
  ·refine(Qmm p1 n1 cap1 f1 wx (h1.below hb) hn1 he).mono ?_;rintro e w' ⟨v,h3,h4,h5⟩;obtain⟨a,rfl⟩:=h4.some;exact⟨some a,by rw [h3,he];rfl,fun _=>h4,h5⟩
  ·refine(Qfx p1 n1 cap1 f1 wx (h1.below hb) hn1 he).mono ?_;rintro e w' ⟨h3,h5⟩;exact⟨_,h3,fun h=>absurd h he,h5⟩
 have C2:Hid (∀wx,Below w.heap.size w wx→Calls Tryz.prog 151 #[.slice p2 n2 cap2] wx fun e w'=>∃v,e= .returned (.tuple #[.pointer v,.int .i64 (newE f2 n2:Int)])∧(newE f2 n2=0→Qa8 (.pointer v) f2 n2 w')∧Below wx.heap.size wx w'):=Qh fun wx hb=>by
  by_cases he:newE f2 n2=0
  ·refine(Qmm p2 n2 cap2 f2 wx (h2.below hb) hn2 he).mono ?_;rintro e w' ⟨v,h3,h4,h5⟩;obtain⟨a,rfl⟩:=h4.some;exact⟨some a,by rw [h3,he];rfl,fun _=>h4,h5⟩
  ·refine(Qfx p2 n2 cap2 f2 wx (h2.below hb) hn2 he).mono ?_;rintro e w' ⟨h3,h5⟩;exact⟨_,h3,fun h=>absurd h he,h5⟩
 clear h1 h2;generalize newE f1 n1=E1 at*;generalize newE f2 n2=E2 at*;go_enter Tryz.func129,Tryz.ntmps129;go_wp2_with fail;have b0:Below w.heap.size w (w.alloc (.cells #[.pointer none,.pointer none] 82)):=Qb.alloc Ql _;have hB:=Blk.new w 82 #[.pointer none,.pointer none];refine(C1.out _ b0).mono ?_;rintro e w1 ⟨v1,rfl,k1,b1⟩;replace hB:=hB.below b1 hB.lt;replace b1:=b0.trans (b1.mono b0.size);clear b0;go_wp2_with fail;refine(C2.out _ b1).mono ?_;rintro e w2 ⟨v2,rfl,k2,b2⟩;replace hB:=hB.below b2 hB.lt;have K1:=Qh fun h=>(k1 h).below b2;have K2:=Qh k2;replace b1:=b1.trans (b2.mono b1.size);clear b2 k1 k2;have HB:=Qh hB;have H1:=Qh b1;have hsz:(Tryz.prog.info? 82).map (·.size)=some 2:=by kernel_rfl
 have HSZ:=Qh hsz;obtain⟨q,hq⟩:∃q,q=w.heap.size:=⟨_,rfl⟩;rw [←hq]at HB⊢;have HQ:=Qh hq;clear hB b1 hsz hq C1 C2;by_cases he1:E1=0
 ·have i1:((E1:Int)==0)=true:=by simp;omega
  by_cases he2:E2=0
  ·have i2:((E2:Int)==0)=true:=by simp;omega
   have HE:Hid (decide (E1=0∧E2=0)=true):=Qh (decide_eq_true ⟨he1,he2⟩);clear he1 he2;go_wp2_with (refine wpList_store_row rfl 82 _ _ rfl q #[.pointer v1,.pointer v2] rfl rfl 82 _ HB.out HSZ.out rfl (Qec _ _) ?_);refine bodyPost_ret (Qak rfl _ _ q 82 #[.pointer v1,.pointer v2] (0,0) _ _ rfl (HB.out.row_ _) Tryz.underlying82 rfl HSZ.out rfl) rfl ⟨_,_,?_,Qai H1.out (by have:=HQ.out;omega) _,fun h=>(K1.out h).setRow HB.out (by decide) _,fun h=>(K2.out h).setRow HB.out (by decide) _⟩
   rw [HE.out];rfl
  ·have i2:((E2:Int)==0)=false:=by simp;omega
   have HE:Hid (decide (E1=0∧E2=0)=false):=Qh (decide_eq_false fun h=>he2 h.2);clear he1 he2;go_wp2_with (refine wpList_store_row rfl 82 _ _ rfl q #[.pointer v1,.pointer v2] rfl rfl 82 _ HB.out HSZ.out rfl (Qec _ _) ?_);refine bodyPost_ret (Qak rfl _ _ q 82 #[.pointer v1,.pointer v2] (0,0) _ _ rfl (HB.out.row_ _) Tryz.underlying82 rfl HSZ.out rfl) rfl ⟨_,_,?_,Qai H1.out (by have:=HQ.out;omega) _,fun h=>(K1.out h).setRow HB.out (by decide) _,fun h=>(K2.out h).setRow HB.out (by decide) _⟩
   rw [HE.out];rfl
 ·have i1:((E1:Int)==0)=false:=by simp;omega
  have HE:Hid (decide (E1=0∧E2=0)=false):=Qh (decide_eq_false fun h=>he1 h.1);clear he1;go_wp2_with (refine wpList_store_row rfl 82 _ _ rfl q #[.pointer v1,.pointer v2] rfl rfl 82 _ HB.out HSZ.out rfl (Qec _ _) ?_);refine bodyPost_ret (Qak rfl _ _ q 82 #[.pointer v1,.pointer v2] (0,0) _ _ rfl (HB.out.row_ _) Tryz.underlying82 rfl HSZ.out rfl) rfl ⟨_,_,?_,Qai H1.out (by have:=HQ.out;omega) _,fun h=>(K1.out h).setRow HB.out (by decide) _,fun h=>(K2.out h).setRow HB.out (by decide) _⟩
  rw [HE.out];rfl
def TB (_:World):Prop:=True
theorem TB.below {w w':World} (_:TB w) (_:Below w.heap.size w w'):TB w':=trivial
theorem TB.mv {g:Nat} {s:ByteArray} {M p:Nat} {o:List Nat} {v k1 k2 v':Value} {w w':World} (_:TB w) (_:UW g s M p o v k1 k2 w) (_:Mv g v w v' w'):TB w':=trivial
theorem Mv.far {g:Nat} {v v':Value} {w w':World} (h:Mv g v w v' w') {z:Nat} (hz:w.heap.size≤z) (j:Nat) (u:Value):Mv g v w v' (w'.setCell ⟨z,j,none⟩ u):=
 ⟨h.os,h.tape,h.output,by simp [World.setCell];exact h.size,fun i hi hg hv=>(Below.heap_setCell w' ⟨z,j,none⟩ u i (show i≠z by omega)).trans (h.block i hi hg hv),h.own⟩
theorem Qvm (i:Nat):ordL.getD i 0<19:=by
 by_cases h:i<19
 ·have:∀j:Fin 19,ordL.getD j.val 0<19:=by decide+kernel
  exact this ⟨i,h⟩
 ·simp [List.getD,List.getElem?_eq_none (show ordL.length≤i by show 19≤i;omega)]
theorem Qma {B:Nat→Nat} {T:Nat}:∀(n i:Nat) (f:Nat→Nat) (x:Fl),x.e≠0→(fewS B T n i f x).2=x
 |0,_,_,_,_=>rfl
 |n+1,i,f,x,h=>by
  show(fewS B T n (i+1) _ (Qal B T 3 x).2).2=x
  rw [Qew h];exact Qma n (i+1) _ x h
theorem Qxu (B:Nat→Nat) (T n i p:Nat) (f:Nat→Nat) (o:List Nat) (r:Nat×Bool×Nat) (hr:r=numS B T p 0 3):
  (r.2.1=false→(fewS B T (n+1) i f ⟨p,0,o⟩).2.e=2)∧(r.2.1=true→fewS B T (n+1) i f ⟨p,0,o⟩=fewS B T n (i+1) (fun j=>if j=ordL.getD i 0 then r.1 else f j) ⟨r.2.2,0,o⟩):=by
 have k:=Qdi B T p 3 o;rw [←hr]at k;clear hr;obtain⟨a,b,q⟩:=r;rcases k with⟨e,k⟩|⟨e,e',k⟩
 ·have e:b=true:=e;subst e;refine⟨fun h=>(by cases h),fun _=> ?_⟩
  show fewS B T n (i+1) (fun j=>if j=ordL.getD i 0 then(Qal B T 3 ⟨p,0,o⟩).1 else f j) (Qal B T 3 ⟨p,0,o⟩).2=_
  rw [k]
 ·have e:b=false:=e;subst e;refine⟨fun _=> ?_,fun h=>(by cases h)⟩
  show(fewS B T n (i+1) (fun j=>if j=ordL.getD i 0 then(Qal B T 3 ⟨p,0,o⟩).1 else f j) (Qal B T 3 ⟨p,0,o⟩).2).2.e=2
  rw [k,Qma _ _ _ _ (show(2:Nat)≠0 by decide)]
def cflS (B:Nat→Nat) (T p:Nat) (o:List Nat):Bool×List Nat×Fl:=
 let r:=numS B T p 4 4
 let G:=fewS B T r.1 0 (fun _=>0) ⟨r.2.2,0,o⟩
 (r.2.1&&decide (G.2.e=0),(List.range 19).map G.1,G.2)
theorem Qxo (g:Nat) (s:ByteArray) (M p:Nat) (o:List Nat) (v k1 k2:Value) (w:World) (h:UW g s M p o v k1 k2 w) (_:TB w) (hs:s.size≤281474976710656) (hp:p≤8*s.size):
  Calls Tryz.prog 132 #[.pointer (some ⟨g,0,none⟩)] w fun e w'=>∃c ok,e= .returned (.tuple #[c,.bool ok])∧Mv g v w v w'∧(ok=true↔(cflS (bitH s) (8*s.size) p o).1=true∧newE (numF (cflS (bitH s) (8*s.size) p o).2.1) 19=0)∧
   (ok=true→UW g s M (cflS (bitH s) (8*s.size) p o).2.2.p o v k1 k2 w'∧(cflS (bitH s) (8*s.size) p o).2.2.p≤8*s.size∧Qa8 c (numF (cflS (bitH s) (8*s.size) p o).2.1) 19 w'):=by
 obtain⟨r,hr⟩:∃r,r=numS (bitH s) (8*s.size) p 4 4:=⟨_,rfl⟩;have HS:Hid (cflS (bitH s) (8*s.size) p o=(r.2.1&&decide ((fewS (bitH s) (8*s.size) r.1 0 (fun _=>0) ⟨r.2.2,0,o⟩).2.e=0),(List.range 19).map (fewS (bitH s) (8*s.size) r.1 0 (fun _=>0) ⟨r.2.2,0,o⟩).1,(fewS (bitH s) (8*s.size) r.1 0 (fun _=>0) ⟨r.2.2,0,o⟩).2)):=Qh (by unfold cflS;rw [←hr])
 have C:=Qcl g s M p o v k1 k2 4 4 w h hs hp (by omega) (by omega)
 have hrp:r.2.2≤8*s.size:=by rw [hr];exact Qd8 hp
 have hrl:r.1<4+2^4:=by rw [hr];exact Qd9 s _ _ _ _
 rw [←hr]at C;generalize cflS (bitH s) (8*s.size) p o=S at*;have HU:=Qh h;clear hr h;obtain⟨a,b,q⟩:=r;replace hrl:a≤19:=by have:a<4+2^4:=hrl;omega
 go_enter Tryz.func132,Tryz.ntmps132
 go_wp2_with fail;refine C.mono ?_;rintro e w1 ⟨rfl,h1,m1⟩;clear C;cases b with
 |false=>
  have HE:Hid (S.1=false):=Qh (by rw [HS.out];rfl)
  go_wp2_with fail;go_ret2;exact⟨_,_,rfl,m1,⟨fun h=>(by cases h),fun h=>by rw [HE.out]at h;cases h.1⟩,fun h=>(by cases h)⟩
 |true=>
  have HQ0:Hid (w.heap.size≤w1.heap.size):=Qh m1.size;have HGW:Hid (∀k,v.ownBlock=some k→k<w.heap.size):=Qh fun k e=>(HU.out.ownB k e).2;have HGL:Hid (g<w.heap.size):=Qh HU.out.lt;have H0:=Qh (⟨h1,m1⟩:UW g s M q o v k1 k2 w1∧Mv g v w v w1);have HSZ:=Qh Qib;clear h1 m1 HU;go_wp2_with fail;refine(Qlf w1).mono ?_;rintro e w2 ⟨rfl,b2⟩;have HQ2:Hid (w.heap.size≤w2.heap.size):=Qh (Nat.le_trans HQ0.out b2.size);have HH:=Qh (⟨H0.out.1.below b2,H0.out.2.below b2⟩:UW g s M q o v k1 k2 w2∧Mv g v w v w2);have HZ0:=Qh (⟨(Below.refl _ w2).alloc Ql (.cells (rI 19 fun _=>0) 181),Blk.new w2 _ _⟩:Below w2.heap.size w2 (w2.alloc (.cells (rI 19 fun _=>0) 181))∧Blk (w2.alloc (.cells (rI 19 fun _=>0) 181)) w2.heap.size 181 (rI 19 fun _=>0));have hz:=Qw7;clear H0 HQ0 b2;go_wp2_with (refine wpList_store_row rfl 181 _ _ rfl w2.heap.size ordA rfl rfl 181 _ HZ0.out.2 HSZ.out rfl Qmo ?_);have b3:=Qai HZ0.out.1 Ql ordA;have H3:=Qh (⟨HH.out.1.below b3,HH.out.2.below b3,HZ0.out.2.row_ ordA,by simp [World.setRow]⟩:UW g s M q o v k1 k2 ((w2.alloc (.cells (rI 19 fun _=>0) 181)).setRow w2.heap.size ordA)∧Mv g v w v ((w2.alloc (.cells (rI 19 fun _=>0) 181)).setRow w2.heap.size ordA)∧Blk ((w2.alloc (.cells (rI 19 fun _=>0) 181)).setRow w2.heap.size ordA) w2.heap.size 181 ordA∧((w2.alloc (.cells (rI 19 fun _=>0) 181)).setRow w2.heap.size ordA).heap.size=w2.heap.size+1)
  obtain⟨zo,hzo⟩:∃zo,zo=w2.heap.size:=⟨_,rfl⟩;rw [←hzo]at H3 HQ2⊢;clear hz HZ0 HH b3 hzo;generalize (w2.alloc (.cells (rI 19 fun _=>0) 181)).setRow zo ordA=wb at H3⊢;have hmk:∀w,(Instr.makeSlice 92 (.int .i64 19) (.int .i64 19)).run Tryz.prog w= .ok (.slice (some ⟨w.heap.size,0,none⟩) 19 19) (w.alloc (.cells (rI 19 fun _=>0) 3)):=fun w=>by kernel_rfl
  have bb:=(Below.refl _ wb).alloc Ql (.cells (rI 19 fun _=>0) 3);have H1:=Qh (⟨H3.out.1.below bb,H3.out.2.1.below bb,H3.out.2.2.1.below bb H3.out.2.2.1.lt,Blk.new wb _ _⟩:UW g s M q o v k1 k2 (wb.alloc (.cells (rI 19 fun _=>0) 3))∧Mv g v w v (wb.alloc (.cells (rI 19 fun _=>0) 3))∧Blk (wb.alloc (.cells (rI 19 fun _=>0) 3)) zo 181 ordA∧Blk (wb.alloc (.cells (rI 19 fun _=>0) 3)) wb.heap.size 3 (rI 19 fun _=>0));have HZZ:Hid (zo<wb.heap.size):=Qh (by have:=H3.out.2.2.2;omega)
  clear H3 bb;have hai:(a:Int)≤19:=by omega
  go_wp2_with fail;obtain⟨z,hz⟩:∃z,z=wb.heap.size:=⟨_,rfl⟩;rw [←hz]at H1 HZZ⊢;clear hz hmk;have HQ0:Hid (w.heap.size≤z):=Qh (by have:=HQ2.out;have:=HZZ.out;omega)
  generalize wb.alloc (.cells (rI 19 fun _=>0) 3)=wa at H1⊢;have HS0:Hid (S=(decide ((fewS (bitH s) (8*s.size) (a-0) 0 (fun _=>0) ⟨q,0,o⟩).2.e=0),(List.range 19).map (fewS (bitH s) (8*s.size) (a-0) 0 (fun _=>0) ⟨q,0,o⟩).1,(fewS (bitH s) (8*s.size) (a-0) 0 (fun _=>0) ⟨q,0,o⟩).2)):=HS;have hrp2:q≤8*s.size:=hrp;clear HS hrp;go_loopw [2,3,26] (fun r1 r2 i wr=>∃(k y:Nat) (F:Nat→Nat),k≤a∧r1= .pointer none∧r2= .bool false∧i= .int .i64 (k:Int)∧Hid (S=(decide ((fewS (bitH s) (8*s.size) (a-k) k F ⟨y,0,o⟩).2.e=0),(List.range 19).map (fewS (bitH s) (8*s.size) (a-k) k F ⟨y,0,o⟩).1,(fewS (bitH s) (8*s.size) (a-k) k F ⟨y,0,o⟩).2))∧y≤8*s.size∧Hid (∀j,F j<256)∧Hid (UW g s M y o v k1 k2 wr∧Mv g v w v wr∧Blk wr zo 181 ordA∧Blk wr z 3 (rI 19 fun j=>(F j:Int)))) (fun _ _ i _=>a-(intOf i).toNat)
  case atStart=>exact⟨0,q,fun _=>0,by omega,rfl,rfl,rfl,HS0,hrp2,Qh fun _=>(by omega:(0:Nat)<256),H1⟩
  case round=>
   obtain⟨k,y,F,hk,rfl,rfl,rfl,HK,hy,HF,HR⟩:=hrel;clear H1 HS0 hrp2;by_cases hlt:k<a
   ·have hlti:(k:Int)<(a:Int):=by omega
    have HKL:=Qh hlt;have hki:(k:Int)<19:=by omega
    have hkn:k<19:=by omega
    obtain⟨d,hd⟩:∃d,d=ordL.getD k 0:=⟨_,rfl⟩;have hd19:d<19:=by rw [hd];exact Qvm k
    have co:wr.cell? ⟨zo,k,none⟩=some (.int .i64 ((ordL.getD k 0:Nat):Int)):=HR.out.2.2.1.at_ hkn;rw [←hd]at co;have fo:=HR.out.2.2.1.frozen k;have HDD:=Qh hd;clear hd hkn;obtain⟨t,ht⟩:∃t,a-k=t+1:=⟨a-k-1,by omega⟩
    obtain⟨x,hx⟩:∃x,x=numS (bitH s) (8*s.size) y 0 3:=⟨_,rfl⟩;have D:=Qxu (bitH s) (8*s.size) t k y F o x hx;rw [←ht]at D;have HTT:=Qh ht;have C:=Qcl g s M y o v k1 k2 0 3 wr HR.out.1 hs hy (by omega) (by omega)
    have hx2:x.2.2≤8*s.size:=by rw [hx];exact Qd8 hy
    have hxl:x.1<8:=by rw [hx];exact Qd9 s _ _ _ _
    rw [←hx]at C;obtain⟨n,ok,y2⟩:=x;dsimp only at hx2 hxl D;have HD:=Qh D;have HXL:=Qh hxl;clear hx D ht hlt;go_wp2_with fail;refine C.mono ?_;rintro e w4 ⟨rfl,h4,m4⟩;have hzg:z≠g:=by have:=HQ0.out;have:=HGL.out;omega
    have hzv:v.ownBlock≠some z:=fun e=>by have:=HGW.out z e;have:=HQ0.out;omega
    have hzog:zo≠g:=by have:=HQ2.out;have:=HGL.out;omega
    have hzov:v.ownBlock≠some zo:=fun e=>by have:=HGW.out zo e;have:=HQ2.out;omega
    have H4:=Qh (⟨h4,HR.out.2.1.trans m4,(m4.block zo HR.out.2.2.1.lt hzog hzov).trans HR.out.2.2.1,(m4.block z HR.out.2.2.2.lt hzg hzv).trans HR.out.2.2.2⟩:UW g s M y2 o v k1 k2 w4∧Mv g v w v w4∧Blk w4 zo 181 ordA∧Blk w4 z 3 (rI 19 fun j=>(F j:Int)));clear h4 m4 HR C hzog hzov co fo;cases ok with
    |false=>
     have HE:Hid (S.1=false):=Qh (by rw [HK.out];show decide _=false;rw [HD.out.1 rfl];decide)
     clear HD HK;go_wp2_with fail;go_ret2;exact⟨_,_,rfl,H4.out.2.1,⟨fun h=>(by cases h),fun h=>by rw [HE.out]at h;cases h.1⟩,fun h=>(by cases h)⟩
    |true=>
     have HN:=Qh (HD.out.2 rfl);rw [←HDD.out]at HN;have hb:=H4.out.2.2.2;have cz:=hb.at_ hd19;have fz:=hb.frozen d;have hdi:(d:Int)<19:=by omega
     have HP:=Qh (hb.put hd19 (.int .i64 (n:Int)));have hUs:UW g s M y2 o v k1 k2 (w4.setCell ⟨z,d,none⟩ (.int .i64 (n:Int))):=by
      refine⟨H4.out.1.blk.far (p:=⟨z,d,none⟩) (fun h=>hzg h.symm) _,H4.out.1.own.1,?_⟩;rcases H4.out.1.own.2 with h1|⟨qq,cap,cur,e1,e2,e3,e4⟩
      ·exact .inl h1
      ·refine .inr ⟨qq,cap,cur,e1,e2,?_,e4⟩;exact(Below.heap_setCell w4 ⟨z,d,none⟩ _ qq (fun h=>hzv (by rw [e1];exact congrArg some h))).trans e3
     have H5:=Qh (⟨hUs,H4.out.2.1.far (by have:=HQ0.out;show w.heap.size≤z;omega) d _,(Below.heap_setCell w4 ⟨z,d,none⟩ _ zo (show zo≠z by have:=HZZ.out;omega)).trans H4.out.2.2.1,hb.put hd19 (.int .i64 (n:Int))⟩:UW g s M y2 o v k1 k2 (w4.setCell ⟨z,d,none⟩ (.int .i64 (n:Int)))∧Mv g v w v (w4.setCell ⟨z,d,none⟩ (.int .i64 (n:Int)))∧Blk (w4.setCell ⟨z,d,none⟩ (.int .i64 (n:Int))) zo 181 ordA∧Blk (w4.setCell ⟨z,d,none⟩ (.int .i64 (n:Int))) z 3 (row 19 fun j=>if j=d then .int .i64 (n:Int)else .int .i64 (F j:Int)))
     have HK2:Hid (S=(decide ((fewS (bitH s) (8*s.size) t (k+1) (fun j=>if j=d then n else F j) ⟨y2,0,o⟩).2.e=0),(List.range 19).map (fewS (bitH s) (8*s.size) t (k+1) (fun j=>if j=d then n else F j) ⟨y2,0,o⟩).1,(fewS (bitH s) (8*s.size) t (k+1) (fun j=>if j=d then n else F j) ⟨y2,0,o⟩).2)):=Qh (by rw [HK.out,HN.out])
     clear HD HK H4 hb hUs hzg hzv HP HN;go_wp2_with fail;go_roundw
     case rel=>exact⟨k+1,y2,fun j=>if j=d then n else F j,by have:=HKL.out;omega,rfl,rfl,by go_num,Qh (by rw [←show t=a-(k+1)by have:=HTT.out;omega];exact HK2.out),hx2,Qh (fun j=>by dsimp only;split;have:=HXL.out;omega;exact HF.out j),Qh ⟨H5.out.1,H5.out.2.1,H5.out.2.2.1,H5.out.2.2.2.cast_ (Qa3 fun j _=>by dsimp only;split<;>rfl)⟩⟩
     case measure=>simp only [intOf];omega
   ·obtain rfl:k=a:=by omega
    have hlti:¬(k:Int)<(k:Int):=by omega
    have HE:Hid (S=(true,(List.range 19).map F,⟨y,0,o⟩)):=Qh (by rw [HK.out,Nat.sub_self];rfl)
    have hnF:∀i,i<19→((F i:Nat):Int)=numF ((List.range 19).map F) i:=fun i hi=>by
     unfold numF;simp [List.getD,List.getElem?_range hi]
    have hIS:IS (some ⟨z,0,none⟩) 19 19 (numF ((List.range 19).map F)) wr:=by
     refine IS.row (HR.out.2.2.2.cast_ (Qa3 fun i hi=>by show Value.int .i64 ((F i:Nat):Int)=_;rw [hnF i hi])) (fun i hi=> ?_) (fun i hi=> ?_)
     ·rw [←hnF i hi];omega
     ·rw [←hnF i hi];have:=HF.out i;omega
    clear HK;go_wp2_with fail;by_cases hne:newE (numF ((List.range 19).map F)) 19=0
    ·refine(Qmm _ 19 19 _ wr hIS (by decide) hne).mono ?_
     rintro e w5 ⟨c,rfl,hc,b5⟩;have HC:=Qh hc;clear hc hIS hnF;have H5:=Qh (⟨HR.out.1.below b5,HR.out.2.1.below b5⟩:UW g s M y o v k1 k2 w5∧Mv g v w v w5);go_wp2_with fail;go_ret2;rw [HE.out];exact⟨c,true,rfl,H5.out.2,⟨fun _=>⟨rfl,hne⟩,fun _=>rfl⟩,fun _=>⟨H5.out.1,hy,HC.out⟩⟩
    ·refine(Qfx _ 19 19 _ wr hIS (by decide) hne).mono ?_
     rintro e w5 ⟨rfl,b5⟩;have hneb:((newE (numF ((List.range 19).map F)) 19:Int)==0)=false:=by simp;omega
     have H5:=Qh (HR.out.2.1.below b5);clear hIS hnF;have HNE:=Qh hne;generalize hgn:((newE (numF ((List.range 19).map F)) 19:Nat):Int)=E at hneb⊢;clear hgn hne;go_wp2_with fail;go_ret2;rw [HE.out];exact⟨_,false,rfl,H5.out,⟨fun h=>(by cases h),fun h=>absurd h.2 HNE.out⟩,fun h=>(by cases h)⟩
def ins (l:List Nat):List Value:=l.map fun(b:Nat)=>Value.int .i64 (b:Int)
theorem Qut (l:List Nat) (b:Nat):ins (l++[b])=ins l++[Value.int .i64 (b:Int)]:=by simp [ins]
structure AL (g:Nat) (l:List Nat) (u:Value) (v:Value) (w:World):Prop where
 own:w.ownsRow (g+1) 3 1 u l.length (ins l)
 ne:∀k,u.ownBlock=some k→v.ownBlock≠some k
theorem FW.kept {g:Nat} {s:ByteArray} {M:Nat} {x:Fl} {v:Value} {w w':World} (h:FW g s M x v w) (e:w'.heap[g]? =w.heap[g]?) (e2:∀k,v.ownBlock=some k→w'.heap[k]? =w.heap[k]?):FW g s M x v w':=by
 refine⟨e.trans h.blk,h.own.1,?_⟩;rcases h.own.2 with h1|⟨q,cap,cur,h1,h2,h3,h4⟩
 ·exact .inl h1
 ·exact .inr ⟨q,cap,cur,h1,h2,(e2 q (by rw [h1];rfl)).trans h3,h4⟩
theorem Qkt {ops:Array Oper} {rest:List Oper} {o:Oper} {a:Act} {Q:Exit→Act→World→Prop} {g:Nat} {s:ByteArray} {M:Nat} {x:Fl} {v u:Value} {l:List Nat} {w:World} (hgd:o.guard=none) (sl xx:Operand)
  (ho:o.op= .call {callee:= .builtin .append,args:=#[sl,xx],argTypes:=#[92,92]}) (hs:a.eval sl=u) (h:FW g s M x v w) (hl:AL g l u v w) (hn:l.length≤2097152)
  (hx:a.eval xx= .slice (some ⟨w.heap.size,0,none⟩) 1 1) (b:Nat)
  (k:∀u' w',FW g s M x v w'→AL g (l++[b]) u' v w'→Mv g u w u' w'→wpList Tryz.prog ops Q rest (a.put o.dst u') w'):
  wpList Tryz.prog ops Q (o::rest) a (w.alloc (.cells #[.int .i64 (b:Int)] 3)):=by
 have hb:Below w.heap.size w (w.alloc (.cells #[.int .i64 (b:Int)] 3)):=Qb.alloc Ql _;have h2:=h.below hb;have hlo:=(World.ownsRow.lt hl.own);obtain⟨i0,hi,hz0,hz1,hz2⟩:=info_parts Qca;have hbn:=Blk.new w 3 #[.int .i64 (b:Int)];refine wpList_append_lies _ hgd sl xx 92 ho (g+1) 3 i0 (.int .i64 0) 1 8 Tryz.underlying92 hi hz0 hz1 hz2 rfl (by decide) u l.length _ hs (hl.own.alloc _) ⟨w.heap.size,0,none⟩ 1 1 [.int .i64 (b:Int)] hx rfl
  (World.news_of_block hbn) (by intro u hu;rw [List.mem_singleton.1 hu];rfl) (by decide) (by unfold maxLen;omega) (by omega) (by have:=h2.lt;omega) _ rfl ?_
 intro q cap w' hown hgr hat hlt;have hgB:=h.lt;have hsz:=hb.size;have hne:u.ownBlock≠some g:=fun e=>by have:=(hlo g e).1;omega
 refine k _ w' ?_ ⟨?_,?_⟩ ⟨hgr.os.trans hb.os,hgr.tape.trans hb.tape,hgr.output.trans hb.output,Nat.le_trans hb.size hgr.size,fun i hi2 _ hv=>(hgr.block i (Nat.lt_of_lt_of_le hi2 hb.size) (fun e=>hv e.symm)).trans (hb.block i hi2),fun i e=> ?_⟩
 ·refine h2.kept (hgr.block g (by omega) (fun e=>hne e.symm)) (fun i e=>hgr.block i (by have:=(h.ownB i e).2;omega) (fun e2=>hl.ne i e2.symm e))
 ·rw [Qut,List.length_append];exact hown
 ·intro i e hv;have e:q=i:=by injection e
  rcases hat with h1|h1
  ·exact hl.ne q h1 (by rw [e];exact hv)
  ·have h3:=(h.ownB i hv).2;have h4:q=(w.alloc (.cells #[.int .i64 (b:Int)] 3)).heap.size:=h1;omega
 ·have e:q=i:=by injection e
  rcases hat with h1|h1
  ·exact .inl (by rw [h1,e])
  ·right
   have h4:q=(w.alloc (.cells #[.int .i64 (b:Int)] 3)).heap.size:=h1;omega
theorem Qod (g:Nat) (s:ByteArray) (M:Nat) (x:Fl) (v:Value) (u:Value) (l:List Nat) (b n:Nat) (w:World) (h:FW g s M x v w) (hl:AL g l u v w) (hn:n≤1000) (hL:l.length≤1000):
  Calls Tryz.prog 74 #[.pointer (some ⟨g,0,none⟩),u,.int .i64 (b:Int),.int .i64 (n:Int)] w fun e w'=>∃u',e= .returned u'∧FW g s M x v w'∧AL g (Qbx l b n x.e) u' v w'∧Mv g u w u' w':=by
 by_cases he:x.e=0
 ·have HE:=Qh he;go_enter Tryz.func74,Tryz.ntmps74;go_wp2_with fail;go_loopw [1,9] (fun y i wr=>∃k:Nat,k≤n∧i= .int .i64 (k:Int)∧FW g s M x v wr∧AL g (l++List.replicate k b) y v wr∧Mv g u w y wr) (fun _ i _=>n-(intOf i).toNat)
  case atStart=>exact⟨0,by omega,rfl,h,by rw [List.replicate_zero,List.append_nil];exact hl,Mv.refl _ _ _⟩
  case round=>
   obtain⟨k,hk,rfl,hr,ha,hm⟩:=hrel;have c2:=hr.c2;rw [HE.out]at c2;replace c2:wr.cell? ⟨g,2,none⟩=some (.int .i64 0):=c2;by_cases hlt:k<n
   ·have hlti:(k:Int)<(n:Int):=by omega
    have HLen:Hid ((l++List.replicate k b).length≤2097152):=Qh (by rw [List.length_append,List.length_replicate];omega)
    have HK:Hid (k<n∧n≤1000):=Qh ⟨hlt,hn⟩;have HA:=Qh ha;clear ha;go_wp2_with (at_builtin;refine Qkt rfl (.tmp 22) (.tmp 24) rfl rfl hr HA.out HLen.out rfl b ?_;intro u2 w2 h2 a2 m2);have e:l++List.replicate k b++[b]=l++List.replicate (k+1) b:=by rw [List.append_assoc,List.replicate_succ']
    rw [e]at a2;exact⟨⟨k+1,by have:=HK.out.1;omega,rfl,h2,a2,hm.trans m2⟩,by simp only [intOf];have:=HK.out.1;omega⟩
   ·obtain rfl:k=n:=by omega
    have hlti:¬(k:Int)<(k:Int):=by omega
    have HS:Hid (Qbx l b k x.e=l++List.replicate k b):=Qh (if_pos HE.out);rw [HE.out]at HS;go_wp2_with fail;go_ret;have HS2:Qbx l b k x.e=l++List.replicate k b:=if_pos HE.out
    first
     |rw [HS2];exact⟨_,rfl,hr,ha,hm⟩
     |rw [HS.out];exact⟨_,rfl,hr,ha,hm⟩
 ·have hS:Qbx l b n x.e=l:=if_neg he;rw [hS];have c2:=h.c2;obtain⟨E,hE⟩:∃E:Int,(x.e:Int)=E:=⟨_,rfl⟩;rw [hE]at c2;have heb:(E==0)=false:=by simp;omega
  have hor:(0:Int)<(n:Int)∨¬(0:Int)<(n:Int):=by omega
  clear hE he;go_enter Tryz.func74,Tryz.ntmps74;go_wp2_with fail;go_loopw [1,9] (fun y i wr=>i= .int .i64 0∧y=u∧w=wr) (fun _ i _=>0)
  case atStart=>exact⟨rfl,rfl,rfl⟩
  case round=>
   obtain⟨rfl,rfl,rfl⟩:=hrel;rcases hor with h0|h0
   all_goals
    go_wp2_with fail;go_ret;exact⟨_,rfl,h,hl,Mv.refl _ _ _⟩
theorem Qrn {l:Nat→Nat} {n:Nat} {B:Nat→Nat} {T at_:Nat}:∀(f d:Nat) {k q:Nat},Qc0 l n B T at_ d f=(k,q,0)→k<n
 |0,_,_,_,h=>by cases h
 |f+1,d,k,q,h=>by
  by_cases hT:T≤at_+d
  ·rw [Qhk _ _ _ _ _ _ _ hT]at h;cases h
  ·cases hf:fnd l n (d+1) (rv B at_ (d+1)) n with
   |some j=>rw [Qfa hT hf]at h;cases h;exact(Quo hf).1
   |none=>rw [Qhl hT hf]at h;exact Qrn f (d+1) h
theorem Qm3 {B:Nat→Nat} {T:Nat} {l:Nat→Nat} {n p:Nat} (h:(symR B T l n p).2.1=true):(symR B T l n p).1<n:=by
 obtain⟨k,q,e0,e⟩:∃k q e,Qc0 l n B T p 0 15=(k,q,e):=⟨_,_,_,rfl⟩;cases e0 with
 |zero=>rw [Qf4 e];exact Qrn 15 0 e
 |succ z=>rw [Qfh e]at h;cases h
theorem Qgo (B:Nat→Nat) (T p least n:Nat) (o:List Nat):((numS B T p least n).2.1=true∧∃b,Qal B T n ⟨p,0,o⟩=(b,⟨(numS B T p least n).2.2,0,o⟩)∧(numS B T p least n).1=least+b)∨
  ((numS B T p least n).2.1=false∧Qal B T n ⟨p,0,o⟩=(0,⟨T,2,o⟩)):=by
 by_cases h:p+n≤T
 ·exact .inl ⟨by rw [Qdx h],vb B p n,by rw [Qdx h,Qi5 rfl h],by rw [Qdx h]⟩
 ·exact .inr ⟨by rw [Qfb h],Qg5 rfl h⟩
def Qhp (B:Nat→Nat) (T:Nat) (l:Nat→Nat) (p:Nat) (L:List Nat):Nat×Nat×Bool×Nat:=
 let y:=symR B T l 19 p
 if y.2.1=false then(0,0,false,p)else
 if y.1=16 then(if L.length=0 then(0,0,false,y.2.2)else (L.getD (L.length-1) 0,numS B T y.2.2 3 2))else
 if y.1=17 then(0,numS B T y.2.2 3 3)else
 if y.1=18 then(0,numS B T y.2.2 11 7)else (y.1,1,true,y.2.2)
theorem Qe7 {B:Nat→Nat} {T:Nat} {g:Nat→Nat} {all f:Nat} {l:List Nat} {x:Fl} (h:x.e≠0):Qbf B T g all f l x=(l,x):=by
 cases f with
 |zero=>rfl
 |succ f=>exact if_pos (.inr h)
theorem Qkk {B:Nat→Nat} {T:Nat} {g:Nat→Nat} {all f:Nat} {l:List Nat} {x:Fl} (h:l.length≥all):Qbf B T g all f l x=(l,x):=by
 cases f with
 |zero=>rfl
 |succ f=>exact if_pos (.inl h)
theorem Qwo (B:Nat→Nat) (T:Nat) (g:Nat→Nat) (all f p:Nat) (L:List Nat) (o:List Nat) (hL:L.length<all) (r:Nat×Nat×Bool×Nat) (hr:r=Qhp B T g p L):
  (r.2.2.1=false→(Qbf B T g all (f+1) L ⟨p,0,o⟩).2.e=2)∧(r.2.2.1=true→1≤r.2.1∧Qbf B T g all (f+1) L ⟨p,0,o⟩=Qbf B T g all f (L++List.replicate r.2.1 r.1) ⟨r.2.2.2,0,o⟩):=by
 have h0:Qbf B T g all (f+1) L ⟨p,0,o⟩=(let s:=symS B T g 19 ⟨p,0,o⟩
  if s.2.e≠0 then(L,s.2)else
  if s.1<16 then Qbf B T g all f (L++[s.1]) s.2 else
  if s.1=16∧L.length=0 then(L,⟨s.2.p,2,s.2.o⟩)else
  if s.1=16 then Qbf B T g all f (Qbx L (L.getD (L.length-1) 0) (3+(Qal B T 2 s.2).1) (Qal B T 2 s.2).2.e) (Qal B T 2 s.2).2 else
  if s.1=17 then Qbf B T g all f (Qbx L 0 (3+(Qal B T 3 s.2).1) (Qal B T 3 s.2).2.e) (Qal B T 3 s.2).2 else
   Qbf B T g all f (Qbx L 0 (11+(Qal B T 7 s.2).1) (Qal B T 7 s.2).2.e) (Qal B T 7 s.2).2):=if_neg (by rintro(h|h);omega;exact h rfl)
 rw [h0];have Y:=Qoq B T g 19 p o;have hlt:= @Qm3 B T g 19 p;unfold Qhp at hr;generalize symR B T g 19 p=y at Y hlt hr;obtain⟨y1,y2,y3⟩:=y;rcases Y with⟨e,ys⟩|⟨e,ys⟩
 ·have e:y2=true:=e;subst e;have hlt:y1<19:=hlt rfl;dsimp only at hr;rw [if_neg (by decide)]at hr
  simp only [ys];rw [if_neg (fun h=>h rfl)];have key:∀(v least n:Nat),r=(v,numS B T y3 least n)→((r.2.2.1=false→(Qbf B T g all f (Qbx L v (least+(Qal B T n ⟨y3,0,o⟩).1) (Qal B T n ⟨y3,0,o⟩).2.e) (Qal B T n ⟨y3,0,o⟩).2).2.e=2)∧
    (r.2.2.1=true→least≤r.2.1∧Qbf B T g all f (Qbx L v (least+(Qal B T n ⟨y3,0,o⟩).1) (Qal B T n ⟨y3,0,o⟩).2.e) (Qal B T n ⟨y3,0,o⟩).2=Qbf B T g all f (L++List.replicate r.2.1 r.1) ⟨r.2.2.2,0,o⟩)):=fun v least n hr=>by
   have Z:=Qgo B T y3 least n o;subst hr;generalize numS B T y3 least n=z at Z;obtain⟨z1,z2,z3⟩:=z;rcases Z with⟨e,b,zb,zv⟩|⟨e,zb⟩
   ·have e:z2=true:=e;subst e;have zv:z1=least+b:=zv;refine⟨fun h=>(by cases h),fun _=> ?_⟩
    rw [zb];refine⟨by show least≤z1;omega,?_⟩
    show Qbf B T g all f (Qbx L v (least+b) 0) ⟨z3,0,o⟩=Qbf B T g all f (L++List.replicate z1 v) ⟨z3,0,o⟩
    rw [zv];rfl
   ·have e:z2=false:=e;subst e;refine⟨fun _=> ?_,fun h=>(by cases h)⟩
    rw [zb,Qe7 (show(2:Nat)≠0 by decide)]
  by_cases h16:y1=16
  ·rw [if_pos h16]at hr;rw [if_neg (by omega)]
   by_cases hl0:L.length=0
   ·rw [if_pos hl0]at hr;rw [if_pos ⟨h16,hl0⟩];subst hr;exact⟨fun _=>rfl,fun h=>(by cases h)⟩
   ·rw [if_neg hl0]at hr;rw [if_neg (fun h=>hl0 h.2),if_pos h16];have:=key _ _ _ hr;exact⟨this.1,fun h=>⟨by have:=(this.2 h).1;omega,(this.2 h).2⟩⟩
  ·rw [if_neg h16]at hr;by_cases h17:y1=17
   ·rw [if_pos h17]at hr;rw [if_neg (by omega),if_neg (fun h=>h16 h.1),if_neg h16,if_pos h17]
    have:=key _ _ _ hr;exact⟨this.1,fun h=>⟨by have:=(this.2 h).1;omega,(this.2 h).2⟩⟩
   ·rw [if_neg h17]at hr;by_cases h18:y1=18
    ·rw [if_pos h18]at hr;rw [if_neg (by omega),if_neg (fun h=>h16 h.1),if_neg h16,if_neg h17]
     have:=key _ _ _ hr;exact⟨this.1,fun h=>⟨by have:=(this.2 h).1;omega,(this.2 h).2⟩⟩
    ·rw [if_neg h18]at hr;rw [if_pos (by omega)]
     subst hr;exact⟨fun h=>(by cases h),fun _=>⟨Nat.le_refl 1,rfl⟩⟩
 ·have e:y2=false:=e;subst e;dsimp only at hr;rw [if_pos rfl]at hr;subst hr;simp only [ys];rw [if_pos (by decide)]
  exact⟨fun _=>rfl,fun h=>(by cases h)⟩
theorem Qy4 {s:ByteArray} {T p:Nat} {l:Nat→Nat} {L:List Nat} (hp:p≤T) (hL:∀i,L.getD i 0<19):(Qhp (bitH s) T l p L).2.2.2≤T∧(Qhp (bitH s) T l p L).2.1<300∧(Qhp (bitH s) T l p L).1<19:=by
 unfold Qhp;have h1:=Qm2 (B:=bitH s) l 19 p hp;have h2:= @Qm3 (bitH s) T l 19 p;generalize symR (bitH s) T l 19 p=y at h1 h2;obtain⟨y1,y2,y3⟩:=y;dsimp only at h1 h2⊢;have hn:∀least n,(numS (bitH s) T y3 least n).2.2≤T:=fun least n=>Qd8 h1;have hm:∀least n,(numS (bitH s) T y3 least n).1<least+2^n:=fun least n=>Qd9 s _ _ _ _;split
 ·exact⟨hp,show(0:Nat)<300 by decide,show(0:Nat)<19 by decide⟩
 ·next hy=>
  have hy:y2=true:=by cases y2;exact absurd rfl hy;rfl
  split
  ·split
   ·exact⟨h1,show(0:Nat)<300 by decide,show(0:Nat)<19 by decide⟩
   ·exact⟨hn _ _,Nat.lt_trans (hm 3 2) (by decide),hL _⟩
  ·split
   ·exact⟨hn _ _,Nat.lt_trans (hm 3 3) (by decide),show(0:Nat)<19 by decide⟩
   ·split
    ·exact⟨hn _ _,Nat.lt_trans (hm 11 7) (by decide),show(0:Nat)<19 by decide⟩
    ·exact⟨h1,show(1:Nat)<300 by decide,h2 hy⟩
theorem AL.last {g:Nat} {l:List Nat} {u v:Value} {w:World} (h:AL g l u v w) {j:Nat} (hj:j<l.length):∃q cap,u= .slice (some ⟨q,0,none⟩) l.length cap∧w.cell? ⟨q,j,none⟩=some (.int .i64 ((l.getD j 0:Nat):Int)):=by
 rcases h.own.2 with⟨_,h2⟩|⟨q,cap,cur,h1,e2,e3,e4,e5,e6,e7⟩
 ·omega
 ·refine⟨q,cap,h1,?_⟩;rw [cell_of_row w q j cur 3 (0,0) e3];have h8:(cur.toList.take (l.length*1))[j]? =(ins l)[j]? :=by rw [e7]
  rw [List.getElem?_take_of_lt (by omega)]at h8
  rw [←Array.getElem?_toList,h8];unfold ins;rw [List.getElem?_map,List.getElem?_eq_getElem hj];simp [List.getD,List.getElem?_eq_getElem hj]
theorem AL.shape {g:Nat} {l:List Nat} {u v:Value} {w:World} (h:AL g l u v w):∃q cap,u= .slice q l.length cap:=by
 rcases h.own.2 with⟨h1,h2⟩|⟨q,cap,cur,h1,_⟩
 ·exact⟨none,0,by rw [h1,h2]⟩
 ·exact⟨_,cap,h1⟩
theorem Quc (g:Nat) (s:ByteArray) (M p:Nat) (o:List Nat) (v k1 k2 c u:Value) (f:Nat→Int) (L:List Nat) (w:World) (h:UW g s M p o v k1 k2 w) (hc:Qa8 c f 19 w) (hl:AL g L u v w) (hLl:L.length≤1000) (hs:s.size≤281474976710656) (hp:p≤8*s.size):
  Calls Tryz.prog 154 #[.pointer (some ⟨g,0,none⟩),c,u] w fun e w'=>e= .returned (.tuple #[.int .i64 ((Qhp (bitH s) (8*s.size) (toL f) p L).1:Int),.int .i64 ((Qhp (bitH s) (8*s.size) (toL f) p L).2.1:Int),.bool (Qhp (bitH s) (8*s.size) (toL f) p L).2.2.1])∧UW g s M (Qhp (bitH s) (8*s.size) (toL f) p L).2.2.2 o v k1 k2 w'∧Mv g v w v w':=by
 have C:=Ql8 g s M p o v k1 k2 c f 19 w h hc hs (by omega)
 have hlt:= @Qm3 (bitH s) (8*s.size) (toL f) 19 p;have hle:=Qm2 (B:=bitH s) (toL f) 19 p hp;obtain⟨y,hy⟩:∃y,y=symR (bitH s) (8*s.size) (toL f) 19 p:=⟨_,rfl⟩;have HS:Hid (Qhp (bitH s) (8*s.size) (toL f) p L=if y.2.1=false then(0,0,false,p)else
  if y.1=16 then(if L.length=0 then(0,0,false,y.2.2)else (L.getD (L.length-1) 0,numS (bitH s) (8*s.size) y.2.2 3 2))else
  if y.1=17 then(0,numS (bitH s) (8*s.size) y.2.2 3 3)else
  if y.1=18 then(0,numS (bitH s) (8*s.size) y.2.2 11 7)else (y.1,1,true,y.2.2)):=Qh (by rw [hy];rfl)
 have HP:Hid (Qhp (bitH s) (8*s.size) (toL f) p L=(0,0,false,p)→y.2.2=p∨y.2.1=true):=Qh fun _=>by
  rw [hy];obtain⟨k,q,e0,e⟩:∃k q e,Qc0 (toL f) 19 (bitH s) (8*s.size) p 0 15=(k,q,e):=⟨_,_,_,rfl⟩;cases e0 with
  |zero=>right;rw [Qf4 e]
  |succ z=>left;rw [Qfh e]
 rw [←hy]at C hlt hle;clear hy;generalize Qhp (bitH s) (8*s.size) (toL f) p L=R at*;have HL:Hid (∀w',Mv g v w v w'→L.length≠0→∃q cap,u= .slice (some ⟨q,0,none⟩) L.length cap∧w'.cell? ⟨q,L.length-1,none⟩=some (.int .i64 ((L.getD (L.length-1) 0:Nat):Int))):=Qh fun w' m hn=>by
  obtain⟨q,cap,h1,h2⟩:=hl.last (show L.length-1<L.length by omega)
  refine⟨q,cap,h1,?_⟩;have hq:=World.ownsRow.lt hl.own q (by rw [h1];rfl)
  rw [World.cell?_of_block (a:=⟨q,L.length-1,none⟩) (w:=w) (m.block q hq.2 (by omega) (fun e=>hl.ne q (by rw [h1];rfl) e))]
  exact h2
 obtain⟨qs,caps,hu⟩:=hl.shape;clear h hc hl;subst hu;obtain⟨y1,y2,y3⟩:=y;dsimp only at hle hlt;go_enter Tryz.func154,Tryz.ntmps154;go_wp2_with fail;refine C.mono ?_;rintro e w1 ⟨rfl,h1,m1⟩;clear C;cases y2 with
 |false=>
  have HE:Hid (R=(0,0,false,p)):=Qh (by rw [HS.out];rfl)
  have hyp:y3=p:=by
   rcases HP.out HE.out with h|h
   ·exact h
   ·cases h
  subst hyp;go_wp2_with fail;go_ret3;rw [HE.out];exact⟨rfl,h1,m1⟩
 |true=>
  have hlt:y1<19:=hlt rfl;by_cases h16:y1=16
  ·subst h16;by_cases hl0:L.length=0
   ·have HE:Hid (R=(0,0,false,y3)):=Qh (by rw [HS.out,if_neg (by decide),if_pos rfl,if_pos hl0])
    rw [hl0];clear HS hl0;have T:Calls Tryz.prog 163 #[.int .i64 16] w1 fun e w'=>e= .returned (.tuple #[.int .i64 3,.int .i64 2,.bool true])∧w1=w':=Qcx 16 (by decide) w1
    go_wp2_with fail;refine T.mono ?_;rintro e wt ⟨rfl,rfl⟩;clear T;go_wp2_with fail;go_ret3;rw [HE.out];exact⟨rfl,h1,m1⟩
   ·have HE:Hid (R=(L.getD (L.length-1) 0,numS (bitH s) (8*s.size) y3 3 2)):=Qh (by rw [HS.out,if_neg (by decide),if_pos rfl,if_neg hl0])
    obtain⟨q,cap,e1,c0⟩:=HL.out w1 m1 hl0
    injection e1 with e1 _ e3
    subst e1 e3;have C:=Qcl g s M y3 o v k1 k2 3 2 w1 h1 hs hle (by omega) (by omega)
    generalize numS (bitH s) (8*s.size) y3 3 2=z at C HE;obtain⟨z1,z2,z3⟩:=z;obtain⟨n,hn⟩:∃n,L.length=n+1:=⟨L.length-1,by omega⟩
    have hn0:¬((n+1:Nat):Int)=0:=by omega
    have hw:IntKind.i64.wrap (((n+1:Nat):Int)-1)=(n:Int):=by rw [IntWalk.i64_in _ (by omega)];omega
    have hni:(n:Int)<((n+1:Nat):Int):=by omega
    have hnw:IntKind.i64.wrap (n:Int)=(n:Int):=IntWalk.i64_in _ (by omega)
    rw [hn,show n+1-1=n by omega]at c0 HE
    rw [hn];clear hl0 HS HL h1 HP hn;have T:Calls Tryz.prog 163 #[.int .i64 16] w1 fun e w'=>e= .returned (.tuple #[.int .i64 3,.int .i64 2,.bool true])∧w1=w':=Qcx 16 (by decide) w1
    go_wp2_with fail;refine T.mono ?_;rintro e wt ⟨rfl,rfl⟩;clear T;go_wp2_with fail;refine C.mono ?_;rintro e w2 ⟨rfl,h2,m2⟩;go_wp2_with fail;go_ret3;rw [HE.out];exact⟨rfl,h2,m1.trans m2⟩
  ·by_cases h17:y1=17
   ·subst h17;have HE:Hid (R=(0,numS (bitH s) (8*s.size) y3 3 3)):=Qh (by rw [HS.out,if_neg (by decide),if_neg (by decide),if_pos rfl])
    have C:=Qcl g s M y3 o v k1 k2 3 3 w1 h1 hs hle (by omega) (by omega)
    generalize numS (bitH s) (8*s.size) y3 3 3=z at C HE;obtain⟨z1,z2,z3⟩:=z;clear HS HL h1 HP;have T:Calls Tryz.prog 163 #[.int .i64 17] w1 fun e w'=>e= .returned (.tuple #[.int .i64 3,.int .i64 3,.bool true])∧w1=w':=Qcx 17 (by decide) w1
    go_wp2_with fail;refine T.mono ?_;rintro e wt ⟨rfl,rfl⟩;clear T;go_wp2_with fail;refine C.mono ?_;rintro e w2 ⟨rfl,h2,m2⟩;go_wp2_with fail;go_ret3;rw [HE.out];exact⟨rfl,h2,m1.trans m2⟩
   ·by_cases h18:y1=18
    ·subst h18;have HE:Hid (R=(0,numS (bitH s) (8*s.size) y3 11 7)):=Qh (by rw [HS.out,if_neg (by decide),if_neg (by decide),if_neg (by decide),if_pos rfl])
     have C:=Qcl g s M y3 o v k1 k2 11 7 w1 h1 hs hle (by omega) (by omega)
     generalize numS (bitH s) (8*s.size) y3 11 7=z at C HE;obtain⟨z1,z2,z3⟩:=z;clear HS HL h1 HP;have T:Calls Tryz.prog 163 #[.int .i64 18] w1 fun e w'=>e= .returned (.tuple #[.int .i64 11,.int .i64 7,.bool true])∧w1=w':=Qcx 18 (by decide) w1
     go_wp2_with fail;refine T.mono ?_;rintro e wt ⟨rfl,rfl⟩;clear T;go_wp2_with fail;refine C.mono ?_;rintro e w2 ⟨rfl,h2,m2⟩;go_wp2_with fail;go_ret3;rw [HE.out];exact⟨rfl,h2,m1.trans m2⟩
    ·have HE:Hid (R=(y1,1,true,y3)):=Qh (by rw [HS.out,if_neg (by simp),if_neg h16,if_neg h17,if_neg h18])
     have i16:¬(y1:Int)=16:=by omega
     have i17:¬(y1:Int)=17:=by omega
     have i18:¬(y1:Int)=18:=by omega
     have j16:((y1:Int)==16)=false:=by simp;omega
     have j17:((y1:Int)==17)=false:=by simp;omega
     have j18:((y1:Int)==18)=false:=by simp;omega
     clear HS HL HP;have T:=Qcx y1 (by omega) w1
     rw [show Qeb y1=(0,0,false)by unfold Qeb;rw [if_neg h16,if_neg h17,if_neg h18]]at T
     dsimp only at T;go_wp2_with fail;refine T.mono ?_;rintro e wt ⟨rfl,rfl⟩;clear T;go_wp2_with fail;go_ret3;rw [HE.out];exact⟨rfl,h1,m1⟩
theorem UW.kept {g:Nat} {s:ByteArray} {M p:Nat} {o:List Nat} {v k1 k2:Value} {w w':World} (h:UW g s M p o v k1 k2 w) (e:w'.heap[g]? =w.heap[g]?) (e2:∀k,v.ownBlock=some k→w'.heap[k]? =w.heap[k]?):UW g s M p o v k1 k2 w':=by
 refine⟨e.trans h.blk,h.own.1,?_⟩;rcases h.own.2 with h1|⟨q,cap,cur,h1,h2,h3,h4⟩
 ·exact .inl h1
 ·exact .inr ⟨q,cap,cur,h1,h2,(e2 q (by rw [h1];rfl)).trans h3,h4⟩
theorem AL.own_cells {g:Nat} {l:List Nat} {u v:Value} {w:World} (h:AL g l u v w) {k:Nat} (e:u.ownBlock=some k):∃cs,w.heap[k]? =some (.cells cs 3 (0,0)):=by
 rcases h.own.2 with⟨h1,_⟩|⟨q,cap,cur,h1,_,h3,_⟩
 ·subst h1;cases e
 ·subst h1;have e:q=k:=by injection e
  subst e;exact⟨_,h3⟩
theorem Qa8.mvA {c:Value} {f:Nat→Int} {n:Nat} {g:Nat} {s:ByteArray} {M p:Nat} {o l:List Nat} {v k1 k2 u u':Value} {w w':World} (h:Qa8 c f n w) (hu:UW g s M p o v k1 k2 w) (ha:AL g l u v w) (m:Mv g u w u' w'):Qa8 c f n w':=by
 obtain⟨h1,h2,h3,w1,h4,⟨D,⟨es,clock,e1,e2⟩,h5⟩,h6⟩:=h;have hb:=hu.blk;unfold Blk at hb;refine⟨h1,h2,h3,w1,h4,⟨D,⟨es,clock,(m.block _ ?_ ?_ ?_).trans e1,e2⟩,h5⟩,(m.block _ h6.lt ?_ ?_).trans h6⟩
 ·exact World.ownsMap.lt (H:=Unit) ⟨es,clock,e1,e2⟩
 ·rintro rfl;rw [e1]at hb;cases hb
 ·intro e;obtain⟨cs,h7⟩:=ha.own_cells e;rw [e1]at h7;cases h7
 ·rintro rfl;unfold Blk at h6;rw [h6]at hb
  injection hb with hb
  injection hb with _ hb
  exact absurd hb (by decide)
 ·intro e;obtain⟨cs,h7⟩:=ha.own_cells e;unfold Blk at h6;rw [h6]at h7
  injection h7 with h7
  injection h7 with _ h7
  exact absurd h7 (by decide)
theorem Mv.side {g:Nat} {v v' u u':Value} {w w1 w2:World} (h:Mv g v w v' w1) (m:Mv g u w1 u' w2) (hu:∀k,u.ownBlock=some k→w.heap.size≤k):Mv g v w v' w2:=
 ⟨m.os.trans h.os,m.tape.trans h.tape,m.output.trans h.output,Nat.le_trans h.size m.size,fun i hi hg hv=>(m.block i (Nat.lt_of_lt_of_le hi h.size) hg (fun e=>by have:=hu i e;omega)).trans (h.block i hi hg hv),h.own⟩
theorem Mv.side_own {g:Nat} {v v' u u':Value} {w w1 w2:World} (h:Mv g v w v' w1) (m:Mv g u w1 u' w2) (hu:∀k,u.ownBlock=some k→w.heap.size≤k):∀k,u'.ownBlock=some k→w.heap.size≤k:=fun k e=>by
 rcases m.own k e with h1|h1
 ·exact hu k h1
 ·exact Nat.le_trans h.size h1
theorem AL.mv {g:Nat} {l:List Nat} {u v:Value} {w w':World} (h:AL g l u v w) (m:Mv g v w v w'):AL g l u v w':=by
 refine⟨⟨h.own.1,?_⟩,h.ne⟩;rcases h.own.2 with h1|⟨q,cap,cur,h1,h2,h3,h4⟩
 ·exact .inl h1
 ·have hq:=World.ownsRow.lt h.own q (by rw [h1];rfl)
  exact .inr ⟨q,cap,cur,h1,h2,(m.block q hq.2 (by omega) (fun e=>h.ne q (by rw [h1];rfl) e)).trans h3,h4⟩
theorem Qql {ops:Array Oper} {rest:List Oper} {z:Oper} {a:Act} {Q:Exit→Act→World→Prop} {g:Nat} {s:ByteArray} {M p:Nat} {o:List Nat} {v k1 k2 u:Value} {l:List Nat} {w:World} (hgd:z.guard=none) (sl xx:Operand)
  (ho:z.op= .call {callee:= .builtin .append,args:=#[sl,xx],argTypes:=#[92,92]}) (hs:a.eval sl=u) (h:UW g s M p o v k1 k2 w) (hl:AL g l u v w) (hn:l.length≤2097152)
  (hx:a.eval xx= .slice (some ⟨w.heap.size,0,none⟩) 1 1) (b:Nat)
  (k:∀q cap w',UW g s M p o v k1 k2 w'→AL g (l++[b]) (.slice (some ⟨q,0,none⟩) (l.length+1) cap) v w'→Mv g u w (.slice (some ⟨q,0,none⟩) (l.length+1) cap) w'→wpList Tryz.prog ops Q rest (a.put z.dst (.slice (some ⟨q,0,none⟩) (l.length+1) cap)) w'):
  wpList Tryz.prog ops Q (z::rest) a (w.alloc (.cells #[.int .i64 (b:Int)] 3)):=by
 have hb:Below w.heap.size w (w.alloc (.cells #[.int .i64 (b:Int)] 3)):=Qb.alloc Ql _;have h2:=h.below hb;have hlo:=(World.ownsRow.lt hl.own);obtain⟨i0,hi,hz0,hz1,hz2⟩:=info_parts Qca;have hbn:=Blk.new w 3 #[.int .i64 (b:Int)];refine wpList_append_lies _ hgd sl xx 92 ho (g+1) 3 i0 (.int .i64 0) 1 8 Tryz.underlying92 hi hz0 hz1 hz2 rfl (by decide) u l.length _ hs (hl.own.alloc _) ⟨w.heap.size,0,none⟩ 1 1 [.int .i64 (b:Int)] hx rfl
  (World.news_of_block hbn) (by intro u hu;rw [List.mem_singleton.1 hu];rfl) (by decide) (by unfold maxLen;omega) (by omega) (by have:=h2.lt;omega) _ rfl ?_
 intro q cap w' hown hgr hat hlt;have hgB:=h.lt;have hsz:=hb.size;have hne:u.ownBlock≠some g:=fun e=>by have:=(hlo g e).1;omega
 refine k q cap w' ?_ ⟨?_,?_⟩ ⟨hgr.os.trans hb.os,hgr.tape.trans hb.tape,hgr.output.trans hb.output,Nat.le_trans hb.size hgr.size,fun i hi2 _ hv=>(hgr.block i (Nat.lt_of_lt_of_le hi2 hb.size) (fun e=>hv e.symm)).trans (hb.block i hi2),fun i e=> ?_⟩
 ·refine h2.kept (hgr.block g (by omega) (fun e=>hne e.symm)) (fun i e=>hgr.block i (by have:=(h.ownB i e).2;omega) (fun e2=>hl.ne i e2.symm e))
 ·rw [Qut,List.length_append];exact hown
 ·intro i e hv;have e:q=i:=by injection e
  rcases hat with h1|h1
  ·exact hl.ne q h1 (by rw [e];exact hv)
  ·have h3:=(h.ownB i hv).2;have h4:q=(w.alloc (.cells #[.int .i64 (b:Int)] 3)).heap.size:=h1;omega
 ·have e:q=i:=by injection e
  rcases hat with h1|h1
  ·exact .inl (by rw [h1,e])
  ·right
   have h4:q=(w.alloc (.cells #[.int .i64 (b:Int)] 3)).heap.size:=h1;omega
theorem own0 {q:Nat} {n cap k:Nat} (e:(Value.slice (some ⟨q,0,none⟩) n cap).ownBlock=some k):q≤k:=by
 have e:q=k:=by injection e
 omega
theorem Qyz (n:Nat) (hn:n≤1000000) (w:World):
  (Instr.makeSlice 92 (.int .i64 0) (.int .i64 (n:Int))).run Tryz.prog w= .ok (.slice (some ⟨w.heap.size,0,none⟩) 0 n) (w.alloc (.cells (rI n fun _=>0) 3)):=by
 obtain⟨i0,hi,hz0,hz1,hz2⟩:=info_parts Qca;have h:=run_make (P:=Tryz.prog) w 92 3 i0 (.int .i64 0) Tryz.underlying92 hi hz0 .i64 .i64 (0:Int) n (by omega) (by omega) (by rw [hz2];omega) (by omega)
 rw [hz1,Int.toNat_natCast,Nat.mul_one,show Value.cells (.int .i64 0)=#[Value.int .i64 0]from rfl,Qjz]at h;exact h
theorem Qx4 (L:List Nat) (k x:Nat) (hL:∀i,L.getD i 0<19) (hx:x<19):∀i,(L++List.replicate k x).getD i 0<19:=fun i=>by
 by_cases h:i<L.length
 ·have:=hL i;simp only [List.getD,List.getElem?_append_left h]at this⊢;exact this
 ·simp only [List.getD,List.getElem?_append_right (Nat.le_of_not_lt h),List.getElem?_replicate];split
  ·exact hx
  ·show(0:Nat)<19;decide
def okL (S:List Nat×Fl) (all:Nat):Bool:=decide (S.2.e=0∧S.1.length≤all)
theorem Qua (g:Nat) (s:ByteArray) (M p:Nat) (o:List Nat) (v k1 k2 c:Value) (f:Nat→Int) (all:Nat) (w:World) (h:UW g s M p o v k1 k2 w) (hc:Qa8 c f 19 w) (hs:s.size≤281474976710656) (hp:p≤8*s.size) (ha:all≤400):
  Calls Tryz.prog 133 #[.pointer (some ⟨g,0,none⟩),c,.int .i64 (all:Int)] w fun e w'=>∃q n cap,e= .returned (.tuple #[.slice q n cap,.bool (okL (Qbf (bitH s) (8*s.size) (toL f) all (all+1) [] ⟨p,0,o⟩) all)])∧Mv g v w v w'∧
   (okL (Qbf (bitH s) (8*s.size) (toL f) all (all+1) [] ⟨p,0,o⟩) all=true→n=all∧(Qbf (bitH s) (8*s.size) (toL f) all (all+1) [] ⟨p,0,o⟩).1.length=all∧UW g s M (Qbf (bitH s) (8*s.size) (toL f) all (all+1) [] ⟨p,0,o⟩).2.p o v k1 k2 w'∧(Qbf (bitH s) (8*s.size) (toL f) all (all+1) [] ⟨p,0,o⟩).2.p≤8*s.size∧(Qbf (bitH s) (8*s.size) (toL f) all (all+1) [] ⟨p,0,o⟩).2.o=o∧
    AL g (Qbf (bitH s) (8*s.size) (toL f) all (all+1) [] ⟨p,0,o⟩).1 (.slice q n cap) v w'∧(∀i,(Qbf (bitH s) (8*s.size) (toL f) all (all+1) [] ⟨p,0,o⟩).1.getD i 0<19)):=by
 obtain⟨S,hS⟩:∃S,S=Qbf (bitH s) (8*s.size) (toL f) all (all+1) [] ⟨p,0,o⟩:=⟨_,rfl⟩;rw [←hS];have hmk:∀w,(Instr.makeSlice 92 (.int .i64 0) (.int .i64 (all:Int))).run Tryz.prog w= .ok (.slice (some ⟨w.heap.size,0,none⟩) 0 all) (w.alloc (.cells (rI all fun _=>0) 3)):=Qyz all (by omega)
 have b1:=(Below.refl _ w).alloc Ql (.cells (rI all fun _=>0) 3);have hgl:=h.lt;have A0:AL g [] (.slice (some ⟨w.heap.size,0,none⟩) 0 all) v (w.alloc (.cells (rI all fun _=>0) 3)):=by
  refine⟨⟨rfl,.inr ⟨w.heap.size,all,rI all fun _=>0,rfl,by omega,Blk.new w _ _,Nat.zero_le _,by unfold maxLen;omega,by rw [Qbb,Nat.mul_one],by simp [ins]⟩⟩,fun k e ev=> ?_⟩
  have e:w.heap.size=k:=by injection e
  have:=(h.ownB k ev).2;omega
 have H0:=Qh (⟨h.below b1,(Mv.refl g v w).below b1,hc.below b1,A0,fun k e=>own0 e⟩:UW g s M p o v k1 k2 (w.alloc (.cells (rI all fun _=>0) 3))∧Mv g v w v (w.alloc (.cells (rI all fun _=>0) 3))∧Qa8 c f 19 (w.alloc (.cells (rI all fun _=>0) 3))∧AL g [] (.slice (some ⟨w.heap.size,0,none⟩) 0 all) v (w.alloc (.cells (rI all fun _=>0) 3))∧(∀k,(Value.slice (some ⟨w.heap.size,0,none⟩) 0 all).ownBlock=some k→w.heap.size≤k));have HSZ:=Qh hs;have HALL:=Qh ha;have HS:=Qh hS;clear h hc hS hs ha hgl A0 b1;go_enter Tryz.func133,Tryz.ntmps133;go_wp2_with fail;generalize w.alloc (.cells (rI all fun _=>0) 3)=wa at H0⊢;obtain⟨z0,hz0⟩:∃z0,z0=w.heap.size:=⟨_,rfl⟩;rw [←hz0]at H0⊢;have HZ0:=Qh hz0;clear hmk hz0;go_loopg [6,7,8] (all+1) (fun gk r6 r7 sl wr=>∃(t q:Nat) (L:List Nat) (pq:Option Addr) (cq:Nat),gk=t∧r6= .slice none 0 0∧r7= .bool false∧sl= .slice pq L.length cq∧Hid (S=Qbf (bitH s) (8*s.size) (toL f) all t L ⟨q,0,o⟩)∧q≤8*s.size∧L.length≤all∧all-L.length<t∧Hid (∀i,L.getD i 0<19)∧Hid (UW g s M q o v k1 k2 wr∧Mv g v w v wr∧Qa8 c f 19 wr∧AL g L (.slice pq L.length cq) v wr∧(∀k,(Value.slice pq L.length cq).ownBlock=some k→z0≤k)))
 case atStart=>exact⟨_,p,[],_,_,rfl,rfl,rfl,rfl,HS,hp,by simp,by simp,Qh (fun i=>by simp),H0⟩
 case round=>
  obtain⟨t,q,L,pq,cq,hgk,rfl,rfl,rfl,HK,hq,hLa,hqt,HLs,HR⟩:=hrel;clear H0 HS hp;by_cases hlt:L.length<all
  ·cases t with
   |zero=>omega
   |succ t=>
    have hlti:(L.length:Int)<(all:Int):=by omega
    obtain⟨r,hr⟩:∃r,r=Qhp (bitH s) (8*s.size) (toL f) q L:=⟨_,rfl⟩;have D:=Qwo (bitH s) (8*s.size) (toL f) all t q L o hlt r hr;rw [←HK.out]at D;have hok:=Qy4 (s:=s) (l:=toL f) hq HLs.out;have C:=Quc g s M q o v k1 k2 c _ f L wr HR.out.1 HR.out.2.2.1 HR.out.2.2.2.1 (by have:=HALL.out;omega) HSZ.out hq
    rw [←hr]at C hok;have HD:=Qh D;have HOK:=Qh hok;have HGK:Hid (gk=t+1∧all-L.length<t+1∧L.length<all):=Qh ⟨hgk,hqt,hlt⟩;clear D hr hok hgk hqt hLa hlt HK hq;go_wp2_with fail;refine C.mono ?_;rintro e w2 ⟨rfl,h2,m2⟩;have H2:=Qh (⟨h2,HR.out.2.1.trans m2,HR.out.2.2.1.mv HR.out.1 m2,HR.out.2.2.2.1.mv m2,HR.out.2.2.2.2⟩:UW g s M r.2.2.2 o v k1 k2 w2∧Mv g v w v w2∧Qa8 c f 19 w2∧AL g L (.slice pq L.length cq) v w2∧(∀k,(Value.slice pq L.length cq).ownBlock=some k→z0≤k));clear C h2 m2 HR;obtain⟨x,n,ok,q2⟩:=r;cases ok with
    |false=>
     have HE:Hid (okL S all=false):=Qh (decide_eq_false fun h=>by rw [HD.out.1 rfl]at h;cases h.1)
     clear HD HOK;go_wp2_with fail;go_ret2;rw [HE.out];exact⟨_,_,_,rfl,H2.out.2.1,fun h=>(by cases h)⟩
    |true=>
     obtain⟨hn1,hN⟩:=HD.out.2 rfl;have HO2:=HOK.out;dsimp only at hn1 HO2 hN;have HN:=Qh hN;obtain⟨Z,hZ⟩:∃Z:Int,(all:Int)-(L.length:Int)=Z:=⟨_,rfl⟩;have hzw:IntKind.i64.wrap Z=Z:=IntWalk.i64_in _ (by have:=HALL.out;omega)
     clear hN HD;by_cases hbig:n>all-L.length
     ·have hbi:(n:Int)>Z:=by have:=HGK.out.2.2;omega
      have HE:Hid (okL S all=false):=Qh (decide_eq_false fun h=>by
       have h:=h.2
       revert h
       rw [HN.out,Qkk (by rw [List.length_append,List.length_replicate];have:=HGK.out.2.2;omega)]
       show¬(L++List.replicate n x).length≤all
       rw [List.length_append,List.length_replicate];have:=HGK.out.2.2;omega)
      clear hbig HN HOK HO2;go_wp2_with fail;go_ret2;rw [HE.out];exact⟨_,_,_,rfl,H2.out.2.1,fun h=>(by cases h)⟩
     ·have hbi:¬(n:Int)>Z:=by have:=HGK.out.2.2;omega
      have HX:Hid (x<19):=Qh HO2.2.2;have HNL:Hid (L.length+n≤all∧1≤n∧q2≤8*s.size):=Qh ⟨by have:=HGK.out.2.2;omega,hn1,HO2.1⟩
      clear hbig HOK HO2 hn1;go_wp2_with fail;go_loopw [8,37] (fun sl i wr=>∃(k:Nat) (pk:Option Addr) (ck:Nat),k≤n∧sl= .slice pk (L.length+k) ck∧i= .int .i64 (k:Int)∧Hid (UW g s M q2 o v k1 k2 wr∧Mv g v w v wr∧Qa8 c f 19 wr∧AL g (L++List.replicate k x) (.slice pk (L.length+k) ck) v wr∧(∀k',(Value.slice pk (L.length+k) ck).ownBlock=some k'→z0≤k'))) (fun _ i _=>n-(intOf i).toNat)
      case atStart=>exact⟨0,pq,cq,by omega,rfl,rfl,Qh (by rw [List.replicate_zero,List.append_nil];exact H2.out)⟩
      case round=>
       obtain⟨k,pk,ck,hk,rfl,rfl,HW⟩:=hrel;clear H2;by_cases hkn:k<n
       ·have hki:(k:Int)<(n:Int):=by omega
        have HKL:=Qh hkn;have hkb:k<1000:=by have:=HNL.out;have:=HALL.out;omega
        have HLL:Hid ((L++List.replicate k x).length≤2097152):=Qh (by rw [List.length_append,List.length_replicate];have:=HNL.out;have:=HALL.out;omega)
        clear hkn;go_wp2_with (at_builtin;refine Qql rfl (.tmp 39) (.tmp 41) rfl rfl HW.out.1 HW.out.2.2.2.1 HLL.out rfl x ?_;intro q3 cap3 w3 h3 a3 m3);have el:(L++List.replicate k x).length+1=L.length+(k+1):=by rw [List.length_append,List.length_replicate];omega
        have e:L++List.replicate k x++[x]=L++List.replicate (k+1) x:=by rw [List.append_assoc,List.replicate_succ']
        rw [e,el]at a3;rw [el]at m3;go_roundw
        case rel=>exact⟨k+1,_,_,by have:=HKL.out;omega,rfl,by go_num,Qh ⟨h3,HW.out.2.1.side m3 (by rw [←HZ0.out];exact HW.out.2.2.2.2),HW.out.2.2.1.mvA HW.out.1 HW.out.2.2.2.1 m3,a3,by rw [HZ0.out];exact HW.out.2.1.side_own m3 (by rw [←HZ0.out];exact HW.out.2.2.2.2)⟩⟩
        case measure=>simp only [intOf];omega
       ·obtain rfl:k=n:=by omega
        have hki:¬(k:Int)<(k:Int):=by omega
        have el:(L++List.replicate k x).length=L.length+k:=by rw [List.length_append,List.length_replicate]
        have HW2:Hid (UW g s M q2 o v k1 k2 wr∧Mv g v w v wr∧Qa8 c f 19 wr∧AL g (L++List.replicate k x) (.slice pk (L++List.replicate k x).length ck) v wr∧(∀k',(Value.slice pk (L++List.replicate k x).length ck).ownBlock=some k'→z0≤k')):=Qh (by rw [el];exact HW.out)
        have HEL:=Qh el;clear HW el;go_wp2_with fail;go_roundg t
        case measure=>have:=HGK.out;omega
        case rel=>exact⟨t,q2,L++List.replicate k x,pk,ck,rfl,rfl,rfl,by rw [HEL.out],HN,HNL.out.2.2,by rw [HEL.out];exact HNL.out.1,by rw [HEL.out];have:=HNL.out;have:=HGK.out;omega,Qh (Qx4 L k x HLs.out HX.out),HW2⟩
  ·have hlti:¬(L.length:Int)<(all:Int):=by omega
   have el:L.length=all:=by omega
   have HE:Hid (S=(L,⟨q,0,o⟩)):=Qh (by rw [HK.out];exact Qkk (by omega))
   have HF:Hid (L.length=all∧q≤8*s.size):=Qh ⟨el,hq⟩;have HOK:Hid (okL (L,⟨q,0,o⟩) all=true):=Qh (decide_eq_true ⟨rfl,Nat.le_of_eq el⟩);clear HK el hq hlt hLa hqt;go_wp2_with fail;go_ret2;rw [HE.out,HOK.out];exact⟨_,_,_,rfl,HR.out.2.1,fun _=>⟨HF.out.1,HF.out.1,HR.out.1,HF.out.2,rfl,HR.out.2.2.2.1,HLs.out⟩⟩
def E2 (o:List Nat) (x:Fl):Prop:=(x.e=0∨x.e=2)∧x.o=o
theorem Qi4 {B:Nat→Nat} {T n:Nat} {o:List Nat} {x:Fl} (h:E2 o x):E2 o (Qal B T n x).2:=by
 unfold Qal;split
 ·exact h
 ·split
  ·exact⟨.inl rfl,h.2⟩
  ·exact⟨.inr rfl,h.2⟩
theorem Q1o {B:Nat→Nat} {T n:Nat} {l:Nat→Nat} {o:List Nat} {x:Fl} (h:E2 o x):E2 o (symS B T l n x).2:=by
 unfold symS;split
 ·exact h
 ·split
  ·exact⟨.inl rfl,h.2⟩
  ·exact⟨.inr rfl,h.2⟩
theorem Qpj {B:Nat→Nat} {T:Nat} {o:List Nat}:∀(n i:Nat) (f:Nat→Nat) {x:Fl},E2 o x→E2 o (fewS B T n i f x).2
 |0,_,_,_,h=>h
 |n+1,i,_,_,h=>Qpj n (i+1) _ (Qi4 h)
theorem Qjs {B:Nat→Nat} {T:Nat}:∀(n i:Nat) (f:Nat→Nat) (x:Fl),(∀j,19≤j→f j=0)→∀j,19≤j→(fewS B T n i f x).1 j=0
 |0,_,_,_,h=>h
 |n+1,i,f,x,h=>Qjs n (i+1) _ _ fun j hj=>by
  have:=Qvm i;show(if j=ordL.getD i 0 then _ else f j)=0;rw [if_neg (by omega)]
  exact h j hj
theorem Qhr {B:Nat→Nat} {T:Nat} {g:Nat→Nat} {all:Nat} {o:List Nat}:∀(f:Nat) (L:List Nat) {x:Fl},E2 o x→E2 o (Qbf B T g all f L x).2
 |0,_,_,h=>h
 |f+1,L,x,h=>by
  have h1:E2 o (symS B T g 19 x).2:=Q1o h;unfold Qbf;split
  ·exact h
  ·dsimp only;split
   ·exact h1
   ·split
    ·exact Qhr f _ h1
    ·split
     ·exact⟨.inr rfl,h1.2⟩
     ·split
      ·exact Qhr f _ (Qi4 h1)
      ·split
       ·exact Qhr f _ (Qi4 h1)
       ·exact Qhr f _ (Qi4 h1)
def Qgm (B:Nat→Nat) (T many far few:Nat) (x:Fl):(List Nat×List Nat)×Fl:=
 let g:=fewS B T few 0 (fun _=>0) (if x.e=0∧(many>286∨far>30)then ⟨x.p,2,x.o⟩else x)
 let t:=Qbf B T g.1 (many+far) (many+far+1) [] (Qdb ((List.range 19).map g.1) g.2)
 let y:=if t.2.e=0∧(t.1.length>many+far∨t.1.getD 256 0=0)then ⟨t.2.p,2,t.2.o⟩else t.2
 if y.e≠0 then(([],[]),y)else ((t.1.take many,t.1.drop many),y)
theorem Qgj (B:Nat→Nat) (T:Nat) (x:Fl):Qbp B T x=Qgm B T (257+(Qal B T 5 x).1) (1+(Qal B T 5 (Qal B T 5 x).2).1) (4+(Qal B T 4 (Qal B T 5 (Qal B T 5 x).2).2).1) (Qal B T 4 (Qal B T 5 (Qal B T 5 x).2).2).2:=rfl
theorem Qfr {l:List Nat} {x:Fl} (h:x.e≠0):Qdb l x=x:=if_pos h
theorem Qf5 {B:Nat→Nat} {T many far few:Nat} {x:Fl} (h:x.e=2):(Qgm B T many far few x).2.e=2:=by
 have h0:x.e≠0:=by rw [h];decide
 unfold Qgm;rw [if_neg (show¬(x.e=0∧(many>286∨far>30))from fun hh=>h0 hh.1)];dsimp only;rw [Qma _ _ _ _ h0,Qfr h0,Qe7 h0];have e1:¬(x.e=0∧(([]:List Nat).length>many+far∨([]:List Nat).getD 256 0=0)):=fun hh=>h0 hh.1;simp only [if_neg e1,if_pos h0];exact h
theorem Qwm {B:Nat→Nat} {T many far few p:Nat} {o:List Nat} (h:many>286∨far>30):(Qgm B T many far few ⟨p,0,o⟩).2.e=2:=by
 have e:Qgm B T many far few ⟨p,0,o⟩=Qgm B T many far few ⟨p,2,o⟩:=by
  unfold Qgm;rw [if_pos (show(⟨p,0,o⟩:Fl).e=0∧(many>286∨far>30)from ⟨rfl,h⟩),if_neg (show¬((⟨p,2,o⟩:Fl).e=0∧(many>286∨far>30))from fun hh=>absurd (show 2=0 from hh.1) (by decide))]
 rw [e];exact Qf5 rfl
theorem Qg0 (l:List Nat):toL (numF l)=fun i=>l.getD i 0:=by funext i;unfold toL numF;omega
theorem Qwr (G:Nat→Nat) (h:∀j,19≤j→G j=0):toL (numF ((List.range 19).map G))=G:=by
 rw [Qg0]
 funext i
 by_cases hi:i<19
 ·simp [List.getD,List.getElem?_range hi]
 ·rw [h i (by omega)]
  simp [List.getD,List.getElem?_eq_none (show(List.range 19).length≤i by simp;omega)]
def lenS (B:Nat→Nat) (T many far:Nat) (F:Bool×List Nat×Fl):List Nat×Fl:=Qbf B T (toL (numF F.2.1)) (many+far) (many+far+1) [] ⟨F.2.2.p,0,F.2.2.o⟩
theorem Qwn (B:Nat→Nat) (T many far p:Nat) (o:List Nat) (hm:¬(many>286∨far>30)) (F:Bool×List Nat×Fl) (hF:F=cflS B T p o) (x:Nat×Bool×Nat) (hx:x=numS B T p 0 4) (few:Nat) (hf:x.2.1=true→few=4+x.1) (y:Fl) (hy:y=if x.2.1=true then⟨x.2.2,0,o⟩else ⟨T,2,o⟩):
  (¬(F.1=true∧newE (numF F.2.1) 19=0∧okL (lenS B T many far F) (many+far)=true∧(lenS B T many far F).1.getD 256 0≠0)→(Qgm B T many far few y).2.e=2)∧
  (F.1=true→newE (numF F.2.1) 19=0→okL (lenS B T many far F) (many+far)=true→(lenS B T many far F).1.getD 256 0≠0→Qgm B T many far few y=(((lenS B T many far F).1.take many,(lenS B T many far F).1.drop many),⟨(lenS B T many far F).2.p,0,o⟩)):=by
 have hr4:numS B T p 4 4=if x.2.1=true then(4+x.1,true,x.2.2)else (0,false,p):=by
  rw [hx];by_cases h:p+4≤T
  ·rw [Qdx h,Qdx h,Nat.zero_add];rfl
  ·rw [Qfb h,Qfb h];rfl
 clear hx;obtain⟨x1,x2,x3⟩:=x;cases x2 with
 |false=>
  have hy:y=⟨T,2,o⟩:=hy;have hr4:numS B T p 4 4=(0,false,p):=hr4;subst hy;refine⟨fun _=>Qf5 rfl,fun h=> ?_⟩;rw [hF]at h;unfold cflS at h;rw [hr4]at h;cases h
 |true=>
  have hy:y=⟨x3,0,o⟩:=hy;have hr4:numS B T p 4 4=(4+x1,true,x3):=hr4;have hf:few=4+x1:=hf rfl;subst hy hf;obtain⟨G,hG⟩:∃G,G=fewS B T (4+x1) 0 (fun _=>0) ⟨x3,0,o⟩:=⟨_,rfl⟩;have hFG:F=(decide (G.2.e=0),(List.range 19).map G.1,G.2):=by rw [hF];unfold cflS;rw [hr4];dsimp only;rw [←hG];rfl
  have hGE:E2 o G.2:=by rw [hG];exact Qpj _ _ _ ⟨.inl rfl,rfl⟩
  have hG0:∀j,19≤j→G.1 j=0:=by rw [hG];exact Qjs _ _ _ _ fun _ _=>rfl
  have hT:Qgm B T many far (4+x1) ⟨x3,0,o⟩=(let t:=Qbf B T G.1 (many+far) (many+far+1) [] (Qdb ((List.range 19).map G.1) G.2)
    let y:=if t.2.e=0∧(t.1.length>many+far∨t.1.getD 256 0=0)then ⟨t.2.p,2,t.2.o⟩else t.2
    if y.e≠0 then(([],[]),y)else ((t.1.take many,t.1.drop many),y)):=by
   unfold Qgm;rw [if_neg (show¬((⟨x3,0,o⟩:Fl).e=0∧(many>286∨far>30))from fun h=>hm h.2),←hG]
  rw [hT];clear hT hF hG hr4;subst hFG;have bad:∀z:Fl,z.e=2→(let t:=Qbf B T G.1 (many+far) (many+far+1) [] z
    let y:=if t.2.e=0∧(t.1.length>many+far∨t.1.getD 256 0=0)then ⟨t.2.p,2,t.2.o⟩else t.2
    (if y.e≠0 then(([],[]),y)else ((t.1.take many,t.1.drop many),y):(List Nat×List Nat)×Fl)).2.e=2:=fun z hz=>by
   have hz0:z.e≠0:=by rw [hz];decide
   rw [Qe7 hz0];have e1:¬(z.e=0∧(([]:List Nat).length>many+far∨([]:List Nat).getD 256 0=0)):=fun hh=>hz0 hh.1;simp only [if_neg e1,if_pos hz0];exact hz
  rcases hGE.1 with e0|e2
  ·obtain⟨Gf,Gp,Ge,Go⟩:=G;have hgo:Go=o:=hGE.2;have hge:Ge=0:=e0;subst hgo hge;by_cases hn:newE (numF ((List.range 19).map Gf)) 19=0
   ·have hc:Qdb ((List.range 19).map Gf) ⟨Gp,0,Go⟩=⟨Gp,0,Go⟩:=by
     unfold Qdb;rw [if_neg (fun h=>h rfl),List.length_map,List.length_range];exact if_pos hn
    dsimp only;rw [hc];have hl:lenS B T many far (decide ((0:Nat)=0),(List.range 19).map Gf,⟨Gp,0,Go⟩)=Qbf B T Gf (many+far) (many+far+1) [] ⟨Gp,0,Go⟩:=by
     unfold lenS;dsimp only;rw [Qwr _ hG0]
    rw [hl];have hE:=Qhr (B:=B) (T:=T) (g:=Gf) (all:=many+far) (many+far+1) [] (x:=⟨Gp,0,Go⟩) (o:=Go) ⟨.inl rfl,rfl⟩;generalize Qbf B T Gf (many+far) (many+far+1) [] ⟨Gp,0,Go⟩=t at hE;obtain⟨tl,tp,te,to⟩:=t;have hto:to=Go:=hE.2;subst hto;refine⟨fun h=> ?_,fun _ _ h1 h2=> ?_⟩
    ·rcases hE.1 with h0|h2
     ·have h0:te=0:=h0;subst h0;have h3:tl.length>many+far∨tl.getD 256 0=0:=by
       by_cases h4:tl.length>many+far
       ·exact .inl h4
       ·right
        by_cases h5:tl.getD 256 0=0
        ·exact h5
        ·exact absurd ⟨rfl,hn,decide_eq_true ⟨rfl,Nat.le_of_not_lt h4⟩,h5⟩ h
      simp only [true_and,if_pos h3];rfl
     ·have h2:te=2:=h2;subst h2;have e1:¬((2:Nat)=0∧(tl.length>many+far∨tl.getD 256 0=0)):=fun hh=>absurd (show 2=0 from hh.1) (by decide)
      simp only [if_neg e1];rfl
    ·have h1:=of_decide_eq_true h1;have h0:te=0:=h1.1;subst h0;have h3:¬(tl.length>many+far∨tl.getD 256 0=0):=by
      rintro(h|h)
      ·exact absurd h1.2 (Nat.not_le_of_gt h)
      ·exact h2 h
     simp only [true_and,if_neg h3];rfl
   ·refine⟨fun _=>bad _ ?_,fun _ h=>absurd h hn⟩;unfold Qdb;rw [if_neg (fun h=>h rfl),List.length_map,List.length_range,if_neg (show¬newE (fun i=>(((List.range 19).map Gf).getD i 0:Int)) 19=0 from hn)]
  ·refine⟨fun _=>bad _ ?_,fun h=> ?_⟩
   ·rw [Qfr (by rw [e2];decide)];exact e2
   ·have:=of_decide_eq_true h;rw [e2]at this;cases this
theorem Qov (B:Nat→Nat) (T p:Nat) (o:List Nat) (r1 r2:Nat×Bool×Nat) (h1:r1=numS B T p 257 5) (h2:r2=numS B T r1.2.2 1 5) (F:Bool×List Nat×Fl) (hF:F=cflS B T r2.2.2 o):
  (¬(r1.2.1=true∧r2.2.1=true∧r1.1≤286∧r2.1≤30)∨¬(F.1=true∧newE (numF F.2.1) 19=0∧okL (lenS B T r1.1 r2.1 F) (r1.1+r2.1)=true∧(lenS B T r1.1 r2.1 F).1.getD 256 0≠0)→(Qbp B T ⟨p,0,o⟩).2.e=2)∧
  (r1.2.1=true→r2.2.1=true→r1.1≤286→r2.1≤30→F.1=true→newE (numF F.2.1) 19=0→okL (lenS B T r1.1 r2.1 F) (r1.1+r2.1)=true→(lenS B T r1.1 r2.1 F).1.getD 256 0≠0→
   Qbp B T ⟨p,0,o⟩=(((lenS B T r1.1 r2.1 F).1.take r1.1,(lenS B T r1.1 r2.1 F).1.drop r1.1),⟨(lenS B T r1.1 r2.1 F).2.p,0,o⟩)):=by
 have X:=Qgo B T p 257 5 o;rw [←h1]at X;have Y:=Qgo B T r1.2.2 1 5 o;rw [←h2]at Y;clear h1 h2;obtain⟨a,b1,p1⟩:=r1;obtain⟨d,b2,p2⟩:=r2;rw [Qgj];have err:∀(z:Fl),z.e=2→(Qal B T 5 z).2.e=2∧(Qal B T 4 z).2.e=2:=fun z hz=>by
  rw [Qew (by rw [hz];decide),Qew (by rw [hz];decide)];exact⟨hz,hz⟩
 rcases X with⟨e,x,xb,xv⟩|⟨e,xb⟩
 ·have e:b1=true:=e;subst e;have xv:a=257+x:=xv;dsimp only at xb Y hF⊢;rcases Y with⟨e,y,yb,yv⟩|⟨e,yb⟩
  ·have e:b2=true:=e;subst e;have yv:d=1+y:=yv
   try dsimp only at yb
   rw [xb];dsimp only;rw [yb];dsimp only;rw [←xv,←yv];by_cases hbig:a>286∨d>30
   ·refine⟨fun _=> ?_,fun _ _ ha hd=>by omega⟩
    rcases Qdi B T p2 4 o with⟨_,k⟩|⟨_,_,k⟩
    ·rw [k];exact Qwm hbig
    ·rw [k];exact Qf5 rfl
   ·obtain⟨x4,hx4⟩:∃x4,x4=numS B T p2 0 4:=⟨_,rfl⟩;have K:=Qdi B T p2 4 o;rw [←hx4]at K;have D:=Qwn B T a d p2 o hbig F hF x4 hx4 (4+(Qal B T 4 ⟨p2,0,o⟩).1) (fun h=>by
     rcases K with⟨_,k⟩|⟨h2,_⟩
     ·rw [k]
     ·rw [h]at h2;cases h2) (Qal B T 4 ⟨p2,0,o⟩).2 (by
     rcases K with⟨h2,k⟩|⟨h2,_,k⟩
     ·rw [k,if_pos h2]
     ·rw [k,if_neg (by rw [h2];exact Bool.false_ne_true)])
    refine⟨fun h=>D.1 ?_,fun _ _ _ _ h1 h2 h3 h4=>D.2 h1 h2 h3 h4⟩;rcases h with h|h
    ·exact absurd ⟨rfl,rfl,by omega,by omega⟩ h
    ·exact h
  ·have e:b2=false:=e;subst e;refine⟨fun _=> ?_,fun _ h=>by cases h⟩
   rw [xb];dsimp only;rw [yb];exact Qf5 (err _ rfl).2
 ·have e:b1=false:=e;subst e;refine⟨fun _=> ?_,fun h=>by cases h⟩
  rw [xb];exact Qf5 (err _ (err _ rfl).1).2
theorem Qzg (B:Nat→Nat) (T p:Nat) (o:List Nat):(Qbp B T ⟨p,0,o⟩).2.e=0∨(Qbp B T ⟨p,0,o⟩).2.e=2:=by
 obtain⟨r1,h1⟩:∃r,r=numS B T p 257 5:=⟨_,rfl⟩;obtain⟨r2,h2⟩:∃r,r=numS B T r1.2.2 1 5:=⟨_,rfl⟩;obtain⟨F,hF⟩:∃F,F=cflS B T r2.2.2 o:=⟨_,rfl⟩;have D:=Qov B T p o r1 r2 h1 h2 F hF;by_cases h:(r1.2.1=true∧r2.2.1=true∧r1.1≤286∧r2.1≤30)
 ·by_cases h':(F.1=true∧newE (numF F.2.1) 19=0∧okL (lenS B T r1.1 r2.1 F) (r1.1+r2.1)=true∧(lenS B T r1.1 r2.1 F).1.getD 256 0≠0)
  ·rw [D.2 h.1 h.2.1 h.2.2.1 h.2.2.2 h'.1 h'.2.1 h'.2.2.1 h'.2.2.2];exact .inl rfl
  ·exact .inr (D.1 (.inr h'))
 ·exact .inr (D.1 (.inl h))
theorem Qlp {B:Nat→Nat} {T p least n:Nat} (h:(numS B T p least n).2.1=true):least≤(numS B T p least n).1:=by
 unfold numS at h⊢;split
 ·exact Nat.le_add_right _ _
 ·next hn=>rw [if_neg hn]at h;cases h
def ctS (B:Nat→Nat) (T:Nat) (x:Fl):Fl:=Qdb (Qbp B T x).1.2 (Qdb (Qbp B T x).1.1 (Qbp B T x).2)
theorem Qg7 (l:List Nat) (p:Nat) (o:List Nat):Qdb l ⟨p,0,o⟩=if newE (numF l) l.length=0 then⟨p,0,o⟩else ⟨p,2,o⟩:=if_neg (fun h=>h rfl)
theorem Q16 (B:Nat→Nat) (T p:Nat) (o:List Nat):(ctS B T ⟨p,0,o⟩).e=0∨(ctS B T ⟨p,0,o⟩).e=2:=by
 have c:∀(l:List Nat) (x:Fl),x.e=0∨x.e=2→(Qdb l x).e=0∨(Qdb l x).e=2:=fun l x h=>by
  unfold Qdb;split
  ·exact h
  ·split
   ·exact h
   ·exact .inr rfl
 exact c _ _ (c _ _ (Qzg B T p o))
theorem UW.row_far {g:Nat} {s:ByteArray} {M p:Nat} {o:List Nat} {v k1 k2:Value} {w:World} (h:UW g s M p o v k1 k2 w) {q:Nat} (hq:g≠q) (hv:∀k,v.ownBlock=some k→k≠q) (cs:Array Value):UW g s M p o v k1 k2 (w.setRow q cs):=
 h.kept (setRow_other w q g cs hq) fun k e=>setRow_other w q k cs (hv k e)
theorem AL.is_take {g:Nat} {l:List Nat} {q:Option Addr} {n cap:Nat} {v:Value} {w:World} (h:AL g l (.slice q n cap) v w) (hb:∀i,l.getD i 0<19) {m:Nat} (hm:m≤l.length):IS q m cap (numF (l.take m)) w:=by
 have hnum:∀i,i<m→numF (l.take m) i=((l.getD i 0:Nat):Int):=fun i hi=>by
  unfold numF;simp [List.getD,hi]
 refine⟨fun e=> ?_,fun a ha i hi=> ?_,fun a ha=> ?_,fun i hi=> ?_,fun i hi=> ?_⟩
 ·rcases h.own.2 with⟨h1,h2⟩|⟨q',cap',cur,h1,_⟩
  ·injection h1 with h1 h3 h4
   exact⟨by omega,h4⟩
  ·injection h1 with h1
   rw [e]at h1;cases h1
 ·obtain⟨q',cap',e1,e2⟩:=h.last (show i<l.length by omega)
  injection e1 with e1
  rw [e1]at ha
  injection ha with ha
  subst ha;rw [Qay,Nat.zero_add,e2,hnum i hi]
 ·have:=World.ownsRow.lt h.own a.block (by rw [ha];rfl)
  exact this.2
 ·rw [hnum i hi];omega
 ·rw [hnum i hi];have:=hb i;omega
theorem AL.is_drop {g:Nat} {l:List Nat} {q n cap:Nat} {v:Value} {w:World} (h:AL g l (.slice (some ⟨q,0,none⟩) n cap) v w) (hb:∀i,l.getD i 0<19) {m:Nat} (hm:m≤l.length) (c':Nat):IS (some ⟨q,m,none⟩) (l.length-m) c' (numF (l.drop m)) w:=by
 have hnum:∀i,i<l.length-m→numF (l.drop m) i=((l.getD (m+i) 0:Nat):Int):=fun i hi=>by
  unfold numF;simp [List.getD,List.getElem?_drop]
 refine⟨fun e=>(by cases e),fun a ha i hi=> ?_,fun a ha=> ?_,fun i hi=> ?_,fun i hi=> ?_⟩
 ·obtain⟨q',cap',e1,e2⟩:=h.last (show m+i<l.length by omega)
  injection e1 with e1
  injection e1 with e1
  injection e1 with e1
  injection ha with ha
  subst ha e1;rw [hnum i hi,←e2,Qay]
 ·injection ha with ha
  subst ha;exact(World.ownsRow.lt h.own q rfl).2
 ·rw [hnum i hi];omega
 ·rw [hnum i hi];have:=hb (m+i);omega
theorem Qud (g:Nat) (s:ByteArray) (M p:Nat) (o:List Nat) (v k1 k2:Value) (w:World) (h:UW g s M p o v k1 k2 w) (hT:TB w) (hs:s.size≤281474976710656) (hp:p≤8*s.size):
  Calls Tryz.prog 103 #[.pointer (some ⟨g,0,none⟩)] w fun e w'=>∃c1 c2,e= .returned (.tuple #[.agg #[.pointer c1,.pointer c2],.bool (decide ((ctS (bitH s) (8*s.size) ⟨p,0,o⟩).e=0))])∧Mv g v w v w'∧
   ((ctS (bitH s) (8*s.size) ⟨p,0,o⟩).e=0→UW g s M (ctS (bitH s) (8*s.size) ⟨p,0,o⟩).p o v k1 k2 w'∧(ctS (bitH s) (8*s.size) ⟨p,0,o⟩).p≤8*s.size∧(ctS (bitH s) (8*s.size) ⟨p,0,o⟩).o=o∧
    Qa8 (.pointer c1) (numF (Qbp (bitH s) (8*s.size) ⟨p,0,o⟩).1.1) (Qbp (bitH s) (8*s.size) ⟨p,0,o⟩).1.1.length w'∧Qa8 (.pointer c2) (numF (Qbp (bitH s) (8*s.size) ⟨p,0,o⟩).1.2) (Qbp (bitH s) (8*s.size) ⟨p,0,o⟩).1.2.length w'):=by
 obtain⟨r1,hr1⟩:∃r,r=numS (bitH s) (8*s.size) p 257 5:=⟨_,rfl⟩;obtain⟨r2,hr2⟩:∃r,r=numS (bitH s) (8*s.size) r1.2.2 1 5:=⟨_,rfl⟩;obtain⟨F,hF⟩:∃F,F=cflS (bitH s) (8*s.size) r2.2.2 o:=⟨_,rfl⟩;have HD:=Qh (Qov (bitH s) (8*s.size) p o r1 r2 hr1 hr2 F hF);have HX:Hid (ctS (bitH s) (8*s.size) ⟨p,0,o⟩=Qdb (Qbp (bitH s) (8*s.size) ⟨p,0,o⟩).1.2 (Qdb (Qbp (bitH s) (8*s.size) ⟨p,0,o⟩).1.1 (Qbp (bitH s) (8*s.size) ⟨p,0,o⟩).2)):=Qh rfl;generalize ctS (bitH s) (8*s.size) ⟨p,0,o⟩=X at*;generalize Qbp (bitH s) (8*s.size) ⟨p,0,o⟩=t at*;have HBAD:Hid (t.2.e=2→X.e≠0):=Qh fun h2=>by
  have h0:t.2.e≠0:=by rw [h2];decide
  rw [HX.out,Qfr h0,Qfr h0];exact h0
 have b0:Below w.heap.size w (w.alloc (.cells #[.pointer none,.pointer none] 82)):=Qb.alloc Ql _;have hgl:=h.lt;have HOB:Hid (∀k,v.ownBlock=some k→k<w.heap.size):=Qh fun k e=>(h.ownB k e).2;have H0:=Qh (⟨h.below b0,(Mv.refl g v w).below b0,hT.below b0,Blk.new w _ _⟩:UW g s M p o v k1 k2 (w.alloc (.cells #[.pointer none,.pointer none] 82))∧Mv g v w v (w.alloc (.cells #[.pointer none,.pointer none] 82))∧TB (w.alloc (.cells #[.pointer none,.pointer none] 82))∧Blk (w.alloc (.cells #[.pointer none,.pointer none] 82)) w.heap.size 82 #[.pointer none,.pointer none]);have hsz:(Tryz.prog.info? 82).map (·.size)=some 2:=by kernel_rfl
 have HSZ:=Qh hsz;obtain⟨q,hq⟩:∃q,q=w.heap.size:=⟨_,rfl⟩;rw [←hq]at H0;have HQ:=Qh hq;have HG:=Qh hgl;clear h hT b0 hsz hgl;go_enter Tryz.func103,Tryz.ntmps103;go_wp2_with fail;rw [←hq];clear hq;generalize w.alloc (.cells #[.pointer none,.pointer none] 82)=wa at H0⊢;have C1:=Qcl g s M p o v k1 k2 257 5 wa H0.out.1 hs hp (by omega) (by omega)
 have hp1:r1.2.2≤8*s.size:=by rw [hr1];exact Qd8 hp
 have hl1:r1.1<257+2^5:=by rw [hr1];exact Qd9 s _ _ _ _
 rw [←hr1]at C1;refine C1.mono ?_;rintro e w1 ⟨rfl,h1,m1⟩;have H1:=Qh (⟨h1,H0.out.2.1.trans m1,H0.out.2.2.1.mv H0.out.1 m1,Blk.mv H0.out.2.2.2 (by decide) (by decide) H0.out.1 m1⟩:UW g s M r1.2.2 o v k1 k2 w1∧Mv g v w v w1∧TB w1∧Blk w1 q 82 #[.pointer none,.pointer none])
 have HGE:Hid (r1.2.1=true→257≤r1.1):=Qh (by rw [hr1];exact Qlp)
 clear h1 m1 H0 C1 hr1;go_wp2_with fail;have C1:=Qcl g s M r1.2.2 o v k1 k2 1 5 w1 H1.out.1 hs hp1 (by omega) (by omega)
 have hp2:r2.2.2≤8*s.size:=by rw [hr2];exact Qd8 hp1
 have hl2:r2.1<1+2^5:=by rw [hr2];exact Qd9 s _ _ _ _
 rw [←hr2]at C1;refine C1.mono ?_;rintro e w2 ⟨rfl,h2,m2⟩;have H2:=Qh (⟨h2,H1.out.2.1.trans m2,H1.out.2.2.1.mv H1.out.1 m2,Blk.mv H1.out.2.2.2 (by decide) (by decide) H1.out.1 m2⟩:UW g s M r2.2.2 o v k1 k2 w2∧Mv g v w v w2∧TB w2∧Blk w2 q 82 #[.pointer none,.pointer none])
 have HGE2:Hid (r2.2.1=true→1≤r2.1):=Qh (by rw [hr2];exact Qlp)
 clear h2 m2 H1 C1 hr2;obtain⟨a,b1,p1⟩:=r1;obtain⟨d,b2,p2⟩:=r2;dsimp only at hl1 hl2 hp2;have hB2:Hid (∀wx cs,Mv g v w v wx→Mv g v w v (wx.setRow q cs)):=Qh fun wx cs m=>
  ⟨m.os,m.tape,m.output,by simp;exact m.size,fun i hi hg' hv=>(setRow_other wx q i _ (by have:=HQ.out;omega)).trans (m.block i hi hg' hv),m.own⟩
 have hB:Hid (∀wx,Mv g v w v wx→Mv g v w v (wx.setRow q #[.pointer none,.pointer none])):=Qh fun wx m=>hB2.out wx _ m;by_cases hok:b1=true∧b2=true∧a≤286∧d≤30
 ·obtain⟨rfl,rfl,ha,hd⟩:=hok;have hai:¬(a:Int)>286:=by omega
  have hdi:¬(d:Int)>30:=by omega
  have hFo:F.2.2.o=o:=by rw [hF];exact(Qpj _ _ _ ⟨.inl rfl,rfl⟩).2
  have C:=Qxo g s M p2 o v k1 k2 w2 H2.out.1 H2.out.2.2.1 hs hp2;dsimp only at hF;rw [←hF]at C;have HAD:Hid (a≤286∧d≤30∧257≤a+0∨a<257):=Qh (by omega)
  have HAI:Hid (a≤286∧d≤30):=Qh ⟨ha,hd⟩;clear hF hl1 hl2 hp1;go_wp2_with fail;refine C.mono ?_;rintro e w3 ⟨c,ok,rfl,m3,hiff,hgood⟩;cases ok with
  |false=>
   have HE:Hid (¬X.e=0):=Qh (HBAD.out (HD.out.1 (.inr (fun h=>by have:=hiff.2 ⟨h.1,h.2.1⟩;cases this))))
   have HW:Hid (Mv g v w v w3∧Blk w3 q 82 #[.pointer none,.pointer none]):=Qh ⟨H2.out.2.1.trans m3,Blk.mv H2.out.2.2.2 (by decide) (by decide) H2.out.1 m3⟩
   clear HD HX HBAD m3 hiff hgood C;go_wp2_with (refine wpList_store_row rfl 82 _ _ rfl q #[.pointer none,.pointer none] rfl rfl 82 _ HW.out.2 HSZ.out rfl (Qec _ _) ?_);refine bodyPost_ret (Qak rfl _ _ q 82 #[.pointer none,.pointer none] (0,0) _ _ rfl (HW.out.2.row_ _) Tryz.underlying82 rfl HSZ.out rfl) rfl ⟨none,none,?_,hB.out _ HW.out.1,fun h=>absurd h HE.out⟩;rw [decide_eq_false HE.out];rfl
  |true=>
   obtain⟨h3,hp3,hc3⟩:=hgood rfl;obtain⟨hF1,hF2⟩:=hiff.1 rfl;have H3:=Qh (⟨h3,H2.out.2.1.trans m3,Blk.mv H2.out.2.2.2 (by decide) (by decide) H2.out.1 m3,hc3⟩:UW g s M F.2.2.p o v k1 k2 w3∧Mv g v w v w3∧Blk w3 q 82 #[.pointer none,.pointer none]∧Qa8 c (numF F.2.1) 19 w3)
   have hw:IntKind.i64.wrap ((a:Int)+(d:Int))=((a+d:Nat):Int):=by rw [IntWalk.i64_in _ (by omega)];omega
   have C:=Qua g s M F.2.2.p o v k1 k2 c (numF F.2.1) (a+d) w3 h3 hc3 hs hp3 (by omega)
   have hlen:lenS (bitH s) (8*s.size) a d F=Qbf (bitH s) (8*s.size) (toL (numF F.2.1)) (a+d) (a+d+1) [] ⟨F.2.2.p,0,o⟩:=by unfold lenS;rw [hFo]
   have HDD:=Qh HD.out;rw [←hlen]at C;have HF12:=Qh (⟨hF1,hF2⟩:F.1=true∧newE (numF F.2.1) 19=0);clear hlen h3 m3 hc3 hiff hgood H2 hF1 hF2 HD hFo;generalize lenS (bitH s) (8*s.size) a d F=S at*;obtain⟨N,hN⟩:∃N,N=a+d:=⟨_,rfl⟩;rw [←hN]at C hw HDD;have HN:=Qh hN;clear hN;go_wp2_with fail;refine C.mono ?_;rintro e w4 ⟨qs,n,cap,rfl,m4,hgood⟩;have hq4:=Blk.mv H3.out.2.2.1 (by decide) (by decide) H3.out.1 m4
   cases hok:okL S N with
   |false=>
    have HE:Hid (¬X.e=0):=Qh (HBAD.out (HDD.out.1 (.inr (fun h=>by rw [hok]at h;cases h.2.2.1))))
    have HW:Hid (Mv g v w v w4∧Blk w4 q 82 #[.pointer none,.pointer none]):=Qh ⟨H3.out.2.1.trans m4,hq4⟩;clear HDD HX HBAD m4 hgood hok C hq4;go_wp2_with (refine wpList_store_row rfl 82 _ _ rfl q #[.pointer none,.pointer none] rfl rfl 82 _ HW.out.2 HSZ.out rfl (Qec _ _) ?_);refine bodyPost_ret (Qak rfl _ _ q 82 #[.pointer none,.pointer none] (0,0) _ _ rfl (HW.out.2.row_ _) Tryz.underlying82 rfl HSZ.out rfl) rfl ⟨none,none,?_,hB.out _ HW.out.1,fun h=>absurd h HE.out⟩;rw [decide_eq_false HE.out];rfl
   |true=>
    obtain⟨rfl,hSl,h4,hp4,hSo,hal,hb19⟩:=hgood hok;have hN257:257≤n:=by have:=HGE.out (by trivial);have:=HN.out;omega
    obtain⟨qb,cap',e1,c256⟩:=hal.last (show 256<S.1.length by omega)
    injection e1 with e1 e2 e3
    subst e1 e3;have hcap:S.1.length≤cap:=by
     rcases hal.own.2 with⟨h1,_⟩|⟨q',cap',cur,h1,_,_,h5,_⟩
     ·cases h1
     ·injection h1 with h1 h2 h3
      omega
    by_cases h0:S.1.getD 256 0=0
    ·have HE:Hid (¬X.e=0):=Qh (HBAD.out (HDD.out.1 (.inr (fun h=>h.2.2.2 h0))));have HW:Hid (Mv g v w v w4∧Blk w4 q 82 #[.pointer none,.pointer none]):=Qh ⟨H3.out.2.1.trans m4,hq4⟩;rw [h0]at c256;have c256:w4.cell? ⟨qb,256,none⟩=some (.int .i64 0):=c256;have hni:(256:Int)<(n:Int):=by omega
     clear HDD HX HBAD m4 hgood hok C hq4 hal h0 hSl hb19 h4;go_wp2_with (refine wpList_store_row rfl 82 _ _ rfl q #[.pointer none,.pointer none] rfl rfl 82 _ HW.out.2 HSZ.out rfl (Qec _ _) ?_);refine bodyPost_ret (Qak rfl _ _ q 82 #[.pointer none,.pointer none] (0,0) _ _ rfl (HW.out.2.row_ _) Tryz.underlying82 rfl HSZ.out rfl) rfl ⟨none,none,?_,hB.out _ HW.out.1,fun h=>absurd h HE.out⟩;rw [decide_eq_false HE.out];rfl
    ·have htt:=HDD.out.2 (by trivial) (by trivial) (by have:=HAI.out;omega) (by have:=HAI.out;omega) HF12.out.1 HF12.out.2 hok h0
     have hSN:=HN.out;have i1:=hal.is_take hb19 (show a≤S.1.length by omega)
     have i2:=hal.is_drop hb19 (show a≤S.1.length by omega) (cap-a)
     have C:=Qq6 (some ⟨qb,0,none⟩) a cap (numF (S.1.take a)) (some ⟨qb,a,none⟩) (S.1.length-a) (cap-a) (numF (S.1.drop a)) w4.drew ⟨i1.nil_,i1.cell,i1.lt,i1.lo,i1.hi⟩ ⟨i2.nil_,i2.cell,i2.lt,i2.lo,i2.hi⟩ (by omega) (by omega)
     have hl1:(S.1.take a).length=a:=by rw [List.length_take];omega
     have hl2:(S.1.drop a).length=S.1.length-a:=List.length_drop;have hX:X=if newE (numF (S.1.take a)) a=0∧newE (numF (S.1.drop a)) (S.1.length-a)=0 then⟨S.2.p,0,o⟩else ⟨S.2.p,2,o⟩:=by
      rw [HX.out,htt];dsimp only;rw [Qg7,hl1];by_cases e1:newE (numF (S.1.take a)) a=0
      ·rw [if_pos e1,Qg7,hl2];by_cases e2:newE (numF (S.1.drop a)) (S.1.length-a)=0
       ·rw [if_pos e2,if_pos ⟨e1,e2⟩]
       ·rw [if_neg e2,if_neg (fun h=>e2 h.2)]
      ·rw [if_neg e1,if_neg (fun h=>e1 h.1)];exact Qfr (show(2:Nat)≠0 by decide)
     have HXX:=Qh hX;have HT1:=Qh (show t.1.1=S.1.take a∧t.1.2=S.1.drop a by rw [htt];exact⟨rfl,rfl⟩)
     have HL:=Qh (⟨hl1,hl2⟩:(S.1.take a).length=a∧(S.1.drop a).length=S.1.length-a);have HDE:Hid (decide (newE (numF (S.1.take a)) a=0∧newE (numF (S.1.drop a)) (S.1.length-a)=0)=decide (X.e=0)):=Qh (by
      rw [hX];by_cases e:newE (numF (S.1.take a)) a=0∧newE (numF (S.1.drop a)) (S.1.length-a)=0
      ·rw [if_pos e,decide_eq_true e];rfl
      ·rw [if_neg e,decide_eq_false e];rfl)
     have HDE2:Hid ((decide (newE (numF (S.1.take a)) a=0)&&decide (newE (numF (S.1.drop a)) (S.1.length-a)=0))=decide (X.e=0)):=Qh (by rw [←HDE.out,Bool.decide_and])
     have HNE:Hid (X.e=0→newE (numF (S.1.take a)) a=0∧newE (numF (S.1.drop a)) (S.1.length-a)=0):=Qh fun h=>by
      by_cases e:newE (numF (S.1.take a)) a=0∧newE (numF (S.1.drop a)) (S.1.length-a)=0
      ·exact e
      ·rw [hX,if_neg e]at h;cases h
     have hd0:¬((S.1.getD 256 0:Nat):Int)=0:=by omega
     have hd0b:(((S.1.getD 256 0:Nat):Int)==0)=false:=Bool.eq_false_iff.2 fun h=>hd0 (eq_of_beq h);generalize ((S.1.getD 256 0:Nat):Int)=D256 at c256 hd0 hd0b;have hni:(256:Int)<(S.1.length:Int):=by omega
     have hac:(a:Int)≤(cap:Int):=by omega
     have hcn:¬cap=a:=by have:=HGE2.out (by trivial);have:=HN.out;omega
     have han:(a:Int)≤(S.1.length:Int):=by omega
     have hnc:(S.1.length:Int)≤(cap:Int):=by omega
     have H4:=Qh (⟨h4.drew,H3.out.2.1.trans m4.drew,hq4.drew⟩:UW g s M S.2.p o v k1 k2 w4.drew∧Mv g v w v w4.drew∧Blk w4.drew q 82 #[.pointer none,.pointer none]);have HP4:=Qh hp4;clear HDD HX HBAD m4 hgood hok hq4 hal h0 hSl hb19 h4 htt i1 i2 hl1 hl2 hX hSN;go_wp2_with fail;refine Qbc (by kernel_rfl) ?_
     change wpAnyH _ _ _ _ _ _ _ _ w4.drew;generalize w4.drew=wd at*;refine Qa4 (i:=0) (v:= ?_) rfl rfl (fun wx=> ?_) ?_;rotate_left
     ·go_simp<;>rfl
     simp only [pu];refine Qa4 (i:=1) (v:= ?_) rfl rfl (fun wx=> ?_) ?_;rotate_left
     ·go_simp<;>rfl
     simp only [pu];refine tH (i:=2) (v:= .slice (some ⟨qb,0,none⟩) a cap) rfl rfl ?_;simp only [pu];refine Qa4 (i:=3) (v:= ?_) rfl rfl (fun wx=> ?_) ?_;rotate_left
     ·go_simp<;>rfl
     simp only [pu];refine Qa4 (i:=4) (v:= ?_) rfl rfl (fun wx=> ?_) ?_;rotate_left
     ·go_simp<;>rfl
     simp only [pu];refine tH (i:=5) (v:= .slice (some ⟨qb,a,none⟩) (S.1.length-a) (cap-a)) rfl rfl ?_;simp only [pu];refine Qau (i:=6) (f:=129) (by kernel_rfl) rfl rfl (by go_simp;skip) (C.mono ?_)
     rintro e w5 ⟨v1,v2,rfl,b5,kc1,kc2⟩;refine⟨_,rfl,?_⟩;simp only [pu];have H5:=Qh (⟨H4.out.1.below b5,H4.out.2.1.below b5,H4.out.2.2.below b5 H4.out.2.2.lt⟩:UW g s M S.2.p o v k1 k2 w5∧Mv g v w v w5∧Blk w5 q 82 #[.pointer none,.pointer none]);refine Qa4 (i:=7) (v:= ?_) rfl rfl (fun wx=> ?_) ?_;rotate_left
     ·go_simp<;>rfl
     simp only [pu];refine Qa4 (i:=8) (v:= ?_) rfl rfl (fun wx=> ?_) ?_;rotate_left
     ·go_simp<;>rfl
     simp only [pu];refine Qd6 (i:=9) (by kernel_rfl) rfl rfl (Qpv (R:=fun wx=>wx=w5.setRow q #[.pointer v1,.pointer v2]) 82 _ _ rfl q #[.pointer v1,.pointer v2] rfl rfl 82 _ H5.out.2.2 HSZ.out rfl (Qec _ _) rfl) ?_
     rintro _ rfl;simp only [Act.put];refine Qa4 (i:=10) (v:= ?_) rfl rfl (fun wx=> ?_) ?_;rotate_left
     ·go_simp<;>rfl
     simp only [pu];refine wpAnyH_done (by kernel_rfl) ?_ _
     have HK:=Qh (⟨kc1,kc2⟩:(newE (numF (S.1.take a)) a=0→Qa8 (.pointer v1) (numF (S.1.take a)) a w5)∧(newE (numF (S.1.drop a)) (S.1.length-a)=0→Qa8 (.pointer v2) (numF (S.1.drop a)) (S.1.length-a) w5));clear kc1 kc2 C;go_wp2_with fail;refine bodyPost_ret (Qak rfl _ _ q 82 #[.pointer v1,.pointer v2] (0,0) _ _ rfl (H5.out.2.2.row_ _) Tryz.underlying82 rfl HSZ.out rfl) rfl ⟨v1,v2,?_,hB2.out _ _ H5.out.2.1,fun hx=> ?_⟩
     ·rw [←HDE2.out];rfl
     ·obtain⟨hn1,hn2⟩:=HNE.out hx;have hXX:=HXX.out;rw [if_pos ⟨hn1,hn2⟩]at hXX;rw [hXX,HT1.out.1,HT1.out.2,HL.out.1,HL.out.2];exact⟨H5.out.1.row_far (by have:=HQ.out;have:=HG.out;omega) (fun k e=>by have:=HOB.out k e;have:=HQ.out;omega) _,HP4.out,rfl,(HK.out.1 hn1).setRow H5.out.2.2 (by decide) _,(HK.out.2 hn2).setRow H5.out.2.2 (by decide) _⟩
 ·have HE:Hid (¬X.e=0):=Qh (HBAD.out (HD.out.1 (.inl hok)));have HW:Hid (Mv g v w v w2∧Blk w2 q 82 #[.pointer none,.pointer none]):=Qh ⟨H2.out.2.1,H2.out.2.2.2⟩;clear HD HX HBAD hF;have hor:b1=false∨(b1=true∧b2=false)∨(b1=true∧b2=true∧(a:Int)>286)∨(b1=true∧b2=true∧¬(a:Int)>286∧(d:Int)>30):=by
   cases b1 with
   |false=>exact .inl rfl
   |true=>
    cases b2 with
    |false=>exact .inr (.inl ⟨rfl,rfl⟩)
    |true=>
     by_cases ha:a>286
     ·exact .inr (.inr (.inl ⟨rfl,rfl,by omega⟩))
     ·refine .inr (.inr (.inr ⟨rfl,rfl,by omega,?_⟩))
      by_cases hd:d>30
      ·omega
      ·exact absurd ⟨rfl,rfl,by omega,by omega⟩ hok
  clear hok;rcases hor with rfl|⟨rfl,rfl⟩|⟨rfl,rfl,h1⟩|⟨rfl,rfl,h1,h2⟩
  all_goals
   go_wp2_with (refine wpList_store_row rfl 82 _ _ rfl q #[.pointer none,.pointer none] rfl rfl 82 _ HW.out.2 HSZ.out rfl (Qec _ _) ?_)
   refine bodyPost_ret (Qak rfl _ _ q 82 #[.pointer none,.pointer none] (0,0) _ _ rfl (HW.out.2.row_ _) Tryz.underlying82 rfl HSZ.out rfl) rfl ⟨none,none,?_,hB.out _ HW.out.1,fun h=>absurd h HE.out⟩;rw [decide_eq_false HE.out];rfl
theorem Qxn (B:Nat→Nat) (T M p:Nat) (o:List Nat):Qcw B T M (Qbp B T ⟨p,0,o⟩).1.1 (Qbp B T ⟨p,0,o⟩).1.2 (Qbp B T ⟨p,0,o⟩).2=
  Qat B T M (toL (numF (Qbp B T ⟨p,0,o⟩).1.1)) (Qbp B T ⟨p,0,o⟩).1.1.length (toL (numF (Qbp B T ⟨p,0,o⟩).1.2)) (Qbp B T ⟨p,0,o⟩).1.2.length (T+1) (ctS B T ⟨p,0,o⟩):=by
 rw [Qg0,Qg0];rfl
theorem Qnw (g:Nat) (s:ByteArray) (M p:Nat) (o:List Nat) (v k1 k2:Value) (w:World) (h:UW g s M p o v k1 k2 w) (hT:TB w) (hs:s.size≤281474976710656) (hp:p≤8*s.size) (hM:M≤1048576) (ho:o.length≤M):
  Calls Tryz.prog 68 #[.pointer (some ⟨g,0,none⟩)] w fun e w'=>e= .returned (.int .i64 ((Qcw (bitH s) (8*s.size) M (Qbp (bitH s) (8*s.size) ⟨p,0,o⟩).1.1 (Qbp (bitH s) (8*s.size) ⟨p,0,o⟩).1.2 (Qbp (bitH s) (8*s.size) ⟨p,0,o⟩).2).e:Int))∧
   Dn g s M (Qcw (bitH s) (8*s.size) M (Qbp (bitH s) (8*s.size) ⟨p,0,o⟩).1.1 (Qbp (bitH s) (8*s.size) ⟨p,0,o⟩).1.2 (Qbp (bitH s) (8*s.size) ⟨p,0,o⟩).2) v k1 k2 w w':=by
 have C:=Qud g s M p o v k1 k2 w h hT hs hp;rw [Qxn];have hX:=Q16 (bitH s) (8*s.size) p o;generalize ctS (bitH s) (8*s.size) ⟨p,0,o⟩=X at*;generalize Qbp (bitH s) (8*s.size) ⟨p,0,o⟩=t at*;have hgl:=h.lt;obtain⟨S,hS⟩:∃S,S=Qat (bitH s) (8*s.size) M (toL (numF t.1.1)) t.1.1.length (toL (numF t.1.2)) t.1.2.length (8*s.size+1) X:=⟨_,rfl⟩;rw [←hS];have HS:=Qh hS;have hsz:(Tryz.prog.info? 82).map (·.size)=some 2:=by kernel_rfl
 have HSZ:=Qh hsz;have HXX:=Qh hX;have HM:=Qh hM;clear h hT hS hsz hX hM;go_enter Tryz.func68,Tryz.ntmps68;go_wp2_with fail;refine C.mono ?_;rintro e w1 ⟨c1,c2,rfl,m1,hgood⟩;clear C;have hB1:=Blk.new w1 82 #[.pointer none,.pointer none];have b1:=(Below.refl _ w1).alloc Ql (.cells #[.pointer none,.pointer none] 82);have b2:Below w1.heap.size w1 ((w1.alloc (.cells #[.pointer none,.pointer none] 82)).setRow w1.heap.size #[.pointer c1,.pointer c2]):=Qai b1 Ql _;have HB:=Qh hB1;by_cases h0:X.e=0
 ·rw [decide_eq_true h0];obtain⟨h1,hp1,ho1,k1',k2'⟩:=hgood h0;have C:=Qlg g s M X.p o v k1 k2 (.pointer c1) (.pointer c2) _ _ _ _ _ (h1.below b2) (k1'.below b2) (k2'.below b2) hs hp1 HM.out ho;have hXe:X=⟨X.p,0,o⟩:=by obtain⟨Xp,Xe,Xo⟩:=X;dsimp only at h0 ho1;rw [h0,ho1]
  rw [←hXe,←HS.out]at C;have hB2:=hB1.row_ #[.pointer c1,.pointer c2];have M2:=Qh (m1.below b2);have HC:=Qh C;have HR:=Qh hB2;clear h1 k1' k2' hgood h0 hXe C hB1 b1 b2 m1 hB2;go_wp2_with (first
   |(refine wpList_store_row rfl 82 _ _ rfl w1.heap.size #[.pointer c1,.pointer c2] rfl rfl 82 _ HB.out HSZ.out rfl (Qec _ _) ?_)
   |(refine Qav (.agg #[.pointer c1,.pointer c2]) rfl (by exact Qia (R:=fun wx=>wx=_) _ _ rfl _ rfl _ _ _ HR.out Tryz.underlying82 rfl (by kernel_rfl) rfl) ?_;rintro _ rfl;simp only [pu]))
  refine HC.out.mono ?_;rintro e w3 ⟨rfl,hdn⟩;have HDN:Hid (Dn g s M S v k1 k2 w w3):=Qh (by
   obtain⟨v',m3,h3⟩:=hdn;exact⟨v',M2.out.trans m3,h3⟩)
  clear hdn;go_wp2_with fail;go_ret;exact⟨rfl,HDN.out⟩
 ·rw [decide_eq_false h0];have HE:Hid (S.e=2):=Qh (by
   rw [HS.out,Qdq h0];rcases HXX.out with h|h
   ·exact absurd h h0
   ·exact h)
  have M2:=Qh (m1.below b2);clear hgood h0 hB1 b1 b2 m1;go_wp2_with (refine wpList_store_row rfl 82 _ _ rfl w1.heap.size #[.pointer c1,.pointer c2] rfl rfl 82 _ HB.out HSZ.out rfl (Qec _ _) ?_);go_ret;rw [HE.out];exact⟨rfl,.bad M2.out (by rw [HE.out];decide)⟩
theorem Qsn (w:World):
  Calls Tryz.prog 101 #[] w fun e w'=>∃v1 v2,e= .returned (.tuple #[.agg #[.pointer v1,.pointer v2],.bool true])∧Below w.heap.size w w'∧Qa8 (.pointer v1) (numF fixA) 288 w'∧Qa8 (.pointer v2) (numF fixB) 32 w':=by
 have hsz:(Tryz.prog.info? 82).map (·.size)=some 2:=by kernel_rfl
 have HSZ:=Qh hsz;have hB0:=(Below.refl _ w).alloc Ql (.cells #[.pointer none,.pointer none] 82);have HB0:=Qh (⟨hB0,Blk.new w _ _⟩:Below w.heap.size w (w.alloc (.cells #[.pointer none,.pointer none] 82))∧Blk (w.alloc (.cells #[.pointer none,.pointer none] 82)) w.heap.size 82 #[.pointer none,.pointer none]);clear hsz hB0;go_enter Tryz.func101,Tryz.ntmps101;go_wp2_with fail;refine(Qt9 _).mono ?_;rintro e w1 ⟨p,cap,z,rfl,b1,i1,i2,_,_⟩;have HB1:=Qh (⟨HB0.out.1.trans (b1.mono HB0.out.1.size),HB0.out.2.below b1 HB0.out.2.lt⟩:Below w.heap.size w w1∧Blk w1 w.heap.size 82 #[.pointer none,.pointer none]);have HI:=Qh (⟨i1,i2⟩:IS p 288 cap (numF fixA) w1∧IS (some ⟨z,0,none⟩) 32 32 (numF fixB) w1);clear HB0 b1 i1 i2;go_wp2_with fail;have C:=Qq6 p 288 cap (numF fixA) (some ⟨z,0,none⟩) 32 32 (numF fixB) w1 HI.out.1 HI.out.2 (by decide) (by decide)
 rw [decide_eq_true (⟨Qpk,Qpl⟩:newE (numF fixA) 288=0∧newE (numF fixB) 32=0)]at C;refine C.mono ?_;rintro e we ⟨v1,v2,rfl,be,k1,k2⟩;have HC1:=Qh (k1 Qpk);have HC2:=Qh (k2 Qpl);have HB:=Qh (HB1.out.2.below be HB1.out.2.lt);have HBw:=Qh (HB1.out.1.trans (be.mono HB1.out.1.size));clear HB1 be k1 k2 HI C;go_wp2_with (refine wpList_store_row rfl 82 _ _ rfl w.heap.size #[.pointer v1,.pointer v2] rfl rfl 82 _ HB.out HSZ.out rfl (Qec _ _) ?_);exact bodyPost_ret (Qak rfl _ _ w.heap.size 82 #[.pointer v1,.pointer v2] (0,0) _ _ rfl (HB.out.row_ _) Tryz.underlying82 rfl HSZ.out rfl) rfl ⟨v1,v2,rfl,Qai HBw.out Ql _,HC1.out.setRow HB.out (by decide) _,HC2.out.setRow HB.out (by decide) _⟩
theorem Q2a (w:World):(Op.equalIn 9999 80 (.pointer none) (.pointer none)).run Tryz.prog w= .ok true w:=by kernel_rfl
theorem Q0o (a:Addr) (w:World):(Op.equalIn 9999 80 (.pointer (some a)) (.pointer none)).run Tryz.prog w= .ok false w:=by kernel_rfl
def FX (k1 k2:Value) (w:World):Prop:=(k1= .pointer none∧k2= .pointer none)∨(Qa8 k1 (numF fixA) 288 w∧Qa8 k2 (numF fixB) 32 w)
def Dx (g:Nat) (s:ByteArray) (M:Nat) (x:Fl) (v:Value) (w w':World):Prop:=∃v' k1 k2,Mv g v w v' w'∧(x.e=0→UW g s M x.p x.o v' k1 k2 w'∧FX k1 k2 w')
theorem UW.setC {g:Nat} {s:ByteArray} {M p:Nat} {o:List Nat} {v k1 k2:Value} {w:World} (h:UW g s M p o v k1 k2 w) (c1 c2:Value):UW g s M p o v c1 c2 ((w.setCell ⟨g,4,none⟩ c1).setCell ⟨g,5,none⟩ c2):=
 ⟨(h.blk.set_ 4 _).set_ 5 _,ownsRow_setCell_below (ownsRow_setCell_below h.own (a:=⟨g,4,none⟩) (Nat.lt_succ_self g) _) (a:=⟨g,5,none⟩) (Nat.lt_succ_self g) _⟩
theorem Qsi (B:Nat→Nat) (T M p:Nat) (o:List Nat):Qcw B T M fixA fixB ⟨p,0,o⟩=Qat B T M (toL (numF fixA)) 288 (toL (numF fixB)) 32 (T+1) ⟨p,0,o⟩:=by
 unfold Qcw;rw [Qg7,Qq8,if_pos Qpk,Qg7,Qra,if_pos Qpl,Qg0,Qg0]
theorem Qa8.setU {c:Value} {f:Nat→Int} {n:Nat} {g:Nat} {s:ByteArray} {M p:Nat} {o:List Nat} {v k1 k2:Value} {w:World} (h:Qa8 c f n w) (hu:UW g s M p o v k1 k2 w) (j:Nat) (u:Value):Qa8 c f n (w.setCell ⟨g,j,none⟩ u):=
 h.mv hu ((Mv.refl g v w).set j u)
theorem Ql6 (g:Nat) (s:ByteArray) (M p:Nat) (o:List Nat) (v k1 k2:Value) (w:World) (h:UW g s M p o v k1 k2 w) (hx:FX k1 k2 w) (hs:s.size≤281474976710656) (hp:p≤8*s.size) (hM:M≤1048576) (ho:o.length≤M):
  Calls Tryz.prog 67 #[.pointer (some ⟨g,0,none⟩)] w fun e w'=>e= .returned (.int .i64 ((Qcw (bitH s) (8*s.size) M fixA fixB ⟨p,0,o⟩).e:Int))∧Dx g s M (Qcw (bitH s) (8*s.size) M fixA fixB ⟨p,0,o⟩) v w w':=by
 rw [Qsi];have H:=Qh h;have fin:Hid (∀c1 c2 v' w1,Qa8 c1 (numF fixA) 288 w1→Qa8 c2 (numF fixB) 32 w1→UW g s M p o v' c1 c2 w1→Mv g v w v' w1→∀S,S=Qat (bitH s) (8*s.size) M (toL (numF fixA)) 288 (toL (numF fixB)) 32 (8*s.size+1) ⟨p,0,o⟩→
   Calls Tryz.prog 102 #[.pointer (some ⟨g,0,none⟩),.agg #[c1,c2]] w1 fun e w'=>e= .returned (.int .i64 (S.e:Int))∧Dx g s M S v w w'):=Qh fun c1 c2 v' w1 hc1 hc2 hu m S hS=>by
  refine(Qlg g s M p o v' c1 c2 c1 c2 _ _ _ _ w1 hu hc1 hc2 hs hp hM ho).mono ?_;rintro e w' ⟨h1,v2,m2,h2⟩;rw [←hS]at h1 h2;exact⟨h1,v2,c1,c2,m.trans m2,fun h0=>⟨h2 h0,.inr ⟨hc1.mv hu m2,hc2.mv hu m2⟩⟩⟩
 obtain⟨S,hS⟩:∃S,S=Qat (bitH s) (8*s.size) M (toL (numF fixA)) 288 (toL (numF fixB)) 32 (8*s.size+1) ⟨p,0,o⟩:=⟨_,rfl⟩;rw [←hS];have HS:=Qh hS;have c4:=h.c4;have c5:=h.c5;clear hS h;rcases hx with⟨rfl,rfl⟩|⟨hc1,hc2⟩
 ·have C:=Qsn w;have q0:=Q2a;go_enter Tryz.func67,Tryz.ntmps67;go_wp2_with fail;refine C.mono ?_;rintro e w1 ⟨v1,v2,rfl,b1,hc1,hc2⟩;have h1:=H.out.below b1;have h2:=h1.setC (.pointer v1) (.pointer v2);have m2:=(((Mv.refl g v w).below b1).set 4 (.pointer v1)).set 5 (.pointer v2);have hu4:UW g s M p o v (.pointer v1) (.pointer none) (w1.setCell ⟨g,4,none⟩ (.pointer v1)):=⟨h1.blk.set_ 4 _,ownsRow_setCell_below h1.own (a:=⟨g,4,none⟩) (Nat.lt_succ_self g) _⟩;have C2:=fin.out (.pointer v1) (.pointer v2) v _ ((hc1.setU h1 4 _).setU hu4 5 (.pointer v2)) ((hc2.setU h1 4 _).setU hu4 5 (.pointer v2)) h2 m2 S HS.out;have d4:=h1.c4;have d5:=h1.c5;have g4:=h1.fz 4;have g5:=h1.fz 5;have f5:=hu4.fz 5;have e5:=hu4.c5;have z4:=h2.c4;have z5:=h2.c5;clear c4 c5 h1 h2 m2 hu4 C b1 hc1 hc2;go_wp2_with fail;refine C2.mono ?_;rintro e w2 ⟨rfl,hdx⟩;have HDX:=Qh hdx;clear hdx C2;go_wp2_with fail;go_ret;exact⟨rfl,HDX.out⟩
 ·have C2:=fin.out k1 k2 v w hc1 hc2 H.out (Mv.refl g v w) S HS.out;obtain⟨a1,rfl⟩:=hc1.some;obtain⟨a2,rfl⟩:=hc2.some;have q1:=Q0o;clear hc1 hc2;go_enter Tryz.func67,Tryz.ntmps67;go_wp2_with fail;refine C2.mono ?_;rintro e w2 ⟨rfl,hdx⟩;have HDX:=Qh hdx;clear hdx C2;go_wp2_with fail;go_ret;exact⟨rfl,HDX.out⟩
end Go.Proofs.YtbmcjdoiohcaaaaGreat
