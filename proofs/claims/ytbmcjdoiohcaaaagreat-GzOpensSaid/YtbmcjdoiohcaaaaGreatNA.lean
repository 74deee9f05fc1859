/- NA -/
import Derived.Test.YtbmcjdoiohcaaaaGreatMX
set_option maxRecDepth 100000
set_option maxHeartbeats 8000000
namespace Go.Proofs.YtbmcjdoiohcaaaaGreat
open Go.RowKit
def aliG (f:Nat→Int) (n a:Nat):Nat→Nat→Nat
 |k,0=>k
 |k,m+1=>if a+k<n∧f (a+k)=f a then aliG f n a (k+1) m else k
def ali (f:Nat→Int) (n a most:Nat):Nat:=aliG f n a 0 most
theorem Qo5 (f:Nat→Int) (n a:Nat):∀m k,k≤aliG f n a k m∧aliG f n a k m≤k+m
 |0,k=>⟨Ql,Ql⟩
 |m+1,k=>by
  have:=Qo5 f n a m (k+1);unfold aliG;split<;>omega
theorem Qtg (f:Nat→Int) (n a:Nat):∀m k,a+k≤n→a+aliG f n a k m≤n
 |0,k,h=>h
 |m+1,k,h=>by
  unfold aliG;split
  ·next hh=>exact Qtg f n a m (k+1) (by omega)
  ·exact h
theorem Qqp (f:Nat→Int) (n a:Nat):∀m k,(∀j,j<k→f (a+j)=f a)→∀j,j<aliG f n a k m→f (a+j)=f a
 |0,k,h,j,hj=>h j hj
 |m+1,k,h,j,hj=>by
  unfold aliG at hj;split at hj
  ·next hh=>exact Qqp f n a m (k+1) (fun i hi=>by
    by_cases e:i=k
    ·rw [e];exact hh.2
    ·exact h i (by omega)) j hj
  ·exact h j hj
theorem Qfm (f:Nat→Int) (n a most:Nat):ali f n a most≤most:=by have:=(Qo5 f n a most 0).2;unfold ali;omega
theorem Qkz {f:Nat→Int} {n a most:Nat} (h:a≤n):a+ali f n a most≤n:=Qtg f n a most 0 h
theorem Qo6 {f:Nat→Int} {n a most j:Nat} (h:j<ali f n a most):f (a+j)=f a:=Qqp f n a most 0 (fun j hj=>absurd hj (Nat.not_lt_zero j)) j h
theorem Qqq (f:Nat→Int) (n a:Nat):∀m M k,m≤M→aliG f n a k m=min (aliG f n a k M) (k+m)
 |0,M,k,_=>by have:=(Qo5 f n a M k).1;show k=min (aliG f n a k M) (k+0);omega
 |m+1,0,k,h=>by omega
 |m+1,M+1,k,h=>by
  unfold aliG;split
  ·rw [Qqq f n a m M (k+1) (by omega)];omega
  ·omega
theorem Qti (f:Nat→Int) (n a m M:Nat) (h:m≤M):ali f n a m=min (ali f n a M) m:=by
 unfold ali;rw [Qqq f n a m M 0 h];omega
theorem Qtf (f:Nat→Int) (n a:Nat) (h:a≤n):∀m k,aliG (fun i=>f (a+i)) (n-a) 0 k m=aliG f n a k m
 |0,k=>rfl
 |m+1,k=>by
  unfold aliG;rw [Qtf f n a h m (k+1)];simp only [Nat.zero_add,Nat.add_zero];by_cases e:a+k<n∧f (a+k)=f a
  ·rw [if_pos e,if_pos ⟨by omega,e.2⟩]
  ·rw [if_neg e,if_neg (fun hh=>e ⟨by omega,hh.2⟩)]
theorem Qth (f:Nat→Int) (n a most:Nat) (h:a≤n):ali (fun i=>f (a+i)) (n-a) 0 most=ali f n a most:=Qtf f n a h most 0
def runV (f:Nat→Int) (n a:Nat):(Int×Nat×Nat)×Nat:=
 if f a=0 then
  if 11≤ali f n a 138 then((18,ali f n a 138-11,7),ali f n a 138)
  else if 3≤ali f n a 10 then((17,ali f n a 10-3,3),ali f n a 10)else ((f a,0,0),1)
 else if 0<a∧f (a-1)=f a∧3≤ali f n a 6 then((16,ali f n a 6-3,2),ali f n a 6)else ((f a,0,0),1)
theorem Qmy (f:Nat→Int) (n a:Nat):0<(runV f n a).2:=by
 unfold runV;split
 ·split
  ·show 0<ali f n a 138;omega
  ·split
   ·show 0<ali f n a 10;omega
   ·exact Nat.one_pos
 ·split
  ·show 0<ali f n a 6;omega
  ·exact Nat.one_pos
theorem Qv5 {f:Nat→Int} {n a:Nat} (h:a<n):a+(runV f n a).2≤n:=by
 have h1:= @Qkz f n a 138 (by omega)
 have h2:= @Qkz f n a 10 (by omega)
 have h3:= @Qkz f n a 6 (by omega)
 unfold runV;split
 ·split
  ·exact h1
  ·split
   ·exact h2
   ·exact h
 ·split
  ·exact h3
  ·exact h
def Qdg (f:Nat→Int) (n:Nat):Nat→Nat→List (Int×Nat×Nat)
 |0,_=>[]
 |k+1,a=>if a<n then(runV f n a).1::Qdg f n k (a+(runV f n a).2)else []
def Qef (f:Nat→Int) (n:Nat):List (Int×Nat×Nat):=Qdg f n n 0
theorem Qf2 {f:Nat→Int} {n k a:Nat} (h:¬a<n):Qdg f n k a=[]:=by
 cases k with
 |zero=>rfl
 |succ k=>unfold Qdg;rw [if_neg h]
theorem Qcb {f:Nat→Int} {n k a:Nat} (h:a<n):Qdg f n (k+1) a=(runV f n a).1::Qdg f n k (a+(runV f n a).2):=by
 show(if a<n then _ else _)=_
 rw [if_pos h]
theorem Qcn (f:Nat→Int) (n:Nat):∀k j a,n≤a+k→n≤a+j→Qdg f n k a=Qdg f n j a
 |0,j,a,h,_=>by rw [Qf2 (k:=j) (by omega)];rfl
 |k+1,0,a,_,h=>by rw [Qf2 (by omega)];rfl
 |k+1,j+1,a,h1,h2=>by
  by_cases h:a<n
  ·have:=Qmy f n a;rw [Qcb h,Qcb h,Qcn f n k j _ (by omega) (by omega)]
  ·rw [Qf2 h,Qf2 h]
theorem Qf3 (f:Nat→Int) (n:Nat):∀k a,(Qdg f n k a).length≤k
 |0,_=>Nat.le_refl 0
 |k+1,a=>by
  unfold Qdg;split
  ·rw [List.length_cons];have:=Qf3 f n k (a+(runV f n a).2);omega
  ·exact Nat.zero_le _
theorem Qbz {o:Oper} {a:Act} {w:World} (x y:Operand) (n k:Nat) (ho:o.op= .call {callee:= .builtin .min,args:=#[x,y],argTypes:=#[3,3]}) (ht:o.type=3) (hx:a.eval x= .int .i64 (n:Int)) (hy:a.eval y= .int .i64 (k:Int)):
  Qbv Tryz.prog (fun w'=>w'=w) (.int .i64 ((min n k:Nat):Int)) ((execOp a.eval o).run Tryz.prog w):=by
 refine Qab (w:=w) ?_ rfl;simp [execOp,ho,ht,hx,hy,resolve,invoke,builtin];by_cases h:n≤k
 ·rw [show min n k=n by omega]
  have h2:(n:Int)≤k:=by omega
  go_simp
  intro;omega
 ·rw [show min n k=k by omega]
  have h':(k:Int)<n:=by omega
  go_simp
theorem Q3d (a:Addr):a.add 0=a:=by unfold Addr.add;split<;>simp_all
theorem Qji (p:Option Addr) (n cap:Nat) (f:Nat→Int) (most:Nat) (w:World) (h:IS p n cap f w) (hn:n≤17592186044416) (hm:most≤1000):
  Calls Tryz.prog 164 #[.slice p n cap,.int .i64 (most:Int)] w fun e w'=>e= .returned (.int .i64 (ali f n 0 most:Int))∧∃nq,w'=w.drewN nq:=by
 have HI:=Qh h;clear h;go_enter Tryz.func164,Tryz.ntmps164;go_wp2_with fail;go_loopw [5] (fun k wr=>∃i nq:Nat,k= .int .i64 (i:Int)∧i≤n∧i≤most∧Hid (aliG f n 0 i (most-i)=ali f n 0 most)∧wr=w.drewN nq) (fun k _=>most-(intOf k).toNat)
 case atStart=>exact⟨0,0,rfl,by omega,by omega,Qh rfl,rfl⟩
 case round=>
  obtain⟨i,nq,rfl,hin,him,HA,rfl⟩:=hrel;by_cases hlt:i<min most n
  ·obtain⟨a,rfl⟩:∃a,p=some a:=by
    cases p with
    |none=>have:=(HI.out.nil_ rfl).1;omega
    |some a=>exact⟨a,rfl⟩
   have HC1:=Qh (HI.out.cell a rfl i (by omega))
   have HC0:Hid (w.cell? a=some (.int .i64 (f 0))):=Qh (by have:=HI.out.cell a rfl 0 (by omega);rwa [Q3d]at this)
   have hlti:(i:Int)<((min most n:Nat):Int):=by omega
   have hni:(i:Int)<(n:Int):=by omega
   have hn0:0<(n:Int):=by omega
   have hn0':0<n:=by omega
   have hw:IntKind.i64.wrap ((i:Int)+1)=((i+1:Nat):Int):=by rw [IntWalk.i64_in _ (by omega)];rfl
   have HL:=Qh (⟨hlt,hin,him⟩:i<min most n∧i≤n∧i≤most);by_cases he:f i=f 0
   ·have HS:Hid (aliG f n 0 (i+1) (most-(i+1))=ali f n 0 most):=Qh (by
     rw [←HA.out,show most-i=most-(i+1)+1 by omega]
     show _=if 0+i<n∧f (0+i)=f 0 then aliG f n 0 (i+1) (most-(i+1))else i
     rw [if_pos ⟨by omega,by rw [Nat.zero_add];exact he⟩])
    have HE:=Qh he;have heb:(f i==f 0)=true:=by simpa using he
    clear hlt he HA HI;go_wp2_with fail;refine Qad (Two 1000 1001 fun _ _ wx=>wx=w.drewN (nq+1)) (by kernel_rfl) rfl ?_
    refine tA (i:=0) rfl rfl ?_;simp only [pu];refine tA (i:=1) rfl rfl ?_;simp only [pu];refine tA (i:=2) rfl rfl ?_;simp only [pu];refine tA (i:=3) rfl rfl ?_;simp only [pu];refine Qaa (i:=4) (v:= .int .i64 ((min most n:Nat):Int)) rfl (Qaf rfl (fun f1 f2 wx hT=> ?_)) ?_
    ·exact(Qbz (w:=wx) (.tmp 7) (.tmp 9) most n rfl rfl rfl rfl).mono fun _ e=>e▸hT
    simp only [pu];refine tV (i:=5) (v:= .bool true) rfl rfl ?_;simp only [pu];refine tA (i:=6) rfl rfl ?_;simp only [pu];refine tA (i:=7) rfl rfl ?_;simp only [pu];refine tA (i:=8) rfl rfl ?_;simp only [pu];refine tV (i:=9) (v:= .pointer (some (a.add i))) rfl rfl ?_;simp only [pu];refine tL (i:=10) (v:= .int .i64 (f i)) rfl rfl (fun f1 f2 wx hT=> ?_) ?_
    ·have cc:=HC1.out;go_simp;skip
    simp only [pu];refine tA (i:=11) rfl rfl ?_;simp only [pu];refine tV (i:=12) (v:= .pointer (some a)) rfl rfl ?_;simp only [pu];refine tL (i:=13) (v:= .int .i64 (f 0)) rfl rfl (fun f1 f2 wx hT=> ?_) ?_
    ·have cc:=HC0.out;go_simp;skip
    simp only [pu];refine tL (i:=14) (v:= .bool true) rfl rfl (fun f1 f2 wx hT=> ?_) ?_
    ·have hE:=HE.out;go_simp;skip
    simp only [pu];refine tV (i:=15) (v:= .bool true) rfl rfl ?_;simp only [pu];refine Qag rfl ?_ _;intro w2 hT2;subst hT2;go_wp2_with fail;exact⟨⟨i+1,nq+1,by go_num,by have:=HL.out;omega,by have:=HL.out;omega,HS,rfl⟩,by simp only [intOf];have:=HL.out;omega⟩
   ·have HS:Hid (ali f n 0 most=i):=Qh (by
     rw [←HA.out,show most-i=most-(i+1)+1 by omega]
     show(if 0+i<n∧f (0+i)=f 0 then aliG f n 0 (i+1) (most-(i+1))else i)=i
     rw [if_neg (fun h=>he (by have:=h.2;rwa [Nat.zero_add]at this))])
    have heb:(f i==f 0)=false:=by simpa using he
    clear hlt HA HI;go_wp2_with fail;refine Qad (Two 1000 1001 fun _ _ wx=>wx=w.drewN (nq+1)) (by kernel_rfl) rfl ?_
    refine tA (i:=0) rfl rfl ?_;simp only [pu];refine tA (i:=1) rfl rfl ?_;simp only [pu];refine tA (i:=2) rfl rfl ?_;simp only [pu];refine tA (i:=3) rfl rfl ?_;simp only [pu];refine Qaa (i:=4) (v:= .int .i64 ((min most n:Nat):Int)) rfl (Qaf rfl (fun f1 f2 wx hT=> ?_)) ?_
    ·exact(Qbz (w:=wx) (.tmp 7) (.tmp 9) most n rfl rfl rfl rfl).mono fun _ e=>e▸hT
    simp only [pu];refine tV (i:=5) (v:= .bool true) rfl rfl ?_;simp only [pu];refine tA (i:=6) rfl rfl ?_;simp only [pu];refine tA (i:=7) rfl rfl ?_;simp only [pu];refine tA (i:=8) rfl rfl ?_;simp only [pu];refine tV (i:=9) (v:= .pointer (some (a.add i))) rfl rfl ?_;simp only [pu];refine tL (i:=10) (v:= .int .i64 (f i)) rfl rfl (fun f1 f2 wx hT=> ?_) ?_
    ·have cc:=HC1.out;go_simp;skip
    simp only [pu];refine tA (i:=11) rfl rfl ?_;simp only [pu];refine tV (i:=12) (v:= .pointer (some a)) rfl rfl ?_;simp only [pu];refine tL (i:=13) (v:= .int .i64 (f 0)) rfl rfl (fun f1 f2 wx hT=> ?_) ?_
    ·have cc:=HC0.out;go_simp;skip
    simp only [pu];refine tV (i:=14) (v:= .bool false) rfl rfl ?_;simp only [pu];refine tV (i:=15) (v:= .bool false) rfl rfl ?_;simp only [pu];refine Qag rfl ?_ _;intro w2 hT2;subst hT2;go_wp2_with fail;go_ret;rw [HS.out];exact⟨rfl,nq+1,rfl⟩
  ·have HS:Hid (ali f n 0 most=i):=Qh (by
    rw [←HA.out];by_cases hm:most-i=0
    ·rw [hm];rfl
    ·rw [show most-i=most-(i+1)+1 by omega]
     show(if 0+i<n∧f (0+i)=f 0 then aliG f n 0 (i+1) (most-(i+1))else i)=i
     rw [if_neg (fun h=>by have:=h.1;omega)])
   have hlti:¬(i:Int)<((min most n:Nat):Int):=by omega
   have hltj:min most n≤i:=by omega
   clear hlt HA HI;go_wp2_with fail;refine Qad (Two 1000 1001 fun _ _ wx=>wx=w.drewN (nq+1)) (by kernel_rfl) rfl ?_
   refine tA (i:=0) rfl rfl ?_;simp only [pu];refine tA (i:=1) rfl rfl ?_;simp only [pu];refine tA (i:=2) rfl rfl ?_;simp only [pu];refine tA (i:=3) rfl rfl ?_;simp only [pu];refine Qaa (i:=4) (v:= .int .i64 ((min most n:Nat):Int)) rfl (Qaf rfl (fun f1 f2 wx hT=> ?_)) ?_
   ·exact(Qbz (w:=wx) (.tmp 7) (.tmp 9) most n rfl rfl rfl rfl).mono fun _ e=>e▸hT
   simp only [pu];refine tV (i:=5) (v:= .bool false) rfl rfl ?_;simp only [pu];refine tA (i:=6) rfl rfl ?_;simp only [pu];refine Qaa (i:=7) (v:=undef) rfl (Qae rfl) ?_;simp only [pu];refine Qaa (i:=8) (v:=undef) rfl (Qae rfl) ?_;simp only [pu];refine Qaa (i:=9) (v:=undef) rfl (Qae rfl) ?_;simp only [pu];refine Qaa (i:=10) (v:=undef) rfl (Qae rfl) ?_;simp only [pu];refine Qaa (i:=11) (v:=undef) rfl (Qae rfl) ?_;simp only [pu];refine Qaa (i:=12) (v:=undef) rfl (Qae rfl) ?_;simp only [pu];refine Qaa (i:=13) (v:=undef) rfl (Qae rfl) ?_;simp only [pu];refine Qaa (i:=14) (v:=undef) rfl (Qae rfl) ?_;simp only [pu];refine tV (i:=15) (v:= .bool false) rfl rfl ?_;simp only [pu];refine Qag rfl ?_ _;intro w2 hT2;subst hT2;go_wp2_with fail;go_ret;rw [HS.out];exact⟨rfl,nq+1,rfl⟩
def sevL (f:Nat→Int) (a:Nat):List Nat:=if f a=0 then [18,17]else if 0<a∧f (a-1)=f a then [16]else []
def nthI (l:List Nat) (i:Nat):Int:=((l.getD i 0:Nat):Int)
theorem IS.list {l:List Nat} {q:Nat} {w:World} (h:Blk w q 3 (l.map fun(x:Nat)=>Value.int .i64 (x:Int)).toArray) (hl:∀x∈l,x<1000):IS (some ⟨q,0,none⟩) l.length l.length (nthI l) w:=by
 have e:∀i,i<l.length→l.getD i 0<1000:=fun i hi=>by
  have:l.getD i 0=l[i]:=by simp [List.getD,hi]
  rw [this];exact hl _ (List.getElem_mem hi)
 refine⟨(fun e=>by cases e),fun a ha i hi=> ?_,(fun a ha=>by cases ha;exact h.lt),fun i hi=>by have:=e i hi;unfold nthI;omega,fun i hi=>by have:=e i hi;unfold nthI;omega⟩
 cases ha
 rw [Qay,Nat.zero_add,h.cell i];simp [nthI,List.getD,hi]
theorem Qm0 (p:Option Addr) (n cap:Nat) (f:Nat→Int) (k:Nat) (w:World) (h:IS p n cap f w) (hk:k<n) (hn:n≤17592186044416):
  Calls Tryz.prog 162 #[.slice p n cap,.int .i64 (k:Int)] w fun e w'=>∃q m c,e= .returned (.slice q m c)∧m=(sevL f k).length∧IS q m c (nthI (sevL f k)) w'∧Below w.heap.size w w':=by
 obtain⟨a,rfl⟩:∃a,p=some a:=by
  cases p with
  |none=>have:=(h.nil_ rfl).1;omega
  |some a=>exact⟨a,rfl⟩
 have hki:(k:Int)<(n:Int):=by omega
 have c1:=h.cell a rfl k hk;by_cases h0:f k=0
 ·rw [h0]at c1;have e:sevL f k=[18,17]:=if_pos h0;have hb:=Blk.new w 3 (([18,17]:List Nat).map fun(x:Nat)=>Value.int .i64 (x:Int)).toArray;have HR:Hid (IS (some ⟨w.heap.size,0,none⟩) 2 2 (nthI (sevL f k)) (w.alloc (.cells #[.int .i64 18,.int .i64 17] 3))):=Qh (by
   rw [e];exact IS.list (l:=[18,17]) hb (fun x hx=>by simp at hx;omega))
  have HB:Hid (Below w.heap.size w (w.alloc (.cells #[.int .i64 18,.int .i64 17] 3))):=Qh ((Below.refl _ w).alloc Ql _);have HE:=Qh e;clear h h0 e hb hk;go_enter Tryz.func162,Tryz.ntmps162;go_wp2_with fail;go_ret;exact⟨_,_,_,rfl,by rw [HE.out];rfl,HR.out,HB.out⟩
 ·have h0b:(f k==0)=false:=by simpa using h0
  by_cases hk0:k=0
  ·have e:sevL f k=[]:=by unfold sevL;rw [if_neg h0,if_neg (by omega)]
   have HE:=Qh e;have HR:Hid (IS none 0 0 (nthI (sevL f k)) w.drew):=Qh ⟨fun _=>⟨rfl,rfl⟩,(fun a e=>by cases e),(fun a e=>by cases e),fun i hi=>absurd hi (Nat.not_lt_zero i),fun i hi=>absurd hi (Nat.not_lt_zero i)⟩
   have hz:¬(k:Int)>0:=by omega
   have hz2:¬0<k:=by omega
   clear h e hk hk0;go_enter Tryz.func162,Tryz.ntmps162;go_wp2_with fail;refine Qad (Two 1000 1001 fun _ _ wx=>wx=w.drew) (by kernel_rfl) rfl ?_
   refine tA (i:=0) rfl rfl ?_;simp only [pu];refine tV (i:=1) (v:= .bool false) rfl rfl ?_;simp only [pu];refine tA (i:=2) rfl rfl ?_;simp only [pu];refine Qaa (i:=3) (v:=undef) rfl (Qae rfl) ?_;simp only [pu];refine Qaa (i:=4) (v:=undef) rfl (Qae rfl) ?_;simp only [pu];refine Qaa (i:=5) (v:=undef) rfl (Qae rfl) ?_;simp only [pu];refine Qaa (i:=6) (v:=undef) rfl (Qae rfl) ?_;simp only [pu];refine Qaa (i:=7) (v:=undef) rfl (Qae rfl) ?_;simp only [pu];refine Qaa (i:=8) (v:=undef) rfl (Qae rfl) ?_;simp only [pu];refine Qaa (i:=9) (v:=undef) rfl (Qae rfl) ?_;simp only [pu];refine Qaa (i:=10) (v:=undef) rfl (Qae rfl) ?_;simp only [pu];refine Qaa (i:=11) (v:=undef) rfl (Qae rfl) ?_;simp only [pu];refine Qaa (i:=12) (v:=undef) rfl (Qae rfl) ?_;simp only [pu];refine tV (i:=13) (v:= .bool false) rfl rfl ?_;simp only [pu];refine tA (i:=14) rfl rfl ?_;simp only [pu];refine Qag rfl ?_ _;intro w2 hT2;subst hT2;go_wp2_with fail;go_ret;exact⟨_,_,_,rfl,by rw [HE.out];rfl,HR.out,(Below.refl _ w).drew⟩
  ·obtain⟨c,hc⟩:∃c,k=c+1:=⟨k-1,by omega⟩
   have hgt:(k:Int)>0:=by omega
   have hgt2:0<k:=by omega
   have HCK:=Qh hc;have HCL:Hid (c<n):=Qh (by omega)
   have hw:IntKind.i64.wrap ((k:Int)-1)=(c:Int):=by rw [IntWalk.i64_in _ (by omega)];omega
   have hci:(c:Int)<(n:Int):=by omega
   have hcw:IntKind.i64.wrap (c:Int)=(c:Int):=IntWalk.i64_in _ (by omega)
   have HC1:=Qh (h.cell a rfl c HCL.out);have HC0:=Qh c1;clear hc;by_cases hs:f c=f k
   ·have e:sevL f k=[16]:=by unfold sevL;rw [if_neg h0,if_pos ⟨by omega,by rw [HCK.out,Nat.add_sub_cancel,←HCK.out];exact hs⟩]
    have HE:=Qh hs;have HS:=Qh e;have hb:=Blk.new w.drew 3 (([16]:List Nat).map fun(x:Nat)=>Value.int .i64 (x:Int)).toArray;have HR:Hid (IS (some ⟨w.heap.size,0,none⟩) 1 1 (nthI (sevL f k)) (w.drew.alloc (.cells #[.int .i64 16] 3))):=Qh (by
     rw [e];exact IS.list (l:=[16]) hb (fun x hx=>by simp at hx;omega))
    have HB:Hid (Below w.heap.size w (w.drew.alloc (.cells #[.int .i64 16] 3))):=Qh ((Below.refl _ w).drew.alloc Ql _);clear h hs e hb hk;go_enter Tryz.func162,Tryz.ntmps162;go_wp2_with fail;refine Qad (Two 1000 1001 fun _ _ wx=>wx=w.drew) (by kernel_rfl) rfl ?_
    refine tA (i:=0) rfl rfl ?_;simp only [pu];refine tV (i:=1) (v:= .bool true) rfl rfl ?_;simp only [pu];refine tA (i:=2) rfl rfl ?_;simp only [pu];refine tA (i:=3) rfl rfl ?_;simp only [pu];refine tA (i:=4) rfl rfl ?_;simp only [pu];refine tV (i:=5) (v:= .int .i64 (c:Int)) rfl rfl ?_;simp only [pu];refine tV (i:=6) (v:= .pointer (some (a.add c))) rfl rfl ?_;simp only [pu];refine tL (i:=7) (v:= .int .i64 (f c)) rfl rfl (fun f1 f2 wx hT=> ?_) ?_
    ·have cc:=HC1.out;go_simp;skip
    simp only [pu];refine tA (i:=8) rfl rfl ?_;simp only [pu];refine tA (i:=9) rfl rfl ?_;simp only [pu];refine tV (i:=10) (v:= .pointer (some (a.add k))) rfl rfl ?_;simp only [pu];refine tL (i:=11) (v:= .int .i64 (f k)) rfl rfl (fun f1 f2 wx hT=> ?_) ?_
    ·have cc:=HC0.out;go_simp;skip
    simp only [pu];refine tL (i:=12) (v:= .bool true) rfl rfl (fun f1 f2 wx hT=> ?_) ?_
    ·have hE:=HE.out;go_simp;skip
    simp only [pu];refine tV (i:=13) (v:= .bool true) rfl rfl ?_;simp only [pu];refine tA (i:=14) rfl rfl ?_;simp only [pu];refine Qag rfl ?_ _;intro w2 hT2;subst hT2;go_wp2_with fail;go_ret;exact⟨_,_,_,rfl,by rw [HS.out];rfl,HR.out,HB.out⟩
   ·have e:sevL f k=[]:=by unfold sevL;rw [if_neg h0,if_neg (fun h=>hs (by have:=h.2;rwa [HCK.out,Nat.add_sub_cancel,←HCK.out]at this))]
    have HE:=Qh hs;have hsb:(f c==f k)=false:=by simpa using hs
    have HS:=Qh e;have HR:Hid (IS none 0 0 (nthI (sevL f k)) w.drew):=Qh ⟨fun _=>⟨rfl,rfl⟩,(fun a e=>by cases e),(fun a e=>by cases e),fun i hi=>absurd hi (Nat.not_lt_zero i),fun i hi=>absurd hi (Nat.not_lt_zero i)⟩
    clear h e hk;go_enter Tryz.func162,Tryz.ntmps162;go_wp2_with fail;refine Qad (Two 1000 1001 fun _ _ wx=>wx=w.drew) (by kernel_rfl) rfl ?_
    refine tA (i:=0) rfl rfl ?_;simp only [pu];refine tV (i:=1) (v:= .bool true) rfl rfl ?_;simp only [pu];refine tA (i:=2) rfl rfl ?_;simp only [pu];refine tA (i:=3) rfl rfl ?_;simp only [pu];refine tA (i:=4) rfl rfl ?_;simp only [pu];refine tV (i:=5) (v:= .int .i64 (c:Int)) rfl rfl ?_;simp only [pu];refine tV (i:=6) (v:= .pointer (some (a.add c))) rfl rfl ?_;simp only [pu];refine tL (i:=7) (v:= .int .i64 (f c)) rfl rfl (fun f1 f2 wx hT=> ?_) ?_
    ·have cc:=HC1.out;go_simp;skip
    simp only [pu];refine tA (i:=8) rfl rfl ?_;simp only [pu];refine tA (i:=9) rfl rfl ?_;simp only [pu];refine tV (i:=10) (v:= .pointer (some (a.add k))) rfl rfl ?_;simp only [pu];refine tL (i:=11) (v:= .int .i64 (f k)) rfl rfl (fun f1 f2 wx hT=> ?_) ?_
    ·have cc:=HC0.out;go_simp;skip
    simp only [pu];refine tL (i:=12) (v:= .bool false) rfl rfl (fun f1 f2 wx hT=> ?_) ?_
    ·have hE:=HE.out;go_simp;skip
    simp only [pu];refine tV (i:=13) (v:= .bool false) rfl rfl ?_;simp only [pu];refine tA (i:=14) rfl rfl ?_;simp only [pu];refine Qag rfl ?_ _;intro w2 hT2;subst hT2;go_wp2_with fail;go_ret;exact⟨_,_,_,rfl,by rw [HS.out];rfl,HR.out,(Below.refl _ w).drew⟩
theorem Qc7 (a b c:Int):(#[Value.int .i64 a,Value.int .i64 b,Value.int .i64 c]:Array Value).all (·.oneCell')=true:=by kernel_rfl
theorem Qc8:(Tryz.prog.info? 138).map (·.size)=some 3:=by kernel_rfl
theorem Blk.drewN_ {w:World} {q:Nat} {t:TypeId} {cs:Array Value} (h:Blk w q t cs) (n:Nat):Blk (w.drewN n) q t cs:=h
theorem Qg2 (a:Addr) (k i:Nat):(a.add k).add i=a.add (k+i):=by
 unfold Addr.add;by_cases h1:k=0
 ·subst h1;simp
 ·by_cases h2:i=0
  ·subst h2;simp [h1]
  ·rw [if_neg h1,if_neg h2,if_neg (by omega),Nat.add_assoc]
theorem Qbu {B:Nat} {w w':World} (h:Below B w w') (n:Nat):Below B w (w'.drewN n):=⟨h.os,h.tape,h.output,h.size,h.block⟩
theorem IS.from_ {a:Addr} {n cap:Nat} {f:Nat→Int} {w:World} (h:IS (some a) n cap f w) (k:Nat):IS (some (a.add k)) (n-k) (cap-k) (fun i=>f (k+i)) w:=
 ⟨(fun e=>by cases e),fun b hb i hi=>by
  cases hb
  rw [Qg2];exact h.cell a rfl (k+i) (by omega),fun b hb=>by
  cases hb
  rw [show (a.add k).block=a.block by unfold Addr.add;split<;>rfl]
  exact h.lt a rfl,fun i hi=>h.lo _ (by omega),fun i hi=>h.hi _ (by omega)⟩
def tryS (f:Nat→Int) (n a:Nat):List Nat→(Int×Nat×Nat)×Nat
 |[]=>((f a,0,0),1)
 |s::r=>if(Qeb s).1≤ali f n a ((Qeb s).1+2^(Qeb s).2.1-1)then (((s:Int),ali f n a ((Qeb s).1+2^(Qeb s).2.1-1)-(Qeb s).1,(Qeb s).2.1),ali f n a ((Qeb s).1+2^(Qeb s).2.1-1))else tryS f n a r
theorem Qww (f:Nat→Int) (n a:Nat):tryS f n a (sevL f a)=runV f n a:=by
 unfold sevL runV;by_cases h0:f a=0
 ·rw [if_pos h0,if_pos h0];show(if 11≤ali f n a 138 then((18,ali f n a 138-11,7),ali f n a 138)else if 3≤ali f n a 10 then((17,ali f n a 10-3,3),ali f n a 10)else ((f a,0,0),1))=_;rfl
 ·rw [if_neg h0,if_neg h0];by_cases h1:0<a∧f (a-1)=f a
  ·rw [if_pos h1];show(if 3≤ali f n a 6 then((16,ali f n a 6-3,2),ali f n a 6)else ((f a,0,0),1))=_;by_cases h2:3≤ali f n a 6
   ·rw [if_pos h2,if_pos ⟨h1.1,h1.2,h2⟩]
   ·rw [if_neg h2,if_neg (fun h=>h2 h.2.2)]
  ·rw [if_neg h1,if_neg (fun h=>h1 ⟨h.1,h.2.1⟩)];rfl
theorem Qy3 {f:Nat→Int} {a s:Nat} (h:s∈sevL f a):s=16∨s=17∨s=18:=by
 unfold sevL at h;split at h
 ·simp at h;omega
 ·split at h
  ·simp at h;omega
  ·cases h
theorem Qy2 (f:Nat→Int) (a:Nat):(sevL f a).length≤2:=by
 unfold sevL;split
 ·decide
 ·split<;>decide
theorem Q1f (p:Option Addr) (n cap:Nat) (f:Nat→Int) (k:Nat) (w:World) (h:IS p n cap f w) (hk:k<n) (hc:n≤cap) (hn:n≤17592186044416) (hcap:cap≤9223372036854775807):
  Calls Tryz.prog 148 #[.slice p n cap,.int .i64 (k:Int)] w fun e w'=>e= .returned (.tuple #[.agg #[.int .i64 (runV f n k).1.1,.int .i64 ((runV f n k).1.2.1:Int),.int .i64 ((runV f n k).1.2.2:Int)],.int .i64 ((runV f n k).2:Int)])∧Below w.heap.size w w':=by
 obtain⟨a,rfl⟩:∃a,p=some a:=by
  cases p with
  |none=>have:=(h.nil_ rfl).1;omega
  |some a=>exact⟨a,rfl⟩
 have HSZ:=Qh Qc8;have b0:=(Below.refl _ w).alloc Ql (.cells #[.int .i64 0,.int .i64 0,.int .i64 0] 138);have HB0:=Qh (⟨b0,Blk.new w _ _,h.below b0⟩:Below w.heap.size w (w.alloc (.cells #[.int .i64 0,.int .i64 0,.int .i64 0] 138))∧Blk (w.alloc (.cells #[.int .i64 0,.int .i64 0,.int .i64 0] 138)) w.heap.size 138 #[.int .i64 0,.int .i64 0,.int .i64 0]∧IS (some a) n cap f (w.alloc (.cells #[.int .i64 0,.int .i64 0,.int .i64 0] 138)));have HI0:=Qh h;clear h b0;go_enter Tryz.func148,Tryz.ntmps148;go_wp2_with fail;refine(Qm0 (some a) n cap f k _ HB0.out.2.2 hk hn).mono ?_;rintro e w1 ⟨q,m,c,rfl,hm,hS,b1⟩;have HI:Hid (∀wx,Below w.heap.size w wx→IS (some a) n cap f wx):=Qh fun wx hb=>HI0.out.below hb;have HB1:Hid (Below w.heap.size w w1):=Qh (HB0.out.1.trans (b1.mono HB0.out.1.size));have HQ1:Hid (Blk w1 w.heap.size 138 #[.int .i64 0,.int .i64 0,.int .i64 0]):=Qh (HB0.out.2.1.below b1 HB0.out.2.1.lt);have HS:=Qh hS;have HM:=Qh hm;have hm2:m≤2:=by rw [hm];exact Qy2 f k
 have HW1:=Qh (Nat.le_refl w1.heap.size);clear HB0 b1 hS hm HI0;go_wp2_with fail;go_loopw [16] (fun u wr=>∃i:Nat,i≤m∧u= .int .i64 (i:Int)∧Hid (tryS f n k ((sevL f k).drop i)=runV f n k)∧Hid (Below w.heap.size w wr)∧Hid (Blk wr w.heap.size 138 #[.int .i64 0,.int .i64 0,.int .i64 0])∧Hid (IS q m c (nthI (sevL f k)) wr)) (fun u _=>m-(intOf u).toNat)
 case atStart=>exact⟨0,by omega,rfl,Qh (Qww f n k),HB1,HQ1,HS⟩
 case round=>
  obtain⟨i,him,rfl,HK0,HB,HQ,HSr⟩:=hrel;clear HB1 HQ1 HS HW1;by_cases hlt:i<m
  ·have hlti:(i:Int)<(m:Int):=by omega
   obtain⟨aq,rfl⟩:∃aq,q=some aq:=by
    cases q with
    |none=>have:=(HSr.out.nil_ rfl).1;omega
    |some a=>exact⟨a,rfl⟩
   have hiw:IntKind.i64.wrap ((i:Int)+1)=((i+1:Nat):Int):=by rw [IntWalk.i64_in _ (by omega)];rfl
   have HLl:Hid (i<(sevL f k).length∧i<m∧m≤2):=Qh ⟨by have:=HM.out;omega,hlt,hm2⟩
   obtain⟨rest,hrest⟩:∃rest,rest=(sevL f k).drop (i+1):=⟨_,rfl⟩;obtain⟨s,hs⟩:∃s,s=(sevL f k).getD i 0:=⟨_,rfl⟩;have hd:(sevL f k).drop i=s::rest:=by
    rw [List.drop_eq_getElem_cons HLl.out.1,hs,hrest];simp [List.getD,HLl.out.1]
   have hsm:s=16∨s=17∨s=18:=Qy3 (f:=f) (a:=k) (by
    rw [hs];have:(sevL f k).getD i 0=(sevL f k)[i]'HLl.out.1:=by simp [List.getD,HLl.out.1]
    rw [this];exact List.getElem_mem _)
   have cs:wr.cell? (aq.add i)=some (.int .i64 (s:Int)):=by rw [HSr.out.cell aq rfl i hlt];unfold nthI;rw [←hs]
   have HK:Hid (tryS f n k (s::rest)=runV f n k):=Qh (by rw [←hd];exact HK0.out)
   have HLR:Hid ((i<m∧m≤2)∧(sevL f k).drop (i+1)=rest):=Qh ⟨HLl.out.2,hrest.symm⟩;have HSd:Hid (∀nx,IS (some aq) m c (nthI (sevL f k)) (wr.drewN nx)):=Qh fun nx=>HSr.out.below (Qbu (Below.refl _ wr) nx);have hkn:(k:Int)≤(n:Int):=by omega
   have hkc:¬cap=k:=by omega
   have hkc2:(k:Int)≤(cap:Int):=by omega
   have hkw:IntKind.i64.wrap (k:Int)=(k:Int):=IntWalk.i64_in _ (by omega)
   clear hd hs hrest HK0 HLl hlt;rcases hsm with rfl|rfl|rfl
   ·have HC:Hid (∀nx,Calls Tryz.prog 164 #[.slice (some (a.add k)) (n-k) (cap-k),.int .i64 6] (wr.drewN nx) fun e w'=>e= .returned (.int .i64 ((ali f n k 6:Nat):Int))∧∃nq,w'=wr.drewN nq):=Qh fun nx=>by
     have C:=Qji (some (a.add k)) (n-k) (cap-k) (fun i=>f (k+i)) 6 (wr.drewN nx) ((HI.out _ (Qbu HB.out nx)).from_ k) (by omega) (by decide)
     rw [Qth f n k 6 (by omega)]at C
     refine C.mono ?_;rintro e w' ⟨h1,nq,h2⟩;exact⟨h1,nx+nq,by rw [h2,World.drewN_drewN]⟩
    have HTRY:Hid (tryS f n k (16::rest)=if 3≤ali f n k 6 then((16,ali f n k 6-3,2),ali f n k 6)else tryS f n k rest):=Qh rfl;have htl:=Qfm f n k 6;obtain⟨t,ht⟩:∃t,t=ali f n k 6:=⟨_,rfl⟩;rw [←ht]at HC HTRY htl;have T:Calls Tryz.prog 163 #[.int .i64 16] wr fun e w'=>e= .returned (.tuple #[.int .i64 3,.int .i64 2,.bool true])∧wr=w':=Qcx 16 (by decide) wr
    clear ht;go_wp2_with fail;refine T.mono ?_;rintro e wt ⟨rfl,rfl⟩;clear T;go_wp2_with fail;refine Qad (Two 1000 1001 fun _ _ wx=>∃nx,wx=wr.drewN nx) (by kernel_rfl) ⟨1,rfl⟩ ?_
    refine tN (i:=0) rfl rfl ?_;simp only [pu];refine tM (i:=1) (v:= .int .i64 (k:Int)) rfl rfl ?_;simp only [pu];refine tM (i:=2) (v:= .slice (some (a.add k)) (n-k) (cap-k)) rfl rfl ?_;simp only [pu];refine tN (i:=3) rfl rfl ?_;simp only [pu];refine tN (i:=4) rfl rfl ?_;simp only [pu];refine tN (i:=5) rfl rfl ?_;simp only [pu];refine tN (i:=6) (v:= .int .i64 7) rfl rfl ?_;simp only [pu];refine tN (i:=7) (v:= .int .i64 6) rfl rfl ?_;simp only [pu];refine Qaa (i:=8) (v:= .int .i64 (t:Int)) rfl (Qaf rfl (fun f1 f2 wx hT=> ?_)) ?_
    ·obtain⟨nx,hx⟩:=hT;subst hx;refine Qao (f:=164) ((HC.out nx).mono fun e w' ⟨he,hq⟩=>⟨he,hq⟩) ?_;go_simp;skip
    simp only [pu];refine tM (i:=9) (v:= .int .i64 (t:Int)) rfl rfl ?_;simp only [pu];refine Qag rfl ?_ _;rintro w2 ⟨nx,rfl⟩;have HB2:=Qh (Qbu HB.out nx);have HQ2:=Qh (HQ.out.drewN nx);have HS2:=Qh (HSd.out nx);clear HB HQ HC HSd;generalize wr.drewN nx=wz at HB2 HQ2 HS2⊢;by_cases hge:3≤t
    ·have HE:Hid (runV f n k=((16,t-3,2),t)):=Qh (by rw [←HK.out,HTRY.out,if_pos hge])
     have hgi:(t:Int)≥3:=by omega
     have hgi2:3≤t:=hge;have hw:IntKind.i64.wrap ((t:Int)-3)=((t-3:Nat):Int):=by rw [IntWalk.i64_in _ (by omega)];omega
     have hw2:(t:Int)-3=((t-3:Nat):Int):=by omega
     clear HK HTRY;go_wp2_with (refine wpList_store_row rfl 138 _ _ rfl w.heap.size #[.int .i64 16,.int .i64 ((t-3:Nat):Int),.int .i64 2] rfl rfl 138 _ HQ2.out HSZ.out rfl (Qc7 _ _ _) ?_);rw [HE.out];exact bodyPost_ret (Qak rfl _ _ w.heap.size 138 #[.int .i64 16,.int .i64 ((t-3:Nat):Int),.int .i64 2] (0,0) _ _ rfl (HQ2.out.row_ _) Tryz.underlying138 rfl HSZ.out rfl) rfl ⟨rfl,Qai HB2.out Ql _⟩
    ·have HK2:Hid (tryS f n k rest=runV f n k):=Qh (by rw [←HK.out,HTRY.out,if_neg hge])
     have hgi:¬(t:Int)≥3:=by omega
     have hgi2:t<3:=by omega
     clear HK HTRY;go_wp2_with fail;exact⟨⟨i+1,by have:=HLR.out;omega,by go_num,Qh (by rw [HLR.out.2];exact HK2.out),HB2,HQ2,HS2⟩,by simp only [intOf];have:=HLR.out;omega⟩
   ·have HC:Hid (∀nx,Calls Tryz.prog 164 #[.slice (some (a.add k)) (n-k) (cap-k),.int .i64 10] (wr.drewN nx) fun e w'=>e= .returned (.int .i64 ((ali f n k 10:Nat):Int))∧∃nq,w'=wr.drewN nq):=Qh fun nx=>by
     have C:=Qji (some (a.add k)) (n-k) (cap-k) (fun i=>f (k+i)) 10 (wr.drewN nx) ((HI.out _ (Qbu HB.out nx)).from_ k) (by omega) (by decide)
     rw [Qth f n k 10 (by omega)]at C
     refine C.mono ?_;rintro e w' ⟨h1,nq,h2⟩;exact⟨h1,nx+nq,by rw [h2,World.drewN_drewN]⟩
    have HTRY:Hid (tryS f n k (17::rest)=if 3≤ali f n k 10 then((17,ali f n k 10-3,3),ali f n k 10)else tryS f n k rest):=Qh rfl;have htl:=Qfm f n k 10;obtain⟨t,ht⟩:∃t,t=ali f n k 10:=⟨_,rfl⟩;rw [←ht]at HC HTRY htl;have T:Calls Tryz.prog 163 #[.int .i64 17] wr fun e w'=>e= .returned (.tuple #[.int .i64 3,.int .i64 3,.bool true])∧wr=w':=Qcx 17 (by decide) wr
    clear ht;go_wp2_with fail;refine T.mono ?_;rintro e wt ⟨rfl,rfl⟩;clear T;go_wp2_with fail;refine Qad (Two 1000 1001 fun _ _ wx=>∃nx,wx=wr.drewN nx) (by kernel_rfl) ⟨1,rfl⟩ ?_
    refine tN (i:=0) rfl rfl ?_;simp only [pu];refine tM (i:=1) (v:= .int .i64 (k:Int)) rfl rfl ?_;simp only [pu];refine tM (i:=2) (v:= .slice (some (a.add k)) (n-k) (cap-k)) rfl rfl ?_;simp only [pu];refine tN (i:=3) rfl rfl ?_;simp only [pu];refine tN (i:=4) rfl rfl ?_;simp only [pu];refine tN (i:=5) rfl rfl ?_;simp only [pu];refine tN (i:=6) (v:= .int .i64 11) rfl rfl ?_;simp only [pu];refine tN (i:=7) (v:= .int .i64 10) rfl rfl ?_;simp only [pu];refine Qaa (i:=8) (v:= .int .i64 (t:Int)) rfl (Qaf rfl (fun f1 f2 wx hT=> ?_)) ?_
    ·obtain⟨nx,hx⟩:=hT;subst hx;refine Qao (f:=164) ((HC.out nx).mono fun e w' ⟨he,hq⟩=>⟨he,hq⟩) ?_;go_simp;skip
    simp only [pu];refine tM (i:=9) (v:= .int .i64 (t:Int)) rfl rfl ?_;simp only [pu];refine Qag rfl ?_ _;rintro w2 ⟨nx,rfl⟩;have HB2:=Qh (Qbu HB.out nx);have HQ2:=Qh (HQ.out.drewN nx);have HS2:=Qh (HSd.out nx);clear HB HQ HC HSd;generalize wr.drewN nx=wz at HB2 HQ2 HS2⊢;by_cases hge:3≤t
    ·have HE:Hid (runV f n k=((17,t-3,3),t)):=Qh (by rw [←HK.out,HTRY.out,if_pos hge])
     have hgi:(t:Int)≥3:=by omega
     have hgi2:3≤t:=hge;have hw:IntKind.i64.wrap ((t:Int)-3)=((t-3:Nat):Int):=by rw [IntWalk.i64_in _ (by omega)];omega
     have hw2:(t:Int)-3=((t-3:Nat):Int):=by omega
     clear HK HTRY;go_wp2_with (refine wpList_store_row rfl 138 _ _ rfl w.heap.size #[.int .i64 17,.int .i64 ((t-3:Nat):Int),.int .i64 3] rfl rfl 138 _ HQ2.out HSZ.out rfl (Qc7 _ _ _) ?_);rw [HE.out];exact bodyPost_ret (Qak rfl _ _ w.heap.size 138 #[.int .i64 17,.int .i64 ((t-3:Nat):Int),.int .i64 3] (0,0) _ _ rfl (HQ2.out.row_ _) Tryz.underlying138 rfl HSZ.out rfl) rfl ⟨rfl,Qai HB2.out Ql _⟩
    ·have HK2:Hid (tryS f n k rest=runV f n k):=Qh (by rw [←HK.out,HTRY.out,if_neg hge])
     have hgi:¬(t:Int)≥3:=by omega
     have hgi2:t<3:=by omega
     clear HK HTRY;go_wp2_with fail;exact⟨⟨i+1,by have:=HLR.out;omega,by go_num,Qh (by rw [HLR.out.2];exact HK2.out),HB2,HQ2,HS2⟩,by simp only [intOf];have:=HLR.out;omega⟩
   ·have HC:Hid (∀nx,Calls Tryz.prog 164 #[.slice (some (a.add k)) (n-k) (cap-k),.int .i64 138] (wr.drewN nx) fun e w'=>e= .returned (.int .i64 ((ali f n k 138:Nat):Int))∧∃nq,w'=wr.drewN nq):=Qh fun nx=>by
     have C:=Qji (some (a.add k)) (n-k) (cap-k) (fun i=>f (k+i)) 138 (wr.drewN nx) ((HI.out _ (Qbu HB.out nx)).from_ k) (by omega) (by decide)
     rw [Qth f n k 138 (by omega)]at C
     refine C.mono ?_;rintro e w' ⟨h1,nq,h2⟩;exact⟨h1,nx+nq,by rw [h2,World.drewN_drewN]⟩
    have HTRY:Hid (tryS f n k (18::rest)=if 11≤ali f n k 138 then((18,ali f n k 138-11,7),ali f n k 138)else tryS f n k rest):=Qh rfl;have htl:=Qfm f n k 138;obtain⟨t,ht⟩:∃t,t=ali f n k 138:=⟨_,rfl⟩;rw [←ht]at HC HTRY htl;have T:Calls Tryz.prog 163 #[.int .i64 18] wr fun e w'=>e= .returned (.tuple #[.int .i64 11,.int .i64 7,.bool true])∧wr=w':=Qcx 18 (by decide) wr
    clear ht;go_wp2_with fail;refine T.mono ?_;rintro e wt ⟨rfl,rfl⟩;clear T;go_wp2_with fail;refine Qad (Two 1000 1001 fun _ _ wx=>∃nx,wx=wr.drewN nx) (by kernel_rfl) ⟨1,rfl⟩ ?_
    refine tN (i:=0) rfl rfl ?_;simp only [pu];refine tM (i:=1) (v:= .int .i64 (k:Int)) rfl rfl ?_;simp only [pu];refine tM (i:=2) (v:= .slice (some (a.add k)) (n-k) (cap-k)) rfl rfl ?_;simp only [pu];refine tN (i:=3) rfl rfl ?_;simp only [pu];refine tN (i:=4) rfl rfl ?_;simp only [pu];refine tN (i:=5) rfl rfl ?_;simp only [pu];refine tN (i:=6) (v:= .int .i64 139) rfl rfl ?_;simp only [pu];refine tN (i:=7) (v:= .int .i64 138) rfl rfl ?_;simp only [pu];refine Qaa (i:=8) (v:= .int .i64 (t:Int)) rfl (Qaf rfl (fun f1 f2 wx hT=> ?_)) ?_
    ·obtain⟨nx,hx⟩:=hT;subst hx;refine Qao (f:=164) ((HC.out nx).mono fun e w' ⟨he,hq⟩=>⟨he,hq⟩) ?_;go_simp;skip
    simp only [pu];refine tM (i:=9) (v:= .int .i64 (t:Int)) rfl rfl ?_;simp only [pu];refine Qag rfl ?_ _;rintro w2 ⟨nx,rfl⟩;have HB2:=Qh (Qbu HB.out nx);have HQ2:=Qh (HQ.out.drewN nx);have HS2:=Qh (HSd.out nx);clear HB HQ HC HSd;generalize wr.drewN nx=wz at HB2 HQ2 HS2⊢;by_cases hge:11≤t
    ·have HE:Hid (runV f n k=((18,t-11,7),t)):=Qh (by rw [←HK.out,HTRY.out,if_pos hge])
     have hgi:(t:Int)≥11:=by omega
     have hgi2:11≤t:=hge;have hw:IntKind.i64.wrap ((t:Int)-11)=((t-11:Nat):Int):=by rw [IntWalk.i64_in _ (by omega)];omega
     have hw2:(t:Int)-11=((t-11:Nat):Int):=by omega
     clear HK HTRY;go_wp2_with (refine wpList_store_row rfl 138 _ _ rfl w.heap.size #[.int .i64 18,.int .i64 ((t-11:Nat):Int),.int .i64 7] rfl rfl 138 _ HQ2.out HSZ.out rfl (Qc7 _ _ _) ?_);rw [HE.out];exact bodyPost_ret (Qak rfl _ _ w.heap.size 138 #[.int .i64 18,.int .i64 ((t-11:Nat):Int),.int .i64 7] (0,0) _ _ rfl (HQ2.out.row_ _) Tryz.underlying138 rfl HSZ.out rfl) rfl ⟨rfl,Qai HB2.out Ql _⟩
    ·have HK2:Hid (tryS f n k rest=runV f n k):=Qh (by rw [←HK.out,HTRY.out,if_neg hge])
     have hgi:¬(t:Int)≥11:=by omega
     have hgi2:t<11:=by omega
     clear HK HTRY;go_wp2_with fail;exact⟨⟨i+1,by have:=HLR.out;omega,by go_num,Qh (by rw [HLR.out.2];exact HK2.out),HB2,HQ2,HS2⟩,by simp only [intOf];have:=HLR.out;omega⟩
  ·obtain rfl:i=m:=by omega
   have hlti:¬(i:Int)<(i:Int):=by omega
   have HE:Hid (runV f n k=((f k,0,0),1)):=Qh (by rw [←HK0.out,List.drop_eq_nil_of_le (by have:=HM.out;omega)];rfl)
   have hkn:(k:Int)<(n:Int):=by omega
   have ck:=(HI.out wr HB.out).cell a rfl k hk;clear HK0;go_wp2_with (refine wpList_store_row rfl 138 _ _ rfl w.heap.size #[.int .i64 (f k),.int .i64 0,.int .i64 0] rfl rfl 138 _ HQ.out HSZ.out rfl (Qc7 _ _ _) ?_);rw [HE.out];exact bodyPost_ret (Qak rfl _ _ w.heap.size 138 #[.int .i64 (f k),.int .i64 0,.int .i64 0] (0,0) _ _ rfl (HQ.out.row_ _) Tryz.underlying138 rfl HSZ.out rfl) rfl ⟨rfl,Qai HB.out Ql _⟩
end Go.Proofs.YtbmcjdoiohcaaaaGreat
