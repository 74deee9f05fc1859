/- MX -/
import Derived.OwnWalk
import Derived.Laws.BitsLemmas
import Derived.Test.YtbmcjdoiohcaaaaGreatMD
import Derived.IntWalk
import Derived.Laws.CopyRow
import Derived.Lib.AppendZerosOnto
import Derived.Laws.AppendOwn
import Derived.OrdersHeld
set_option maxRecDepth 100000
set_option maxHeartbeats 8000000
namespace Go.Proofs.YtbmcjdoiohcaaaaGreat
open Go.RowKit
theorem Qr9:(Tryz.prog.info? 5).map (fun i=>(i.zero,i.size,i.bytes))=some (some (.int .u8 0),1,1):=by kernel_rfl
def Qgt (k:Nat):Nat:=(k-4) /4
def Qiz:Nat→Nat
 |0=>3
 |k+1=>Qiz k+2^Qgt k
def Qb2 (k:Nat):Nat:=k /2-1
def Qbe:Nat→Nat
 |0=>1
 |k+1=>Qbe k+2^Qb2 k
def Qan (x:Int):Nat×Nat×Bool:=if x=285 then(258,0,true)else if 257≤x∧x≤284 then(Qiz (x-257).toNat,Qgt (x-257).toNat,true)else (0,0,false)
def Qa9 (x:Int):Nat×Nat×Bool:=if 0≤x∧x≤29 then(Qbe x.toNat,Qb2 x.toNat,true)else (0,0,false)
def vb (B:Nat→Nat) (p:Nat):Nat→Nat
 |0=>0
 |n+1=>vb B p n+B (p+n)*2^n
theorem Qzi {B:Nat→Nat} (h:∀i,B i<2) (p n:Nat):vb B p n<2^n:=by
 induction n with
 |zero=>exact Nat.one_pos
 |succ n ih=>
  have:=h (p+n);show vb B p n+B (p+n)*2^n<_;rw [Nat.pow_succ];rcases(show B (p+n)=0∨B (p+n)=1 by omega)with e|e<;>rw [e]<;>omega
structure Fl where
 p:Nat
 e:Nat
 o:List Nat
def Qal (B:Nat→Nat) (T n:Nat) (x:Fl):Nat×Fl:=
 if x.e≠0 then(0,x)else if x.p+n≤T then(vb B x.p n,⟨x.p+n,0,x.o⟩)else (0,⟨T,2,x.o⟩)
def symS (B:Nat→Nat) (T:Nat) (l:Nat→Nat) (n:Nat) (x:Fl):Nat×Fl:=
 if x.e≠0 then(0,x)else match Qc0 l n B T x.p 0 15 with
  |(k,q,0)=>(k,⟨q,0,x.o⟩)
  |_=>(0,⟨x.p,2,x.o⟩)
def sayS (M b:Nat) (x:Fl):Fl:=if x.e≠0 then x else if x.o.length≥M then⟨x.p,9,x.o⟩else ⟨x.p,0,x.o++[b]⟩
def Qdl (B:Nat→Nat) (T M:Nat):Nat→Fl→Fl
 |0,x=>x
 |n+1,x=>if x.e≠0 then x else Qdl B T M n (sayS M (Qal B T 8 x).1 (Qal B T 8 x).2)
def Qb8 (B:Nat→Nat) (T M:Nat) (x:Fl):Fl:=
 let a:=Qal B T 16 ⟨(x.p+7) /8*8,x.e,x.o⟩
 let b:=Qal B T 16 a.2
 Qdl B T M a.1 (if b.2.e=0∧b.1+a.1≠65535 then⟨b.2.p,2,b.2.o⟩else b.2)
def Qcp (M d:Nat):Nat→Fl→Fl
 |0,x=>x
 |n+1,x=>if x.e≠0 then x else Qcp M d n (sayS M (x.o.getD (x.o.length-d) 0) x)
def Qa7 (B:Nat→Nat) (T M k:Nat) (l:Nat→Nat) (n:Nat) (x:Fl):Fl:=
 if(Qan (k:Int)).2.2=false then⟨x.p,2,x.o⟩else
  let a:=Qal B T (Qan (k:Int)).2.1 x
  let s:=symS B T l n a.2
  if s.2.e≠0∨(Qa9 (s.1:Int)).2.2=false then⟨s.2.p,2,s.2.o⟩else
   let b:=Qal B T (Qa9 (s.1:Int)).2.1 s.2
   let d:=(Qa9 (s.1:Int)).1+b.1
   Qcp M d ((Qan (k:Int)).1+a.1) (if b.2.e=0∧d>b.2.o.length then⟨b.2.p,2,b.2.o⟩else b.2)
def Qat (B:Nat→Nat) (T M:Nat) (l:Nat→Nat) (n:Nat) (g:Nat→Nat) (m:Nat):Nat→Fl→Fl
 |0,x=>x
 |f+1,x=>if x.e≠0 then x else
  let s:=symS B T l n x
  if s.2.e≠0∨s.1=256 then s.2 else
   if s.1<256 then Qat B T M l n g m f (sayS M s.1 s.2)else Qat B T M l n g m f (Qa7 B T M s.1 g m s.2)
def Qdb (l:List Nat) (x:Fl):Fl:=if x.e≠0 then x else if newE (fun i=>(l.getD i 0:Int)) l.length=0 then x else⟨x.p,2,x.o⟩
def Qcw (B:Nat→Nat) (T M:Nat) (a b:List Nat) (x:Fl):Fl:=
 Qat B T M (fun i=>a.getD i 0) a.length (fun i=>b.getD i 0) b.length (T+1) (Qdb b (Qdb a x))
def fixA:List Nat:=List.replicate 144 8++List.replicate 112 9++List.replicate 24 7++List.replicate 8 8
def fixB:List Nat:=List.replicate 32 5
def ordL:List Nat:=[16,17,18,0,8,7,9,6,10,5,11,4,12,3,13,2,14,1,15]
def fewS (B:Nat→Nat) (T:Nat):Nat→Nat→(Nat→Nat)→Fl→(Nat→Nat)×Fl
 |0,_,g,x=>(g,x)
 |n+1,i,g,x=>fewS B T n (i+1) (fun j=>if j=ordL.getD i 0 then(Qal B T 3 x).1 else g j) (Qal B T 3 x).2
def Qbx (l:List Nat) (v n e:Nat):List Nat:=if e=0 then l++List.replicate n v else l
def Qbf (B:Nat→Nat) (T:Nat) (g:Nat→Nat) (all:Nat):Nat→List Nat→Fl→List Nat×Fl
 |0,l,x=>(l,x)
 |f+1,l,x=>if l.length≥all∨x.e≠0 then(l,x)else
  let s:=symS B T g 19 x
  if s.2.e≠0 then(l,s.2)else
  if s.1<16 then Qbf B T g all f (l++[s.1]) s.2 else
  if s.1=16∧l.length=0 then(l,⟨s.2.p,2,s.2.o⟩)else
  if s.1=16 then Qbf B T g all f (Qbx l (l.getD (l.length-1) 0) (3+(Qal B T 2 s.2).1) (Qal B T 2 s.2).2.e) (Qal B T 2 s.2).2 else
  if s.1=17 then Qbf B T g all f (Qbx l 0 (3+(Qal B T 3 s.2).1) (Qal B T 3 s.2).2.e) (Qal B T 3 s.2).2 else
   Qbf B T g all f (Qbx l 0 (11+(Qal B T 7 s.2).1) (Qal B T 7 s.2).2.e) (Qal B T 7 s.2).2
def Qbp (B:Nat→Nat) (T:Nat) (x:Fl):(List Nat×List Nat)×Fl:=
 let a:=Qal B T 5 x
 let b:=Qal B T 5 a.2
 let c:=Qal B T 4 b.2
 let many:=257+a.1
 let far:=1+b.1
 let g:=fewS B T (4+c.1) 0 (fun _=>0) (if c.2.e=0∧(many>286∨far>30)then ⟨c.2.p,2,c.2.o⟩else c.2)
 let t:=Qbf B T g.1 (many+far) (many+far+1) [] (Qdb ((List.range 19).map g.1) g.2)
 let y:=if t.2.e=0∧(t.1.length>many+far∨t.1.getD 256 0=0)then ⟨t.2.p,2,t.2.o⟩else t.2
 if y.e≠0 then(([],[]),y)else ((t.1.take many,t.1.drop many),y)
def Qch (B:Nat→Nat) (T M:Nat) (x:Fl):Bool×Fl:=
 let a:=Qal B T 1 x
 let k:=Qal B T 2 a.2
 (decide (a.1=1),if k.2.e≠0 then k.2 else if k.1=0 then Qb8 B T M k.2 else if k.1=1 then Qcw B T M fixA fixB k.2 else
  if k.1=2 then Qcw B T M (Qbp B T k.2).1.1 (Qbp B T k.2).1.2 (Qbp B T k.2).2 else⟨k.2.p,2,k.2.o⟩)
def Qbt (B:Nat→Nat) (T M:Nat):Nat→Bool→Fl→Fl
 |0,_,x=>x
 |f+1,last,x=>if last=true∨x.e≠0 then x else Qbt B T M f (Qch B T M x).1 (Qch B T M x).2
def Qct (s:ByteArray) (most:Int):List Nat×Nat×Nat:=
 if most<0∨most>1048576 then([],0,1)else
  let x:=Qbt (bitH s) (8*s.size) most.toNat (8*s.size+1) false ⟨0,0,[]⟩
  if x.e≠0 then([],0,x.e)else (x.o,(x.p+7) /8,0)
theorem Qd2 {o:Oper} {a:Act} {w:World} (x:Operand) (n:Int) (ho:o.op= .call {callee:= .builtin .max,args:=#[.const (.int .i64 0),x],argTypes:=#[3,3]}) (ht:o.type=3) (hx:a.eval x= .int .i64 n):
  Qbv Tryz.prog (fun w'=>w'=w) (.int .i64 (max 0 n)) ((execOp a.eval o).run Tryz.prog w):=by
 refine Qab (w:=w) ?_ rfl;have hc:a.eval (.const (.int .i64 0))= .int .i64 0:=rfl;simp [execOp,ho,ht,hx,hc,resolve,invoke,builtin];by_cases h:n≤0
 ·rw [show max 0 n=0 by omega]
  go_simp
  try (intro;omega)
 ·rw [show max 0 n=n by omega]
  have h':(0:Int)<n:=by omega
  go_simp
  try (intro;omega)
theorem Qri (k:Nat) (h:k≤28):Qgt k≤6:=by unfold Qgt;omega
theorem Qmh (k:Nat) (h:k≤28):Qiz k≤300:=by
 have:∀j:Fin 29,Qiz j.val≤300:=by decide+kernel
 exact this ⟨k,by omega⟩
theorem Qq3 (k:Nat) (h:k≤30):Qb2 k≤14:=by unfold Qb2;omega
theorem Ql3 (k:Nat) (h:k≤30):Qbe k≤40000:=by
 have:∀j:Fin 31,Qbe j.val≤40000:=by decide+kernel
 exact this ⟨k,by omega⟩
theorem Qgx (x:Int) (w:World):
  Calls Tryz.prog 106 #[.int .i64 x] w fun e w'=>e= .returned (.tuple #[.int .i64 ((Qan x).1:Int),.int .i64 ((Qan x).2.1:Int),.bool (Qan x).2.2])∧w'=w:=by
 by_cases h5:x=285
 ·have e:Qan x=(258,0,true):=if_pos h5;rw [e];go_enter Tryz.func106,Tryz.ntmps106;go_wp2_with fail;go_ret3;exact⟨rfl,rfl⟩
 ·by_cases hr:257≤x∧x≤284
  ·obtain⟨n,hn⟩:∃n:Nat,x=257+n:=⟨(x-257).toNat,by omega⟩
   have e:Qan x=(Qiz n,Qgt n,true):=by
    unfold Qan;rw [if_neg h5,if_pos hr,show(x-257).toNat=n by omega]
   rw [e];have hn27:n≤27:=by omega
   have HX:=Qh hn;have hlo:¬x<257:=by omega
   have hhi:¬x>284:=by omega
   clear e hr hn;go_enter Tryz.func106,Tryz.ntmps106;go_wp2_with fail;go_loopw [5,6,7] (fun b i _ wr=>∃k:Nat,k≤n∧i= .int .i64 ((257+k:Nat):Int)∧b= .int .i64 (Qiz k:Int)∧w=wr) (fun _ i _ _=>300-(intOf i).toNat)
   case atStart=>exact⟨0,by omega,rfl,rfl,rfl⟩
   case round=>
    obtain⟨k,hk,rfl,rfl,rfl⟩:=hrel;have hb:=Qmh k (by omega)
    obtain⟨j,hj⟩:∃j,j=257+k:=⟨_,rfl⟩;obtain⟨z,hz⟩:∃z:Int,((j:Int)-261).tdiv 4=z:=⟨_,rfl⟩;have hzb:max 0 z=(Qgt k:Int)∧-300≤z∧z≤300:=by
     unfold Qgt;rcases Nat.lt_or_ge k 4 with h1|h1
     ·have:z= -1∨z=0:=by
       rw [←hz,hj];rcases(show k=0∨k=1∨k=2∨k=3 by omega)with rfl|rfl|rfl|rfl
       ·left;decide
       ·right;decide
       ·right;decide
       ·right;decide
      omega
     ·rw [Int.tdiv_eq_ediv_of_nonneg (by omega)]at hz
      omega
    have hs:IntKind.i64.wrap ((j:Int)-261)=(j:Int)-261:=IntWalk.i64_in _ (by omega)
    have hzw:IntKind.i64.wrap z=z:=IntWalk.i64_in _ (by omega)
    rw [←hj];have HZM:=Qh hzb.1;have HJ:=Qh hj;have hlb:=Qri k (by omega)
    obtain⟨q,hq⟩:∃q,q=Qgt k:=⟨_,rfl⟩;rw [←hq]at HZM hlb;have HQ:=Qh hq;clear hj hzb hq;by_cases hkn:k=n
    ·have hxj:((j:Int)==x)=true:=by have:=HJ.out;have:=HX.out;simp;omega
     have HK:=Qh hkn;clear hkn;go_wp2_with (refine Qav (.int .i64 (q:Int)) rfl (by rw [←HZM.out];exact Qd2 (.tmp 20) z rfl rfl rfl) ?_;rintro _ rfl)
     go_ret3
     rw [←HK.out,←HQ.out];exact⟨rfl,rfl⟩
    ·have hxj:¬(j:Int)=x:=by have:=HJ.out;have:=HX.out;omega
     have HW:Hid (wrap64 ((Qiz k:Int)+wrap64 (2^q))=(Qiz (k+1):Int)):=Qh (by
      have hQ:(2:Int)^q=((2^q:Nat):Int):=by rw [Int.natCast_pow];rfl
      have hQl:2^q≤2^6:=Nat.pow_le_pow_right (by decide) hlb
      show _=((Qiz k+2^Qgt k:Nat):Int)
      rw [hQ,←HQ.out];generalize 2^q=Q at*;rw [IntWalk.wrap64_in (Q:Int) (by omega),IntWalk.wrap64_in _ (by omega)];omega)
     have HKL:Hid (k+1≤n):=Qh (by omega)
     clear hkn;go_wp2_with (refine Qav (.int .i64 (q:Int)) rfl (by rw [←HZM.out];exact Qd2 (.tmp 20) z rfl rfl rfl) ?_;rintro _ rfl)
     rw [HW.out];have hjk:(j:Int)=((257+k:Nat):Int):=by rw [HJ.out]
     exact⟨⟨k+1,HKL.out,by rw [IntWalk.wrap64_in _ (by omega),hjk];push_cast;rfl,rfl,trivial⟩,by rw [IntWalk.wrap64_in _ (by omega)];simp only [intOf];omega⟩
  ·have e:Qan x=(0,0,false):=by unfold Qan;rw [if_neg h5,if_neg hr]
   rw [e];have hor:x<257∨(¬x<257∧x>284):=by omega
   clear e hr;rcases hor with h1|⟨h1,h2⟩
   all_goals
    go_enter Tryz.func106,Tryz.ntmps106
    go_wp2_with fail;go_ret3;exact⟨rfl,rfl⟩
theorem Qoe (x:Int) (w:World):
  Calls Tryz.prog 107 #[.int .i64 x] w fun e w'=>e= .returned (.tuple #[.int .i64 ((Qa9 x).1:Int),.int .i64 ((Qa9 x).2.1:Int),.bool (Qa9 x).2.2])∧w'=w:=by
 by_cases hr:0≤x∧x≤29
 ·obtain⟨n,hn⟩:∃n:Nat,x=n:=⟨x.toNat,by omega⟩
  have e:Qa9 x=(Qbe n,Qb2 n,true):=by
   unfold Qa9;rw [if_pos hr,show x.toNat=n by omega]
  rw [e];have hn27:n≤29:=by omega
  have HX:=Qh hn;have hlo:¬x<0:=by omega
  have hhi:¬x>29:=by omega
  clear e hr hn;go_enter Tryz.func107,Tryz.ntmps107;go_wp2_with fail;go_loopw [5,6,7] (fun b i _ wr=>∃k:Nat,k≤n∧i= .int .i64 (k:Int)∧b= .int .i64 (Qbe k:Int)∧w=wr) (fun _ i _ _=>300-(intOf i).toNat)
  case atStart=>exact⟨0,by omega,rfl,rfl,rfl⟩
  case round=>
   obtain⟨k,hk,rfl,rfl,rfl⟩:=hrel;have hb:=Ql3 k (by omega)
   obtain⟨h,hh⟩:∃h,h=k /2:=⟨_,rfl⟩;have hq1:(k:Int).tdiv 2=(h:Int):=by rw [Int.tdiv_eq_ediv_of_nonneg (by omega)];omega
   have hq2:(k:Int) /2=(h:Int):=by omega
   have hhw:IntKind.i64.wrap (h:Int)=(h:Int):=IntWalk.i64_in _ (by omega)
   have hs:IntKind.i64.wrap ((h:Int)-1)=(h:Int)-1:=IntWalk.i64_in _ (by omega)
   have HZM:Hid (max 0 ((h:Int)-1)=(Qb2 k:Int)):=Qh (by unfold Qb2;rw [←hh];omega)
   have hlb:=Qq3 k (by omega)
   obtain⟨q,hq⟩:∃q,q=Qb2 k:=⟨_,rfl⟩;rw [←hq]at HZM hlb;have HQ:=Qh hq;clear hh hq;by_cases hkn:k=n
   ·have hxj:((k:Int)==x)=true:=by have:=HX.out;simp;omega
    have HK:=Qh hkn;clear hkn;go_wp2_with (refine Qav (.int .i64 (q:Int)) rfl (by rw [←HZM.out];exact Qd2 (.tmp 18) ((h:Int)-1) rfl rfl rfl) ?_;rintro _ rfl)
    go_ret3
    rw [←HK.out,←HQ.out];exact⟨rfl,rfl⟩
   ·have hxj:¬(k:Int)=x:=by have:=HX.out;omega
    have HW:Hid (wrap64 ((Qbe k:Int)+wrap64 (2^q))=(Qbe (k+1):Int)):=Qh (by
     have hQ:(2:Int)^q=((2^q:Nat):Int):=by rw [Int.natCast_pow];rfl
     have hQl:2^q≤2^14:=Nat.pow_le_pow_right (by decide) hlb
     show _=((Qbe k+2^Qb2 k:Nat):Int)
     rw [hQ,←HQ.out];generalize 2^q=Q at*;rw [IntWalk.wrap64_in (Q:Int) (by omega),IntWalk.wrap64_in _ (by omega)];omega)
    have HKL:Hid (k+1≤n):=Qh (by omega)
    clear hkn;go_wp2_with (refine Qav (.int .i64 (q:Int)) rfl (by rw [←HZM.out];exact Qd2 (.tmp 18) ((h:Int)-1) rfl rfl rfl) ?_;rintro _ rfl)
    rw [HW.out];exact⟨⟨k+1,HKL.out,rfl,rfl,trivial⟩,by simp only [intOf];omega⟩
 ·have e:Qa9 x=(0,0,false):=by unfold Qa9;rw [if_neg hr]
  rw [e];have hor:x<0∨(¬x<0∧x>29):=by omega
  clear e hr;rcases hor with h1|⟨h1,h2⟩
  all_goals
   go_enter Tryz.func107,Tryz.ntmps107
   go_wp2_with fail;go_ret3;exact⟨rfl,rfl⟩
def Qe4 (n row:Nat):Nat×Nat:=if n<row then(n,0)else ((row+n%row)*2^(n /row-1),n /row-1)
theorem Qrw:∀k,k≤27→3+(Qe4 k 4).1=Qiz k∧(Qe4 k 4).2=Qgt k:=by
 have:∀k:Fin 28,3+(Qe4 k.val 4).1=Qiz k.val∧(Qe4 k.val 4).2=Qgt k.val:=by decide+kernel
 exact fun k hk=>this ⟨k,by omega⟩
theorem Qrv:∀k,k≤29→1+(Qe4 k 2).1=Qbe k∧(Qe4 k 2).2=Qb2 k:=by
 have:∀k:Fin 30,1+(Qe4 k.val 2).1=Qbe k.val∧(Qe4 k.val 2).2=Qb2 k.val:=by decide+kernel
 exact fun k hk=>this ⟨k,by omega⟩
theorem Qnv (n row:Nat) (h0:2≤row) (h4:row≤4) (hn:n≤29) (w:World):
  Calls Tryz.prog 141 #[.int .i64 (n:Int),.int .i64 (row:Int)] w fun e w'=>e= .returned (.tuple #[.int .i64 ((Qe4 n row).1:Int),.int .i64 ((Qe4 n row).2:Int)])∧w'=w:=by
 by_cases hlt:n<row
 ·have e:Qe4 n row=(n,0):=if_pos hlt;rw [e];have hi:(n:Int)<(row:Int):=by omega
  clear e;go_enter Tryz.func141,Tryz.ntmps141;go_wp2_with fail;go_ret2;exact⟨rfl,rfl⟩
 ·have e:Qe4 n row=((row+n%row)*2^(n /row-1),n /row-1):=if_neg hlt;rw [e];have hi:¬(n:Int)<(row:Int):=by omega
  have h5:¬(row:Int)=0:=by omega
  have hq:n /row≤29:=Nat.le_trans (Nat.div_le_self _ _) hn;have hq1:1≤n /row:=(Nat.le_div_iff_mul_le (by omega)).2 (by omega)
  have hr:n%row<row:=Nat.mod_lt _ (by omega)
  have ed:((n:Int)).tdiv (row:Int)=((n /row:Nat):Int):=by rw [Int.tdiv_eq_ediv_of_nonneg (by omega)];exact(Int.natCast_ediv _ _).symm
  have ed2:((n:Int)) /(row:Int)=((n /row:Nat):Int):=(Int.natCast_ediv _ _).symm;have em:((n:Int)).tmod (row:Int)=((n%row:Nat):Int):=by rw [Int.tmod_eq_emod_of_nonneg (by omega)];exact(Int.natCast_emod _ _).symm
  have em2:((n:Int))%(row:Int)=((n%row:Nat):Int):=(Int.natCast_emod _ _).symm;generalize n /row=q at*;generalize n%row=r at*;obtain⟨d,rfl⟩:∃d,q=d+1:=⟨q-1,by omega⟩
  have hd:d≤28:=by omega
  have e1:IntKind.i64.wrap ((d+1:Nat):Int)=((d+1:Nat):Int):=IntWalk.i64_in _ (by omega)
  have e2:IntKind.i64.wrap (((d+1:Nat):Int)-1)=(d:Int):=by rw [IntWalk.i64_in _ (by omega)];omega
  have e3:IntKind.i64.wrap ((row:Int)+(r:Int))=((row+r:Nat):Int):=by rw [IntWalk.i64_in _ (by omega)];omega
  have hmin:min d 64=d:=by omega
  have HW:Hid (wrap64 (((row:Int)+(r:Int))*2^d)=((row:Int)+(r:Int))*2^d):=Qh (by
   have hp:2^d≤2^28:=Nat.pow_le_pow_right (by decide) hd
   have hm:(row+r)*2^d≤8*2^28:=Nat.mul_le_mul (by omega) hp
   have e:((row:Int)+(r:Int))*2^d=(((row+r)*2^d:Nat):Int):=by rw [Int.natCast_mul,Int.natCast_pow,Int.natCast_add];rfl
   rw [e];exact IntWalk.wrap64_in _ (by omega))
  rw [show d+1-1=d by omega]
  clear e hlt hn hq hq1 hr ed2 em2;go_enter Tryz.func141,Tryz.ntmps141;go_wp2_with fail;go_ret2;rw [HW.out];exact⟨rfl,rfl⟩
theorem Qjr (x:Int) (w:World):
  Calls Tryz.prog 116 #[.int .i64 x] w fun e w'=>e= .returned (.tuple #[.int .i64 ((Qan x).1:Int),.int .i64 ((Qan x).2.1:Int),.bool (Qan x).2.2])∧w'=w:=by
 by_cases h5:x=285
 ·have e:Qan x=(258,0,true):=if_pos h5;rw [e];subst h5;go_enter Tryz.func116,Tryz.ntmps116;go_wp2_with fail;go_ret3;exact⟨rfl,rfl⟩
 ·by_cases hr:257≤x∧x≤284
  ·obtain⟨n,hn⟩:∃n:Nat,x-257=n:=⟨(x-257).toNat,by omega⟩
   have hn27:n≤27:=by omega
   have e:Qan x=(3+(Qe4 n 4).1,(Qe4 n 4).2,true):=by
    unfold Qan;rw [if_neg h5,if_pos hr,show(x-257).toNat=n by omega,(Qrw n hn27).1,(Qrw n hn27).2]
   rw [e];have C:=Qnv n 4 (by decide) (by decide) (by omega) w
   have hl:=Qmh n (by omega)
   rw [←(Qrw n hn27).1]at hl;have hlo:¬x<257:=by omega
   have hhi:¬x>285:=by omega
   have hw:IntKind.i64.wrap (x-257)=(n:Int):=by rw [IntWalk.i64_in _ (by omega)];exact hn
   have hb:(Qe4 n 4).2≤1000:=by rw [(Qrw n hn27).2];unfold Qgt;omega
   generalize Qe4 n 4=z at*;obtain⟨z1,z2⟩:=z;replace hl:3+z1≤300:=hl;replace hb:z2≤1000:=hb;have hw2:IntKind.i64.wrap (3+(z1:Int))=3+(z1:Int):=IntWalk.i64_in _ (by omega)
   clear e hr hn hl hb;go_enter Tryz.func116,Tryz.ntmps116;go_wp2_with fail;refine C.mono ?_;rintro e w1 ⟨rfl,rfl⟩;go_wp2_with fail;go_ret3;exact⟨rfl,rfl⟩
  ·have e:Qan x=(0,0,false):=by unfold Qan;rw [if_neg h5,if_neg hr]
   rw [e];have hor:x<257∨(¬x<257∧x>285):=by omega
   clear e hr;rcases hor with h1|⟨h1,h2⟩
   all_goals
    go_enter Tryz.func116,Tryz.ntmps116
    go_wp2_with fail;go_ret3;exact⟨rfl,rfl⟩
theorem Qnu (x:Int) (w:World):
  Calls Tryz.prog 117 #[.int .i64 x] w fun e w'=>e= .returned (.tuple #[.int .i64 ((Qa9 x).1:Int),.int .i64 ((Qa9 x).2.1:Int),.bool (Qa9 x).2.2])∧w'=w:=by
 by_cases hr:0≤x∧x≤29
 ·obtain⟨n,rfl⟩:∃n:Nat,x=n:=⟨x.toNat,by omega⟩
  have hn29:n≤29:=by omega
  have e:Qa9 (n:Int)=(1+(Qe4 n 2).1,(Qe4 n 2).2,true):=by
   unfold Qa9;rw [if_pos hr,show(n:Int).toNat=n by omega,(Qrv n hn29).1,(Qrv n hn29).2]
  rw [e];have C:=Qnv n 2 (by decide) (by decide) (by omega) w
  have hl:=Ql3 n (by omega)
  rw [←(Qrv n hn29).1]at hl;have hlo:¬(n:Int)<0:=by omega
  have hhi:¬(n:Int)≥30:=by omega
  have hb:(Qe4 n 2).2≤1000:=by rw [(Qrv n hn29).2];unfold Qb2;omega
  generalize Qe4 n 2=z at*;obtain⟨z1,z2⟩:=z;replace hl:1+z1≤40000:=hl;replace hb:z2≤1000:=hb;have hw2:IntKind.i64.wrap (1+(z1:Int))=1+(z1:Int):=IntWalk.i64_in _ (by omega)
  clear e hr hl hb;go_enter Tryz.func117,Tryz.ntmps117;go_wp2_with fail;refine C.mono ?_;rintro e w1 ⟨rfl,rfl⟩;go_wp2_with fail;go_ret3;exact⟨rfl,rfl⟩
 ·have e:Qa9 x=(0,0,false):=by unfold Qa9;rw [if_neg hr]
  rw [e];have hor:x<0∨(¬x<0∧x≥30):=by omega
  clear e hr;rcases hor with h1|⟨h1,h2⟩
  all_goals
   go_enter Tryz.func117,Tryz.ntmps117
   go_wp2_with fail;go_ret3;exact⟨rfl,rfl⟩
theorem Qyi (n:Nat) (hn:n≤1000) (w:World):
  Calls Tryz.prog 113 #[.int .u64 1,.int .u64 (n:Int)] w fun e w'=>e= .returned (.tuple #[.int .u64 0,.int .u64 (n:Int)])∧w=w':=by
 have C:=Qu5 1#64 (BitVec.ofNat 64 n) w;have e1:iw (1#64)=1:=by unfold iw;rfl
 have e2:iw (BitVec.ofNat 64 n)=(n:Int):=by unfold iw;rw [BitVec.toNat_ofNat,Nat.mod_eq_of_lt (by omega)]
 have e3:iw (mulw 1#64 (BitVec.ofNat 64 n))=(n:Int):=by
  unfold iw;rw [Q2t,BitVec.toNat_ofNat,BitVec.toNat_ofNat,Nat.mod_eq_of_lt (show n<2^64 by omega)]
  show(((1*n)%W64:Nat):Int)=_
  rw [Nat.one_mul,Nat.mod_eq_of_lt (by unfold W64;omega)]
 have e4:iw (Qyj 1#64 (BitVec.ofNat 64 n))=0:=by
  unfold iw;rw [Q2s,BitVec.toNat_ofNat,BitVec.toNat_ofNat,Nat.mod_eq_of_lt (show n<2^64 by omega)]
  show(((1*n) /W64:Nat):Int)=_
  rw [Nat.one_mul,Nat.div_eq_of_lt (by unfold W64;omega)];rfl
 rw [e1,e2,e3,e4]at C;clear e1 e2 e3 e4;go_enter Tryz.func113,Tryz.ntmps113;go_wp2_with fail;refine C.mono ?_;rintro e w1 ⟨rfl,rfl⟩;go_wp2_with fail;go_ret2;exact⟨rfl,rfl⟩
theorem Qbv.mono {P:Program} {R R':World→Prop} {v:Value} {r:Result Next} (h:Qbv P R v r) (k:∀w,R w→R' w):Qbv P R' v r:=by
 cases r with
 |ok n w'=>
  cases n with
  |value u=>exact⟨h.1,k _ h.2⟩
  |skip=>exact⟨h.1,k _ h.2⟩
  |enter f args=>
   have h:Calls P f args w' _:=h;exact h.mono fun e w'' ⟨h1,h2⟩=>⟨h1,k _ h2⟩
  |_=>exact h.elim
 |halt x w'=>exact h.elim
theorem Q0z:(Tryz.prog.info? 3).map (·.size)=some 1:=by kernel_rfl
theorem Qjx {o:Oper} {a:Act} {w:World} (d s:Operand) (ho:o.op= .call {callee:= .builtin .copy,args:=#[d,s],argTypes:=#[92,92]})
  (g off dl dc:Nat) (hd:a.eval d= .slice (some ⟨g,off,none⟩) dl dc) (ad:Addr) (sl sc:Nat) (hs:a.eval s= .slice (some ad) sl sc) (N:Nat) (F:Nat→Int) (hg:Blk w g 3 (rI N F)) {b:Int} (m:Nat) (hm:m=Nat.min sl dl) (hfit:off+m≤N)
  (hsrc:∀j,j<m→w.cell? (ad.add j)=some (.int .i64 ((fun _=>b) j))):
  Qbv Tryz.prog (fun w'=>w'=w.setRow g (rI N fun i=>if off≤i∧i<off+m then b else F i)) (.int .i64 (m:Int)) ((execOp a.eval o).run Tryz.prog w):=by
 have hl:(List.replicate m (Value.int .i64 b)).length=m:=List.length_replicate;have h:=run_copy_row (P:=Tryz.prog) w 92 92 o.type 3 g off dl dc ad sl sc (rI N F) 3 (List.replicate m (.int .i64 b)) Tryz.underlying92 Q0z hg (by rw [hl];exact hm) (fun j v hv=>by
  rw [List.getElem?_replicate]at hv;split at hv
  ·next hj=>injection hv with hv;rw [←hv];exact hsrc j hj
  ·cases hv) (by rw [hl,Qbb];exact hfit) (fun v hv=>by rw [List.eq_of_mem_replicate hv];rfl)
 have e:((rI N F).toList.take off++List.replicate m (Value.int .i64 b)++(rI N F).toList.drop (off+(List.replicate m (Value.int .i64 b)).length)).toArray=rI N fun i=>if off≤i∧i<off+m then b else F i:=by
  apply Array.ext_getElem?
  intro i;rw [List.getElem?_toArray,hl];by_cases hi:i<N
  ·have e2:=Qeu (fun i=>Value.int .i64 (if off≤i∧i<off+m then b else F i)) hi;have e3:=Qeu (fun i=>Value.int .i64 (F i)) hi;rw [e2];by_cases h1:i<off
   ·rw [List.append_assoc,List.getElem?_append_left (by rw [List.length_take,Array.length_toList,Qbb];omega),List.getElem?_take_of_lt h1,Array.getElem?_toList,e3,if_neg (by omega)]
   ·by_cases h2:i<off+m
    ·rw [List.append_assoc,List.getElem?_append_right (by rw [List.length_take,Array.length_toList,Qbb];omega),List.length_take,Array.length_toList,Qbb,List.getElem?_append_left (by rw [hl];omega),List.getElem?_replicate,if_pos (by omega),if_pos (by omega)]
    ·have hlen:(List.take off (rI N F).toList++List.replicate m (Value.int .i64 b)).length=off+m:=by rw [List.length_append,List.length_take,Array.length_toList,Qbb,hl];omega
     rw [List.getElem?_append_right (by rw [hlen];omega),hlen,List.getElem?_drop,show off+m+(i-(off+m))=i by omega,Array.getElem?_toList,e3,if_neg (by omega)]
  ·rw [List.getElem?_eq_none,Array.getElem?_eq_none (by rw [Qbb];omega)]
   rw [List.length_append,List.length_append,List.length_take,List.length_drop,Array.length_toList,Qbb,hl];omega
 rw [e,hl]at h;have:(execOp a.eval o).run Tryz.prog w= .ok (.value (.int .i64 (m:Int))) (w.setRow g (rI N fun i=>if off≤i∧i<off+m then b else F i)):=by
  unfold execOp;simp only [ho,resolve,invoke,builtin,Sem.run_bind,Sem.run_pure,Result.andThen_ok,List.map_toArray,List.map_cons,List.map_nil,hd,hs,h];rfl
 rw [this];exact⟨rfl,rfl⟩
theorem Qdo (n:Nat) (hn:n≤1000000) (w:World):
  (Instr.makeSlice 92 (.int .i64 (n:Int)) (.int .i64 (n:Int))).run Tryz.prog w= .ok (.slice (some ⟨w.heap.size,0,none⟩) n n) (w.alloc (.cells (rI n fun _=>0) 3)):=by
 obtain⟨i0,hi,hz0,hz1,hz2⟩:=info_parts Qca;have h:=run_make (P:=Tryz.prog) w 92 3 i0 (.int .i64 0) Tryz.underlying92 hi hz0 .i64 .i64 (n:Int) n (by omega) (by omega) (by rw [hz2];omega) (by omega)
 rw [hz1,Int.toNat_natCast,Nat.mul_one,show Value.cells (.int .i64 0)=#[Value.int .i64 0]from rfl,Qjz]at h;exact h
theorem Qhh (b:Int) (N q:Nat) (w:World) (h:Blk w q 3 #[.int .i64 b]) (h1:1≤N) (hN:N≤400):
  Calls Tryz.prog 80 #[.slice (some ⟨q,0,none⟩) 1 1,.int .i64 (N:Int)] w fun e w'=>∃z,e= .returned (.slice (some ⟨z,0,none⟩) N N)∧Blk w' z 3 (rI N fun _=>b)∧w.heap.size≤z∧Below w.heap.size w w':=by
 have C:=Qyi N (by omega) w
 have hmk:∀w,(Instr.makeSlice 92 (.int .i64 (N:Int)) (.int .i64 (N:Int))).run Tryz.prog w= .ok (.slice (some ⟨w.heap.size,0,none⟩) N N) (w.alloc (.cells (rI N fun _=>0) 3)):=Qdo N (by omega)
 have hneg:¬(N:Int)<0:=by omega
 have hu:IntKind.u64.wrap (N:Int)=(N:Int):=by rw [IntKind.wrap_u64];omega
 have hi:IntKind.i64.wrap (N:Int)=(N:Int):=IntWalk.i64_in _ (by omega)
 have hum:(N:Int)%18446744073709551616=(N:Int):=by omega
 have hbig:¬(N:Int)>9223372036854775807:=by omega
 have b0:=(Below.refl _ w).alloc Ql (.cells (rI N fun _=>0) 3);have hq:=h.lt;have hz0:=Blk.new w 3 (rI N fun _=>0);have hqa:Blk (w.alloc (.cells (rI N fun _=>0) 3)) q 3 #[.int .i64 b]:=h.alloc _;have HB:=Qh (⟨hz0,hqa,b0⟩:Blk (w.alloc (.cells (rI N fun _=>0) 3)) w.heap.size 3 (rI N fun _=>0)∧Blk (w.alloc (.cells (rI N fun _=>0) 3)) q 3 #[.int .i64 b]∧Below w.heap.size w (w.alloc (.cells (rI N fun _=>0) 3)));have HBN:Hid (1≤N∧N≤400):=Qh ⟨h1,hN⟩;clear h hz0 hqa b0 hN h1;have HC:Hid (∀(o:Oper) (a:Act),o.op= .call {callee:= .builtin .copy,args:=#[.tmp 31,.tmp 32],argTypes:=#[92,92]}→a.eval (.tmp 31)= .slice (some ⟨w.heap.size,0,none⟩) N N→a.eval (.tmp 32)= .slice (some ⟨q,0,none⟩) 1 1→
   Qbv Tryz.prog (fun w'=>w'=(w.alloc (.cells (rI N fun _=>0) 3)).setRow w.heap.size (rI N fun i=>if 0≤i∧i<0+1 then b else 0)) (.int .i64 ((1:Nat):Int)) ((execOp a.eval o).run Tryz.prog (w.alloc (.cells (rI N fun _=>0) 3)))):=Qh fun o a ho hd hs=>
  Qjx (.tmp 31) (.tmp 32) ho w.heap.size 0 N N hd ⟨q,0,none⟩ 1 1 hs N (fun _=>0) HB.out.1 1 (by have:=HBN.out;simp only [Nat.min_def];split<;>omega) (by have:=HBN.out;omega) (fun j hj=>by
   obtain rfl:j=0:=by omega
   exact HB.out.2.1.cell 0)
 have H1:Hid (Blk ((w.alloc (.cells (rI N fun _=>0) 3)).setRow w.heap.size (rI N fun i=>if 0≤i∧i<0+1 then b else 0)) w.heap.size 3 (rI N fun i=>if i<1 then b else 0)∧Below w.heap.size w ((w.alloc (.cells (rI N fun _=>0) 3)).setRow w.heap.size (rI N fun i=>if 0≤i∧i<0+1 then b else 0))):=Qh ⟨(HB.out.1.row_ _).cast_ (Qa3 fun i _=>by
  dsimp only;by_cases h:i<1
  ·rw [if_pos h,if_pos (show 0≤i∧i<0+1 by omega)]
  ·rw [if_neg h,if_neg (show¬(0≤i∧i<0+1)by omega)]),Qai HB.out.2.2 Ql _⟩
 have HZ:Hid (w.heap.size≤w.heap.size):=Qh Ql;go_enter Tryz.func80,Tryz.ntmps80;go_wp2_with fail;refine C.mono ?_;rintro e w1 ⟨rfl,rfl⟩;go_wp2_with (refine Qav (.int .i64 ((1:Nat):Int)) rfl (HC.out _ _ rfl rfl rfl) ?_;rintro _ rfl;simp only [pu]);generalize (w.alloc (.cells (rI N fun _=>0) 3)).setRow w.heap.size (rI N fun i=>if 0≤i∧i<0+1 then b else 0)=wa at H1⊢;obtain⟨z,hz⟩:∃z,z=w.heap.size:=⟨_,rfl⟩;have H1b:=Qh H1.out.2;have H1a:=Qh H1.out.1;rw [←hz]at H1a⊢;have HZ2:=Qh hz;clear H1;have HON:Hid (1≤N):=Qh HBN.out.1;clear hz hmk HC HB C hneg hu hum hbig HZ;go_loopg [8] (N-1) (fun gk c wr=>∃n:Nat,gk=N-n∧c= .int .i64 (n:Int)∧1≤n∧n≤N∧Hid (Blk wr z 3 (rI N fun i=>if i<n then b else 0)∧Below w.heap.size w wr))
 case atStart=>exact⟨1,rfl,rfl,Nat.le_refl 1,HON.out,Qh ⟨H1a.out,H1b.out⟩⟩
 case round=>
  obtain⟨n,hgk,rfl,hn1,hnN,HW⟩:=hrel;by_cases hlt:n<N
  ·obtain⟨m,hm⟩:∃m,m=Nat.min n (N-n):=⟨_,rfl⟩;have hmle:m≤n∧m≤N-n∧1≤m:=by
    rw [hm];simp only [Nat.min_def];split<;>omega
   have HMN:Hid (m≤n∧m≤N-n∧1≤m∧n<N∧gk=N-n):=Qh ⟨hmle.1,hmle.2.1,hmle.2.2,hlt,hgk⟩;have HMM:=Qh hm;have hlti:(n:Int)<(N:Int):=by omega
   have hnle:(n:Int)≤(N:Int):=by omega
   have hne:¬N=n:=by omega
   have hbN:=HBN.out;have hw:IntKind.i64.wrap ((n:Int)+(m:Int))=((n+m:Nat):Int):=by rw [IntWalk.i64_in _ (by omega)];omega
   have HST:Hid (∀wx,(Blk wx z 3 (rI N fun i=>if i<n then b else 0)∧Below w.heap.size w wx)→Blk (wx.setRow z (rI N fun i=>if n≤i∧i<n+m then b else if i<n then b else 0)) z 3 (rI N fun i=>if i<n+m then b else 0)∧Below w.heap.size w (wx.setRow z (rI N fun i=>if n≤i∧i<n+m then b else if i<n then b else 0))):=Qh fun wx h=>⟨(h.1.row_ _).cast_ (Qa3 fun i _=>by
    dsimp only;by_cases h1:n≤i∧i<n+m
    ·rw [if_pos h1,if_pos h1.2]
    ·rw [if_neg h1];by_cases h2:i<n
     ·rw [if_pos h2,if_pos (by omega)]
     ·rw [if_neg h2,if_neg (by omega)]),Qai h.2 (by have:=HZ2.out;omega) _⟩
   clear hm hmle hgk hlt hbN;go_wp2_with fail;refine Qad (Two 7 1001 fun b' _ wx=>(b'=false→Blk wx z 3 (rI N fun i=>if i<n then b else 0)∧Below w.heap.size w wx)∧(b'=true→Blk wx z 3 (rI N fun i=>if i<n+m then b else 0)∧Below w.heap.size w wx)) (by kernel_rfl) ⟨fun _=>⟨HW.out.1.drew,HW.out.2.drew⟩,fun h=>by(cases h)⟩ ?_
   refine tA (i:=0) rfl rfl ?_;simp only [pu];refine tA (i:=1) rfl rfl ?_;simp only [pu];refine tA (i:=2) rfl rfl ?_;simp only [pu];refine tV (i:=3) (v:= .slice (some ⟨z,n,none⟩) (N-n) (N-n)) rfl rfl ?_;simp only [pu];refine tA (i:=4) rfl rfl ?_;simp only [pu];refine tA (i:=5) rfl rfl ?_;simp only [pu];refine tV (i:=6) (v:= .slice (some ⟨z,0,none⟩) n N) rfl rfl ?_;simp only [pu];refine Qaa (i:=7) (v:= .int .i64 (m:Int)) rfl (Qa5 (by decide) rfl (fun f2 wx hT=> ?_)) ?_
   ·have h5:=hT.1 rfl;refine(Qjx (.tmp 41) (.tmp 44) rfl z n (N-n) (N-n) rfl ⟨z,0,none⟩ n N rfl N (fun i=>if i<n then b else 0) h5.1 m HMM.out (by have:=HMN.out;omega) (fun j hj=>by rw [Qay,Nat.zero_add,h5.1.at_ (show j<N by have:=HMN.out;omega)];exact congrArg (fun x:Int=>some (Value.int .i64 x)) (if_pos (show j<n by have:=HMN.out;omega)))).mono fun w' hw=>⟨fun h=>by(cases h),fun _=> ?_⟩;rw [hw];exact HST.out wx h5
   simp only [pu];refine tA (i:=8) rfl rfl ?_;simp only [pu];refine tA (i:=9) rfl rfl ?_;simp only [pu];refine Qag rfl ?_ _;intro w2 hT;have H2:=Qh (hT.2 rfl:Blk w2 z 3 (rI N fun i=>if i<n+m then b else 0)∧Below w.heap.size w w2);clear hT HW;go_wp2_with fail;go_roundg (N-(n+m))
   case measure=>have:=HMN.out;omega
   case rel=>exact⟨n+m,rfl,by go_num,by have:=HMN.out;omega,by have:=HMN.out;omega,H2⟩
  ·obtain rfl:n=N:=by omega
   have hlti:¬(n:Int)<(n:Int):=by omega
   go_wp2_with fail;go_ret;exact⟨z,rfl,HW.out.1.cast_ (Qa3 fun i hi=>by dsimp only;rw [if_pos hi]),by have:=HZ2.out;omega,HW.out.2⟩
theorem Qlw (n:Nat):Builtin.zeroCells (Value.cells (.int .i64 0)) n=(List.replicate n (Value.int .i64 0)).toArray:=by
 apply Array.ext_getElem?
 intro i;unfold Builtin.zeroCells;by_cases h:i<n
 ·simp [h,Value.cells,Nat.mod_one]
 ·simp [h,Value.cells]
theorem Qn1 (n:Nat) (h1:1≤n) (hn:n≤2000) (w:World):
  Calls Tryz.prog 112 #[.slice none 0 0,.int .i64 (n:Int)] w fun e w'=>∃v,e= .returned v∧LI w.heap.size w [] v w':=by
 obtain⟨i0,hi,hz0,hz1,hz2⟩:=info_parts Qca;have hneg:¬(n:Int)<0:=by omega
 have hpos:(n:Int)>0:=by omega
 have hw:IntKind.i64.wrap (n:Int)=(n:Int):=IntWalk.i64_in _ (by omega)
 have hap:=Go.Lib.run_append_grow_zeros (P:=Tryz.prog) w 92 3 92 3 i0 (.int .i64 0) .i64 .i64 Tryz.underlying92 Tryz.underlying3 hi hz0 none 0 0 [] (run_firstCells_none w.drew i0.size 0 0 0) n (by omega) (by rw [hz1];decide) (by omega) (by omega) (by rw [hz2];omega) (by
  rw [hz2];unfold Builtin.nextslicecap;rw [if_pos (by omega)];omega)
 obtain⟨C,hC⟩:∃C,C=grownCap w (0+n) 0 3:=⟨_,rfl⟩;have hC1:n≤C:=by have:=grownCap_ge w (0+n) 0 3;rw [hC];omega
 have hC2:C≤maxLen:=by rw [hC];exact grownCap_le_maxLen w (0+n) 0 3 (by unfold maxLen;omega)
 rw [←hC]at hap;have e0:(#[]++Builtin.zeroCells (Value.int .i64 0).cells n++Builtin.zeroCells (Value.int .i64 0).cells (C-(0+n)):Array Value)=rI C fun _=>0:=by
  rw [Qlw,Qlw]
  apply Array.ext_getElem?
  intro i;by_cases h:i<C
  ·have e2:=Qeu (fun i=>Value.int .i64 ((fun _=>(0:Int)) i)) h;rw [e2];simp only [List.append_toArray,List.getElem?_toArray,List.nil_append];by_cases h2:i<n
   ·rw [List.getElem?_append_left (by rw [List.length_replicate];exact h2),List.getElem?_replicate,if_pos h2]
   ·rw [List.getElem?_append_right (by rw [List.length_replicate];omega),List.length_replicate,List.getElem?_replicate,if_pos (by omega)]
  ·rw [Array.getElem?_eq_none (by simp;omega),Array.getElem?_eq_none (by rw [Qbb];omega)]
 rw [e0]at hap;have HAP:Hid (∀(o:Oper) (a:Act),o.op= .call {callee:= .builtin .append,args:=#[.tmp 20,.tmp 21],argTypes:=#[92,3]}→o.type=92→a.eval (.tmp 20)= .slice none 0 0→a.eval (.tmp 21)= .int .i64 (n:Int)→
   Qbv Tryz.prog (fun w'=>w'=w.drew.alloc (.cells (rI C fun _=>0) 3)) (.slice (some ⟨w.heap.size,0,none⟩) n C) ((execOp a.eval o).run Tryz.prog w)):=Qh fun o a ho ht h20 h21=>by
  have:(execOp a.eval o).run Tryz.prog w= .ok (.value (.slice (some ⟨w.heap.size,0,none⟩) n C)) (w.drew.alloc (.cells (rI C fun _=>0) 3)):=by
   unfold execOp;simp only [ho,ht,resolve,invoke,builtin,Sem.run_bind,Sem.run_pure,Result.andThen_ok,List.map_toArray,List.map_cons,List.map_nil,h20,h21,hap,Nat.zero_add]
  rw [this];exact⟨rfl,rfl⟩
 have HC:=Qh (⟨hC1,hC2⟩:n≤C∧C≤maxLen);have hb:=(Below.refl w.heap.size w).drew.alloc Ql (.cells (rI C fun _=>0) 3);have HB:=Qh (⟨hb,Blk.new w.drew 3 (rI C fun _=>0)⟩:Below w.heap.size w (w.drew.alloc (.cells (rI C fun _=>0) 3))∧Blk (w.drew.alloc (.cells (rI C fun _=>0) 3)) w.heap.size 3 (rI C fun _=>0));clear hap e0 hC hi hz0 hz1 hz2 hb h1 hn hC1 hC2;go_enter Tryz.func112,Tryz.ntmps112;go_wp2_with (refine Qav (.slice (some ⟨w.heap.size,0,none⟩) n C) rfl (HAP.out _ _ rfl rfl rfl rfl) ?_;rintro _ rfl;simp only [pu]);go_ret;refine⟨_,rfl,⟨rfl,.inr ⟨w.heap.size,C,rI C fun _=>0,rfl,Ql,HB.out.2,Nat.zero_le _,HC.out.2,by rw [Qbb,Nat.mul_one],rfl⟩⟩,HB.out.1,HB.out.1.size⟩
theorem Qqi {ops:Array Oper} {rest:List Oper} {o:Oper} {a:Act} {Q:Exit→Act→World→Prop} {B:Nat} {w0 wr:World} {l:List Int} {v:Value} (hgd:o.guard=none) (s x:Operand)
  (ho:o.op= .call {callee:= .builtin .append,args:=#[s,x],argTypes:=#[92,92]}) (hs:a.eval s=v) (h:LI B w0 l v wr) (q n:Nat) (b:Int) (hx:a.eval x= .slice (some ⟨q,0,none⟩) n n) (hq:Blk wr q 3 (rI n fun _=>b)) (hn:l.length+n≤1000000)
  (k:∀v' w',LI B w0 (l++List.replicate n b) v' w'→wpList Tryz.prog ops Q rest (a.put o.dst v') w'):wpList Tryz.prog ops Q (o::rest) a wr:=by
 obtain⟨i0,hi,hz0,hz1,hz2⟩:=info_parts Qca;refine wpList_append_own _ hgd s x 92 ho B 3 i0 (.int .i64 0) 1 8 Tryz.underlying92 hi hz0 hz1 hz2 rfl (by decide) v l.length _ hs h.own ⟨q,0,none⟩ n n (List.replicate n (.int .i64 b)) hx (by rw [List.length_replicate,Nat.mul_one]) (fun j u hu=> ?_) (fun u hu=>by rw [List.eq_of_mem_replicate hu];rfl) (by unfold maxLen;omega) (by omega) h.lo ?_
 ·rw [List.getElem?_replicate]at hu;split at hu
  ·next hj=>injection hu with hu;rw [←hu,Qay,Nat.zero_add,hq.at_ hj]
  ·cases hu
 ·intro v' w2 hown2 hg2 _;refine k v' w2 ⟨?_,h.b.grown hg2 h.lo (Qrq h.own),Nat.le_trans h.lo hg2.size⟩;rw [List.length_append,List.length_replicate,List.map_append,List.map_replicate];exact hown2
def catL (nn:Nat→Nat) (bb:Nat→Int):Nat→List Int
 |0=>[]
 |k+1=>catL nn bb k++List.replicate (nn k) (bb k)
def sumN (nn:Nat→Nat):Nat→Nat
 |0=>0
 |k+1=>sumN nn k+nn k
theorem Qxe (nn:Nat→Nat) (bb:Nat→Int) (k:Nat):(catL nn bb k).length=sumN nn k:=by
 induction k with
 |zero=>rfl
 |succ k ih=>
  show(catL nn bb k++List.replicate (nn k) (bb k)).length=sumN nn k+nn k
  rw [List.length_append,List.length_replicate,ih]
theorem Qfg {nn:Nat→Nat} (h:∀i,nn i≤400) (k:Nat):sumN nn k≤400*k:=by
 induction k with
 |zero=>exact Nat.le_refl 0
 |succ k ih=>have:=h k;show sumN nn k+nn k≤_;omega
theorem Qpw (q:Nat) (zz nn:Nat→Nat) (bb:Nat→Int) (w:World) (h:Blk w q 92 (row 4 fun i=> .slice (some ⟨zz i,0,none⟩) (nn i) (nn i))) (hb:∀i,i<4→Blk w (zz i) 3 (rI (nn i) fun _=>bb i)) (hn:∀i,nn i≤400) (h1:1≤nn 0):
  Calls Tryz.prog 79 #[.slice (some ⟨q,0,none⟩) 4 4] w fun e w'=>∃v,e= .returned v∧LI w.heap.size w (catL nn bb 4) v w':=by
 have HC:Hid (∀k,k<4→∀wx,Below w.heap.size w wx→wx.cell? ⟨q,k,none⟩=some (.slice (some ⟨zz k,0,none⟩) (nn k) (nn k))):=Qh fun k hk wx hx=>(h.below hx h.lt).at_ hk;have HB:Hid (∀k,k<4→∀wx,Below w.heap.size w wx→Blk wx (zz k) 3 (rI (nn k) fun _=>bb k)):=Qh fun k hk wx hx=>(hb k hk).below hx (hb k hk).lt;have HS:Hid (1≤sumN nn 4∧sumN nn 4≤1600):=Qh ⟨by show 1≤0+nn 0+nn 1+nn 2+nn 3;omega,Qfg hn 4⟩
 have HN:=Qh hn;clear h hb hn h1;go_enter Tryz.func79,Tryz.ntmps79;go_wp2_with fail;go_loopw [3,11] (fun s i wr=>∃k:Nat,k≤4∧s= .int .i64 (sumN nn k:Int)∧i= .int .i64 (k:Int)∧w=wr) (fun _ i _=>4-(intOf i).toNat)
 case atStart=>exact⟨0,by omega,rfl,rfl,rfl⟩
 case round=>
  obtain⟨k,hk,rfl,rfl,rfl⟩:=hrel;by_cases hlt:k<4
  ·have hki:(k:Int)<4:=by omega
   have c0:=HC.out k hlt w Qb;have hl:=HN.out k;have hs:=Qfg HN.out k;have hw:IntKind.i64.wrap ((sumN nn k:Int)+(nn k:Int))=(sumN nn (k+1):Int):=by
    rw [IntWalk.i64_in _ (by omega)];show _=((sumN nn k+nn k:Nat):Int);omega
   have hneg:¬((sumN nn (k+1):Nat):Int)<0:=by omega
   clear hl hs;obtain⟨Z,hZ⟩:∃Z,Z=sumN nn (k+1):=⟨_,rfl⟩;rw [←hZ]at hw hneg;have HZ:=Qh hZ;clear hZ;generalize sumN nn k=Y at hw⊢;generalize nn k=X at c0 hw⊢;go_wp2_with fail;go_roundw
   case rel=>exact⟨k+1,by omega,by rw [HZ.out],by go_num,by trivial⟩
   case measure=>simp only [intOf];omega
  ·obtain rfl:k=4:=by omega
   have hki:¬(((4:Nat):Int))<4:=by omega
   have G:=Qn1 (sumN nn 4) HS.out.1 (by have:=HS.out;omega) w
   go_wp2_with fail;refine G.mono ?_;rintro e w1 ⟨v,rfl,hL⟩;have HL:Hid (LI w.heap.size w (catL nn bb 0) v w1):=Qh hL;clear G hL;go_wp2_with fail;go_loopw [6,27] (fun v i wr=>∃k:Nat,k≤4∧i= .int .i64 (k:Int)∧Hid (LI w.heap.size w (catL nn bb k) v wr)) (fun _ i _=>4-(intOf i).toNat)
   case atStart=>exact⟨0,by omega,rfl,HL⟩
   case round=>
    obtain⟨k,hk,rfl,HL2⟩:=hrel;clear HL;by_cases hlt:k<4
    ·have hki:(k:Int)<4:=by omega
     have c0:=HC.out k hlt _ HL2.out.b;have hb:=HB.out k hlt _ HL2.out.b;have HLen:Hid ((catL nn bb k).length+nn k≤1000000):=Qh (by rw [Qxe];have:=Qfg HN.out k;have:=HN.out k;omega)
     have HBK:=Qh hb;have HKK:=Qh hlt;clear hb hlt;go_wp2_with (at_builtin;refine Qqi rfl (.tmp 31) (.tmp 32) rfl rfl HL2.out (zz k) (nn k) (bb k) rfl HBK.out HLen.out ?_;intro v2 w2 h2);go_roundw
     case rel=>exact⟨k+1,by have:=HKK.out;omega,by go_num,Qh h2⟩
     case measure=>simp only [intOf];omega
    ·obtain rfl:k=4:=by omega
     have hki:¬(((4:Nat):Int))<4:=by omega
     go_wp2_with fail;go_ret;exact⟨_,rfl,HL2.out⟩
def Qeb (x:Nat):Nat×Nat×Bool:=if x=16 then(3,2,true)else if x=17 then(3,3,true)else if x=18 then(11,7,true)else (0,0,false)
theorem Qcx (x:Nat) (hx:x<100000) (w:World):
  Calls Tryz.prog 163 #[.int .i64 (x:Int)] w fun e w'=>e= .returned (.tuple #[.int .i64 ((Qeb x).1:Int),.int .i64 ((Qeb x).2.1:Int),.bool (Qeb x).2.2])∧w=w':=by
 unfold Qeb;by_cases h1:x=16
 ·subst h1;go_enter Tryz.func163,Tryz.ntmps163;go_wp2_with fail;go_ret3;exact⟨rfl,rfl⟩
 ·by_cases h2:x=17
  ·subst h2;go_enter Tryz.func163,Tryz.ntmps163;go_wp2_with fail;go_ret3;exact⟨rfl,rfl⟩
  ·by_cases h3:x=18
   ·subst h3;go_enter Tryz.func163,Tryz.ntmps163;go_wp2_with fail;go_ret3;exact⟨rfl,rfl⟩
   ·rw [if_neg h1,if_neg h2,if_neg h3];have e1:¬(x:Int)=16:=by omega
    have e2:¬(x:Int)=17:=by omega
    have e3:¬(x:Int)=18:=by omega
    have b1:((x:Int)==16)=false:=by simpa using e1
    have b2:((x:Int)==17)=false:=by simpa using e2
    have b3:((x:Int)==18)=false:=by simpa using e3
    clear hx;go_enter Tryz.func163,Tryz.ntmps163;go_wp2_with fail;go_ret3;exact⟨rfl,rfl⟩
def numF (l:List Nat) (i:Nat):Int:=((l.getD i 0:Nat):Int)
def ordA:Array Value:=rI 19 fun i=>((ordL.getD i 0:Nat):Int)
theorem Qw7 (w:World):(zeroValue 181).run Tryz.prog w= .ok (.agg (rI 19 fun _=>0)) w:=by kernel_rfl
theorem Qmo:ordA.all (·.oneCell')=true:=by kernel_rfl
theorem Qib:(Tryz.prog.info? 181).map (·.size)=some 19:=by kernel_rfl
theorem Qlf (w:World):
  Calls Tryz.prog 124 #[] w fun e w'=>e= .returned (.agg ordA)∧Below w.heap.size w w':=by
 have hb:=(Below.refl _ w).alloc Ql (.cells (rI 19 fun _=>0) 181);have HB:=Qh (⟨hb,Blk.new w 181 (rI 19 fun _=>0)⟩:Below w.heap.size w (w.alloc (.cells (rI 19 fun _=>0) 181))∧Blk (w.alloc (.cells (rI 19 fun _=>0) 181)) w.heap.size 181 (rI 19 fun _=>0));have HSZ:=Qh Qib;have hz:=Qw7;clear hb;go_enter Tryz.func124,Tryz.ntmps124;go_wp2_with (refine wpList_store_row rfl 181 _ _ rfl w.heap.size ordA rfl rfl 181 _ HB.out.2 HSZ.out rfl Qmo ?_);exact bodyPost_ret (results_cell_row rfl _ _ w.heap.size 181 ordA (0,0) _ rfl (HB.out.2.row_ _) Tryz.underlying181 rfl HSZ.out) rfl ⟨rfl,Qai HB.out.1 Ql _⟩
theorem Qbk.cons {B:Nat} {w0 w:World} {l:List (Nat×TypeId×Array Value)} {z:Nat} {t:TypeId} {cs:Array Value} (h:Qbk B w0 l w) (hb:Blk w z t cs):Qbk B w0 ((z,t,cs)::l) w:=
 ⟨h.b,h.lo,fun x hx=>by
  rcases List.mem_cons.1 hx with rfl|hx
  ·exact hb
  ·exact h.blk x hx⟩
theorem IS.castF {p:Option Addr} {n cap:Nat} {f g:Nat→Int} {w:World} (h:IS p n cap f w) (e:∀i,i<n→f i=g i):IS p n cap g w:=
 ⟨h.nil_,fun a ha i hi=>by rw [←e i hi];exact h.cell a ha i hi,h.lt,fun i hi=>by rw [←e i hi];exact h.lo i hi,fun i hi=>by rw [←e i hi];exact h.hi i hi⟩
theorem Qxv:catL (fun i=>[144,112,24,8].getD i 0) (fun i=>[8,9,7,8].getD i 0) 4=Qam (numF fixA) 288:=by decide+kernel
theorem Qq8:fixA.length=288:=by decide+kernel
theorem Qra:fixB.length=32:=by decide+kernel
theorem Qpk:newE (numF fixA) 288=0:=by decide+kernel
theorem Qpl:newE (numF fixB) 32=0:=by decide+kernel
theorem Q0p:∀i,i<32→(5:Int)=numF fixB i:=by
 have:∀i:Fin 32,(5:Int)=numF fixB i.val:=by decide+kernel
 exact fun i hi=>this ⟨i,hi⟩
theorem Qli:∀i,i<288→0≤numF fixA i∧numF fixA i<100:=by
 have:∀i:Fin 288,0≤numF fixA i.val∧numF fixA i.val<100:=by decide+kernel
 exact fun i hi=>this ⟨i,hi⟩
theorem Qt9 (w:World):
  Calls Tryz.prog 48 #[] w fun e w'=>∃p cap z,e= .returned (.tuple #[.slice p 288 cap,.slice (some ⟨z,0,none⟩) 32 32])∧Below w.heap.size w w'∧IS p 288 cap (numF fixA) w'∧IS (some ⟨z,0,none⟩) 32 32 (numF fixB) w'∧(∀a,p=some a→w.heap.size≤a.block)∧w.heap.size≤z:=by
 have HKz:=Qh (Qbk.begin w);go_enter Tryz.func48,Tryz.ntmps48;go_wp2_with fail;refine(Qhh 8 144 w.heap.size (w.alloc (.cells #[.int .i64 8] 3)) (Blk.new w _ _) (by decide) (by decide)).mono ?_
 rintro e wb0 ⟨z0,rfl,hz0,_,b0⟩;have HK0:Hid (Qbk w.heap.size w [(z0,3,rI 144 fun _=>8)] wb0):=Qh (((HKz.out.alloc _).below b0).cons hz0);clear HKz hz0 b0;go_wp2_with fail;refine(Qhh 9 112 wb0.heap.size (wb0.alloc (.cells #[.int .i64 9] 3)) (Blk.new wb0 _ _) (by decide) (by decide)).mono ?_
 rintro e wb1 ⟨z1,rfl,hz1,_,b1⟩;have HK1:Hid (Qbk w.heap.size w [(z1,3,rI 112 fun _=>9),(z0,3,rI 144 fun _=>8)] wb1):=Qh (((HK0.out.alloc _).below b1).cons hz1);clear HK0 hz1 b1;go_wp2_with fail;refine(Qhh 7 24 wb1.heap.size (wb1.alloc (.cells #[.int .i64 7] 3)) (Blk.new wb1 _ _) (by decide) (by decide)).mono ?_
 rintro e wb2 ⟨z2,rfl,hz2,_,b2⟩;have HK2:Hid (Qbk w.heap.size w [(z2,3,rI 24 fun _=>7),(z1,3,rI 112 fun _=>9),(z0,3,rI 144 fun _=>8)] wb2):=Qh (((HK1.out.alloc _).below b2).cons hz2);clear HK1 hz2 b2;go_wp2_with fail;refine(Qhh 8 8 wb2.heap.size (wb2.alloc (.cells #[.int .i64 8] 3)) (Blk.new wb2 _ _) (by decide) (by decide)).mono ?_
 rintro e wb3 ⟨z3,rfl,hz3,_,b3⟩;have HK3:Hid (Qbk w.heap.size w [(z3,3,rI 8 fun _=>8),(z2,3,rI 24 fun _=>7),(z1,3,rI 112 fun _=>9),(z0,3,rI 144 fun _=>8)] wb3):=Qh (((HK2.out.alloc _).below b3).cons hz3);clear HK2 hz3 b3;go_wp2_with fail;have hbs:Blk (wb3.alloc (.cells #[.slice (some ⟨z0,0,none⟩) 144 144,.slice (some ⟨z1,0,none⟩) 112 112,.slice (some ⟨z2,0,none⟩) 24 24,.slice (some ⟨z3,0,none⟩) 8 8] 92)) wb3.heap.size 92 (row 4 fun i=> .slice (some ⟨[z0,z1,z2,z3].getD i 0,0,none⟩) ([144,112,24,8].getD i 0) ([144,112,24,8].getD i 0)):=Blk.new wb3 _ _;have HKc:=Qh (HK3.out.alloc (.cells #[.slice (some ⟨z0,0,none⟩) 144 144,.slice (some ⟨z1,0,none⟩) 112 112,.slice (some ⟨z2,0,none⟩) 24 24,.slice (some ⟨z3,0,none⟩) 8 8] 92));have C:=Qpw wb3.heap.size (fun i=>[z0,z1,z2,z3].getD i 0) (fun i=>[144,112,24,8].getD i 0) (fun i=>[8,9,7,8].getD i 0) _ hbs (fun i hi=>by
  rcases(show i=0∨i=1∨i=2∨i=3 by omega)with rfl|rfl|rfl|rfl
  ·exact HKc.out.blk _ (.tail _ (.tail _ (.tail _ (.head _))))
  ·exact HKc.out.blk _ (.tail _ (.tail _ (.head _)))
  ·exact HKc.out.blk _ (.tail _ (.head _))
  ·exact HKc.out.blk _ (.head _)) (fun i=>by
  rcases(show i=0∨i=1∨i=2∨i=3∨4≤i by omega)with rfl|rfl|rfl|rfl|h
  ·decide
  ·decide
  ·decide
  ·decide
  ·simp [List.getD,List.getElem?_eq_none (show [144,112,24,8].length≤i by exact h)]) (by decide)
 rw [Qxv]at C;refine C.mono ?_;rintro e wc ⟨v,rfl,hL⟩;obtain⟨p,cap,rfl,hIS,hpB⟩:=hL.is (fun i hi=>by have:=Qli i hi;omega) (fun i hi=>by have:=Qli i hi;omega)
 have HI:=Qh hIS;have HP:Hid (∀a,p=some a→w.heap.size≤a.block):=Qh fun a ha=>Nat.le_trans HKc.out.b.size (hpB a ha);have HKd:=Qh (HKc.out.below hL.b);clear hIS hL hpB hbs C HKc HK3;go_wp2_with fail;refine(Qhh 5 32 wc.heap.size (wc.alloc (.cells #[.int .i64 5] 3)) (Blk.new wc _ _) (by decide) (by decide)).mono ?_
 rintro e wd ⟨z5,rfl,hz5,lo5,b5⟩;have HLo:Hid (w.heap.size≤z5):=Qh (Nat.le_trans (HKd.out.alloc (.cells #[.int .i64 5] 3)).b.size lo5);have HKe:=Qh ((HKd.out.alloc (.cells #[.int .i64 5] 3)).below b5);have HI2:=Qh ((HI.out.below ((Below.refl _ wc).alloc Ql (.cells #[.int .i64 5] 3))).below b5);have HJ:Hid (IS (some ⟨z5,0,none⟩) 32 32 (numF fixB) wd):=Qh ((IS.row hz5 (fun _ _=>by decide) (fun _ _=>by decide)).castF Q0p)
 clear HKd HI hz5 lo5 b5;go_wp2_with fail;go_ret2;exact⟨p,cap,z5,rfl,HKe.out.b,HI2.out,HJ.out,HP.out,HLo.out⟩
section
variable {P:Program} {ops:Array Oper} {Q:Exit→Act→World→Prop} {md:Region.Mode}
theorem Qin {i:Nat} {o:Oper} {a:Act} {w:World} {K:Act→World→Prop} {f:FuncId} {args:Array Value} (hi:ops[i]? =some o) (hw:Region.wanted o (yielded ops a.tmps)=true)
  (hr:(execOp a.eval o).run P w= .ok (.enter f args) w) (hc:Calls P f args w fun e w'=>∃v,e= .returned v∧K (a.put o.dst v) w'):wpOp P ops Q i K a w:=by
 unfold Go.wpOp;simp only [hi,hw,if_true,Oper.wp]
 left
 rw [hr];refine hc.mono ?_;rintro e w' ⟨v,rfl,hk⟩;exact hk
theorem Qio {i:Nat} {o:Oper} {a:Act} {w:World} {K:Act→World→Prop} {R:World→Prop} {v:Value} (hi:ops[i]? =some o) (hw:Region.wanted o (yielded ops a.tmps)=true)
  (hr:Qbv P R v ((execOp a.eval o).run P w)) (hk:∀w',R w'→K (a.put o.dst v) w'):wpOp P ops Q i K a w:=by
 unfold Go.wpOp;simp only [hi,hw,if_true,Oper.wp];exact .inl (hr.upon hk)
theorem Qbc {id:Nat} {a:Act} {w:World} (hm:P.follows .mixedOrders=true) (h:wpAnyH P .any ops Q (fun _=>True) ops.size (Array.replicate ops.size false) a w.drew):(Code.region id ops true).wp P Q a w:=wp_region_held hm h
theorem Qa4 {i:Nat} {oi:Oper} {r:List Oper} {v:Value} {fuel:Nat} {listed:Array Bool} {a:Act} {w:World} (hi:ops.toList.drop i=oi::r)
  (hw:Region.wanted oi (yielded ops a.tmps)=true) (hy:∀w,(execOp a.eval oi).run P w= .ok (.value v) w)
  (h:wpAnyH P md ops Q (fun _=>True) fuel (listed.setIfInBounds i true) (a.put oi.dst v) w) (hs:Region.noSelect ops=true:=by kernel_rfl) (hf:Region.free md ops listed i=true:=by kernel_rfl) (hr:(Region.ready md ops listed).contains i=true:=by kernel_rfl)
  (hQ:∀c a w,Q (.panic c) (a.put oi.dst v) w→Q (.panic c) a w:=by exact fun _ _ _ h=>h):wpAnyH P md ops Q (fun _=>True) (fuel+1) listed a w:=
 wpAnyH_take (Qdt hi) hs hf hr hQ (.inl ⟨hw,fun w _=>hy w⟩) trivial h
theorem tH {i:Nat} {oi:Oper} {r:List Oper} {v:Value} {fuel:Nat} {listed:Array Bool} {a:Act} {w:World} (hi:ops.toList.drop i=oi::r)
  (hw:Region.wanted oi (yielded ops a.tmps)=true)
  (h:wpAnyH P md ops Q (fun _=>True) fuel (listed.setIfInBounds i true) (a.put oi.dst v) w) (hy:∀w,(execOp a.eval oi).run P w= .ok (.value v) w:=by intro;go_simp;skip) (hs:Region.noSelect ops=true:=by kernel_rfl) (hf:Region.free md ops listed i=true:=by kernel_rfl) (hr:(Region.ready md ops listed).contains i=true:=by kernel_rfl)
  (hQ:∀c a w,Q (.panic c) (a.put oi.dst v) w→Q (.panic c) a w:=by exact fun _ _ _ h=>h):wpAnyH P md ops Q (fun _=>True) (fuel+1) listed a w:=
 Qa4 hi hw hy h hs hf hr hQ
theorem Qau {i:Nat} {o:Oper} {r:List Oper} {fuel:Nat} {listed:Array Bool} {a:Act} {w:World} {f:FuncId} {args:Array Value} (hr:Region.ready md ops listed=[i]) (hi:ops.toList.drop i=o::r) (hw:Region.wanted o (yielded ops a.tmps)=true)
  (he:(execOp a.eval o).run P w= .ok (.enter f args) w) (hc:Calls P f args w fun e w'=>∃v,e= .returned v∧wpAnyH P md ops Q (fun _=>True) fuel (listed.setIfInBounds i true) (a.put o.dst v) w'):wpAnyH P md ops Q (fun _=>True) (fuel+1) listed a w:=
 wpAnyH_all hr (by simp) fun j hj=>by
  obtain rfl:=List.mem_singleton.1 hj;exact Qin (Qdt hi) hw he (hc.mono fun e w' ⟨v,h1,h2⟩=>⟨v,h1,trivial,h2⟩)
theorem Qd6 {i:Nat} {o:Oper} {r:List Oper} {fuel:Nat} {listed:Array Bool} {a:Act} {w:World} {R:World→Prop} {v:Value} (hr:Region.ready md ops listed=[i]) (hi:ops.toList.drop i=o::r) (hw:Region.wanted o (yielded ops a.tmps)=true)
  (hl:Qbv P R v ((execOp a.eval o).run P w)) (hk:∀w',R w'→wpAnyH P md ops Q (fun _=>True) fuel (listed.setIfInBounds i true) (a.put o.dst v) w'):wpAnyH P md ops Q (fun _=>True) (fuel+1) listed a w:=
 wpAnyH_all hr (by simp) fun j hj=>by
  obtain rfl:=List.mem_singleton.1 hj;exact Qio (Qdt hi) hw hl fun w' h=>⟨trivial,hk w' h⟩
end
end Go.Proofs.YtbmcjdoiohcaaaaGreat
