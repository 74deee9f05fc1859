/- NC -/
import Derived.Test.YtbmcjdoiohcaaaaGreatNB
import Derived.Maps.OwnOps
import Derived.Maps.OwnSet
import Derived.Maps.Views
import Derived.Laws.BitsAllLaws
set_option maxRecDepth 100000
set_option maxHeartbeats 8000000
namespace Go.Proofs.YtbmcjdoiohcaaaaGreat
open Go.RowKit
def th (b:Nat→Nat) (i:Nat):Nat:=b i+256*b (i+1)+65536*b (i+2)
theorem Q26 {b:Nat→Nat} (h:∀i,b i<256) (i:Nat):th b i<16777216:=by
 have:=h i;have:=h (i+1);have:=h (i+2);unfold th;omega
theorem Q25 {b:Nat→Nat} (h:∀i,b i<256) (i j:Nat):th b i=th b j↔b i=b j∧b (i+1)=b (j+1)∧b (i+2)=b (j+2):=by
 have:=h i;have:=h (i+1);have:=h (i+2);have:=h j;have:=h (j+1);have:=h (j+2);unfold th
 constructor
 ·intro e;omega
 ·rintro⟨e1,e2,e3⟩;omega
def Qev (b:Nat→Nat) (x y:Nat):Nat→Nat→Nat
 |k,0=>k
 |k,m+1=>if b (x+k)=b (y+k)then Qev b x y (k+1) m else k
def Qcc (b:Nat→Nat) (x y m:Nat):Nat:=Qev b x y 0 m
theorem Qmz (b:Nat→Nat) (x y:Nat):∀m k,k≤Qev b x y k m∧Qev b x y k m≤k+m
 |0,k=>⟨Ql,Ql⟩
 |m+1,k=>by
  have:=Qmz b x y m (k+1);unfold Qev;split<;>omega
theorem Qom (b:Nat→Nat) (x y:Nat):∀m k,(∀j,j<k→b (x+j)=b (y+j))→∀j,j<Qev b x y k m→b (x+j)=b (y+j)
 |0,k,h,j,hj=>h j hj
 |m+1,k,h,j,hj=>by
  unfold Qev at hj;split at hj
  ·next hh=>exact Qom b x y m (k+1) (fun i hi=>by
    by_cases e:i=k
    ·rw [e];exact hh
    ·exact h i (by omega)) j hj
  ·exact h j hj
theorem Qho (b:Nat→Nat) (x y m:Nat):Qcc b x y m≤m:=by have:=(Qmz b x y m 0).2;unfold Qcc;omega
theorem Qv7 {b:Nat→Nat} {x y m j:Nat} (h:j<Qcc b x y m):b (x+j)=b (y+j):=Qom b x y m 0 (fun j hj=>absurd hj (Nat.not_lt_zero j)) j h
theorem Qqc {b:Nat→Nat} {x y m:Nat} (h:b x=b y∧b (x+1)=b (y+1)∧b (x+2)=b (y+2)) (hm:3≤m):3≤Qcc b x y m:=by
 obtain⟨k,rfl⟩:∃k,m=k+1+1+1:=⟨m-3,by omega⟩
 have:=(Qmz b x y k 3).1;have e1:Qcc b x y (k+1+1+1)=if b (x+0)=b (y+0)then Qev b x y 1 (k+1+1)else 0:=rfl;have e2:Qev b x y 1 (k+1+1)=if b (x+1)=b (y+1)then Qev b x y 2 (k+1)else 1:=rfl;have e3:Qev b x y 2 (k+1)=if b (x+2)=b (y+2)then Qev b x y 3 k else 2:=rfl;rw [e1,if_pos (show b (x+0)=b (y+0)from h.1),e2,if_pos h.2.1,e3,if_pos h.2.2];exact this
def prv (b:Nat→Nat) (lo h:Nat):Nat→Option Nat
 |0=>none
 |i+1=>if lo≤i∧th b i=h then some i else prv b lo h i
theorem Qir {b:Nat→Nat} {lo h:Nat}:∀{i k:Nat},prv b lo h i=some k→lo≤k∧k<i∧th b k=h
 |0,_,e=>by cases e
 |i+1,k,e=>by
  unfold prv at e;split at e
  ·next hh=>injection e with e;subst e;exact⟨hh.1,Nat.lt_succ_self _,hh.2⟩
  ·have:=Qir e;exact⟨this.1,by omega,this.2.2⟩
def gapV (b:Nat→Nat) (lo p:Nat):Nat:=match prv b lo (th b p) p with|some k=>p-k|none=>0
theorem Qme {b:Nat→Nat} {lo p:Nat}:(0<gapV b lo p↔(prv b lo (th b p) p).isSome=true)∧(∀k,prv b lo (th b p) p=some k→p-gapV b lo p=k∧gapV b lo p=p-k)∧gapV b lo p≤p:=by
 unfold gapV;cases e:prv b lo (th b p) p with
 |none=>exact⟨⟨fun h=>absurd h (Nat.lt_irrefl 0),fun h=>(by cases h)⟩,fun k h=>(by cases h),Nat.zero_le _⟩
 |some k=>
  have:=Qir e;refine⟨⟨fun _=>rfl,fun _=> ?_⟩,fun j h=> ?_,?_⟩
  ·show 0<p-k;omega
  ·injection h with h
   subst h;show p-(p-k)=k∧p-k=p-k;omega
  ·show p-k≤p;omega
def srch (b:Nat→Nat) (lo most at_:Nat):Nat→Option Nat→Nat×Nat→Nat×Nat
 |0,_,best=>best
 |_+1,none,best=>best
 |f+1,some p,best=>if at_-p>32768 then best else
  if Qcc b p at_ most=most then(most,at_-p)else srch b lo most at_ f (prv b lo (th b p) p) (if best.1<Qcc b p at_ most then(Qcc b p at_ most,at_-p)else best)
def Qce (b:Nat→Nat) (lo to at_:Nat):Nat×Nat:=
 if min (to-at_) 258<3 then(1,0)else srch b lo (min (to-at_) 258) at_ 16 (prv b lo (th b at_) at_) (1,0)
def Qdy (b:Nat→Nat) (lo to:Nat):Nat→Nat→List (Nat×Nat)
 |0,_=>[]
 |f+1,a=>if a<to then Qce b lo to a::Qdy b lo to f (a+(Qce b lo to a).1)else []
def Qbl (b:Nat→Nat) (from_ to:Nat):List (Nat×Nat):=Qdy b (from_-32768) to (to-from_) from_
def okT (b:Nat→Nat) (to a:Nat) (t:Nat×Nat):Prop:=
 1≤t.1∧a+t.1≤to∧t.1≤258∧((t.1=1∧t.2=0)∨(3≤t.1∧1≤t.2∧t.2≤a∧t.2≤32768∧∀j,j<t.1→b (a+j)=b (a+j-t.2)))
theorem Qwe {b:Nat→Nat} (hb:∀i,b i<256) {lo most to a:Nat} (hm:3≤most) (hmt:a+most≤to) (hm2:most≤258):∀(f:Nat) (p:Option Nat) (best:Nat×Nat),(∀k,p=some k→k<a∧th b k=th b a)→okT b to a best→okT b to a (srch b lo most a f p best)
 |0,_,_,_,h=>h
 |_+1,none,_,_,h=>h
 |f+1,some k,best,hp,h=>by
  obtain⟨hk,ht⟩:=hp k rfl;have h3:=Qqc ((Q25 hb k a).1 ht) hm;have hle:=Qho b k a most;have cand:a-k≤32768→okT b to a (Qcc b k a most,a-k):=fun hd=>
   ⟨by show 1≤Qcc b k a most;omega,by show a+Qcc b k a most≤to;omega,by show Qcc b k a most≤258;omega,.inr ⟨h3,by show 1≤a-k;omega,by show a-k≤a;omega,hd,fun j hj=>by
    have:=Qv7 hj;show b (a+j)=b (a+j-(a-k));rw [show a+j-(a-k)=k+j by omega];exact this.symm⟩⟩
  unfold srch;split
  ·exact h
  ·next hd=>
   split
   ·next he=>rw [he]at cand;exact cand (by omega)
   ·refine Qwe hb hm hmt hm2 f _ _ (fun j hj=> ?_) ?_
    ·have:=Qir hj;exact⟨by omega,this.2.2.trans ht⟩
    ·split
     ·exact cand (by omega)
     ·exact h
theorem Qi3 {b:Nat→Nat} (hb:∀i,b i<256) (lo:Nat) {to a:Nat} (h:a<to):okT b to a (Qce b lo to a):=by
 have h1:okT b to a (1,0):=⟨Nat.le_refl 1,by show a+1≤to;omega,by decide,.inl ⟨rfl,rfl⟩⟩
 unfold Qce;split
 ·exact h1
 ·refine Qwe hb (by omega) (by omega) (by omega) _ _ _ (fun k hk=> ?_) h1
  have:=Qir hk;exact⟨this.2.1,this.2.2⟩
theorem Qf6 {b:Nat→Nat} {lo to f a:Nat} (h:¬a<to):Qdy b lo to f a=[]:=by
 cases f with
 |zero=>rfl
 |succ f=>unfold Qdy;rw [if_neg h]
theorem Qf7 {b:Nat→Nat} {lo to f a:Nat} (h:a<to):Qdy b lo to (f+1) a=Qce b lo to a::Qdy b lo to f (a+(Qce b lo to a).1):=by
 show(if a<to then _ else _)=_
 rw [if_pos h]
theorem Qil {b:Nat→Nat} (hb:∀i,b i<256) (lo to:Nat):∀k j a,to≤a+k→to≤a+j→Qdy b lo to k a=Qdy b lo to j a
 |0,j,a,h,_=>by rw [Qf6 (f:=j) (by omega)];rfl
 |k+1,0,a,_,h=>by rw [Qf6 (by omega)];rfl
 |k+1,j+1,a,h1,h2=>by
  by_cases h:a<to
  ·have:=(Qi3 hb lo h).1;rw [Qf7 h,Qf7 h,Qil hb lo to k j _ (by omega) (by omega)]
  ·rw [Qf6 h,Qf6 h]
theorem Qht (b:Nat→Nat) (lo to:Nat):∀f a,(Qdy b lo to f a).length≤f
 |0,_=>Nat.le_refl 0
 |f+1,a=>by
  unfold Qdy;split
  ·rw [List.length_cons];have:=Qht b lo to f (a+(Qce b lo to a).1);omega
  ·exact Nat.zero_le _
open Go.Maps (Keyed)
theorem Qlv:Keyed Tryz.prog 148:=Maps.int_keyed Tryz.underlying148
theorem Qzm (w:World):(zeroValue 3).run Tryz.prog w= .ok (.int .i64 0) w:=by kernel_rfl
theorem Qr8 (x:Nat) (hx:x<4294967296):keyOf Tryz.prog 148 (.int .u32 (x:Int))=some (.int .u32 (x:Int)):=
 Maps.keyOf_int_mk Tryz.underlying148 (by simp [Lit.wf,IntKind.min,IntKind.max,IntKind.bits,IntKind.signed];omega)
def MT (b n:Nat) (g:Nat→Option Nat) (w:World):Prop:=
 ∃D:DataW Unit,w.ownsMap Tryz.prog 148 (plainElem Tryz.prog 3) b n D∧(∀x:Nat,x<4294967296→Maps.has D (.int .u32 (x:Int))=(g x).isSome∧D.atKey (.int .u32 (x:Int)) (.lit (.int .i64 0))= .lit (.int .i64 (((g x).getD 0:Nat):Int)))
section
variable {b n:Nat} {g:Nat→Option Nat} {w:World}
theorem MT.made (w:World):MT w.heap.size 0 (fun _=>none) (w.alloc (.map #[] 0)):=
 ⟨.map [],World.ownsMap_made _ _ _ _,fun _ _=>⟨rfl,rfl⟩⟩
theorem MT.lt (h:MT b n g w):b<w.heap.size:=by obtain⟨D,h1,_⟩:=h;exact h1.lt
theorem MT.same {w':World} (h:MT b n g w) (hb:w'.heap[b]? =w.heap[b]?):MT b n g w':=by
 obtain⟨D,⟨es,clock,h1,h2⟩,h3⟩:=h;exact⟨D,⟨es,clock,hb.trans h1,h2⟩,h3⟩
theorem MT.below {w':World} (h:MT b n g w) (hb:Below w.heap.size w w'):MT b n g w':=h.same (hb.block b h.lt)
theorem MT.cast {g':Nat→Option Nat} (h:MT b n g w) (hg:∀x,g x=g' x):MT b n g' w:=by
 obtain rfl:g=g':=funext hg;exact h
theorem MT.look (h:MT b n g w) {x:Nat} (hx:x<4294967296):
  (Instr.lookup 144 (.map (some b)) (.int .u32 (x:Int)) true).run Tryz.prog w= .ok (.tuple #[.int .i64 (((g x).getD 0:Nat):Int),.bool (g x).isSome]) w:=by
 obtain⟨D,h1,h2⟩:=h;obtain⟨v,ps,h3,h4⟩:=h1.look_ok Qlv Tryz.underlying144 (Qzm w) (plainElem_int Tryz.underlying3 (by decide)) (Qr8 x hx)
 rw [(h2 x hx).2]at h4;obtain⟨a,rfl,ha,_⟩:=plainElem_int_inv Tryz.underlying3 h4;simp only [Prod.mk.injEq,DataW.lit.injEq,Lit.int.injEq]at ha;rw [h3,(h2 x hx).1,←ha.1.2]
theorem MT.put (h:MT b n g w) (hn:n<1000000) {x i:Nat} (hx:x<4294967296) (hi:i<9223372036854775808):
  ∃w',(Instr.mapUpdate 144 (.map (some b)) (.int .u32 (x:Int)) (.int .i64 (i:Int))).run Tryz.prog w= .ok () w'∧MT b (n+1) (fun y=>if x=y then some i else g y) w'∧w.grownBy w' (some b):=by
 obtain⟨D,h1,h2⟩:=h;obtain⟨w',h4,h5,h6⟩:=h1.update Qlv Tryz.underlying144 (by unfold maxLen;omega) (Qr8 x hx) (plainElem_int Tryz.underlying3 (a:=(i:Int)) (by simp [Lit.wf,IntKind.min,IntKind.max,IntKind.bits,IntKind.signed];omega))
 refine⟨w',h4,⟨_,h5,fun y hy=> ?_⟩,h6⟩;simp only;by_cases e:x=y
 ·subst e;rw [if_pos rfl,Maps.has_put_same h1.isMap (by trivial),Maps.atKey_put_same h1.isMap (by trivial)]
  exact⟨rfl,rfl⟩
 ·have hne:Lit.int .u32 (y:Int)≠ .int .u32 (x:Int):=fun hh=>by
   have:=(Lit.int.inj hh).2;omega
  rw [if_neg e,Maps.has_put_other hne,Maps.atKey_put_other hne];exact h2 y hy
end
theorem Q2x (k a b:Nat) (ha:a<2^k) (hk:k≤16) (hb:a+2^k*b<4294967296):bits .or .u32 (a:Int) ((b:Int)*((2^k:Nat):Int))=((a+2^k*b:Nat):Int):=by
 have h2:2^k*b<4294967296:=by omega
 have h1:2^k≤2^16:=Nat.pow_le_pow_right (by decide) hk
 have e:(b:Int)*((2^k:Nat):Int)=((2^k*b:Nat):Int):=by rw [Nat.mul_comm,Int.natCast_mul]
 rw [e,u32_or_nat _ _ (by omega) h2,Nat.or_comm,←Nat.two_pow_add_eq_or_of_lt ha,Nat.add_comm]
theorem Qkm (g:Nat) (s:ByteArray) (m gp l:Value) (p:Nat) (w:World) (h:Blk w g 146 #[.string s,m,gp,l]) (hp:p+2<s.size) (hs:s.size≤281474976710656):
  Calls Tryz.prog 88 #[.pointer (some ⟨g,0,none⟩),.int .i64 (p:Int)] w fun e w'=>e= .returned (.int .u32 (th (Qac s) p:Int))∧∃nq,w'=w.drewN nq:=by
 obtain⟨b0,h0⟩:∃b0,b0=Qac s p:=⟨_,rfl⟩;obtain⟨b1,h1⟩:∃b1,b1=Qac s (p+1):=⟨_,rfl⟩;obtain⟨b2,h2⟩:∃b2,b2=Qac s (p+2):=⟨_,rfl⟩;have l0:b0<256:=by rw [h0];exact Qaz _ _
 have l1:b1<256:=by rw [h1];exact Qaz _ _
 have l2:b2<256:=by rw [h2];exact Qaz _ _
 obtain⟨p1,hq1⟩:∃p1,p1=p+1:=⟨_,rfl⟩;obtain⟨p2,hq2⟩:∃p2,p2=p+2:=⟨_,rfl⟩;obtain⟨o1,ho1⟩:∃o1,o1=b0+256*b1:=⟨_,rfl⟩;obtain⟨o2,ho2⟩:∃o2,o2=o1+65536*b2:=⟨_,rfl⟩;have HTH:Hid (th (Qac s) p=o2):=Qh (by unfold th;rw [ho2,ho1,h0,h1,h2])
 have hs1:p1<s.size:=by omega
 have hs2:p2<s.size:=by omega
 have HC:Hid (w.cell? ⟨g,0,none⟩=some (.string s)):=Qh (h.cell 0);have hs0:p<s.size:=by omega
 have HB0:Hid ((s[p]'hs0).toNat=b0):=Qh (by rw [h0];exact Qa2 s p hs0)
 have HB1:Hid ((s[p1]'hs1).toNat=b1):=Qh (by rw [h1,←hq1];exact Qa2 s p1 hs1)
 have HB2:Hid ((s[p2]'hs2).toNat=b2):=Qh (by rw [h2,←hq2];exact Qa2 s p2 hs2)
 have HU0:Hid (IntKind.u32.wrap (b0:Int)=(b0:Int)):=Qh (by rw [IntKind.wrap_u32];omega)
 have HU1:Hid (IntKind.u32.wrap (b1:Int)=(b1:Int)):=Qh (by rw [IntKind.wrap_u32];omega)
 have HU2:Hid (IntKind.u32.wrap (b2:Int)=(b2:Int)):=Qh (by rw [IntKind.wrap_u32];omega)
 have HS1:Hid (IntKind.u32.wrap ((b1:Int)*256)=(b1:Int)*256):=Qh (by rw [IntKind.wrap_u32];omega)
 have HS2:Hid (IntKind.u32.wrap ((b2:Int)*65536)=(b2:Int)*65536):=Qh (by rw [IntKind.wrap_u32];omega)
 have HO1:Hid (bits .or .u32 (b0:Int) ((b1:Int)*256)=(o1:Int)):=Qh (by rw [ho1];exact Q2x 8 b0 b1 l0 (by omega) (by omega))
 have HO2:Hid (bits .or .u32 (o1:Int) ((b2:Int)*65536)=(o2:Int)):=Qh (by rw [ho2];exact Q2x 16 o1 b2 (by omega) (by omega) (by omega))
 have hp0:(p:Int)<(s.size:Int):=by omega
 have hp1:(p1:Int)<(s.size:Int):=by omega
 have hp2:(p2:Int)<(s.size:Int):=by omega
 have hw1:IntKind.i64.wrap ((p:Int)+1)=(p1:Int):=by rw [IntWalk.i64_in _ (by omega)];omega
 have hw2:IntKind.i64.wrap ((p:Int)+2)=(p2:Int):=by rw [IntWalk.i64_in _ (by omega)];omega
 clear h h0 h1 h2 l0 l1 l2 hq1 hq2 ho1 ho2;go_enter Tryz.func88,Tryz.ntmps88;go_wp2_with fail;refine Qad (Two 1000 1001 fun _ _ wx=>∃nx,wx=w.drewN nx) (by kernel_rfl) ⟨1,rfl⟩ ?_
 refine tN (i:=0) rfl rfl ?_;simp only [pu];refine tN (i:=1) rfl rfl ?_;simp only [pu];refine tN (i:=2) rfl rfl ?_;simp only [pu];refine Qaa (i:=3) (v:= .string s) rfl (Qaf rfl (fun f1 f2 wx hT=> ?_)) ?_
 ·obtain⟨nx,hx⟩:=hT;subst hx;have cc:=HC.out;refine Qab (w:=w.drewN nx) ?_ ⟨nx,rfl⟩;go_simp;skip
 simp only [pu];refine tM (i:=4) (v:= .int .i64 (p:Int)) rfl rfl ?_;simp only [pu];refine Qaa (i:=5) (v:= .int .u8 (b0:Int)) rfl (Qaf rfl (fun f1 f2 wx hT=> ?_)) ?_
 ·obtain⟨nx,hx⟩:=hT;subst hx;have cc:=HB0.out;refine Qab (w:=w.drewN nx) ?_ ⟨nx,rfl⟩;go_simp;skip
 simp only [pu];refine Qaa (i:=6) (v:= .int .u32 (b0:Int)) rfl (Qaf rfl (fun f1 f2 wx hT=> ?_)) ?_
 ·obtain⟨nx,hx⟩:=hT;subst hx;have cc:=HU0.out;refine Qab (w:=w.drewN nx) ?_ ⟨nx,rfl⟩;go_simp;skip
 simp only [pu];refine tN (i:=7) rfl rfl ?_;simp only [pu];refine tN (i:=8) rfl rfl ?_;simp only [pu];refine tN (i:=9) rfl rfl ?_;simp only [pu];refine Qaa (i:=10) (v:= .string s) rfl (Qaf rfl (fun f1 f2 wx hT=> ?_)) ?_
 ·obtain⟨nx,hx⟩:=hT;subst hx;have cc:=HC.out;refine Qab (w:=w.drewN nx) ?_ ⟨nx,rfl⟩;go_simp;skip
 simp only [pu];refine tM (i:=11) (v:= .int .i64 (p:Int)) rfl rfl ?_;simp only [pu];refine tM (i:=12) (v:= .int .i64 (p1:Int)) rfl rfl ?_;simp only [pu];refine Qaa (i:=13) (v:= .int .u8 (b1:Int)) rfl (Qaf rfl (fun f1 f2 wx hT=> ?_)) ?_
 ·obtain⟨nx,hx⟩:=hT;subst hx;have cc:=HB1.out;refine Qab (w:=w.drewN nx) ?_ ⟨nx,rfl⟩;go_simp;skip
 simp only [pu];refine Qaa (i:=14) (v:= .int .u32 (b1:Int)) rfl (Qaf rfl (fun f1 f2 wx hT=> ?_)) ?_
 ·obtain⟨nx,hx⟩:=hT;subst hx;have cc:=HU1.out;refine Qab (w:=w.drewN nx) ?_ ⟨nx,rfl⟩;go_simp;skip
 simp only [pu];refine Qaa (i:=15) (v:= .int .u32 ((b1:Int)*256)) rfl (Qaf rfl (fun f1 f2 wx hT=> ?_)) ?_
 ·obtain⟨nx,hx⟩:=hT;subst hx;have cc:=HS1.out;refine Qab (w:=w.drewN nx) ?_ ⟨nx,rfl⟩;go_simp;skip
 simp only [pu];refine Qaa (i:=16) (v:= .int .u32 (o1:Int)) rfl (Qaf rfl (fun f1 f2 wx hT=> ?_)) ?_
 ·obtain⟨nx,hx⟩:=hT;subst hx;have cc:=HO1.out;refine Qab (w:=w.drewN nx) ?_ ⟨nx,rfl⟩;go_simp;skip
 simp only [pu];refine tN (i:=17) rfl rfl ?_;simp only [pu];refine tN (i:=18) rfl rfl ?_;simp only [pu];refine tN (i:=19) rfl rfl ?_;simp only [pu];refine Qaa (i:=20) (v:= .string s) rfl (Qaf rfl (fun f1 f2 wx hT=> ?_)) ?_
 ·obtain⟨nx,hx⟩:=hT;subst hx;have cc:=HC.out;refine Qab (w:=w.drewN nx) ?_ ⟨nx,rfl⟩;go_simp;skip
 simp only [pu];refine tM (i:=21) (v:= .int .i64 (p:Int)) rfl rfl ?_;simp only [pu];refine tM (i:=22) (v:= .int .i64 (p2:Int)) rfl rfl ?_;simp only [pu];refine Qaa (i:=23) (v:= .int .u8 (b2:Int)) rfl (Qaf rfl (fun f1 f2 wx hT=> ?_)) ?_
 ·obtain⟨nx,hx⟩:=hT;subst hx;have cc:=HB2.out;refine Qab (w:=w.drewN nx) ?_ ⟨nx,rfl⟩;go_simp;skip
 simp only [pu];refine Qaa (i:=24) (v:= .int .u32 (b2:Int)) rfl (Qaf rfl (fun f1 f2 wx hT=> ?_)) ?_
 ·obtain⟨nx,hx⟩:=hT;subst hx;have cc:=HU2.out;refine Qab (w:=w.drewN nx) ?_ ⟨nx,rfl⟩;go_simp;skip
 simp only [pu];refine Qaa (i:=25) (v:= .int .u32 ((b2:Int)*65536)) rfl (Qaf rfl (fun f1 f2 wx hT=> ?_)) ?_
 ·obtain⟨nx,hx⟩:=hT;subst hx;have cc:=HS2.out;refine Qab (w:=w.drewN nx) ?_ ⟨nx,rfl⟩;go_simp;skip
 simp only [pu];refine Qaa (i:=26) (v:= .int .u32 (o2:Int)) rfl (Qaf rfl (fun f1 f2 wx hT=> ?_)) ?_
 ·obtain⟨nx,hx⟩:=hT;subst hx;have cc:=HO2.out;refine Qab (w:=w.drewN nx) ?_ ⟨nx,rfl⟩;go_simp;skip
 simp only [pu];refine tM (i:=27) (v:= .int .u32 (o2:Int)) rfl rfl ?_;simp only [pu];refine Qag rfl ?_ _;rintro w2 ⟨nx,rfl⟩;go_wp2_with fail;go_ret;rw [HTH.out];exact⟨rfl,_,rfl⟩
theorem Qy1 (g:Nat) (s:ByteArray) (mp gp l:Value) (x y m:Nat) (w:World) (h:Blk w g 146 #[.string s,mp,gp,l]) (hx:x+m≤s.size) (hy:y+m≤s.size) (hs:s.size≤281474976710656) (hm:m≤1000):
  Calls Tryz.prog 89 #[.pointer (some ⟨g,0,none⟩),.int .i64 (x:Int),.int .i64 (y:Int),.int .i64 (m:Int)] w fun e w'=>e= .returned (.int .i64 (Qcc (Qac s) x y m:Int))∧∃nq,w'=w.drewN nq:=by
 have HC:Hid (w.cell? ⟨g,0,none⟩=some (.string s)):=Qh (h.cell 0);clear h;go_enter Tryz.func89,Tryz.ntmps89;go_wp2_with fail;go_loopw [9] (fun k wr=>∃i nq:Nat,k= .int .i64 (i:Int)∧i≤m∧Hid (Qev (Qac s) x y i (m-i)=Qcc (Qac s) x y m)∧wr=w.drewN nq) (fun k _=>m-(intOf k).toNat)
 case atStart=>exact⟨0,0,rfl,by omega,Qh rfl,rfl⟩
 case round=>
  obtain⟨i,nq,rfl,him,HA,rfl⟩:=hrel;by_cases hlt:i<m
  ·obtain⟨xi,hxx⟩:∃xi,xi=x+i:=⟨_,rfl⟩;obtain⟨yi,hyy⟩:∃yi,yi=y+i:=⟨_,rfl⟩;have hsx:xi<s.size:=by omega
   have hsy:yi<s.size:=by omega
   obtain⟨bx,hbx⟩:∃bx,bx=Qac s (x+i):=⟨_,rfl⟩;obtain⟨by_,hby⟩:∃by_,by_=Qac s (y+i):=⟨_,rfl⟩;have lx:bx<256:=by rw [hbx];exact Qaz _ _
   have ly:by_<256:=by rw [hby];exact Qaz _ _
   have HBX:Hid ((s[xi]'hsx).toNat=bx):=Qh (by rw [hbx,←hxx];exact Qa2 s xi hsx)
   have HBY:Hid ((s[yi]'hsy).toNat=by_):=Qh (by rw [hby,←hyy];exact Qa2 s yi hsy)
   have hlti:(i:Int)<(m:Int):=by omega
   have hxi:(xi:Int)<(s.size:Int):=by omega
   have hyi:(yi:Int)<(s.size:Int):=by omega
   have hwx:IntKind.i64.wrap ((x:Int)+(i:Int))=(xi:Int):=by rw [IntWalk.i64_in _ (by omega)];omega
   have hwy:IntKind.i64.wrap ((y:Int)+(i:Int))=(yi:Int):=by rw [IntWalk.i64_in _ (by omega)];omega
   have hw:IntKind.i64.wrap ((i:Int)+1)=((i+1:Nat):Int):=by rw [IntWalk.i64_in _ (by omega)];rfl
   have HL:=Qh (⟨hlt,him⟩:i<m∧i≤m);by_cases he:bx=by_
   ·have HS:Hid (Qev (Qac s) x y (i+1) (m-(i+1))=Qcc (Qac s) x y m):=Qh (by
     rw [←HA.out,show m-i=m-(i+1)+1 by omega]
     show _=if Qac s (x+i)=Qac s (y+i)then Qev (Qac s) x y (i+1) (m-(i+1))else i
     rw [if_pos (by rw [←hbx,←hby];exact he)])
    have HE:Hid ((bx:Int)=(by_:Int)):=Qh (by rw [he])
    clear hlt he HA hbx hby lx ly hxx hyy;go_wp2_with fail;refine Qad (Two 1000 1001 fun _ _ wx=>∃nx,wx=w.drewN nx) (by kernel_rfl) ⟨nq+1,rfl⟩ ?_
    refine tM (i:=0) (v:= .int .i64 (i:Int)) rfl rfl ?_;simp only [pu];refine tM (i:=1) (v:= .int .i64 (m:Int)) rfl rfl ?_;simp only [pu];refine tM (i:=2) (v:= .bool true) rfl rfl ?_;simp only [pu];refine tM (i:=3) (v:= .bool true) rfl rfl ?_;simp only [pu];refine tN (i:=4) rfl rfl ?_;simp only [pu];refine tN (i:=5) rfl rfl ?_;simp only [pu];refine tN (i:=6) rfl rfl ?_;simp only [pu];refine Qaa (i:=7) (v:= .string s) rfl (Qaf rfl (fun f1 f2 wx hT=> ?_)) ?_
    ·obtain⟨nx,hx⟩:=hT;subst hx;have cc:=HC.out;refine Qab (w:=w.drewN nx) ?_ ⟨nx,rfl⟩;go_simp;skip
    simp only [pu];refine tM (i:=8) (v:= .int .i64 (x:Int)) rfl rfl ?_;simp only [pu];refine tM (i:=9) (v:= .int .i64 (i:Int)) rfl rfl ?_;simp only [pu];refine tM (i:=10) (v:= .int .i64 (xi:Int)) rfl rfl ?_;simp only [pu];refine Qaa (i:=11) (v:= .int .u8 (bx:Int)) rfl (Qaf rfl (fun f1 f2 wx hT=> ?_)) ?_
    ·obtain⟨nx,hx⟩:=hT;subst hx;have cc:=HBX.out;refine Qab (w:=w.drewN nx) ?_ ⟨nx,rfl⟩;go_simp;skip
    simp only [pu];refine tN (i:=12) rfl rfl ?_;simp only [pu];refine tN (i:=13) rfl rfl ?_;simp only [pu];refine tN (i:=14) rfl rfl ?_;simp only [pu];refine Qaa (i:=15) (v:= .string s) rfl (Qaf rfl (fun f1 f2 wx hT=> ?_)) ?_
    ·obtain⟨nx,hx⟩:=hT;subst hx;have cc:=HC.out;refine Qab (w:=w.drewN nx) ?_ ⟨nx,rfl⟩;go_simp;skip
    simp only [pu];refine tM (i:=16) (v:= .int .i64 (y:Int)) rfl rfl ?_;simp only [pu];refine tM (i:=17) (v:= .int .i64 (i:Int)) rfl rfl ?_;simp only [pu];refine tM (i:=18) (v:= .int .i64 (yi:Int)) rfl rfl ?_;simp only [pu];refine Qaa (i:=19) (v:= .int .u8 (by_:Int)) rfl (Qaf rfl (fun f1 f2 wx hT=> ?_)) ?_
    ·obtain⟨nx,hx⟩:=hT;subst hx;have cc:=HBY.out;refine Qab (w:=w.drewN nx) ?_ ⟨nx,rfl⟩;go_simp;skip
    simp only [pu];refine Qaa (i:=20) (v:= .bool true) rfl (Qaf rfl (fun f1 f2 wx hT=> ?_)) ?_
    ·obtain⟨nx,hx⟩:=hT;subst hx;have cc:=HE.out;refine Qab (w:=w.drewN nx) ?_ ⟨nx,rfl⟩;go_simp;skip
    simp only [pu];refine tM (i:=21) (v:= .bool true) rfl rfl ?_;simp only [pu];refine Qag rfl ?_ _;rintro w2 ⟨nx,rfl⟩;go_wp2_with fail;exact⟨⟨i+1,nx,by go_num,by have:=HL.out;omega,HS,rfl⟩,by simp only [intOf];have:=HL.out;omega⟩
   ·have HS:Hid (Qcc (Qac s) x y m=i):=Qh (by
     rw [←HA.out,show m-i=m-(i+1)+1 by omega]
     show(if Qac s (x+i)=Qac s (y+i)then Qev (Qac s) x y (i+1) (m-(i+1))else i)=i
     rw [if_neg (by rw [←hbx,←hby];exact he)])
    have HE:Hid (¬(bx:Int)=(by_:Int)):=Qh (by omega)
    clear hlt he HA hbx hby lx ly hxx hyy;go_wp2_with fail;refine Qad (Two 1000 1001 fun _ _ wx=>∃nx,wx=w.drewN nx) (by kernel_rfl) ⟨nq+1,rfl⟩ ?_
    refine tM (i:=0) (v:= .int .i64 (i:Int)) rfl rfl ?_;simp only [pu];refine tM (i:=1) (v:= .int .i64 (m:Int)) rfl rfl ?_;simp only [pu];refine tM (i:=2) (v:= .bool true) rfl rfl ?_;simp only [pu];refine tM (i:=3) (v:= .bool true) rfl rfl ?_;simp only [pu];refine tN (i:=4) rfl rfl ?_;simp only [pu];refine tN (i:=5) rfl rfl ?_;simp only [pu];refine tN (i:=6) rfl rfl ?_;simp only [pu];refine Qaa (i:=7) (v:= .string s) rfl (Qaf rfl (fun f1 f2 wx hT=> ?_)) ?_
    ·obtain⟨nx,hx⟩:=hT;subst hx;have cc:=HC.out;refine Qab (w:=w.drewN nx) ?_ ⟨nx,rfl⟩;go_simp;skip
    simp only [pu];refine tM (i:=8) (v:= .int .i64 (x:Int)) rfl rfl ?_;simp only [pu];refine tM (i:=9) (v:= .int .i64 (i:Int)) rfl rfl ?_;simp only [pu];refine tM (i:=10) (v:= .int .i64 (xi:Int)) rfl rfl ?_;simp only [pu];refine Qaa (i:=11) (v:= .int .u8 (bx:Int)) rfl (Qaf rfl (fun f1 f2 wx hT=> ?_)) ?_
    ·obtain⟨nx,hx⟩:=hT;subst hx;have cc:=HBX.out;refine Qab (w:=w.drewN nx) ?_ ⟨nx,rfl⟩;go_simp;skip
    simp only [pu];refine tN (i:=12) rfl rfl ?_;simp only [pu];refine tN (i:=13) rfl rfl ?_;simp only [pu];refine tN (i:=14) rfl rfl ?_;simp only [pu];refine Qaa (i:=15) (v:= .string s) rfl (Qaf rfl (fun f1 f2 wx hT=> ?_)) ?_
    ·obtain⟨nx,hx⟩:=hT;subst hx;have cc:=HC.out;refine Qab (w:=w.drewN nx) ?_ ⟨nx,rfl⟩;go_simp;skip
    simp only [pu];refine tM (i:=16) (v:= .int .i64 (y:Int)) rfl rfl ?_;simp only [pu];refine tM (i:=17) (v:= .int .i64 (i:Int)) rfl rfl ?_;simp only [pu];refine tM (i:=18) (v:= .int .i64 (yi:Int)) rfl rfl ?_;simp only [pu];refine Qaa (i:=19) (v:= .int .u8 (by_:Int)) rfl (Qaf rfl (fun f1 f2 wx hT=> ?_)) ?_
    ·obtain⟨nx,hx⟩:=hT;subst hx;have cc:=HBY.out;refine Qab (w:=w.drewN nx) ?_ ⟨nx,rfl⟩;go_simp;skip
    simp only [pu];refine Qaa (i:=20) (v:= .bool false) rfl (Qaf rfl (fun f1 f2 wx hT=> ?_)) ?_
    ·obtain⟨nx,hx⟩:=hT;subst hx;have cc:=HE.out;refine Qab (w:=w.drewN nx) ?_ ⟨nx,rfl⟩;go_simp;skip
    simp only [pu];refine tM (i:=21) (v:= .bool false) rfl rfl ?_;simp only [pu];refine Qag rfl ?_ _;rintro w2 ⟨nx,rfl⟩;go_wp2_with fail;go_ret;rw [HS.out];exact⟨rfl,nx,rfl⟩
  ·obtain rfl:i=m:=by omega
   have HS:Hid (Qcc (Qac s) x y i=i):=Qh (by rw [←HA.out,Nat.sub_self];rfl)
   have hlti:¬(i:Int)<(i:Int):=by omega
   clear HA;go_wp2_with fail;refine Qad (Two 1000 1001 fun _ _ wx=>∃nx,wx=w.drewN nx) (by kernel_rfl) ⟨nq+1,rfl⟩ ?_
   refine tM (i:=0) (v:= .int .i64 (i:Int)) rfl rfl ?_;simp only [pu];refine tM (i:=1) (v:= .int .i64 (i:Int)) rfl rfl ?_;simp only [pu];refine tM (i:=2) (v:= .bool false) rfl rfl ?_;simp only [pu];refine tM (i:=3) (v:= .bool false) rfl rfl ?_;simp only [pu];refine Qaa (i:=4) (v:=undef) rfl (Qae rfl) ?_;simp only [pu];refine Qaa (i:=5) (v:=undef) rfl (Qae rfl) ?_;simp only [pu];refine Qaa (i:=6) (v:=undef) rfl (Qae rfl) ?_;simp only [pu];refine Qaa (i:=7) (v:=undef) rfl (Qae rfl) ?_;simp only [pu];refine Qaa (i:=8) (v:=undef) rfl (Qae rfl) ?_;simp only [pu];refine Qaa (i:=9) (v:=undef) rfl (Qae rfl) ?_;simp only [pu];refine Qaa (i:=10) (v:=undef) rfl (Qae rfl) ?_;simp only [pu];refine Qaa (i:=11) (v:=undef) rfl (Qae rfl) ?_;simp only [pu];refine Qaa (i:=12) (v:=undef) rfl (Qae rfl) ?_;simp only [pu];refine Qaa (i:=13) (v:=undef) rfl (Qae rfl) ?_;simp only [pu];refine Qaa (i:=14) (v:=undef) rfl (Qae rfl) ?_;simp only [pu];refine Qaa (i:=15) (v:=undef) rfl (Qae rfl) ?_;simp only [pu];refine Qaa (i:=16) (v:=undef) rfl (Qae rfl) ?_;simp only [pu];refine Qaa (i:=17) (v:=undef) rfl (Qae rfl) ?_;simp only [pu];refine Qaa (i:=18) (v:=undef) rfl (Qae rfl) ?_;simp only [pu];refine Qaa (i:=19) (v:=undef) rfl (Qae rfl) ?_;simp only [pu];refine Qaa (i:=20) (v:=undef) rfl (Qae rfl) ?_;simp only [pu];refine tM (i:=21) (v:= .bool false) rfl rfl ?_;simp only [pu];refine Qag rfl ?_ _;rintro w2 ⟨nx,rfl⟩;go_wp2_with fail;go_ret;rw [HS.out];exact⟨rfl,nx,rfl⟩
structure FN (g qm qg n:Nat) (s:ByteArray) (lo len p:Nat) (w:World):Prop where
 blk:Blk w g 146 #[.string s,.map (some qm),.slice (some ⟨qg,0,none⟩) len len,.int .i64 (p:Int)]
 map:MT qm n (fun h=>prv (Qac s) lo h p) w
 gap:∃F:Nat→Nat,Blk w qg 3 (rI len fun i=>(F i:Int))∧(∀k,lo≤k→k<p→p≤k+len→F (k%len)=gapV (Qac s) lo k)
 ne:g≠qm∧g≠qg∧qm≠qg
 ge:lo≤p
 cnt:n≤p-lo
structure Fm (g qm qg:Nat) (w w':World):Prop where
 os:w'.os=w.os
 tape:w'.tape=w.tape
 output:w'.output=w.output
 size:w.heap.size≤w'.heap.size
 block:∀i,i<w.heap.size→i≠g→i≠qm→i≠qg→w'.heap[i]? =w.heap[i]?
theorem Fm.refl (g qm qg:Nat) (w:World):Fm g qm qg w w:=⟨rfl,rfl,rfl,Ql,fun _ _ _ _ _=>rfl⟩
theorem Fm.trans {g qm qg:Nat} {w w1 w2:World} (h:Fm g qm qg w w1) (k:Fm g qm qg w1 w2):Fm g qm qg w w2:=
 ⟨k.os.trans h.os,k.tape.trans h.tape,k.output.trans h.output,Nat.le_trans h.size k.size,fun i hi h1 h2 h3=>(k.block i (Nat.lt_of_lt_of_le hi h.size) h1 h2 h3).trans (h.block i hi h1 h2 h3)⟩
theorem Fm.of {g qm qg:Nat} {w w':World} (h:Below w.heap.size w w'):Fm g qm qg w w':=⟨h.os,h.tape,h.output,h.size,fun i hi _ _ _=>h.block i hi⟩
theorem Fm.drewN {g qm qg:Nat} {w w':World} (h:Fm g qm qg w w') (n:Nat):Fm g qm qg w (w'.drewN n):=⟨h.os,h.tape,h.output,h.size,h.block⟩
theorem Fm.set {g qm qg:Nat} {w w':World} (h:Fm g qm qg w w') (q j:Nat) (v:Value) (hq:q=g∨q=qm∨q=qg):Fm g qm qg w (w'.setCell ⟨q,j,none⟩ v):=
 ⟨h.os,h.tape,h.output,by simp [World.setCell];exact h.size,fun i hi h1 h2 h3=>(Below.heap_setCell w' ⟨q,j,none⟩ v i (show i≠q by rcases hq with rfl|rfl|rfl<;>assumption)).trans (h.block i hi h1 h2 h3)⟩
theorem Fm.grown {g qm qg:Nat} {w w1 w2:World} (h:Fm g qm qg w w1) (k:w1.grownBy w2 (some qm)):Fm g qm qg w w2:=
 ⟨k.os.trans h.os,k.tape.trans h.tape,k.output.trans h.output,Nat.le_trans h.size k.size,fun i hi h1 h2 h3=>(k.block i (Nat.lt_of_lt_of_le hi h.size) (fun e=>h2 (by injection e))).trans (h.block i hi h1 h2 h3)⟩
theorem FN.below {g qm qg n:Nat} {s:ByteArray} {lo len p:Nat} {w w':World} (h:FN g qm qg n s lo len p w) (hb:Below w.heap.size w w'):FN g qm qg n s lo len p w':=
 ⟨h.blk.below hb h.blk.lt,h.map.below hb,(by obtain⟨F,h1,h2⟩:=h.gap;exact⟨F,h1.below hb h1.lt,h2⟩),h.ne,h.ge,h.cnt⟩
theorem FN.drewN {g qm qg n:Nat} {s:ByteArray} {lo len p:Nat} {w:World} (h:FN g qm qg n s lo len p w) (k:Nat):FN g qm qg n s lo len p (w.drewN k):=h.below (Qbu (Below.refl _ w) k)
theorem Q2r {a b n:Nat} (h:a<b) (hn:b<a+n):a%n≠b%n:=fun e=>by
 have h1:=Nat.div_add_mod a n;have h2:=Nat.div_add_mod b n;rw [e]at h1;have h3:n*(a /n)<n*(b /n):=by omega
 have h4:a /n<b /n:=Nat.lt_of_mul_lt_mul_left h3;have h5:n*(a /n+1)≤n*(b /n):=Nat.mul_le_mul_left n h4;rw [Nat.mul_add,Nat.mul_one]at h5;omega
theorem Qyw {b:Nat→Nat} {lo k:Nat} (h:lo≤k) (y:Nat):(if th b k=y then some k else prv b lo y k)=prv b lo y (k+1):=by
 show _=if lo≤k∧th b k=y then some k else prv b lo y k
 by_cases e:th b k=y
 ·rw [if_pos e,if_pos ⟨h,e⟩]
 ·rw [if_neg e,if_neg (fun hh=>e hh.2)]
theorem Qu0 (g qm qg n:Nat) (s:ByteArray) (lo len p at_:Nat) (w:World) (h:FN g qm qg n s lo len p w) (hp:p≤at_) (ha:at_+2<s.size) (hs:s.size≤281474976710656) (hl0:0<len) (hl1:len≤1000000) (hmx:at_-lo<1000000):
  Calls Tryz.prog 87 #[.pointer (some ⟨g,0,none⟩),.int .i64 (at_:Int)] w fun e w'=>e= .returned (.tuple #[])∧∃n',FN g qm qg n' s lo len at_ w'∧Fm g qm qg w w':=by
 have H0:=Qh (⟨h,Fm.refl g qm qg w⟩:FN g qm qg n s lo len p w∧Fm g qm qg w w);clear h;go_enter Tryz.func87,Tryz.ntmps87;go_wp2_with fail;go_loopg [5] (at_-p) (fun gk u wr=>∃k n':Nat,gk=at_-k∧k≤at_∧Hid (FN g qm qg n' s lo len k wr∧Fm g qm qg w wr))
 case atStart=>exact⟨p,n,rfl,hp,H0⟩
 case round=>
  obtain⟨k,n',hgk,hk,HR⟩:=hrel;clear H0;have c3:=HR.out.1.blk.cell 3;by_cases hlt:k<at_
  ·have hlti:(k:Int)<(at_:Int):=by omega
   have C:=Qkm g s _ _ _ k wr HR.out.1.blk (by omega) hs
   have ht3:=Q26 (Qaz s) k;obtain⟨T3,hT3⟩:∃T3,T3=th (Qac s) k:=⟨_,rfl⟩;rw [←hT3]at C ht3;obtain⟨r,hr⟩:∃r,r=k%len:=⟨_,rfl⟩;have hrl:r<len:=by rw [hr];exact Nat.mod_lt _ hl0
   have hr1:(k:Int).tmod (len:Int)=(r:Int):=by rw [Int.tmod_eq_emod_of_nonneg (by omega),hr];rfl
   have hr2:(k:Int)%(len:Int)=(r:Int):=by rw [hr];rfl
   have hl00:¬len=0:=by omega
   have hrli:(r:Int)<(len:Int):=by omega
   obtain⟨G,hG⟩:∃G,G=gapV (Qac s) lo k:=⟨_,rfl⟩;have hGk:G≤k:=by rw [hG];exact Qme.2.2
   have HRR:=Qh hr;have HGG:=Qh hG;have HTT:=Qh hT3;have HKN:=Qh (⟨hlt,hgk,HR.out.1.ge,HR.out.1.cnt⟩:k<at_∧gk=at_-k∧lo≤k∧n'≤k-lo);have hkw:IntKind.i64.wrap ((k:Int)+1)=((k+1:Nat):Int):=by rw [IntWalk.i64_in _ (by omega)];rfl
   have HAT:Hid (k+1<281474976710656):=Qh (by omega)
   clear hr hG hgk hlt hk hp hT3;go_wp2_with fail;refine C.mono ?_;rintro e wt ⟨rfl,nt,rfl⟩;clear C c3;have HR1:=Qh (⟨HR.out.1.drewN nt,HR.out.2.drewN nt⟩:FN g qm qg n' s lo len k (wr.drewN nt)∧Fm g qm qg w (wr.drewN nt));clear HR;generalize wr.drewN nt=wa at HR1⊢;have c1:=HR1.out.1.blk.cell 1;have c3:=HR1.out.1.blk.cell 3;have HLK:=Qh (HR1.out.1.map.look (x:=T3) (by omega))
   obtain⟨F,hF1,hF2⟩:=HR1.out.1.gap;obtain⟨S7,hS7⟩:∃S:World→Prop,S=fun wx=>Blk wx g 146 #[.string s,.map (some qm),.slice (some ⟨qg,0,none⟩) len len,.int .i64 (k:Int)]∧MT qm n' (fun h=>prv (Qac s) lo h k) wx∧Blk wx qg 3 (rI len fun i=>(F i:Int))∧Fm g qm qg w wx:=⟨_,rfl⟩;obtain⟨S8,hS8⟩:∃S:World→Prop,S=fun wx=>Blk wx g 146 #[.string s,.map (some qm),.slice (some ⟨qg,0,none⟩) len len,.int .i64 (k:Int)]∧MT qm n' (fun h=>prv (Qac s) lo h k) wx∧Blk wx qg 3 (rI len fun i=>((if i=r then G else F i:Nat):Int))∧Fm g qm qg w wx:=⟨_,rfl⟩;obtain⟨S9,hS9⟩:∃S:World→Prop,S=fun wx=>Blk wx g 146 #[.string s,.map (some qm),.slice (some ⟨qg,0,none⟩) len len,.int .i64 (k:Int)]∧MT qm (n'+1) (fun h=>prv (Qac s) lo h (k+1)) wx∧Blk wx qg 3 (rI len fun i=>((if i=r then G else F i:Nat):Int))∧Fm g qm qg w wx:=⟨_,rfl⟩;have HNE:=Qh HR1.out.1.ne;have HS7:Hid (S7 wa.drew):=Qh (by rw [hS7];exact⟨HR1.out.1.blk.drew,HR1.out.1.map.same rfl,hF1.drew,HR1.out.2.drewN 1⟩)
   have HA2:Hid (∀wx,S7 wx→wx.cell? ⟨g,2,none⟩=some (.slice (some ⟨qg,0,none⟩) len len)):=Qh fun wx h=>by rw [hS7]at h;exact h.1.cell 2
   have HA3:Hid (∀wx,S7 wx→wx.cell? ⟨g,3,none⟩=some (.int .i64 (k:Int))):=Qh fun wx h=>by rw [hS7]at h;exact h.1.cell 3
   have HST:Hid (∀wx,S7 wx→wx.cell? ⟨qg,r,none⟩=some (.int .i64 (F r:Int))∧wx.frozen? ⟨qg,r,none⟩=false∧S8 (wx.setCell ⟨qg,r,none⟩ (.int .i64 (G:Int)))):=Qh fun wx h=>by
    rw [hS7]at h;rw [hS8];refine⟨h.2.2.1.at_ hrl,h.2.2.1.frozen r,?_,?_,?_,?_⟩
    ·exact(Below.heap_setCell wx ⟨qg,r,none⟩ _ g (show g≠qg from HNE.out.2.1)).trans h.1
    ·exact h.2.1.same (Below.heap_setCell wx ⟨qg,r,none⟩ _ qm (show qm≠qg from HNE.out.2.2))
    ·exact(h.2.2.1.put hrl (.int .i64 (G:Int))).cast_ (Qa3 fun i _=>by
      dsimp only;by_cases e:i=r
      ·rw [if_pos e,if_pos e]
      ·rw [if_neg e,if_neg e])
    ·exact h.2.2.2.set qg r _ (.inr (.inr rfl))
   have HS8:Hid (∀wx,S8 wx→S8 wx.drew):=Qh fun wx h=>by
    rw [hS8]at h⊢;exact⟨h.1.drew,h.2.1.same rfl,h.2.2.1.drew,h.2.2.2.drewN 1⟩
   have HB1:Hid (∀wx,S8 wx→wx.cell? ⟨g,1,none⟩=some (.map (some qm))):=Qh fun wx h=>by rw [hS8]at h;exact h.1.cell 1
   have HB3:Hid (∀wx,S8 wx→wx.cell? ⟨g,3,none⟩=some (.int .i64 (k:Int))):=Qh fun wx h=>by rw [hS8]at h;exact h.1.cell 3
   have HPUT:Hid (∀wx,S8 wx→∃w9,(Instr.mapUpdate 144 (.map (some qm)) (.int .u32 (T3:Int)) (.int .i64 (k:Int))).run Tryz.prog wx= .ok () w9∧S9 w9):=Qh fun wx h=>by
    rw [hS8]at h;have hkn:=HKN.out;obtain⟨w9,e9,m9,g9⟩:=h.2.1.put (by omega) (x:=T3) (i:=k) (by omega) (by omega)
    refine⟨w9,e9,?_⟩;rw [hS9];refine⟨(g9.block g h.1.lt (fun e=>HNE.out.1 (by injection e))).trans h.1,m9.cast fun y=> ?_,(g9.block qg h.2.2.1.lt (fun e=>HNE.out.2.2 (by injection e with e;exact e.symm))).trans h.2.2.1,h.2.2.2.grown g9⟩
    rw [HTT.out];exact Qyw hkn.2.2.1 y
   have HFIN:Hid (∀wx,S9 wx→Blk wx g 146 #[.string s,.map (some qm),.slice (some ⟨qg,0,none⟩) len len,.int .i64 (k:Int)]∧FN g qm qg (n'+1) s lo len (k+1) (wx.setCell ⟨g,3,none⟩ (.int .i64 ((k+1:Nat):Int)))∧Fm g qm qg w (wx.setCell ⟨g,3,none⟩ (.int .i64 ((k+1:Nat):Int)))):=Qh fun wx h=>by
    rw [hS9]at h;have hkn:=HKN.out;refine⟨h.1,⟨h.1.set_ 3 _,h.2.1.same (Below.heap_setCell wx ⟨g,3,none⟩ _ qm (show qm≠g from fun e=>HNE.out.1 e.symm)),⟨fun i=>if i=r then G else F i,(Below.heap_setCell wx ⟨g,3,none⟩ _ qg (show qg≠g from fun e=>HNE.out.2.1 e.symm)).trans h.2.2.1,fun j h1 h2 h3=> ?_⟩,HNE.out,by omega,by omega⟩,h.2.2.2.set g 3 _ (.inl rfl)⟩
    by_cases e:j=k
    ·dsimp only;rw [e,←HRR.out,if_pos rfl];exact HGG.out
    ·dsimp only;rw [if_neg (by rw [HRR.out];exact Q2r (by omega) (by omega))]
     exact hF2 j h1 (by omega) (by omega)
   clear hS7 hS8 hS9 hF1 hF2 ht3;have HLV:Hid (prv (Qac s) lo T3 k=prv (Qac s) lo (th (Qac s) k) k):=Qh (by rw [HTT.out])
   have hpv:= @Qme (Qac s) lo k;rw [←HGG.out,←HLV.out]at hpv;cases hpr:prv (Qac s) lo T3 k with
   |none=>
    have hlk:(Instr.lookup 144 (.map (some qm)) (.int .u32 (T3:Int)) true).run Tryz.prog wa= .ok (.tuple #[.int .i64 0,.bool false]) wa:=by have:=HLK.out;simp only [hpr]at this;exact this
    obtain rfl:G=0:=by
     rcases Nat.eq_zero_or_pos G with h|h
     ·exact h
     ·have:=hpv.1.1 h;rw [hpr]at this;cases this
    clear hpr hpv HLK HLV;go_wp2_with fail;refine Qad (Two 16 1001 fun b _ wx=>(b=false→S7 wx)∧(b=true→S8 wx)) (by kernel_rfl) ?_ ?_
    ·refine⟨fun _=>HS7.out,fun h=> ?_⟩;cases h
    refine tA (i:=0) rfl rfl ?_;simp only [pu];refine tA (i:=1) rfl rfl ?_;simp only [pu];refine tA (i:=2) rfl rfl ?_;simp only [pu];refine Qaa (i:=3) (v:= .slice (some ⟨qg,0,none⟩) len len) rfl (Qah (n:=9) rfl (fun f2 wx hT=> ?_)) ?_
    ·have cc:=(HA2.out wx (hT.1 rfl));refine Qab (w:=wx) ?_ hT;go_simp;skip
    simp only [pu];refine tA (i:=4) rfl rfl ?_;simp only [pu];refine tA (i:=5) rfl rfl ?_;simp only [pu];refine tA (i:=6) rfl rfl ?_;simp only [pu];refine Qaa (i:=7) (v:= .int .i64 (k:Int)) rfl (Qah (n:=9) rfl (fun f2 wx hT=> ?_)) ?_
    ·have cc:=(HA3.out wx (hT.1 rfl));refine Qab (w:=wx) ?_ hT;go_simp;skip
    simp only [pu];refine tA (i:=8) rfl rfl ?_;simp only [pu];refine tA (i:=9) rfl rfl ?_;simp only [pu];refine tA (i:=10) rfl rfl ?_;simp only [pu];refine Qaa (i:=11) (v:= .slice (some ⟨qg,0,none⟩) len len) rfl (Qah (n:=9) rfl (fun f2 wx hT=> ?_)) ?_
    ·have cc:=(HA2.out wx (hT.1 rfl));refine Qab (w:=wx) ?_ hT;go_simp;skip
    simp only [pu];refine tV (i:=12) (v:= .int .i64 (len:Int)) rfl rfl ?_;simp only [pu];refine tV (i:=13) (v:= .int .i64 (r:Int)) rfl rfl ?_;simp only [pu];refine tV (i:=14) (v:= .int .i64 0) rfl rfl ?_;simp only [pu];refine tV (i:=15) (v:= .pointer (some ⟨qg,r,none⟩)) rfl rfl ?_;simp only [pu];refine Qaa (i:=16) (v:=undef) rfl (Qa5 (by decide) rfl (fun f2 wx hT=> ?_)) ?_
    ·obtain⟨c0,f0,K⟩:=HST.out wx (hT.1 rfl);go_simp;exact⟨rfl,K⟩
    simp only [pu];refine Qag rfl ?_ _;intro w8 hT8;have H8:=Qh (hT8.2 rfl);clear hT8;go_wp2_with fail;refine Qad (Two 9 1001 fun b _ wx=>(b=false→S8 wx)∧(b=true→S9 wx)) (by kernel_rfl) ?_ ?_
    ·refine⟨fun _=>HS8.out w8 H8.out,fun h=> ?_⟩;cases h
    refine tA (i:=0) rfl rfl ?_;simp only [pu];refine tA (i:=1) rfl rfl ?_;simp only [pu];refine tA (i:=2) rfl rfl ?_;simp only [pu];refine Qaa (i:=3) (v:= .map (some qm)) rfl (Qah (n:=9) rfl (fun f2 wx hT=> ?_)) ?_
    ·have cc:=(HB1.out wx (hT.1 rfl));refine Qab (w:=wx) ?_ hT;go_simp;skip
    simp only [pu];refine tV (i:=4) (v:= .int .u32 (T3:Int)) rfl rfl ?_;simp only [pu];refine tA (i:=5) rfl rfl ?_;simp only [pu];refine tA (i:=6) rfl rfl ?_;simp only [pu];refine tA (i:=7) rfl rfl ?_;simp only [pu];refine Qaa (i:=8) (v:= .int .i64 (k:Int)) rfl (Qah (n:=9) rfl (fun f2 wx hT=> ?_)) ?_
    ·have cc:=(HB3.out wx (hT.1 rfl));refine Qab (w:=wx) ?_ hT;go_simp;skip
    simp only [pu];refine Qaa (i:=9) (v:=undef) rfl (Qa5 (by decide) rfl (fun f2 wx hT=> ?_)) ?_
    ·have cc:=HPUT.out wx (hT.1 rfl);obtain⟨w9,e9,K⟩:=cc;go_simp;exact⟨rfl,K⟩
    simp only [pu];refine Qag rfl ?_ _;intro w9 hT9;have H9:=Qh (hT9.2 rfl);clear hT9;have c9:=(HFIN.out w9 H9.out).1.cell 3;have f9:=(HFIN.out w9 H9.out).1.frozen 3;go_wp2_with fail;go_roundg (at_-(k+1))
    case measure=>have:=HKN.out;omega
    case rel=>exact⟨k+1,n'+1,rfl,by have:=HKN.out;omega,Qh (HFIN.out w9 H9.out).2⟩
   |some j=>
    have hlk:(Instr.lookup 144 (.map (some qm)) (.int .u32 (T3:Int)) true).run Tryz.prog wa= .ok (.tuple #[.int .i64 (j:Int),.bool true]) wa:=by have:=HLK.out;simp only [hpr]at this;exact this
    have hjk:=(hpv.2.1 j hpr).2;have hjlt:=(Qir hpr).2.1;have hgw:IntKind.i64.wrap ((k:Int)-(j:Int))=(G:Int):=by rw [IntWalk.i64_in _ (by have:=HAT.out;omega)];omega
    have hgw2:(k:Int)-(j:Int)=(G:Int):=by omega
    clear hpr hpv HLK HLV hjk;go_wp2_with fail;refine Qad (Two 16 1001 fun b _ wx=>(b=false→S7 wx)∧(b=true→S8 wx)) (by kernel_rfl) ?_ ?_
    ·refine⟨fun _=>HS7.out,fun h=> ?_⟩;cases h
    refine tA (i:=0) rfl rfl ?_;simp only [pu];refine tA (i:=1) rfl rfl ?_;simp only [pu];refine tA (i:=2) rfl rfl ?_;simp only [pu];refine Qaa (i:=3) (v:= .slice (some ⟨qg,0,none⟩) len len) rfl (Qah (n:=9) rfl (fun f2 wx hT=> ?_)) ?_
    ·have cc:=(HA2.out wx (hT.1 rfl));refine Qab (w:=wx) ?_ hT;go_simp;skip
    simp only [pu];refine tA (i:=4) rfl rfl ?_;simp only [pu];refine tA (i:=5) rfl rfl ?_;simp only [pu];refine tA (i:=6) rfl rfl ?_;simp only [pu];refine Qaa (i:=7) (v:= .int .i64 (k:Int)) rfl (Qah (n:=9) rfl (fun f2 wx hT=> ?_)) ?_
    ·have cc:=(HA3.out wx (hT.1 rfl));refine Qab (w:=wx) ?_ hT;go_simp;skip
    simp only [pu];refine tA (i:=8) rfl rfl ?_;simp only [pu];refine tA (i:=9) rfl rfl ?_;simp only [pu];refine tA (i:=10) rfl rfl ?_;simp only [pu];refine Qaa (i:=11) (v:= .slice (some ⟨qg,0,none⟩) len len) rfl (Qah (n:=9) rfl (fun f2 wx hT=> ?_)) ?_
    ·have cc:=(HA2.out wx (hT.1 rfl));refine Qab (w:=wx) ?_ hT;go_simp;skip
    simp only [pu];refine tV (i:=12) (v:= .int .i64 (len:Int)) rfl rfl ?_;simp only [pu];refine tV (i:=13) (v:= .int .i64 (r:Int)) rfl rfl ?_;simp only [pu];refine tV (i:=14) (v:= .int .i64 (G:Int)) rfl rfl ?_;simp only [pu];refine tV (i:=15) (v:= .pointer (some ⟨qg,r,none⟩)) rfl rfl ?_;simp only [pu];refine Qaa (i:=16) (v:=undef) rfl (Qa5 (by decide) rfl (fun f2 wx hT=> ?_)) ?_
    ·obtain⟨c0,f0,K⟩:=HST.out wx (hT.1 rfl);go_simp;exact⟨rfl,K⟩
    simp only [pu];refine Qag rfl ?_ _;intro w8 hT8;have H8:=Qh (hT8.2 rfl);clear hT8;go_wp2_with fail;refine Qad (Two 9 1001 fun b _ wx=>(b=false→S8 wx)∧(b=true→S9 wx)) (by kernel_rfl) ?_ ?_
    ·refine⟨fun _=>HS8.out w8 H8.out,fun h=> ?_⟩;cases h
    refine tA (i:=0) rfl rfl ?_;simp only [pu];refine tA (i:=1) rfl rfl ?_;simp only [pu];refine tA (i:=2) rfl rfl ?_;simp only [pu];refine Qaa (i:=3) (v:= .map (some qm)) rfl (Qah (n:=9) rfl (fun f2 wx hT=> ?_)) ?_
    ·have cc:=(HB1.out wx (hT.1 rfl));refine Qab (w:=wx) ?_ hT;go_simp;skip
    simp only [pu];refine tV (i:=4) (v:= .int .u32 (T3:Int)) rfl rfl ?_;simp only [pu];refine tA (i:=5) rfl rfl ?_;simp only [pu];refine tA (i:=6) rfl rfl ?_;simp only [pu];refine tA (i:=7) rfl rfl ?_;simp only [pu];refine Qaa (i:=8) (v:= .int .i64 (k:Int)) rfl (Qah (n:=9) rfl (fun f2 wx hT=> ?_)) ?_
    ·have cc:=(HB3.out wx (hT.1 rfl));refine Qab (w:=wx) ?_ hT;go_simp;skip
    simp only [pu];refine Qaa (i:=9) (v:=undef) rfl (Qa5 (by decide) rfl (fun f2 wx hT=> ?_)) ?_
    ·have cc:=HPUT.out wx (hT.1 rfl);obtain⟨w9,e9,K⟩:=cc;go_simp;exact⟨rfl,K⟩
    simp only [pu];refine Qag rfl ?_ _;intro w9 hT9;have H9:=Qh (hT9.2 rfl);clear hT9;have c9:=(HFIN.out w9 H9.out).1.cell 3;have f9:=(HFIN.out w9 H9.out).1.frozen 3;go_wp2_with fail;go_roundg (at_-(k+1))
    case measure=>have:=HKN.out;omega
    case rel=>exact⟨k+1,n'+1,rfl,by have:=HKN.out;omega,Qh (HFIN.out w9 H9.out).2⟩
  ·obtain rfl:k=at_:=by omega
   have hlti:¬(k:Int)<(k:Int):=by omega
   go_wp2_with fail;go_end0;exact⟨rfl,⟨n',HR.out.1⟩,HR.out.2⟩
end Go.Proofs.YtbmcjdoiohcaaaaGreat
