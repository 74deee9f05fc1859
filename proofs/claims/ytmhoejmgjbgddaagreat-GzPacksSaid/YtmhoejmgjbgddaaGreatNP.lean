/- Chapter 11 in numbers, no walk: numbers that stand in a text's bits are read again. -/
import Derived.Test.YtmhoejmgjbgddaaGreatMX
import Derived.Test.YtmhoejmgjbgddaaGreatNF
import Derived.Test.YtmhoejmgjbgddaaGreatNK
import Derived.Test.YtmhoejmgjbgddaaGreatMA
import Derived.Test.YtmhoejmgjbgddaaGreatNL
namespace Go.Proofs.YtmhoejmgjbgddaaGreat
open Go.RowKit
def St (B:Nat→Nat):Nat→List (Nat×Nat)→Prop
 |_,[]=>True
 |p,x::r=>vb B p x.2=x.1∧St B (p+x.2) r
theorem St.app {B:Nat→Nat}:∀{a b:List (Nat×Nat)} {p:Nat},St B p (a++b)→St B p a∧St B (p+bitsN a) b
 |[],_,_,h=>⟨trivial,h⟩
 |x::a,b,p,h=>by
  obtain⟨h1,h2⟩:=St.app (a:=a) h.2;refine⟨⟨h.1,h1⟩,?_⟩;rw [show p+bitsN (x::a)=p+x.2+bitsN a from(Nat.add_assoc _ _ _).symm];exact h2
theorem vb_is {B:Nat→Nat} {p n v:Nat} (h:∀j,j<n→B (p+j)=v /2^j%2):vb B p n=v%2^n:=by
 induction n with
 |zero=>show 0=v%1;omega
 |succ n ih=>
  show vb B p n+B (p+n)*2^n=_
  rw [ih (fun j hj=>h j (by omega)),h n (by omega),Nat.mod_pow_succ,Nat.mul_comm]
theorem bit_low (a V n j:Nat) (h:j<n):(a+2^n*V) /2^j%2=a /2^j%2:=by
 obtain⟨k,rfl⟩:∃k,n=j+(k+1):=⟨n-j-1,by omega⟩
 rw [Nat.pow_add,Nat.mul_assoc,Nat.add_mul_div_left _ _ (Nat.pow_pos (by decide)),Nat.pow_succ',Nat.mul_assoc,Nat.add_mul_mod_self_left]
theorem St_val {B:Nat→Nat}:∀{L:List (Nat×Nat)} {p:Nat},FitN L→(∀j,j<bitsN L→B (p+j)=valN L /2^j%2)→St B p L
 |[],_,_,_=>trivial
 |x::r,p,hf,h=>by
  have hx:=(hf x (.head _)).1;refine⟨?_,St_val (fun y hy=>hf y (.tail _ hy)) fun j hj=> ?_⟩
  ·rw [vb_is (v:=x.1) fun j hj=> ?_,Nat.mod_eq_of_lt hx]
   rw [h j (by show j<x.2+bitsN r;omega)]
   exact bit_low _ _ _ _ hj
  ·rw [Nat.add_assoc,h (x.2+j) (by show x.2+j<x.2+bitsN r;omega)]
   show(x.1+2^x.2*valN r) /2^(x.2+j)%2=_
   rw [Nat.pow_add,←Nat.div_div_eq_div_mul,Nat.add_mul_div_left _ _ (Nat.pow_pos (by decide)),Nat.div_eq_of_lt hx,Nat.zero_add]
theorem bits_st {B:Nat→Nat} {T n v p:Nat} {o:List Nat} (h:vb B p n=v) (hT:p+n≤T):bitsS B T n ⟨p,0,o⟩=(v,⟨p+n,0,o⟩):=by
 unfold bitsS;rw [if_neg (fun h=>h rfl),if_pos hT,h]
theorem vb_bit {B:Nat→Nat} (hB:∀i,B i<2) {p:Nat}:∀{n j:Nat},j<n→vb B p n /2^j%2=B (p+j)
 |n+1,j,h=>by
  show(vb B p n+B (p+n)*2^n) /2^j%2=_
  rw [Nat.mul_comm];rcases Nat.lt_or_ge j n with h1|h1
  ·rw [bit_low _ _ _ _ h1];exact vb_bit hB h1
  ·obtain rfl:j=n:=by omega
   rw [Nat.add_mul_div_left _ _ (Nat.pow_pos (by decide)),Nat.div_eq_of_lt (vb_lt hB p j),Nat.zero_add,Nat.mod_eq_of_lt (hB _)]
theorem revN_bit:∀(k x j:Nat),j<k→revN k x /2^j%2=x /2^(k-1-j)%2
 |k+1,x,j,h=>by
  show(revN k (x /2)+x%2*2^k) /2^j%2=_
  rw [Nat.mul_comm];rcases Nat.lt_or_ge j k with h1|h1
  ·rw [bit_low _ _ _ _ h1,revN_bit k (x /2) j h1,Nat.div_div_eq_div_mul,show k+1-1-j=(k-1-j)+1 by omega,Nat.pow_succ']
  ·obtain rfl:j=k:=by omega
   rw [Nat.add_mul_div_left _ _ (Nat.pow_pos (by decide)),Nat.div_eq_of_lt (revN_lt _ _),Nat.zero_add,show j+1-1-j=0 by omega,Nat.pow_zero,Nat.div_one]
   omega
theorem sym_st {B:Nat→Nat} (hB:∀i,B i<2) {l:Nat→Nat} {n i T p:Nat} {o:List Nat} (hl:∀j,j<n→l j≤15) (hk:kr l n≤2^15) (hi:i<n) (h0:l i≠0)
  (h:vb B p (l i)=revN (l i) (codeN l n i)) (hT:p+l i≤T):symS B T l n ⟨p,0,o⟩=(i,⟨p+l i,0,o⟩):=by
 have e:=next_code l n i B T p hl hk hi h0 (fun j hj=>by rw [←vb_bit hB hj,h,revN_bit _ _ _ hj]) hT 0 15 (by omega) (by have:=hl i hi;omega)
 unfold symS;rw [if_neg (fun h=>h rfl),e];rfl
theorem cnt_congr {l l':Nat→Nat} (d:Nat):∀{k:Nat},(∀j,j<k→l j=l' j)→cnt l d k=cnt l' d k
 |0,_=>rfl
 |k+1,h=>by unfold cnt;rw [cnt_congr d (k:=k) (fun j hj=>h j (by omega)),h k (by omega)]
theorem kr_congr {l l':Nat→Nat}:∀{k:Nat},(∀j,j<k→l j=l' j)→kr l k=kr l' k
 |0,_=>rfl
 |k+1,h=>by unfold kr;rw [kr_congr (k:=k) (fun j hj=>h j (by omega)),h k (by omega)]
theorem cst_congr {l l':Nat→Nat} {n:Nat} (h:∀j,j<n→l j=l' j):∀d,cst l n d=cst l' n d
 |0=>rfl
 |d+1=>by unfold cst;rw [cst_congr h d,cnt_congr (d+1) h]
theorem codeN_congr {l l':Nat→Nat} {n i:Nat} (h:∀j,j<n→l j=l' j) (hi:i<n):codeN l n i=codeN l' n i:=by
 unfold codeN;rw [h i hi,cst_congr h,cnt_congr (l' i) (fun j hj=>h j (by omega))]
theorem cnt_cut {l:Nat→Nat} {d n:Nat} (hd:d≠0):∀{m:Nat},n≤m→(∀j,n≤j→j<m→l j=0)→cnt l d m=cnt l d n
 |0,h,_=>by rw [show n=0 by omega]
 |m+1,h,hz=>by
  by_cases e:n=m+1
  ·rw [e]
  ·unfold cnt
   rw [cnt_cut hd (m:=m) (by omega) (fun j h1 h2=>hz j h1 (by omega)),hz m (by omega) (by omega),if_neg (fun h=>hd h.symm)]
   cases n<;>rfl
theorem kr_cut {l:Nat→Nat} {n:Nat}:∀{m:Nat},n≤m→(∀j,n≤j→j<m→l j=0)→kr l m=kr l n
 |0,h,_=>by rw [show n=0 by omega]
 |m+1,h,hz=>by
  by_cases e:n=m+1
  ·rw [e]
  ·have e1:kr l (m+1)=kr l m+if l m=0 then 0 else 2^(15-l m):=rfl
   rw [e1,kr_cut (m:=m) (by omega) (fun j h1 h2=>hz j h1 (by omega)),hz m (by omega) (by omega),if_pos rfl];rfl
theorem cst_cut {l:Nat→Nat} {n m:Nat} (h:n≤m) (hz:∀j,n≤j→j<m→l j=0):∀d,cst l m d=cst l n d
 |0=>rfl
 |d+1=>by unfold cst;rw [cst_cut h hz d,cnt_cut (Nat.succ_ne_zero d) h hz]
theorem codeN_cut {l:Nat→Nat} {n m i:Nat} (h:n≤m) (hz:∀j,n≤j→j<m→l j=0):codeN l m i=codeN l n i:=by
 unfold codeN;rw [cst_cut h hz]
theorem lenW_is {n:Nat} (h1:3≤n) (h2:n≤258):∃i,i<29∧lenW n=(257+i,n-lenB i,lenX i)∧lenB i≤n:=by
 refine⟨stepsV lenB n 29-1,?_,rfl,?_⟩
 ·have:=stepsV_le lenB n 29;omega
 ·have h3:=stepsV_above lenB n 29 0
  have h0:lenB 0=3:=rfl;exact stepsV_below lenB_up n 29 _ (by
   rcases Nat.eq_zero_or_pos (stepsV lenB n 29)with h|h
   ·have:=h3 (by omega) (by decide);omega
   ·omega)
theorem disW_is {n:Nat} (h1:1≤n):∃i,i<30∧disW n=(286+i,n-dbase i,dbits i)∧dbase i≤n:=by
 refine⟨stepsV dbase n 30-1,?_,rfl,?_⟩
 ·have:=stepsV_le dbase n 30;omega
 ·have h3:=stepsV_above dbase n 30 0
  have h0:dbase 0=1:=rfl;exact stepsV_below disB_up n 30 _ (by
   rcases Nat.eq_zero_or_pos (stepsV dbase n 30)with h|h
   ·have:=h3 (by omega) (by decide);omega
   ·omega)
def frsB (b:Nat→Nat) (n:Nat):List Nat:=(List.range n).map b
theorem frsB_succ (b:Nat→Nat) (n:Nat):frsB b (n+1)=frsB b n++[b n]:=by simp [frsB,List.range_succ]
theorem frsB_len (b:Nat→Nat) (n:Nat):(frsB b n).length=n:=by simp [frsB]
theorem frsB_get (b:Nat→Nat) {n i:Nat} (h:i<n):(frsB b n).getD i 0=b i:=by
 unfold frsB;rw [List.getD_eq_getElem?_getD,List.getElem?_map,List.getElem?_range h];rfl
theorem sayS_in {M b p:Nat} {o:List Nat} (h:o.length<M):sayS M b ⟨p,0,o⟩=⟨p,0,o++[b]⟩:=by
 unfold sayS;rw [if_neg (fun h=>h rfl),if_neg (by show¬o.length≥M;omega)]
theorem back_ok {b:Nat→Nat} {M d p:Nat}:∀(n a:Nat),1≤d→d≤a→a+n≤M→(∀j,j<n→b (a+j)=b (a+j-d))→backS M d n ⟨p,0,frsB b a⟩=⟨p,0,frsB b (a+n)⟩
 |0,_,_,_,_,_=>rfl
 |n+1,a,h1,h2,h3,h=>by
  have e:backS M d (n+1) ⟨p,0,frsB b a⟩=backS M d n (sayS M ((frsB b a).getD ((frsB b a).length-d) 0) ⟨p,0,frsB b a⟩):=if_neg (fun h=>h rfl);have h0:=h 0 (Nat.succ_pos n);rw [Nat.add_zero]at h0;rw [e,frsB_len,frsB_get b (show a-d<a by omega),←h0,sayS_in (by rw [frsB_len];omega),←frsB_succ,back_ok n (a+1) h1 (by omega) (by omega) fun j hj=>by
   have:=h (j+1) (by omega)
   rw [show a+1+j=a+(j+1)by omega];exact this]
  rw [show a+1+n=a+(n+1)by omega]
structure Cd (C:List (Nat×Nat)) (la:Nat→Nat) (na:Nat) (lb:Nat→Nat) (nb:Nat):Prop where
 a:∀i,i<286→la i≠0→i<na∧C.getD i (0,0)=(revN (la i) (codeN la na i),la i)
 b:∀i,i<30→lb i≠0→i<nb∧C.getD (286+i) (0,0)=(revN (lb i) (codeN lb nb i),lb i)
 la15:∀j,j<na→la j≤15
 lb15:∀j,j<nb→lb j≤15
 ka:kr la na≤2^15
 kb:kr lb nb≤2^15
def Usd (la lb:Nat→Nat) (ws:List (Int×Nat×Nat)):Prop:=∀x∈ws,(∃i:Nat,x.1=(i:Int)∧i<286∧la i≠0)∨∃i:Nat,x.1=((286+i:Nat):Int)∧i<30∧lb i≠0
theorem Usd.tail {la lb:Nat→Nat} {x:Int×Nat×Nat} {ws:List (Int×Nat×Nat)} (h:Usd la lb (x::ws)):Usd la lb ws:=fun y hy=>h y (.tail _ hy)
theorem sym_a {B:Nat→Nat} (hB:∀i,B i<2) {C:List (Nat×Nat)} {la lb:Nat→Nat} {na nb T p i:Nat} {o:List Nat} {y:Nat×Nat} {r:List (Int×Nat×Nat)} (hC:Cd C la na lb nb) (hi:i<286) (hu:Usd la lb (((i:Int),y)::r))
  (h:St B p (numsV C (((i:Int),y)::r))) (hT:p+bitsN (numsV C (((i:Int),y)::r))≤T):
  symS B T la na ⟨p,0,o⟩=(i,⟨p+la i,0,o⟩)∧vb B (p+la i) y.2=y.1∧St B (p+la i+y.2) (numsV C r)∧bitsN (numsV C (((i:Int),y)::r))=la i+(y.2+bitsN (numsV C r)):=by
 have h0:la i≠0:=by
  rcases hu _ (.head _)with ⟨j,e,_,h⟩|⟨j,e,h1,_⟩
  ·have:i=j:=by have e:(i:Int)=(j:Int):=e;omega
   rw [this];exact h
  ·have e:(i:Int)=((286+j:Nat):Int):=e;omega
 obtain⟨hn,hc⟩:=hC.a i hi h0;have e:numsV C (((i:Int),y)::r)=(revN (la i) (codeN la na i),la i)::y::numsV C r:=by
  show C.getD (Int.toNat (i:Int)) (0,0)::y::numsV C r=_
  rw [Int.toNat_natCast,hc]
 rw [e]at h hT⊢;have hT2:p+(la i+(y.2+bitsN (numsV C r)))≤T:=hT;exact⟨sym_st hB hC.la15 hC.ka hn h0 h.1 (by omega),h.2.1,h.2.2,rfl⟩
theorem sym_b {B:Nat→Nat} (hB:∀i,B i<2) {C:List (Nat×Nat)} {la lb:Nat→Nat} {na nb T p i:Nat} {o:List Nat} {y:Nat×Nat} {r:List (Int×Nat×Nat)} (hC:Cd C la na lb nb) (hi:i<30) (hu:Usd la lb ((((286+i:Nat):Int),y)::r))
  (h:St B p (numsV C ((((286+i:Nat):Int),y)::r))) (hT:p+bitsN (numsV C ((((286+i:Nat):Int),y)::r))≤T):
  symS B T lb nb ⟨p,0,o⟩=(i,⟨p+lb i,0,o⟩)∧vb B (p+lb i) y.2=y.1∧St B (p+lb i+y.2) (numsV C r)∧bitsN (numsV C ((((286+i:Nat):Int),y)::r))=lb i+(y.2+bitsN (numsV C r)):=by
 have h0:lb i≠0:=by
  rcases hu _ (.head _)with ⟨j,e,h1,_⟩|⟨j,e,_,h⟩
  ·have e:((286+i:Nat):Int)=(j:Int):=e;omega
  ·have:i=j:=by have e:((286+i:Nat):Int)=((286+j:Nat):Int):=e;omega
   rw [this];exact h
 obtain⟨hn,hc⟩:=hC.b i hi h0;have e:numsV C ((((286+i:Nat):Int),y)::r)=(revN (lb i) (codeN lb nb i),lb i)::y::numsV C r:=by
  show C.getD (Int.toNat ((286+i:Nat):Int)) (0,0)::y::numsV C r=_
  rw [Int.toNat_natCast,hc]
 rw [e]at h hT⊢;have hT2:p+(lb i+(y.2+bitsN (numsV C r)))≤T:=hT;exact⟨sym_st hB hC.lb15 hC.kb hn h0 h.1 (by omega),h.2.1,h.2.2,rfl⟩
def Oks (b:Nat→Nat) (to:Nat):Nat→List (Nat×Nat)→Prop
 |a,[]=>a=to
 |a,t::r=>okT b to a t∧Oks b to (a+t.1) r
theorem toks_oks {b:Nat→Nat} (hb:∀i,b i<256) (lo to:Nat):∀f a,a≤to→to≤a+f→Oks b to a (toksG b lo to f a)
 |0,a,h1,h2=>by show a=to;omega
 |f+1,a,h1,h2=>by
  by_cases h:a<to
  ·have hk:=bestS_ok hb lo h
   rw [toksG_one h];exact⟨hk,toks_oks hb lo to f _ hk.2.1 (by have:=hk.1;omega)⟩
  ·rw [toksG_end h];show a=to;omega
theorem symbols_back {B:Nat→Nat} (hB:∀i,B i<2) {T M na nb base to:Nat} {la lb b b':Nat→Nat} {C:List (Nat×Nat)} (hC:Cd C la na lb nb) (hb:∀k,base+k<to→b' k=b (base+k)) (hb8:∀i,b i<256) (hto:to≤M):
  ∀(L:List (Nat×Nat)) (k p f:Nat),Oks b to (base+k) L→Usd la lb (wordsG b' L k++[(256,0,0)])→St B p (numsV C (wordsG b' L k++[(256,0,0)]))→p+bitsN (numsV C (wordsG b' L k++[(256,0,0)]))≤T→L.length<f→
   symbolsS B T M la na lb nb f ⟨p,0,frsB b (base+k)⟩=⟨p+bitsN (numsV C (wordsG b' L k++[(256,0,0)])),0,frsB b to⟩
 |_,_,_,0,_,_,_,_,h=>by omega
 |[],k,p,f+1,ho,hu,hs,hT,_=>by
  have e0:symbolsS B T M la na lb nb (f+1) ⟨p,0,frsB b (base+k)⟩=(let s:=symS B T la na ⟨p,0,frsB b (base+k)⟩
   if s.2.e≠0∨s.1=256 then s.2 else
    if s.1<256 then symbolsS B T M la na lb nb f (sayS M s.1 s.2)else symbolsS B T M la na lb nb f (copiedS B T M s.1 lb nb s.2)):=if_neg (fun h=>h rfl)
  obtain⟨h1,-,-,h4⟩:=sym_a (o:=frsB b (base+k)) (i:=256) (y:=(0,0)) (r:=[]) hB hC (by decide) hu hs hT
  have h4:bitsN (numsV C (wordsG b' [] k++[(256,0,0)]))=la 256+(0+0):=h4;have ho:base+k=to:=ho;rw [e0,h1,h4,←ho];exact if_pos (.inr rfl)
 |t::r,k,p,f+1,ho,hu,hs,hT,hf=>by
  have e0:symbolsS B T M la na lb nb (f+1) ⟨p,0,frsB b (base+k)⟩=(let s:=symS B T la na ⟨p,0,frsB b (base+k)⟩
   if s.2.e≠0∨s.1=256 then s.2 else
    if s.1<256 then symbolsS B T M la na lb nb f (sayS M s.1 s.2)else symbolsS B T M la na lb nb f (copiedS B T M s.1 lb nb s.2)):=if_neg (fun h=>h rfl)
  obtain⟨n,d⟩:=t;obtain⟨⟨h1,h2,h3,hcase⟩,hor⟩:=ho;dsimp only at h1 h2 h3 hcase hor;have hf2:r.length<f:=by rw [List.length_cons]at hf;omega
  rcases hcase with⟨rfl,rfl⟩|⟨hn,hd1,hd2,hd3,hsame⟩
  ·have ew:wordsG b' ((1,0)::r) k++[(256,0,0)]=(((b' k:Nat):Int),(0,0))::(wordsG b' r (k+1)++[(256,0,0)]):=rfl
   rw [ew]at hu hs hT⊢;have hv:b' k=b (base+k):=hb k (by omega)
   have hv8:=hb8 (base+k);obtain⟨g1,-,g3,g4⟩:=sym_a (o:=frsB b (base+k)) hB hC (show b' k<286 by omega) hu hs hT
   have g4:bitsN (numsV C ((((b' k:Nat):Int),(0,0))::(wordsG b' r (k+1)++[(256,0,0)])))=la (b' k)+(0+bitsN (numsV C (wordsG b' r (k+1)++[(256,0,0)]))):=g4;have g3:St B (p+la (b' k)) (numsV C (wordsG b' r (k+1)++[(256,0,0)])):=g3;rw [e0,g1];dsimp only;rw [if_neg (by rintro(h|h);exact h rfl;omega),if_pos (by omega),sayS_in (by rw [frsB_len];omega),hv,←frsB_succ]
   have ih:=symbols_back (T:=T) hB hC hb hb8 hto r (k+1) (p+la (b' k)) f hor hu.tail g3 (by omega) hf2
   rw [show base+(k+1)=base+k+1 by omega]at ih
   rw [←hv,ih,g4];simp only [Fl.mk.injEq,and_true];omega
  ·obtain⟨i,hi,ei,hil⟩:=lenW_is hn h3
   obtain⟨j,hj,ej,hjl⟩:=disW_is hd1;have ew:wordsG b' ((n,d)::r) k++[(256,0,0)]=(((257+i:Nat):Int),(n-lenB i,lenX i))::(((286+j:Nat):Int),(d-dbase j,dbits j))::(wordsG b' r (k+n)++[(256,0,0)]):=by
    show wordT b' k (n,d)++wordsG b' r (k+n)++[(256,0,0)]=_
    unfold wordT;rw [if_neg (show¬n=1 by omega)]
    show [((((lenW n).1:Nat):Int),(lenW n).2),((((disW d).1:Nat):Int),(disW d).2)]++wordsG b' r (k+n)++[(256,0,0)]=_
    rw [ei,ej];rfl
   rw [ew]at hu hs hT⊢;obtain⟨g1,g2,g3,g4⟩:=sym_a (o:=frsB b (base+k)) hB hC (show 257+i<286 by omega) hu hs hT
   dsimp only at g2 g3 g4;obtain⟨k1,k2,k3,k4⟩:=sym_b (T:=T) (o:=frsB b (base+k)) hB hC hj hu.tail g3 (by omega)
   dsimp only at k2 k3 k4;rw [e0,g1];dsimp only;rw [if_neg (by rintro(h|h);exact h rfl;omega),if_neg (by omega)]
   have ec:copiedS B T M (257+i) lb nb ⟨p+la (257+i),0,frsB b (base+k)⟩=⟨p+la (257+i)+lenX i+lb j+dbits j,0,frsB b (base+k+n)⟩:=by
    unfold copiedS;rw [lengthV_at i hi,if_neg (show¬(true=false)by decide)]
    dsimp only;rw [bits_st g2 (by omega)]
    dsimp only;rw [k1];dsimp only;rw [distV_at j hj,if_neg (by rintro(h|h);exact h rfl;cases h)]
    dsimp only;rw [bits_st k2 (by omega)]
    dsimp only;rw [if_neg (by rw [frsB_len];omega),show lenB i+(n-lenB i)=n by omega,show dbase j+(d-dbase j)=d by omega]
    exact back_ok n (base+k) hd1 hd2 (by omega) hsame
   have ih:=symbols_back (T:=T) hB hC hb hb8 hto r (k+n) (p+la (257+i)+lenX i+lb j+dbits j) f (by rw [show base+(k+n)=base+k+n by omega];exact hor) hu.tail.tail k3 (by omega) hf2
   rw [show base+(k+n)=base+k+n by omega]at ih
   rw [ec,ih,g4,k4];simp only [Fl.mk.injEq,and_true];omega
theorem okB_congr {f h:Nat→Int}:∀{n:Nat},(∀i,i<n→f i=h i)→okB f n=okB h n
 |0,_=>rfl
 |n+1,e=>by unfold okB;rw [okB_congr (n:=n) (fun i hi=>e i (by omega)),e n (by omega)]
theorem sgl_congr {l l':Nat→Nat}:∀{n:Nat},(∀i,i<n→l i=l' i)→sgl l n=sgl l' n
 |0,_=>rfl
 |n+1,e=>by unfold sgl;rw [sgl_congr (n:=n) (fun i hi=>e i (by omega)),e n (by omega)]
theorem newE_congr {f h:Nat→Int} {n:Nat} (e:∀i,i<n→f i=h i):newE f n=newE h n:=by
 have e2:∀i,i<n→toL f i=toL h i:=fun i hi=>by unfold toL;rw [e i hi]
 unfold newE codesE;rw [okB_congr e,kr_congr e2,sgl_congr e2]
theorem sgl_cut {l:Nat→Nat} {n:Nat}:∀{m:Nat},n≤m→(∀j,n≤j→j<m→l j=0)→sgl l m=sgl l n
 |0,h,_=>by rw [show n=0 by omega]
 |m+1,h,hz=>by
  by_cases e:n=m+1
  ·rw [e]
  ·have e1:sgl l (m+1)=sgl l m+l m:=rfl
   rw [e1,sgl_cut (m:=m) (by omega) (fun j h1 h2=>hz j h1 (by omega)),hz m (by omega) (by omega)];rfl
theorem newE_cut {l:Nat→Nat} {n m:Nat} (h:n≤m) (hz:∀j,n≤j→j<m→l j=0) (he:newE (fun i=>(l i:Int)) m=0):newE (fun i=>(l i:Int)) n=0:=by
 have hT:toL (fun i=>(l i:Int))=l:=funext fun i=>by unfold toL;exact Int.toNat_natCast _
 have hc:codesE (fun i=>(l i:Int)) m=0:=by
  by_cases hc:codesE (fun i=>(l i:Int)) m=0
  ·exact hc
  ·unfold newE at he;rw [if_neg hc]at he;exact absurd he hc
 obtain⟨⟨h1,h2⟩,h3⟩:=codesE_zero hc;unfold newE at he;rw [if_pos hc,hT]at he;rw [hT]at h3;have hk:=kr_cut h hz;have hs:=sgl_cut h hz;have hok:okB (fun i=>(l i:Int)) n=true:=okB_true.2 fun i hi=>okB_true.1 h1 i (by omega)
 unfold newE;rw [codesE_ok ⟨hok,by omega⟩ (by rw [hT,←hk];exact h3),if_pos rfl,hT,←hk,←hs]
 exact he
def fewG (L:Nat→Nat):Nat→Nat→(Nat→Nat)→Nat→Nat
 |0,_,g=>g
 |n+1,i,g=>fewG L n (i+1) fun j=>if j=ordL.getD i 0 then tOrd L i else g j
theorem few_ok {B:Nat→Nat} {T p0:Nat} {L:Nat→Nat} {o:List Nat}:∀(n i:Nat) (g:Nat→Nat),(∀k,i≤k→k<i+n→vb B (p0+3*k) 3=tOrd L k)→p0+3*(i+n)≤T→
  fewS B T n i g ⟨p0+3*i,0,o⟩=(fewG L n i g,⟨p0+3*(i+n),0,o⟩)
 |0,i,g,_,_=>rfl
 |n+1,i,g,h,hT=>by
  have e:=bits_st (T:=T) (o:=o) (h i (Nat.le_refl _) (by omega)) (by omega)
  unfold fewS fewG;rw [e];dsimp only;have ih:=few_ok (T:=T) (o:=o) n (i+1) (fun j=>if j=ordL.getD i 0 then tOrd L i else g j) (fun k h1 h2=>h k (by omega) (by omega)) (by omega)
  rw [show p0+3*i+3=p0+3*(i+1)by omega,ih,show i+1+n=i+(n+1)by omega]
theorem few_is (L:Nat→Nat):∀(n i:Nat) (g:Nat→Nat) (j:Nat),(∀k,i≤k→k<i+n→ordL.getD k 0≠j)→fewG L n i g j=g j
 |0,_,_,_,_=>rfl
 |n+1,i,g,j,h=>by
  unfold fewG;rw [few_is L n (i+1) _ j (fun k h1 h2=>h k (by omega) (by omega))]
  exact if_neg (fun e=>h i (Nat.le_refl _) (by omega) e.symm)
theorem few_in (L:Nat→Nat):∀(n i:Nat) (g:Nat→Nat) (k:Nat),i≤k→k<i+n→fewG L n i g (ordL.getD k 0)=L (ordL.getD k 0)
 |0,_,_,_,h1,h2=>by omega
 |n+1,i,g,k,h1,h2=>by
  unfold fewG;by_cases e:∃q,i+1≤q∧q<i+1+n∧ordL.getD q 0=ordL.getD k 0
  ·obtain⟨q,q1,q2,q3⟩:=e
   rw [←q3];exact few_in L n (i+1) _ q q1 q2
  ·rw [few_is L n (i+1) _ _ (fun q q1 q2 q3=>e ⟨q,q1,q2,q3⟩)]
   have:k=i:=by
    rcases Nat.lt_or_ge i k with h|h
    ·exact absurd ⟨k,by omega,by omega,rfl⟩ e
    ·omega
   subst this;exact if_pos rfl
theorem ord_all:∀j,j<19→∃k,k<19∧ordL.getD k 0=j:=by decide+kernel
theorem upN_zero (f:Nat→Int) (lo:Nat):∀(n i:Nat),upN f lo n≤i→i<n→f i=0
 |0,i,_,h=>by omega
 |n+1,i,h1,h2=>by
  unfold upN at h1;split at h1
  ·next hh=>
   by_cases e:i=n
   ·subst e;exact hh.2
   ·exact upN_zero f lo n i h1 (by omega)
  ·omega
theorem few_all {L:Nat→Nat} {j:Nat} (hj:j<19):fewG L (tMany L) 0 (fun _=>0) j=L j:=by
 obtain⟨k,hk,e⟩:=ord_all j hj;by_cases h:k<tMany L
 ·rw [←e];exact few_in L (tMany L) 0 _ k (Nat.zero_le _) (by omega)
 ·have hz:tOrd L k=0:=by
   have:=upN_zero (fun i=>(tOrd L i:Int)) 4 19 k (by unfold tMany at h;omega) hk
   omega
  have hz2:L j=0:=by rw [←e];exact hz
  rw [hz2];by_cases h2:∃q,q<tMany L∧ordL.getD q 0=j
  ·obtain⟨q,q1,q2⟩:=h2
   have:=few_in L (tMany L) 0 (fun _=>0) q (Nat.zero_le _) (by omega)
   rw [q2]at this;rw [this,hz2]
  ·exact few_is L (tMany L) 0 _ j fun q _ q2 q3=>h2 ⟨q,by omega,q3⟩
theorem bits_three (F:Nat→Nat) (z:Nat):∀k,bitsN ((List.range k).map fun i=>(F i,z))=z*k
 |0=>rfl
 |k+1=>by rw [List.range_succ,List.map_append,bitsN_app,bits_three F z k,Nat.mul_succ];rfl
theorem St_range {B:Nat→Nat} {p z:Nat} {F:Nat→Nat}:∀{k:Nat},St B p ((List.range k).map fun i=>(F i,z))→∀i,i<k→vb B (p+z*i) z=F i
 |k+1,h,i,hi=>by
  rw [List.range_succ,List.map_append]at h;obtain⟨h1,h2⟩:=h.app;by_cases e:i=k
  ·subst e
   rw [bits_three]at h2;exact h2.1
  ·exact St_range h1 i (by omega)
theorem frsB_rep {v:Nat→Nat} {c:Nat}:∀(t a:Nat),(∀j,j<t→v (a+j)=c)→frsB v a++List.replicate t c=frsB v (a+t)
 |0,a,_=>by simp
 |t+1,a,h=>by
  have h0:v a=c:=by have:=h 0 (Nat.succ_pos t);rwa [Nat.add_zero]at this
  rw [List.replicate_succ,show a+(t+1)=a+1+t by omega,←frsB_rep t (a+1) (fun j hj=>by
   have:=h (j+1) (by omega)
   rwa [show a+1+j=a+(j+1)by omega]),frsB_succ,h0,List.append_assoc];rfl
theorem runV_cases (g:Nat→Int) (m a:Nat) (h:a<m):(∃t,runV g m a=((18,t-11,7),t)∧11≤t∧t≤138∧a+t≤m∧∀j,j<t→g (a+j)=0)∨(∃t,runV g m a=((17,t-3,3),t)∧3≤t∧t≤10∧a+t≤m∧∀j,j<t→g (a+j)=0)∨
  (∃t,runV g m a=((16,t-3,2),t)∧0<a∧g (a-1)=g a∧3≤t∧t≤6∧a+t≤m∧∀j,j<t→g (a+j)=g a)∨runV g m a=((g a,0,0),1):=by
 have l1:=ali_le g m a 138;have l2:=ali_le g m a 10;have l3:=ali_le g m a 6;have i1:= @ali_in g m a 138 (by omega)
 have i2:= @ali_in g m a 10 (by omega)
 have i3:= @ali_in g m a 6 (by omega)
 unfold runV;by_cases h0:g a=0
 ·rw [if_pos h0]
  by_cases h1:11≤ali g m a 138
  ·rw [if_pos h1]
   exact .inl ⟨_,rfl,h1,l1,i1,fun j hj=>by rw [ali_all hj,h0]⟩
  ·rw [if_neg h1]
   by_cases h2:3≤ali g m a 10
   ·rw [if_pos h2]
    exact .inr (.inl ⟨_,rfl,h2,l2,i2,fun j hj=>by rw [ali_all hj,h0]⟩)
   ·rw [if_neg h2];exact .inr (.inr (.inr rfl))
 ·rw [if_neg h0]
  by_cases h1:0<a∧g (a-1)=g a∧3≤ali g m a 6
  ·rw [if_pos h1]
   exact .inr (.inr (.inl ⟨_,rfl,h1.1,h1.2.1,h1.2.2,l3,i3,fun j hj=>ali_all hj⟩))
  ·rw [if_neg h1];exact .inr (.inr (.inr rfl))
theorem tell_go {B:Nat→Nat} {T:Nat} {g:Nat→Nat} {all f p:Nat} {l o:List Nat} {s q:Nat} (h:l.length<all) (e:symS B T g 19 ⟨p,0,o⟩=(s,⟨q,0,o⟩)):
  tellS B T g all (f+1) l ⟨p,0,o⟩=if s<16 then tellS B T g all f (l++[s]) ⟨q,0,o⟩else
   if s=16∧l.length=0 then(l,⟨q,2,o⟩)else
   if s=16 then tellS B T g all f (againS l (l.getD (l.length-1) 0) (3+(bitsS B T 2 ⟨q,0,o⟩).1) (bitsS B T 2 ⟨q,0,o⟩).2.e) (bitsS B T 2 ⟨q,0,o⟩).2 else
   if s=17 then tellS B T g all f (againS l 0 (3+(bitsS B T 3 ⟨q,0,o⟩).1) (bitsS B T 3 ⟨q,0,o⟩).2.e) (bitsS B T 3 ⟨q,0,o⟩).2 else
    tellS B T g all f (againS l 0 (11+(bitsS B T 7 ⟨q,0,o⟩).1) (bitsS B T 7 ⟨q,0,o⟩).2.e) (bitsS B T 7 ⟨q,0,o⟩).2:=by
 have e0:tellS B T g all (f+1) l ⟨p,0,o⟩=(let s:=symS B T g 19 ⟨p,0,o⟩
  if s.2.e≠0 then(l,s.2)else
  if s.1<16 then tellS B T g all f (l++[s.1]) s.2 else
  if s.1=16∧l.length=0 then(l,⟨s.2.p,2,s.2.o⟩)else
  if s.1=16 then tellS B T g all f (againS l (l.getD (l.length-1) 0) (3+(bitsS B T 2 s.2).1) (bitsS B T 2 s.2).2.e) (bitsS B T 2 s.2).2 else
  if s.1=17 then tellS B T g all f (againS l 0 (3+(bitsS B T 3 s.2).1) (bitsS B T 3 s.2).2.e) (bitsS B T 3 s.2).2 else
   tellS B T g all f (againS l 0 (11+(bitsS B T 7 s.2).1) (bitsS B T 7 s.2).2.e) (bitsS B T 7 s.2).2):=if_neg (by rintro(h1|h1);omega;exact h1 rfl)
 rw [e0,e];exact if_neg (fun h=>h rfl)
def Usl (g:Nat→Nat) (ws:List (Int×Nat×Nat)):Prop:=∀x∈ws,∀i:Nat,x.1=(i:Int)→g i≠0
theorem sym_l {B:Nat→Nat} (hB:∀i,B i<2) {C:List (Nat×Nat)} {g:Nat→Nat} {T p i:Nat} {o:List Nat} {y:Nat×Nat} {r:List (Int×Nat×Nat)} (hC:∀i,i<19→C.getD i (0,0)=(revN (g i) (codeN g 19 i),g i)) (h15:∀i,i<19→g i≤15) (hk:kr g 19≤2^15)
  (hi:i<19) (hu:Usl g (((i:Int),y)::r)) (h:St B p (numsV C (((i:Int),y)::r))) (hT:p+bitsN (numsV C (((i:Int),y)::r))≤T):
  symS B T g 19 ⟨p,0,o⟩=(i,⟨p+g i,0,o⟩)∧vb B (p+g i) y.2=y.1∧St B (p+g i+y.2) (numsV C r)∧bitsN (numsV C (((i:Int),y)::r))=g i+(y.2+bitsN (numsV C r)):=by
 have h0:g i≠0:=hu _ (.head _) i rfl;have e:numsV C (((i:Int),y)::r)=(revN (g i) (codeN g 19 i),g i)::y::numsV C r:=by
  show C.getD (Int.toNat (i:Int)) (0,0)::y::numsV C r=_
  rw [Int.toNat_natCast,hC i hi]
 rw [e]at h hT⊢;have hT2:p+(g i+(y.2+bitsN (numsV C r)))≤T:=hT;exact⟨sym_st hB h15 hk hi h0 h.1 (by omega),h.2.1,h.2.2,rfl⟩
theorem tell_back {B:Nat→Nat} (hB:∀i,B i<2) {C:List (Nat×Nat)} {g v:Nat→Nat} {T N:Nat} {o:List Nat} (hC:∀i,i<19→C.getD i (0,0)=(revN (g i) (codeN g 19 i),g i)) (h15:∀i,i<19→g i≤15) (hk:kr g 19≤2^15) (hv:∀i,i<N→v i≤15):
  ∀(f a p:Nat),a≤N→N-a<f→Usl g (runsG (fun i=>(v i:Int)) N (N-a) a)→St B p (numsV C (runsG (fun i=>(v i:Int)) N (N-a) a))→p+bitsN (numsV C (runsG (fun i=>(v i:Int)) N (N-a) a))≤T→
   tellS B T g N f (frsB v a) ⟨p,0,o⟩=(frsB v N,⟨p+bitsN (numsV C (runsG (fun i=>(v i:Int)) N (N-a) a)),0,o⟩)
 |0,_,_,_,h,_,_,_=>by omega
 |f+1,a,p,ha,hf,hu,hs,hT=>by
  by_cases hlt:a<N
  ·have hpos:=runV_pos (fun i=>(v i:Int)) N a
   have er:runsG (fun i=>(v i:Int)) N (N-a) a=(runV (fun i=>(v i:Int)) N a).1::runsG (fun i=>(v i:Int)) N (N-(a+(runV (fun i=>(v i:Int)) N a).2)) (a+(runV (fun i=>(v i:Int)) N a).2):=by
    rw [show N-a=N-a-1+1 by omega,runsG_one hlt,runsG_more _ N (N-a-1) (N-(a+(runV (fun i=>(v i:Int)) N a).2)) _ (by omega) (by omega)]
   rw [er]at hu hs hT⊢;have hlen:(frsB v a).length<N:=by rw [frsB_len];exact hlt
   rcases runV_cases (fun i=>(v i:Int)) N a hlt with⟨t,e,t1,t2,t3,hall⟩|⟨t,e,t1,t2,t3,hall⟩|⟨t,e,h0,hp,t1,t2,t3,hall⟩|e
   ·rw [e]at hu hs hT⊢
    dsimp only at hu hs hT⊢;obtain⟨k1,k2,k3,k4⟩:=sym_l (T:=T) (o:=o) (i:=18) hB hC h15 hk (by decide) hu hs hT
    dsimp only at k2 k3 k4;have k4:bitsN (numsV C ((18,t-11,7)::runsG (fun i=>(v i:Int)) N (N-(a+t)) (a+t)))=g 18+(7+bitsN (numsV C (runsG (fun i=>(v i:Int)) N (N-(a+t)) (a+t)))):=k4;rw [tell_go hlen k1,if_neg (by decide),if_neg (by rintro⟨h,_⟩;cases h),if_neg (by decide),if_neg (by decide),bits_st k2 (by omega)]
    dsimp only;unfold againS;rw [if_pos rfl,show 11+(t-11)=t by omega,frsB_rep t a (fun j hj=>by have:=hall j hj;omega)]
    rw [tell_back hB hC h15 hk hv f (a+t) _ t3 (by omega) (fun x hx=>hu x (.tail _ hx)) k3 (by omega),k4]
    simp only [Prod.mk.injEq,Fl.mk.injEq,and_true,true_and];omega
   ·rw [e]at hu hs hT⊢
    dsimp only at hu hs hT⊢;obtain⟨k1,k2,k3,k4⟩:=sym_l (T:=T) (o:=o) (i:=17) hB hC h15 hk (by decide) hu hs hT
    dsimp only at k2 k3 k4;have k4:bitsN (numsV C ((17,t-3,3)::runsG (fun i=>(v i:Int)) N (N-(a+t)) (a+t)))=g 17+(3+bitsN (numsV C (runsG (fun i=>(v i:Int)) N (N-(a+t)) (a+t)))):=k4;rw [tell_go hlen k1,if_neg (by decide),if_neg (by rintro⟨h,_⟩;cases h),if_neg (by decide),if_pos rfl,bits_st k2 (by omega)]
    dsimp only;unfold againS;rw [if_pos rfl,show 3+(t-3)=t by omega,frsB_rep t a (fun j hj=>by have:=hall j hj;omega)]
    rw [tell_back hB hC h15 hk hv f (a+t) _ t3 (by omega) (fun x hx=>hu x (.tail _ hx)) k3 (by omega),k4]
    simp only [Prod.mk.injEq,Fl.mk.injEq,and_true,true_and];omega
   ·rw [e]at hu hs hT⊢
    dsimp only at hu hs hT⊢;obtain⟨k1,k2,k3,k4⟩:=sym_l (T:=T) (o:=o) (i:=16) hB hC h15 hk (by decide) hu hs hT
    dsimp only at k2 k3 k4;have k4:bitsN (numsV C ((16,t-3,2)::runsG (fun i=>(v i:Int)) N (N-(a+t)) (a+t)))=g 16+(2+bitsN (numsV C (runsG (fun i=>(v i:Int)) N (N-(a+t)) (a+t)))):=k4;rw [tell_go hlen k1,if_neg (by decide),if_neg (by rintro⟨_,h⟩;rw [frsB_len]at h;omega),if_pos rfl,bits_st k2 (by omega)]
    dsimp only;unfold againS;rw [if_pos rfl,show 3+(t-3)=t by omega,frsB_len,frsB_get v (show a-1<a by omega),frsB_rep t a (fun j hj=>by have:=hall j hj;have hp2:(v (a-1):Int)=(v a:Int):=hp;omega)]
    rw [tell_back hB hC h15 hk hv f (a+t) _ t3 (by omega) (fun x hx=>hu x (.tail _ hx)) k3 (by omega),k4]
    simp only [Prod.mk.injEq,Fl.mk.injEq,and_true,true_and];omega
   ·rw [e]at hu hs hT⊢
    dsimp only at hu hs hT⊢;have hva:=hv a hlt;obtain⟨k1,k2,k3,k4⟩:=sym_l (T:=T) (o:=o) (i:=v a) hB hC h15 hk (by omega) hu hs hT
    have k3:St B (p+g (v a)) (numsV C (runsG (fun i=>(v i:Int)) N (N-(a+1)) (a+1))):=k3;have k4:bitsN (numsV C (((v a:Int),0,0)::runsG (fun i=>(v i:Int)) N (N-(a+1)) (a+1)))=g (v a)+(0+bitsN (numsV C (runsG (fun i=>(v i:Int)) N (N-(a+1)) (a+1)))):=k4;rw [tell_go hlen k1,if_pos (by omega),←frsB_succ]
    rw [tell_back hB hC h15 hk hv f (a+1) _ (by omega) (by omega) (fun x hx=>hu x (.tail _ hx)) k3 (by omega),k4]
    simp only [Prod.mk.injEq,Fl.mk.injEq,and_true,true_and];omega
  ·obtain rfl:N=a:=by omega
   have e0:tellS B T g N (f+1) (frsB v N) ⟨p,0,o⟩=(frsB v N,⟨p,0,o⟩):=if_pos (.inl (by rw [frsB_len];exact Nat.le_refl _))
   rw [e0,runsG_end hlt];rfl
theorem cntV_pos:∀{ws:List (Int×Nat×Nat)} {x:Int×Nat×Nat} {i:Nat},x∈ws→x.1=(i:Int)→0<cntV ws i
 |y::r,x,i,h,e=>by
  unfold cntV;rcases List.mem_cons.1 h with h|h
  ·rw [←h,if_pos e];omega
  ·have:=cntV_pos h e;omega
theorem runs_sym {v:Nat→Nat} {n:Nat} (hv:∀i,i<n→v i≤15) {x:Int×Nat×Nat}:∀{k a:Nat},x∈runsG (fun i=>(v i:Int)) n k a→0≤x.1∧x.1<19
 |0,_,h=>by cases h
 |k+1,a,h=>by
  by_cases ha:a<n
  ·rw [runsG_one ha]at h
   rcases List.mem_cons.1 h with h|h
   ·rw [h]
    have:=hv a ha;rcases runV_cases (fun i=>(v i:Int)) n a ha with⟨t,e,_⟩|⟨t,e,_⟩|⟨t,e,_⟩|e<;>rw [e]<;>dsimp only<;>omega
   ·exact runs_sym hv h
  ·rw [runsG_end ha]at h;cases h
theorem join_frs (f:Nat→Nat) (n:Nat) (g:Nat→Nat) (m:Nat):frsB (joinF f n g) (n+m)=frsB f n++frsB g m:=by
 apply List.ext_getElem
 ·rw [List.length_append,frsB_len,frsB_len,frsB_len]
 ·intro i h1 h2
  rw [frsB_len]at h1;have e1:(frsB (joinF f n g) (n+m))[i]? =some (joinF f n g i):=by unfold frsB;rw [List.getElem?_map,List.getElem?_range h1];rfl
  have e2:(frsB f n++frsB g m)[i]? =some (joinF f n g i):=by
   unfold joinF;by_cases hi:i<n
   ·rw [if_pos hi,List.getElem?_append_left (by rw [frsB_len];exact hi)]
    unfold frsB;rw [List.getElem?_map,List.getElem?_range hi];rfl
   ·rw [if_neg hi,List.getElem?_append_right (by rw [frsB_len];omega),frsB_len]
    unfold frsB;rw [List.getElem?_map,List.getElem?_range (by omega)];rfl
  rw [List.getElem?_eq_getElem (by rw [frsB_len];exact h1)]at e1
  rw [List.getElem?_eq_getElem h2]at e2;rw [Option.some.inj e1,Option.some.inj e2]
theorem codeS_ok {l:List Nat} {p:Nat} {o:List Nat} (h:newE (fun i=>(l.getD i 0:Int)) l.length=0):codeS l ⟨p,0,o⟩=⟨p,0,o⟩:=by
 unfold codeS;rw [if_neg (fun h=>h rfl),if_pos h]
theorem told_back {B:Nat→Nat} (hB:∀i,B i<2) {f g:Nat→Nat} {n m T p:Nat} {o:List Nat} (hn:257≤n∧n≤286) (hm:1≤m∧m≤30) (hf:∀i,i<n→f i≤15) (hg:∀i,i<m→g i≤15) (hend:f 256≠0)
  (hs:St B p (toldN f n g m)) (hT:p+bitsN (toldN f n g m)≤T):toldS B T ⟨p,0,o⟩=((frsB f n,frsB g m),⟨p+bitsN (toldN f n g m),0,o⟩):=by
 obtain⟨v,hv⟩:∃v,v=joinF f n g:=⟨_,rfl⟩;have hv15:∀i,i<n+m→v i≤15:=fun i hi=>by
  rw [hv];unfold joinF;split
  ·next h=>exact hf i h
  ·exact hg _ (by omega)
 obtain⟨L,hL⟩:∃L,L=tLens f n g m:=⟨_,rfl⟩;have hwl:(tWords f n g m).length≤n+m:=runsG_len _ _ _ _;obtain⟨-,hm1,hm2,hm3⟩:=madeV_all (cntV (tWords f n g m)) 19 7 (fun i _=>by have:=cntV_le (tWords f n g m) i;omega) (by decide) (.inr ⟨rfl,by decide⟩)
 have hLm:madeV (cntV (tWords f n g m)) 19 7=L:=by rw [hL];rfl
 rw [hLm]at hm1 hm2 hm3;have hw:tWords f n g m=runsG (fun i=>(v i:Int)) (n+m) (n+m-0) 0:=by rw [hv];rfl
 have et:toldN f n g m=tHead L n m (tMany L)++numsV (cdL L 19) (runsG (fun i=>(v i:Int)) (n+m) (n+m-0) 0):=by rw [←hw,hL];rfl
 rw [et]at hs hT⊢;obtain⟨h1,h2⟩:=hs.app;have hkb:bitsN (tHead L n m (tMany L))=14+3*tMany L:=by
  show 5+(5+(4+bitsN ((List.range (tMany L)).map fun i=>(tOrd L i,3))))=_
  rw [bits_three];omega
 rw [bitsN_app,hkb]at hT⊢;rw [hkb]at h2;obtain⟨a1,a2,a3,a4⟩:vb B p 5=n-257∧vb B (p+5) 5=m-1∧vb B (p+5+5) 4=tMany L-4∧St B (p+5+5+4) ((List.range (tMany L)).map fun i=>(tOrd L i,3)):=⟨h1.1,h1.2.1,h1.2.2.1,h1.2.2.2⟩;have a5:=St_range a4;have hk4:4≤tMany L:=upN_lo _ _ _ (by decide)
 have hk19:tMany L≤19:=upN_le _ _ _;obtain⟨G,hG⟩:∃G,G=fewG L (tMany L) 0 fun _=>0:=⟨_,rfl⟩;have hGL:∀i,i<19→G i=L i:=fun i hi=>by rw [hG];exact few_all hi
 have hTL:toL (fun i=>(L i:Int))=L:=funext fun i=>by unfold toL;exact Int.toNat_natCast _
 have hkr:kr G 19≤2^15:=by
  rw [kr_congr hGL];have:=(codesE_zero hm2).2;rw [hTL]at this;exact this
 have hG15:∀i,i<19→G i≤15:=fun i hi=>by rw [hGL i hi];have:=(hm1 i hi).1;omega
 have hC:∀i,i<19→(cdL L 19).getD i (0,0)=(revN (G i) (codeN G 19 i),G i):=fun i hi=>by
  rw [List.getD_eq_getElem?_getD,cdL_at hi,codeN_congr hGL hi,hGL i hi];rfl
 have hUs:Usl G (runsG (fun i=>(v i:Int)) (n+m) (n+m-0) 0):=fun x hx i e=>by
  have hi:i<19:=by have:=runs_sym hv15 hx;omega
  rw [hGL i hi];have hx2:x∈tWords f n g m:=by rw [hw];exact hx
  have:=((hm1 i hi).2).2 (cntV_pos hx2 e);omega
 have hcode:newE (fun i=>((((List.range 19).map G).getD i 0:Nat):Int)) ((List.range 19).map G).length=0:=by
  rw [List.length_map,List.length_range];rw [newE_congr (h:=fun i=>(L i:Int)) fun i hi=>by
   have:((List.range 19).map G).getD i 0=G i:=frsB_get G hi;rw [this,hGL i hi]]
  exact hm3
 have hfew:=few_ok (B:=B) (T:=T) (p0:=p+5+5+4) (L:=L) (o:=o) (tMany L) 0 (fun _=>0) (fun k _ h2=>a5 k (by omega)) (by omega)
 rw [←hG]at hfew;have hfew:fewS B T (tMany L) 0 (fun _=>0) ⟨p+5+5+4,0,o⟩=(G,⟨p+(14+3*tMany L),0,o⟩):=by
  rw [show p+5+5+4+3*0=p+5+5+4 by omega,show p+5+5+4+3*(0+tMany L)=p+(14+3*tMany L)by omega]at hfew
  exact hfew
 have htell:=tell_back (T:=T) (N:=n+m) (o:=o) hB hC hG15 hkr hv15 (n+m+1) 0 (p+(14+3*tMany L)) (Nat.zero_le _) (by omega) hUs h2 (by omega)
 have htell:tellS B T G (n+m) (n+m+1) [] ⟨p+(14+3*tMany L),0,o⟩=_:=htell;have hjf:v 256=f 256:=by rw [hv];unfold joinF;rw [if_pos (by omega)]
 unfold toldS;rw [bits_st a1 (by omega)]
 dsimp only;rw [bits_st a2 (by omega)]
 dsimp only;rw [bits_st a3 (by omega)]
 dsimp only;rw [show 257+(n-257)=n by omega,show 1+(m-1)=m by omega,show 4+(tMany L-4)=tMany L by omega,if_neg (show¬(0=0∧(n>286∨m>30))by omega),hfew]
 dsimp only;rw [codeS_ok hcode,htell];dsimp only;rw [if_neg (show¬(0=0∧((frsB v (n+m)).length>n+m∨(frsB v (n+m)).getD 256 0=0))by
  rw [frsB_len,frsB_get v (show 256<n+m by omega),hjf]
  omega),if_neg (fun h=>h rfl),hv,join_frs,List.take_left' (frsB_len f n),List.drop_left' (frsB_len f n)]
 simp only [Prod.mk.injEq,Fl.mk.injEq,and_true,true_and];omega
theorem wordsG_many (b:Nat→Nat):∀(L:List (Nat×Nat)) (k:Nat),L.length≤(wordsG b L k).length
 |[],_=>Nat.zero_le _
 |t::r,k=>by
  have ih:=wordsG_many b r (k+t.1);have h1:1≤(wordT b k t).length:=by unfold wordT;split<;>simp
  show r.length+1≤(wordT b k t++wordsG b r (k+t.1)).length
  rw [List.length_append];omega
theorem nums_bits {C:List (Nat×Nat)} {la lb:Nat→Nat} {na nb:Nat} (hC:Cd C la na lb nb):∀{ws:List (Int×Nat×Nat)},Usd la lb ws→ws.length≤bitsN (numsV C ws)
 |[],_=>Nat.zero_le _
 |x::r,h=>by
  have ih:=nums_bits hC h.tail;have h1:1≤(C.getD x.1.toNat (0,0)).2:=by
   rcases h x (.head _)with ⟨i,e,hi,h0⟩|⟨i,e,hi,h0⟩
   ·rw [e,Int.toNat_natCast,(hC.a i hi h0).2];show 1≤la i;omega
   ·rw [e,Int.toNat_natCast,(hC.b i hi h0).2];show 1≤lb i;omega
  show r.length+1≤(C.getD x.1.toNat (0,0)).2+(x.2.2+bitsN (numsV C r))
  omega
theorem coded_back {B:Nat→Nat} (hB:∀i,B i<2) {T M base to p:Nat} {A D:List Nat} {b b':Nat→Nat} {C:List (Nat×Nat)} {L:List (Nat×Nat)} (hC:Cd C (fun i=>A.getD i 0) A.length (fun i=>D.getD i 0) D.length)
  (hA:newE (fun i=>(A.getD i 0:Int)) A.length=0) (hD:newE (fun i=>(D.getD i 0:Int)) D.length=0) (hb:∀k,base+k<to→b' k=b (base+k)) (hb8:∀i,b i<256) (hto:to≤M) (ho:Oks b to base L)
  (hu:Usd (fun i=>A.getD i 0) (fun i=>D.getD i 0) (textV b' L)) (hs:St B p (numsV C (textV b' L))) (hT:p+bitsN (numsV C (textV b' L))≤T):
  codedS B T M A D ⟨p,0,frsB b base⟩=⟨p+bitsN (numsV C (textV b' L)),0,frsB b to⟩:=by
 unfold codedS;rw [codeS_ok hA,codeS_ok hD];have h1:=nums_bits hC hu;have h2:=wordsG_many b' L 0;have h3:(textV b' L).length=(wordsG b' L 0).length+1:=by unfold textV;rw [List.length_append];rfl
 exact symbols_back (T:=T) hB hC hb hb8 hto L 0 p (T+1) ho hu hs hT (by omega)
theorem txL_a {f g:Nat→Nat} {n m i:Nat} (h:i<286) (hn:286≤n):(txL f n g m).getD i (0,0)=cdV f n i:=by
 unfold txL;rw [List.getD_eq_getElem?_getD,List.getElem?_append_left (by rw [List.length_take,cdL_len];omega),List.getElem?_take_of_lt h,cdL_at (by omega)];rfl
theorem txL_b {f g:Nat→Nat} {n m i:Nat} (h:i<30) (hn:286≤n) (hm:30≤m):(txL f n g m).getD (286+i) (0,0)=cdV g m i:=by
 unfold txL;have e:((cdL f n).take 286).length=286:=by rw [List.length_take,cdL_len];omega
 rw [List.getD_eq_getElem?_getD,List.getElem?_append_right (by omega),e,show 286+i-286=i by omega,List.getElem?_take_of_lt h,cdL_at (by omega)];rfl
theorem frs_none {b:Nat→Nat} {n i:Nat} (h:(frsB b n).getD i 0≠0):i<n:=by
 rcases Nat.lt_or_ge i n with h1|h1
 ·exact h1
 ·rw [List.getD_eq_getElem?_getD,List.getElem?_eq_none (by rw [frsB_len];exact h1)]at h
  exact absurd rfl h
theorem cut_code {l:Nat→Nat} {lo n:Nat} (hm:∀i,i<n→l i≤15) (he:newE (fun i=>(l i:Int)) n=0) {k:Nat} (hk:k=upN (fun i=>(l i:Int)) lo n):
  (∀i,i<n→(frsB l k).getD i 0=l i)∧newE (fun i=>((frsB l k).getD i 0:Int)) (frsB l k).length=0∧(∀i,i<k→codeN l n i=codeN (fun i=>(frsB l k).getD i 0) k i)∧kr (fun i=>(frsB l k).getD i 0) k≤2^15∧(∀i,i<k→(frsB l k).getD i 0≤15):=by
 have hkn:k≤n:=by rw [hk];exact upN_le _ _ _
 have hz:∀j,k≤j→j<n→l j=0:=fun j h1 h2=>by
  have:=upN_zero (fun i=>(l i:Int)) lo n j (by omega) h2
  omega
 have hg:∀i,i<k→(frsB l k).getD i 0=l i:=fun i hi=>frsB_get l hi;have hT:toL (fun i=>(l i:Int))=l:=funext fun i=>by unfold toL;exact Int.toNat_natCast _
 have hcut:=newE_cut hkn hz he;have hce:codesE (fun i=>(l i:Int)) k=0:=by
  by_cases h:codesE (fun i=>(l i:Int)) k=0
  ·exact h
  ·unfold newE at hcut;rw [if_neg h]at hcut;exact absurd hcut h
 refine⟨fun i hi=> ?_,?_,fun i hi=> ?_,?_,fun i hi=>by rw [hg i hi];exact hm i (by omega)⟩
 ·by_cases h:i<k
  ·exact hg i h
  ·rw [hz i (by omega) hi,List.getD_eq_getElem?_getD,List.getElem?_eq_none (by rw [frsB_len];omega)];rfl
 ·rw [frsB_len,newE_congr (h:=fun i=>(l i:Int)) fun i hi=>by rw [hg i hi]]
  exact hcut
 ·rw [codeN_cut hkn hz,codeN_congr (l':=fun i=>(frsB l k).getD i 0) (fun j hj=>(hg j hj).symm) hi]
 ·rw [kr_congr (l':=l) hg]
  have:=(codesE_zero hce).2;rw [hT]at this;exact this
theorem block_back {B:Nat→Nat} (hB:∀i,B i<2) {T M base to p:Nat} {b b':Nat→Nat} {L:List (Nat×Nat)} (hw:∀x∈textV b' L,0≤x.1∧x.1<316) (hl:(textV b' L).length≤1000000)
  (hb:∀k,base+k<to→b' k=b (base+k)) (hb8:∀i,b i<256) (hto:to≤M) (ho:Oks b to base L) (hs:St B p (blockN (textV b' L))) (hT:p+bitsN (blockN (textV b' L))≤T):
  codedS B T M (toldS B T ⟨p,0,frsB b base⟩).1.1 (toldS B T ⟨p,0,frsB b base⟩).1.2 (toldS B T ⟨p,0,frsB b base⟩).2=⟨p+bitsN (blockN (textV b' L)),0,frsB b to⟩:=by
 have h256:((256:Int),(0:Nat),(0:Nat))∈textV b' L:=by unfold textV;exact List.mem_append_right _ (.head _)
 obtain⟨ws,hws⟩:∃ws,ws=textV b' L:=⟨_,rfl⟩;have hwl:ws.length≤1000000:=by rw [hws];exact hl
 obtain⟨-,m1,m2,m3⟩:=madeV_all (cntV ws) 286 15 (fun i _=>by have:=cntV_le ws i;omega) (by decide) (.inl ⟨by decide,by decide⟩)
 obtain⟨-,d1,d2,d3⟩:=madeV_all (fun i=>cntV ws (286+i)) 30 15 (fun i _=>by have:=cntV_le ws (286+i);omega) (by decide) (.inl ⟨by decide,by decide⟩)
 have ef:madeV (cntV ws) 286 15=kLs ws:=rfl;have eg:madeV (fun i=>cntV ws (286+i)) 30 15=kLd ws:=rfl;rw [ef]at m1 m3;rw [eg]at d1 d3;obtain⟨a1,a2,a3,a4,a5⟩:=cut_code (l:=kLs ws) (lo:=257) (n:=286) (fun i hi=>(m1 i hi).1) m3 (k:=kNs ws) rfl;obtain⟨b1,b2,b3,b4,b5⟩:=cut_code (l:=kLd ws) (lo:=1) (n:=30) (fun i hi=>(d1 i hi).1) d3 (k:=kNd ws) rfl;have hN1:257≤kNs ws:=upN_lo _ _ _ (by decide)
 have hN2:kNs ws≤286:=upN_le _ _ _;have hD1:1≤kNd ws:=upN_lo _ _ _ (by decide)
 have hD2:kNd ws≤30:=upN_le _ _ _;rw [←hws]at hs hT h256 hw⊢;have eb:blockN ws=toldN (kLs ws) (kNs ws) (kLd ws) (kNd ws)++numsV (txL (kLs ws) 286 (kLd ws) 30) ws:=rfl;rw [eb]at hs hT⊢;obtain⟨s1,s2⟩:=hs.app;rw [bitsN_app]at hT⊢;have hend:kLs ws 256≠0:=by have:=((m1 256 (by decide)).2).2 (cntV_pos h256 rfl);omega
 rw [told_back (T:=T) hB ⟨hN1,hN2⟩ ⟨hD1,hD2⟩ (fun i hi=>(m1 i (by omega)).1) (fun i hi=>(d1 i (by omega)).1) hend s1 (by omega)]
 dsimp only;have hC:Cd (txL (kLs ws) 286 (kLd ws) 30) (fun i=>(frsB (kLs ws) (kNs ws)).getD i 0) (frsB (kLs ws) (kNs ws)).length (fun i=>(frsB (kLd ws) (kNd ws)).getD i 0) (frsB (kLd ws) (kNd ws)).length:=by
  rw [frsB_len,frsB_len];refine⟨fun i hi h0=> ?_,fun i hi h0=> ?_,a5,b5,a4,b4⟩
  ·have hk:=frs_none h0
   refine⟨hk,?_⟩;rw [txL_a hi (by decide)]
   show(revN (kLs ws i) (codeN (kLs ws) 286 i),kLs ws i)=_
   rw [a3 i hk];show _=(revN ((frsB (kLs ws) (kNs ws)).getD i 0) _,(frsB (kLs ws) (kNs ws)).getD i 0);rw [a1 i hi]
  ·have hk:=frs_none h0
   refine⟨hk,?_⟩;rw [txL_b hi (by decide) (by decide)]
   show(revN (kLd ws i) (codeN (kLd ws) 30 i),kLd ws i)=_
   rw [b3 i hk];show _=(revN ((frsB (kLd ws) (kNd ws)).getD i 0) _,(frsB (kLd ws) (kNd ws)).getD i 0);rw [b1 i hi]
 have hu:Usd (fun i=>(frsB (kLs ws) (kNs ws)).getD i 0) (fun i=>(frsB (kLd ws) (kNd ws)).getD i 0) ws:=fun x hx=>by
  have hx1:=hw x hx;by_cases h:x.1<286
  ·have e:x.1=((x.1.toNat:Nat):Int):=by omega
   refine .inl ⟨x.1.toNat,e,by omega,?_⟩
   show(frsB (kLs ws) (kNs ws)).getD x.1.toNat 0≠0
   rw [a1 _ (by omega)]
   have:=((m1 x.1.toNat (by omega)).2).2 (cntV_pos hx e)
   omega
  ·have e:x.1=((286+(x.1.toNat-286):Nat):Int):=by omega
   refine .inr ⟨x.1.toNat-286,e,by omega,?_⟩
   show(frsB (kLd ws) (kNd ws)).getD (x.1.toNat-286) 0≠0
   rw [b1 _ (by omega)]
   have:=((d1 (x.1.toNat-286) (by omega)).2).2 (cntV_pos hx e)
   omega
 rw [hws]at hu s2 hT hC⊢;rw [hws]at a2 b2;rw [coded_back (T:=T) hB hC a2 b2 hb hb8 hto ho hu s2 (by omega),Nat.add_assoc]
theorem fix_cd:Cd fixL (fun i=>fixA.getD i 0) fixA.length (fun i=>fixB.getD i 0) fixB.length:=by
 have e1:toL (numF fixA)=fun i=>fixA.getD i 0:=funext fun i=>by unfold toL numF;exact Int.toNat_natCast _
 have e2:toL (numF fixB)=fun i=>fixB.getD i 0:=funext fun i=>by unfold toL numF;exact Int.toNat_natCast _
 have l1:fixA.length=288:=by decide+kernel
 have l2:fixB.length=32:=by decide+kernel
 rw [l1,l2];refine⟨fun i hi _=>⟨by omega,?_⟩,fun i hi _=>⟨by omega,?_⟩,by decide+kernel,by decide+kernel,by decide+kernel,by decide+kernel⟩
 ·unfold fixL;rw [txL_a hi (by decide),e1];rfl
 ·unfold fixL;rw [txL_b hi (by decide) (by decide),e2];rfl
theorem fix_usd {ws:List (Int×Nat×Nat)} (hw:∀x∈ws,0≤x.1∧x.1<316):Usd (fun i=>fixA.getD i 0) (fun i=>fixB.getD i 0) ws:=fun x hx=>by
 have hx1:=hw x hx;by_cases h:x.1<286
 ·exact .inl ⟨x.1.toNat,by omega,by omega,(by decide+kernel:∀i,i<286→fixA.getD i 0≠0) _ (by omega)⟩
 ·exact .inr ⟨x.1.toNat-286,by omega,by omega,(by decide+kernel:∀i,i<30→fixB.getD i 0≠0) _ (by omega)⟩
theorem fix_new:newE (fun i=>(fixA.getD i 0:Int)) fixA.length=0∧newE (fun i=>(fixB.getD i 0:Int)) fixB.length=0:=by decide+kernel
theorem copy_ok {B:Nat→Nat} {T M:Nat} {b:Nat→Nat}:∀(n a q:Nat),(∀j,j<n→vb B (q+8*j) 8=b (a+j))→q+8*n≤T→a+n≤M→copyS B T M n ⟨q,0,frsB b a⟩=⟨q+8*n,0,frsB b (a+n)⟩
 |0,_,_,_,_,_=>rfl
 |n+1,a,q,h,hT,hM=>by
  have e:copyS B T M (n+1) ⟨q,0,frsB b a⟩=copyS B T M n (sayS M (bitsS B T 8 ⟨q,0,frsB b a⟩).1 (bitsS B T 8 ⟨q,0,frsB b a⟩).2):=if_neg (fun h=>h rfl);have h0:vb B q 8=b a:=h 0 (Nat.succ_pos n);rw [e,bits_st h0 (by omega)]
  dsimp only;rw [sayS_in (by rw [frsB_len];omega),←frsB_succ,copy_ok n (a+1) (q+8) (fun j hj=>by
   have:=h (j+1) (by omega)
   rw [show q+8+8*j=q+8*(j+1)by omega,show a+1+j=a+(j+1)by omega];exact this) (by omega) (by omega)]
  simp only [Fl.mk.injEq,true_and];exact⟨by omega,by rw [show a+1+n=a+(n+1)by omega]⟩
theorem stored_back {B:Nat→Nat} {T M a p k:Nat} {b:Nat→Nat} {s:ByteArray} (hk:k=leftV (p%8+3)) (hz:s.size≤65535) (hb:∀j,j<s.size→byteS s j=b (a+j)) (hM:a+s.size≤M) (hs:St B (p+3) (stoV s k)) (hT:p+3+bitsN (stoV s k)≤T):
  storedS B T M ⟨p+3,0,frsB b a⟩=⟨p+3+bitsN (stoV s k),0,frsB b (a+s.size)⟩:=by
 have hl:bitsN (stoV s k)=k+32+8*s.size:=by
  show k+(16+(16+bitsN ((List.range s.size).map fun i=>(byteS s i,8))))=_
  rw [bits_three];omega
 rw [hl]at hT⊢;obtain⟨-,h1,h2,h3⟩:vb B (p+3) k=0∧vb B (p+3+k) 16=s.size∧vb B (p+3+k+16) 16=65535-s.size∧St B (p+3+k+16+16) ((List.range s.size).map fun i=>(byteS s i,8)):=⟨hs.1,hs.2.1,hs.2.2.1,hs.2.2.2⟩;have h4:=St_range h3;have hp:(p+3+7) /8*8=p+3+k:=by rw [hk];unfold leftV;omega
 unfold storedS;dsimp only;rw [hp,bits_st h1 (by omega)]
 dsimp only;rw [bits_st h2 (by omega)]
 dsimp only;rw [if_neg (by omega),copy_ok s.size a (p+3+k+16+16) (fun j hj=>by rw [h4 j hj,hb j hj]) (by omega) hM]
 simp only [Fl.mk.injEq,and_true];omega
theorem frsB_congr {b c:Nat→Nat} {n:Nat} (h:∀i,i<n→b i=c i):frsB b n=frsB c n:=by
 unfold frsB;exact List.map_congr_left fun i hi=>h i (List.mem_range.1 hi)
theorem head_back {B:Nat→Nat} {T M p x y:Nat} {o:List Nat} {r:List (Nat×Nat)} (hs:St B p ([(x,1),(y,2)]++r)) (hT:p+bitsN ([(x,1),(y,2)]++r)≤T):
  blockS B T M ⟨p,0,o⟩=(decide (x=1),if y=0 then storedS B T M ⟨p+3,0,o⟩else if y=1 then codedS B T M fixA fixB ⟨p+3,0,o⟩else
   if y=2 then codedS B T M (toldS B T ⟨p+3,0,o⟩).1.1 (toldS B T ⟨p+3,0,o⟩).1.2 (toldS B T ⟨p+3,0,o⟩).2 else⟨p+3,2,o⟩)∧St B (p+3) r∧bitsN ([(x,1),(y,2)]++r)=3+bitsN r:=by
 have hl:bitsN ([(x,1),(y,2)]++r)=3+bitsN r:=by show 1+(2+bitsN r)=_;omega
 rw [hl]at hT;obtain⟨h1,h2,h3⟩:vb B p 1=x∧vb B (p+1) 2=y∧St B (p+1+2) r:=⟨hs.1,hs.2.1,hs.2.2⟩;refine⟨?_,h3,hl⟩;unfold blockS;rw [bits_st h1 (by omega)]
 dsimp only;rw [bits_st h2 (by omega)]
 dsimp only;rw [if_neg (fun h=>h rfl)]
theorem piece_back {B:Nat→Nat} (hB:∀i,B i<2) {T M a to p:Nat} {s:ByteArray} (h:a≤to) (hp:to≤a+32768) (hs:to≤s.size) (hM:to≤M) (hst:St B p (pieceN s a to p)) (hT:p+bitsN (pieceN s a to p)≤T):
  blockS B T M ⟨p,0,frsB (byteS s) a⟩=(decide (to=s.size),⟨p+bitsN (pieceN s a to p),0,frsB (byteS s) to⟩):=by
 obtain⟨b,hb⟩:∃b,b=byteS (s.extract 0 to):=⟨_,rfl⟩;have hbs:∀j,j<to→b j=byteS s j:=fun j hj=>by rw [hb,byteS_ext s 0 to j hs (by omega),Nat.zero_add]
 have hb8:∀i,b i<256:=by rw [hb];exact byteS_lt _
 have hsz:(s.extract a to).size=to-a:=by rw [ByteArray.size_extract];omega
 have hbb:∀k,a+k<to→byteS (s.extract a to) k=b (a+k):=fun k hk=>by rw [hbs _ hk,byteS_ext s a to k hs hk]
 obtain⟨L,hL⟩:∃L,L=toksV b a to:=⟨_,rfl⟩;have hok:OkTs (s.extract a to).size L:=by rw [hsz,hL,hb];exact toksV_ok _ a to h hp
 have ho:Oks b to a L:=by rw [hL];exact toks_oks hb8 _ to (to-a) a h (by omega)
 have hLl:L.length≤to-a:=by rw [hL];exact toksG_len _ _ _ _ _
 have hw:∀x∈textV (byteS (s.extract a to)) L,0≤x.1∧x.1<316:=fun x hx=>(textV_ok _ hok x hx).1;have hl:(textV (byteS (s.extract a to)) L).length≤1000000:=by have:=textV_len (byteS (s.extract a to)) L;omega
 have e1:frsB (byteS s) a=frsB b a:=frsB_congr fun i hi=>(hbs i (by omega)).symm
 have e2:frsB (byteS s) to=frsB b to:=frsB_congr fun i hi=>(hbs i hi).symm;have ep:pieceN s a to p=packN (s.extract a to) L (p%8) (if to=s.size then 1 else 0):=by rw [hL,hb];rfl
 rw [ep]at hst hT⊢;rw [e1,e2];obtain⟨x,hx,hxd⟩:∃x,x=(if to=s.size then 1 else 0)∧decide (x=1)=decide (to=s.size):=by
  by_cases e:to=s.size
  ·exact⟨1,by rw [if_pos e],by simp [e]⟩
  ·exact⟨0,by rw [if_neg e],by simp [e]⟩
 rw [←hx]at hst hT⊢;rw [←hxd];have hsto:∀r,r=stoV (s.extract a to) (leftV (p%8+3))→St B p ([(x,1),(0,2)]++r)→p+bitsN ([(x,1),(0,2)]++r)≤T→blockS B T M ⟨p,0,frsB b a⟩=(decide (x=1),⟨p+bitsN ([(x,1),(0,2)]++r),0,frsB b to⟩):=fun r hr h1 h2=>by
  obtain⟨k1,k2,k3⟩:=head_back (M:=M) (o:=frsB b a) h1 h2;rw [k3]at h2⊢;rw [hr]at k2 h2⊢;rw [k1,if_pos rfl,stored_back (b:=b) (M:=M) rfl (by omega) (fun j hj=>hbb j (by omega)) (by omega) k2 (by omega),show a+(s.extract a to).size=to by omega,Nat.add_assoc]
 have hfix:∀r,r=numsV fixL (textV (byteS (s.extract a to)) L)→St B p ([(x,1),(1,2)]++r)→p+bitsN ([(x,1),(1,2)]++r)≤T→blockS B T M ⟨p,0,frsB b a⟩=(decide (x=1),⟨p+bitsN ([(x,1),(1,2)]++r),0,frsB b to⟩):=fun r hr h1 h2=>by
  obtain⟨k1,k2,k3⟩:=head_back (M:=M) (o:=frsB b a) h1 h2;rw [k3]at h2⊢;rw [hr]at k2 h2⊢;rw [k1,if_neg (by decide),if_pos rfl,coded_back (T:=T) (M:=M) hB fix_cd fix_new.1 fix_new.2 hbb hb8 hM ho (fix_usd hw) k2 (by omega),Nat.add_assoc]
 have hdyn:∀r,r=blockN (textV (byteS (s.extract a to)) L)→St B p ([(x,1),(2,2)]++r)→p+bitsN ([(x,1),(2,2)]++r)≤T→blockS B T M ⟨p,0,frsB b a⟩=(decide (x=1),⟨p+bitsN ([(x,1),(2,2)]++r),0,frsB b to⟩):=fun r hr h1 h2=>by
  obtain⟨k1,k2,k3⟩:=head_back (M:=M) (o:=frsB b a) h1 h2;rw [k3]at h2⊢;rw [hr]at k2 h2⊢;rw [k1,if_neg (by decide),if_neg (by decide),if_pos rfl,block_back (T:=T) (M:=M) hB hw hl hbb hb8 hM ho k2 (by omega),Nat.add_assoc]
 unfold packN at hst hT⊢;split
 ·next c1=>
  rw [if_pos c1]at hst hT;split
  ·next c2=>rw [if_pos c2]at hst hT;exact hsto _ rfl hst hT
  ·next c2=>rw [if_neg c2]at hst hT;exact hdyn _ rfl hst hT
 ·next c1=>
  rw [if_neg c1]at hst hT;split
  ·next c2=>rw [if_pos c2]at hst hT;exact hsto _ rfl hst hT
  ·next c2=>rw [if_neg c2]at hst hT;exact hfix _ rfl hst hT
theorem packG_fit (s:ByteArray):∀(f a B:Nat),a≤s.size→FitN (packG s f a B)
 |0,_,_,_=>fun x hx=>by cases hx
 |f+1,a,B,h=>by
  rw [packG_at s f a B _ rfl];refine FitN.app (pieceN_bits s a _ B (by omega) (by omega) (by omega)).1 ?_
  split
  ·intro x hx;cases hx
  ·next hne=>exact packG_fit s f _ _ (by omega)
theorem piece_some (s:ByteArray) (a to B:Nat):3≤bitsN (pieceN s a to B):=by
 have e:∀(x y:Nat) (r:List (Nat×Nat)),bitsN ([(x,1),(y,2)]++r)=3+bitsN r:=fun x y r=>by
  show 1+(2+bitsN r)=_;omega
 unfold pieceN packN;split
 ·split<;>rw [e]<;>omega
 ·split<;>rw [e]<;>omega
theorem blocks_last {B:Nat→Nat} {T M:Nat} {x:Fl}:∀F,blocksS B T M F true x=x
 |0=>rfl
 |_+1=>if_pos (.inl rfl)
theorem pack_back {B:Nat→Nat} (hB:∀i,B i<2) {T M:Nat} {s:ByteArray} (hM:s.size≤M):∀(f a p F:Nat),a≤s.size→s.size<a+32768*f→St B p (packG s f a p)→p+bitsN (packG s f a p)≤T→T-p<F→
  blocksS B T M F false ⟨p,0,frsB (byteS s) a⟩=⟨p+bitsN (packG s f a p),0,frsB (byteS s) s.size⟩
 |0,_,_,_,_,h,_,_,_=>by omega
 |_+1,_,_,0,_,_,_,_,h=>by omega
 |f+1,a,p,F+1,h,hf,hs,hT,hF=>by
  obtain⟨to,hto⟩:∃to,to=min (a+32768) s.size:=⟨_,rfl⟩;have e:=packG_at s f a p to hto.symm;rw [e]at hs hT⊢;obtain⟨h1,h2⟩:=hs.app;rw [bitsN_app]at hT⊢;have h3:=piece_some s a to p;have hp:=piece_back (T:=T) (M:=M) hB (show a≤to by omega) (show to≤a+32768 by omega) (show to≤s.size by omega) (by omega) h1 (by omega)
  have e0:blocksS B T M (F+1) false ⟨p,0,frsB (byteS s) a⟩=blocksS B T M F (blockS B T M ⟨p,0,frsB (byteS s) a⟩).1 (blockS B T M ⟨p,0,frsB (byteS s) a⟩).2:=if_neg (by rintro(h|h);cases h;exact h rfl)
  rw [e0,hp];dsimp only;by_cases hl:to=s.size
  ·rw [decide_eq_true hl,blocks_last,if_pos hl,hl]
   rfl
  ·rw [if_neg hl]at hT h2⊢
   rw [decide_eq_false hl];have ht:to=a+32768:=by omega
   rw [ht]at hT h2 h3⊢;rw [pack_back hB hM f (a+32768) _ F (by omega) (by omega) h2 (by omega) (by omega),Nat.add_assoc]
theorem byte_bit (m r:Nat) (h:r<8):m%256 /2^r%2=m /2^r%2:=by
 have:r=0∨r=1∨r=2∨r=3∨r=4∨r=5∨r=6∨r=7:=by omega
 rcases this with rfl|rfl|rfl|rfl|rfl|rfl|rfl|rfl<;>simp only [Nat.reducePow]<;>omega
theorem txtN_bit (N n:Nat) (more:ByteArray) (j:Nat) (hj:j<n):bitH (txtN N n++more) j=N /2^j%2:=by
 have hz:(txtN N n).size=(n+7) /8:=textN_size _ _;unfold bitH;rw [byteS_app,if_pos (by rw [hz];omega)]
 unfold txtN;rw [byteS_textN _ _ _ (by omega) (by omega),byte_bit _ _ (by omega),show(256:Nat)=2^8 by rfl,←Nat.pow_mul,Nat.div_div_eq_div_mul,←Nat.pow_add,show 8*(j /8)+j%8=j by omega]
theorem bitH_lt2 (s:ByteArray) (i:Nat):bitH s i<2:=by unfold bitH;omega
theorem open_packM (s more:ByteArray) (M:Nat) (h:s.size≤M) (hm:M≤1048576):openS (packT s++more) (M:Int)=(frsB (byteS s) s.size,(packT s).size,0):=by
 have hfit:FitN (packV s):=packG_fit s _ _ _ (Nat.zero_le _);have hz:(packT s).size=(bitsN (packV s)+7) /8:=textN_size _ _;have hX:(packT s++more).size=(packT s).size+more.size:=size_app _ _;have hst:St (bitH (packT s++more)) 0 (packV s):=St_val hfit fun j hj=>by
  rw [Nat.zero_add];exact txtN_bit _ _ _ j hj
 have hb:=pack_back (T:=8*(packT s++more).size) (M:=M) (bitH_lt2 (packT s++more)) h (s.size /32768+1) 0 0 (8*(packT s++more).size+1) (Nat.zero_le _) (by omega) hst (by
  show 0+bitsN (packV s)≤_;omega) (by omega)
 have hb:blocksS (bitH (packT s++more)) (8*(packT s++more).size) M (8*(packT s++more).size+1) false ⟨0,0,[]⟩=⟨0+bitsN (packV s),0,frsB (byteS s) s.size⟩:=hb;unfold openS;rw [if_neg (by omega),Int.toNat_natCast,hb]
 dsimp only;rw [if_neg (fun h=>h rfl),hz,Nat.zero_add]
theorem packN_sto (s:ByteArray) (l:List (Nat×Nat)) (h last:Nat):bitsN (packN s l h last)≤3+bitsN (stoV s (leftV (h+3))):=by
 have e:∀(x y:Nat) (r:List (Nat×Nat)),bitsN ([(x,1),(y,2)]++r)=3+bitsN r:=fun x y r=>by
  show 1+(2+bitsN r)=_;omega
 unfold packN;split
 ·split<;>rw [e]<;>omega
 ·split<;>rw [e]<;>omega
theorem pack_size (s:ByteArray) (h:s.size<32768):(packT s).size≤s.size+5:=by
 have e1:s.extract 0 s.size=s:=ByteArray.extract_zero_size;have e:packV s=packN s (toksV (byteS s) 0 s.size) (0%8) 1:=by
  unfold packV;rw [show s.size /32768+1=0+1 by omega,packG_at s 0 0 0 s.size (by omega),if_pos rfl,List.append_nil]
  unfold pieceN;rw [e1,if_pos rfl]
 have h1:=packN_sto s (toksV (byteS s) 0 s.size) (0%8) 1;have hl:bitsN (stoV s (leftV (0%8+3)))=5+32+8*s.size:=by
  show 5+(16+(16+bitsN ((List.range s.size).map fun i=>(byteS s i,8))))=_
  rw [bits_three];omega
 have hz:(packT s).size=(bitsN (packV s)+7) /8:=textN_size _ _;rw [hz,e];omega
end Go.Proofs.YtmhoejmgjbgddaaGreat
