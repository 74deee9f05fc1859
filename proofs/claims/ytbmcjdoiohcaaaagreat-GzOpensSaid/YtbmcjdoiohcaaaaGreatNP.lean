/- NP -/
import Derived.Test.YtbmcjdoiohcaaaaGreatNL
namespace Go.Proofs.YtbmcjdoiohcaaaaGreat
open Go.RowKit
theorem Qty {l:Nat→Nat} {d n:Nat} (hd:d≠0):∀{m:Nat},n≤m→(∀j,n≤j→j<m→l j=0)→cnt l d m=cnt l d n
 |0,h,_=>by rw [show n=0 by omega]
 |m+1,h,hz=>by
  by_cases e:n=m+1
  ·rw [e]
  ·unfold cnt;rw [Qty hd (m:=m) (by omega) (fun j h1 h2=>hz j h1 (by omega)),hz m (by omega) (by omega),if_neg (fun h=>hd h.symm)]
   cases n<;>rfl
theorem Quy {l:Nat→Nat} {n:Nat}:∀{m:Nat},n≤m→(∀j,n≤j→j<m→l j=0)→kr l m=kr l n
 |0,h,_=>by rw [show n=0 by omega]
 |m+1,h,hz=>by
  by_cases e:n=m+1
  ·rw [e]
  ·have e1:kr l (m+1)=kr l m+if l m=0 then 0 else 2^(15-l m):=rfl;rw [e1,Quy (m:=m) (by omega) (fun j h1 h2=>hz j h1 (by omega)),hz m (by omega) (by omega),if_pos rfl];rfl
theorem Qt3 {l:Nat→Nat} {n m:Nat} (h:n≤m) (hz:∀j,n≤j→j<m→l j=0):∀d,cst l m d=cst l n d
 |0=>rfl
 |d+1=>by unfold cst;rw [Qt3 h hz d,Qty (Nat.succ_ne_zero d) h hz]
theorem Qnq {l:Nat→Nat} {n m i:Nat} (h:n≤m) (hz:∀j,n≤j→j<m→l j=0):Qa0 l m i=Qa0 l n i:=by
 unfold Qa0;rw [Qt3 h hz]
theorem Qpx {n:Nat} (h1:3≤n) (h2:n≤258):∃i,i<29∧lenW n=(257+i,n-lenB i,lenX i)∧lenB i≤n:=by
 refine⟨Qbh lenB n 29-1,?_,rfl,?_⟩
 ·have:=Qc6 lenB n 29;omega
 ·have h3:=Qb3 lenB n 29 0;have h0:lenB 0=3:=rfl;exact Qcy Qmj n 29 _ (by
   rcases Nat.eq_zero_or_pos (Qbh lenB n 29)with h|h
   ·have:=h3 (by omega) (by decide);omega
   ·omega)
theorem Qpg {n:Nat} (h1:1≤n):∃i,i<30∧disW n=(286+i,n-Qbe i,Qb2 i)∧Qbe i≤n:=by
 refine⟨Qbh Qbe n 30-1,?_,rfl,?_⟩
 ·have:=Qc6 Qbe n 30;omega
 ·have h3:=Qb3 Qbe n 30 0;have h0:Qbe 0=1:=rfl;exact Qcy Ql4 n 30 _ (by
   rcases Nat.eq_zero_or_pos (Qbh Qbe n 30)with h|h
   ·have:=h3 (by omega) (by decide);omega
   ·omega)
structure Cd (C:List (Nat×Nat)) (la:Nat→Nat) (na:Nat) (lb:Nat→Nat) (nb:Nat):Prop where
 a:∀i,i<286→la i≠0→i<na∧C.getD i (0,0)=(revN (la i) (Qa0 la na i),la i)
 b:∀i,i<30→lb i≠0→i<nb∧C.getD (286+i) (0,0)=(revN (lb i) (Qa0 lb nb i),lb i)
 la15:∀j,j<na→la j≤15
 lb15:∀j,j<nb→lb j≤15
 ka:kr la na≤2^15
 kb:kr lb nb≤2^15
def Usd (la lb:Nat→Nat) (ws:List (Int×Nat×Nat)):Prop:=∀x∈ws,(∃i:Nat,x.1=(i:Int)∧i<286∧la i≠0)∨∃i:Nat,x.1=((286+i:Nat):Int)∧i<30∧lb i≠0
theorem Qnb (f:Nat→Int) (lo:Nat):∀(n i:Nat),upN f lo n≤i→i<n→f i=0
 |0,i,_,h=>by omega
 |n+1,i,h1,h2=>by
  unfold upN at h1;split at h1
  ·next hh=>
   by_cases e:i=n
   ·subst e;exact hh.2
   ·exact Qnb f lo n i h1 (by omega)
  ·omega
theorem Qex (F:Nat→Nat) (z:Nat):∀k,Qaj ((List.range k).map fun i=>(F i,z))=z*k
 |0=>rfl
 |k+1=>by rw [List.range_succ,List.map_append,Qa6,Qex F z k,Nat.mul_succ];rfl
theorem Qs2 (g:Nat→Int) (m a:Nat) (h:a<m):(∃t,runV g m a=((18,t-11,7),t)∧11≤t∧t≤138∧a+t≤m∧∀j,j<t→g (a+j)=0)∨(∃t,runV g m a=((17,t-3,3),t)∧3≤t∧t≤10∧a+t≤m∧∀j,j<t→g (a+j)=0)∨
  (∃t,runV g m a=((16,t-3,2),t)∧0<a∧g (a-1)=g a∧3≤t∧t≤6∧a+t≤m∧∀j,j<t→g (a+j)=g a)∨runV g m a=((g a,0,0),1):=by
 have l1:=Qfm g m a 138;have l2:=Qfm g m a 10;have l3:=Qfm g m a 6;have i1:= @Qkz g m a 138 (by omega)
 have i2:= @Qkz g m a 10 (by omega)
 have i3:= @Qkz g m a 6 (by omega)
 unfold runV;by_cases h0:g a=0
 ·rw [if_pos h0];by_cases h1:11≤ali g m a 138
  ·rw [if_pos h1];exact .inl ⟨_,rfl,h1,l1,i1,fun j hj=>by rw [Qo6 hj,h0]⟩
  ·rw [if_neg h1];by_cases h2:3≤ali g m a 10
   ·rw [if_pos h2];exact .inr (.inl ⟨_,rfl,h2,l2,i2,fun j hj=>by rw [Qo6 hj,h0]⟩)
   ·rw [if_neg h2];exact .inr (.inr (.inr rfl))
 ·rw [if_neg h0];by_cases h1:0<a∧g (a-1)=g a∧3≤ali g m a 6
  ·rw [if_pos h1];exact .inr (.inr (.inl ⟨_,rfl,h1.1,h1.2.1,h1.2.2,l3,i3,fun j hj=>Qo6 hj⟩))
  ·rw [if_neg h1];exact .inr (.inr (.inr rfl))
end Go.Proofs.YtbmcjdoiohcaaaaGreat
/- Chapter 11 in numbers, no walk: what tells a block's codes is read as the codes' lengths. -/
namespace Go.Proofs.YtbmcjdoiohcaaaaGreat
open Go.RowKit
theorem Ql1:∀{ws:List (Int×Nat×Nat)} {x:Int×Nat×Nat} {i:Nat},x∈ws→x.1=(i:Int)→0<cntV ws i
 |y::r,x,i,h,e=>by
  unfold cntV;rcases List.mem_cons.1 h with h|h
  ·rw [←h,if_pos e];omega
  ·have:=Ql1 h e;omega
theorem Q27 {f g:Nat→Nat} {n m i:Nat} (h:i<286) (hn:286≤n):(txL f n g m).getD i (0,0)=cdV f n i:=by
 unfold txL;rw [List.getD_eq_getElem?_getD,List.getElem?_append_left (by rw [List.length_take,Qe8];omega),List.getElem?_take_of_lt h,Qqy (by omega)];rfl
theorem Q28 {f g:Nat→Nat} {n m i:Nat} (h:i<30) (hn:286≤n) (hm:30≤m):(txL f n g m).getD (286+i) (0,0)=cdV g m i:=by
 unfold txL;have e:((cdL f n).take 286).length=286:=by rw [List.length_take,Qe8];omega
 rw [List.getD_eq_getElem?_getD,List.getElem?_append_right (by omega),e,show 286+i-286=i by omega,List.getElem?_take_of_lt h,Qqy (by omega)];rfl
theorem Q2b:Cd fixL (fun i=>fixA.getD i 0) fixA.length (fun i=>fixB.getD i 0) fixB.length:=by
 have e1:toL (numF fixA)=fun i=>fixA.getD i 0:=funext fun i=>by unfold toL numF;exact Int.toNat_natCast _
 have e2:toL (numF fixB)=fun i=>fixB.getD i 0:=funext fun i=>by unfold toL numF;exact Int.toNat_natCast _
 have l1:fixA.length=288:=by decide+kernel
 have l2:fixB.length=32:=by decide+kernel
 rw [l1,l2];refine⟨fun i hi _=>⟨by omega,?_⟩,fun i hi _=>⟨by omega,?_⟩,by decide+kernel,by decide+kernel,by decide+kernel,by decide+kernel⟩
 ·unfold fixL;rw [Q27 hi (by decide),e1];rfl
 ·unfold fixL;rw [Q28 hi (by decide) (by decide),e2];rfl
theorem Q0r {ws:List (Int×Nat×Nat)} (hw:∀x∈ws,0≤x.1∧x.1<316):Usd (fun i=>fixA.getD i 0) (fun i=>fixB.getD i 0) ws:=fun x hx=>by
 have hx1:=hw x hx;by_cases h:x.1<286
 ·exact .inl ⟨x.1.toNat,by omega,by omega,(by decide+kernel:∀i,i<286→fixA.getD i 0≠0) _ (by omega)⟩
 ·exact .inr ⟨x.1.toNat-286,by omega,by omega,(by decide+kernel:∀i,i<30→fixB.getD i 0≠0) _ (by omega)⟩
theorem Qvp (s:ByteArray) (l:List (Nat×Nat)) (h last:Nat):Qaj (Qcj s l h last)≤3+Qaj (stoV s (Qdw (h+3))):=by
 have e:∀(x y:Nat) (r:List (Nat×Nat)),Qaj ([(x,1),(y,2)]++r)=3+Qaj r:=fun x y r=>by
  show 1+(2+Qaj r)=_;omega
 unfold Qcj;split
 ·split<;>rw [e]<;>omega
 ·split<;>rw [e]<;>omega
theorem Qj2 (s:ByteArray) (h:s.size<32768):(Qgl s).size≤s.size+5:=by
 have e1:s.extract 0 s.size=s:=ByteArray.extract_zero_size;have e:Qmq s=Qcj s (Qbl (Qac s) 0 s.size) (0%8) 1:=by
  unfold Qmq;rw [show s.size /32768+1=0+1 by omega,Qrr s 0 0 0 s.size (by omega),if_pos rfl,List.append_nil]
  unfold Qe3;rw [e1,if_pos rfl]
 have h1:=Qvp s (Qbl (Qac s) 0 s.size) (0%8) 1;have hl:Qaj (stoV s (Qdw (0%8+3)))=5+32+8*s.size:=by
  show 5+(16+(16+Qaj ((List.range s.size).map fun i=>(Qac s i,8))))=_
  rw [Qex];omega
 have hz:(Qgl s).size=(Qaj (Qmq s)+7) /8:=Qb1 _ _;rw [hz,e];omega
end Go.Proofs.YtbmcjdoiohcaaaaGreat
