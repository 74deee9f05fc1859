/- MB -/
import Derived.Test.YtbmcjdoiohcaaaaGreatMA
namespace Go.Proofs.YtbmcjdoiohcaaaaGreat
open Go.RowKit
def cnt (l:Nat→Nat) (d:Nat):Nat→Nat
 |0=>0
 |n+1=>cnt l d n+if l n=d then 1 else 0
def kr (l:Nat→Nat):Nat→Nat
 |0=>0
 |n+1=>kr l n+if l n=0 then 0 else 2^(15-l n)
def cst (l:Nat→Nat) (n:Nat):Nat→Nat
 |0=>0
 |d+1=>2*(cst l n d+cnt l (d+1) n)
def Qa0 (l:Nat→Nat) (n i:Nat):Nat:=if l i=0 then 0 else cst l n (l i-1)+cnt l (l i) i
theorem Qxk (l:Nat→Nat) (d:Nat) {i j:Nat} (h:i≤j):cnt l d i≤cnt l d j:=by
 induction h with
 |refl=>exact Ql
 |step _ ih=>exact Nat.le_trans ih (Nat.le_add_right _ _)
theorem Qtz (l:Nat→Nat) {d i j:Nat} (hi:l i=d) (h:i<j):cnt l d i+1≤cnt l d j:=by
 have h1:cnt l d (i+1)=cnt l d i+1:=by show _+_=_;rw [if_pos hi]
 rw [←h1];exact Qxk l d h
def offS (l:Nat→Nat) (n:Nat):Nat→Nat
 |0=>0
 |d+1=>offS l n d+cnt l (d+1) n*2^(15-(d+1))
theorem Qt4 (l:Nat→Nat) (n d:Nat) (hd:d≤14):cst l n d*2^(15-(d+1))=offS l n d:=by
 induction d with
 |zero=>simp [cst,offS]
 |succ d ih=>
  have ih2:=ih (by omega)
  show 2*(cst l n d+cnt l (d+1) n)*2^(15-(d+1+1))=offS l n d+cnt l (d+1) n*2^(15-(d+1))
  have e:2^(15-(d+1))=2*2^(15-(d+1+1)):=by
   rw [show 15-(d+1)=15-(d+1+1)+1 by omega,Nat.pow_succ,Nat.mul_comm]
  rw [←ih2,e,←Nat.add_mul,Nat.mul_assoc,Nat.mul_left_comm]
theorem Qn6 (l:Nat→Nat) (n:Nat) {d e:Nat} (h:d≤e):offS l n d≤offS l n e:=by
 induction h with
 |refl=>exact Ql
 |step _ ih=>exact Nat.le_trans ih (Nat.le_add_right _ _)
theorem Qvg (l:Nat→Nat) (d:Nat):offS l 0 d=0:=by
 induction d with
 |zero=>rfl
 |succ d ih=>show offS l 0 d+0*_=0;rw [ih,Nat.zero_mul]
theorem Qvf (l:Nat→Nat) (n d:Nat):offS l (n+1) d=offS l n d+if 1≤l n∧l n≤d then 2^(15-l n)else 0:=by
 induction d with
 |zero=>rw [if_neg (by omega)];rfl
 |succ d ih=>
  show offS l (n+1) d+(cnt l (d+1) n+if l n=d+1 then 1 else 0)*2^(15-(d+1))=offS l n d+cnt l (d+1) n*2^(15-(d+1))+_
  rw [ih];by_cases h:l n=d+1
  ·rw [if_neg (by omega),if_pos h,if_pos (by omega),h,Nat.add_mul,Nat.one_mul];omega
  ·rw [if_neg h,Nat.add_zero];by_cases h2:1≤l n∧l n≤d
   ·rw [if_pos h2,if_pos (by omega)];omega
   ·rw [if_neg h2,if_neg (by omega)];omega
theorem Qrp (l:Nat→Nat) (n:Nat) (h:∀i,i<n→l i≤15):offS l n 15=kr l n:=by
 induction n with
 |zero=>exact Qvg l 15
 |succ n ih=>
  rw [Qvf,ih fun i hi=>h i (by omega)]
  have hn:=h n (by omega)
  show _=kr l n+_
  by_cases h0:l n=0
  ·rw [if_neg (by omega),if_pos h0]
  ·rw [if_pos (by omega),if_neg h0]
theorem Q0h (l:Nat→Nat) (n i:Nat) (h0:l i≠0) (h1:l i≤15):Qa0 l n i*2^(15-l i)=offS l n (l i-1)+cnt l (l i) i*2^(15-l i):=by
 unfold Qa0;rw [if_neg h0,Nat.add_mul];have e:=Qt4 l n (l i-1) (by omega)
 rw [show l i-1+1=l i by omega]at e
 rw [e]
theorem Q0g (l:Nat→Nat) (n i j:Nat) (h0:l i≠0) (h1:l i≤15) (hij:i<j):(Qa0 l n i+1)*2^(15-l i)≤offS l n (l i-1)+cnt l (l i) j*2^(15-l i):=by
 rw [Nat.add_mul,Nat.one_mul,Q0h l n i h0 h1,Nat.add_assoc];refine Nat.add_le_add_left ?_ _;have:=Nat.mul_le_mul_right (2^(15-l i)) (Qtz l rfl hij)
 rwa [Nat.add_mul,Nat.one_mul]at this
theorem Qxm (l:Nat→Nat) (n i:Nat) (h0:l i≠0) (h1:l i≤15) (hi:i<n):(Qa0 l n i+1)*2^(15-l i)≤offS l n (l i):=by
 have h:=Q0g l n i n h0 h1 hi;have e:offS l n (l i)=offS l n (l i-1)+cnt l (l i) n*2^(15-l i):=by
  obtain⟨d,hd⟩:∃d,l i=d+1:=⟨l i-1,by omega⟩
  rw [hd];rfl
 rw [e];exact h
theorem Qh1 (l:Nat→Nat) (n i:Nat) (h:∀j,j<n→l j≤15) (hk:kr l n≤2^15) (hi:i<n) (h0:l i≠0):Qa0 l n i<2^l i:=by
 have h1:=h i hi;have h2:=Nat.le_trans (Qxm l n i h0 h1 hi) (Nat.le_trans (Qn6 l n h1) (Qrp l n h▸hk));have h3:(2:Nat)^15=2^l i*2^(15-l i):=by rw [←Nat.pow_add];congr 1;omega
 rw [h3]at h2;exact Nat.lt_of_mul_lt_mul_right (Nat.lt_of_lt_of_le (Nat.mul_lt_mul_of_pos_right (Nat.lt_succ_self _) (Nat.pow_pos (by decide))) h2)
theorem Qnr (l:Nat→Nat) (n i k:Nat) (h0:l i≠0) (hl:l i=l k) (hc:Qa0 l n i=Qa0 l n k):i=k:=by
 unfold Qa0 at hc;rw [if_neg h0,if_neg (by omega),hl]at hc
 rcases Nat.lt_trichotomy i k with h|h|h
 ·have:=Qtz l hl h;omega
 ·exact h
 ·have:=Qtz l (rfl:l k=l k) h;omega
def fnd (l:Nat→Nat) (n d c:Nat):Nat→Option Nat
 |0=>none
 |m+1=>match fnd l n d c m with
  |some k=>some k
  |none=>if l m=d∧Qa0 l n m=c then some m else none
theorem Qx0 {l:Nat→Nat} {n d c m:Nat} (h:∀i,i<m→¬(l i=d∧Qa0 l n i=c)):fnd l n d c m=none:=by
 induction m with
 |zero=>rfl
 |succ m ih=>
  unfold fnd;rw [ih fun i hi=>h i (by omega)]
  exact if_neg (h m (by omega))
theorem Qx1 {l:Nat→Nat} {n d c m k:Nat} (hd:d≠0) (hk:k<m) (h1:l k=d) (h2:Qa0 l n k=c):fnd l n d c m=some k:=by
 induction m with
 |zero=>omega
 |succ m ih=>
  unfold fnd;by_cases h:k<m
  ·rw [ih h]
  ·obtain rfl:k=m:=by omega
   rw [Qx0]
   ·exact if_pos ⟨h1,h2⟩
   ·rintro i hi ⟨h3,h4⟩;have:=Qnr l n i k (by omega) (by omega) (by omega)
    omega
theorem Quo {l:Nat→Nat} {n d c m k:Nat} (h:fnd l n d c m=some k):k<m∧l k=d∧Qa0 l n k=c:=by
 induction m with
 |zero=>cases h
 |succ m ih=>
  unfold fnd at h;cases e:fnd l n d c m with
  |some j=>rw [e]at h;cases h;have:=ih e;exact⟨by omega,this.2⟩
  |none=>
   rw [e]at h;by_cases h3:l m=d∧Qa0 l n m=c
   ·simp only [if_pos h3]at h;cases h;exact⟨by omega,h3⟩
   ·simp only [if_neg h3]at h;cases h
theorem Q0s {l:Nat→Nat} {n d c m:Nat} (h:fnd l n d c m=none):∀i,i<m→¬(l i=d∧Qa0 l n i=c):=by
 induction m with
 |zero=>intro i hi;omega
 |succ m ih=>
  unfold fnd at h;cases e:fnd l n d c m with
  |some j=>rw [e]at h;cases h
  |none=>
   rw [e]at h;by_cases h3:l m=d∧Qa0 l n m=c
   ·simp only [if_pos h3]at h;cases h
   ·intro i hi;rcases(show i<m∨i=m by omega)with h4|rfl
    ·exact ih e i h4
    ·exact h3
def rv (B:Nat→Nat) (at_:Nat):Nat→Nat
 |0=>0
 |k+1=>2*rv B at_ k+B (at_+k)
def Qc0 (l:Nat→Nat) (n:Nat) (B:Nat→Nat) (T at_:Nat):Nat→Nat→Nat×Nat×Nat
 |_,0=>(0,0,2)
 |d,f+1=>if T≤at_+d then(0,0,3)else match fnd l n (d+1) (rv B at_ (d+1)) n with
  |some k=>(k,at_+d+1,0)
  |none=>Qc0 l n B T at_ (d+1) f
abbrev Kd:=Nat×Nat
def klt (a b:Kd):Prop:=a.1<b.1∨a.1=b.1∧a.2<b.2
instance (a b:Kd):Decidable (klt a b):=inferInstanceAs (Decidable (_∨_))
theorem Qhf {a b c:Kd} (h:klt a b) (h2:klt b c):klt a c:=by unfold klt at*;omega
theorem Qh9 (a:Kd):¬klt a a:=by unfold klt;omega
theorem Qux {a b:Kd} (h:klt a b):¬klt b a:=by unfold klt at*;omega
theorem Qjw {a b:Kd} (h:a.2≠b.2) (h2:¬klt a b):klt b a:=by unfold klt at*;omega
def pk:List Kd→Kd×List Kd
 |[]=>((0,0),[])
 |[x]=>(x,[])
 |x::y::l=>if klt x (pk (y::l)).1 then(x,y::l)else ((pk (y::l)).1,x::(pk (y::l)).2)
theorem Qet:∀{l:List Kd},l≠[]→l.Perm ((pk l).1::(pk l).2)
 |[],h=>absurd rfl h
 |[_],_=>List.Perm.refl _
 |x::y::l,_=>by
  unfold pk;by_cases h:klt x (pk (y::l)).1
  ·rw [if_pos h]
  ·rw [if_neg h];have ih:=Qet (l:=y::l) (by simp)
   exact(ih.cons x).trans (List.Perm.swap _ _ _)
theorem Qgd:∀{l:List Kd} (_:(l.map (·.2)).Nodup) (x:Kd),x∈(pk l).2→klt (pk l).1 x
 |[],_,x,hx=>by simp [pk]at hx
 |[_],_,x,hx=>by simp [pk]at hx
 |x::y::l,hn,z,hz=>by
  have hn2:((y::l).map (·.2)).Nodup:=(List.nodup_cons.1 (by simpa only [List.map_cons]using hn)).2
  have hx:x.2∉(y::l).map (·.2):=(List.nodup_cons.1 (by simpa only [List.map_cons]using hn)).1
  have ih:=Qgd (l:=y::l) hn2;have hp:=Qet (l:=y::l) (by simp)
  unfold pk at hz⊢;by_cases h:klt x (pk (y::l)).1
  ·rw [if_pos h]at hz⊢;rcases List.mem_cons.1 (hp.mem_iff.1 hz)with rfl|h3
   ·exact h
   ·exact Qhf h (ih z h3)
  ·rw [if_neg h]at hz⊢;rcases List.mem_cons.1 hz with rfl|h3
   ·refine Qjw (fun e=>hx ?_) h;rw [e];exact List.mem_map.2 ⟨_,hp.mem_iff.2 (List.mem_cons_self ..),rfl⟩
   ·exact ih z h3
theorem Qvc {l l':List Kd} (h:l.Perm l') (hn:(l.map (·.2)).Nodup):(l'.map (·.2)).Nodup:=((h.map _).nodup_iff).1 hn
theorem Qyu {l r:List Kd} {a:Kd} (hn:(l.map (·.2)).Nodup) (hp:l.Perm (a::r)) (ha:∀x∈r,klt a x):(pk l).1=a∧(pk l).2.Perm r:=by
 have hne:l≠[]:=fun e=>by subst e;exact absurd hp.length_eq (by simp)
 have h1:=Qet hne;have h2:=h1.symm.trans hp;have e:(pk l).1=a:=by
  rcases List.mem_cons.1 (h2.mem_iff.1 (List.mem_cons_self ..))with h3|h3
  ·exact h3
  ·have h4:=ha _ h3;rcases List.mem_cons.1 (h2.mem_iff.2 (List.mem_cons_self ..))with h5|h5
   ·exact h5.symm
   ·exact absurd h4 (Qux (Qgd hn a h5))
 refine⟨e,?_⟩;rw [e]at h2;exact h2.cons_inv
def hE:Nat→List Kd→Nat→Nat→Nat
 |0,_,_,_=>0
 |f+1,l,n,m=>if l.length≤1 then 0 else
  if m=(pk l).1.2∨m=(pk (pk l).2).1.2 then hE f (((pk l).1.1+(pk (pk l).2).1.1,n)::(pk (pk l).2).2) (n+1) n+1
  else hE f (((pk l).1.1+(pk (pk l).2).1.1,n)::(pk (pk l).2).2) (n+1) m
def okK (l:List Kd) (n:Nat):Prop:=(l.map (·.2)).Nodup∧∀x∈l,x.2<n
theorem Qbj {l l':List Kd} {n:Nat} (h:l.Perm l') (hk:okK l n):okK l' n:=⟨Qvc h hk.1,fun x hx=>hk.2 x (h.mem_iff.2 hx)⟩
theorem Qfc {a b:Kd} {r:List Kd} {n w:Nat} (h:okK (a::b::r) n):okK ((w,n)::r) (n+1):=by
 obtain⟨h1,h2⟩:=h;have h3:(r.map (·.2)).Nodup:=(List.nodup_cons.1 (List.nodup_cons.1 (by simpa only [List.map_cons]using h1)).2).2
 refine⟨?_,fun x hx=> ?_⟩
 ·rw [List.map_cons];refine List.nodup_cons.2 ⟨fun hm=> ?_,h3⟩;obtain⟨x,hx,e⟩:=List.mem_map.1 hm;have:=h2 x (List.mem_cons_of_mem _ (List.mem_cons_of_mem _ hx));simp only at e;omega
 ·rcases List.mem_cons.1 hx with rfl|hx
  ·exact Nat.lt_succ_self _
  ·have:=h2 x (List.mem_cons_of_mem _ (List.mem_cons_of_mem _ hx));omega
theorem Qpr (f:Nat):∀{l l':List Kd} {n:Nat},l.Perm l'→okK l n→∀m,hE f l n m=hE f l' n m:=by
 induction f with
 |zero=>intro l l' n _ _ m;rfl
 |succ f ih=>
  intro l l' n hp hk m;unfold hE;rw [hp.length_eq];by_cases hl:l'.length≤1
  ·rw [if_pos hl,if_pos hl]
  ·rw [if_neg hl,if_neg hl];have hlen:=hp.length_eq;have hne:l≠[]:=fun e=>by subst e;simp at hlen;omega
   have hne':l'≠[]:=fun e=>by subst e;simp at hl
   have p1:=Qet hne;have p1':=Qet hne';have hk':=Qbj hp hk;obtain⟨e1,q1⟩:=Qyu (a:=(pk l').1) (r:=(pk l').2) hk.1 (hp.trans p1') (Qgd hk'.1);have hr1:=Qbj p1 hk;have hr:okK (pk l).2 n:=⟨(List.nodup_cons.1 (by simpa only [List.map_cons]using hr1.1)).2,fun x hx=>hr1.2 x (List.mem_cons_of_mem _ hx)⟩
   have hr':=Qbj q1 hr;have hne2:(pk l').2≠[]:=fun e=>by
    have:=p1'.length_eq;rw [e]at this;simp at this;omega
   have p2':=Qet hne2;obtain⟨e2,q2⟩:=Qyu (a:=(pk (pk l').2).1) (r:=(pk (pk l').2).2) hr.1 (q1.trans p2') (Qgd hr'.1);rw [e1,e2];have hne3:(pk l).2≠[]:=fun e=>by
    rw [e]at q1;exact hne2 (List.Perm.nil_eq q1).symm
   have p2:=Qet hne3;have hk3:okK (((pk l').1.1+(pk (pk l').2).1.1,n)::(pk (pk l).2).2) (n+1):=Qfc (Qbj (p2.cons _) hr1);rw [ih (q2.cons _) hk3,ih (q2.cons _) hk3]
theorem Q0v {f:Nat} {l r:List Kd} {n:Nat} {a b:Kd} (hk:okK l n) (hp:l.Perm (a::b::r)) (ha:∀x∈b::r,klt a x) (hb:∀x∈r,klt b x) (m:Nat):
  hE (f+1) l n m=if m=a.2∨m=b.2 then hE f ((a.1+b.1,n)::r) (n+1) n+1 else hE f ((a.1+b.1,n)::r) (n+1) m:=by
 obtain⟨e1,q1⟩:=Qyu hk.1 hp ha;have hl:¬l.length≤1:=by rw [hp.length_eq];simp
 have hr1:=Qbj hp hk;have hne:l≠[]:=fun e=>by subst e;simp at hl
 have hr0:=Qbj (Qet hne) hk;have hr:okK (pk l).2 n:=⟨(List.nodup_cons.1 (by simpa only [List.map_cons]using hr0.1)).2,fun x hx=>hr0.2 x (List.mem_cons_of_mem _ hx)⟩
 obtain⟨e2,q2⟩:=Qyu hr.1 q1 hb;have hk3:okK ((a.1+b.1,n)::r) (n+1):=Qfc hr1;have hk4:=Qbj (q2.symm.cons (a.1+b.1,n)) hk3;show(if l.length≤1 then 0 else _)=_;rw [if_neg hl,e1,e2,Qpr f (q2.cons _) hk4,Qpr f (q2.cons _) hk4]
theorem Q2f (f:Nat) {l:List Kd} (h:l.length≤1) (n m:Nat):hE f l n m=0:=by
 cases f with
 |zero=>rfl
 |succ f=>exact if_pos h
def hD (l:List Kd) (n m:Nat):Nat:=hE l.length l n m
theorem Qhd {l:List Kd} (h:l.length≤1) (n m:Nat):hD l n m=0:=Q2f _ h n m
theorem Qh7 {l l':List Kd} {n:Nat} (h:l.Perm l') (hk:okK l n) (m:Nat):hD l n m=hD l' n m:=by
 unfold hD;rw [←h.length_eq];exact Qpr _ h hk m
theorem Qju {l r:List Kd} {n:Nat} {a b:Kd} (hk:okK l n) (hp:l.Perm (a::b::r)) (ha:∀x∈b::r,klt a x) (hb:∀x∈r,klt b x) (m:Nat):
  hD l n m=if m=a.2∨m=b.2 then hD ((a.1+b.1,n)::r) (n+1) n+1 else hD ((a.1+b.1,n)::r) (n+1) m:=by
 unfold hD;rw [show l.length=r.length+1+1 from hp.length_eq,Q0v hk hp ha hb];rfl
theorem Qow {l:List Kd} {n:Nat} (hk:okK l n) (h:2≤l.length):∃a b r,l.Perm (a::b::r)∧(∀x∈b::r,klt a x)∧∀x∈r,klt b x:=by
 have hne:l≠[]:=fun e=>by subst e;simp at h
 have p1:=Qet hne;have hr1:=Qbj p1 hk;have hr:((pk l).2.map (·.2)).Nodup:=(List.nodup_cons.1 (by simpa only [List.map_cons]using hr1.1)).2
 have hne2:(pk l).2≠[]:=fun e=>by
  have:=p1.length_eq;rw [e]at this;simp at this;omega
 have p2:=Qet hne2;refine⟨(pk l).1,(pk (pk l).2).1,(pk (pk l).2).2,p1.trans (p2.cons _),fun x hx=> ?_,Qgd hr⟩;exact Qgd hk.1 x (p2.mem_iff.2 hx)
theorem Qzx {k:Nat} {l r:List Kd} {a b:Kd} (h:l.length≤k+1) (hp:l.Perm (a::b::r)) (w n:Nat):((w,n)::r).length≤k:=by
 have:=hp.length_eq;simp only [List.length_cons]at this⊢;omega
theorem Qro {l r:List Kd} {n:Nat} {a b x:Kd} (hk:okK l n) (hp:l.Perm (a::b::r)) (hx:x∈r):¬(x.2=a.2∨x.2=b.2):=by
 have h:=(Qbj hp hk).1;simp only [List.map_cons]at h;obtain⟨h1,h2⟩:=List.nodup_cons.1 h;obtain⟨h3,_⟩:=List.nodup_cons.1 h2;rintro(e|e)
 ·exact h1 (List.mem_cons_of_mem _ (List.mem_map.2 ⟨x,hx,e⟩))
 ·exact h3 (List.mem_map.2 ⟨x,hx,e⟩)
theorem Q3i (k:Nat):∀(l:List Kd) (n m:Nat),l.length≤k+1→okK l n→hD l n m≤k:=by
 induction k with
 |zero=>intro l n m h _;rw [Qhd h];exact Ql
 |succ k ih=>
  intro l n m h hk;rcases Nat.lt_or_ge l.length 2 with hl|hl
  ·rw [Qhd (by omega)];omega
  ·obtain⟨a,b,r,hp,ha,hb⟩:=Qow hk hl;have hk2:okK ((a.1+b.1,n)::r) (n+1):=Qfc (Qbj hp hk);have h2:=Qzx h hp (a.1+b.1) n;rw [Qju hk hp ha hb];split
   ·have:=ih _ (n+1) n h2 hk2;omega
   ·have:=ih _ (n+1) m h2 hk2;omega
def krL (M:Nat) (D:Nat→Nat):List Kd→Nat
 |[]=>0
 |x::l=>2^(M-D x.2)+krL M D l
theorem Qrh (M:Nat) (D:Nat→Nat) {l l':List Kd} (h:l.Perm l'):krL M D l=krL M D l':=by
 induction h with
 |nil=>rfl
 |cons x _ ih=>show _+_=_+_;rw [ih]
 |swap x y l=>show _+(_+_)=_+(_+_);omega
 |trans _ _ h1 h2=>rw [h1,h2]
theorem Qyd (M:Nat) {D E:Nat→Nat} {l:List Kd} (h:∀x∈l,D x.2=E x.2):krL M D l=krL M E l:=by
 induction l with
 |nil=>rfl
 |cons x l ih=>
  show _+_=_+_
  rw [ih fun y hy=>h y (List.mem_cons_of_mem _ hy),h x (List.mem_cons_self ..)]
theorem Qrd (M k:Nat):∀(l:List Kd) (n:Nat),l.length≤k+1→l≠[]→okK l n→(∀x∈l,hD l n x.2≤M)→krL M (hD l n) l=2^M:=by
 induction k with
 |zero=>
  intro l n h hne _ _
  match l,hne,h with
  |[x],_,_=>show 2^(M-hD [x] n x.2)+0=_;rw [Qhd Ql];rfl
 |succ k ih=>
  intro l n h hne hk hM;rcases Nat.lt_or_ge l.length 2 with hl|hl
  ·match l,hne,hl with
   |[x],_,_=>show 2^(M-hD [x] n x.2)+0=_;rw [Qhd Ql];rfl
  ·obtain⟨a,b,r,hp,ha,hb⟩:=Qow hk hl;have hk2:okK ((a.1+b.1,n)::r) (n+1):=Qfc (Qbj hp hk);have h2:=Qzx h hp (a.1+b.1) n;have st:=Qju hk hp ha hb;have sa:=st a.2;have sb:=st b.2;rw [if_pos (.inl rfl)]at sa;rw [if_pos (.inr rfl)]at sb;have sr:∀x∈r,hD l n x.2=hD ((a.1+b.1,n)::r) (n+1) x.2:=fun x hx=>by rw [st,if_neg (Qro hk hp hx)]
   have ma:=hM a (hp.mem_iff.2 (List.mem_cons_self ..));have hM2:∀x∈(a.1+b.1,n)::r,hD ((a.1+b.1,n)::r) (n+1) x.2≤M:=fun x hx=>by
    rcases List.mem_cons.1 hx with rfl|hx
    ·show hD _ _ n≤M;omega
    ·rw [←sr x hx];exact hM x (hp.mem_iff.2 (List.mem_cons_of_mem _ (List.mem_cons_of_mem _ hx)))
   have ih2:=ih _ (n+1) h2 (by simp) hk2 hM2
   rw [Qrh M _ hp];show 2^(M-hD l n a.2)+(2^(M-hD l n b.2)+krL M (hD l n) r)=_;rw [sa,sb,Qyd M sr];have ih3:2^(M-hD ((a.1+b.1,n)::r) (n+1) n)+krL M (hD ((a.1+b.1,n)::r) (n+1)) r=2^M:=ih2;rw [←ih3];have e:2^(M-hD ((a.1+b.1,n)::r) (n+1) n)=2*2^(M-(hD ((a.1+b.1,n)::r) (n+1) n+1)):=by
    rw [show M-hD ((a.1+b.1,n)::r) (n+1) n=M-(hD ((a.1+b.1,n)::r) (n+1) n+1)+1 by omega,Nat.pow_succ,Nat.mul_comm]
   rw [e];omega
def low (l:List Kd) (y:Kd):Prop:=∀x∈l,∀z∈l,x.2≠z.2→y.1≤x.1+z.1
theorem Qrl {m p:Nat} (h:m /2=p) (hp:p≠0):Nat.log2 m=Nat.log2 p+1:=by
 have hm:m≠0:=by omega
 have h1:=(Nat.log2_lt hm (k:=Nat.log2 p+2)).2 (by
  have:=(Nat.log2_lt hp (k:=Nat.log2 p+1)).1 (Nat.lt_succ_self _);rw [Nat.pow_succ];omega)
 have h2:=(Nat.le_log2 hm (k:=Nat.log2 p+1)).2 (by
  have:=(Nat.le_log2 hp (k:=Nat.log2 p)).1 Ql;rw [Nat.pow_succ];omega)
 omega
theorem Qx6 (k:Nat):∀(q:List Kd) (n:Nat),q.length=k+1→okK q n→q.Pairwise klt→(∀x∈q,∀y∈q,y.1≤2*x.1)→
  ∀j (hj:j<q.length),hD q n (q[j]).2=Nat.log2 (2*q.length-1-j):=by
 induction k with
 |zero=>
  intro q n h _ _ _ j hj;rw [Qhd (by omega),h,show j=0 by omega]
  rfl
 |succ k ih=>
  intro q n h hk hs hb j hj
  match q,h with
  |a::b::r,h=>
   have ha:∀x∈b::r,klt a x:=(List.pairwise_cons.1 hs).1;have hs2:=(List.pairwise_cons.1 hs).2;have hbr:∀x∈r,klt b x:=(List.pairwise_cons.1 hs2).1;have hs3:=(List.pairwise_cons.1 hs2).2;have st:=Qju hk (List.Perm.refl _) ha hbr;have hk2:okK ((a.1+b.1,n)::r) (n+1):=Qfc hk;have pp:((a.1+b.1,n)::r).Perm (r++[(a.1+b.1,n)]):=(List.perm_append_singleton _ _).symm;have hk3:=Qbj pp hk2;have hl3:(r++[((a.1+b.1,n):Kd)]).length=k+1:=by simp at h⊢;omega
   have ab:a.1≤b.1:=by have:=ha b (List.mem_cons_self ..);unfold klt at this;omega
   have am:∀x∈r,a∈a::b::r∧x∈a::b::r:=fun x hx=>⟨List.mem_cons_self ..,List.mem_cons_of_mem _ (List.mem_cons_of_mem _ hx)⟩;have hs4:(r++[((a.1+b.1,n):Kd)]).Pairwise klt:=List.pairwise_append.2 ⟨hs3,List.pairwise_singleton _ _,fun x hx y hy=>by
    rw [List.mem_singleton.1 hy];have h1:=hb a (am x hx).1 x (am x hx).2;have h2:=hk.2 x (am x hx).2;show x.1<a.1+b.1∨x.1=a.1+b.1∧x.2<n;omega⟩
   have hb4:∀x∈r++[((a.1+b.1,n):Kd)],∀y∈r++[((a.1+b.1,n):Kd)],y.1≤2*x.1:=fun x hx y hy=>by
    rcases List.mem_append.1 hx with hx|hx<;>rcases List.mem_append.1 hy with hy|hy
    ·exact hb x (am x hx).2 y (am y hy).2
    ·rw [List.mem_singleton.1 hy];have:=hbr x hx;unfold klt at this;show a.1+b.1≤_;omega
    ·rw [List.mem_singleton.1 hx];have:=hb a (am y hy).1 y (am y hy).2;show _≤2*(a.1+b.1);omega
    ·rw [List.mem_singleton.1 hx,List.mem_singleton.1 hy];omega
   have IH:=ih _ (n+1) hl3 hk3 hs4 hb4;have hlr:r.length=k:=by simp at h;omega
   have hc:hD ((a.1+b.1,n)::r) (n+1) n=Nat.log2 (k+1):=by
    rw [Qh7 pp hk2];have h1:=IH k (by rw [hl3];exact Nat.lt_succ_self _)
    have e:(r++[((a.1+b.1,n):Kd)])[k]'(by rw [hl3];exact Nat.lt_succ_self _)=(a.1+b.1,n):=by
     rw [List.getElem_append_right (by omega)];simp
    rw [e,hl3]at h1;rw [h1]
    congr 1
    omega
   match j,hj with
   |0,_=>
    show hD _ n a.2=_
    rw [st,if_pos (.inl rfl),hc];exact(Qrl (by rw [h];omega) (by omega)).symm
   |1,_=>
    show hD _ n b.2=_
    rw [st,if_pos (.inr rfl),hc];exact(Qrl (by rw [h];omega) (by omega)).symm
   |i+2,hj=>
    have hi:i<r.length:=by simp at hj;omega
    have hx:r[i]∈r:=List.getElem_mem hi;show hD _ n (r[i]).2=_;rw [st,if_neg (Qro hk (List.Perm.refl _) hx),Qh7 pp hk2];have h1:=IH i (by rw [hl3];omega)
    have e:(r++[((a.1+b.1,n):Kd)])[i]'(by rw [hl3];omega)=r[i]:=List.getElem_append_left hi
    rw [e,hl3]at h1;rw [h1,h]
    congr 1
    omega
def nds (c:Nat→Nat):Nat→List Kd
 |0=>[]
 |m+1=>nds c m++if 0<c m then [(c m,m)]else []
theorem Qbw {c:Nat→Nat} {m:Nat} {x:Kd}:x∈nds c m↔x.2<m∧0<c x.2∧x.1=c x.2:=by
 induction m with
 |zero=>simp [nds]
 |succ m ih=>
  unfold nds;rw [List.mem_append,ih];by_cases h:0<c m
  ·rw [if_pos h,List.mem_singleton]
   constructor
   ·rintro(h1|rfl)
    ·exact⟨by omega,h1.2⟩
    ·exact⟨Nat.lt_succ_self _,h,rfl⟩
   ·rintro⟨h1,h2,h3⟩;by_cases e:x.2=m
    ·right
     obtain⟨a,b⟩:=x;simp only at e h3;subst e;subst h3;rfl
    ·exact .inl ⟨by omega,h2,h3⟩
  ·rw [if_neg h]
   constructor
   ·rintro(h1|h1)
    ·exact⟨by omega,h1.2⟩
    ·cases h1
   ·rintro⟨h1,h2,h3⟩;by_cases e:x.2=m
    ·rw [e]at h2;exact absurd h2 h
    ·exact .inl ⟨by omega,h2,h3⟩
theorem Qhi (c:Nat→Nat) (m:Nat):okK (nds c m) m:=by
 induction m with
 |zero=>exact⟨List.nodup_nil,fun x hx=>by cases hx⟩
 |succ m ih=>
  refine⟨?_,fun x hx=>(Qbw.1 hx).1⟩;unfold nds;by_cases h:0<c m
  ·rw [if_pos h,List.map_append];refine List.nodup_append.2 ⟨ih.1,by simp,fun a ha b hb=> ?_⟩
   obtain⟨x,hx,rfl⟩:=List.mem_map.1 ha;have h1:=ih.2 x hx;have h2:b=m:=by simpa using hb
   omega
  ·rw [if_neg h,List.append_nil];exact ih.1
theorem Qfw (c:Nat→Nat) (m:Nat):(nds c m).length≤m:=by
 induction m with
 |zero=>exact Ql
 |succ m ih=>
  unfold nds;rw [List.length_append];split<;>simp<;>omega
def dep (c:Nat→Nat) (n i:Nat):Nat:=hD (nds c n) n i
def depM (c:Nat→Nat) (n:Nat):Nat→Nat
 |0=>0
 |m+1=>max (depM c n m) (if 0<c m then dep c n m else 0)
theorem Qh3 {c:Nat→Nat} {n m k:Nat}:depM c n m≤k↔∀i,i<m→0<c i→dep c n i≤k:=by
 induction m with
 |zero=>exact⟨fun _ i hi=>by omega,fun _=>Nat.zero_le _⟩
 |succ m ih=>
  unfold depM;rw [Nat.max_le,ih]
  constructor
  ·rintro⟨h1,h2⟩ i hi hc;rcases(show i<m∨i=m by omega)with h|rfl
   ·exact h1 i h hc
   ·rwa [if_pos hc]at h2
  ·intro h;refine⟨fun i hi hc=>h i (by omega) hc,?_⟩
   split
   ·exact h m (by omega) (by assumption)
   ·exact Nat.zero_le _
def lenO (c:Nat→Nat) (n i:Nat):Nat:=if c i=0 then 0 else if(nds c n).length=1 then 1 else dep c n i
def Qdu (c:Nat→Nat) (i:Nat):Nat:=c i /2+c i%2
def lenV:Nat→(Nat→Nat)→Nat→Nat→Option (Nat→Nat)
 |0,_,_,_=>none
 |f+1,c,n,most=>if depM c n n≤most then some (lenO c n)else lenV f (Qdu c) n most
theorem Qt8 {c:Nat→Nat} {n i:Nat} (h:2≤(nds c n).length) (hi:i<n) (hc:0<c i) (k:Nat) (hm:depM c n n≤k):1≤dep c n i:=by
 rcases Nat.eq_zero_or_pos (dep c n i)with h0|h0
 ·exfalso
  have hk:=Qhi c n;have hne:nds c n≠[]:=fun e=>by rw [e]at h;simp at h
  have hM:∀x∈nds c n,hD (nds c n) n x.2≤k:=fun x hx=>Qh3.1 hm x.2 (Qbw.1 hx).1 (Qbw.1 hx).2.1;have hs:=Qrd k n (nds c n) n (by have:=Qfw c n;omega) hne hk hM
  have hx:(c i,i)∈nds c n:=Qbw.2 ⟨hi,hc,rfl⟩;obtain⟨s,t,e⟩:=List.append_of_mem hx;have hp:(nds c n).Perm ((c i,i)::(s++t)):=by rw [e];exact List.perm_middle
  rw [Qrh k _ hp]at hs;have h1:2^(k-hD (nds c n) n i)+krL k (hD (nds c n) n) (s++t)=2^k:=hs;rw [show hD (nds c n) n i=0 from h0,Nat.sub_zero]at h1;have hl:=hp.length_eq
  match hst:s++t with
  |[]=>rw [hst]at hl;simp at hl;omega
  |y::l=>
   rw [hst]at h1;have h2:2^k+(2^(k-hD (nds c n) n y.2)+krL k (hD (nds c n) n) l)=2^k:=h1;have h3:0<2^(k-hD (nds c n) n y.2):=Nat.pow_pos (by decide)
   omega
 ·exact h0
theorem Q2o (D c:Nat→Nat) (M m:Nat) (l:Nat→Nat) (hM:M=15) (h:∀i,i<m→l i=if c i=0 then 0 else D i) (h0:∀i,i<m→0<c i→D i≠0):kr l m=krL M D (nds c m):=by
 subst hM
 induction m with
 |zero=>rfl
 |succ m ih=>
  have ih2:=ih (fun i hi=>h i (by omega)) (fun i hi=>h0 i (by omega))
  have e:∀a b:List Kd,krL 15 D (a++b)=krL 15 D a+krL 15 D b:=fun a b=>by
   induction a with
   |nil=>exact(Nat.zero_add _).symm
   |cons x a ih=>show _+krL 15 D (a++b)=_+_+_;rw [ih,Nat.add_assoc]
  show kr l m+(if l m=0 then 0 else 2^(15-l m))=krL 15 D (nds c m++_)
  rw [e,ih2,h m (Nat.lt_succ_self _)]
  congr 1
  by_cases hc:c m=0
  ·rw [if_pos hc,if_pos rfl,if_neg (by omega)];rfl
  ·have:=h0 m (Nat.lt_succ_self _) (by omega)
   rw [if_neg hc,if_neg this,if_pos (by omega)];rfl
theorem Qst {c:Nat→Nat} {n most:Nat} (h:2≤(nds c n).length) (hm:depM c n n≤most) (h15:most≤15):kr (lenO c n) n=2^15:=by
 have hne:nds c n≠[]:=fun e=>by rw [e]at h;simp at h
 rw [Q2o (dep c n) c 15 n (lenO c n) rfl (fun i _=>by
   unfold lenO;by_cases hc:c i=0
   ·rw [if_pos hc,if_pos hc]
   ·rw [if_neg hc,if_neg hc,if_neg (by omega)])
  (fun i hi hc=>by have:=Qt8 h hi hc most hm;omega)]
 exact Qrd 15 n (nds c n) n (by have:=Qfw c n;omega) hne (Qhi c n) fun x hx=>by
  have:=Qh3.1 hm x.2 (Qbw.1 hx).1 (Qbw.1 hx).2.1;exact Nat.le_trans this h15
theorem Qye {c:Nat→Nat} {n i most:Nat} (hi:i<n) (hm:depM c n n≤most):0<lenO c n i↔0<c i:=by
 unfold lenO;by_cases hc:c i=0
 ·rw [if_pos hc];omega
 ·rw [if_neg hc];have hx:(c i,i)∈nds c n:=Qbw.2 ⟨hi,by show 0<c i;omega,rfl⟩
  by_cases h1:(nds c n).length=1
  ·rw [if_pos h1];omega
  ·rw [if_neg h1];have h2:2≤(nds c n).length:=by
    have:=List.length_pos_of_mem hx;omega
   have:=Qt8 h2 hi (by omega) most hm
   omega
theorem Q02 {c:Nat→Nat} {n i most:Nat} (hi:i<n) (hm:depM c n n≤most) (h1:1≤most):lenO c n i≤most:=by
 unfold lenO;by_cases hc:c i=0
 ·rw [if_pos hc];omega
 ·rw [if_neg hc];split
  ·exact h1
  ·exact Qh3.1 hm i hi (by omega)
theorem Qsu (c:Nat→Nat) (m:Nat) (h:∀i j,i<m→j<m→0<c i→0<c j→c i=c j):(nds c m).Pairwise klt:=by
 induction m with
 |zero=>exact List.Pairwise.nil
 |succ m ih=>
  unfold nds;by_cases hc:0<c m
  ·rw [if_pos hc];refine List.pairwise_append.2 ⟨ih fun i j hi hj=>h i j (by omega) (by omega),List.pairwise_singleton _ _,fun x hx y hy=> ?_⟩
   rw [List.mem_singleton.1 hy];obtain⟨h1,h2,h3⟩:=Qbw.1 hx;exact .inr ⟨by rw [h3];exact h _ _ (by omega) (by omega) h2 hc,h1⟩
  ·rw [if_neg hc,List.append_nil];exact ih fun i j hi hj=>h i j (by omega) (by omega)
theorem Qt7 {c:Nat→Nat} {n i:Nat} (h:∀i j,i<n→j<n→0<c i→0<c j→c i=c j) (hi:i<n) (hc:0<c i):
  ∃j,j<(nds c n).length∧dep c n i=Nat.log2 (2*(nds c n).length-1-j):=by
 have hx:(c i,i)∈nds c n:=Qbw.2 ⟨hi,hc,rfl⟩;obtain⟨j,hj,e⟩:=List.mem_iff_getElem.1 hx;have hl:=List.length_pos_of_mem hx;refine⟨j,hj,?_⟩;have hq:=Qx6 ((nds c n).length-1) (nds c n) n (by omega) (Qhi c n) (Qsu c n h) (fun x hx y hy=>by
  obtain⟨h1,h2,h3⟩:=Qbw.1 hx;obtain⟨h4,h5,h6⟩:=Qbw.1 hy;rw [h3,h6,h _ _ h1 h4 h2 h5];omega) j hj
 rw [e]at hq;exact hq
theorem Qxp {c:Nat→Nat} {n:Nat} (h:∀i,i<n→c i≤1) (k:Nat) (hn:2*n<2^(k+1)):depM c n n≤k:=
 Qh3.2 fun i hi hc=>by
  obtain⟨j,hj,e⟩:=Qt7 (c:=c) (n:=n) (fun i j hi hj h1 h2=>by have:=h i hi;have:=h j hj;omega) hi hc
  rw [e];have hl:=Qfw c n;have:=(Nat.log2_lt (n:=2*(nds c n).length-1-j) (by omega) (k:=k+1)).2 (by omega)
  omega
theorem Qx7 {c:Nat→Nat} {i k:Nat} (h:c i≤2^(k+1)):Qdu c i≤2^k:=by
 unfold Qdu;rw [Nat.pow_succ]at h;omega
theorem Qu1 (f:Nat):∀(c:Nat→Nat) (n most k:Nat),k<f→(∀i,i<n→c i≤2^k)→2*n<2^(most+1)→∃l,lenV f c n most=some l:=by
 induction f with
 |zero=>intro c n most k hk;omega
 |succ f ih=>
  intro c n most k hk h hn;unfold lenV;by_cases hm:depM c n n≤most
  ·rw [if_pos hm];exact⟨_,rfl⟩
  ·rw [if_neg hm]
   match k,hk,h with
   |0,_,h=>exact absurd (Qxp (fun i hi=>h i hi) most hn) hm
   |k+1,hk,h=>exact ih (Qdu c) n most k (by omega) (fun i hi=>Qx7 (h i hi)) hn
theorem Q03 (f:Nat):∀{c:Nat→Nat} {n most:Nat} {l:Nat→Nat},lenV f c n most=some l→∃e,l=lenO e n∧depM e n n≤most∧∀i,0<e i↔0<c i:=by
 induction f with
 |zero=>intro c n most l h;cases h
 |succ f ih=>
  intro c n most l h;unfold lenV at h;by_cases hm:depM c n n≤most
  ·rw [if_pos hm]at h;cases h;exact⟨c,rfl,hm,fun _=>Iff.rfl⟩
  ·rw [if_neg hm]at h;obtain⟨e,h1,h2,h3⟩:=ih h;refine⟨e,h1,h2,fun i=>(h3 i).trans ?_⟩;unfold Qdu;omega
def tkK:List Kd→List Kd→Kd×List Kd×List Kd
 |[],[]=>((0,0),[],[])
 |[],b::J=>(b,[],J)
 |a::S,[]=>(a,S,[])
 |a::S,b::J=>if b.1<a.1 then(b,a::S,J)else (a,S,b::J)
def updN (g:Nat→Nat) (p k:Nat) (i:Nat):Nat:=if i=p then k else g i
def Qdv:Nat→List Kd→List Kd→(Nat→Nat)→Nat→(Nat→Nat)×Nat
 |0,_,_,ab,k=>(ab,k)
 |f+1,S,J,ab,k=>if S.length+J.length≤1 then(ab,k)else
  Qdv f (tkK (tkK S J).2.1 (tkK S J).2.2).2.1 ((tkK (tkK S J).2.1 (tkK S J).2.2).2.2++[((tkK S J).1.1+(tkK (tkK S J).2.1 (tkK S J).2.2).1.1,k)])
   (updN (updN ab (tkK S J).1.2 k) (tkK (tkK S J).2.1 (tkK S J).2.2).1.2 k) (k+1)
def sumK:List Kd→Nat
 |[]=>0
 |x::l=>x.1+sumK l
theorem Qkf {l l':List Kd} (h:l.Perm l'):sumK l=sumK l':=by
 induction h with
 |nil=>rfl
 |cons x _ ih=>show _+_=_+_;rw [ih]
 |swap x y l=>show _+(_+_)=_+(_+_);omega
 |trans _ _ h1 h2=>rw [h1,h2]
structure TQ (S J:List Kd) (k:Nat):Prop where
 ok:okK (S++J) k
 s:S.Pairwise klt
 j:J.Pairwise klt
 sj:∀x∈S,∀y∈J,x.2<y.2
 m:∃m,(∀x∈S++J,m≤x.1)∧∀x∈J,x.1≤2*m
theorem Q1u {S J:List Kd} (hs:S.Pairwise klt) (hj:J.Pairwise klt) (hsj:∀x∈S,∀y∈J,x.2<y.2) (h:S++J≠[]):
  (S++J).Perm ((tkK S J).1::((tkK S J).2.1++(tkK S J).2.2))∧(∀x∈(tkK S J).2.1++(tkK S J).2.2,klt (tkK S J).1 x)∧(∀x∈(tkK S J).2.1,x∈S)∧(∀x∈(tkK S J).2.2,x∈J)∧(tkK S J).2.1.Pairwise klt∧(tkK S J).2.2.Pairwise klt:=by
 match S,J with
 |[],[]=>exact absurd rfl h
 |[],b::J=>
  obtain⟨h1,h2⟩:=List.pairwise_cons.1 hj;exact⟨List.Perm.refl _,h1,(fun x hx=>by cases hx),(fun x hx=>List.mem_cons_of_mem _ hx),List.Pairwise.nil,h2⟩
 |a::S,[]=>
  obtain⟨h1,h2⟩:=List.pairwise_cons.1 hs;refine⟨List.Perm.refl _,fun x hx=>h1 x ?_,(fun x hx=>List.mem_cons_of_mem _ hx),(fun x hx=>by cases hx),h2,List.Pairwise.nil⟩
  simpa [tkK]using hx
 |a::S,b::J=>
  obtain⟨h1,h2⟩:=List.pairwise_cons.1 hs;obtain⟨h3,h4⟩:=List.pairwise_cons.1 hj;by_cases hc:b.1<a.1
  ·have e:tkK (a::S) (b::J)=(b,a::S,J):=if_pos hc;rw [e];refine⟨List.perm_middle,fun x hx=> ?_,fun x hx=>hx,(fun x hx=>List.mem_cons_of_mem _ hx),hs,h4⟩;rcases List.mem_append.1 hx with hx|hx
   ·rcases List.mem_cons.1 hx with rfl|hx
    ·exact .inl hc
    ·have:=h1 x hx;show klt b x;unfold klt at*;omega
   ·exact h3 x hx
  ·have e:tkK (a::S) (b::J)=(a,S,b::J):=if_neg hc;rw [e];have hab:klt a b:=by
    have:=hsj a (List.mem_cons_self ..) b (List.mem_cons_self ..);unfold klt;omega
   refine⟨List.Perm.refl _,fun x hx=> ?_,(fun x hx=>List.mem_cons_of_mem _ hx),fun x hx=>hx,h2,hj⟩;rcases List.mem_append.1 hx with hx|hx
   ·exact h1 x hx
   ·rcases List.mem_cons.1 hx with rfl|hx
    ·exact hab
    ·exact Qhf hab (h3 x hx)
theorem Qrk {l r:List Kd} {a:Kd} (h:l.Perm (a::r)):l.length=r.length+1:=by
 have:=h.length_eq
 simpa using this
theorem TQ.step {S J:List Kd} {k:Nat} (h:TQ S J k) (h2:2≤S.length+J.length) {a b:Kd} {S1 J1 S2 J2:List Kd} (e1:tkK S J=(a,S1,J1)) (e2:tkK S1 J1=(b,S2,J2)):
  (S++J).Perm (a::b::(S2++J2))∧(∀x∈b::(S2++J2),klt a x)∧(∀x∈S2++J2,klt b x)∧S.length+J.length=S2.length+J2.length+2∧TQ S2 (J2++[(a.1+b.1,k)]) (k+1):=by
 obtain⟨m,hm1,hm2⟩:=h.m;have hne:S++J≠[]:=fun e=>by
  have:=congrArg List.length e;rw [List.length_append]at this;simp only [List.length_nil]at this;omega
 obtain⟨p1,l1,s1,j1,ps1,pj1⟩:=Q1u h.s h.j h.sj hne;rw [e1]at p1 l1 s1 j1 ps1 pj1;have hl1:=Qrk p1;simp only [List.length_append]at hl1;have hne2:S1++J1≠[]:=fun e=>by
  have:=congrArg List.length e;rw [List.length_append]at this;simp only [List.length_nil]at this;omega
 obtain⟨p2,l2,s2,j2,ps2,pj2⟩:=Q1u ps1 pj1 (fun x hx y hy=>h.sj x (s1 x hx) y (j1 y hy)) hne2;rw [e2]at p2 l2 s2 j2 ps2 pj2;have hl2:=Qrk p2;simp only [List.length_append]at hl2;have pp:(S++J).Perm (a::b::(S2++J2)):=p1.trans (p2.cons a);have la:∀x∈b::(S2++J2),klt a x:=fun x hx=>l1 x (p2.mem_iff.2 hx);have hab:=la b (List.mem_cons_self ..);have ha:=hm1 a (pp.mem_iff.2 (List.mem_cons_self ..));have hb:=hm1 b (pp.mem_iff.2 (List.mem_cons_of_mem _ (List.mem_cons_self ..)));have hr:∀x∈S2++J2,x∈S++J:=fun x hx=>pp.mem_iff.2 (List.mem_cons_of_mem _ (List.mem_cons_of_mem _ hx));have hlt:=h.ok.2;refine⟨pp,la,l2,by omega,⟨?_,ps2,?_,?_,b.1,?_,?_⟩⟩
 ·refine Qbj ?_ (Qfc (w:=a.1+b.1) (Qbj pp h.ok));rw [←List.append_assoc];exact(List.perm_append_singleton _ _).symm
 ·refine List.pairwise_append.2 ⟨pj2,List.pairwise_singleton _ _,fun x hx y hy=> ?_⟩;rw [List.mem_singleton.1 hy];have h1:=hm2 x (j1 x (j2 x hx));have h3:=hlt x (hr x (List.mem_append.2 (.inr hx)));show x.1<a.1+b.1∨x.1=a.1+b.1∧x.2<k;omega
 ·intro x hx y hy;rcases List.mem_append.1 hy with hy|hy
  ·exact h.sj x (s1 x (s2 x hx)) y (j1 y (j2 y hy))
  ·rw [List.mem_singleton.1 hy];exact hlt x (hr x (List.mem_append.2 (.inl hx)))
 ·intro x hx;rw [←List.append_assoc]at hx;rcases List.mem_append.1 hx with hx|hx
  ·have:klt b x:=l2 x hx;unfold klt at this;omega
  ·rw [List.mem_singleton.1 hx];show b.1≤a.1+b.1;omega
 ·intro x hx;rcases List.mem_append.1 hx with hx|hx
  ·have:=hm2 x (j1 x (j2 x hx));omega
  ·rw [List.mem_singleton.1 hx];unfold klt at hab;show a.1+b.1≤_;omega
theorem Qgb {f:Nat} {S J:List Kd} {ab:Nat→Nat} {k:Nat} {a b:Kd} {S1 J1 S2 J2:List Kd} (h2:2≤S.length+J.length) (e1:tkK S J=(a,S1,J1)) (e2:tkK S1 J1=(b,S2,J2)):
  Qdv (f+1) S J ab k=Qdv f S2 (J2++[(a.1+b.1,k)]) (updN (updN ab a.2 k) b.2 k) (k+1):=by
 rw [Qdv,if_neg (by omega),e1]
 simp only;rw [e2]
theorem Qfv {f:Nat} {S J:List Kd} {ab:Nat→Nat} {k:Nat} (h2:S.length+J.length≤1):Qdv f S J ab k=(ab,k):=by
 cases f with
 |zero=>rfl
 |succ f=>rw [Qdv,if_pos h2]
theorem Qlm (f:Nat):∀(S J:List Kd) (ab:Nat→Nat) (k:Nat),TQ S J k→∀i,i<k→(∀x∈S++J,x.2≠i)→(Qdv f S J ab k).1 i=ab i:=by
 induction f with
 |zero=>intro S J ab k _ i _ _;rfl
 |succ f ih=>
  intro S J ab k hq i hi hn;rcases Nat.lt_or_ge (S.length+J.length) 2 with hl|hl
  ·rw [Qfv (by omega)]
  ·obtain⟨a,S1,J1,e1⟩:∃a S1 J1,tkK S J=(a,S1,J1):=⟨_,_,_,rfl⟩;obtain⟨b,S2,J2,e2⟩:∃b S2 J2,tkK S1 J1=(b,S2,J2):=⟨_,_,_,rfl⟩;obtain⟨pp,_,_,_,hq2⟩:=hq.step hl e1 e2;have ha:=hn a (pp.mem_iff.2 (List.mem_cons_self ..));have hb:=hn b (pp.mem_iff.2 (List.mem_cons_of_mem _ (List.mem_cons_self ..)));rw [Qgb hl e1 e2,ih _ _ _ _ hq2 i (by omega)]
   ·unfold updN;rw [if_neg (fun e=>hb e.symm),if_neg (fun e=>ha e.symm)]
   ·intro x hx;rw [←List.append_assoc]at hx;rcases List.mem_append.1 hx with hx|hx
    ·exact hn x (pp.mem_iff.2 (List.mem_cons_of_mem _ (List.mem_cons_of_mem _ hx)))
    ·rw [List.mem_singleton.1 hx];show k≠i;omega
theorem Qrf (f:Nat):∀(S J:List Kd) (ab:Nat→Nat) (k:Nat),TQ S J k→(∀i,0<ab i→i<ab i∧ab i<k)→k≤(Qdv f S J ab k).2∧∀i,0<(Qdv f S J ab k).1 i→i<(Qdv f S J ab k).1 i∧(Qdv f S J ab k).1 i<(Qdv f S J ab k).2:=by
 induction f with
 |zero=>intro S J ab k _ h;exact⟨Ql,h⟩
 |succ f ih=>
  intro S J ab k hq h;rcases Nat.lt_or_ge (S.length+J.length) 2 with hl|hl
  ·rw [Qfv (by omega)];exact⟨Ql,h⟩
  ·obtain⟨a,S1,J1,e1⟩:∃a S1 J1,tkK S J=(a,S1,J1):=⟨_,_,_,rfl⟩;obtain⟨b,S2,J2,e2⟩:∃b S2 J2,tkK S1 J1=(b,S2,J2):=⟨_,_,_,rfl⟩;obtain⟨pp,_,_,_,hq2⟩:=hq.step hl e1 e2;have ha:=hq.ok.2 a (pp.mem_iff.2 (List.mem_cons_self ..));have hb:=hq.ok.2 b (pp.mem_iff.2 (List.mem_cons_of_mem _ (List.mem_cons_self ..)));rw [Qgb hl e1 e2];have h3:=ih _ _ (updN (updN ab a.2 k) b.2 k) _ hq2 (fun i hi=>by
    unfold updN at hi⊢;by_cases h4:i=b.2
    ·rw [if_pos h4];omega
    ·rw [if_neg h4]at hi⊢;by_cases h5:i=a.2
     ·rw [if_pos h5];omega
     ·rw [if_neg h5]at hi⊢;have:=h i hi;omega)
   exact⟨by omega,h3.2⟩
theorem Qya (f:Nat):∀(S J:List Kd) (ab:Nat→Nat) (k:Nat),S.length+J.length≤f→TQ S J k→(∀x∈S++J,ab x.2=0)→(∀i,k≤i→ab i=0)→
  ∀D:Nat→Nat,(∀i,D i=if 0<(Qdv f S J ab k).1 i then D ((Qdv f S J ab k).1 i)+1 else 0)→∀x∈S++J,D x.2=hD (S++J) k x.2:=by
 induction f with
 |zero=>
  intro S J ab k hf _ _ _ D _ x hx;have:S++J=[]:=List.eq_nil_of_length_eq_zero (by rw [List.length_append];omega)
  rw [this]at hx;cases hx
 |succ f ih=>
  intro S J ab k hf hq h0 hk D hD x hx;rcases Nat.lt_or_ge (S.length+J.length) 2 with hl|hl
  ·rw [Qfv (by omega)]at hD
   rw [Qhd (by rw [List.length_append];omega),hD,if_neg (by show¬0<ab x.2;rw [h0 x hx];decide)]
  ·obtain⟨a,S1,J1,e1⟩:∃a S1 J1,tkK S J=(a,S1,J1):=⟨_,_,_,rfl⟩;obtain⟨b,S2,J2,e2⟩:∃b S2 J2,tkK S1 J1=(b,S2,J2):=⟨_,_,_,rfl⟩;obtain⟨pp,la,lb,hlen,hq2⟩:=hq.step hl e1 e2;have hma:a∈S++J:=pp.mem_iff.2 (List.mem_cons_self ..);have hmb:b∈S++J:=pp.mem_iff.2 (List.mem_cons_of_mem _ (List.mem_cons_self ..));have ha:=hq.ok.2 a hma;have hb:=hq.ok.2 b hmb;rw [Qgb hl e1 e2]at hD;have hne:∀y∈S2++J2,¬(y.2=a.2∨y.2=b.2):=fun y hy=>Qro hq.ok pp hy;have hmr:∀y∈S2++J2,y∈S2++(J2++[(a.1+b.1,k)]):=fun y hy=>by rw [←List.append_assoc];exact List.mem_append.2 (.inl hy)
   have hml:∀y∈S2++(J2++[(a.1+b.1,k)]),y∈S2++J2∨y=(a.1+b.1,k):=fun y hy=>by
    rw [←List.append_assoc]at hy;rcases List.mem_append.1 hy with hy|hy
    ·exact .inl hy
    ·exact .inr (List.mem_singleton.1 hy)
   have hrr:∀y∈S2++J2,y∈S++J:=fun y hy=>pp.mem_iff.2 (List.mem_cons_of_mem _ (List.mem_cons_of_mem _ hy));have IH:=ih S2 (J2++[(a.1+b.1,k)]) (updN (updN ab a.2 k) b.2 k) (k+1) (by rw [List.length_append];simp;omega) hq2 (fun y hy=>by
     unfold updN;rcases hml y hy with hy|rfl
     ·have h3:=hne y hy;rw [if_neg (fun e=>h3 (.inr e)),if_neg (fun e=>h3 (.inl e))];exact h0 y (hrr y hy)
     ·show(if k=b.2 then k else if k=a.2 then k else ab k)=0
      rw [if_neg (by omega),if_neg (by omega)];exact hk k Ql)
    (fun i hi=>by
     unfold updN;rw [if_neg (by omega),if_neg (by omega)];exact hk i (by omega)) D hD
   have keep:=Qlm f S2 (J2++[(a.1+b.1,k)]) (updN (updN ab a.2 k) b.2 k) (k+1) hq2;have hab:a.2≠b.2:=fun e=>by
    have h3:=(Qbj pp hq.ok).1;simp only [List.map_cons]at h3;exact(List.nodup_cons.1 h3).1 (by rw [e];exact List.mem_cons_self ..)
   have up:∀y:Kd,(y=a∨y=b)→(Qdv f S2 (J2++[(a.1+b.1,k)]) (updN (updN ab a.2 k) b.2 k) (k+1)).1 y.2=k:=fun y hy=>by
    rw [keep y.2 (by rcases hy with rfl|rfl<;>omega) (fun z hz e=>by
     rcases hml z hz with hz|rfl
     ·have h3:=hne z hz;rcases hy with rfl|rfl
      ·exact h3 (.inl e)
      ·exact h3 (.inr e)
     ·have e:k=y.2:=e;rcases hy with rfl|rfl<;>omega)]
    unfold updN;rcases hy with rfl|rfl
    ·rw [if_neg hab,if_pos rfl]
    ·rw [if_pos rfl]
   have pl:(S2++(J2++[(a.1+b.1,k)])).Perm ((a.1+b.1,k)::(S2++J2)):=by
    rw [←List.append_assoc];exact List.perm_append_singleton _ _
   have hk2:=hq2.ok;rw [Qju hq.ok pp la lb,←Qh7 pl hk2,←Qh7 pl hk2];have hn:=IH (a.1+b.1,k) (by rw [←List.append_assoc];exact List.mem_append.2 (.inr (List.mem_singleton.2 rfl)))
   rcases List.mem_cons.1 (pp.mem_iff.1 hx)with h3|h3
   ·rw [if_pos (.inl (by rw [h3])),hD,up x (.inl h3),if_pos (by omega),←hn]
   ·rcases List.mem_cons.1 h3 with h4|h4
    ·rw [if_pos (.inr (by rw [h4])),hD,up x (.inr h4),if_pos (by omega),←hn]
    ·rw [if_neg (hne x h4)];exact IH x (hmr x h4)
def dP (A:Nat→Nat):Nat→Nat→Nat
 |0,_=>0
 |f+1,i=>if 0<A i then dP A f (A i)+1 else 0
theorem Q3h (A:Nat→Nat) (f:Nat):∀i,dP A f i≤f:=by
 induction f with
 |zero=>intro i;exact Ql
 |succ f ih=>
  intro i;unfold dP;split
  ·have:=ih (A i);omega
  ·omega
theorem Q0j {A:Nat→Nat} {N:Nat} (h:∀i,0<A i→i<A i∧A i<N) (f:Nat):∀i,N-i≤f→dP A f i=dP A N i:=by
 have key:∀f i g,N-i≤f→N-i≤g→dP A f i=dP A g i:=fun f=>by
  induction f with
  |zero=>
   intro i g h1 h2;cases g with
   |zero=>rfl
   |succ g=>
    unfold dP;rw [if_neg];intro h3;have:=h i h3;omega
  |succ f ih=>
   intro i g h1 h2;cases g with
   |zero=>
    show _=0
    unfold dP;rw [if_neg];intro h3;have:=h i h3;omega
   |succ g=>
    unfold dP;by_cases h3:0<A i
    ·have:=h i h3;rw [if_pos h3,if_pos h3,ih (A i) g (by omega) (by omega)]
    ·rw [if_neg h3,if_neg h3]
 intro i hi;exact key f i N hi (by omega)
theorem Q0i {A:Nat→Nat} {N:Nat} (h:∀i,0<A i→i<A i∧A i<N) (i:Nat):dP A N i=if 0<A i then dP A N (A i)+1 else 0:=by
 rw [←Q0j h (N+1) i (by omega)]
 rfl
theorem Qyc {c:Nat→Nat} {n:Nat} {S:List Kd} (hp:S.Perm (nds c n)) (hs:S.Pairwise klt) (f:Nat) (hf:S.length≤f) (i:Nat) (hi:i<n):
  dP (Qdv f S [] (fun _=>0) n).1 (Qdv f S [] (fun _=>0) n).2 i=if c i=0 then 0 else dep c n i:=by
 have hok:=Qbj hp.symm (Qhi c n);have hq:TQ S [] n:=⟨by rw [List.append_nil];exact hok,hs,List.Pairwise.nil,(fun x _ y hy=>by cases hy),0,(fun x _=>Nat.zero_le _),(fun x hx=>by cases hx)⟩
 have hup:=(Qrf f S [] (fun _=>0) n hq (fun i h=>absurd h (Nat.lt_irrefl 0))).2;by_cases h0:c i=0
 ·rw [if_pos h0,Q0i hup,Qlm f S [] (fun _=>0) n hq i hi,if_neg (Nat.lt_irrefl 0)];intro x hx;rw [List.append_nil]at hx;have:=Qbw.1 (hp.mem_iff.1 hx);rintro rfl;omega
 ·rw [if_neg h0];have hx:(c i,i)∈S:=hp.mem_iff.2 (Qbw.2 ⟨hi,by show 0<c i;omega,rfl⟩)
  have h1:=Qya f S [] (fun _=>0) n (by simpa using hf) hq (fun _ _=>rfl) (fun _ _=>rfl) (dP (Qdv f S [] (fun _=>0) n).1 (Qdv f S [] (fun _=>0) n).2) (Q0i hup) (c i,i) (by rw [List.append_nil];exact hx)
  rw [List.append_nil]at h1;exact h1.trans (Qh7 hp hok i)
theorem Qz2 (S J:List Kd):(tkK S J).2.1.length+(tkK S J).2.2.length=S.length+J.length-1:=by
 match S,J with
 |[],[]=>rfl
 |[],b::J=>simp [tkK]
 |a::S,[]=>simp [tkK]
 |a::S,b::J=>
  by_cases h:b.1<a.1
  ·rw [show tkK (a::S) (b::J)=(b,a::S,J)from if_pos h];simp only [List.length_cons];omega
  ·rw [show tkK (a::S) (b::J)=(a,S,b::J)from if_neg h];simp only [List.length_cons];omega
theorem Qsr (f:Nat):∀(S J:List Kd) (ab:Nat→Nat) (k:Nat),(Qdv f S J ab k).2≤k+S.length+J.length:=by
 induction f with
 |zero=>intro S J ab k;show k≤k+S.length+J.length;omega
 |succ f ih=>
  intro S J ab k;rcases Nat.lt_or_ge (S.length+J.length) 2 with hl|hl
  ·rw [Qfv (by omega)];show k≤k+S.length+J.length;omega
  ·rw [Qdv,if_neg (by omega)]
   refine Nat.le_trans (ih _ _ _ _) ?_;have h1:=Qz2 S J;have h2:=Qz2 (tkK S J).2.1 (tkK S J).2.2;rw [List.length_append,List.length_singleton];omega
end Go.Proofs.YtbmcjdoiohcaaaaGreat
