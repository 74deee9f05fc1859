/- OB -/
import Derived.Test.YtbmcjdoiohcaaaaGreatNP
import Derived.Test.YtbmcjdoiohcaaaaGreatMW
import Derived.Test.YtbmcjdoiohcaaaaGreatOA
import Derived.Lib.Bytealg
set_option maxRecDepth 100000
namespace Go.Proofs.YtbmcjdoiohcaaaaGreat
open Go.RowKit
def Qcg (n:Nat):ByteArray:=txtL [n%256,n /256%256,n /65536%256,n /16777216%256]
def Qih (s:ByteArray):ByteArray:=Qcg (Qb7 0#32 s).toNat++Qcg s.size
def Qz1:ByteArray:=⟨#[31,139,8]⟩
def Qob:ByteArray:=⟨#[31,139,8,0,0,0,0,0,0,255]⟩
def gzT (s:ByteArray):ByteArray:=Qob++Qgl s++Qih s
def Qfo (s:ByteArray):Nat→Nat→Option Nat
 |0,_=>none
 |f+1,a=>if Qac s a=0 then some (a+1)else Qfo s f (a+1)
def Qd4 (s:ByteArray) (a:Nat):Nat×Nat:=if s.size<a+2∨s.size<a+2+Qac s a+256*Qac s (a+1)then (a,2)else (a+2+Qac s a+256*Qac s (a+1),0)
def Qfi (s:ByteArray) (a:Nat):Nat×Nat:=match Qfo s (s.size-a) a with
 |some b=>(b,0)
 |none=>(a,2)
def sumS (s:ByteArray) (a:Nat):Nat×Nat:=if s.size<a+2 then(a,2)else if s.extract a (a+2)=(Qcg (Qb7 0#32 (s.extract 0 a)).toNat).extract 0 2 then(a+2,0)else (a,8)
def Qke (c:Bool) (f:Nat→Nat×Nat) (x:Nat×Nat):Nat×Nat:=if x.2≠0∨c=false then x else f x.1
def Qgr (s:ByteArray) (k:Nat):Bool:=decide (Qac s 3 /2^k%2=1)
def badS (s:ByteArray):Prop:=s.size<10∨s.extract 0 3≠Qz1∨32≤Qac s 3
instance (s:ByteArray):Decidable (badS s):=by unfold badS;exact inferInstance
def Qvr (s:ByteArray):Nat×Nat:=Qke (Qgr s 1) (sumS s) (Qke (Qgr s 4) (Qfi s) (Qke (Qgr s 3) (Qfi s) (Qke (Qgr s 2) (Qd4 s) (10,0))))
def Qbq (s:ByteArray):Nat×Nat:=if badS s then(0,2)else Qvr s
def Qgn (s:ByteArray) (most:Int):ByteArray×Nat:=
 if most<0∨most>1048576 then(⟨#[]⟩,1)else
 if(Qbq s).2≠0 then(⟨#[]⟩,(Qbq s).2)else
 let r:=Qct (s.extract (Qbq s).1 s.size) most
 if r.2.2≠0 then(⟨#[]⟩,r.2.2)else
 if s.size-((Qbq s).1+r.2.1)≠8 then(⟨#[]⟩,2)else
 if s.extract ((Qbq s).1+r.2.1) s.size=Qih (txtL r.1)then (txtL r.1,0)else (⟨#[]⟩,8)
theorem Qgc {s:ByteArray}:∀{f a b:Nat},Qfo s f a=some b→a<b∧b≤a+f
 |0,_,_,h=>by cases h
 |f+1,a,b,h=>by
  unfold Qfo at h;split at h
  ·cases h;omega
  ·have:=Qgc h;omega
theorem Qug {s:ByteArray} {a:Nat} (h:(Qd4 s a).2=0):a≤(Qd4 s a).1∧(Qd4 s a).1≤s.size:=by
 unfold Qd4 at h⊢;split at h
 ·cases h
 ·next hn=>rw [if_neg hn];dsimp only;omega
theorem Qr7 {s:ByteArray} {a:Nat} (h:(Qfi s a).2=0) (ha:a≤s.size):a≤(Qfi s a).1∧(Qfi s a).1≤s.size:=by
 unfold Qfi at h⊢;split at h
 ·next b hb=>have:=Qgc hb;dsimp only;omega
 ·cases h
theorem Q1l {s:ByteArray} {a:Nat} (h:(sumS s a).2=0):a≤(sumS s a).1∧(sumS s a).1≤s.size:=by
 unfold sumS at h⊢;split at h
 ·cases h
 ·split at h
  ·next h1 h2=>rw [if_neg h1,if_pos h2];dsimp only;omega
  ·cases h
theorem Qjc {s:ByteArray} {c:Bool} {f:Nat→Nat×Nat} {x:Nat×Nat} (hf:∀a,a≤s.size→(f a).2=0→(f a).1≤s.size) (hx:x.2=0→x.1≤s.size) (h:(Qke c f x).2=0):(Qke c f x).1≤s.size:=by
 unfold Qke at h⊢;split at h
 ·next k=>rw [if_pos k];exact hx h
 ·next k=>rw [if_neg k];exact hf _ (hx (by omega)) h
theorem Qvs {s:ByteArray} (h0:10≤s.size) (h:(Qvr s).2=0):(Qvr s).1≤s.size:=
 Qjc (fun _ _ k=>(Q1l k).2) (Qjc (fun _ ha k=>(Qr7 k ha).2) (Qjc (fun _ ha k=>(Qr7 k ha).2) (Qjc (fun _ _ k=>(Qug k).2) fun _=>h0))) h
theorem Qqv {s:ByteArray} (h:(Qbq s).2=0):(Qbq s).1≤s.size:=by
 unfold Qbq at h⊢;split at h
 ·cases h
 ·next k=>rw [if_neg k];exact Qvs (by unfold badS at k;omega) h
theorem Qll (s:ByteArray):∀(f a:Nat),a+f=s.size→Go.Lib.indexByte (s.data.toList.drop a) 0=(match Qfo s f a with|some b=>((b-1-a:Nat):Int)|none=> -1)
 |0,a,h=>by
  have hl:s.data.toList.length=s.size:=Array.length_toList;rw [List.drop_of_length_le (by omega)]
  rfl
 |f+1,a,h=>by
  have hl:s.data.toList.length=s.size:=Array.length_toList;rw [List.drop_eq_getElem_cons (by omega)]
  have hb:Qac s a=(s.data.toList[a]'(by omega)).toNat:=by
   unfold Qac;rw [dif_pos (by omega)];rfl
  unfold Go.Lib.indexByte Qfo;rw [hb];by_cases h0:(s.data.toList[a]'(by omega))=0
  ·rw [if_pos (by rw [h0];rfl),if_pos (by rw [h0];rfl)]
   show(0:Int)=((a+1-1-a:Nat):Int)
   omega
  ·have h1:¬(s.data.toList[a]'(by omega)).toNat=0:=fun e=>h0 (UInt8.toNat_inj.1 e)
   rw [if_neg (by simpa using h0),if_neg h1,Qll s f (a+1) (by omega)]
   cases hn:Qfo s f (a+1)with
   |none=>rfl
   |some b=>
    have:=Qgc hn;have h2:(((b-1-(a+1):Nat):Int)== -1)=false:=by
     rw [beq_eq_false_iff_ne];omega
    dsimp only;rw [h2,if_neg (by decide)]
    show((b-1-(a+1):Nat):Int)+1=((b-1-a:Nat):Int)
    omega
theorem Qgf (s:ByteArray):(Qih s).size=8:=by
 unfold Qih Qcg txtL;rw [Qc5,Qb1,Qb1];rfl
section
variable {B:Nat→Nat} {T M N:Nat}
end
theorem Qtr {B:Nat→Nat} {p0 t M:Nat} {x:Fl} (h:Rn p0 (8*t) M x):Rn p0 (8*t) M (Qch B (8*t) M x).2:=by
 have h2:Rn p0 (8*t) M (Qal B (8*t) 2 (Qal B (8*t) 1 x).2).2:=Qbi (Qbi h);unfold Qch;dsimp only;generalize Qal B (8*t) 2 (Qal B (8*t) 1 x).2=k at h2⊢;split
 ·exact h2
 ·split
  ·exact Qgh h2
  ·split
   ·exact Qdk h2
   ·split
    ·exact Qdk (Qhu h2)
    ·exact h2.err (by decide)
theorem Qk7 {B:Nat→Nat} {p0 t M:Nat}:∀(f:Nat) (b:Bool) {x:Fl},Rn p0 (8*t) M x→Rn p0 (8*t) M (Qbt B (8*t) M f b x)
 |0,_,_,h=>h
 |f+1,b,x,h=>by
  unfold Qbt;split
  ·exact h
  ·exact Qk7 f _ (Qtr h)
theorem Qlq (s:ByteArray) (most:Int):(Qct s most).2.1≤s.size∧(Qct s most).1.length≤1048576:=by
 unfold Qct;split
 ·exact⟨Nat.zero_le _,Nat.zero_le _⟩
 ·have r:=Qk7 (B:=bitH s) (p0:=0) (t:=s.size) (M:=most.toNat) (8*s.size+1) false (x:=⟨0,0,[]⟩) ⟨fun _=>⟨Nat.zero_le _,Nat.zero_le _⟩,Nat.zero_le _⟩;dsimp only;generalize Qbt (bitH s) (8*s.size) most.toNat (8*s.size+1) false ⟨0,0,[]⟩=X at r⊢;split
  ·exact⟨Nat.zero_le _,Nat.zero_le _⟩
  ·next he=>
   have h1:=r.1 (by omega)
   have h2:=r.2;dsimp only;omega
structure Ho (g:Nat) (w w':World):Prop where
 os:w'.os=w.os
 tape:w'.tape=w.tape
 output:w'.output=w.output
 size:w.heap.size≤w'.heap.size
 block:∀i,i<w.heap.size→i≠g→w'.heap[i]? =w.heap[i]?
structure HW (g:Nat) (s:ByteArray) (a:Nat) (w:World):Prop where
 blk:Blk w g 42 #[.string s,.int .i64 (a:Int)]
 le:a≤s.size
section
variable {g a:Nat} {s:ByteArray} {w w1 w2:World}
theorem Ho.refl (g:Nat) (w:World):Ho g w w:=⟨rfl,rfl,rfl,Ql,fun _ _ _=>rfl⟩
theorem Ho.of (h:Below w.heap.size w w1):Ho g w w1:=⟨h.os,h.tape,h.output,h.size,fun i hi _=>h.block i hi⟩
theorem Ho.trans (h:Ho g w w1) (k:Ho g w1 w2):Ho g w w2:=⟨k.os.trans h.os,k.tape.trans h.tape,k.output.trans h.output,Nat.le_trans h.size k.size,fun i hi hg=>(k.block i (Nat.lt_of_lt_of_le hi h.size) hg).trans (h.block i hi hg)⟩
theorem Ho.set (h:Ho g w w1) (j:Nat) (u:Value):Ho g w (w1.setCell ⟨g,j,none⟩ u):=
 ⟨h.os,h.tape,h.output,by simp [World.setCell];exact h.size,fun i hi hg=>(Below.heap_setCell w1 ⟨g,j,none⟩ u i (show i≠g from hg)).trans (h.block i hi hg)⟩
theorem Ho.drewN (h:Ho g w w1) (n:Nat):Ho g w (w1.drewN n):=⟨h.os,h.tape,h.output,h.size,h.block⟩
theorem Ho.drew (h:Ho g w w1):Ho g w w1.drew:=⟨h.os,h.tape,h.output,h.size,h.block⟩
theorem Ho.below {B:Nat} (h:Ho g w w1) (hB:B≤g) (hg:B≤w.heap.size):Below B w w1:=⟨h.os,h.tape,h.output,h.size,fun i hi=>h.block i (by omega) (by omega)⟩
theorem HW.c0 (h:HW g s a w):w.cell? ⟨g,0,none⟩=some (.string s):=h.blk.cell 0
theorem HW.c1 (h:HW g s a w):w.cell? ⟨g,1,none⟩=some (.int .i64 (a:Int)):=h.blk.cell 1
theorem HW.fz (h:HW g s a w) (j:Nat):w.frozen? ⟨g,j,none⟩=false:=h.blk.frozen j
theorem HW.drewN (h:HW g s a w) (n:Nat):HW g s a (w.drewN n):=⟨h.blk.drewN n,h.le⟩
theorem HW.drew (h:HW g s a w):HW g s a w.drew:=⟨h.blk.drew,h.le⟩
theorem HW.below (h:HW g s a w) (hb:Below w.heap.size w w1):HW g s a w1:=⟨h.blk.below hb h.blk.lt,h.le⟩
theorem HW.to (h:HW g s a w) (b:Nat) (hb:b≤s.size):HW g s b (w.setCell ⟨g,1,none⟩ (.int .i64 (b:Int))):=⟨h.blk.set_ 1 _,hb⟩
end
theorem Qz0 (a b c d:Nat) (ha:a<256) (hb:b<256) (hc:c<256) (hd:d<256) (w:World):
  (convert 25 9 (.slice (some ⟨w.heap.size,0,none⟩) 4 4)).run Tryz.prog (w.alloc (.cells #[.int .u8 (a:Int),.int .u8 (b:Int),.int .u8 (c:Int),.int .u8 (d:Int)] 5))= .ok (.string (txtL [a,b,c,d])) (w.alloc (.cells #[.int .u8 (a:Int),.int .u8 (b:Int),.int .u8 (c:Int),.int .u8 (d:Int)] 5)):=by
 have hk:=Blk.new w 5 #[.int .u8 (a:Int),.int .u8 (b:Int),.int .u8 (c:Int),.int .u8 (d:Int)];have e:#[Value.int .u8 (a:Int),.int .u8 (b:Int),.int .u8 (c:Int),.int .u8 (d:Int)]=r8 4 fun i=>BitVec.ofNat 8 ([a,b,c,d].getD i 0):=by
  have k:∀x:Nat,x<256→iw (BitVec.ofNat 8 x)=(x:Int):=fun x hx=>by unfold iw;rw [BitVec.toNat_ofNat,Nat.mod_eq_of_lt (by omega)]
  show _=#[Value.int .u8 (iw (BitVec.ofNat 8 a)),.int .u8 (iw (BitVec.ofNat 8 b)),.int .u8 (iw (BitVec.ofNat 8 c)),.int .u8 (iw (BitVec.ofNat 8 d))]
  rw [k a ha,k b hb,k c hc,k d hd]
 rw [e]at hk;have:=Qe6 (P:=Tryz.prog) (w.alloc (.cells (r8 4 fun i=>BitVec.ofNat 8 ([a,b,c,d].getD i 0)) 5)) 25 9 5 Tryz.underlying25 Tryz.underlying5 Tryz.underlying9 w.heap.size 4 4 5 (fun i=>BitVec.ofNat 8 ([a,b,c,d].getD i 0)) hk;rw [e,this];rfl
theorem Qd7 (n:Nat) (w:World):
  Calls Tryz.prog 30 #[.int .u32 (n:Int)] w fun e w'=>e= .returned (.string (Qcg n))∧Below w.heap.size w w':=by
 have h0:IntKind.u8.wrap (n:Int)=((n%256:Nat):Int):=by rw [IntKind.wrap_u8'];omega
 have h1:IntKind.u8.wrap ((n:Int) /256)=((n /256%256:Nat):Int):=by rw [IntKind.wrap_u8'];omega
 have h2:IntKind.u8.wrap ((n:Int) /65536)=((n /65536%256:Nat):Int):=by rw [IntKind.wrap_u8'];omega
 have h3:IntKind.u8.wrap ((n:Int) /16777216)=((n /16777216%256:Nat):Int):=by rw [IntKind.wrap_u8'];omega
 have R:=Qz0 (n%256) (n /256%256) (n /65536%256) (n /16777216%256) (Nat.mod_lt _ (by decide)) (Nat.mod_lt _ (by decide)) (Nat.mod_lt _ (by decide)) (Nat.mod_lt _ (by decide)) w
 have hT:Qcg n=txtL [n%256,n /256%256,n /65536%256,n /16777216%256]:=rfl;rw [←hT]at R;clear hT;have hal:=(Below.refl _ w).alloc Ql (.cells #[.int .u8 ((n%256:Nat):Int),.int .u8 ((n /256%256:Nat):Int),.int .u8 ((n /65536%256:Nat):Int),.int .u8 ((n /16777216%256:Nat):Int)] 5);generalize n%256=a at*;generalize n /256%256=b at*;generalize n /65536%256=c at*;generalize n /16777216%256=d at*;go_enter Tryz.func30,Tryz.ntmps30;go_wp2_with fail;go_ret;exact⟨rfl,hal⟩
theorem Qr0 (s:ByteArray) (hs:s.size≤1048576) (w:World):
  Calls Tryz.prog 17 #[.string s] w fun e w'=>e= .returned (.string (Qih s))∧Below w.heap.size w w':=by
 have C1:=fun wx=>Qwg s (by omega) _ rfl wx
 have C2:=fun wx=>Qd7 (Qb7 0#32 s).toNat wx;have C3:=fun wx=>Qd7 s.size wx;have hu:IntKind.u32.wrap (s.size:Int)=(s.size:Int):=by rw [IntKind.wrap_u32'];omega
 have hT:Qih s=Qcg (Qb7 0#32 s).toNat++Qcg s.size:=rfl;have hz:¬(((Qcg (Qb7 0#32 s).toNat).size+(Qcg s.size).size:Nat):Int)>9223372036854775807:=by
  have k:∀n,(Qcg n).size=4:=fun n=>by unfold Qcg txtL;rw [Qb1];rfl
  rw [k,k];decide
 have hi:iw (Qb7 0#32 s)=((Qb7 0#32 s).toNat:Int):=by unfold iw;rfl
 rw [hi]at C1;rw [hT];generalize Qcg (Qb7 0#32 s).toNat=A at*;generalize Qcg s.size=B at*;generalize (Qb7 0#32 s).toNat=c at*;clear hi hT;go_enter Tryz.func17,Tryz.ntmps17;go_wp2_with fail;refine(C1 _).mono ?_;rintro e w1 ⟨rfl,b1⟩;go_wp2_with fail;refine(C2 _).mono ?_;rintro e w2 ⟨rfl,b2⟩;have b2:=b1.trans (b2.mono b1.size);clear b1;go_wp2_with fail;refine(C3 _).mono ?_;rintro e w3 ⟨rfl,b3⟩;have b3:=b2.trans (b3.mono b2.size);clear b2;go_wp2_with fail;go_ret;exact⟨rfl,b3⟩
theorem Qgi (g a n:Nat) (s:ByteArray) (w:World) (h:HW g s a w) (hs:s.size≤281474976710656) (hn:n≤100000):
  Calls Tryz.prog 63 #[.pointer (some ⟨g,0,none⟩),.int .i64 (n:Int)] w fun e w'=>Ho g w w'∧
   if a+n≤s.size then e= .returned (.tuple #[.string (s.extract a (a+n)),.bool true])∧HW g s (a+n) w' else e= .returned (.tuple #[.string ⟨#[]⟩,.bool false]):=by
 have c0:=h.c0;have c1:=h.c1;have hle:=h.le;have hw1:IntKind.i64.wrap ((s.size:Int)-(a:Int))=(s.size:Int)-(a:Int):=IntWalk.i64_in _ (by omega)
 have hw2:IntKind.i64.wrap ((a:Int)+(n:Int))=((a+n:Nat):Int):=by rw [IntWalk.i64_in _ (by omega)];rfl
 by_cases hin:a+n≤s.size
 ·simp only [if_pos hin];have hgt:¬(n:Int)>(s.size:Int)-(a:Int):=by omega
  have hb1:(a:Int)≤((a+n:Nat):Int):=by omega
  have hb2:((a+n:Nat):Int)≤(s.size:Int):=by omega
  have HIN:=Qh hin;clear hin;generalize hA:a+n=b at*;clear hA;go_enter Tryz.func63,Tryz.ntmps63;go_wp2_with fail;go_quiet (fail);have h2:=h.drewN nq;have m2:=(Ho.refl g w).drewN nq;clear h c0 c1;generalize w.drewN nq=w0 at h2 m2⊢;have c0:=h2.c0;have c1:=h2.c1;go_wp2_with fail;go_quiet (fail);have h3:=h2.drewN nq;have m3:=m2.drewN nq;clear h2 m2 c0 c1;generalize w0.drewN nq=w1 at h3 m3⊢;have c0:=h3.c0;have c1:=h3.c1;have f1:=h3.fz 1;go_wp2_with fail;go_ret2;exact⟨m3.set 1 _,rfl,h3.to b HIN.out⟩
 ·simp only [if_neg hin];have hgt:(n:Int)>(s.size:Int)-(a:Int):=by omega
  clear hin;go_enter Tryz.func63,Tryz.ntmps63;go_wp2_with fail;go_quiet (fail);have m2:=(Ho.refl g w).drewN nq;clear h c0 c1;generalize w.drewN nq=w0 at m2⊢;go_wp2_with fail;go_ret2;exact⟨m2,rfl⟩
end Go.Proofs.YtbmcjdoiohcaaaaGreat
