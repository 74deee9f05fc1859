/- OA -/
import Derived.Test.YtbmcjdoiohcaaaaGreatMA
import Derived.IntWalk
import Derived.Laws.MakeOwn
set_option maxRecDepth 100000
set_option maxHeartbeats 2000000
namespace Go.Proofs.YtbmcjdoiohcaaaaGreat
open Go.RowKit
def crcP:BitVec 32:=litw 32 3988292384
def cS (c:BitVec 32):BitVec 32:=if c.toNat%2=1 then xorw (shrw c 1) crcP else shrw c 1
def cN:Nat→BitVec 32→BitVec 32
 |0,c=>c
 |n+1,c=>cS (cN n c)
def cR (F:Nat→BitVec 32) (c:BitVec 32):Nat→BitVec 32
 |0=>c
 |n+1=>cN 8 (xorw (cR F c n) (F n))
theorem Q09 (x y:BitVec 32):(xorw x y).toNat%2=(x.toNat%2+y.toNat%2)%2:=by
 unfold xorw;rw [BitVec.toNat_xor];have h:(x.toNat^^^y.toNat)%2=1↔¬(x.toNat%2=1↔y.toNat%2=1):=Nat.xor_mod_two_eq_one;have key:∀p q r:Nat,p<2→q<2→r<2→(r=1↔¬(p=1↔q=1))→r=(p+q)%2:=by omega
 exact key _ _ _ (Nat.mod_lt _ (by decide)) (Nat.mod_lt _ (by decide)) (Nat.mod_lt _ (by decide)) h
theorem Q1k (x y:BitVec 32):shrw (xorw x y) 1=xorw (shrw x 1) (shrw y 1):=by
 unfold shrw xorw;exact BitVec.ushiftRight_xor_distrib ..
theorem Qo1 (x y:BitVec 32):xorw x y=xorw y x:=by unfold xorw;exact BitVec.xor_comm ..
theorem Qcz (x y z:BitVec 32):xorw (xorw x y) z=xorw x (xorw y z):=by unfold xorw;exact BitVec.xor_assoc ..
theorem Qw5 (x y z:BitVec 32):xorw x (xorw y z)=xorw y (xorw x z):=by rw [←Qcz,Qo1 x y,Qcz]
theorem Qw6 (x:BitVec 32):xorw x x=0#32:=by unfold xorw;exact BitVec.xor_self
theorem Qo2 (x:BitVec 32):xorw x 0#32=x:=by unfold xorw;exact BitVec.xor_zero
theorem Q14 (x y:BitVec 32):cS (xorw x y)=xorw (cS x) (cS y):=by
 unfold cS;rw [Q09,Q1k];have h2:∀a b c d:BitVec 32,xorw (xorw a b) (xorw c d)=xorw (xorw a c) (xorw b d):=fun a b c d=>by
  rw [Qcz,Qw5 b c d,←Qcz]
 by_cases hx:x.toNat%2=1<;>by_cases hy:y.toNat%2=1
 ·rw [if_neg (by omega),if_pos hx,if_pos hy,h2,Qw6,Qo2]
 ·rw [if_pos (by omega),if_pos hx,if_neg hy,Qcz,Qcz,Qo1 crcP]
 ·rw [if_pos (by omega),if_neg hx,if_pos hy,Qcz]
 ·rw [if_neg (by omega),if_neg hx,if_neg hy]
theorem Q13 (n:Nat) (x y:BitVec 32):cN n (xorw x y)=xorw (cN n x) (cN n y):=by
 induction n with
 |zero=>rfl
 |succ n ih=>show cS _=_;rw [ih,Q14];rfl
def Qer (s:ByteArray) (i:Nat):BitVec 32:=litw 32 (Qac s i)
def Qb7 (a:BitVec 32) (s:ByteArray):BitVec 32:=notw (cR (Qer s) (notw a) s.size)
theorem Q3p (x:BitVec 32):notw (notw x)=x:=by unfold notw;exact BitVec.not_not
theorem Qsx (a:BitVec 32) (s:ByteArray) (w:World) (hs:s.size≤281474976710656):
  Calls Tryz.prog 33 #[.int .u32 (iw a),.string s] w fun e w'=>e= .returned (.int .u32 (iw (Qb7 a s)))∧w'=w:=by
 have hnot:bits .xor .u32 4294967295 (iw a)=iw (notw a):=Qvb a;go_enter Tryz.func33,Tryz.ntmps33;go_wp2_with fail;go_loopw [5,6] (fun c i wr=>∃k:Nat,k≤s.size∧i= .int .i64 k∧c= .int .u32 (iw (cR (Qer s) (notw a) k))∧w=wr) (fun _ i _=>s.size-(intOf i).toNat)
 case atStart=>exact⟨0,by omega,rfl,rfl,rfl⟩
 case round=>
  obtain⟨k,hk,rfl,rfl,rfl⟩:=hrel;by_cases hlt:k<s.size
  ·have e8:=Qa2 s k hlt;have h8:s[k].toNat<256:=s[k].toNat_lt;have hx:((s[k].toNat:Nat):Int)=iw (Qer s k):=by
    unfold Qer iw litw;rw [BitVec.toNat_ofNat,e8,Nat.mod_eq_of_lt (by omega)]
   have HC:Hid (cR (Qer s) (notw a) (k+1)=cN 8 (xorw (cR (Qer s) (notw a) k) (Qer s k))):=Qh rfl;generalize cR (Qer s) (notw a) k=c at*;have hx2:IntKind.u32.wrap ((s[k].toNat:Nat):Int)=iw (Qer s k):=by rw [←hx,IntKind.wrap_u32'];omega
   generalize Qer s k=y at*;clear hx e8 h8;go_wp2_with fail;generalize xorw c y=x at*;go_loopw [5,7] (fun c j wr=>∃m:Nat,m≤8∧j= .int .i64 m∧c= .int .u32 (iw (cN m x))∧w=wr) (fun _ j _=>8-(intOf j).toNat)
   case atStart=>exact⟨0,by omega,rfl,rfl,rfl⟩
   case round=>
    obtain⟨m,hm,rfl,rfl,rfl⟩:=hrel;by_cases hm8:m<8
    ·have hm8i:(m:Int)<8:=by omega
     have HS:Hid (cN (m+1) x=cS (cN m x)):=Qh rfl;generalize cN m x=z at*;by_cases ho:z.toNat%2=1
     ·have hot:(iw z).tmod 2=1:=by rw [Int.tmod_eq_emod_of_nonneg (Q2j _)];unfold iw;omega
      have hcs:cS z=xorw (shrw z 1) crcP:=if_pos ho;have hP:bits .xor .u32 (iw (shrw z 1)) 3988292384=iw (xorw (shrw z 1) crcP):=Qw4 _ _;go_wp2_with fail;go_roundw
      case rel=>exact⟨m+1,by omega,by go_num,by rw [HS.out,hcs],by trivial⟩
      case measure=>simp [intOf];omega
     ·have hot:(iw z).tmod 2=0:=by rw [Int.tmod_eq_emod_of_nonneg (Q2j _)];unfold iw;omega
      have hcs:cS z=shrw z 1:=if_neg ho;go_wp2_with fail;go_roundw
      case rel=>exact⟨m+1,by omega,by go_num,by rw [HS.out,hcs],by trivial⟩
      case measure=>simp [intOf];omega
    ·obtain rfl:m=8:=by omega
     go_wp2_with fail;go_roundw
     case rel=>exact⟨k+1,by omega,by go_num,by rw [HC.out],by trivial⟩
     case measure=>simp [intOf];omega
  ·obtain rfl:k=s.size:=by omega
   have HM:Hid (Qb7 a s=notw (cR (Qer s) (notw a) s.size)):=Qh rfl;generalize cR (Qer s) (notw a) s.size=c at*;have hnot2:bits .xor .u32 4294967295 (iw c)=iw (notw c):=Qvb c;go_wp2_with fail;go_ret;exact⟨by rw [HM.out];rfl,rfl⟩
theorem Qj6 (s:ByteArray) (w:World) (hs:s.size≤281474976710656):
  Calls Tryz.prog 20 #[.string s] w fun e w'=>e= .returned (.int .u32 (iw (Qb7 0#32 s)))∧w'=w:=by
 go_enter Tryz.func20,Tryz.ntmps20
 have hc:=Qsx 0#32 s w hs;have h0:iw (0#32)=0:=by unfold iw;rfl
 rw [h0]at hc;go_wp2_with fail;refine hc.mono ?_;rintro e w' ⟨rfl,rfl⟩;go_wp2_with fail;go_ret;exact⟨rfl,rfl⟩
def topB (a:BitVec 32) (i:Nat):Nat:=a.toNat /2^(31-i)%2
def pT (a b:BitVec 32):Nat→BitVec 32
 |0=>0#32
 |i+1=>xorw (pT a b i) (if topB a i=1 then cN i b else 0#32)
end Go.Proofs.YtbmcjdoiohcaaaaGreat
/- Layer 8: the developers' functions: a bit, a byte, the product, the power. -/
namespace Go.Proofs.YtbmcjdoiohcaaaaGreat
open Go.RowKit
theorem Qnk (a:BitVec 32):bits .and .u32 (iw a) 1=((a.toNat%2:Nat):Int):=by
 rw [Qjj];unfold iw andw litw;rw [BitVec.toNat_and,show(BitVec.ofNat 32 1).toNat=1 from rfl,Nat.and_one_is_mod]
theorem Q3e (a:BitVec 32):bits .and .u32 (iw a) 4294967295=iw a:=by
 rw [Qjj];unfold iw andw litw;rw [show BitVec.ofNat 32 4294967295=BitVec.allOnes 32 from rfl,BitVec.and_allOnes]
theorem Q2u (a:BitVec 32):bits .and .u32 (iw a) 0=iw (0#32):=by
 have h:=Qjj a 0;refine Eq.trans h ?_;unfold iw andw litw;rw [show BitVec.ofNat 32 0=0#32 from rfl,BitVec.and_zero]
theorem Qyv:bits .and .u32 3988292384 4294967295=iw crcP:=by
 rw [←show iw crcP=3988292384 by unfold iw crcP litw;rfl]
 exact Q3e crcP
theorem Qvt:bits .and .u32 3988292384 0=iw (0#32):=by
 rw [←show iw crcP=3988292384 by unfold iw crcP litw;rfl]
 exact Q2u crcP
theorem Qpz (a:BitVec 32) (w:World):
  Calls Tryz.prog 108 #[.int .u32 (iw a)] w fun e w'=>e= .returned (.int .u32 (iw (cS a)))∧w'=w:=by
 have hp:=Qyv;have hn:=Qvt;by_cases ho:a.toNat%2=1
 ·have h1:bits .and .u32 (iw a) 1=1:=by rw [Qnk,ho];rfl
  have hcs:cS a=xorw (shrw a 1) crcP:=if_pos ho;go_enter Tryz.func108,Tryz.ntmps108;go_wp2_with fail;go_ret;exact⟨by rw [hcs];rfl,rfl⟩
 ·have h1:bits .and .u32 (iw a) 1=0:=by rw [Qnk,show a.toNat%2=0 by omega];rfl
  have hcs:cS a=xorw (shrw a 1) (0#32):=by rw [Qo2];exact if_neg ho
  go_enter Tryz.func108,Tryz.ntmps108
  go_wp2_with fail;go_ret;exact⟨by rw [hcs];rfl,rfl⟩
theorem Qn8 (a:BitVec 32) (w:World):
  Calls Tryz.prog 75 #[.int .u32 (iw a)] w fun e w'=>e= .returned (.int .u32 (iw (cN 8 a)))∧w'=w:=by
 go_enter Tryz.func75,Tryz.ntmps75
 go_wp2_with fail;go_loopw [0,3] (fun c j wr=>∃m:Nat,m≤8∧j= .int .i64 m∧c= .int .u32 (iw (cN m a))∧w=wr) (fun _ j _=>8-(intOf j).toNat)
 case atStart=>exact⟨0,by omega,rfl,rfl,rfl⟩
 case round=>
  obtain⟨m,hm,rfl,rfl,rfl⟩:=hrel;by_cases hm8:m<8
  ·have hm8i:(m:Int)<8:=by omega
   have HS:Hid (cN (m+1) a=cS (cN m a)):=Qh rfl;generalize cN m a=z at*;have C:=Qpz z w;go_wp2_with fail;refine C.mono ?_;rintro e w1 ⟨rfl,rfl⟩;go_wp2_with fail;go_roundw
   case rel=>exact⟨m+1,by omega,by go_num,by rw [HS.out],by trivial⟩
   case measure=>simp [intOf];omega
  ·obtain rfl:m=8:=by omega
   go_wp2_with fail;go_ret;exact⟨rfl,rfl⟩

section
attribute [local go_sem] Oper.semAt_some
def Qm1 (k i:Nat):BitVec 32:=if i<k then cN 8 (litw 32 i)else litw 32 0
theorem Qzn (w:World):(zeroValue 131).run Tryz.prog w= .ok (.agg (r32 256 fun _=>litw 32 0)) w:=by kernel_rfl
theorem Qwh:r32 256 (fun _=>litw 32 0)=r32 256 (Qm1 0):=Qa3 fun i _=>by unfold Qm1;rw [if_neg (by omega)]
theorem Qza (k j:Nat):(if j=k then Value.int .u32 (iw (cN 8 (litw 32 k)))else Value.int .u32 (iw (Qm1 k j)))=Value.int .u32 (iw (Qm1 (k+1) j)):=by
 unfold Qm1;by_cases h:j=k
 ·subst h;rw [if_pos rfl,if_pos (by omega)]
 ·rw [if_neg h];by_cases h2:j<k
  ·rw [if_pos h2,if_pos (by omega)]
  ·rw [if_neg h2,if_neg (by omega)]
structure TB8 (m:Nat) (w wr:World):Prop where
 t:Blk wr w.heap.size 131 (r32 256 (Qm1 m))
 b:Below w.heap.size w wr
theorem Qmp (w:World):
  Calls Tryz.prog 46 #[] w fun e w'=>e= .returned (.func (.func 76) #[] #[.pointer (some ⟨w.heap.size,0,none⟩)])∧TB8 256 w w':=by
 have hz:=Qzn w;go_enter Tryz.func46,Tryz.ntmps46;go_wp2_with fail;clear hz;go_loopw [3] (fun j wr=>∃m:Nat,m≤256∧j= .int .i64 m∧TB8 m w wr) (fun j _=>256-(intOf j).toNat)
 case atStart=>exact⟨0,by omega,rfl,(Blk.new _ _ _).cast_ Qwh,Qb.alloc (by omega) _⟩
 case round=>
  obtain⟨m,hm,rfl,ht⟩:=hrel;by_cases hlt:m<256
  ·have hlti:(m:Int)<256:=by omega
   have hal:Tryz.prog.arrayLen 131=256:=by kernel_rfl
   have hc:=ht.t.at_ (i:=m) hlt;have hf:=ht.t.frozen m;have hu:(m:Int)=iw (litw 32 m):=by rw [Qzw];omega
   have K:TB8 (m+1) w (wr.setCell ⟨w.heap.size,m,none⟩ (.int .u32 (iw (cN 8 (litw 32 m))))):=⟨(ht.t.put hlt _).cast_ (Qa3 fun i _=>Qza m i),ht.b.setCell (by simp) _⟩
   have C:=Qn8 (litw 32 m);rw [←hu]at C;clear hu;go_wp2_with fail;refine(C _).mono ?_;rintro e w1 ⟨rfl,rfl⟩;generalize cN 8 (litw 32 m)=v at*;go_wp2_with fail;go_roundw
   case rel=>exact⟨m+1,by omega,by go_num,K⟩
   case measure=>simp [intOf];omega
  ·obtain rfl:m=256:=by omega
   go_wp2_with fail;go_ret;exact⟨rfl,ht⟩
theorem Q12 (x:BitVec 32) (k:Nat) (h:x.toNat%2^k=0):cN k x=shrw x k:=by
 induction k with
 |zero=>show x=_;apply BitVec.eq_of_toNat_eq;unfold shrw;simp
 |succ k ih=>
  have h0:x.toNat%2^k=0:=by
   have:=Nat.mod_mod_of_dvd x.toNat (show 2^k∣2^(k+1)from ⟨2,by rw [Nat.pow_succ]⟩)
   rw [h]at this;simpa using this.symm
  show cS (cN k x)=_
  rw [ih h0];have hs:(shrw x k).toNat=x.toNat /2^k:=by unfold shrw;rw [BitVec.toNat_ushiftRight,Nat.shiftRight_eq_div_pow]
  have h2:(shrw x k).toNat%2=0:=by
   rw [hs];obtain⟨q,hq⟩:=Nat.dvd_of_mod_eq_zero h;rw [hq,Nat.pow_succ,Nat.mul_assoc,Nat.mul_div_cancel_left _ (Nat.two_pow_pos k)];omega
  unfold cS;rw [if_neg (by omega)]
  apply BitVec.eq_of_toNat_eq
  unfold shrw;simp only [BitVec.toNat_ushiftRight,Nat.shiftRight_eq_div_pow];rw [Nat.div_div_eq_div_mul,←Nat.pow_succ]
theorem Q3o (c:BitVec 32):xorw (shlw (shrw c 8) 8) (BitVec.setWidth 32 (BitVec.setWidth 8 c))=c:=by
 apply BitVec.eq_of_getLsbD_eq
 intro j hj;unfold xorw shlw shrw;rw [BitVec.getLsbD_xor,BitVec.getLsbD_shiftLeft,BitVec.getLsbD_setWidth,BitVec.getLsbD_setWidth,BitVec.getLsbD_ushiftRight];by_cases h:j<8
 ·simp [h,hj]
 ·simp [h,hj,show 8+(j-8)=j by omega]
theorem Qxd (c:BitVec 32) (b:BitVec 8):cN 8 (xorw c (BitVec.setWidth 32 b))=xorw (shrw c 8) (cN 8 (BitVec.setWidth 32 (xorw (BitVec.setWidth 8 c) b))):=by
 have e:xorw c (BitVec.setWidth 32 b)=xorw (shlw (shrw c 8) 8) (BitVec.setWidth 32 (xorw (BitVec.setWidth 8 c) b)):=by
  rw [show BitVec.setWidth 32 (xorw (BitVec.setWidth 8 c) b)=xorw (BitVec.setWidth 32 (BitVec.setWidth 8 c)) (BitVec.setWidth 32 b)by unfold xorw;exact BitVec.setWidth_xor ..,←Qcz,Q3o]
 rw [e,Q13]
 congr 1
 have h:=c.isLt;have hn:(shlw (shrw c 8) 8).toNat=c.toNat /256*256:=by
  unfold shlw shrw;rw [BitVec.toNat_shiftLeft,BitVec.toNat_ushiftRight,Nat.shiftLeft_eq,Nat.shiftRight_eq_div_pow];omega
 rw [Q12 _ 8 (by rw [hn];omega)]
 apply BitVec.eq_of_toNat_eq
 unfold shrw at hn⊢;rw [BitVec.toNat_ushiftRight,hn,BitVec.toNat_ushiftRight,Nat.shiftRight_eq_div_pow,Nat.shiftRight_eq_div_pow];omega
theorem Qu4 (g:Nat) (c:BitVec 32) (b:Nat) (hb8:b<256) (y:BitVec 32) (hy:y=litw 32 b) (w:World) (hb:Blk w g 131 (r32 256 (Qm1 256))):
  Calls Tryz.prog 76 #[.int .u32 (iw c),.int .u8 (b:Int),.pointer (some ⟨g,0,none⟩)] w fun e w'=>e= .returned (.int .u32 (iw (cN 8 (xorw c y))))∧w'=w:=by
 have hy2:y=BitVec.setWidth 32 (litw 8 b):=by
  subst hy
  apply BitVec.eq_of_toNat_eq
  unfold litw;rw [BitVec.toNat_setWidth,BitVec.toNat_ofNat,BitVec.toNat_ofNat];omega
 have hbi:(b:Int)=iw (litw 8 b):=by rw [Qzw];omega
 rw [hy2,Qxd,hbi];have hc8:Qkw 8 c=BitVec.setWidth 8 c:=by apply BitVec.eq_of_toNat_eq;unfold Qkw;rw [BitVec.toNat_ofNat,BitVec.toNat_setWidth]
 rw [←hc8];obtain⟨i,hi⟩:∃i,i=(xorw (Qkw 8 c) (litw 8 b)).toNat:=⟨_,rfl⟩;have hi2:i<256:=by rw [hi];exact BitVec.isLt _
 have he:BitVec.setWidth 32 (xorw (Qkw 8 c) (litw 8 b))=litw 32 i:=by
  apply BitVec.eq_of_toNat_eq
  rw [BitVec.toNat_setWidth,←hi];unfold litw;rw [BitVec.toNat_ofNat]
 have hiw:bits .xor .u8 (iw (Qkw 8 c)) (iw (litw 8 b))=(i:Int):=by
  rw [hi];unfold iw xorw;rw [BitVec.toNat_xor];exact u8_xor_nat _ _ (BitVec.isLt _) (BitVec.isLt _)
 rw [he];have hcell:=hb.at_ (i:=i) hi2;rw [show Qm1 256 i=cN 8 (litw 32 i)by unfold Qm1;rw [if_pos hi2]]at hcell
 generalize cN 8 (litw 32 i)=v at*;have hal:Tryz.prog.arrayLen 131=256:=by kernel_rfl
 have hii:(i:Int)<256:=by omega
 clear hy hy2 hbi hc8 hi he;generalize litw 8 b=b8 at*;go_enter Tryz.func76,Tryz.ntmps76;go_wp2_with fail;go_ret;exact⟨rfl,rfl⟩
theorem Qu3 (a:BitVec 32) (s:ByteArray) (w:World) (hs:s.size≤281474976710656):
  Calls Tryz.prog 25 #[.int .u32 (iw a),.string s] w fun e w'=>e= .returned (.int .u32 (iw (Qb7 a s)))∧Below w.heap.size w w':=by
 have hnot:bits .xor .u32 4294967295 (iw a)=iw (notw a):=Qvb a;go_enter Tryz.func25,Tryz.ntmps25;go_wp2_with fail;refine(Qmp _).mono ?_;rintro e w1 ⟨rfl,ht⟩;go_wp2_with fail;go_loopw [0,12] (fun c i wr=>∃k:Nat,k≤s.size∧i= .int .i64 k∧c= .int .u32 (iw (cR (Qer s) (notw a) k))∧w1=wr) (fun _ i _=>s.size-(intOf i).toNat)
 case atStart=>exact⟨0,by omega,rfl,rfl,rfl⟩
 case round=>
  obtain⟨k,hk,rfl,rfl,rfl⟩:=hrel;by_cases hlt:k<s.size
  ·have e8:=Qa2 s k hlt;have HC:Hid (cR (Qer s) (notw a) (k+1)=cN 8 (xorw (cR (Qer s) (notw a) k) (Qer s k))):=Qh rfl;generalize cR (Qer s) (notw a) k=c at*;have C:=Qu4 w.heap.size c (Qac s k) (Qaz s k) (Qer s k) rfl w1 ht.t;generalize Qer s k=y at*;go_wp2_with fail;refine C.mono ?_;rintro e w2 ⟨rfl,rfl⟩;go_wp2_with fail;go_roundw
   case rel=>exact⟨k+1,by omega,by go_num,by rw [HC.out],by trivial⟩
   case measure=>simp [intOf];omega
  ·obtain rfl:k=s.size:=by omega
   have HM:Hid (Qb7 a s=notw (cR (Qer s) (notw a) s.size)):=Qh rfl;generalize cR (Qer s) (notw a) s.size=c at*;have hnot2:bits .xor .u32 4294967295 (iw c)=iw (notw c):=Qvb c;go_wp2_with fail;go_ret;exact⟨by rw [HM.out];rfl,ht.b⟩
end
theorem Qwg (s:ByteArray) (hs:s.size≤281474976710656) (t:BitVec 32) (ht:Qb7 0#32 s=t) (w:World):
  Calls Tryz.prog 15 #[.string s] w fun e w'=>e= .returned (.int .u32 (iw t))∧Below w.heap.size w w':=by
 subst ht;have hc:=Qu3 0#32 s w hs;rw [show iw (0#32)=0 by unfold iw;rfl]at hc
 go_enter Tryz.func15,Tryz.ntmps15
 go_wp2_with fail;refine hc.mono ?_;rintro e w1 ⟨rfl,h1⟩;go_wp2_with fail;go_ret;exact⟨rfl,h1⟩
end Go.Proofs.YtbmcjdoiohcaaaaGreat
