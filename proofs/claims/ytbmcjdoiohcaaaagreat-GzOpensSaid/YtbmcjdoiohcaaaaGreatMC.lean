/- MC -/
import Derived.Test.YtbmcjdoiohcaaaaGreatMB
import Derived.IntWalk
import Derived.Laws.MakeOwn
import Derived.OwnWalk
import Derived.Laws.BitsAllLaws
set_option maxRecDepth 100000
set_option maxHeartbeats 8000000
namespace Go.Proofs.YtbmcjdoiohcaaaaGreat
open Go.RowKit
structure IS (p:Option Addr) (n cap:Nat) (f:Nat→Int) (w:World):Prop where
 nil_:p=none→n=0∧cap=0
 cell:∀a,p=some a→∀i,i<n→w.cell? (a.add i)=some (.int .i64 (f i))
 lt:∀a,p=some a→a.block<w.heap.size
 lo:∀i,i<n→-9223372036854775808≤f i
 hi:∀i,i<n→f i<9223372036854775808
theorem IS.below {p:Option Addr} {n cap:Nat} {f:Nat→Int} {w w':World} (h:IS p n cap f w) (hb:Below w.heap.size w w'):IS p n cap f w':=
 ⟨h.nil_,fun a ha i hi=>by
  have hl:=h.lt a ha;have:(a.add i).block=a.block:=by unfold Addr.add;split<;>rfl
  rw [hb.cell (p:=a.add i) (by rw [this];exact hl)];exact h.cell a ha i hi,fun a ha=>Nat.lt_of_lt_of_le (h.lt a ha) hb.size,h.lo,h.hi⟩
def okB (f:Nat→Int):Nat→Bool
 |0=>true
 |k+1=>okB f k&&decide (0≤f k∧f k≤15)
theorem Qbr {f:Nat→Int} {n:Nat}:okB f n=true↔∀i,i<n→0≤f i∧f i≤15:=by
 induction n with
 |zero=>exact⟨fun _ i hi=>by omega,fun _=>rfl⟩
 |succ n ih=>
  unfold okB;rw [Bool.and_eq_true,ih,decide_eq_true_eq]
  constructor
  ·rintro⟨h1,h2⟩ i hi;rcases(show i<n∨i=n by omega)with h|rfl
   ·exact h1 i h
   ·exact h2
  ·intro h;exact⟨fun i hi=>h i (by omega),h n (by omega)⟩
theorem Qvh {f:Nat→Int} {n k:Nat} (hk:k<n) (h:¬(0≤f k∧f k≤15)):okB f n=false:=by
 cases e:okB f n with
 |false=>rfl
 |true=>exact absurd (Qbr.1 e k hk) h
def toL (f:Nat→Int) (i:Nat):Nat:=(f i).toNat
theorem Q2n (l:Nat→Nat) (n:Nat):kr l n≤n*32768:=by
 induction n with
 |zero=>exact Nat.zero_le _
 |succ n ih=>
  show kr l n+_≤_
  rw [Nat.add_mul];refine Nat.add_le_add ih ?_;split
  ·exact Nat.zero_le _
  ·rw [Nat.one_mul];exact Nat.pow_le_pow_right (by decide) (show 15-l n≤15 by omega)
def sumV (f:Nat→Int) (n:Nat):Nat×Bool:=if okB f n=true then(kr (toL f) n,decide (n≤300))else (0,false)
theorem Qe5 (p:Option Addr) (n cap:Nat) (f:Nat→Int) (w:World) (h:IS p n cap f w) (hn:n≤17592186044416):
  Calls Tryz.prog 127 #[.slice p n cap] w fun e w'=>e= .returned (.tuple #[.int .i64 ((sumV f n).1:Int),.bool (sumV f n).2])∧w'=w:=by
 go_enter Tryz.func127,Tryz.ntmps127
 go_wp2_with fail;go_loopw [4,5] (fun s i wr=>∃k:Nat,k≤n∧i= .int .i64 (k:Int)∧s= .int .i64 (kr (toL f) k:Int)∧okB f k=true∧w=wr) (fun _ i _=>n-(intOf i).toNat)
 case atStart=>exact⟨0,by omega,rfl,rfl,rfl,rfl⟩
 case round=>
  obtain⟨k,hk,rfl,rfl,hok,rfl⟩:=hrel;have hkr:=Q2n (toL f) k;by_cases hlt:k<n
  ·cases p with
   |none=>have:=(h.nil_ rfl).1;omega
   |some a=>
    have c0:=h.cell a rfl k hlt;by_cases h0:0≤f k∧f k≤15
    ·have HO:Hid (okB f (k+1)=true):=Qh (by unfold okB;rw [hok,decide_eq_true h0];rfl)
     obtain⟨d,hd⟩:=Int.eq_ofNat_of_zero_le h0.1;have hd15:d≤15:=by omega
     have hdl:toL f k=d:=by unfold toL;omega
     rw [hd]at c0;by_cases hz:d=0
     ·have HK:Hid (kr (toL f) (k+1)=kr (toL f) k):=Qh (by show _+(if toL f k=0 then 0 else _)=_;rw [if_pos (by omega)];rfl)
      generalize kr (toL f) k=S at*;subst hz;clear h0 hd hdl hok;go_wp2_with fail;go_roundw
      case rel=>exact⟨k+1,by omega,by go_num,by rw [HK.out],HO.out,by trivial⟩
      case measure=>simp [intOf];omega
     ·obtain⟨q,hq⟩:∃q,q=15-d:=⟨_,rfl⟩;have HK:Hid (kr (toL f) (k+1)=kr (toL f) k+2^q):=Qh (by show _+(if toL f k=0 then 0 else _)=_;rw [if_neg (by omega),hdl,hq])
      generalize kr (toL f) k=S at*;have hqi:IntKind.i64.wrap (15-(d:Int))=(q:Int):=by rw [IntWalk.i64_in _ (by omega)];omega
      have hd0:(0:Int)<(d:Int):=by omega
      have hdf:(d:Int)≤15:=by omega
      have hq15:q≤14:=by omega
      clear h0 hd hdl hok hz hq;have HW:Hid (wrap64 ((S:Int)+wrap64 (2^q))=((S+2^q:Nat):Int)):=Qh (by
       have hQ:(2:Int)^q=((2^q:Nat):Int):=by rw [Int.natCast_pow];rfl
       have hQl:2^q≤2^14:=Nat.pow_le_pow_right (by decide) hq15
       rw [hQ];generalize 2^q=Q at*;have e1:wrap64 (Q:Int)=(Q:Int):=IntWalk.wrap64_in _ (by omega)
       rw [e1,IntWalk.wrap64_in _ (by omega)];omega)
      go_wp2_with fail;go_roundw
      case rel=>exact⟨k+1,by omega,by go_num,by rw [HK.out,HW.out],HO.out,by trivial⟩
      case measure=>simp [intOf];omega
    ·have HV:Hid (sumV f n=(0,false)):=Qh (by unfold sumV;rw [Qvh hlt h0];rfl)
     have hor:f k<0∨(¬f k<0∧f k>15):=by omega
     clear h0 hok;generalize f k=x at*;rcases hor with hx|⟨hx1,hx2⟩
     all_goals
      go_wp2_with fail;go_ret2;rw [HV.out];exact⟨rfl,rfl⟩
  ·obtain rfl:k=n:=by omega
   have HV:Hid (sumV f k=(kr (toL f) k,decide (k≤300))):=Qh (by unfold sumV;rw [if_pos hok])
   have hle:decide ((k:Int)≤300)=decide (k≤300):=by rw [decide_eq_decide];omega
   generalize decide (k≤300)=b at*;generalize kr (toL f) k=S at*;clear hok;go_wp2_with fail;go_ret2;rw [HV.out];exact⟨rfl,rfl⟩
theorem Qca:(Tryz.prog.info? 3).map (fun i=>(i.zero,i.size,i.bytes))=some (some (.int .i64 0),1,8):=by kernel_rfl
abbrev rI (n:Nat) (f:Nat→Int):Array Value:=row n fun i=>Value.int .i64 (f i)
theorem Qjz (n:Nat):madeCells #[Value.int .i64 0] n=rI n fun _=>0:=by
 apply Array.ext
 ·rw [size_madeCells,Qbb]
 ·intro i h1 h2;have h:i<n:=by rw [size_madeCells]at h1;exact h1
  have e:=Qeu (fun i=>Value.int .i64 ((fun _=>(0:Int)) i)) h;rw [Array.getElem?_eq_getElem h2]at e;rw [Option.some.inj e];simp only [madeCells,Array.getElem_map,Array.getElem_range];simp [Nat.mod_one]
theorem Qge (n:Nat) (hn:n≤35184372088832) (w:World):
  (Instr.makeSlice 92 (.int .i64 (n:Int)) (.int .i64 (n:Int))).run Tryz.prog w= .ok (.slice (some ⟨w.heap.size,0,none⟩) n n) (w.alloc (.cells (rI n fun _=>0) 3)):=by
 obtain⟨i0,hi,hz0,hz1,hz2⟩:=info_parts Qca;have h:=run_make (P:=Tryz.prog) w 92 3 i0 (.int .i64 0) Tryz.underlying92 hi hz0 .i64 .i64 n n (by omega) (Int.le_refl _) (by rw [hz2];omega) (by omega)
 rw [hz1,Int.toNat_natCast,Nat.mul_one,show Value.cells (.int .i64 0)=#[Value.int .i64 0]from rfl,Qjz]at h;exact h
theorem IS.row {g n cap:Nat} {t:TypeId} {f:Nat→Int} {w:World} (h:Blk w g t (rI n f)) (lo:∀i,i<n→-9223372036854775808≤f i) (hi:∀i,i<n→f i<9223372036854775808):IS (some ⟨g,0,none⟩) n cap f w:=
 ⟨(fun e=>by cases e),(fun a e i hi=>by cases e;rw [Qay,Nat.zero_add];exact h.at_ hi),(fun a e=>by cases e;exact h.lt),lo,hi⟩
def coF (l:Nat→Nat) (n d k j:Nat):Int:=if l j≠0∧(l j≤d∨l j=d+1∧j<k)then (Qa0 l n j:Int)else 0
theorem Q0f (l:Nat→Nat) (n d k j:Nat) (hk:l k=d+1):(if j=k then Value.int .i64 ((cst l n d+cnt l (d+1) k:Nat):Int)else Value.int .i64 (coF l n d k j))=Value.int .i64 (coF l n d (k+1) j):=by
 by_cases h:j=k
 ·subst h;rw [if_pos rfl];unfold coF Qa0;rw [if_pos ⟨by omega,.inr ⟨hk,by omega⟩⟩,if_neg (by omega),hk,Nat.add_sub_cancel]
 ·rw [if_neg h];unfold coF
  congr 1
  by_cases h2:l j≠0∧(l j≤d∨l j=d+1∧j<k)
  ·rw [if_pos h2,if_pos ⟨h2.1,by omega⟩]
  ·rw [if_neg h2,if_neg (by omega)]
theorem Q0e (l:Nat→Nat) (n d k:Nat) (hk:l k≠d+1):coF l n d k=coF l n d (k+1):=funext fun j=>by
 unfold coF;by_cases h2:l j≠0∧(l j≤d∨l j=d+1∧j<k)
 ·rw [if_pos h2,if_pos ⟨h2.1,by omega⟩]
 ·rw [if_neg h2,if_neg];rintro⟨h3,h4⟩;refine h2 ⟨h3,?_⟩;rcases h4 with h4|⟨h4,h5⟩
  ·exact .inl h4
  ·refine .inr ⟨h4,?_⟩;rcases(show j<k∨j=k by omega)with h6|rfl
   ·exact h6
   ·exact absurd h4 hk
theorem Q0d (l:Nat→Nat) (n d:Nat):∀j,j<n→coF l n d n j=coF l n (d+1) 0 j:=fun j hj=>by
 unfold coF;by_cases h2:l j≠0∧(l j≤d∨l j=d+1∧j<n)
 ·rw [if_pos h2,if_pos ⟨h2.1,by omega⟩]
 ·rw [if_neg h2,if_neg (by omega)]
theorem Q0c (l:Nat→Nat) (n:Nat) (h:∀j,j<n→l j≤15):∀j,j<n→coF l n 15 0 j=(Qa0 l n j:Int):=fun j hj=>by
 have:=h j hj;unfold coF;by_cases h0:l j=0
 ·rw [if_neg (by omega)];unfold Qa0;rw [if_pos h0];rfl
 ·rw [if_pos ⟨h0,.inl this⟩]
theorem Qk9 (l:Nat→Nat) (d n:Nat):cnt l d n≤n:=by
 induction n with
 |zero=>exact Ql
 |succ n ih=>show cnt l d n+_≤_;split<;>omega
theorem Q15 (l:Nat→Nat) (n:Nat) (h:∀i,i<n→l i≤15) (hk:kr l n≤32768) (hn:n≤300) (d:Nat) (hd:d≤15):cst l n d≤66136:=by
 have key:∀d,d≤14→cst l n d≤32768:=fun d hd=>by
  have e:=Qt4 l n d hd;have h1:=Qn6 l n (show d≤15 by omega)
  rw [Qrp l n h]at h1;have h2:1≤2^(15-(d+1)):=Nat.pow_pos (by decide)
  have h3:=Nat.le_mul_of_pos_right (cst l n d) h2;omega
 rcases(show d≤14∨d=15 by omega)with h1|rfl
 ·have:=key d h1;omega
 ·have h1:=key 14 Ql;have h2:=Qk9 l 15 n;show 2*(cst l n 14+cnt l 15 n)≤_;omega
structure CoW (p:Option Addr) (n:Nat) (f:Nat→Int) (F:Nat→Int) (g:Nat) (w wr:World):Prop where
 o:Blk wr g 3 (rI n F)
 l:Below w.heap.size w wr
theorem CoW.put {p:Option Addr} {n:Nat} {f F G:Nat→Int} {g:Nat} {w wr:World} (h:CoW p n f F g w wr) (hg:w.heap.size≤g) {k:Nat} (hk:k<n) (v:Int)
  (e:∀j,(if j=k then Value.int .i64 v else Value.int .i64 (F j))=Value.int .i64 (G j)):CoW p n f G g w (wr.setCell ⟨g,k,none⟩ (.int .i64 v)):=
 ⟨(h.o.put hk _).cast_ (Qa3 fun i _=>e i),h.l.setCell hg _⟩
theorem CoW.cast {p:Option Addr} {n:Nat} {f F G:Nat→Int} {g:Nat} {w wr:World} (h:CoW p n f F g w wr) (e:∀j,j<n→F j=G j):CoW p n f G g w wr:=
 ⟨h.o.cast_ (Qa3 fun i hi=>by rw [e i hi]),h.l⟩
def Qba (f:Nat→Int) (n:Nat):Nat:=if okB f n=true∧n≤300 then if kr (toL f) n≤32768 then 0 else 2 else 1
theorem Qz3 {f:Nat→Int} {n:Nat} (h:okB f n=true):∀i,i<n→toL f i≤15:=fun i hi=>by
 have:=Qbr.1 h i hi;unfold toL;omega
theorem Qi6 {l:Nat→Nat} {n:Nat} (h:∀i,i<n→l i≤15) (hk:kr l n≤32768):∀i,i<n→Qa0 l n i<32768:=fun i hi=>by
 by_cases h0:l i=0
 ·unfold Qa0;rw [if_pos h0];omega
 ·have h1:=Qh1 l n i h hk hi h0;have h2:2^l i≤2^15:=Nat.pow_le_pow_right (by decide) (h i hi)
  omega
theorem Qde (p:Option Addr) (n cap:Nat) (f:Nat→Int) (w:World) (h:IS p n cap f w) (hn:n≤300) (hok:okB f n=true) (hk:kr (toL f) n≤32768):
  Calls Tryz.prog 94 #[.slice p n cap] w fun e w'=>e= .returned (.tuple #[.slice (some ⟨w.heap.size,0,none⟩) n n,.int .i64 0])∧IS (some ⟨w.heap.size,0,none⟩) n n (fun i=>(Qa0 (toL f) n i:Int)) w'∧Below w.heap.size w w':=by
 have hl:=Qz3 hok;have CS:=Qh (Qe5 p n cap f w h (by omega))
 have HS:Hid (sumV f n=(kr (toL f) n,true)):=Qh (by unfold sumV;rw [if_pos hok,decide_eq_true hn])
 rw [HS.out]at CS;have hki:¬(kr (toL f) n:Int)>32768:=by omega
 have hcst:=Qh (Q15 (toL f) n hl hk hn);have HL:=Qh hl;have HK:=Qh hk;have HO:=Qh hok;have hmk:∀w,(Instr.makeSlice 92 (.int .i64 (n:Int)) (.int .i64 (n:Int))).run Tryz.prog w= .ok (.slice (some ⟨w.heap.size,0,none⟩) n n) (w.alloc (.cells (rI n fun _=>0) 3)):=Qge n (by omega)
 clear hl hk hok HS;go_enter Tryz.func94,Tryz.ntmps94;go_wp2_with fail;refine CS.out.mono ?_;intro e w1 hw1;obtain⟨rfl,e1⟩:=hw1;obtain rfl:=e1.symm;clear CS;go_wp2_with fail;obtain⟨g,hg⟩:∃g,g=w.heap.size:=⟨_,rfl⟩;have HG:Hid (w.heap.size≤g):=Qh (by omega)
 have H0:Hid (CoW p n f (fun _=>0) g w (w.alloc (.cells (rI n fun _=>0) 3))):=Qh ⟨by rw [hg];exact Blk.new w _ _,(Below.refl _ w).alloc Ql _⟩
 have HGE:=Qh hg;rw [←hg];clear hmk hki hg;obtain⟨l,hl0⟩:∃l,l=toL f:=⟨_,rfl⟩;rw [←hl0]at hcst HL HK⊢;have HLF:=Qh hl0;clear hl0;go_loopw [7,8] (fun c i wr=>∃d:Nat,d≤15∧i= .int .i64 ((d+1:Nat):Int)∧c= .int .i64 (cst l n d:Int)∧CoW p n f (coF l n d 0) g w wr) (fun _ i _=>16-(intOf i).toNat)
 case atStart=>exact⟨0,by omega,rfl,rfl,H0.out.cast fun j _=>by unfold coF;rw [if_neg (by omega)]⟩
 case round=>
  obtain⟨d,hd,rfl,rfl,hr⟩:=hrel;have hc:=hcst.out d hd;by_cases hd15:d<15
  ·have hdi:((d+1:Nat):Int)≤15:=by omega
   obtain⟨D,hD⟩:∃D,D=d+1:=⟨_,rfl⟩;rw [←hD]at hdi⊢;obtain⟨C,hC⟩:∃C,C=cst l n d:=⟨_,rfl⟩;rw [←hC]at hc⊢;go_wp2_with fail;go_loopw [7,9] (fun c i wr=>∃k:Nat,k≤n∧i= .int .i64 (k:Int)∧c= .int .i64 ((C+cnt l D k:Nat):Int)∧CoW p n f (coF l n d k) g w wr) (fun _ i _=>n-(intOf i).toNat)
   case atStart=>exact⟨0,by omega,rfl,by rw [hC];rfl,hr⟩
   case round=>
    obtain⟨k,hk,rfl,rfl,hr⟩:=hrel;have hck:=Qk9 l D k;by_cases hlt:k<n
    ·cases p with
     |none=>have:=(h.nil_ rfl).1;omega
     |some a=>
      have hw:=h.below hr.l;have c0:=hw.cell a rfl k hlt;have hv:=Qbr.1 HO.out k hlt;obtain⟨v,hvv⟩:=Int.eq_ofNat_of_zero_le hv.1;have hlk:l k=v:=by rw [HLF.out];unfold toL;omega
      rw [hvv]at c0;by_cases heq:v=D
      ·have hee:(v:Int)=(D:Int):=by omega
       have HN:Hid (cnt l D (k+1)=cnt l D k+1):=Qh (by show _+(if l k=D then 1 else 0)=_;rw [if_pos (by omega)])
       have HP:=Qh (hr.put HG.out hlt ((C+cnt l D k:Nat):Int) fun j=>by rw [hC,hD];exact Q0f l n d k j (by omega))
       have co:=hr.o.at_ hlt;have fo:=hr.o.frozen k;obtain⟨T,hT⟩:∃T,T=C+cnt l D k:=⟨_,rfl⟩;rw [←hT]at HP⊢;have HT:Hid (C+cnt l D (k+1)=T+1):=Qh (by rw [HN.out,hT];omega)
       have hT9:T≤100000:=by omega
       clear hv hvv hlk hw heq hT HN hr;go_wp2_with fail;go_roundw
       case rel=>exact⟨k+1,by omega,by go_num,by rw [HT.out];go_num,HP.out⟩
       case measure=>simp [intOf];omega
      ·have hne:¬(v:Int)=(D:Int):=by omega
       have HN:Hid (cnt l D (k+1)=cnt l D k):=Qh (by show _+(if l k=D then 1 else 0)=_;rw [if_neg (by omega)];rfl)
       have HF:=Qh (Q0e l n d k (by omega))
       generalize cnt l D k=T at*;clear hv hvv hlk hw heq;go_wp2_with fail;go_roundw
       case rel=>exact⟨k+1,by omega,by go_num,by rw [HN.out],by rw [←HF.out];exact hr⟩
       case measure=>simp [intOf];omega
    ·obtain rfl:k=n:=by omega
     have HE:=Qh (Q0d l k d);obtain⟨T,hT⟩:∃T,T=C+cnt l D k:=⟨_,rfl⟩;rw [←hT];have HT:Hid (cst l k (d+1)=2*T):=Qh (by show 2*(cst l k d+cnt l (d+1) k)=_;rw [←hC,←hD,hT])
     have hT9:T≤100000:=by omega
     have hwT:IntKind.i64.wrap ((T:Int)*2)=((2*T:Nat):Int):=by rw [IntWalk.i64_in _ (by omega)];omega
     have hwD:IntKind.i64.wrap ((D:Int)+1)=((d+1+1:Nat):Int):=by rw [IntWalk.i64_in _ (by omega)];omega
     clear hT;go_wp2_with fail;go_roundw
     case rel=>exact⟨d+1,by omega,by go_num,by rw [HT.out];go_num,hr.cast HE.out⟩
     case measure=>simp [intOf];omega
  ·obtain rfl:d=15:=by omega
   have HA:=Qh (Q0c l n HL.out);have HB:=Qh (Qi6 HL.out HK.out);clear hc hcst;go_wp2_with fail;go_ret2;rw [←HLF.out];obtain rfl:=HGE.out;exact⟨rfl,IS.row (hr.cast HA.out).o (fun i hi=>by omega) (fun i hi=>by have:=HB.out i hi;omega),hr.l⟩
theorem Qlb {f:Nat→Int} {n:Nat} (h:¬(okB f n=true∧n≤300)):Qba f n=1:=by unfold Qba;rw [if_neg h]
theorem Qjn {f:Nat→Int} {n:Nat} (h:okB f n=true∧n≤300) (hk:¬kr (toL f) n≤32768):Qba f n=2:=by unfold Qba;rw [if_pos h,if_neg hk]
theorem Qg8 {f:Nat→Int} {n:Nat} (h:okB f n=true∧n≤300) (hk:kr (toL f) n≤32768):Qba f n=0:=by unfold Qba;rw [if_pos h,if_pos hk]
theorem Qy7 {f:Nat→Int} {n:Nat} (h:¬(okB f n=true∧n≤300)):(sumV f n).2=false:=by
 unfold sumV;by_cases h1:okB f n=true
 ·rw [if_pos h1];exact decide_eq_false fun h2=>h ⟨h1,h2⟩
 ·rw [if_neg h1]
theorem Qkg {f:Nat→Int} {n:Nat} (h:okB f n=true∧n≤300):sumV f n=(kr (toL f) n,true):=by
 unfold sumV;rw [if_pos h.1,decide_eq_true h.2]
theorem Qp3 (p:Option Addr) (n cap:Nat) (f:Nat→Int) (w:World) (h:IS p n cap f w) (hn:n≤17592186044416) (he:Qba f n≠0):
  Calls Tryz.prog 94 #[.slice p n cap] w fun e w'=>e= .returned (.tuple #[.slice none 0 0,.int .i64 (Qba f n:Int)])∧w'=w:=by
 have CS:=Qh (Qe5 p n cap f w h hn);by_cases h1:okB f n=true∧n≤300
 ·have h2:¬kr (toL f) n≤32768:=fun hk=>he (Qg8 h1 hk);have HE:Hid (Qba f n=2):=Qh (Qjn h1 h2);rw [Qkg h1]at CS;have hki:(kr (toL f) n:Int)>32768:=by omega
  generalize kr (toL f) n=S at*;clear he h1 h2 h;go_enter Tryz.func94,Tryz.ntmps94;go_wp2_with fail;refine CS.out.mono ?_;intro e w1 hw1;obtain⟨rfl,e1⟩:=hw1;obtain rfl:=e1.symm;go_wp2_with fail;go_ret2;rw [HE.out];exact⟨rfl,rfl⟩
 ·have HE:Hid (Qba f n=1):=Qh (Qlb h1);have h2:=Qy7 h1;generalize sumV f n=S at*;obtain⟨a,b⟩:=S;simp only at h2 CS;subst h2;clear he h1 h;go_enter Tryz.func94,Tryz.ntmps94;go_wp2_with fail;refine CS.out.mono ?_;intro e w1 hw1;obtain⟨rfl,e1⟩:=hw1;obtain rfl:=e1.symm;go_wp2_with fail;go_ret2;rw [HE.out];exact⟨rfl,rfl⟩
def sgl (l:Nat→Nat):Nat→Nat
 |0=>0
 |k+1=>sgl l k+l k
theorem Q21 {l:Nat→Nat} {n:Nat} (h:∀i,i<n→l i≤15):∀k,k≤n→sgl l k≤15*k:=by
 intro k hk
 induction k with
 |zero=>exact Ql
 |succ k ih=>have:=ih (by omega);have:=h k (by omega);show sgl l k+l k≤_;omega
theorem Qem (p:Option Addr) (n cap:Nat) (f:Nat→Int) (w:World) (h:IS p n cap f w) (hn:n≤300) (hok:okB f n=true):
  Calls Tryz.prog 134 #[.slice p n cap] w fun e w'=>e= .returned (.bool (decide (sgl (toL f) n=1)))∧w'=w:=by
 have hl:=Qz3 hok;have HS:=Qh (Q21 hl);have HO:=Qh hok;obtain⟨l,hl0⟩:∃l,l=toL f:=⟨_,rfl⟩;rw [←hl0]at HS⊢;have HLF:=Qh hl0;clear hl hok hl0;go_enter Tryz.func134,Tryz.ntmps134;go_wp2_with fail;go_loopw [3,4] (fun s i wr=>∃k:Nat,k≤n∧i= .int .i64 (k:Int)∧s= .int .i64 (sgl l k:Int)∧w=wr) (fun _ i _=>n-(intOf i).toNat)
 case atStart=>exact⟨0,by omega,rfl,rfl,rfl⟩
 case round=>
  obtain⟨k,hk,rfl,rfl,rfl⟩:=hrel;have hs:=HS.out k hk;by_cases hlt:k<n
  ·cases p with
   |none=>have:=(h.nil_ rfl).1;omega
   |some a=>
    have c0:=h.cell a rfl k hlt;have hv:=Qbr.1 HO.out k hlt;obtain⟨v,hvv⟩:=Int.eq_ofNat_of_zero_le hv.1;have hlk:l k=v:=by rw [HLF.out];unfold toL;omega
    rw [hvv]at c0;have HN:Hid (sgl l (k+1)=sgl l k+v):=Qh (by show sgl l k+l k=_;rw [hlk])
    generalize sgl l k=S at*;have hv15:v≤15:=by omega
    have hw:IntKind.i64.wrap ((S:Int)+(v:Int))=((S+v:Nat):Int):=by rw [IntWalk.i64_in _ (by omega)];omega
    clear hv hvv hlk;go_wp2_with fail;go_roundw
    case rel=>exact⟨k+1,by omega,by go_num,by rw [HN.out];go_num,by trivial⟩
    case measure=>simp [intOf];omega
  ·obtain rfl:k=n:=by omega
   have HB:Hid ((((sgl l k:Nat):Int)==1)=decide (sgl l k=1)):=Qh (by rw [Bool.eq_iff_iff,beq_iff_eq,decide_eq_true_eq];omega)
   go_wp2_with fail;go_ret;exact⟨by show Ending.returned (.bool (((sgl l k:Nat):Int)==1))=_;rw [HB.out],rfl⟩
structure LI (B:Nat) (w0:World) (l:List Int) (v:Value) (wr:World):Prop where
 own:wr.ownsRow B 3 1 v l.length (l.map fun(x:Int)=>Value.int .i64 x)
 b:Below B w0 wr
 lo:B≤wr.heap.size
theorem LI.nil {B:Nat} {w0 w:World} (h:Below B w0 w) (hB:B≤w.heap.size):LI B w0 [] (.slice none 0 0) w:=⟨⟨rfl,.inl ⟨rfl,rfl⟩⟩,h,hB⟩
theorem LI.below {B:Nat} {w0 w w':World} {l:List Int} {v:Value} (h:LI B w0 l v w) (hb:Below w.heap.size w w'):LI B w0 l v w':=by
 refine⟨⟨h.own.1,?_⟩,h.b.trans (hb.mono h.lo),Nat.le_trans h.lo hb.size⟩;rcases h.own.2 with h1|⟨g,cap,cur,h1,h2,h3,h4⟩
 ·exact .inl h1
 ·refine .inr ⟨g,cap,cur,h1,h2,?_,h4⟩;rw [hb.block g (by
   rcases Nat.lt_or_ge g w.heap.size with hlt|hge
   ·exact hlt
   ·rw [Array.getElem?_eq_none hge]at h3;cases h3)]
  exact h3
def Qam (f:Nat→Int) (n:Nat):List Int:=(List.range n).map f
theorem Qaq (f:Nat→Int) (n:Nat):(Qam f n).length=n:=by simp [Qam]
theorem LI.is {B:Nat} {w0 w:World} {f:Nat→Int} {n:Nat} {v:Value} (h:LI B w0 (Qam f n) v w) (lo:∀i,i<n→-9223372036854775808≤f i) (hi:∀i,i<n→f i<9223372036854775808):
  ∃p cap,v= .slice p n cap∧IS p n cap f w∧∀a,p=some a→B≤a.block:=by
 have hown:=h.own;rw [Qaq]at hown;rcases hown.2 with⟨h1,h2⟩|⟨g,cap,cur,h1,h2,h3,h4,h5,h6,h7⟩
 ·subst h2;exact⟨none,0,h1,⟨fun _=>⟨rfl,rfl⟩,(fun a e=>by cases e),(fun a e=>by cases e),lo,hi⟩,(fun a e=>by cases e)⟩
 ·refine⟨some ⟨g,0,none⟩,cap,h1,⟨(fun e=>by cases e),(fun a e i hi2=> ?_),(fun a e=> ?_),lo,hi⟩,(fun a e=>by cases e;exact h2)⟩
  ·cases e
   rw [Qay,Nat.zero_add,cell_of_row w g i cur 3 (0,0) h3];have:(cur.toList.take (n*1))[i]? =some (.int .i64 (f i)):=by
    rw [h7,Qam,List.map_map,List.getElem?_map,List.getElem?_range hi2];rfl
   rw [List.getElem?_take,if_pos (by omega)]at this
   simpa using this
  ·cases e
   show g<_
   rcases Nat.lt_or_ge g w.heap.size with hlt|hge
   ·exact hlt
   ·rw [Array.getElem?_eq_none hge]at h3;cases h3
theorem IS.set {p:Option Addr} {n cap:Nat} {f:Nat→Int} {w:World} (h:IS p n cap f w) (q:Addr) (v:Value) (hne:∀a,p=some a→a.block≠q.block):IS p n cap f (w.setCell q v):=
 ⟨h.nil_,(fun a ha i hi=>by
  have hb:(a.add i).block=a.block:=by unfold Addr.add;split<;>rfl
  have:(a.add i).block≠q.block:=by rw [hb];exact hne a ha
  rw [World.cell?_of_block (Below.heap_setCell w q v _ this)];exact h.cell a ha i hi),(fun a ha=>by simp [World.setCell];exact h.lt a ha),h.lo,h.hi⟩
theorem Qen {ops:Array Oper} {rest:List Oper} {o:Oper} {a:Act} {Q:Exit→Act→World→Prop} {p:Option Addr} {n cap:Nat} {f:Nat→Int} {w:World} (hgd:o.guard=none) (x:Operand)
  (ho:o.op= .call {callee:= .builtin .append,args:=#[.const (.slice none 0 0),x],argTypes:=#[92,92]}) (hx:a.eval x= .slice p n cap) (h:IS p n cap f w) (hn:n≤17592186044416)
  (k:∀v' w',LI w.heap.size w (Qam f n) v' w'→wpList Tryz.prog ops Q rest (a.put o.dst v') w'):wpList Tryz.prog ops Q (o::rest) a w:=by
 obtain⟨i0,hi,hz0,hz1,hz2⟩:=info_parts Qca;cases p with
 |none=>
  obtain⟨rfl,rfl⟩:=h.nil_ rfl;refine Qav (R:=fun w'=>w'=w) (.slice none 0 0) hgd ?_ ?_
  ·refine Qab (w:=w) ?_ rfl;have hc:a.eval (.const (.slice none 0 0))= .slice none 0 0:=rfl;simp [execOp,ho,hx,hc,resolve,invoke,builtin];go_simp
  ·rintro w' rfl;exact k _ _ (LI.nil Qb Ql)
 |some ad=>
  refine wpList_append_own _ hgd (.const (.slice none 0 0)) x 92 ho w.heap.size 3 i0 (.int .i64 0) 1 8 Tryz.underlying92 hi hz0 hz1 hz2 rfl (by decide) (.slice none 0 0) 0 [] rfl ⟨rfl,.inl ⟨rfl,rfl⟩⟩ ad n cap ((Qam f n).map fun x=> .int .i64 x) hx (by rw [List.length_map,Qaq,Nat.mul_one]) ?_ ?_ ?_ ?_ Ql ?_
  ·intro j u hu;have hj:j<n:=by
    rcases Nat.lt_or_ge j n with h1|h1
    ·exact h1
    ·rw [List.getElem?_eq_none (by rw [List.length_map,Qaq];exact h1)]at hu;cases hu
   rw [h.cell ad rfl j hj,←hu,Qam,List.map_map,List.getElem?_map,List.getElem?_range hj];rfl
  ·intro u hu;obtain⟨y,_,rfl⟩:=List.mem_map.1 hu;rfl
  ·unfold maxLen;omega
  ·omega
  ·intro v' w2 hown hg _;refine k v' w2 ⟨?_,?_,hg.size⟩
   ·rw [Qaq];simpa using hown
   ·exact(Below.refl _ w).grown hg Ql (fun k e=>by cases e)
def newE (f:Nat→Int) (n:Nat):Nat:=if Qba f n=0 then if kr (toL f) n=32768∨kr (toL f) n=0∨sgl (toL f) n=1 then 0 else 2 else Qba f n
theorem Qby {f:Nat→Int} {n:Nat} (h:Qba f n=0):(okB f n=true∧n≤300)∧kr (toL f) n≤32768:=by
 unfold Qba at h;by_cases h1:okB f n=true∧n≤300
 ·rw [if_pos h1]at h;by_cases h2:kr (toL f) n≤32768
  ·exact⟨h1,h2⟩
  ·rw [if_neg h2]at h;cases h
 ·rw [if_neg h1]at h;cases h
theorem Qv1 (p:Option Addr) (n cap:Nat) (f:Nat→Int) (w:World) (h:IS p n cap f w) (hn:n≤17592186044416) (he:Qba f n≠0):
  Calls Tryz.prog 104 #[.slice p n cap] w fun e w'=>e= .returned (.tuple #[.agg #[.slice none 0 0,.slice none 0 0],.int .i64 (Qba f n:Int)])∧Below w.heap.size w w':=by
 have CS:=Qh (fun w h=>Qp3 p n cap f w h hn he);have HI:=fun o=>h.below ((Below.refl _ w).alloc Ql o);have hne:¬(Qba f n:Int)=0:=by omega
 generalize Qba f n=E at*;clear he h hn;go_enter Tryz.func104,Tryz.ntmps104;go_wp2_with fail;refine(CS.out _ (HI _)).mono ?_;intro e w1 hw1;obtain⟨rfl,e1⟩:=hw1;obtain rfl:=e1;have hb0:=Blk.new w 125 #[.slice none 0 0,.slice none 0 0];go_wp2_with (refine wpList_store_row rfl 125 _ _ rfl w.heap.size #[.slice none 0 0,.slice none 0 0] rfl rfl 125 _ hb0 (by kernel_rfl) rfl rfl ?_)
 exact bodyPost_ret (Qak rfl _ _ w.heap.size 125 #[.slice none 0 0,.slice none 0 0] (0,0) _ _ rfl hb0 Tryz.underlying125 rfl (by kernel_rfl) rfl) rfl ⟨rfl,Qb.alloc Ql _⟩
theorem Qsy (p:Option Addr) (n cap:Nat) (f:Nat→Int) (w:World) (h:IS p n cap f w) (he:Qba f n=0) (hk1:kr (toL f) n≠32768) (hk0:kr (toL f) n≠0) (hs:sgl (toL f) n≠1):
  Calls Tryz.prog 104 #[.slice p n cap] w fun e w'=>e= .returned (.tuple #[.agg #[.slice none 0 0,.slice none 0 0],.int .i64 2])∧Below w.heap.size w w':=by
 obtain⟨⟨hok,hn⟩,hk⟩:=Qby he;have CC:=Qh (fun w h=>Qde p n cap f w h hn hok hk);have CS:=Qh (fun w h=>Qe5 p n cap f w h (by omega))
 rw [Qkg ⟨hok,hn⟩]at CS;have CG:=Qh (fun w h=>Qem p n cap f w h hn hok);rw [decide_eq_false hs]at CG;have HI:=h.below ((Below.refl _ w).alloc Ql (.cells #[.slice none 0 0,.slice none 0 0] 125));have hki1:¬(kr (toL f) n:Int)=32768:=by omega
 have hki0:¬(kr (toL f) n:Int)=0:=by omega
 generalize kr (toL f) n=S at*;clear he hk1 hk0 hs hk hok h;go_enter Tryz.func104,Tryz.ntmps104;have hb0:=Blk.new w 125 #[.slice none 0 0,.slice none 0 0];have hl0:Below w.heap.size w (w.alloc (.cells #[.slice none 0 0,.slice none 0 0] 125)):=Qb.alloc Ql _;go_wp2_with fail;refine(CC.out _ HI).mono ?_;rintro e w1 ⟨rfl,i1,b1⟩;have hb1:=hb0.below b1 hb0.lt;have hl1:=hl0.trans (b1.mono hl0.size);have HI1:=HI.below b1;clear hb0 hl0 b1 HI i1;go_wp2_with fail;refine(CS.out _ HI1).mono ?_;intro e w2 hw2;obtain⟨rfl,e2⟩:=hw2;obtain rfl:=e2.symm;go_wp2_with fail;have hbn1:((S:Int) !=32768)=true:=bne_iff_ne.2 hki1;have hbn0:((S:Int) !=0)=true:=bne_iff_ne.2 hki0;simp only [hbn1,hbn0,Bool.and_self];refine(CG.out _ HI1).mono ?_;intro e w2 hw2;obtain⟨rfl,e2⟩:=hw2;obtain rfl:=e2.symm;have c0:w1.cell? ⟨w.heap.size,0,none⟩=some (.slice none 0 0):=hb1.cell 0;have c1:w1.cell? ⟨w.heap.size,1,none⟩=some (.slice none 0 0):=hb1.cell 1;have f0:=hb1.frozen 0;have f1:=hb1.frozen 1;go_wp2_with fail;have hb4:=(hb1.set_ 0 (.slice none 0 0)).set_ 1 (.slice none 0 0);have e4:((#[Value.slice none 0 0,.slice none 0 0]:Array Value).setIfInBounds 0 (.slice none 0 0)).setIfInBounds 1 (.slice none 0 0)=#[.slice none 0 0,.slice none 0 0]:=rfl;rw [e4]at hb4;exact bodyPost_ret (Qak rfl _ _ w.heap.size 125 #[.slice none 0 0,.slice none 0 0] (0,0) _ _ rfl hb4 Tryz.underlying125 rfl (by kernel_rfl) rfl) rfl ⟨rfl,(hl1.setCell Ql _).setCell Ql _⟩
theorem Qp7 (p:Option Addr) (n cap:Nat) (f:Nat→Int) (w:World) (h:IS p n cap f w) (he:Qba f n=0) (hk1:kr (toL f) n=32768):
  Calls Tryz.prog 104 #[.slice p n cap] w fun e w'=>∃p1 c1 p2 c2,e= .returned (.tuple #[.agg #[.slice p1 n c1,.slice p2 n c2],.int .i64 0])∧IS p1 n c1 f w'∧IS p2 n c2 (fun i=>(Qa0 (toL f) n i:Int)) w'∧Below w.heap.size w w'∧(∀a,p1=some a→w.heap.size≤a.block)∧∀a,p2=some a→w.heap.size≤a.block:=by
 obtain⟨⟨hok,hn⟩,hk⟩:=Qby he;have CC:=Qh (fun w h=>Qde p n cap f w h hn hok hk);have CS:=Qh (fun w h=>Qe5 p n cap f w h (by omega))
 rw [Qkg ⟨hok,hn⟩]at CS;have CG:=Qh (fun w h=>Qem p n cap f w h hn hok);have HI:=h.below ((Below.refl _ w).alloc Ql (.cells #[.slice none 0 0,.slice none 0 0] 125));have hlo:=h.lo;have hhi:=h.hi;clear he hk hok h;have hki1:(kr (toL f) n:Int)=32768:=by omega
 generalize kr (toL f) n=S at*;obtain rfl:S=32768:=by omega
 clear hki1 hk1;go_enter Tryz.func104,Tryz.ntmps104;have hb0:=Blk.new w 125 #[.slice none 0 0,.slice none 0 0];have hl0:Below w.heap.size w (w.alloc (.cells #[.slice none 0 0,.slice none 0 0] 125)):=Qb.alloc Ql _;have hz0:(w.alloc (.cells #[.slice none 0 0,.slice none 0 0] 125)).heap.size=w.heap.size+1:=by simp
 go_wp2_with fail;refine(CC.out _ HI).mono ?_;rintro e w1 ⟨rfl,i1,b1⟩;rw [hz0]at i1;have hb1:=hb0.below b1 hb0.lt;have hl1:=hl0.trans (b1.mono hl0.size);have hs1:w.heap.size+1≤w1.heap.size:=by have:=b1.size;omega
 have HI1:=HI.below b1;clear hb0 hl0 b1 HI hz0;go_wp2_with fail;refine(CS.out _ HI1).mono ?_;intro e w2 hw2;obtain⟨rfl,e2⟩:=hw2;obtain rfl:=e2.symm;go_wp2_with (refine Qen rfl (.tmp 34) rfl rfl HI1 (by omega) ?_;intro vc w3 hL;obtain⟨p3,c3,rfl,i3,hpb⟩:=hL.is hlo hhi;have b3:=hL.b;have hb3:=hb1.below b3 hb1.lt;have hl3:=hl1.trans (b3.mono hl1.size);have i13:=i1.below b3;have c0:w3.cell? ⟨w.heap.size,0,none⟩=some (.slice none 0 0):=hb3.cell 0;have c1:w3.cell? ⟨w.heap.size,1,none⟩=some (.slice none 0 0):=hb3.cell 1;have f0:=hb3.frozen 0;have f1:=hb3.frozen 1;have hpne:∀a,p3=some a→a.block≠w.heap.size:=(fun a ha=>by have:=hpb a ha;omega);clear hL b3 hb1 hl1 i1 HI1)
 have hb4:=(hb3.set_ 0 (.slice p3 n c3)).set_ 1 (.slice (some ⟨w.heap.size+1,0,none⟩) n n);have e4:((#[Value.slice none 0 0,.slice none 0 0]:Array Value).setIfInBounds 0 (.slice p3 n c3)).setIfInBounds 1 (.slice (some ⟨w.heap.size+1,0,none⟩) n n)=#[.slice p3 n c3,.slice (some ⟨w.heap.size+1,0,none⟩) n n]:=rfl;rw [e4]at hb4;have hinf:(Tryz.prog.info? 125).map (·.size)=some (#[Value.slice p3 n c3,.slice (some ⟨w.heap.size+1,0,none⟩) n n]).size:=by
  show _=some 2
  kernel_rfl
 have hq:∀a:Addr,some (⟨w.heap.size+1,0,none⟩:Addr)=some a→a.block≠w.heap.size:=fun a ha=>by cases ha;show w.heap.size+1≠_;omega
 have i5:=(i3.set ⟨w.heap.size,0,none⟩ (.slice p3 n c3) hpne).set ⟨w.heap.size,1,none⟩ (.slice (some ⟨w.heap.size+1,0,none⟩) n n) hpne;have i6:=(i13.set ⟨w.heap.size,0,none⟩ (.slice p3 n c3) hq).set ⟨w.heap.size,1,none⟩ (.slice (some ⟨w.heap.size+1,0,none⟩) n n) hq;exact bodyPost_ret (Qak rfl _ _ w.heap.size 125 #[.slice p3 n c3,.slice (some ⟨w.heap.size+1,0,none⟩) n n] (0,0) _ _ rfl hb4 Tryz.underlying125 rfl hinf rfl) rfl ⟨p3,c3,_,_,rfl,i5,i6,(hl3.setCell Ql _).setCell Ql _,fun a ha=>by have:=hpb a ha;omega,fun a ha=>by cases ha;show w.heap.size≤w.heap.size+1;omega⟩
theorem Qs0 (p:Option Addr) (n cap:Nat) (f:Nat→Int) (w:World) (h:IS p n cap f w) (he:Qba f n=0) (hk0:kr (toL f) n=0):
  Calls Tryz.prog 104 #[.slice p n cap] w fun e w'=>∃p1 c1 p2 c2,e= .returned (.tuple #[.agg #[.slice p1 n c1,.slice p2 n c2],.int .i64 0])∧IS p1 n c1 f w'∧IS p2 n c2 (fun i=>(Qa0 (toL f) n i:Int)) w'∧Below w.heap.size w w'∧(∀a,p1=some a→w.heap.size≤a.block)∧∀a,p2=some a→w.heap.size≤a.block:=by
 obtain⟨⟨hok,hn⟩,hk⟩:=Qby he;have CC:=Qh (fun w h=>Qde p n cap f w h hn hok hk);have CS:=Qh (fun w h=>Qe5 p n cap f w h (by omega))
 rw [Qkg ⟨hok,hn⟩]at CS;have CG:=Qh (fun w h=>Qem p n cap f w h hn hok);have HI:=h.below ((Below.refl _ w).alloc Ql (.cells #[.slice none 0 0,.slice none 0 0] 125));have hlo:=h.lo;have hhi:=h.hi;clear he hk hok h;generalize kr (toL f) n=S at*;subst hk0;go_enter Tryz.func104,Tryz.ntmps104;have hb0:=Blk.new w 125 #[.slice none 0 0,.slice none 0 0];have hl0:Below w.heap.size w (w.alloc (.cells #[.slice none 0 0,.slice none 0 0] 125)):=Qb.alloc Ql _;have hz0:(w.alloc (.cells #[.slice none 0 0,.slice none 0 0] 125)).heap.size=w.heap.size+1:=by simp
 go_wp2_with fail;refine(CC.out _ HI).mono ?_;rintro e w1 ⟨rfl,i1,b1⟩;rw [hz0]at i1;have hb1:=hb0.below b1 hb0.lt;have hl1:=hl0.trans (b1.mono hl0.size);have hs1:w.heap.size+1≤w1.heap.size:=by have:=b1.size;omega
 have HI1:=HI.below b1;clear hb0 hl0 b1 HI hz0;go_wp2_with fail;refine(CS.out _ HI1).mono ?_;intro e w2 hw2;obtain⟨rfl,e2⟩:=hw2;obtain rfl:=e2.symm;go_wp2_with (refine Qen rfl (.tmp 34) rfl rfl HI1 (by omega) ?_;intro vc w3 hL;obtain⟨p3,c3,rfl,i3,hpb⟩:=hL.is hlo hhi;have b3:=hL.b;have hb3:=hb1.below b3 hb1.lt;have hl3:=hl1.trans (b3.mono hl1.size);have i13:=i1.below b3;have c0:w3.cell? ⟨w.heap.size,0,none⟩=some (.slice none 0 0):=hb3.cell 0;have c1:w3.cell? ⟨w.heap.size,1,none⟩=some (.slice none 0 0):=hb3.cell 1;have f0:=hb3.frozen 0;have f1:=hb3.frozen 1;have hpne:∀a,p3=some a→a.block≠w.heap.size:=(fun a ha=>by have:=hpb a ha;omega);clear hL b3 hb1 hl1 i1 HI1)
 have hb4:=(hb3.set_ 0 (.slice p3 n c3)).set_ 1 (.slice (some ⟨w.heap.size+1,0,none⟩) n n);have e4:((#[Value.slice none 0 0,.slice none 0 0]:Array Value).setIfInBounds 0 (.slice p3 n c3)).setIfInBounds 1 (.slice (some ⟨w.heap.size+1,0,none⟩) n n)=#[.slice p3 n c3,.slice (some ⟨w.heap.size+1,0,none⟩) n n]:=rfl;rw [e4]at hb4;have hinf:(Tryz.prog.info? 125).map (·.size)=some (#[Value.slice p3 n c3,.slice (some ⟨w.heap.size+1,0,none⟩) n n]).size:=by
  show _=some 2
  kernel_rfl
 have hq:∀a:Addr,some (⟨w.heap.size+1,0,none⟩:Addr)=some a→a.block≠w.heap.size:=fun a ha=>by cases ha;show w.heap.size+1≠_;omega
 have i5:=(i3.set ⟨w.heap.size,0,none⟩ (.slice p3 n c3) hpne).set ⟨w.heap.size,1,none⟩ (.slice (some ⟨w.heap.size+1,0,none⟩) n n) hpne;have i6:=(i13.set ⟨w.heap.size,0,none⟩ (.slice p3 n c3) hq).set ⟨w.heap.size,1,none⟩ (.slice (some ⟨w.heap.size+1,0,none⟩) n n) hq;exact bodyPost_ret (Qak rfl _ _ w.heap.size 125 #[.slice p3 n c3,.slice (some ⟨w.heap.size+1,0,none⟩) n n] (0,0) _ _ rfl hb4 Tryz.underlying125 rfl hinf rfl) rfl ⟨p3,c3,_,_,rfl,i5,i6,(hl3.setCell Ql _).setCell Ql _,fun a ha=>by have:=hpb a ha;omega,fun a ha=>by cases ha;show w.heap.size≤w.heap.size+1;omega⟩
theorem Qoh (p:Option Addr) (n cap:Nat) (f:Nat→Int) (w:World) (h:IS p n cap f w) (he:Qba f n=0) (hk1:kr (toL f) n≠32768) (hk0:kr (toL f) n≠0) (hs:sgl (toL f) n=1):
  Calls Tryz.prog 104 #[.slice p n cap] w fun e w'=>∃p1 c1 p2 c2,e= .returned (.tuple #[.agg #[.slice p1 n c1,.slice p2 n c2],.int .i64 0])∧IS p1 n c1 f w'∧IS p2 n c2 (fun i=>(Qa0 (toL f) n i:Int)) w'∧Below w.heap.size w w'∧(∀a,p1=some a→w.heap.size≤a.block)∧∀a,p2=some a→w.heap.size≤a.block:=by
 obtain⟨⟨hok,hn⟩,hk⟩:=Qby he;have CC:=Qh (fun w h=>Qde p n cap f w h hn hok hk);have CS:=Qh (fun w h=>Qe5 p n cap f w h (by omega))
 rw [Qkg ⟨hok,hn⟩]at CS;have CG:=Qh (fun w h=>Qem p n cap f w h hn hok);have HI:=h.below ((Below.refl _ w).alloc Ql (.cells #[.slice none 0 0,.slice none 0 0] 125));have hlo:=h.lo;have hhi:=h.hi;clear he hk hok h;rw [decide_eq_true hs]at CG;have hki1:¬(kr (toL f) n:Int)=32768:=by omega
 have hki0:¬(kr (toL f) n:Int)=0:=by omega
 generalize kr (toL f) n=S at*;clear hk1 hk0 hs;go_enter Tryz.func104,Tryz.ntmps104;have hb0:=Blk.new w 125 #[.slice none 0 0,.slice none 0 0];have hl0:Below w.heap.size w (w.alloc (.cells #[.slice none 0 0,.slice none 0 0] 125)):=Qb.alloc Ql _;have hz0:(w.alloc (.cells #[.slice none 0 0,.slice none 0 0] 125)).heap.size=w.heap.size+1:=by simp
 go_wp2_with fail;refine(CC.out _ HI).mono ?_;rintro e w1 ⟨rfl,i1,b1⟩;rw [hz0]at i1;have hb1:=hb0.below b1 hb0.lt;have hl1:=hl0.trans (b1.mono hl0.size);have hs1:w.heap.size+1≤w1.heap.size:=by have:=b1.size;omega
 have HI1:=HI.below b1;clear hb0 hl0 b1 HI hz0;go_wp2_with fail;refine(CS.out _ HI1).mono ?_;intro e w2 hw2;obtain⟨rfl,e2⟩:=hw2;obtain rfl:=e2.symm;go_wp2_with fail;have hbn1:((S:Int) !=32768)=true:=bne_iff_ne.2 hki1;have hbn0:((S:Int) !=0)=true:=bne_iff_ne.2 hki0;simp only [hbn1,hbn0,Bool.and_self];refine(CG.out _ HI1).mono ?_;intro e w2 hw2;obtain⟨rfl,e2⟩:=hw2;obtain rfl:=e2.symm;go_wp2_with (refine Qen rfl (.tmp 34) rfl rfl HI1 (by omega) ?_;intro vc w3 hL;obtain⟨p3,c3,rfl,i3,hpb⟩:=hL.is hlo hhi;have b3:=hL.b;have hb3:=hb1.below b3 hb1.lt;have hl3:=hl1.trans (b3.mono hl1.size);have i13:=i1.below b3;have c0:w3.cell? ⟨w.heap.size,0,none⟩=some (.slice none 0 0):=hb3.cell 0;have c1:w3.cell? ⟨w.heap.size,1,none⟩=some (.slice none 0 0):=hb3.cell 1;have f0:=hb3.frozen 0;have f1:=hb3.frozen 1;have hpne:∀a,p3=some a→a.block≠w.heap.size:=(fun a ha=>by have:=hpb a ha;omega);clear hL b3 hb1 hl1 i1 HI1)
 have hb4:=(hb3.set_ 0 (.slice p3 n c3)).set_ 1 (.slice (some ⟨w.heap.size+1,0,none⟩) n n);have e4:((#[Value.slice none 0 0,.slice none 0 0]:Array Value).setIfInBounds 0 (.slice p3 n c3)).setIfInBounds 1 (.slice (some ⟨w.heap.size+1,0,none⟩) n n)=#[.slice p3 n c3,.slice (some ⟨w.heap.size+1,0,none⟩) n n]:=rfl;rw [e4]at hb4;have hinf:(Tryz.prog.info? 125).map (·.size)=some (#[Value.slice p3 n c3,.slice (some ⟨w.heap.size+1,0,none⟩) n n]).size:=by
  show _=some 2
  kernel_rfl
 have hq:∀a:Addr,some (⟨w.heap.size+1,0,none⟩:Addr)=some a→a.block≠w.heap.size:=fun a ha=>by cases ha;show w.heap.size+1≠_;omega
 have i5:=(i3.set ⟨w.heap.size,0,none⟩ (.slice p3 n c3) hpne).set ⟨w.heap.size,1,none⟩ (.slice (some ⟨w.heap.size+1,0,none⟩) n n) hpne;have i6:=(i13.set ⟨w.heap.size,0,none⟩ (.slice p3 n c3) hq).set ⟨w.heap.size,1,none⟩ (.slice (some ⟨w.heap.size+1,0,none⟩) n n) hq;exact bodyPost_ret (Qak rfl _ _ w.heap.size 125 #[.slice p3 n c3,.slice (some ⟨w.heap.size+1,0,none⟩) n n] (0,0) _ _ rfl hb4 Tryz.underlying125 rfl hinf rfl) rfl ⟨p3,c3,_,_,rfl,i5,i6,(hl3.setCell Ql _).setCell Ql _,fun a ha=>by have:=hpb a ha;omega,fun a ha=>by cases ha;show w.heap.size≤w.heap.size+1;omega⟩
def bitH (s:ByteArray) (i:Nat):Nat:=Qac s (i /8) /2^(i%8)%2
structure NxW (p1:Option Addr) (c1:Nat) (p2:Option Addr) (c2 n g:Nat) (f f2:Nat→Int) (w wr:World):Prop where
 l:IS p1 n c1 f wr
 c:IS p2 n c2 f2 wr
 o:Blk wr g 125 #[.slice p1 n c1,.slice p2 n c2]
 b:Below w.heap.size w wr
theorem NxW.c0 {p1 p2:Option Addr} {c1 c2 n g:Nat} {f f2:Nat→Int} {w wr:World} (h:NxW p1 c1 p2 c2 n g f f2 w wr):wr.cell? ⟨g,0,none⟩=some (.slice p1 n c1):=h.o.cell 0
theorem NxW.c1 {p1 p2:Option Addr} {c1 c2 n g:Nat} {f f2:Nat→Int} {w wr:World} (h:NxW p1 c1 p2 c2 n g f f2 w wr):wr.cell? ⟨g,1,none⟩=some (.slice p2 n c2):=h.o.cell 1
theorem Qxz {l:Nat→Nat} {n d c m:Nat} (h:fnd l n d c m=none):fnd l n d c (m+1)=if l m=d∧Qa0 l n m=c then some m else none:=by
 show(match fnd l n d c m with|some k=>some k|none=>if l m=d∧Qa0 l n m=c then some m else none)=_
 rw [h]
theorem Qxy {l:Nat→Nat} {n d c m k:Nat} (h:fnd l n d c m=some k) {j:Nat} (hj:m≤j):fnd l n d c j=some k:=by
 induction hj with
 |refl=>exact h
 |step _ ih=>
  show(match fnd l n d c _ with|some k=>some k|none=>_)=_
  rw [ih]
theorem Q1h {B:Nat→Nat} (hB:∀i,B i<2) (at_ k:Nat):rv B at_ k<2^k:=by
 induction k with
 |zero=>exact Nat.one_pos
 |succ k ih=>have:=hB (at_+k);show 2*rv B at_ k+B (at_+k)<_;rw [Nat.pow_succ];omega
theorem Qeq (s:ByteArray) (i:Nat):bitH s i<2:=Nat.mod_lt _ (by decide)
theorem Qhk (l:Nat→Nat) (n:Nat) (B:Nat→Nat) (T at_ d f:Nat) (h:T≤at_+d):Qc0 l n B T at_ d (f+1)=(0,0,3):=if_pos h
theorem Qfa {l:Nat→Nat} {n:Nat} {B:Nat→Nat} {T at_ d f k:Nat} (h:¬T≤at_+d) (hk:fnd l n (d+1) (rv B at_ (d+1)) n=some k):Qc0 l n B T at_ d (f+1)=(k,at_+d+1,0):=by
 unfold Qc0;rw [if_neg h,hk]
theorem Qhl {l:Nat→Nat} {n:Nat} {B:Nat→Nat} {T at_ d f:Nat} (h:¬T≤at_+d) (hk:fnd l n (d+1) (rv B at_ (d+1)) n=none):Qc0 l n B T at_ d (f+1)=Qc0 l n B T at_ (d+1) f:=by
 rw [Qc0,if_neg h,hk]
theorem Qsv (l:Nat→Nat) (n:Nat) (B:Nat→Nat) (T at_ d:Nat):Qc0 l n B T at_ d 0=(0,0,2):=rfl
theorem Qtl:∀x:Fin 256,bits .and .i64 (x.val:Int) 1=((x.val%2:Nat):Int):=by decide+kernel
theorem Qxa (x r:Nat) (h:x<256):bits .and .i64 (wrap64 ((x:Int) /2^r)) 1=((x /2^r%2:Nat):Int):=by
 have e:(x:Int) /2^r=((x /2^r:Nat):Int):=by norm_cast
 have h2:x /2^r<256:=Nat.lt_of_le_of_lt (Nat.div_le_self _ _) h;rw [e];clear e;generalize x /2^r=y at h2⊢;rw [IntWalk.wrap64_in _ (by omega)]
 exact Qtl ⟨y,h2⟩
theorem Qs1 (p1:Option Addr) (c1:Nat) (p2:Option Addr) (c2 n:Nat) (f:Nat→Int) (s:ByteArray) (at_:Nat) (w:World) (hn:n≤300) (hok:okB f n=true)
  (h1:IS p1 n c1 f w) (h2:IS p2 n c2 (fun i=>(Qa0 (toL f) n i:Int)) w) (hs:s.size≤281474976710656) (ha:at_<9223372036854775808) (r:Nat×Nat×Nat) (hr0:Qc0 (toL f) n (bitH s) (8*s.size) at_ 0 15=r):
  Calls Tryz.prog 105 #[.agg #[.slice p1 n c1,.slice p2 n c2],.string s,.int .i64 (at_:Int)] w fun e w'=>e= .returned (.tuple #[.int .i64 (r.1:Int),.int .i64 (r.2.1:Int),.int .i64 (r.2.2:Int)])∧Below w.heap.size w w':=by
 have hb0:=fun o=>(Below.refl _ w).alloc Ql o;have hi1:=fun o=>h1.below (hb0 o);have hi2:=fun o=>h2.below (hb0 o);have HR:=Qh hr0;have HO:=Qh (Qbr.1 hok);have ha0:¬(at_:Int)<0:=by omega
 have HA:=Qh ha;obtain⟨l,hl0⟩:∃l,l=toL f:=⟨_,rfl⟩;rw [←hl0]at HR hi2;have HLF:=Qh hl0;clear hr0 hok h1 h2 hl0 ha;go_enter Tryz.func105,Tryz.ntmps105;go_wp2_with fail;obtain⟨g,hg⟩:∃g,g=w.heap.size:=⟨_,rfl⟩;have H0:Hid (NxW p1 c1 p2 c2 n g f (fun i=>(Qa0 l n i:Int)) w (w.alloc (.cells #[.slice p1 n c1,.slice p2 n c2] 125))):=Qh ⟨hi1 _,hi2 _,by rw [hg];exact Blk.new w _ _,hb0 _⟩
 rw [←hg];clear hb0 hi1 hi2 hg;go_loopw [9,10] (fun c i wr=>∃d:Nat,d≤15∧i= .int .i64 ((d+1:Nat):Int)∧c= .int .i64 (rv (bitH s) at_ d:Int)∧Hid (Qc0 l n (bitH s) (8*s.size) at_ d (15-d)=r)∧NxW p1 c1 p2 c2 n g f (fun i=>(Qa0 l n i:Int)) w wr) (fun _ i _=>16-(intOf i).toNat)
 case atStart=>exact⟨0,by omega,rfl,rfl,HR,H0.out⟩
 case round=>
  obtain⟨d,hd,rfl,rfl,HV,hr⟩:=hrel;have hrv:=Q1h (Qeq s) at_ d;by_cases hd15:d<15
  ·have hp2:2^d≤2^14:=Nat.pow_le_pow_right (by decide) (by omega)
   have hCb:rv (bitH s) at_ d<32768:=by omega
   obtain⟨D,hD⟩:∃D,D=d+1:=⟨_,rfl⟩;rw [←hD];have hD15:(D:Int)≤15:=by omega
   obtain⟨q,hq15⟩:∃q,15-d=q+1:=⟨14-d,by omega⟩
   rw [hq15]at HV;obtain⟨y,hy⟩:∃y:Int,IntKind.i64.wrap ((at_:Int)+(D:Int))=y:=⟨_,rfl⟩;obtain⟨x,hx⟩:∃x:Int,IntKind.i64.wrap (y-1)=x:=⟨_,rfl⟩;have ha:=HA.out;have hxv:(at_+d<9223372036854775808∧x=(at_:Int)+(d:Int))∨(¬at_+d<9223372036854775808∧x<0∧-9223372036854775808≤x):=by
    rcases(show at_+D<9223372036854775808∨at_+D=9223372036854775808∨9223372036854775808<at_+D by omega)with h1|h1|h1
    ·have e1:y=(at_:Int)+(D:Int):=by rw [←hy];exact IntWalk.i64_in _ (by omega)
     have e2:x=y-1:=by rw [←hx];exact IntWalk.i64_in _ (by omega)
     exact .inl ⟨by omega,by omega⟩
    ·have e1:y= -9223372036854775808:=by rw [←hy,show(at_:Int)+(D:Int)=9223372036854775808 by omega];decide
     have e2:x=9223372036854775807:=by rw [←hx,e1];decide
     exact .inl ⟨by omega,by omega⟩
    ·have e1:y=(at_:Int)+(D:Int)-18446744073709551616:=by rw [←hy,IntKind.wrap_i64];omega
     have e2:x=y-1:=by rw [←hx];exact IntWalk.i64_in _ (by omega)
     exact .inr ⟨by omega,by omega,by omega⟩
   have hxlo: -9223372036854775808≤x∧x<9223372036854775808:=by omega
   obtain⟨z,hz⟩:∃z:Int,x.tdiv 8=z:=⟨_,rfl⟩;have hzb: -9223372036854775808≤z∧z≤9223372036854775807:=by
    rw [←hz];rcases Int.lt_or_le x 0 with h1|h1
    ·rw [←Int.neg_neg x,Int.neg_tdiv,Int.tdiv_eq_ediv_of_nonneg (by omega)];omega
    ·rw [Int.tdiv_eq_ediv_of_nonneg h1];omega
   have hzw:IntKind.i64.wrap z=z:=IntWalk.i64_in _ hzb;by_cases hT:8*s.size≤at_+d
   ·have HE:Hid (r=(0,0,3)):=Qh (by rw [←HV.out,Qhk _ _ _ _ _ _ _ hT])
    have hor:x<(at_:Int)∨(¬x<(at_:Int)∧z≥(s.size:Int)):=by
     rcases hxv with⟨h1,h2⟩|⟨h1,h2,h3⟩
     ·refine .inr ⟨by omega,?_⟩
      rw [←hz,h2,Int.tdiv_eq_ediv_of_nonneg (by omega)];omega
     ·exact .inl (by omega)
    have hb:=hr.b;clear hrv hp2 hq15 hxv ha HV hr H0 HA hD hT hxlo hzb hd15 HR HO;generalize rv (bitH s) at_ d=C at*;rcases hor with hq|⟨hq1,hq2⟩
    all_goals
     go_wp2_with fail;go_ret3;rw [HE.out];exact⟨rfl,hb⟩
   ·obtain⟨P,hP⟩:∃P,P=at_+d:=⟨_,rfl⟩;obtain⟨Q,hQ⟩:∃Q,Q=P /8:=⟨_,rfl⟩;obtain⟨R,hR⟩:∃R,R=P%8:=⟨_,rfl⟩;have hxP:x=(P:Int):=by
     rcases hxv with⟨h1,h2⟩|⟨h1,h2,h3⟩
     ·omega
     ·omega
    rw [hxP]at hx;have hPa:¬(P:Int)<(at_:Int):=by omega
    have hz1:(P:Int).tdiv 8=(Q:Int):=by rw [Int.tdiv_eq_ediv_of_nonneg (by omega)];omega
    have hR1:(P:Int).tmod 8=(R:Int):=by rw [Int.tmod_eq_emod_of_nonneg (by omega)];omega
    have hQs:Q<s.size:=by omega
    have hQn:¬(Q:Int)≥(s.size:Int):=by omega
    have hQw:IntKind.i64.wrap (Q:Int)=(Q:Int):=IntWalk.i64_in _ (by omega)
    have hR8:R<8:=by omega
    have hmin:min R 8=R:=by omega
    have hbit:bits .and .i64 (wrap64 (((s[Q]).toNat:Int) /2^R)) 1=((bitH s P:Nat):Int):=by
     rw [Qa2 s Q hQs,Qxa _ _ (Qaz _ _)];unfold bitH;rw [←hQ,←hR]
    have hb2:=Qeq s P;have HC:Hid (rv (bitH s) at_ (d+1)=2*rv (bitH s) at_ d+bitH s P):=Qh (by rw [hP];rfl)
    have HT:=Qh hT;have HP1:=Qh hP;have HDd:=Qh hD;obtain⟨C,hC⟩:∃C,C=rv (bitH s) at_ d:=⟨_,rfl⟩;rw [←hC]at HC hCb⊢;obtain⟨β,hβ⟩:∃β,β=bitH s P:=⟨_,rfl⟩;rw [←hβ]at hbit hb2 HC;have HQ15:=Qh hq15;have HPB:Hid (P<2251799813685248):=Qh (by omega)
    have HS:=Qh hs;have HY:Hid (wrap64 ((at_:Int)+(D:Int))=y):=Qh (by rw [←IntWalk.i64_left];exact hy)
    have HX:Hid (wrap64 (y-1)=(P:Int)):=Qh (by rw [←IntWalk.i64_left];exact hx)
    have HBIT:=Qh hbit;clear hbit;clear hs hx hy;clear hxv hxP hxlo hzb hzw hz hrv hp2 ha hd15 hq15 hD hP hQ hR hC hβ hT H0 HA HR;go_wp2_with (first|rw [HY.out]|rw [HX.out]|rw [HBIT.out])
    have HC2:Hid (2*(C:Int)+(β:Int)=((2*C+β:Nat):Int)):=Qh (by omega)
    rw [HC2.out];obtain⟨K,hK⟩:∃K,K=2*C+β:=⟨_,rfl⟩;have HC3:Hid (rv (bitH s) at_ (d+1)=K):=Qh (by rw [HC.out,hK])
    rw [←hK];clear hK HC HC2 HBIT HY HX hb2 hCb hmin hQn hQw hR8 hz1 hR1 hPa;go_loopw [12] (fun i wr=>∃m:Nat,m≤n∧i= .int .i64 (m:Int)∧Hid (fnd l n D K m=none)∧NxW p1 c1 p2 c2 n g f (fun i=>(Qa0 l n i:Int)) w wr) (fun i _=>n-(intOf i).toNat)
    case atStart=>exact⟨0,by omega,rfl,Qh rfl,hr⟩
    case round=>
     obtain⟨m,hm,rfl,HF,hr⟩:=hrel;have hc0:=hr.c0;have hc1:=hr.c1;by_cases hlt:m<n
     ·cases p1 with
      |none=>have:=(hr.l.nil_ rfl).1;omega
      |some a1=>
       cases p2 with
       |none=>have:=(hr.c.nil_ rfl).1;omega
       |some a2=>
        have k0:=hr.l.cell a1 rfl m hlt;have k1:=hr.c.cell a2 rfl m hlt;have hv:=HO.out m hlt;obtain⟨v,hvv⟩:=Int.eq_ofNat_of_zero_le hv.1;have hlm:l m=v:=by rw [HLF.out];unfold toL;omega
        rw [hvv]at k0;obtain⟨u,hu⟩:∃u,u=Qa0 l n m:=⟨_,rfl⟩;rw [←hu]at k1;have HFN:=Qh (Qxz HF.out);by_cases hvD:v=D
        ·have hvi:(v:Int)=(D:Int):=by omega
         by_cases huK:u=K
         ·have hui:(u:Int)=(K:Int):=by omega
          have HE:Hid (r=(m,P+1,0)):=Qh (by
           rw [←HV.out,HP1.out];refine Qfa HT.out ?_;rw [HC3.out,←HDd.out];refine Qxy (m:=m+1) ?_ hlt;rw [HFN.out,if_pos ⟨by omega,by omega⟩])
          have hP1:IntKind.i64.wrap ((P:Int)+1)=(P:Int)+1:=IntWalk.i64_in _ (by have:=HPB.out;omega)
          have hb:=hr.b;clear hv hvv hlm hu HFN HF hr HV HT;go_wp2_with fail;go_ret3;rw [HE.out];exact⟨rfl,hb⟩
         ·have hui:¬(u:Int)=(K:Int):=by omega
          have HG:Hid (fnd l n D K (m+1)=none):=Qh (by rw [HFN.out,if_neg (by rintro⟨h1,h2⟩;omega)])
          clear hv hvv hlm hu HFN HF huK;go_wp2_with fail;go_roundw
          case rel=>exact⟨m+1,by omega,by go_num,HG,hr⟩
          case measure=>simp [intOf];omega
        ·have hvi:¬(v:Int)=(D:Int):=by omega
         have HG:Hid (fnd l n D K (m+1)=none):=Qh (by rw [HFN.out,if_neg (by rintro⟨h1,h2⟩;omega)])
         clear hv hvv hlm hu HFN HF hvD;go_wp2_with fail;go_roundw
         case rel=>exact⟨m+1,by omega,by go_num,HG,hr⟩
         case measure=>simp [intOf];omega
     ·obtain rfl:m=n:=by omega
      have HV2:Hid (Qc0 l m (bitH s) (8*s.size) at_ (d+1) (15-(d+1))=r):=Qh (by
       rw [←HV.out,show 15-(d+1)=q by have:=HQ15.out;omega]
       refine(Qhl HT.out ?_).symm;rw [HC3.out,←HDd.out];exact HF.out)
      have hDi:IntKind.i64.wrap ((D:Int)+1)=(D:Int)+1:=IntWalk.i64_in _ (by omega)
      have HD1:Hid ((D:Int)+1=((d+1+1:Nat):Int)):=Qh (by have:=HDd.out;omega)
      clear HV HF;go_wp2_with fail;go_roundw
      case rel=>exact⟨d+1,by have:=HDd.out;omega,by rw [HD1.out],by rw [HC3.out],HV2,hr⟩
      case measure=>simp [intOf];omega
  ·obtain rfl:d=15:=by omega
   have HE:Hid (r=(0,0,2)):=Qh (by rw [←HV.out,Nat.sub_self,Qsv])
   have hb:=hr.b;clear hrv HV hr H0 HA HR HO;generalize rv (bitH s) at_ 15=C at*;go_wp2_with fail;go_ret3;rw [HE.out];exact⟨rfl,hb⟩
end Go.Proofs.YtbmcjdoiohcaaaaGreat
