/- Lists of integers, as they are read; the reference's sum and single of chapter 9. -/
import Derived.Test.YtmhoejmgjbgddaaGreatMB
import Derived.Test.YtmhoejmgjbgddaaGreatMA
import Derived.IntWalk
import Derived.Laws.MakeOwn
import Derived.OwnWalk
import Derived.Laws.BitsAllLaws
namespace Go.Proofs.YtmhoejmgjbgddaaGreat
open Go.RowKit
structure IS (p:Option Addr) (n cap:Nat) (f:Nat→Int) (w:World):Prop where
 nil_:p=none→n=0∧cap=0
 cell:∀a,p=some a→∀i,i<n→w.cell? (a.add i)=some (.int .i64 (f i))
 lt:∀a,p=some a→a.block<w.heap.size
 lo:∀i,i<n→-9223372036854775808≤f i
 hi:∀i,i<n→f i<9223372036854775808
theorem IS.below {p:Option Addr} {n cap:Nat} {f:Nat→Int} {w w':World} (h:IS p n cap f w) (hb:Below w.heap.size w w'):IS p n cap f w':=
 ⟨h.nil_,fun a ha i hi=>by
  have hl:=h.lt a ha;have:(a.add i).block=a.block:=by unfold Addr.add;split<;>rfl
  rw [hb.cell (p:=a.add i) (by rw [this];exact hl)];exact h.cell a ha i hi,fun a ha=>Nat.lt_of_lt_of_le (h.lt a ha) hb.size,h.lo,h.hi⟩
def okB (f:Nat→Int):Nat→Bool
 |0=>true
 |k+1=>okB f k&&decide (0≤f k∧f k≤15)
theorem okB_true {f:Nat→Int} {n:Nat}:okB f n=true↔∀i,i<n→0≤f i∧f i≤15:=by
 induction n with
 |zero=>exact⟨fun _ i hi=>by omega,fun _=>rfl⟩
 |succ n ih=>
  unfold okB;rw [Bool.and_eq_true,ih,decide_eq_true_eq]
  constructor
  ·rintro⟨h1,h2⟩ i hi
   rcases(show i<n∨i=n by omega)with h|rfl
   ·exact h1 i h
   ·exact h2
  ·intro h
   exact⟨fun i hi=>h i (by omega),h n (by omega)⟩
theorem okB_false {f:Nat→Int} {n k:Nat} (hk:k<n) (h:¬(0≤f k∧f k≤15)):okB f n=false:=by
 cases e:okB f n with
 |false=>rfl
 |true=>exact absurd (okB_true.1 e k hk) h
def toL (f:Nat→Int) (i:Nat):Nat:=(f i).toNat
theorem kr_le (l:Nat→Nat) (n:Nat):kr l n≤n*32768:=by
 induction n with
 |zero=>exact Nat.zero_le _
 |succ n ih=>
  show kr l n+_≤_
  rw [Nat.add_mul];refine Nat.add_le_add ih ?_;split
  ·exact Nat.zero_le _
  ·rw [Nat.one_mul]
   exact Nat.pow_le_pow_right (by decide) (show 15-l n≤15 by omega)
def sumV (f:Nat→Int) (n:Nat):Nat×Bool:=if okB f n=true then(kr (toL f) n,decide (n≤300))else (0,false)
set_option maxRecDepth 100000 in
set_option maxHeartbeats 2000000 in
theorem rsum9_any (p:Option Addr) (n cap:Nat) (f:Nat→Int) (w:World) (h:IS p n cap f w) (hn:n≤17592186044416):
  Calls Tryz.prog 127 #[.slice p n cap] w fun e w'=>e= .returned (.tuple #[.int .i64 ((sumV f n).1:Int),.bool (sumV f n).2])∧w'=w:=by
 go_enter Tryz.func127,Tryz.ntmps127
 go_wp2_with fail;go_loopw [4,5] (fun s i wr=>∃k:Nat,k≤n∧i= .int .i64 (k:Int)∧s= .int .i64 (kr (toL f) k:Int)∧okB f k=true∧w=wr) (fun _ i _=>n-(intOf i).toNat)
 case atStart=>exact⟨0,by omega,rfl,rfl,rfl,rfl⟩
 case round=>
  obtain⟨k,hk,rfl,rfl,hok,rfl⟩:=hrel;have hkr:=kr_le (toL f) k;by_cases hlt:k<n
  ·cases p with
   |none=>have:=(h.nil_ rfl).1;omega
   |some a=>
    have c0:=h.cell a rfl k hlt;by_cases h0:0≤f k∧f k≤15
    ·have HO:Hid (okB f (k+1)=true):=Lib.hid (by unfold okB;rw [hok,decide_eq_true h0];rfl)
     obtain⟨d,hd⟩:=Int.eq_ofNat_of_zero_le h0.1;have hd15:d≤15:=by omega
     have hdl:toL f k=d:=by unfold toL;omega
     rw [hd]at c0;by_cases hz:d=0
     ·have HK:Hid (kr (toL f) (k+1)=kr (toL f) k):=Lib.hid (by show _+(if toL f k=0 then 0 else _)=_;rw [if_pos (by omega)];rfl)
      generalize kr (toL f) k=S at*;subst hz;clear h0 hd hdl hok;go_wp2_with fail;go_roundw
      case rel=>exact⟨k+1,by omega,by go_num,by rw [HK.out],HO.out,by trivial⟩
      case measure=>simp [intOf];omega
     ·obtain⟨q,hq⟩:∃q,q=15-d:=⟨_,rfl⟩
      have HK:Hid (kr (toL f) (k+1)=kr (toL f) k+2^q):=Lib.hid (by show _+(if toL f k=0 then 0 else _)=_;rw [if_neg (by omega),hdl,hq])
      generalize kr (toL f) k=S at*;have hqi:IntKind.i64.wrap (15-(d:Int))=(q:Int):=by rw [IntWalk.i64_in _ (by omega)];omega
      have hd0:(0:Int)<(d:Int):=by omega
      have hdf:(d:Int)≤15:=by omega
      have hq15:q≤14:=by omega
      clear h0 hd hdl hok hz hq;have HW:Hid (wrap64 ((S:Int)+wrap64 (2^q))=((S+2^q:Nat):Int)):=Lib.hid (by
       have hQ:(2:Int)^q=((2^q:Nat):Int):=by rw [Int.natCast_pow];rfl
       have hQl:2^q≤2^14:=Nat.pow_le_pow_right (by decide) hq15
       rw [hQ];generalize 2^q=Q at*;have e1:wrap64 (Q:Int)=(Q:Int):=IntWalk.wrap64_in _ (by omega)
       rw [e1,IntWalk.wrap64_in _ (by omega)];omega)
      go_wp2_with fail;go_roundw
      case rel=>exact⟨k+1,by omega,by go_num,by rw [HK.out,HW.out],HO.out,by trivial⟩
      case measure=>simp [intOf];omega
    ·have HV:Hid (sumV f n=(0,false)):=Lib.hid (by unfold sumV;rw [okB_false hlt h0];rfl)
     have hor:f k<0∨(¬f k<0∧f k>15):=by omega
     clear h0 hok;generalize f k=x at*;rcases hor with hx|⟨hx1,hx2⟩
     all_goals
      go_wp2_with fail;go_ret2;rw [HV.out];exact⟨rfl,rfl⟩
  ·obtain rfl:k=n:=by omega
   have HV:Hid (sumV f k=(kr (toL f) k,decide (k≤300))):=Lib.hid (by unfold sumV;rw [if_pos hok])
   have hle:decide ((k:Int)≤300)=decide (k≤300):=by rw [decide_eq_decide];omega
   generalize decide (k≤300)=b at*;generalize kr (toL f) k=S at*;clear hok;go_wp2_with fail;go_ret2;rw [HV.out];exact⟨rfl,rfl⟩
theorem int_infoC:(Tryz.prog.info? 3).map (fun i=>(i.zero,i.size,i.bytes))=some (some (.int .i64 0),1,8):=by kernel_rfl
abbrev rI (n:Nat) (f:Nat→Int):Array Value:=row n fun i=>Value.int .i64 (f i)
theorem made_ints (n:Nat):madeCells #[Value.int .i64 0] n=rI n fun _=>0:=by
 apply Array.ext
 ·rw [size_madeCells,row_size]
 ·intro i h1 h2
  have h:i<n:=by rw [size_madeCells]at h1;exact h1
  have e:=row_get (fun i=>Value.int .i64 ((fun _=>(0:Int)) i)) h;rw [Array.getElem?_eq_getElem h2]at e;rw [Option.some.inj e];simp only [madeCells,Array.getElem_map,Array.getElem_range];simp [Nat.mod_one]
theorem run_ints (n:Nat) (hn:n≤35184372088832) (w:World):
  (Instr.makeSlice 92 (.int .i64 (n:Int)) (.int .i64 (n:Int))).run Tryz.prog w= .ok (.slice (some ⟨w.heap.size,0,none⟩) n n) (w.alloc (.cells (rI n fun _=>0) 3)):=by
 obtain⟨i0,hi,hz0,hz1,hz2⟩:=info_parts int_infoC;have h:=run_make (P:=Tryz.prog) w 92 3 i0 (.int .i64 0) Tryz.underlying92 hi hz0 .i64 .i64 n n (by omega) (Int.le_refl _) (by rw [hz2];omega) (by omega)
 rw [hz1,Int.toNat_natCast,Nat.mul_one,show Value.cells (.int .i64 0)=#[Value.int .i64 0]from rfl,made_ints]at h;exact h
theorem IS.row {g n cap:Nat} {t:TypeId} {f:Nat→Int} {w:World} (h:Blk w g t (rI n f)) (lo:∀i,i<n→-9223372036854775808≤f i) (hi:∀i,i<n→f i<9223372036854775808):IS (some ⟨g,0,none⟩) n cap f w:=
 ⟨(fun e=>by cases e),(fun a e i hi=>by cases e;rw [addr_add,Nat.zero_add];exact h.at_ hi),(fun a e=>by cases e;exact h.lt),lo,hi⟩
def coF (l:Nat→Nat) (n d k j:Nat):Int:=if l j≠0∧(l j≤d∨l j=d+1∧j<k)then (codeN l n j:Int)else 0
theorem coF_put (l:Nat→Nat) (n d k j:Nat) (hk:l k=d+1):(if j=k then Value.int .i64 ((cst l n d+cnt l (d+1) k:Nat):Int)else Value.int .i64 (coF l n d k j))=Value.int .i64 (coF l n d (k+1) j):=by
 by_cases h:j=k
 ·subst h
  rw [if_pos rfl];unfold coF codeN;rw [if_pos ⟨by omega,.inr ⟨hk,by omega⟩⟩,if_neg (by omega),hk,Nat.add_sub_cancel]
 ·rw [if_neg h]
  unfold coF
  congr 1
  by_cases h2:l j≠0∧(l j≤d∨l j=d+1∧j<k)
  ·rw [if_pos h2,if_pos ⟨h2.1,by omega⟩]
  ·rw [if_neg h2,if_neg (by omega)]
theorem coF_not (l:Nat→Nat) (n d k:Nat) (hk:l k≠d+1):coF l n d k=coF l n d (k+1):=funext fun j=>by
 unfold coF;by_cases h2:l j≠0∧(l j≤d∨l j=d+1∧j<k)
 ·rw [if_pos h2,if_pos ⟨h2.1,by omega⟩]
 ·rw [if_neg h2,if_neg]
  rintro⟨h3,h4⟩;refine h2 ⟨h3,?_⟩;rcases h4 with h4|⟨h4,h5⟩
  ·exact .inl h4
  ·refine .inr ⟨h4,?_⟩
   rcases(show j<k∨j=k by omega)with h6|rfl
   ·exact h6
   ·exact absurd h4 hk
theorem coF_end (l:Nat→Nat) (n d:Nat):∀j,j<n→coF l n d n j=coF l n (d+1) 0 j:=fun j hj=>by
 unfold coF;by_cases h2:l j≠0∧(l j≤d∨l j=d+1∧j<n)
 ·rw [if_pos h2,if_pos ⟨h2.1,by omega⟩]
 ·rw [if_neg h2,if_neg (by omega)]
theorem coF_all (l:Nat→Nat) (n:Nat) (h:∀j,j<n→l j≤15):∀j,j<n→coF l n 15 0 j=(codeN l n j:Int):=fun j hj=>by
 have:=h j hj;unfold coF;by_cases h0:l j=0
 ·rw [if_neg (by omega)];unfold codeN;rw [if_pos h0];rfl
 ·rw [if_pos ⟨h0,.inl this⟩]
theorem cnt_le (l:Nat→Nat) (d n:Nat):cnt l d n≤n:=by
 induction n with
 |zero=>exact Nat.le_refl _
 |succ n ih=>show cnt l d n+_≤_;split<;>omega
theorem cst_le (l:Nat→Nat) (n:Nat) (h:∀i,i<n→l i≤15) (hk:kr l n≤32768) (hn:n≤300) (d:Nat) (hd:d≤15):cst l n d≤66136:=by
 have key:∀d,d≤14→cst l n d≤32768:=fun d hd=>by
  have e:=cst_off l n d hd;have h1:=offS_mono l n (show d≤15 by omega)
  rw [offS_all l n h]at h1;have h2:1≤2^(15-(d+1)):=Nat.pow_pos (by decide)
  have h3:=Nat.le_mul_of_pos_right (cst l n d) h2;omega
 rcases(show d≤14∨d=15 by omega)with h1|rfl
 ·have:=key d h1;omega
 ·have h1:=key 14 (Nat.le_refl _)
  have h2:=cnt_le l 15 n;show 2*(cst l n 14+cnt l 15 n)≤_;omega
structure CoW (p:Option Addr) (n:Nat) (f:Nat→Int) (F:Nat→Int) (g:Nat) (w wr:World):Prop where
 o:Blk wr g 3 (rI n F)
 l:Below w.heap.size w wr
theorem CoW.put {p:Option Addr} {n:Nat} {f F G:Nat→Int} {g:Nat} {w wr:World} (h:CoW p n f F g w wr) (hg:w.heap.size≤g) {k:Nat} (hk:k<n) (v:Int)
  (e:∀j,(if j=k then Value.int .i64 v else Value.int .i64 (F j))=Value.int .i64 (G j)):CoW p n f G g w (wr.setCell ⟨g,k,none⟩ (.int .i64 v)):=
 ⟨(h.o.put hk _).cast_ (row_ext fun i _=>e i),h.l.setCell hg _⟩
theorem CoW.cast {p:Option Addr} {n:Nat} {f F G:Nat→Int} {g:Nat} {w wr:World} (h:CoW p n f F g w wr) (e:∀j,j<n→F j=G j):CoW p n f G g w wr:=
 ⟨h.o.cast_ (row_ext fun i hi=>by rw [e i hi]),h.l⟩
def codesE (f:Nat→Int) (n:Nat):Nat:=if okB f n=true∧n≤300 then if kr (toL f) n≤32768 then 0 else 2 else 1
theorem toL_15 {f:Nat→Int} {n:Nat} (h:okB f n=true):∀i,i<n→toL f i≤15:=fun i hi=>by
 have:=okB_true.1 h i hi;unfold toL;omega
theorem codeN_le {l:Nat→Nat} {n:Nat} (h:∀i,i<n→l i≤15) (hk:kr l n≤32768):∀i,i<n→codeN l n i<32768:=fun i hi=>by
 by_cases h0:l i=0
 ·unfold codeN;rw [if_pos h0];omega
 ·have h1:=code_lt l n i h hk hi h0
  have h2:2^l i≤2^15:=Nat.pow_le_pow_right (by decide) (h i hi)
  omega
set_option maxRecDepth 100000 in
set_option maxHeartbeats 4000000 in
theorem rcodes9_ok (p:Option Addr) (n cap:Nat) (f:Nat→Int) (w:World) (h:IS p n cap f w) (hn:n≤300) (hok:okB f n=true) (hk:kr (toL f) n≤32768):
  Calls Tryz.prog 94 #[.slice p n cap] w fun e w'=>e= .returned (.tuple #[.slice (some ⟨w.heap.size,0,none⟩) n n,.int .i64 0])∧IS (some ⟨w.heap.size,0,none⟩) n n (fun i=>(codeN (toL f) n i:Int)) w'∧Below w.heap.size w w':=by
 have hl:=toL_15 hok;have CS:=Lib.hid (rsum9_any p n cap f w h (by omega))
 have HS:Hid (sumV f n=(kr (toL f) n,true)):=Lib.hid (by unfold sumV;rw [if_pos hok,decide_eq_true hn])
 rw [HS.out]at CS;have hki:¬(kr (toL f) n:Int)>32768:=by omega
 have hcst:=Lib.hid (cst_le (toL f) n hl hk hn);have HL:=Lib.hid hl;have HK:=Lib.hid hk;have HO:=Lib.hid hok;have hmk:∀w,(Instr.makeSlice 92 (.int .i64 (n:Int)) (.int .i64 (n:Int))).run Tryz.prog w= .ok (.slice (some ⟨w.heap.size,0,none⟩) n n) (w.alloc (.cells (rI n fun _=>0) 3)):=run_ints n (by omega)
 clear hl hk hok HS;go_enter Tryz.func94,Tryz.ntmps94;go_wp2_with fail;refine CS.out.mono ?_;intro e w1 hw1;obtain⟨rfl,e1⟩:=hw1;obtain rfl:=e1.symm;clear CS;go_wp2_with fail;obtain⟨g,hg⟩:∃g,g=w.heap.size:=⟨_,rfl⟩;have HG:Hid (w.heap.size≤g):=Lib.hid (by omega)
 have H0:Hid (CoW p n f (fun _=>0) g w (w.alloc (.cells (rI n fun _=>0) 3))):=Lib.hid ⟨by rw [hg];exact Blk.new w _ _,(Below.refl _ w).alloc (Nat.le_refl _) _⟩
 have HGE:=Lib.hid hg;rw [←hg];clear hmk hki hg;obtain⟨l,hl0⟩:∃l,l=toL f:=⟨_,rfl⟩;rw [←hl0]at hcst HL HK⊢;have HLF:=Lib.hid hl0;clear hl0;go_loopw [7,8] (fun c i wr=>∃d:Nat,d≤15∧i= .int .i64 ((d+1:Nat):Int)∧c= .int .i64 (cst l n d:Int)∧CoW p n f (coF l n d 0) g w wr) (fun _ i _=>16-(intOf i).toNat)
 case atStart=>exact⟨0,by omega,rfl,rfl,H0.out.cast fun j _=>by unfold coF;rw [if_neg (by omega)]⟩
 case round=>
  obtain⟨d,hd,rfl,rfl,hr⟩:=hrel;have hc:=hcst.out d hd;by_cases hd15:d<15
  ·have hdi:((d+1:Nat):Int)≤15:=by omega
   obtain⟨D,hD⟩:∃D,D=d+1:=⟨_,rfl⟩;rw [←hD]at hdi⊢;obtain⟨C,hC⟩:∃C,C=cst l n d:=⟨_,rfl⟩;rw [←hC]at hc⊢;go_wp2_with fail;go_loopw [7,9] (fun c i wr=>∃k:Nat,k≤n∧i= .int .i64 (k:Int)∧c= .int .i64 ((C+cnt l D k:Nat):Int)∧CoW p n f (coF l n d k) g w wr) (fun _ i _=>n-(intOf i).toNat)
   case atStart=>exact⟨0,by omega,rfl,by rw [hC];rfl,hr⟩
   case round=>
    obtain⟨k,hk,rfl,rfl,hr⟩:=hrel;have hck:=cnt_le l D k;by_cases hlt:k<n
    ·cases p with
     |none=>have:=(h.nil_ rfl).1;omega
     |some a=>
      have hw:=h.below hr.l;have c0:=hw.cell a rfl k hlt;have hv:=okB_true.1 HO.out k hlt;obtain⟨v,hvv⟩:=Int.eq_ofNat_of_zero_le hv.1;have hlk:l k=v:=by rw [HLF.out];unfold toL;omega
      rw [hvv]at c0;by_cases heq:v=D
      ·have hee:(v:Int)=(D:Int):=by omega
       have HN:Hid (cnt l D (k+1)=cnt l D k+1):=Lib.hid (by show _+(if l k=D then 1 else 0)=_;rw [if_pos (by omega)])
       have HP:=Lib.hid (hr.put HG.out hlt ((C+cnt l D k:Nat):Int) fun j=>by rw [hC,hD];exact coF_put l n d k j (by omega))
       have co:=hr.o.at_ hlt;have fo:=hr.o.frozen k;obtain⟨T,hT⟩:∃T,T=C+cnt l D k:=⟨_,rfl⟩;rw [←hT]at HP⊢;have HT:Hid (C+cnt l D (k+1)=T+1):=Lib.hid (by rw [HN.out,hT];omega)
       have hT9:T≤100000:=by omega
       clear hv hvv hlk hw heq hT HN hr;go_wp2_with fail;go_roundw
       case rel=>exact⟨k+1,by omega,by go_num,by rw [HT.out];go_num,HP.out⟩
       case measure=>simp [intOf];omega
      ·have hne:¬(v:Int)=(D:Int):=by omega
       have HN:Hid (cnt l D (k+1)=cnt l D k):=Lib.hid (by show _+(if l k=D then 1 else 0)=_;rw [if_neg (by omega)];rfl)
       have HF:=Lib.hid (coF_not l n d k (by omega))
       generalize cnt l D k=T at*;clear hv hvv hlk hw heq;go_wp2_with fail;go_roundw
       case rel=>exact⟨k+1,by omega,by go_num,by rw [HN.out],by rw [←HF.out];exact hr⟩
       case measure=>simp [intOf];omega
    ·obtain rfl:k=n:=by omega
     have HE:=Lib.hid (coF_end l k d);obtain⟨T,hT⟩:∃T,T=C+cnt l D k:=⟨_,rfl⟩;rw [←hT];have HT:Hid (cst l k (d+1)=2*T):=Lib.hid (by show 2*(cst l k d+cnt l (d+1) k)=_;rw [←hC,←hD,hT])
     have hT9:T≤100000:=by omega
     have hwT:IntKind.i64.wrap ((T:Int)*2)=((2*T:Nat):Int):=by rw [IntWalk.i64_in _ (by omega)];omega
     have hwD:IntKind.i64.wrap ((D:Int)+1)=((d+1+1:Nat):Int):=by rw [IntWalk.i64_in _ (by omega)];omega
     clear hT;go_wp2_with fail;go_roundw
     case rel=>exact⟨d+1,by omega,by go_num,by rw [HT.out];go_num,hr.cast HE.out⟩
     case measure=>simp [intOf];omega
  ·obtain rfl:d=15:=by omega
   have HA:=Lib.hid (coF_all l n HL.out);have HB:=Lib.hid (codeN_le HL.out HK.out);clear hc hcst;go_wp2_with fail;go_ret2;rw [←HLF.out];obtain rfl:=HGE.out;exact⟨rfl,IS.row (hr.cast HA.out).o (fun i hi=>by omega) (fun i hi=>by have:=HB.out i hi;omega),hr.l⟩
theorem codesE_arg {f:Nat→Int} {n:Nat} (h:¬(okB f n=true∧n≤300)):codesE f n=1:=by unfold codesE;rw [if_neg h]
theorem codesE_form {f:Nat→Int} {n:Nat} (h:okB f n=true∧n≤300) (hk:¬kr (toL f) n≤32768):codesE f n=2:=by unfold codesE;rw [if_pos h,if_neg hk]
theorem codesE_ok {f:Nat→Int} {n:Nat} (h:okB f n=true∧n≤300) (hk:kr (toL f) n≤32768):codesE f n=0:=by unfold codesE;rw [if_pos h,if_pos hk]
def sgl (l:Nat→Nat):Nat→Nat
 |0=>0
 |k+1=>sgl l k+l k
structure LI (B:Nat) (w0:World) (l:List Int) (v:Value) (wr:World):Prop where
 own:wr.ownsRow B 3 1 v l.length (l.map fun(x:Int)=>Value.int .i64 x)
 b:Below B w0 wr
 lo:B≤wr.heap.size
theorem LI.nil {B:Nat} {w0 w:World} (h:Below B w0 w) (hB:B≤w.heap.size):LI B w0 [] (.slice none 0 0) w:=⟨⟨rfl,.inl ⟨rfl,rfl⟩⟩,h,hB⟩
theorem LI.below {B:Nat} {w0 w w':World} {l:List Int} {v:Value} (h:LI B w0 l v w) (hb:Below w.heap.size w w'):LI B w0 l v w':=by
 refine⟨⟨h.own.1,?_⟩,h.b.trans (hb.mono h.lo),Nat.le_trans h.lo hb.size⟩;rcases h.own.2 with h1|⟨g,cap,cur,h1,h2,h3,h4⟩
 ·exact .inl h1
 ·refine .inr ⟨g,cap,cur,h1,h2,?_,h4⟩
  rw [hb.block g (by
   rcases Nat.lt_or_ge g w.heap.size with hlt|hge
   ·exact hlt
   ·rw [Array.getElem?_eq_none hge]at h3;cases h3)]
  exact h3
def firstI (f:Nat→Int) (n:Nat):List Int:=(List.range n).map f
theorem firstI_len (f:Nat→Int) (n:Nat):(firstI f n).length=n:=by simp [firstI]
theorem LI.is {B:Nat} {w0 w:World} {f:Nat→Int} {n:Nat} {v:Value} (h:LI B w0 (firstI f n) v w) (lo:∀i,i<n→-9223372036854775808≤f i) (hi:∀i,i<n→f i<9223372036854775808):
  ∃p cap,v= .slice p n cap∧IS p n cap f w∧∀a,p=some a→B≤a.block:=by
 have hown:=h.own;rw [firstI_len]at hown;rcases hown.2 with⟨h1,h2⟩|⟨g,cap,cur,h1,h2,h3,h4,h5,h6,h7⟩
 ·subst h2;exact⟨none,0,h1,⟨fun _=>⟨rfl,rfl⟩,(fun a e=>by cases e),(fun a e=>by cases e),lo,hi⟩,(fun a e=>by cases e)⟩
 ·refine⟨some ⟨g,0,none⟩,cap,h1,⟨(fun e=>by cases e),(fun a e i hi2=> ?_),(fun a e=> ?_),lo,hi⟩,(fun a e=>by cases e;exact h2)⟩
  ·cases e
   rw [addr_add,Nat.zero_add,cell_of_row w g i cur 3 (0,0) h3];have:(cur.toList.take (n*1))[i]? =some (.int .i64 (f i)):=by
    rw [h7,firstI,List.map_map,List.getElem?_map,List.getElem?_range hi2];rfl
   rw [List.getElem?_take,if_pos (by omega)]at this
   simpa using this
  ·cases e
   show g<_
   rcases Nat.lt_or_ge g w.heap.size with hlt|hge
   ·exact hlt
   ·rw [Array.getElem?_eq_none hge]at h3;cases h3
theorem IS.set {p:Option Addr} {n cap:Nat} {f:Nat→Int} {w:World} (h:IS p n cap f w) (q:Addr) (v:Value) (hne:∀a,p=some a→a.block≠q.block):IS p n cap f (w.setCell q v):=
 ⟨h.nil_,(fun a ha i hi=>by
  have hb:(a.add i).block=a.block:=by unfold Addr.add;split<;>rfl
  have:(a.add i).block≠q.block:=by rw [hb];exact hne a ha
  rw [World.cell?_of_block (Below.heap_setCell w q v _ this)];exact h.cell a ha i hi),(fun a ha=>by simp [World.setCell];exact h.lt a ha),h.lo,h.hi⟩
theorem wpList_copyI {ops:Array Oper} {rest:List Oper} {o:Oper} {a:Act} {Q:Exit→Act→World→Prop} {p:Option Addr} {n cap:Nat} {f:Nat→Int} {w:World} (hgd:o.guard=none) (x:Operand)
  (ho:o.op= .call {callee:= .builtin .append,args:=#[.const (.slice none 0 0),x],argTypes:=#[92,92]}) (hx:a.eval x= .slice p n cap) (h:IS p n cap f w) (hn:n≤17592186044416)
  (k:∀v' w',LI w.heap.size w (firstI f n) v' w'→wpList Tryz.prog ops Q rest (a.put o.dst v') w'):wpList Tryz.prog ops Q (o::rest) a w:=by
 obtain⟨i0,hi,hz0,hz1,hz2⟩:=info_parts int_infoC;cases p with
 |none=>
  obtain⟨rfl,rfl⟩:=h.nil_ rfl;refine wpList_valK (R:=fun w'=>w'=w) (.slice none 0 0) hgd ?_ ?_
  ·refine lands_value (w:=w) ?_ rfl
   have hc:a.eval (.const (.slice none 0 0))= .slice none 0 0:=rfl;simp [execOp,ho,hx,hc,resolve,invoke,builtin];go_simp
  ·rintro w' rfl
   exact k _ _ (LI.nil (Below.refl _ _) (Nat.le_refl _))
 |some ad=>
  refine wpList_append_own _ hgd (.const (.slice none 0 0)) x 92 ho w.heap.size 3 i0 (.int .i64 0) 1 8 Tryz.underlying92 hi hz0 hz1 hz2 rfl (by decide) (.slice none 0 0) 0 [] rfl ⟨rfl,.inl ⟨rfl,rfl⟩⟩ ad n cap ((firstI f n).map fun x=> .int .i64 x) hx (by rw [List.length_map,firstI_len,Nat.mul_one]) ?_ ?_ ?_ ?_ (Nat.le_refl _) ?_
  ·intro j u hu
   have hj:j<n:=by
    rcases Nat.lt_or_ge j n with h1|h1
    ·exact h1
    ·rw [List.getElem?_eq_none (by rw [List.length_map,firstI_len];exact h1)]at hu;cases hu
   rw [h.cell ad rfl j hj,←hu,firstI,List.map_map,List.getElem?_map,List.getElem?_range hj];rfl
  ·intro u hu
   obtain⟨y,_,rfl⟩:=List.mem_map.1 hu;rfl
  ·unfold maxLen;omega
  ·omega
  ·intro v' w2 hown hg _
   refine k v' w2 ⟨?_,?_,hg.size⟩
   ·rw [firstI_len];simpa using hown
   ·exact(Below.refl _ w).grown hg (Nat.le_refl _) (fun k e=>by cases e)
def newE (f:Nat→Int) (n:Nat):Nat:=if codesE f n=0 then if kr (toL f) n=32768∨kr (toL f) n=0∨sgl (toL f) n=1 then 0 else 2 else codesE f n
theorem codesE_zero {f:Nat→Int} {n:Nat} (h:codesE f n=0):(okB f n=true∧n≤300)∧kr (toL f) n≤32768:=by
 unfold codesE at h;by_cases h1:okB f n=true∧n≤300
 ·rw [if_pos h1]at h
  by_cases h2:kr (toL f) n≤32768
  ·exact⟨h1,h2⟩
  ·rw [if_neg h2]at h;cases h
 ·rw [if_neg h1]at h;cases h
def bitH (s:ByteArray) (i:Nat):Nat:=byteS s (i /8) /2^(i%8)%2
theorem rv_lt {B:Nat→Nat} (hB:∀i,B i<2) (at_ k:Nat):rv B at_ k<2^k:=by
 induction k with
 |zero=>exact Nat.one_pos
 |succ k ih=>have:=hB (at_+k);show 2*rv B at_ k+B (at_+k)<_;rw [Nat.pow_succ];omega
theorem bitH_lt (s:ByteArray) (i:Nat):bitH s i<2:=Nat.mod_lt _ (by decide)
theorem nextV_end (l:Nat→Nat) (n:Nat) (B:Nat→Nat) (T at_ d f:Nat) (h:T≤at_+d):nextV l n B T at_ d (f+1)=(0,0,3):=if_pos h
theorem nextV_found {l:Nat→Nat} {n:Nat} {B:Nat→Nat} {T at_ d f k:Nat} (h:¬T≤at_+d) (hk:fnd l n (d+1) (rv B at_ (d+1)) n=some k):nextV l n B T at_ d (f+1)=(k,at_+d+1,0):=by
 unfold nextV;rw [if_neg h,hk]
theorem nextV_not {l:Nat→Nat} {n:Nat} {B:Nat→Nat} {T at_ d f:Nat} (h:¬T≤at_+d) (hk:fnd l n (d+1) (rv B at_ (d+1)) n=none):nextV l n B T at_ d (f+1)=nextV l n B T at_ (d+1) f:=by
 rw [nextV,if_neg h,hk]
end Go.Proofs.YtmhoejmgjbgddaaGreat
