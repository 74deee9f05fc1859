/- ME -/
import Derived.Test.YtbmcjdoiohcaaaaGreatMD
import Derived.Maps.OwnOps
import Derived.Maps.OwnSet
import Derived.Maps.Views
import Derived.Shelf.SlSortCmp.WholeK
import Derived.IntWalk
import Derived.Laws.OwnMore
set_option maxRecDepth 100000
set_option maxHeartbeats 8000000
namespace Go.Proofs.YtbmcjdoiohcaaaaGreat
open Go.RowKit
def allB (f:Nat→Int) (m:Int):Nat→Bool
 |0=>true
 |k+1=>allB f m k&&decide (0≤f k∧f k≤m)
theorem Qnj {f:Nat→Int} {m:Int} {n:Nat}:allB f m n=true↔∀i,i<n→0≤f i∧f i≤m:=by
 induction n with
 |zero=>exact⟨fun _ i hi=>by omega,fun _=>rfl⟩
 |succ n ih=>
  unfold allB;rw [Bool.and_eq_true,ih,decide_eq_true_eq]
  constructor
  ·rintro⟨h1,h2⟩ i hi;rcases(show i<n∨i=n by omega)with h|rfl
   ·exact h1 i h
   ·exact h2
  ·intro h;exact⟨fun i hi=>h i (by omega),h n (by omega)⟩
theorem Qsd {f:Nat→Int} {m:Int} {n k:Nat} (hk:k<n) (h:¬(0≤f k∧f k≤m)):allB f m n=false:=by
 cases e:allB f m n with
 |false=>rfl
 |true=>exact absurd (Qnj.1 e k hk) h
theorem Qo7 (f:Nat→Int) (n:Nat):allB f 15 n=okB f n:=by
 induction n with
 |zero=>rfl
 |succ n ih=>unfold allB okB;rw [ih]
theorem Q1c (x m:Int) (g:Nat) (w:World) (hb:w.cell? ⟨g,0,none⟩=some (.int .i64 m)):
  Calls Tryz.prog 143 #[.int .i64 x,.pointer (some ⟨g,0,none⟩)] w fun e w'=>e= .returned (.bool (decide (x<0∨x>m)))∧w'=w:=by
 by_cases h0:x<0
 ·rw [decide_eq_true (.inl h0)];go_enter Tryz.func143,Tryz.ntmps143;go_wp2_with fail;go_ret;exact⟨rfl,rfl⟩
 ·by_cases h1:x>m
  ·rw [decide_eq_true (.inr h1)];go_enter Tryz.func143,Tryz.ntmps143;go_wp2_with fail;go_ret;exact⟨rfl,rfl⟩
  ·rw [decide_eq_false (by omega)]
   go_enter Tryz.func143,Tryz.ntmps143
   go_wp2_with fail;go_ret;exact⟨rfl,rfl⟩
theorem Qny (p:Option Addr) (n cap:Nat) (f:Nat→Int) (m:Int) (g:Nat) (w:World) (h:IS p n cap f w) (hn:n≤17592186044416) (hb:w.cell? ⟨g,0,none⟩=some (.int .i64 m)):
  Calls Tryz.prog 155 #[.slice p n cap,.func (.func 143) #[] #[.pointer (some ⟨g,0,none⟩)]] w fun e w'=>(∃i:Int,e= .returned (.int .i64 i)∧decide (0≤i)= !allB f m n)∧w'=w:=by
 have C:=Qh (fun x=>Q1c x m g w hb);go_enter Tryz.func155,Tryz.ntmps155;go_wp2_with fail;go_loopw [5,8] (fun j i wr=>∃k:Nat,k≤n∧i= .int .i64 (k:Int)∧allB f m k=true∧w=wr) (fun _ i _=>n-(intOf i).toNat)
 case atStart=>exact⟨0,by omega,rfl,rfl,rfl⟩
 case round=>
  obtain⟨k,hk,rfl,hok,rfl⟩:=hrel;by_cases hlt:k<n
  ·cases p with
   |none=>have:=(h.nil_ rfl).1;omega
   |some a=>
    have c0:=h.cell a rfl k hlt;have CK:=C.out (f k);by_cases h0:0≤f k∧f k≤m
    ·have HO:Hid (allB f m (k+1)=true):=Qh (by unfold allB;rw [hok,decide_eq_true h0];rfl)
     rw [decide_eq_false (by omega)]at CK
     generalize f k=x at*;clear h0 hok;go_wp2_with fail;refine CK.mono ?_;rintro e w1 ⟨rfl,rfl⟩;go_wp2_with fail;go_roundw
     case rel=>exact⟨k+1,by omega,by go_num,HO.out,by trivial⟩
     case measure=>simp [intOf];omega
    ·have HV:Hid (allB f m n=false):=Qh (Qsd hlt h0);rw [decide_eq_true (by omega)]at CK
     generalize f k=x at*;clear h0 hok;go_wp2_with fail;refine CK.mono ?_;rintro e w1 ⟨rfl,rfl⟩;go_wp2_with fail;go_ret;exact⟨⟨_,rfl,by rw [HV.out];simp⟩,rfl⟩
  ·obtain rfl:k=n:=by omega
   go_wp2_with fail;go_ret;exact⟨⟨_,rfl,by rw [hok];simp⟩,rfl⟩
theorem Qjp (p:Option Addr) (n cap:Nat) (f:Nat→Int) (m:Int) (g:Nat) (w:World) (h:IS p n cap f w) (hn:n≤17592186044416) (hb:w.cell? ⟨g,0,none⟩=some (.int .i64 m)):
  Calls Tryz.prog 142 #[.slice p n cap,.func (.func 143) #[] #[.pointer (some ⟨g,0,none⟩)]] w fun e w'=>e= .returned (.bool (!allB f m n))∧w'=w:=by
 have C:=Qny p n cap f m g w h hn hb;generalize allB f m n=b at*;go_enter Tryz.func142,Tryz.ntmps142;go_wp2_with fail;refine C.mono ?_;rintro e w1 ⟨⟨i,rfl,hi⟩,rfl⟩;have HI:=Qh hi;clear hi;go_wp2_with fail;go_ret;exact⟨by rw [←HI.out];rfl,rfl⟩
theorem Qc1 (p:Option Addr) (n cap:Nat) (f:Nat→Int) (m:Int) (w:World) (h:IS p n cap f w) (hn:n≤17592186044416):
  Calls Tryz.prog 119 #[.slice p n cap,.int .i64 m] w fun e w'=>e= .returned (.bool (allB f m n))∧Below w.heap.size w w':=by
 have hb:=Blk.new w 3 #[.int .i64 m];have b1:Below w.heap.size w (w.alloc (.cells #[.int .i64 m] 3)):=Qb.alloc Ql _;have C:=Qjp p n cap f m w.heap.size _ (h.below b1) hn (hb.cell 0);generalize allB f m n=b at*;go_enter Tryz.func119,Tryz.ntmps119;go_wp2_with fail;refine C.mono ?_;rintro e w1 ⟨rfl,rfl⟩;go_wp2_with fail;go_ret;exact⟨by simp,b1⟩
theorem Qn3 (most:Int) (n:Nat) (b:Bool) (w:World) (hb:b=true↔n≤300∧okM most n) (hn:n≤17592186044416):
  Calls Tryz.prog 118 #[.int .i64 most,.int .i64 (n:Int)] w fun e w'=>e= .returned (.bool b)∧w'=w:=by
 by_cases h7:most=7
 ·obtain rfl:b=decide ((n:Int)≤19):=by
   rw [Bool.eq_iff_iff,hb,decide_eq_true_eq];unfold okM;omega
  subst h7;clear hb;go_enter Tryz.func118,Tryz.ntmps118;go_wp2_with fail;go_ret;exact⟨rfl,rfl⟩
 ·obtain rfl:b=(decide ((9:Int)≤most)&&decide (most≤15)&&decide ((n:Int)≤300)):=by
   rw [Bool.eq_iff_iff,hb,Bool.and_eq_true,Bool.and_eq_true,decide_eq_true_eq,decide_eq_true_eq,decide_eq_true_eq];unfold okM;omega
  clear hb;by_cases h9:(9:Int)≤most
  ·by_cases h15:most≤15
   ·rw [decide_eq_true h9,decide_eq_true h15,Bool.and_self,Bool.true_and];go_enter Tryz.func118,Tryz.ntmps118;go_wp2_with fail;go_ret;exact⟨rfl,rfl⟩
   ·rw [decide_eq_true h9,decide_eq_false h15,Bool.and_false,Bool.false_and];go_enter Tryz.func118,Tryz.ntmps118;go_wp2_with fail;go_ret;exact⟨rfl,rfl⟩
  ·rw [decide_eq_false h9,Bool.false_and,Bool.false_and];go_enter Tryz.func118,Tryz.ntmps118;go_wp2_with fail;go_ret;exact⟨rfl,rfl⟩
theorem Qyn (w:World):(binOp .eql 92 (.slice none 0 0) (.slice none 0 0)).run Tryz.prog w= .ok (.bool true) w:=by kernel_rfl
theorem Qwc (a:Addr) (n c:Nat) (w:World):(binOp .eql 92 (.slice (some a) n c) (.slice none 0 0)).run Tryz.prog w= .ok (.bool false) w:=by kernel_rfl
theorem Qtx (p:Option Addr) (n cap:Nat) (f:Nat→Int) (w:World) (h:IS p n cap f w) (hn:n≤17592186044416):
  Calls Tryz.prog 120 #[.slice p n cap] w fun e w'=>∃v,e= .returned v∧LI w.heap.size w (Qam f n) v w':=by
 cases p with
 |none=>
  obtain⟨rfl,rfl⟩:=h.nil_ rfl;have e0:=Qyn w;go_enter Tryz.func120,Tryz.ntmps120;go_wp2_with fail;go_ret;exact⟨_,rfl,LI.nil Qb Ql⟩
 |some ad=>
  obtain⟨i0,hi,hz0,hz1,hz2⟩:=info_parts Qca;have b1:Below w.heap.size w (w.alloc (.cells #[] 3)):=Qb.alloc Ql _;have h1:=h.below b1;have hown:(w.alloc (.cells #[] 3)).ownsRow w.heap.size 3 1 (.slice (some ⟨w.heap.size,0,none⟩) 0 0) 0 []:=
   ⟨rfl,.inr ⟨w.heap.size,0,#[],rfl,Ql,(Blk.new w _ _),Ql,by unfold maxLen;omega,rfl,rfl⟩⟩
  have e0:=Qwc ad n cap w;have hz:w.heap.size≤(w.alloc (.cells #[] 3)).heap.size:=by simp
  go_enter Tryz.func120,Tryz.ntmps120
  go_wp2_with (refine wpList_append_own _ rfl (.tmp 5) (.tmp 6) 92 rfl w.heap.size 3 i0 (.int .i64 0) 1 8 Tryz.underlying92 hi hz0 hz1 hz2 rfl (by decide) (.slice (some ⟨w.heap.size,0,none⟩) 0 0) 0 [] rfl hown ad n cap ((Qam f n).map fun x=> .int .i64 x) rfl (by rw [List.length_map,Qaq,Nat.mul_one]) ?c1 ?c2 ?c3 ?c4 hz ?_)
  case c1=>
   intro j u hu;have hj:j<n:=by
    rcases Nat.lt_or_ge j n with h1|h1
    ·exact h1
    ·rw [List.getElem?_eq_none (by rw [List.length_map,Qaq];exact h1)]at hu;cases hu
   rw [h1.cell ad rfl j hj,←hu,Qam,List.map_map,List.getElem?_map,List.getElem?_range hj];rfl
  case c2=>
   intro u hu;obtain⟨y,_,rfl⟩:=List.mem_map.1 hu;rfl
  case c3=>unfold maxLen;omega
  case c4=>omega
  intro v' w2 hown2 hg _;go_wp2_with fail;go_ret;refine⟨_,rfl,?_,?_,Nat.le_trans hz hg.size⟩
  ·rw [Qaq];simpa using hown2
  ·exact b1.grown hg hz (fun k e=>by cases e;exact Ql)
theorem Qkd (p:Option Addr) (n cap:Nat) (f:Nat→Int) (w:World) (h:IS p n cap f w) (hn:n≤17592186044416) (hok:okB f n=true):
  Calls Tryz.prog 135 #[.slice p n cap] w fun e w'=>e= .returned (.int .i64 (kr (toL f) n:Int))∧w'=w:=by
 have HB:=Qh (Qbr.1 hok);clear hok;go_enter Tryz.func135,Tryz.ntmps135;go_wp2_with fail;go_loopw [3,5,8] (fun s _ i wr=>∃k:Nat,k≤n∧i= .int .i64 (k:Int)∧s= .int .i64 (kr (toL f) k:Int)∧w=wr) (fun _ _ i _=>n-(intOf i).toNat)
 case atStart=>exact⟨0,by omega,rfl,rfl,rfl⟩
 case round=>
  obtain⟨k,hk,rfl,rfl,rfl⟩:=hrel;have hkr:=Q2n (toL f) k;by_cases hlt:k<n
  ·cases p with
   |none=>have:=(h.nil_ rfl).1;omega
   |some a=>
    have c0:=h.cell a rfl k hlt;have h0:=HB.out k hlt;obtain⟨d,hd⟩:=Int.eq_ofNat_of_zero_le h0.1;have hd15:d≤15:=by omega
    have hdl:toL f k=d:=by unfold toL;omega
    rw [hd]at c0;by_cases hz:d=0
    ·have HK:Hid (kr (toL f) (k+1)=kr (toL f) k):=Qh (by show _+(if toL f k=0 then 0 else _)=_;rw [if_pos (by omega)];rfl)
     generalize kr (toL f) k=S at*;subst hz;clear h0 hd hdl;go_wp2_with fail;go_roundw
     case rel=>exact⟨k+1,by omega,by go_num,by rw [HK.out],by trivial⟩
     case measure=>simp [intOf];omega
    ·obtain⟨q,hq⟩:∃q,q=15-d:=⟨_,rfl⟩;have HK:Hid (kr (toL f) (k+1)=kr (toL f) k+2^q):=Qh (by show _+(if toL f k=0 then 0 else _)=_;rw [if_neg (by omega),hdl,hq])
     generalize kr (toL f) k=S at*;have hqi:IntKind.i64.wrap (15-(d:Int))=(q:Int):=by rw [IntWalk.i64_in _ (by omega)];omega
     have hd0:(0:Int)<(d:Int):=by omega
     have hdf:(d:Int)≤15:=by omega
     have hq15:q≤14:=by omega
     clear h0 hd hdl hz hq;have HW:Hid (wrap64 ((S:Int)+wrap64 (2^q))=((S+2^q:Nat):Int)):=Qh (by
      have hQ:(2:Int)^q=((2^q:Nat):Int):=by rw [Int.natCast_pow];rfl
      have hQl:2^q≤2^14:=Nat.pow_le_pow_right (by decide) hq15
      rw [hQ];generalize 2^q=Q at*;have e1:wrap64 (Q:Int)=(Q:Int):=IntWalk.wrap64_in _ (by omega)
      rw [e1,IntWalk.wrap64_in _ (by omega)];omega)
     go_wp2_with fail;go_roundw
     case rel=>exact⟨k+1,by omega,by go_num,by rw [HK.out,HW.out],by trivial⟩
     case measure=>simp [intOf];omega
  ·obtain rfl:k=n:=by omega
   go_wp2_with fail;go_ret;exact⟨rfl,rfl⟩
theorem Qz4 (w:World):(zeroValue 193).run Tryz.prog w= .ok (.agg (rI 16 fun _=>0)) w:=by kernel_rfl
theorem Q2p:Tryz.prog.arrayLen 193=16:=by kernel_rfl
theorem Qt5 (l:Nat→Nat) (n d:Nat):cst l n d+2*n≤2^(d+1)*n:=by
 induction d with
 |zero=>show 0+2*n≤_;omega
 |succ d ih=>
  have h1:=Qk9 l (d+1) n;show 2*(cst l n d+cnt l (d+1) n)+2*n≤_;rw [Nat.pow_succ,Nat.mul_comm (2^(d+1)) 2,Nat.mul_assoc];omega
theorem Qzs (l:Nat→Nat) {n d:Nat} (hn:n≤300) (hd:d≤15):cst l n d≤19660800:=by
 have h:=Qt5 l n d;have h1:2^(d+1)≤2^16:=Nat.pow_le_pow_right (by decide) (by omega)
 have h2:2^(d+1)*n≤2^16*300:=Nat.mul_le_mul h1 hn;omega
def fst9 (l:Nat→Nat) (n d:Nat):Nat:=if d=0 then 0 else cst l n (d-1)
def fstF (l:Nat→Nat) (n m d:Nat):Int:=if d<m then(fst9 l n d:Int)else 0
theorem Qx3 (l:Nat→Nat) (n m:Nat) (h:2≤m):fst9 l n m=2*(fst9 l n (m-1)+cnt l (m-1) n):=by
 unfold fst9;rw [if_neg (by omega),if_neg (by omega)]
 obtain⟨d,rfl⟩:∃d,m=d+2:=⟨m-2,by omega⟩
 rfl
theorem Q2c (l:Nat→Nat) {n d:Nat} (hn:n≤300) (hd:d≤16):fst9 l n d≤19660800:=by
 unfold fst9;split
 ·omega
 ·exact Qzs l hn (by omega)
theorem Qx2 (l:Nat→Nat) (n m j:Nat):(if j=m then Value.int .i64 ((fst9 l n m:Nat):Int)else Value.int .i64 (fstF l n m j))=Value.int .i64 (fstF l n (m+1) j):=by
 unfold fstF;by_cases h:j=m
 ·subst h;rw [if_pos rfl,if_pos (by omega)]
 ·rw [if_neg h];by_cases h2:j<m
  ·rw [if_pos h2,if_pos (by omega)]
  ·rw [if_neg h2,if_neg (by omega)]
theorem Q0b (l:Nat→Nat) (k j d:Nat) (hd:l k=d):(if j=d then Value.int .i64 ((cnt l d k+1:Nat):Int)else Value.int .i64 (cnt l j k:Int))=Value.int .i64 (cnt l j (k+1):Int):=by
 show _=Value.int .i64 ((cnt l j k+(if l k=j then 1 else 0):Nat):Int)
 by_cases h:j=d
 ·subst h;rw [if_pos rfl,if_pos hd]
 ·rw [if_neg h,if_neg (by omega)];rfl
abbrev FB (B k m:Nat) (l:Nat→Nat) (n:Nat):List (Nat×TypeId×Array Value):=[(B,193,rI 16 fun _=>0),(B+1,193,rI 16 fun d=>(cnt l d k:Int)),(B+1+1,193,rI 16 (fstF l n m))]
theorem Qkx (p:Option Addr) (n cap:Nat) (f:Nat→Int) (w:World) (h:IS p n cap f w) (hn:n≤300) (hok:okB f n=true):
  Calls Tryz.prog 136 #[.slice p n cap] w fun e w'=>e= .returned (.agg (rI 16 fun d=>(fst9 (toL f) n d:Int)))∧Below w.heap.size w w':=by
 have HB:=Qh (Qbr.1 hok);have hz:=Qz4;have hal:=Q2p;clear hok;go_enter Tryz.func136,Tryz.ntmps136;go_wp2_with fail;clear hz;have K0:Hid (Qbk w.heap.size w (FB w.heap.size 0 2 (toL f) n) (((w.alloc (.cells (rI 16 fun _=>0) 193)).alloc (.cells (rI 16 fun _=>0) 193)).alloc (.cells (rI 16 fun _=>0) 193))):=Qh (by
  refine((((Qbk.begin w).add (rI 16 fun _=>0) 193).add (rI 16 fun _=>0) 193).add (rI 16 fun _=>0) 193).sub fun x hx=> ?_;have e2:rI 16 (fstF (toL f) n 2)=rI 16 fun _=>0:=Qa3 fun i _=>by
   unfold fstF fst9;by_cases h0:i=0
   ·subst h0;rfl
   ·by_cases h1:i=1
    ·subst h1;rfl
    ·rw [if_neg (by omega)]
  have e1:(rI 16 fun d=>(cnt (toL f) d 0:Int))=rI 16 fun _=>0:=rfl;unfold FB at hx;rw [e2,e1]at hx;simp only [List.mem_cons,List.not_mem_nil,or_false,World.size_alloc]at hx⊢;rcases hx with rfl|rfl|rfl
  ·exact .inr (.inr rfl)
  ·exact .inr (.inl rfl)
  ·exact .inl rfl)
 go_loopw [6,10] (fun _ i wr=>∃k:Nat,k≤n∧i= .int .i64 (k:Int)∧Qbk w.heap.size w (FB w.heap.size k 2 (toL f) n) wr) (fun _ i _=>n-(intOf i).toNat)
 case atStart=>exact⟨0,by omega,rfl,K0.out⟩
 case round=>
  obtain⟨k,hk,rfl,hK⟩:=hrel;clear K0;by_cases hlt:k<n
  ·cases p with
   |none=>have:=(h.nil_ rfl).1;omega
   |some a=>
    have hw:=h.below hK.b;have c0:=hw.cell a rfl k hlt;have h0:=HB.out k hlt;obtain⟨d,hd⟩:=Int.eq_ofNat_of_zero_le h0.1;have hd15:d<16:=by omega
    have hdl:toL f k=d:=by unfold toL;omega
    rw [hd]at c0;have hb1:Blk wr (w.heap.size+1) 193 (rI 16 fun d=>(cnt (toL f) d k:Int)):=hK.blk _ m1;have c1:=hb1.at_ hd15;have f1:=hb1.frozen d;have hcl:=Qk9 (toL f) d k;have HP:=Qh (hK.cell hb1 hd15 (by omega) (.int .i64 ((cnt (toL f) d k+1:Nat):Int)) (FB w.heap.size (k+1) 2 (toL f) n) (fun x hx=>by
     simp only [List.mem_cons,List.not_mem_nil,or_false]at hx;rcases hx with rfl|rfl|rfl
     ·exact .inr ⟨m0,by show w.heap.size≠w.heap.size+1;omega⟩
     ·exact .inl (congrArg (fun r=>(w.heap.size+1,193,r)) (Qa3 fun i _=>(Q0b (toL f) k i d hdl).symm))
     ·exact .inr ⟨m2,by show w.heap.size+1+1≠w.heap.size+1;omega⟩))
    have hW:Hid (wrap64 ((cnt (toL f) d k:Int)+1)=((cnt (toL f) d k+1:Nat):Int)):=Qh (by rw [IntWalk.wrap64_in _ (by omega)];omega)
    clear h0 hd hdl hb1 hcl hw;have hdi:(d:Int)<16:=by omega
    go_wp2_with fail;go_roundw
    case rel=>exact⟨k+1,by omega,by go_num,by rw [hW.out];exact HP.out⟩
    case measure=>simp [intOf];omega
  ·obtain rfl:k=n:=by omega
   go_wp2_with fail;go_loopw [7] (fun i wr=>∃m:Nat,2≤m∧m≤16∧i= .int .i64 (m:Int)∧Hid (Qbk w.heap.size w (FB w.heap.size k m (toL f) k) wr)) (fun i _=>16-(intOf i).toNat)
   case atStart=>exact⟨2,by omega,by omega,rfl,Qh hK⟩
   case round=>
    obtain⟨m,hm,hm2,rfl,HK⟩:=hrel;clear hK;by_cases hlt2:m<16
    ·have hmi:(m:Int)≤15:=by omega
     obtain⟨d,hd⟩:∃d,d=m-1:=⟨_,rfl⟩;have hd16:d<16:=by omega
     obtain⟨X,hX⟩:∃X,X=fst9 (toL f) k d:=⟨_,rfl⟩;obtain⟨Y,hY⟩:∃Y,Y=cnt (toL f) d k:=⟨_,rfl⟩;obtain⟨Z,hZ⟩:∃Z,Z=fst9 (toL f) k m:=⟨_,rfl⟩;have hXl:X≤19660800:=by rw [hX];exact Q2c _ hn (by omega)
     have hYl:Y≤300:=by rw [hY];exact Nat.le_trans (Qk9 ..) hn
     have hZe:Z=2*(X+Y):=by rw [hZ,hX,hY,hd];exact Qx3 _ _ _ hm
     have HD:Hid (IntKind.i64.wrap ((m:Int)-1)=(d:Int)):=Qh (by rw [IntWalk.i64_in _ (by omega)];omega)
     have HA:Hid (IntKind.i64.wrap ((X:Int)+(Y:Int))=(X:Int)+(Y:Int)):=Qh (IntWalk.i64_in _ (by omega))
     have HZ:Hid (IntKind.i64.wrap (2*((X:Int)+(Y:Int)))=(Z:Int)):=Qh (by rw [IntWalk.i64_in _ (by omega)];omega)
     have HX:Hid (∀wx,Qbk w.heap.size w (FB w.heap.size k m (toL f) k) wx→wx.cell? ⟨w.heap.size+1+1,d,none⟩=some (.int .i64 (X:Int))):=Qh fun wx hT=>by
      have hb:Blk wx (w.heap.size+1+1) 193 (rI 16 (fstF (toL f) k m)):=hT.blk _ m2;rw [hb.at_ hd16,hX];unfold fstF;rw [if_pos (by omega)]
     have HY:Hid (∀wx,Qbk w.heap.size w (FB w.heap.size k m (toL f) k) wx→wx.cell? ⟨w.heap.size+1,d,none⟩=some (.int .i64 (Y:Int))):=Qh fun wx hT=>by
      have hb:Blk wx (w.heap.size+1) 193 (rI 16 fun d=>(cnt (toL f) d k:Int)):=hT.blk _ m1;rw [hb.at_ hd16,hY]
     have HC:Hid (∀wx,Qbk w.heap.size w (FB w.heap.size k m (toL f) k) wx→wx.cell? ⟨w.heap.size+1+1,m,none⟩=some (.int .i64 (fstF (toL f) k m m))):=Qh fun wx hT=>by
      have hb:Blk wx (w.heap.size+1+1) 193 (rI 16 (fstF (toL f) k m)):=hT.blk _ m2;exact hb.at_ hlt2
     have HF:Hid (∀wx,Qbk w.heap.size w (FB w.heap.size k m (toL f) k) wx→wx.frozen? ⟨w.heap.size+1+1,m,none⟩=false):=Qh fun wx hT=>by
      have hb:Blk wx (w.heap.size+1+1) 193 (rI 16 (fstF (toL f) k m)):=hT.blk _ m2;exact hb.frozen m
     have HPUT:Hid (∀wx,Qbk w.heap.size w (FB w.heap.size k m (toL f) k) wx→Qbk w.heap.size w (FB w.heap.size k (m+1) (toL f) k) (wx.setCell ⟨w.heap.size+1+1,m,none⟩ (.int .i64 (Z:Int)))):=Qh fun wx hT=>by
      have hb:Blk wx (w.heap.size+1+1) 193 (rI 16 (fstF (toL f) k m)):=hT.blk _ m2;refine hT.cell hb hlt2 (by omega) (.int .i64 (Z:Int)) (FB w.heap.size k (m+1) (toL f) k) fun x hx=> ?_
      simp only [List.mem_cons,List.not_mem_nil,or_false]at hx;rcases hx with rfl|rfl|rfl
      ·exact .inr ⟨m0,by show w.heap.size≠w.heap.size+1+1;omega⟩
      ·exact .inr ⟨m1,by show w.heap.size+1≠w.heap.size+1+1;omega⟩
      ·exact .inl (congrArg (fun r=>(w.heap.size+1+1,193,r)) (Qa3 fun i _=>by rw [hZ];exact(Qx2 (toL f) k m i).symm))
     clear hX hY hZ hZe hd;have hmi:(m:Int)≤15:=by omega
     have hdi:(d:Int)<16:=by omega
     have hmi2:(m:Int)<16:=by omega
     go_wp2_with fail;refine Qad (Two 12 1000 fun a _ wx=>bif a then Qbk w.heap.size w (FB w.heap.size k (m+1) (toL f) k) wx else Qbk w.heap.size w (FB w.heap.size k m (toL f) k) wx) (by kernel_rfl) HK.out.drew ?_
     refine tA (i:=0) rfl rfl ?_;simp only [pu];refine tA (i:=1) rfl rfl ?_;simp only [pu];refine tL (i:=2) (v:= .int .i64 (d:Int)) rfl rfl (fun f1 f2 wx hT=> ?_) ?_
     ·go_simp;exact HD.out
     simp only [pu];refine tA (i:=3) rfl rfl ?_;simp only [pu];refine Qaa (i:=4) (v:= .int .i64 (X:Int)) rfl (Qah (n:=12) rfl (fun f2 wx hT=> ?_)) ?_
     ·have c0:=HX.out _ hT;refine Qab (w:=wx) ?_ hT;go_simp;skip
     simp only [pu];refine tA (i:=5) rfl rfl ?_;simp only [pu];refine tL (i:=6) (v:= .int .i64 (d:Int)) rfl rfl (fun f1 f2 wx hT=> ?_) ?_
     ·go_simp;exact HD.out
     simp only [pu];refine tA (i:=7) rfl rfl ?_;simp only [pu];refine Qaa (i:=8) (v:= .int .i64 (Y:Int)) rfl (Qah (n:=12) rfl (fun f2 wx hT=> ?_)) ?_
     ·have c0:=HY.out _ hT;refine Qab (w:=wx) ?_ hT;go_simp;skip
     simp only [pu];refine tL (i:=9) (v:= .int .i64 ((X+Y:Nat):Int)) rfl rfl (fun f1 f2 wx hT=> ?_) ?_
     ·go_simp;exact HA.out
     simp only [pu];refine tL (i:=10) (v:= .int .i64 (Z:Int)) rfl rfl (fun f1 f2 wx hT=> ?_) ?_
     ·go_simp;exact HZ.out
     simp only [pu];refine tA (i:=11) rfl rfl ?_;simp only [pu];refine Qaa (i:=12) (v:=undef) rfl (Qa5 (by decide) rfl (fun f2 wx hT=> ?_)) ?_
     ·have co:=HC.out _ hT;have fo:=HF.out _ hT;have K:=HPUT.out _ hT;go_simp;exact⟨rfl,K⟩
     simp only [Act.put];refine Qag (by kernel_rfl) (fun wr2 hT=> ?_) _
     have HK2:Hid (Qbk w.heap.size w (FB w.heap.size k (m+1) (toL f) k) wr2):=Qh hT;clear HK;go_wp2_with fail;go_roundw
     case rel=>exact⟨m+1,by omega,by omega,by go_num,HK2⟩
     case measure=>simp [intOf];omega
    ·obtain rfl:m=16:=by omega
     have hb2:Blk wr (w.heap.size+1+1) 193 (rI 16 (fstF (toL f) k 16)):=HK.out.blk _ m2;have hb0:Blk wr w.heap.size 193 (rI 16 fun _=>0):=HK.out.blk _ m0;have hb2:=hb2.cast_ (show rI 16 (fstF (toL f) k 16)=rI 16 (fun d=>(fst9 (toL f) k d:Int))from Qa3 fun i hi=>by unfold fstF;rw [if_pos hi])
     have hsz:(Tryz.prog.info? 193).map (·.size)=some (rI 16 fun d=>(fst9 (toL f) k d:Int)).size:=by rw [Qbb];kernel_rfl
     go_wp2_with (first
      |(refine wpList_load_row rfl 193 _ rfl (w.heap.size+1+1) rfl 193 _ (0,0) _ hb2 Tryz.underlying193 rfl hsz ?_)
      |(refine wpList_store_row rfl 193 _ _ rfl w.heap.size (rI 16 fun d=>(fst9 (toL f) k d:Int)) rfl rfl 193 _ hb0 hsz (by rw [Qbb,Qbb]) (Qv2 fun _=>rfl) ?_))
     have hb3:=hb0.row_ (rI 16 fun d=>(fst9 (toL f) k d:Int));exact bodyPost_ret (results_cell_row rfl _ _ w.heap.size 193 _ (0,0) _ rfl hb3 Tryz.underlying193 rfl hsz) rfl ⟨rfl,Qai HK.out.b Ql _⟩
def nxt9 (l:Nat→Nat) (n k d:Nat):Nat:=if d=0 then 0 else cst l n (d-1)+cnt l d k
def Qgq (l:Nat→Nat) (n k j:Nat):Int:=if j<k then(Qa0 l n j:Int)else 0
theorem Qyo (l:Nat→Nat) (n k j:Nat) (hd:l k=0):nxt9 l n (k+1) j=nxt9 l n k j:=by
 unfold nxt9;by_cases h:j=0
 ·rw [if_pos h,if_pos h]
 ·rw [if_neg h,if_neg h];show _+(cnt l j k+(if l k=j then 1 else 0))=_;rw [if_neg (by omega)];rfl
theorem Q08 (l:Nat→Nat) (n k j d:Nat) (hd:l k=d) (h0:d≠0):(if j=d then Value.int .i64 ((nxt9 l n k d+1:Nat):Int)else Value.int .i64 (nxt9 l n k j:Int))=Value.int .i64 (nxt9 l n (k+1) j:Int):=by
 have e:nxt9 l n (k+1) j=if j=d then nxt9 l n k d+1 else nxt9 l n k j:=by
  unfold nxt9;by_cases h:j=d
  ·subst h;rw [if_pos rfl,if_neg h0,if_neg h0];show _+(cnt l j k+(if l k=j then 1 else 0))=_;rw [if_pos hd];omega
  ·rw [if_neg h];by_cases hj:j=0
   ·rw [if_pos hj,if_pos hj]
   ·rw [if_neg hj,if_neg hj];show _+(cnt l j k+(if l k=j then 1 else 0))=_;rw [if_neg (by omega)];rfl
 rw [e];split<;>rfl
theorem Qt0 (l:Nat→Nat) (n k j v:Nat) (hv:v=Qa0 l n k):(if j=k then Value.int .i64 (v:Int)else Value.int .i64 (Qgq l n k j))=Value.int .i64 (Qgq l n (k+1) j):=by
 subst hv;unfold Qgq;by_cases h:j=k
 ·subst h;rw [if_pos rfl,if_pos (by omega)]
 ·rw [if_neg h];by_cases h2:j<k
  ·rw [if_pos h2,if_pos (by omega)]
  ·rw [if_neg h2,if_neg (by omega)]
theorem Qsh (l:Nat→Nat) (n k j:Nat) (hd:l k=0):Qgq l n (k+1) j=Qgq l n k j:=by
 unfold Qgq;by_cases h:j=k
 ·subst h;rw [if_pos (by omega),if_neg (by omega)]
  unfold Qa0;rw [if_pos hd];rfl
 ·by_cases h2:j<k
  ·rw [if_pos h2,if_pos (by omega)]
  ·rw [if_neg h2,if_neg (by omega)]
abbrev CB (g k:Nat) (l:Nat→Nat) (n:Nat):List (Nat×TypeId×Array Value):=[(g+1,3,rI n (Qgq l n k)),(g,193,rI 16 fun d=>(nxt9 l n k d:Int))]
theorem Qt1 (p:Option Addr) (n cap:Nat) (f:Nat→Int) (w:World) (h:IS p n cap f w) (hn:n≤17592186044416) (he:¬(okB f n=true∧n≤300)):
  Calls Tryz.prog 110 #[.slice p n cap] w fun e w'=>e= .returned (.tuple #[.slice none 0 0,.int .i64 1])∧Below w.heap.size w w':=by
 by_cases h3:n≤300
 ·have hb:allB f 15 n=false:=by
   rw [Qo7];cases e:okB f n with
   |false=>rfl
   |true=>exact absurd ⟨e,h3⟩ he
  have C:=Qc1 p n cap f 15 w h hn;rw [hb]at C;have hni:¬(n:Int)>300:=by omega
  clear he hb;go_enter Tryz.func110,Tryz.ntmps110;go_wp2_with fail;refine C.mono ?_;rintro e w1 ⟨rfl,b1⟩;go_wp2_with fail;go_ret2;exact⟨rfl,b1⟩
 ·have hni:(n:Int)>300:=by omega
  clear he;go_enter Tryz.func110,Tryz.ntmps110;go_wp2_with fail;go_ret2;exact⟨rfl,Below.refl _ _⟩
theorem Qsj (p:Option Addr) (n cap:Nat) (f:Nat→Int) (w:World) (h:IS p n cap f w) (hn:n≤300) (hok:okB f n=true) (hk:¬kr (toL f) n≤32768):
  Calls Tryz.prog 110 #[.slice p n cap] w fun e w'=>e= .returned (.tuple #[.slice none 0 0,.int .i64 2])∧Below w.heap.size w w':=by
 have C:=Qc1 p n cap f 15 w h (by omega)
 rw [Qo7,hok]at C;have S:=Qh (fun w h=>Qkd p n cap f w h (by omega) hok)
 have hni:¬(n:Int)>300:=by omega
 have hki:(kr (toL f) n:Int)>32768:=by omega
 generalize kr (toL f) n=K at*;clear hk;go_enter Tryz.func110,Tryz.ntmps110;go_wp2_with fail;refine C.mono ?_;rintro e w1 ⟨rfl,b1⟩;go_wp2_with fail;refine(S.out _ (h.below b1)).mono ?_;rintro e w2 ⟨rfl,rfl⟩;go_wp2_with fail;go_ret2;exact⟨rfl,b1⟩
theorem Qq0 (p:Option Addr) (n cap:Nat) (f:Nat→Int) (w:World) (h:IS p n cap f w) (hn:n≤300) (hok:okB f n=true) (hk:kr (toL f) n≤32768):
  Calls Tryz.prog 110 #[.slice p n cap] w fun e w'=>∃p2 c2,e= .returned (.tuple #[.slice p2 n c2,.int .i64 0])∧IS p2 n c2 (fun i=>(Qa0 (toL f) n i:Int)) w'∧Below w.heap.size w w':=by
 have C:=Qc1 p n cap f 15 w h (by omega)
 rw [Qo7,hok]at C;have S:=Qh (fun w h=>Qkd p n cap f w h (by omega) hok)
 have F:=Qh (fun w h=>Qkx p n cap f w h hn hok);have HB:=Qh (Qbr.1 hok);have hni:¬(n:Int)>300:=by omega
 have hki:¬(kr (toL f) n:Int)>32768:=by omega
 have HK:=Qh hk;clear hk hok;have hm:=Qge n (by omega)
 have hal:=Q2p;go_enter Tryz.func110,Tryz.ntmps110;go_wp2_with fail;refine C.mono ?_;rintro e w1 ⟨rfl,b1⟩;have h1:=h.below b1;go_wp2_with fail;refine(S.out _ h1).mono ?_;intro e w2 hw2;obtain⟨rfl,e2⟩:=hw2;obtain rfl:=e2.symm;go_wp2_with fail;clear hki;refine(F.out _ h1).mono ?_;rintro e w3 ⟨rfl,b3⟩;have hsz:(Tryz.prog.info? 193).map (·.size)=some (rI 16 fun d=>(fst9 (toL f) n d:Int)).size:=by rw [Qbb];kernel_rfl
 have K3:Qbk w.heap.size w [] w3:=⟨b1.trans (b3.mono b1.size),Nat.le_trans b1.size b3.size,fun x hx=>by cases hx⟩
 have K4:=(K3.new (rI 16 fun _=>0) (rI 16 fun d=>(fst9 (toL f) n d:Int)) 193).add (rI n fun _=>0) 3;have hz:=Qz4;go_wp2_with (refine wpList_store_row rfl 193 _ _ rfl w3.heap.size (rI 16 fun d=>(fst9 (toL f) n d:Int)) rfl rfl 193 _ (Blk.new w3 _ _) hsz (by rw [Qbb,Qbb]) (Qv2 fun _=>rfl) ?_)
 clear hz hm C S F K3;obtain⟨g,hg⟩:∃g,g=w3.heap.size:=⟨_,rfl⟩;have hgB:w.heap.size≤g:=by rw [hg];exact Nat.le_trans b1.size b3.size
 have K5:Hid (Qbk w.heap.size w (CB g 0 (toL f) n) (((w3.alloc (.cells (rI 16 fun _=>0) 193)).setRow w3.heap.size (rI 16 fun d=>(fst9 (toL f) n d:Int))).alloc (.cells (rI n fun _=>0) 3))):=Qh (by
  refine K4.sub fun x hx=> ?_;unfold CB at hx;rw [hg,show rI n (Qgq (toL f) n 0)=rI n fun _=>0 from Qa3 fun i _=>by unfold Qgq;rw [if_neg (by omega)]]at hx
  simp only [List.mem_cons,List.not_mem_nil,or_false]at hx⊢;rcases hx with rfl|rfl
  ·left;simp
  ·exact .inr rfl)
 clear K4;simp only [←hg]at*;go_loopw [6,7,26] (fun _ _ i wr=>∃k:Nat,k≤n∧i= .int .i64 (k:Int)∧Hid (Qbk w.heap.size w (CB g k (toL f) n) wr)) (fun _ _ i _=>n-(intOf i).toNat)
 case atStart=>exact⟨0,by omega,rfl,K5⟩
 case round=>
  obtain⟨k,hk,rfl,HKn⟩:=hrel;clear K5;by_cases hlt:k<n
  ·cases p with
   |none=>have:=(h.nil_ rfl).1;omega
   |some a=>
    have c0:=(h.below HKn.out.b).cell a rfl k hlt;have h0:=HB.out k hlt;obtain⟨d,hd⟩:=Int.eq_ofNat_of_zero_le h0.1;have hd15:d<16:=by omega
    have hdl:toL f k=d:=by unfold toL;omega
    rw [hd]at c0;by_cases hz:d=0
    ·have HP:Hid (Qbk w.heap.size w (CB g (k+1) (toL f) n) wr):=Qh (HKn.out.cast (by
      unfold CB;rw [show rI n (Qgq (toL f) n k)=rI n (Qgq (toL f) n (k+1))from Qa3 fun i _=>by rw [Qsh _ _ _ _ (by omega)],show(rI 16 fun d=>(nxt9 (toL f) n k d:Int))=rI 16 fun d=>(nxt9 (toL f) n (k+1) d:Int)from Qa3 fun i _=>congrArg (fun x:Nat=>Value.int .i64 (x:Int)) (Qyo (toL f) n k i (by omega)).symm]))
     subst hz;clear h0 hd hdl;go_wp2_with fail;go_roundw
     case rel=>exact⟨k+1,by omega,by go_num,HP⟩
     case measure=>simp [intOf];omega
    ·have hb1:Blk wr (g+1) 3 (rI n (Qgq (toL f) n k)):=HKn.out.blk _ m0;have hb0:Blk wr g 193 (rI 16 fun d=>(nxt9 (toL f) n k d:Int)):=HKn.out.blk _ m1;obtain⟨v,hv⟩:∃v,v=nxt9 (toL f) n k d:=⟨_,rfl⟩;have hvc:v=Qa0 (toL f) n k:=by
      rw [hv];unfold nxt9 Qa0;rw [if_neg hz,if_neg (by omega),hdl]
     have hvl:v≤19661100:=by
      rw [hv];unfold nxt9;rw [if_neg hz];have:=Qzs (toL f) (n:=n) (d:=d-1) hn (by omega)
      have:=Qk9 (toL f) d k;omega
     have k1:=hb1.at_ hlt;have f1:=hb1.frozen k;have k0:wr.cell? ⟨g,d,none⟩=some (.int .i64 (nxt9 (toL f) n k d:Int)):=hb0.at_ hd15;rw [←hv]at k0;have f0:=hb0.frozen d;have HQ:=HKn.out.cell hb1 hlt (by omega) (.int .i64 (v:Int)) [(g+1,3,rI n (Qgq (toL f) n (k+1))),(g,193,rI 16 fun d=>(nxt9 (toL f) n k d:Int))] (fun x hx=>by
      simp only [List.mem_cons,List.not_mem_nil,or_false]at hx;rcases hx with rfl|rfl
      ·exact .inl (congrArg (fun r=>(g+1,3,r)) (Qa3 fun i _=>(Qt0 (toL f) n k i v hvc).symm))
      ·exact .inr ⟨m1,by show g≠g+1;omega⟩)
     have hq0:Blk _ g 193 (rI 16 fun d=>(nxt9 (toL f) n k d:Int)):=HQ.blk _ m1;have HP:Hid (Qbk w.heap.size w (CB g (k+1) (toL f) n) ((wr.setCell ⟨g+1,k,none⟩ (.int .i64 (v:Int))).setCell ⟨g,d,none⟩ (.int .i64 ((v+1:Nat):Int)))):=Qh (HQ.cell hq0 hd15 hgB (.int .i64 ((v+1:Nat):Int)) (CB g (k+1) (toL f) n) (fun x hx=>by
      simp only [List.mem_cons,List.not_mem_nil,or_false]at hx;rcases hx with rfl|rfl
      ·exact .inr ⟨m0,by show g+1≠g;omega⟩
      ·exact .inl (congrArg (fun r=>(g,193,r)) (Qa3 fun i _=>by rw [hv];exact(Q08 (toL f) n k i d hdl hz).symm))))
     have kq:(wr.setCell ⟨g+1,k,none⟩ (.int .i64 (v:Int))).cell? ⟨g,d,none⟩=some (.int .i64 (nxt9 (toL f) n k d:Int)):=hq0.at_ hd15;rw [←hv]at kq;have fq:=hq0.frozen d;have hd0:(0:Int)<(d:Int):=by omega
     have hdi:(d:Int)<16:=by omega
     have hki:(k:Int)<(n:Int):=by omega
     clear h0 hd hdl hb1 hb0 hv hvc hz HQ hq0;go_wp2_with fail;go_roundw
     case rel=>exact⟨k+1,by omega,by go_num,HP⟩
     case measure=>simp [intOf];omega
  ·obtain rfl:k=n:=by omega
   have hbn:Blk wr (g+1) 3 (rI k (Qgq (toL f) k k)):=HKn.out.blk _ m0;have hI:IS (some ⟨g+1,0,none⟩) k k (fun i=>(Qa0 (toL f) k i:Int)) wr:=IS.row (hbn.cast_ (Qa3 fun i hi=>by unfold Qgq;rw [if_pos hi])) (fun i _=>by omega) (fun i hi=>by
    by_cases h0:toL f i=0
    ·unfold Qa0;rw [if_pos h0];omega
    ·have h15:∀j,j<k→toL f j≤15:=fun j hj=>by have:=HB.out j hj;unfold toL;omega
     have h1:=Qh1 (toL f) k i h15 HK.out hi h0;have h2:2^toL f i≤2^15:=Nat.pow_le_pow_right (by decide) (h15 i hi)
     omega)
   clear hbn;go_wp2_with fail;go_ret2;exact⟨_,_,rfl,hI,HKn.out.b⟩
theorem Qlc (p:Option Addr) (n cap:Nat) (f:Nat→Int) (w:World) (h:IS p n cap f w) (hn:n≤17592186044416):
  Calls Tryz.prog 110 #[.slice p n cap] w fun e w'=>∃p2 c2,e= .returned (.tuple #[.slice p2 (Qfs f n) c2,.int .i64 (Qba f n:Int)])∧IS p2 (Qfs f n) c2 (fun i=>(Qa0 (toL f) n i:Int)) w'∧Below w.heap.size w w':=by
 have nil:∀w':World,IS none 0 0 (fun i=>(Qa0 (toL f) n i:Int)) w':=fun w'=>⟨fun _=>⟨rfl,rfl⟩,(fun a e=>by cases e),(fun a e=>by cases e),(fun i hi=>by omega),(fun i hi=>by omega)⟩
 by_cases h1:okB f n=true∧n≤300
 ·by_cases hk:kr (toL f) n≤32768
  ·have e0:=Qg8 h1 hk;have em:Qfs f n=n:=by unfold Qfs;rw [if_pos e0]
   rw [e0,em];exact Qq0 p n cap f w h h1.2 h1.1 hk
  ·have e0:=Qjn h1 hk;have em:Qfs f n=0:=by unfold Qfs;rw [if_neg (by omega)]
   rw [e0,em];exact(Qsj p n cap f w h h1.2 h1.1 hk).mono fun e w' ⟨h2,h3⟩=>⟨none,0,h2,nil w',h3⟩
 ·have e0:=Qlb h1;have em:Qfs f n=0:=by unfold Qfs;rw [if_neg (by omega)]
  rw [e0,em];exact(Qt1 p n cap f w h hn h1).mono fun e w' ⟨h2,h3⟩=>⟨none,0,h2,nil w',h3⟩
def keyW (l:Nat→Nat) (n i:Nat):Nat:=2^l i+Qa0 l n i
def gkW (l:Nat→Nat) (n:Nat):Nat→Nat→Option Nat
 |0,_=>none
 |k+1,x=>if l k≠0∧keyW l n k=x then some k else gkW l n k x
def nzW (l:Nat→Nat):Nat→Nat
 |0=>0
 |k+1=>nzW l k+if l k=0 then 0 else 1
theorem Q0t {l:Nat→Nat} {n k x i:Nat} (h:gkW l n k x=some i):i<k∧l i≠0∧keyW l n i=x:=by
 induction k with
 |zero=>cases h
 |succ k ih=>
  unfold gkW at h;by_cases h1:l k≠0∧keyW l n k=x
  ·rw [if_pos h1]at h;cases h;exact⟨Nat.lt_succ_self _,h1⟩
  ·rw [if_neg h1]at h;have:=ih h;exact⟨by omega,this.2⟩
theorem Q2e {l:Nat→Nat} {n k x:Nat} (h:gkW l n k x=none):∀i,i<k→¬(l i≠0∧keyW l n i=x):=by
 induction k with
 |zero=>intro i hi;omega
 |succ k ih=>
  unfold gkW at h;by_cases h1:l k≠0∧keyW l n k=x
  ·rw [if_pos h1]at h;cases h
  ·rw [if_neg h1]at h;intro i hi;rcases(show i<k∨i=k by omega)with h2|rfl
   ·exact ih h i h2
   ·exact h1
theorem Qrt {a b x y:Nat} (hx:x<2^a) (hy:y<2^b) (h:2^a+x=2^b+y):a=b∧x=y:=by
 have key:∀{a b x y:Nat},x<2^a→a<b→2^a+x≠2^b+y:=fun {a b x y} hx hab h=>by
  have h1:2^(a+1)≤2^b:=Nat.pow_le_pow_right (by decide) hab
  rw [Nat.pow_succ]at h1;omega
 rcases Nat.lt_trichotomy a b with h1|rfl|h1
 ·exact absurd h (key hx h1)
 ·exact⟨rfl,by omega⟩
 ·exact absurd h.symm (key hy h1)
theorem Qrg {l:Nat→Nat} {n i k:Nat} (h:∀j,j<n→l j≤15) (hk:kr l n≤2^15) (hi:i<n) (hj:k<n) (h0:l i≠0) (h1:l k≠0) (e:keyW l n i=keyW l n k):i=k:=by
 obtain⟨e1,e2⟩:=Qrt (Qh1 l n i h hk hi h0) (Qh1 l n k h hk hj h1) e;exact Qnr l n i k h0 e1 e2
theorem Qzu {l:Nat→Nat} {n d c:Nat} (h:∀j,j<n→l j≤15) (hk:kr l n≤2^15) (hd:d≠0) (hc:c<2^d):gkW l n n (2^d+c)=fnd l n d c n:=by
 cases e:fnd l n d c n with
 |none=>
  cases e2:gkW l n n (2^d+c)with
  |none=>rfl
  |some i=>
   obtain⟨h1,h2,h3⟩:=Q0t e2;obtain⟨h4,h5⟩:=Qrt (Qh1 l n i h hk h1 h2) hc h3;exact absurd ⟨h4,h5⟩ (Q0s e i h1)
 |some k=>
  obtain⟨h1,h2,h3⟩:=Quo e;cases e2:gkW l n n (2^d+c)with
  |none=>exact absurd ⟨by omega,by unfold keyW;rw [h2,h3]⟩ (Q2e e2 k h1)
  |some i=>
   obtain⟨h4,h5,h6⟩:=Q0t e2
   congr 1
   exact Qrg h hk h4 h1 h5 (by omega) (by rw [h6];unfold keyW;rw [h2,h3])
theorem Q2d {l:Nat→Nat} {n k:Nat} (h:∀j,j<n→l j≤15) (hk:kr l n≤2^15) (hi:k<n) (h0:l k≠0):gkW l n k (keyW l n k)=none:=by
 cases e:gkW l n k (keyW l n k)with
 |none=>rfl
 |some i=>
  obtain⟨h1,h2,h3⟩:=Q0t e;have:=Qrg h hk (by omega) hi h2 h0 h3
  omega
theorem Q3q {l:Nat→Nat} {n:Nat}:nzW l n=0↔kr l n=0:=by
 induction n with
 |zero=>exact⟨fun _=>rfl,fun _=>rfl⟩
 |succ n ih=>
  show nzW l n+_=0↔kr l n+_=0
  by_cases h:l n=0
  ·rw [if_pos h,if_pos h];exact ih
  ·rw [if_neg h,if_neg h];have:0<2^(15-l n):=Nat.pow_pos (by decide)
   omega
theorem Qve {l:Nat→Nat} {n:Nat} (h:nzW l n=0):∀i,i<n→l i=0:=by
 induction n with
 |zero=>intro i hi;omega
 |succ n ih=>
  have h2:nzW l n+(if l n=0 then 0 else 1)=0:=h;intro i hi;by_cases h3:l n=0
  ·rcases(show i<n∨i=n by omega)with h4|rfl
   ·rw [if_pos h3]at h2;exact ih h2 i h4
   ·exact h3
  ·rw [if_neg h3]at h2;omega
theorem Qwa {l:Nat→Nat} {n:Nat} (h:∀i,i<n→l i=0):sgl l n=0:=by
 induction n with
 |zero=>rfl
 |succ n ih=>show sgl l n+l n=0;rw [ih fun i hi=>h i (by omega),h n (by omega)]
theorem Qwb {l:Nat→Nat} {n:Nat} (h:sgl l n=0):nzW l n=0:=by
 induction n with
 |zero=>rfl
 |succ n ih=>
  have h2:sgl l n+l n=0:=h;show nzW l n+_=0;rw [ih (by omega),if_pos (by omega)]
theorem Qr1 {l:Nat→Nat} {n:Nat}:sgl l n=1↔nzW l n=1∧∃i,i<n∧l i=1:=by
 induction n with
 |zero=>
  constructor
  ·intro h;cases h
  ·rintro⟨h,_⟩;cases h
 |succ n ih=>
  show sgl l n+l n=1↔nzW l n+_=1∧_
  by_cases h:l n=0
  ·rw [if_pos h,h,Nat.add_zero,Nat.add_zero,ih]
   constructor
   ·rintro⟨h1,i,h2,h3⟩;exact⟨h1,i,by omega,h3⟩
   ·rintro⟨h1,i,h2,h3⟩;refine⟨h1,i,?_,h3⟩;rcases(show i<n∨i=n by omega)with h4|rfl
    ·exact h4
    ·omega
  ·rw [if_neg h]
   constructor
   ·intro h1;have h2:nzW l n=0:=Qwb (by omega)
    exact⟨by omega,n,by omega,by omega⟩
   ·rintro⟨h1,i,h2,h3⟩;have h4:nzW l n=0:=by omega
    have h5:=Qwa (Qve h4);rcases(show i<n∨i=n by omega)with h6|rfl
    ·have:=Qve h4 i h6;omega
    ·omega
theorem Qs5 {l:Nat→Nat} {n:Nat} (h:∀j,j<n→l j≤15) (hk:kr l n≤2^15):sgl l n=1↔nzW l n=1∧(gkW l n n 2).isSome=true:=by
 rw [Qr1];refine and_congr_right fun h1=> ?_;have e:gkW l n n 2=fnd l n 1 0 n:=Qzu (d:=1) (c:=0) h hk (by decide) (by decide)
 rw [e]
 constructor
 ·rintro⟨i,h2,h3⟩;have h4:Qa0 l n i=0:=by
   have hs:=Qr1.2 ⟨h1,i,h2,h3⟩;unfold Qa0;rw [if_neg (by omega),h3]
   have hc:cnt l 1 i=0:=by
    cases hz:cnt l 1 i with
    |zero=>rfl
    |succ c=>
     exfalso
     have:∀m,m≤i→cnt l 1 m≤sgl l m:=fun m=>by
      induction m with
      |zero=>intro _;exact Ql
      |succ m ih=>
       intro hm;have:=ih (by omega)
       show cnt l 1 m+_≤sgl l m+l m
       split<;>omega
     have h5:=this i Ql;have h6:sgl l (i+1)=sgl l i+l i:=rfl;have h7:∀m,i+1≤m→sgl l (i+1)≤sgl l m:=fun m hm=>by
      induction hm with
      |refl=>exact Ql
      |step _ ih=>exact Nat.le_trans ih (Nat.le_add_right _ _)
     have:=h7 n (by omega)
     omega
   rw [hc];rfl
  rw [Qx1 (by decide) h2 h3 h4];rfl
 ·intro h2;cases e3:fnd l n 1 0 n with
  |none=>rw [e3]at h2;cases h2
  |some k=>
   obtain⟨h4,h5,_⟩:=Quo e3;exact⟨k,h4,h5⟩

section
open Go.Maps (Keyed)
theorem Qkr:Keyed Tryz.prog 237:=Maps.int_keyed Tryz.underlying237
theorem Q1x (w:World):(zeroValue 3).run Tryz.prog w= .ok (.int .i64 0) w:=by kernel_rfl
theorem Qw2 (x:Nat) (hx:x<4294967296):keyOf Tryz.prog 237 (.int .u32 (x:Int))=some (.int .u32 (x:Int)):=
 Maps.keyOf_int_mk Tryz.underlying237 (by simp [Lit.wf,IntKind.min,IntKind.max,IntKind.bits,IntKind.signed];omega)
def MW (b n:Nat) (g:Nat→Option Nat) (sz:Nat) (w:World):Prop:=
 ∃D:DataW Unit,w.ownsMap Tryz.prog 237 (plainElem Tryz.prog 3) b n D∧(∀x:Nat,x<4294967296→Maps.has D (.int .u32 (x:Int))=(g x).isSome∧D.atKey (.int .u32 (x:Int)) (.lit (.int .i64 0))= .lit (.int .i64 (((g x).getD 0:Nat):Int)))∧Maps.size D=sz
variable {b n sz:Nat} {g:Nat→Option Nat} {w:World}
theorem MW.made (w:World):MW w.heap.size 0 (fun _=>none) 0 (w.alloc (.map #[] 0)):=
 ⟨.map [],World.ownsMap_made _ _ _ _,fun _ _=>⟨rfl,rfl⟩,rfl⟩
theorem MW.below {w':World} (h:MW b n g sz w) (hb:Below w.heap.size w w'):MW b n g sz w':=by
 obtain⟨D,⟨es,clock,h1,h2⟩,h3⟩:=h;have hlt:b<w.heap.size:=World.ownsMap.lt (H:=Unit) ⟨es,clock,h1,h2⟩;exact⟨D,⟨es,clock,(hb.block b hlt).trans h1,h2⟩,h3⟩
theorem MW.drew (h:MW b n g sz w):MW b n g sz w.drew:=h
theorem MW.alloc (h:MW b n g sz w) (o:Obj):MW b n g sz (w.alloc o):=by
 obtain⟨D,h1,h2⟩:=h;exact⟨D,h1.alloc o,h2⟩
theorem MW.cast {g':Nat→Option Nat} {sz':Nat} (h:MW b n g sz w) (hg:∀x,g x=g' x) (hs:sz=sz'):MW b n g' sz' w:=by
 obtain rfl:g=g':=funext hg;subst hs;exact h
theorem MW.look (h:MW b n g sz w) {x:Nat} (hx:x<4294967296):
  (Instr.lookup 234 (.map (some b)) (.int .u32 (x:Int)) true).run Tryz.prog w= .ok (.tuple #[.int .i64 (((g x).getD 0:Nat):Int),.bool (g x).isSome]) w:=by
 obtain⟨D,h1,h2,_⟩:=h;obtain⟨v,ps,h3,h4⟩:=h1.look_ok Qkr Tryz.underlying234 (Q1x w) (plainElem_int Tryz.underlying3 (by decide)) (Qw2 x hx)
 rw [(h2 x hx).2]at h4;obtain⟨a,rfl,ha,_⟩:=plainElem_int_inv Tryz.underlying3 h4;simp only [Prod.mk.injEq,DataW.lit.injEq,Lit.int.injEq]at ha;rw [h3,(h2 x hx).1,←ha.1.2]
theorem MW.len (h:MW b n g sz w) (ty:TypeId):(Builtin.len_ #[234] ty #[.map (some b)]).run Tryz.prog w= .ok (.int .i64 (sz:Int)) w:=by
 obtain⟨D,h1,_,h3⟩:=h;rw [←h3];exact h1.len Tryz.underlying234 ty
theorem MW.put (h:MW b n g sz w) (hn:n<1000000) {x i:Nat} (hx:x<4294967296) (hi:i<9223372036854775808) (hnew:g x=none):
  ∃w',(Instr.mapUpdate 234 (.map (some b)) (.int .u32 (x:Int)) (.int .i64 (i:Int))).run Tryz.prog w= .ok () w'∧MW b (n+1) (fun y=>if x=y then some i else g y) (sz+1) w'∧w.grownBy w' (some b):=by
 obtain⟨D,h1,h2,h3⟩:=h;obtain⟨w',h4,h5,h6⟩:=h1.update Qkr Tryz.underlying234 (by unfold maxLen;omega) (Qw2 x hx) (plainElem_int Tryz.underlying3 (a:=(i:Int)) (by simp [Lit.wf,IntKind.min,IntKind.max,IntKind.bits,IntKind.signed];omega))
 refine⟨w',h4,⟨_,h5,fun y hy=> ?_,?_⟩,h6⟩
 ·simp only;by_cases e:x=y
  ·subst e;rw [if_pos rfl,Maps.has_put_same h1.isMap (by trivial),Maps.atKey_put_same h1.isMap (by trivial)]
   exact⟨rfl,rfl⟩
  ·have hne:Lit.int .u32 (y:Int)≠ .int .u32 (x:Int):=fun hh=>by
    have:=(Lit.int.inj hh).2;omega
   rw [if_neg e,Maps.has_put_other hne,Maps.atKey_put_other hne];exact h2 y hy
 ·rw [Maps.size_put (h1.tidy Qkr),(h2 x hx).1,hnew,h3];rfl
end
theorem Qv6 (k:Int) (w:World):(Instr.makeMap 234 (some (.int .i64 k))).run Tryz.prog w= .ok (.map (some w.heap.size)) (w.alloc (.map #[] 0)):=by kernel_rfl
structure NW (w w1:World) (l:Nat→Nat) (n k:Nat) (wx:World):Prop where
 b:Below w.heap.size w wx
 b1:Below w1.heap.size w1 wx
 lo:w1.heap.size+1<wx.heap.size
 m:MW w1.heap.size k (gkW l n k) (nzW l k) wx
 c:Blk wx (w1.heap.size+1) 236 #[.map (some w1.heap.size)]
theorem NW.drew {w w1 wx:World} {l:Nat→Nat} {n k:Nat} (h:NW w w1 l n k wx):NW w w1 l n k wx.drew:=⟨h.b.drew,h.b1.drew,h.lo,h.m.drew,h.c.drew⟩
theorem Q1b {d c:Nat} (hc:c<2^d):2^d|||c=2^d+c:=by
 have h:=Nat.two_pow_add_eq_or_of_lt hc 1;rw [Nat.mul_one]at h;exact h.symm
theorem Qu6 (p:Option Addr) (n cap:Nat) (f:Nat→Int) (w:World) (h:IS p n cap f w) (hn:n≤300) (hok:okB f n=true) (hk:kr (toL f) n≤32768):
  Calls Tryz.prog 151 #[.slice p n cap] w fun e w'=>Below w.heap.size w w'∧((newE f n=0∧∃w1,e= .returned (.tuple #[.pointer (some ⟨w1.heap.size+1,0,none⟩),.int .i64 0])∧NW w w1 (toL f) n n w')∨(newE f n=2∧e= .returned (.tuple #[.pointer none,.int .i64 2]))):=by
 have C:=Qq0 p n cap f w h hn hok hk;have S:=Qh (fun w h=>Qkd p n cap f w h (by omega) hok)
 have HB:=Qh (Qbr.1 hok);have H15:Hid (∀j,j<n→toL f j≤15):=Qh fun j hj=>by have:=HB.out j hj;unfold toL;omega
 have HK:=Qh hk;clear hk hok;have hmm:=Qv6;go_enter Tryz.func151,Tryz.ntmps151;go_wp2_with fail;refine C.mono ?_;rintro e w1 ⟨p2,c2,rfl,i2,b1⟩;have hlt2:∀a,p2=some a→a.block<w1.heap.size:=i2.lt;go_wp2_with fail;have HN0:Hid (NW w w1 (toL f) n 0 ((w1.alloc (.map #[] 0)).alloc (.cells #[.map (some w1.heap.size)] 236))):=Qh (by
  have a1:Below w1.heap.size w1 ((w1.alloc (.map #[] 0)).alloc (.cells #[.map (some w1.heap.size)] 236)):=(Qb.alloc Ql _).alloc (by simp) _
  refine⟨b1.trans (a1.mono b1.size),a1,by simp,(MW.made w1).alloc _,?_⟩
  exact(Blk.new _ _ _).cast' ⟨by simp,rfl⟩)
 have b1s:=b1.size;clear b1 C hmm;go_loopw [7,8,26] (fun _ _ i wr=>∃k:Nat,k≤n∧i= .int .i64 (k:Int)∧Hid (NW w w1 (toL f) n k wr)) (fun _ _ i _=>n-(intOf i).toNat)
 case atStart=>exact⟨0,by omega,rfl,HN0⟩
 case round=>
  obtain⟨k,hk,rfl,HN⟩:=hrel;clear HN0;by_cases hlt:k<n
  ·cases p with
   |none=>have:=(h.nil_ rfl).1;omega
   |some a=>
    have c0:=(h.below HN.out.b).cell a rfl k hlt;have h0:=HB.out k hlt;obtain⟨d,hd⟩:=Int.eq_ofNat_of_zero_le h0.1;have hd15:d≤15:=by omega
    have hdl:toL f k=d:=by unfold toL;omega
    rw [hd]at c0;by_cases hz:d=0
    ·have HP:Hid (NW w w1 (toL f) n (k+1) wr):=Qh (by
      obtain⟨x1,x2,x3,x4,x5⟩:=HN.out;refine⟨x1,x2,x3,?_,x5⟩;obtain⟨D,hD⟩:=x4;refine MW.cast (g:=gkW (toL f) n k) ⟨D,hD.1.mono (by omega),hD.2⟩ (fun x=> ?_) ?_
      ·show _=if _ then _ else _;rw [if_neg (by omega)]
      ·show _=_+_;rw [if_pos (by omega)];rfl)
     subst hz;clear h0 hd hdl;go_wp2_with fail;go_roundw
     case rel=>exact⟨k+1,by omega,by go_num,HP⟩
     case measure=>simp [intOf];omega
    ·cases p2 with
     |none=>have:=(i2.nil_ rfl).1;omega
     |some a2=>
     obtain⟨c,hc⟩:∃c,c=Qa0 (toL f) n k:=⟨_,rfl⟩;have hcl:c<2^d:=by rw [hc,←hdl];exact Qh1 (toL f) n k H15.out HK.out hlt (by omega)
     have hp15:2^d≤2^15:=Nat.pow_le_pow_right (by decide) hd15
     have hkw:keyW (toL f) n k=2^d+c:=by unfold keyW;rw [hdl,hc]
     have HC:Hid (∀wx,NW w w1 (toL f) n k wx→wx.cell? ⟨w1.heap.size+1,0,none⟩=some (.map (some w1.heap.size))):=Qh fun wx hT=>hT.c.cell 0;have HQ:Hid (∀wx,NW w w1 (toL f) n k wx→wx.cell? (a2.add k)=some (.int .i64 (c:Int))):=Qh fun wx hT=>by
      rw [hc];exact(i2.below hT.b1).cell a2 rfl k hlt
     have HS:Hid (IntKind.u32.wrap (2^d)=2^d):=Qh (by
      rw [show ((2:Int)^d)=((2^d:Nat):Int)by push_cast;rfl]
      exact IntWalk.u32_in _ (by omega))
     have HV:Hid (IntKind.u32.wrap (c:Int)=(c:Int)):=Qh (IntWalk.u32_in _ (by omega))
     have HO:Hid (bits .or .u32 (2^d) (c:Int)=((keyW (toL f) n k:Nat):Int)):=Qh (by
      rw [show ((2:Int)^d)=((2^d:Nat):Int)by push_cast;rfl,u32_or_nat _ _ (by omega) (by omega),Q1b hcl,hkw])
     have HPUT:Hid (∀wx,NW w w1 (toL f) n k wx→∃w',(Instr.mapUpdate 234 (.map (some w1.heap.size)) (.int .u32 ((keyW (toL f) n k:Nat):Int)) (.int .i64 (k:Int))).run Tryz.prog wx= .ok () w'∧NW w w1 (toL f) n (k+1) w'):=Qh fun wx hT=>by
      obtain⟨w',h1,h2,h3⟩:=hT.m.put (by omega) (x:=keyW (toL f) n k) (i:=k) (by rw [hkw];omega) (by omega) (Q2d H15.out HK.out hlt (by omega))
      refine⟨w',h1,hT.b.grown h3 hT.b.size (fun j hj=>by cases hj;exact b1s),hT.b1.grown h3 hT.b1.size (fun j hj=>by cases hj;exact Ql),Nat.lt_of_lt_of_le hT.lo h3.size,?_,?_⟩
      ·refine h2.cast (fun x=> ?_) ?_
       ·show(if keyW (toL f) n k=x then _ else _)=if _ then _ else _
        by_cases e:keyW (toL f) n k=x
        ·rw [if_pos e,if_pos ⟨by omega,e⟩]
        ·rw [if_neg e,if_neg (fun hh=>e hh.2)]
       ·show _=_+_;rw [if_neg (by omega)]
      ·exact(h3.block (w1.heap.size+1) hT.c.lt (by simp)).trans hT.c
     have hki:(k:Int)<(n:Int):=by omega
     clear h0 hd hdl hc hcl hp15 hkw;go_wp2_with fail;refine Qad (Two 13 1000 fun a _ wx=>bif a then NW w w1 (toL f) n (k+1) wx else NW w w1 (toL f) n k wx) (by kernel_rfl) HN.out.drew ?_
     refine tA (i:=0) rfl rfl ?_;simp only [pu];refine tA (i:=1) rfl rfl ?_;simp only [pu];refine tA (i:=2) rfl rfl ?_;simp only [pu];refine Qaa (i:=3) (v:= .map (some w1.heap.size)) rfl (Qah (n:=12) rfl (fun f2 wx hT=> ?_)) ?_
     ·have c0:=HC.out _ hT;refine Qab (w:=wx) ?_ hT;go_simp;skip
     simp only [pu];refine tA (i:=4) rfl rfl ?_;simp only [pu];refine tL (i:=5) (v:= .int .u32 ((2^d:Nat):Int)) rfl rfl (fun f1 f2 wx hT=> ?_) ?_
     ·go_simp;exact HS.out
     simp only [pu];refine tA (i:=6) rfl rfl ?_;simp only [pu];refine tA (i:=7) rfl rfl ?_;simp only [pu];refine tA (i:=8) rfl rfl ?_;simp only [pu];refine Qaa (i:=9) (v:= .int .i64 (c:Int)) rfl (Qah (n:=12) rfl (fun f2 wx hT=> ?_)) ?_
     ·have c1:=HQ.out _ hT;refine Qab (w:=wx) ?_ hT;go_simp;skip
     simp only [pu];refine tL (i:=10) (v:= .int .u32 (c:Int)) rfl rfl (fun f1 f2 wx hT=> ?_) ?_
     ·go_simp;exact HV.out
     simp only [pu];refine tL (i:=11) (v:= .int .u32 ((keyW (toL f) n k:Nat):Int)) rfl rfl (fun f1 f2 wx hT=> ?_) ?_
     ·go_simp;exact HO.out
     simp only [pu];refine tA (i:=12) rfl rfl ?_;simp only [pu];refine Qaa (i:=13) (v:=undef) rfl (Qa5 (by decide) rfl (fun f2 wx hT=> ?_)) ?_
     ·obtain⟨w5,hrun,h5⟩:=HPUT.out _ hT;go_simp;exact⟨rfl,h5⟩
     simp only [Act.put];refine Qag (by kernel_rfl) (fun wr2 hT=> ?_) _
     have HK2:Hid (NW w w1 (toL f) n (k+1) wr2):=Qh hT;clear HN;go_wp2_with fail;go_roundw
     case rel=>exact⟨k+1,by omega,by go_num,HK2⟩
     case measure=>simp [intOf];omega
  ·obtain rfl:k=n:=by omega
   have CS:=S.out wr (h.below HN.out.b);have c0:wr.cell? ⟨w1.heap.size+1,0,none⟩=some (.map (some w1.heap.size)):=HN.out.c.cell 0;have hl:(Instr.lookup 234 (.map (some w1.heap.size)) (.int .u32 2) true).run Tryz.prog wr= .ok (.tuple #[.int .i64 (((gkW (toL f) k k 2).getD 0:Nat):Int),.bool (gkW (toL f) k k 2).isSome]) wr:=HN.out.m.look (x:=2) (by decide)
   have hlen:(Builtin.len_ #[234] 3 #[.map (some w1.heap.size)]).run Tryz.prog wr= .ok (.int .i64 ((nzW (toL f) k:Nat):Int)) wr:=HN.out.m.len _;have hsk:=Qs5 H15.out HK.out;have hnk:= @Q3q (toL f) k;have hE0:(kr (toL f) k=32768∨nzW (toL f) k=0∨(nzW (toL f) k=1∧(gkW (toL f) k k 2).isSome=true))→newE f k=0:=fun hh=>by
    unfold newE;rw [if_pos (Qg8 ⟨Qbr.2 HB.out,hn⟩ HK.out),if_pos];rcases hh with h1|h1|h1
    ·exact .inl h1
    ·exact .inr (.inl (hnk.1 h1))
    ·exact .inr (.inr (hsk.2 h1))
   have hE2:kr (toL f) k≠32768→nzW (toL f) k≠0→¬(nzW (toL f) k=1∧(gkW (toL f) k k 2).isSome=true)→newE f k=2:=fun h1 h2 h3=>by
    unfold newE;rw [if_pos (Qg8 ⟨Qbr.2 HB.out,hn⟩ HK.out),if_neg];rintro(h4|h4|h4)
    ·exact h1 h4
    ·exact h2 (hnk.2 h4)
    ·exact h3 (hsk.1 h4)
   generalize hb:(gkW (toL f) k k 2).isSome=b at*;generalize (gkW (toL f) k k 2).getD 0=gd at*;generalize hKr:kr (toL f) k=K at*;generalize hNz:nzW (toL f) k=Z at*;clear hsk hnk hb hKr hNz;have HE0:=Qh hE0;have HE2:=Qh hE2;clear hE0 hE2;by_cases h1:K=32768
   ·have HF:Hid (newE f k=0):=Qh (HE0.out (.inl h1));subst h1;go_wp2_with fail;refine CS.mono ?_;intro e w2 hw2;obtain⟨rfl,e2⟩:=hw2;obtain rfl:=e2.symm;go_wp2_with fail;go_ret2;exact⟨HN.out.b,.inl ⟨HF.out,w1,rfl,HN.out⟩⟩
   ·have hk1:¬(K:Int)=32768:=by omega
    have hkq:((K:Int)==32768)=false:=by simpa using hk1
    by_cases h2:Z=0
    ·have HF:Hid (newE f k=0):=Qh (HE0.out (.inr (.inl h2)));subst h2;go_wp2_with fail;refine CS.mono ?_;intro e w2 hw2;obtain⟨rfl,e2⟩:=hw2;obtain rfl:=e2.symm;go_wp2_with fail;go_ret2;exact⟨HN.out.b,.inl ⟨HF.out,w1,rfl,HN.out⟩⟩
    ·have hz0:¬(Z:Int)=0:=by omega
     have hzq:((Z:Int)==0)=false:=by simpa using hz0
     by_cases h3:Z=1
     ·subst h3;cases b with
      |true=>
       have HF:Hid (newE f k=0):=Qh (HE0.out (.inr (.inr ⟨rfl,rfl⟩)));go_wp2_with fail;refine CS.mono ?_;intro e w2 hw2;obtain⟨rfl,e2⟩:=hw2;obtain rfl:=e2.symm;go_wp2_with fail;go_ret2;exact⟨HN.out.b,.inl ⟨HF.out,w1,rfl,HN.out⟩⟩
      |false=>
       have HF:Hid (newE f k=2):=Qh (HE2.out h1 (by decide) (by simp))
       go_wp2_with fail;refine CS.mono ?_;intro e w2 hw2;obtain⟨rfl,e2⟩:=hw2;obtain rfl:=e2.symm;go_wp2_with fail;go_ret2;exact⟨HN.out.b,.inr ⟨HF.out,rfl⟩⟩
     ·have HF:Hid (newE f k=2):=Qh (HE2.out h1 h2 (fun hh=>h3 hh.1));have hz1:¬(Z:Int)=1:=by omega
      have hq1:((Z:Int)==1)=false:=by simpa using hz1
      go_wp2_with fail;refine CS.mono ?_;intro e w2 hw2;obtain⟨rfl,e2⟩:=hw2;obtain rfl:=e2.symm;go_wp2_with fail;go_ret2;exact⟨HN.out.b,.inr ⟨HF.out,rfl⟩⟩
theorem Q06 (p:Option Addr) (n cap:Nat) (f:Nat→Int) (w:World) (h:IS p n cap f w) (hn:n≤17592186044416) (he:Qba f n≠0):
  Calls Tryz.prog 151 #[.slice p n cap] w fun e w'=>e= .returned (.tuple #[.pointer none,.int .i64 (Qba f n:Int)])∧Below w.heap.size w w':=by
 have C:=Qlc p n cap f w h hn;have hei:¬(Qba f n:Int)=0:=by omega
 generalize Qfs f n=M at*;generalize Qba f n=E at*;clear he;go_enter Tryz.func151,Tryz.ntmps151;go_wp2_with fail;refine C.mono ?_;rintro e w1 ⟨p2,c2,rfl,_,b1⟩;go_wp2_with fail;go_ret2;exact⟨rfl,b1⟩
def Qa8 (v:Value) (f:Nat→Int) (n:Nat) (w:World):Prop:=
 n≤300∧okB f n=true∧kr (toL f) n≤32768∧∃w1:World,v= .pointer (some ⟨w1.heap.size+1,0,none⟩)∧MW w1.heap.size n (gkW (toL f) n n) (nzW (toL f) n) w∧Blk w (w1.heap.size+1) 236 #[.map (some w1.heap.size)]
theorem Qa8.below {v:Value} {f:Nat→Int} {n:Nat} {w w':World} (h:Qa8 v f n w) (hb:Below w.heap.size w w'):Qa8 v f n w':=by
 obtain⟨h1,h2,h3,w1,h4,h5,h6⟩:=h;exact⟨h1,h2,h3,w1,h4,h5.below hb,h6.below hb h6.lt⟩
theorem Qa8.some {v:Value} {f:Nat→Int} {n:Nat} {w:World} (h:Qa8 v f n w):∃a,v= .pointer (some a):=by
 obtain⟨_,_,_,w1,h4,_⟩:=h;exact⟨_,h4⟩
theorem Qfx (p:Option Addr) (n cap:Nat) (f:Nat→Int) (w:World) (h:IS p n cap f w) (hn:n≤17592186044416) (he:newE f n≠0):
  Calls Tryz.prog 151 #[.slice p n cap] w fun e w'=>e= .returned (.tuple #[.pointer none,.int .i64 (newE f n:Int)])∧Below w.heap.size w w':=by
 by_cases hc:Qba f n=0
 ·obtain⟨⟨h1,h2⟩,h3⟩:=Qby hc;refine(Qu6 p n cap f w h h2 h1 h3).mono fun e w' ⟨hb,hh⟩=> ?_;rcases hh with⟨h4,_⟩|⟨h4,h5⟩
  ·exact absurd h4 he
  ·rw [h4];exact⟨h5,hb⟩
 ·have e:newE f n=Qba f n:=if_neg hc;rw [e];exact Q06 p n cap f w h hn hc
theorem Qmm (p:Option Addr) (n cap:Nat) (f:Nat→Int) (w:World) (h:IS p n cap f w) (_:n≤17592186044416) (he:newE f n=0):
  Calls Tryz.prog 151 #[.slice p n cap] w fun e w'=>∃v,e= .returned (.tuple #[v,.int .i64 0])∧Qa8 v f n w'∧Below w.heap.size w w':=by
 have hc:Qba f n=0:=by
  unfold newE at he;by_cases h0:Qba f n=0
  ·exact h0
  ·rw [if_neg h0]at he;exact absurd he h0
 obtain⟨⟨h1,h2⟩,h3⟩:=Qby hc;refine(Qu6 p n cap f w h h2 h1 h3).mono fun e w' ⟨hb,hh⟩=> ?_;rcases hh with⟨_,w1,h4,h5⟩|⟨h4,_⟩
 ·exact⟨_,h4,⟨h2,h1,h3,w1,rfl,h5.m,h5.c⟩,hb⟩
 ·omega
theorem Qtm:∀x:Fin 256,bits .and .u8 (x.val:Int) 1=((x.val%2:Nat):Int):=by decide+kernel
theorem Qtq (x r:Nat) (h:x<256):bits .and .u8 ((x:Int) /2^r) 1=((x /2^r%2:Nat):Int):=by
 have e:(x:Int) /2^r=((x /2^r:Nat):Int):=by norm_cast
 have h2:x /2^r<256:=Nat.lt_of_le_of_lt (Nat.div_le_self _ _) h;rw [e];clear e;generalize x /2^r=y at h2⊢;exact Qtm ⟨y,h2⟩
theorem Q1a {m b:Nat} (hb:b<2):(2*m)|||b=2*m+b:=by
 have h:=Nat.two_pow_add_eq_or_of_lt (i:=1) (b:=b) (by omega) m
 rw [Nat.pow_one]at h;exact h.symm
theorem Qu7 (v:Value) (f:Nat→Int) (n:Nat) (s:ByteArray) (at_:Nat) (w:World) (h:Qa8 v f n w) (hs:s.size≤281474976710656) (ha:at_<9223372036854775808) (r:Nat×Nat×Nat) (hr:Qc0 (toL f) n (bitH s) (8*s.size) at_ 0 15=r):
  Calls Tryz.prog 152 #[v,.string s,.int .i64 (at_:Int)] w fun e w'=>e= .returned (.tuple #[.int .i64 (r.1:Int),.int .i64 (r.2.1:Int),.int .i64 (r.2.2:Int)])∧Below w.heap.size w w':=by
 obtain⟨hn,hok,hk,w1,rfl,hm,hc⟩:=h;obtain⟨l,hl⟩:∃l,l=toL f:=⟨_,rfl⟩;rw [←hl]at hr hm hk;have HL:Hid (∀x:Nat,x<4294967296→(Instr.lookup 234 (.map (some w1.heap.size)) (.int .u32 (x:Int)) true).run Tryz.prog w= .ok (.tuple #[.int .i64 (((gkW l n n x).getD 0:Nat):Int),.bool (gkW l n n x).isSome]) w):=Qh fun x hx=>hm.look hx;have H15:Hid (∀j,j<n→l j≤15):=Qh fun j hj=>by have:=Qbr.1 hok j hj;rw [hl];unfold toL;omega
 have HK:=Qh hk;have HR:=Qh hr;have ha0:¬(at_:Int)<0:=by omega
 have c0:w.cell? ⟨w1.heap.size+1,0,none⟩=some (.map (some w1.heap.size)):=hc.cell 0;clear hm hk hr hok hl hc;go_enter Tryz.func152,Tryz.ntmps152;go_wp2_with fail;go_step3;go_wp2_with fail;go_step3;go_wp2_with fail;go_loopw [2,6,7,8,9] (fun p x y z c wr=>∃d:Nat,d≤14∧x= .int .i64 0∧y= .int .i64 0∧z= .int .i64 3∧p= .int .i64 ((at_+d:Nat):Int)∧at_+d<9223372036854775808∧c= .int .u32 ((2^d+rv (bitH s) at_ d:Nat):Int)∧Hid (Qc0 l n (bitH s) (8*s.size) at_ d (15-d)=r)∧w=wr) (fun _ _ _ _ c _=>65536-(intOf c).toNat)
 case atStart=>exact⟨0,by omega,rfl,rfl,rfl,rfl,by omega,rfl,HR,rfl⟩
 case round=>
  obtain⟨d,hd,rfl,rfl,rfl,rfl,hal,rfl,HV,rfl⟩:=hrel;have hrv:=Q1h (Qeq s) at_ d;have hp2:2^d≤2^14:=Nat.pow_le_pow_right (by decide) (by omega)
  obtain⟨q,hq15⟩:∃q,15-d=q+1:=⟨14-d,by omega⟩
  rw [hq15]at HV;obtain⟨P,hP⟩:∃P,P=at_+d:=⟨_,rfl⟩;obtain⟨Q,hQ⟩:∃Q,Q=P /8:=⟨_,rfl⟩;obtain⟨R,hR⟩:∃R,R=P%8:=⟨_,rfl⟩;have hz1:(P:Int).tdiv 8=(Q:Int):=by rw [Int.tdiv_eq_ediv_of_nonneg (by omega)];omega
  have hz2:(P:Int).tmod 8=(R:Int):=by rw [Int.tmod_eq_emod_of_nonneg (by omega)];omega
  have hz3:(P:Int) /8=(Q:Int):=by omega
  have hz4:(P:Int)%8=(R:Int):=by omega
  have hzw:IntKind.i64.wrap (Q:Int)=(Q:Int):=IntWalk.i64_in _ (by omega)
  by_cases hT:8*s.size≤P
  ·have HE:Hid (r=(0,0,3)):=Qh (by rw [←HV.out,Qhk _ _ _ _ _ _ _ (by omega)])
   have hq:¬(Q:Int)<(s.size:Int):=by omega
   rw [←hP]at hal⊢;clear HV hrv hp2 hq15 hP hQ hR hT HL c0;generalize 2^d+rv (bitH s) at_ d=C at*;go_wp2_with fail;go_ret3;rw [HE.out];exact⟨rfl,Below.refl _ _⟩
  ·obtain⟨K,hKd⟩:∃K,K=2^d+rv (bitH s) at_ d:=⟨_,rfl⟩;obtain⟨b,hb⟩:∃b,b=bitH s P:=⟨_,rfl⟩;have hb2:b<2:=by rw [hb];exact Qeq s P
   obtain⟨K2,hK2⟩:∃K2,K2=2*K+b:=⟨_,rfl⟩;have hK2r:K2=2^(d+1)+rv (bitH s) at_ (d+1):=by
    rw [hK2,hKd,hb,hP,Nat.pow_succ];show _=_+(2*rv (bitH s) at_ d+bitH s (at_+d));omega
   have hrv2:=Q1h (Qeq s) at_ (d+1);have hKl:K<32768:=by omega
   have hQs:Q<s.size:=by omega
   have hx:(s[Q]).toNat<256:=by rw [Qa2 s Q hQs];exact Qaz s Q
   have hbx:b=(s[Q]).toNat /2^R%2:=by rw [Qa2 s Q hQs,hb,hQ,hR];rfl
   have hmin:min R 64=R:=by omega
   have hbit:bits .and .u8 (((s[Q]).toNat:Int) /2^R) 1=(b:Int):=by rw [hbx];exact Qtq _ _ hx
   have hb32:(b:Int)%4294967296=(b:Int):=by omega
   obtain⟨M,hM⟩:∃M,M=2*K:=⟨_,rfl⟩;have hM1:(K:Int)*2%4294967296=(M:Int):=by omega
   have hor:bits .or .u32 (M:Int) (b:Int)=(K2:Int):=by rw [u32_or_nat _ _ (by omega) (by omega),hM,Q1a hb2,hK2]
   have hl:=HL.out K2 (by omega)
   have hqi:(Q:Int)<(s.size:Int):=by omega
   have hgf:gkW l n n K2=fnd l n (d+1) (rv (bitH s) at_ (d+1)) n:=by rw [hK2r];exact Qzu H15.out HK.out (by omega) hrv2
   rw [hgf]at hl;rw [←hP]at hal⊢;rw [←hKd];have HP:=Qh hP;have HK2:=Qh hK2r;have HQ15:=Qh hq15;have HKl:=Qh hKl;have HT:=Qh hT;have HK1:Hid (1≤K):=Qh (by have:0<2^d:=Nat.pow_pos (by decide);omega)
   have HKM:Hid (K2=2*K+b):=Qh hK2;have hP2:P<2251799813685248:=by omega
   have hPw:IntKind.i64.wrap ((P:Int)+1)=((P+1:Nat):Int):=by rw [IntWalk.i64_in _ (by omega)];omega
   cases hf:fnd l n (d+1) (rv (bitH s) at_ (d+1)) n with
   |some k=>
    have HE:Hid (r=(k,P+1,0)):=Qh (by rw [←HV.out,Qfa (by omega) hf,hP])
    rw [hf]at hl;have hg1:(some k).isSome=true:=rfl;have hg2:(some k).getD 0=k:=rfl;rw [hg1,hg2]at hl;clear HV hrv hp2 hQ hR hx hbx hb hM hrv2 hP hKd hK2 hK2r hgf hf hq15 hT hd hKl hg1 hg2;go_wp2_with fail;rw [Exit.noGoto_ret];go_ret3;rw [HE.out];exact⟨rfl,Below.refl _ _⟩
   |none=>
    rw [hf]at hl;have hg1:(none:Option Nat).isSome=false:=rfl;have hg2:(none:Option Nat).getD 0=0:=rfl;rw [hg1,hg2]at hl;have HN:Hid (Qc0 l n (bitH s) (8*s.size) at_ (d+1) q=r):=Qh (by rw [←HV.out,Qhl (by omega) hf])
    by_cases hd14:d=14
    ·have HE:Hid (r=(0,0,2)):=Qh (by rw [←HN.out,show q=0 by omega];rfl)
     have hge:(K2:Int)≥32768:=by rw [hK2r,hd14];omega
     clear HV HN hrv hp2 hQ hR hx hbx hb hM hrv2 hP hKd hK2 hK2r hgf hf hq15 hT hd hKl hg1 hg2 hd14;go_wp2_with fail;rw [Exit.noGoto_ret];go_ret3;rw [HE.out];exact⟨rfl,Below.refl _ _⟩
    ·have hge:¬(K2:Int)≥32768:=by
      have:2^(d+1)≤2^14:=Nat.pow_le_pow_right (by decide) (by omega)
      omega
     have HD:Hid (d+1≤14):=Qh (by omega)
     clear HV hrv hp2 hQ hR hx hbx hb hM hrv2 hP hKd hK2 hK2r hgf hf hq15 hT hd hKl hg1 hg2 hd14;go_wp2_with fail;go_roundw
     case rel=>
      have e1:=HP.out;have e2:=HT.out;have e3:=HQ15.out;exact⟨d+1,HD.out,by trivial,by trivial,by trivial,by go_num,by omega,by rw [HK2.out],Qh (by rw [show 15-(d+1)=q by omega];exact HN.out),by trivial⟩
     case measure=>have e1:=HKM.out;have e2:=HKl.out;have e3:=HK1.out;simp [intOf];omega
def cmpI (x y:Int):Int:=if x<y then-1 else if x>y then 1 else 0
def cmpK (x y:Kd):Int:=if cmpI x.1 y.1≠0 then cmpI x.1 y.1 else cmpI x.2 y.2
def encK (x:Kd):List Value:=[.int .i64 (x.1:Int),.int .i64 (x.2:Int)]
theorem Qxi (x y:Kd):cmpK x y<0↔klt x y:=by
 unfold cmpK cmpI klt;by_cases h1:x.1<y.1
 ·have e:(x.1:Int)<(y.1:Int):=by omega
  simp only [if_pos e];omega
 ·have e:¬(x.1:Int)<(y.1:Int):=by omega
  by_cases h2:x.1>y.1
  ·have e2:(x.1:Int)>(y.1:Int):=by omega
   simp only [if_neg e,if_pos e2];omega
  ·have e2:¬(x.1:Int)>(y.1:Int):=by omega
   simp only [if_neg e,if_neg e2];split
   ·omega
   ·split
    ·omega
    ·split<;>omega
theorem Ql0 (x y:Kd):ltOf cmpK x y=decide (klt x y):=decide_eq_decide.2 (Qxi x y)
theorem Qjo (x y:Int) (w:World):
  Calls Tryz.prog 159 #[.int .i64 x,.int .i64 y] w fun e w'=>e= .returned (.int .i64 (cmpI x y))∧w'=w:=by
 unfold cmpI;by_cases h1:x<y
 ·rw [if_pos h1];go_enter Tryz.func159,Tryz.ntmps159;go_wp2;go_ret;exact⟨rfl,rfl⟩
 ·rw [if_neg h1];by_cases h2:x>y
  ·rw [if_pos h2];go_enter Tryz.func159,Tryz.ntmps159;go_wp2;go_ret;exact⟨rfl,rfl⟩
  ·rw [if_neg h2];go_enter Tryz.func159,Tryz.ntmps159;go_wp2;go_ret;exact⟨rfl,rfl⟩
theorem Q2v (x y:Int) (g:Nat) (w:World) (h0:w.cell? ⟨g,0,none⟩=some (.int .i64 x)) (h1:w.cell? ⟨g,1,none⟩=some (.int .i64 y)):
  Calls Tryz.prog 158 #[.slice (some ⟨g,0,none⟩) 2 2] w fun e w'=>e= .returned (.int .i64 (if x≠0 then x else y))∧w'=w:=by
 have HR:Hid ((x≠0→(if x≠0 then x else y)=x)∧(x=0→(if x≠0 then x else y)=y)):=Qh ⟨fun h=>if_pos h,fun h=>if_neg (by omega)⟩
 generalize (if x≠0 then x else y)=r at*;go_enter Tryz.func158,Tryz.ntmps158;go_wp2_with fail;go_loopw [5,8] (fun _ i wr=>∃k:Nat,k≤2∧i= .int .i64 (k:Int)∧(1≤k→x=0)∧(2≤k→y=0)∧w=wr) (fun _ i _=>2-(intOf i).toNat)
 case atStart=>exact⟨0,by omega,rfl,by omega,by omega,rfl⟩
 case round=>
  obtain⟨k,hk,rfl,hx,hy,rfl⟩:=hrel;rcases(show k=0∨k=1∨k=2 by omega)with rfl|rfl|rfl
  ·clear hx hy;by_cases hx:x=0
   ·subst hx;go_wp2_with fail;go_roundw
    case rel=>exact⟨1,by omega,by go_num,fun _=>by trivial,by omega,by trivial⟩
    case measure=>simp [intOf]
   ·have hq:(x !=0)=true:=by simpa using hx
    have e:=HR.out.1 hx;subst e;clear HR;go_wp2_with fail;go_ret;exact⟨rfl,rfl⟩
  ·obtain rfl:=hx (by omega)
   clear hx hy;have e:=HR.out.2 rfl;subst e;by_cases hy:r=0
   ·subst hy;go_wp2_with fail;go_roundw
    case rel=>exact⟨2,by omega,by go_num,fun _=>by trivial,fun _=>by trivial,by trivial⟩
    case measure=>simp [intOf]
   ·have hq:(r !=0)=true:=by simpa using hy
    clear HR;go_wp2_with fail;go_ret;exact⟨rfl,rfl⟩
  ·obtain rfl:=hx (by omega)
   obtain rfl:=hy (by omega)
   have e:=HR.out.2 rfl;subst e;clear HR hx hy;go_wp2_with fail;go_ret;exact⟨rfl,rfl⟩
theorem Qpc (x y:Kd) (W:World):
  Calls Tryz.prog 157 #[.agg #[.int .i64 (x.1:Int),.int .i64 (x.2:Int)],.agg #[.int .i64 (y.1:Int),.int .i64 (y.2:Int)]] W fun e w'=>e= .returned (.int .i64 (cmpK x y))∧∃q os',w'=Sort.grow (W.drewN q) os':=by
 go_enter Tryz.func157,Tryz.ntmps157
 go_wp2_with fail;obtain⟨W1,hW1⟩:∃W1,W1=(W.alloc (.cells #[.int .i64 (x.1:Int),.int .i64 (x.2:Int)] 208)).alloc (.cells #[.int .i64 (y.1:Int),.int .i64 (y.2:Int)] 208):=⟨_,rfl⟩;have bA:Blk W1.drew W.heap.size 208 #[.int .i64 (x.1:Int),.int .i64 (x.2:Int)]:=by rw [hW1];exact((Blk.new W _ _).alloc _).drew
 have bB:Blk W1.drew (W.heap.size+1) 208 #[.int .i64 (y.1:Int),.int .i64 (y.2:Int)]:=by rw [hW1];exact((Blk.new _ _ _).cast' ⟨by simp,rfl⟩).drew
 have HA0:Hid (W1.drew.cell? ⟨W.heap.size,0,none⟩=some (.int .i64 (x.1:Int))):=Qh (bA.cell 0);have HA1:Hid (W1.drew.cell? ⟨W.heap.size,1,none⟩=some (.int .i64 (x.2:Int))):=Qh (bA.cell 1);have HB0:Hid (W1.drew.cell? ⟨W.heap.size+1,0,none⟩=some (.int .i64 (y.1:Int))):=Qh (bB.cell 0);have HB1:Hid (W1.drew.cell? ⟨W.heap.size+1,1,none⟩=some (.int .i64 (y.2:Int))):=Qh (bB.cell 1);have bC:Blk (W1.drew.alloc (.cells #[.int .i64 (cmpI x.1 y.1),.int .i64 (cmpI x.2 y.2)] 3)) W1.heap.size 3 #[.int .i64 (cmpI x.1 y.1),.int .i64 (cmpI x.2 y.2)]:=Blk.new W1.drew _ _;have HC0:Hid ((W1.drew.alloc (.cells #[.int .i64 (cmpI x.1 y.1),.int .i64 (cmpI x.2 y.2)] 3)).cell? ⟨W1.heap.size,0,none⟩=some (.int .i64 (cmpI x.1 y.1))):=Qh (bC.cell 0);have HC1:Hid ((W1.drew.alloc (.cells #[.int .i64 (cmpI x.1 y.1),.int .i64 (cmpI x.2 y.2)] 3)).cell? ⟨W1.heap.size,1,none⟩=some (.int .i64 (cmpI x.2 y.2))):=Qh (bC.cell 1);have HG:Hid (∃q os',W1.drew.alloc (.cells #[.int .i64 (cmpI x.1 y.1),.int .i64 (cmpI x.2 y.2)] 3)=Sort.grow (W.drewN q) os'):=Qh (by
  refine⟨1,#[.cells #[.int .i64 (x.1:Int),.int .i64 (x.2:Int)] 208,.cells #[.int .i64 (y.1:Int),.int .i64 (y.2:Int)] 208,.cells #[.int .i64 (cmpI x.1 y.1),.int .i64 (cmpI x.2 y.2)] 3],?_⟩;rw [hW1,Sort.alloc_eq_grow,Sort.alloc_eq_grow,Sort.alloc_eq_grow,Sort.drew_grow,Sort.drew_grow,Sort.grow_grow,Sort.grow_grow];rfl)
 rw [←hW1];clear hW1 bA bB bC;refine Qad (Two 10 11 fun a _ wx=>bif a then wx=W1.drew.alloc (.cells #[.int .i64 (cmpI x.1 y.1),.int .i64 (cmpI x.2 y.2)] 3)else wx=W1.drew) (by kernel_rfl) rfl ?_
 refine tA (i:=0) rfl rfl ?_;simp only [pu];refine Qaa (i:=1) (v:= .int .i64 (x.1:Int)) rfl (Qah (n:=12) rfl (fun f2 wx hT=> ?_)) ?_
 ·have hT:wx=_:=hT;subst hT;have c0:=HA0.out;refine Qab (w:=W1.drew) ?_ rfl;go_simp
 simp only [pu];refine tA (i:=2) rfl rfl ?_;simp only [pu];refine Qaa (i:=3) (v:= .int .i64 (y.1:Int)) rfl (Qah (n:=12) rfl (fun f2 wx hT=> ?_)) ?_
 ·have hT:wx=_:=hT;subst hT;have c0:=HB0.out;refine Qab (w:=W1.drew) ?_ rfl;go_simp
 simp only [pu];refine Qaa (i:=4) (v:= .int .i64 (cmpI x.1 y.1)) rfl (Qah (n:=12) rfl (fun f2 wx hT=> ?_)) ?_
 ·have hT:wx=_:=hT;subst hT;exact Qao ((Qjo (x.1:Int) (y.1:Int) _).mono fun _ _ ⟨he,hb⟩=>⟨he,hb⟩) (by go_simp)
 simp only [pu];refine tA (i:=5) rfl rfl ?_;simp only [pu];refine Qaa (i:=6) (v:= .int .i64 (x.2:Int)) rfl (Qah (n:=12) rfl (fun f2 wx hT=> ?_)) ?_
 ·have hT:wx=_:=hT;subst hT;have c0:=HA1.out;refine Qab (w:=W1.drew) ?_ rfl;go_simp
 simp only [pu];refine tA (i:=7) rfl rfl ?_;simp only [pu];refine Qaa (i:=8) (v:= .int .i64 (y.2:Int)) rfl (Qah (n:=12) rfl (fun f2 wx hT=> ?_)) ?_
 ·have hT:wx=_:=hT;subst hT;have c0:=HB1.out;refine Qab (w:=W1.drew) ?_ rfl;go_simp
 simp only [pu];refine Qaa (i:=9) (v:= .int .i64 (cmpI x.2 y.2)) rfl (Qah (n:=12) rfl (fun f2 wx hT=> ?_)) ?_
 ·have hT:wx=_:=hT;subst hT;exact Qao ((Qjo (x.2:Int) (y.2:Int) _).mono fun _ _ ⟨he,hb⟩=>⟨he,hb⟩) (by go_simp)
 simp only [pu];refine Qaa (i:=10) (v:= .slice (some ⟨W1.heap.size,0,none⟩) 2 2) rfl (Qa5 (by decide) rfl (fun f2 wx hT=> ?_)) ?_
 ·have hT:wx=_:=hT;subst hT;refine Qab (w:=W1.drew.alloc (.cells #[.int .i64 (cmpI x.1 y.1),.int .i64 (cmpI x.2 y.2)] 3)) ?_ rfl;go_simp
 simp only [pu];refine Qaa (i:=11) (v:= .int .i64 (cmpK x y)) rfl (Qqo (by decide) rfl (by kernel_rfl) rfl (fun wx hT=> ?_)) ?_
 ·have hT:wx=_:=hT;subst hT;exact Qao ((Q2v (cmpI x.1 y.1) (cmpI x.2 y.2) W1.heap.size _ HC0.out HC1.out).mono fun _ _ ⟨he,hb⟩=>⟨he,hb⟩) (by go_simp)
 simp only [pu];refine tA (i:=12) rfl rfl ?_;simp only [pu];refine Qag (by kernel_rfl) (fun wr2 hT=> ?_) _
 have hT:wr2=_:=hT;subst hT;go_wp2_with fail;go_ret;exact⟨rfl,HG.out⟩
theorem Qnp (blk off size:Nat) (w:World):CmpLays Tryz.prog 157 #[] encK 2 cmpK blk off size w:=
 fun _ _ _ _ x y=>Qpc x y _
theorem Qxj:Sort.SWO (ltOf cmpK) where
 irrefl x:=by rw [Ql0,decide_eq_false (Qh9 x)]
 trans x y z h1 h2:=by
  rw [Ql0,decide_eq_true_eq]at*;exact Qhf h1 h2
 ntrans x y z h1 h2:=by
  rw [Ql0,decide_eq_false_iff_not]at*;unfold klt at*;omega
def Qdj (l:List Kd):List Value:=l.flatMap encK
theorem Qez (l:List Kd):(Qdj l).length=l.length*2:=by
 induction l with
 |nil=>rfl
 |cons x l ih=>show(_++Qdj l).length=_;rw [List.length_append,ih];simp [encK];omega
theorem Qk8 (l m:List Kd):Qdj (l++m)=Qdj l++Qdj m:=by simp [Qdj]
theorem Qjm (x:Kd) (l:List Kd):Qdj (x::l)= .int .i64 (x.1:Int):: .int .i64 (x.2:Int)::Qdj l:=rfl
structure QN (B:Nat) (l:List Kd) (ao:Option Addr) (cap:Nat) (w:World):Prop where
 le:l.length≤cap
 mx:cap≤9223372036854775807
 nil_:ao=none→cap=0
 at_:0<cap→∃g off,ao=some ⟨g,off,none⟩∧B≤g∧g<w.heap.size∧(∀j,j<cap*2→(w.cell? ⟨g,off+j,none⟩).isSome=true∧w.frozen? ⟨g,off+j,none⟩=false)∧∀j u,(Qdj l)[j]? =some u→w.cell? ⟨g,off+j,none⟩=some u
def noB (ao:Option Addr) (cap g:Nat):Prop:=0<cap→∀a,ao=some a→a.block≠g
theorem QN.none_ (B:Nat) (w:World):QN B [] none 0 w:=⟨Ql,by omega,fun _=>rfl,fun h=>by omega⟩
theorem QN.keep {B:Nat} {l:List Kd} {ao:Option Addr} {cap:Nat} {w w':World} (h:QN B l ao cap w) (hz:w.heap.size≤w'.heap.size) (hk:∀a,0<cap→ao=some a→a.block<w.heap.size→w'.heap[a.block]? =w.heap[a.block]?):QN B l ao cap w':=
 ⟨h.le,h.mx,h.nil_,fun h0=>by
  obtain⟨g,off,h1,h2,h3,h4,h5⟩:=h.at_ h0;have hb:=hk _ h0 h1 h3;refine⟨g,off,h1,h2,Nat.lt_of_lt_of_le h3 hz,fun j hj=> ?_,fun j u hu=> ?_⟩
  ·rw [World.cell?_of_block (a:=⟨g,off+j,none⟩) hb,World.frozen?_of_block (a:=⟨g,off+j,none⟩) hb];exact h4 j hj
  ·rw [World.cell?_of_block (a:=⟨g,off+j,none⟩) hb];exact h5 j u hu⟩
theorem QN.below {B:Nat} {l:List Kd} {ao:Option Addr} {cap:Nat} {w w':World} (h:QN B l ao cap w) (hb:Below w.heap.size w w'):QN B l ao cap w':=
 h.keep hb.size fun a _ _ hl=>hb.block a.block hl
theorem QN.grown {B:Nat} {l:List Kd} {ao:Option Addr} {cap:Nat} {w w':World} {g:Nat} (h:QN B l ao cap w) (hg:w.grownBy w' (some g)) (hn:noB ao cap g):QN B l ao cap w':=
 h.keep hg.size fun a h0 ha hl=>hg.block a.block hl fun e=>hn h0 a ha (Option.some.inj e)
theorem QN.mono {B B':Nat} {l:List Kd} {ao:Option Addr} {cap:Nat} {w:World} (h:QN B l ao cap w) (hb:B'≤B):QN B' l ao cap w:=
 ⟨h.le,h.mx,h.nil_,fun h0=>by
  obtain⟨g,off,h1,h2,h3⟩:=h.at_ h0;exact⟨g,off,h1,Nat.le_trans hb h2,h3⟩⟩
theorem QN.head {B:Nat} {x:Kd} {l:List Kd} {ao:Option Addr} {cap:Nat} {w:World} (h:QN B (x::l) ao cap w):∃g off,ao=some ⟨g,off,none⟩∧w.cell? ⟨g,off,none⟩=some (.int .i64 (x.1:Int))∧w.cell? ⟨g,off+1,none⟩=some (.int .i64 (x.2:Int)):=by
 have:=h.le;obtain⟨g,off,h1,_,_,_,h5⟩:=h.at_ (by simp at this;omega)
 exact⟨g,off,h1,h5 0 _ rfl,h5 1 _ rfl⟩
def cutA (ao:Option Addr) (cap:Nat):Option Addr:=if cap=1 then ao else ao.map fun a=>a.add 2
theorem QN.tail {B:Nat} {x:Kd} {l:List Kd} {ao:Option Addr} {cap:Nat} {w:World} (h:QN B (x::l) ao cap w):QN B l (cutA ao cap) (cap-1) w:=by
 have hle:=h.le;have hmx:=h.mx;simp only [List.length_cons]at hle;obtain⟨g,off,h1,h2,h3,h4,h5⟩:=h.at_ (by omega)
 refine⟨by omega,by omega,fun e=> ?_,fun h0=>⟨g,off+2,?_,h2,h3,fun j hj=> ?_,fun j u hu=> ?_⟩⟩
 ·unfold cutA at e;split at e
  ·omega
  ·rw [h1]at e;cases e
 ·unfold cutA;rw [if_neg (by omega),h1]
  show some (Addr.add _ 2)=_
  rw [Qay]
 ·rw [Nat.add_assoc];exact h4 (2+j) (by omega)
 ·rw [Nat.add_assoc];refine h5 (2+j) u ?_;rw [Qjm,Nat.add_comm 2 j];exact hu
theorem noB.cut {ao:Option Addr} {cap g:Nat} (h:noB ao cap g):noB (cutA ao cap) (cap-1) g:=fun h0 a ha=>by
 unfold cutA at ha;rw [if_neg (by omega)]at ha
 cases ao with
 |none=>cases ha
 |some b=>
  have e:b.add 2=a:=Option.some.inj ha;rw [←e];have:(b.add 2).block=b.block:=by unfold Addr.add;split<;>rfl
  rw [this];exact h (by omega) b rfl
theorem Qsw:(Tryz.prog.info? 208).map (fun i=>(i.zero,i.size,i.bytes))=some (some (.agg #[.int .i64 0,.int .i64 0]),2,16):=by kernel_rfl
theorem Qrx {B:Nat} {l:List Kd} {ao:Option Addr} {cap:Nat} {w:World} (h:QN B l ao cap w) (hB:B≤w.heap.size) (hn:l.length≤100000) (ty:TypeId) (x:Kd) (ad:Addr) (c:Nat) (hc:∀j u,(encK x)[j]? =some u→w.cell? (ad.add j)=some u):
  ∃ao' cap' w',(Builtin.append_ #[203,203] ty #[.slice ao l.length cap,.slice (some ad) 1 c]).run Tryz.prog w= .ok (.slice ao' (l.length+1) cap') w'∧QN B (l++[x]) ao' cap' w'∧
   ((∃g off,ao=some ⟨g,off,none⟩∧0<cap∧ao'=ao∧cap'=cap∧w.grownBy w' (some g))∨(w.grownBy w' none∧∃g off,ao'=some ⟨g,off,none⟩∧w.heap.size≤g)):=by
 obtain⟨i0,hi,hz0,hz1,hz2⟩:=info_parts Qsw;have hle:=h.le;have hmx:=h.mx;have h1c:∀u∈encK x,u.oneCell'=true:=fun u hu=>by
  simp only [encK,List.mem_cons,List.not_mem_nil,or_false]at hu;rcases hu with rfl|rfl<;>rfl
 have ex1:Qdj [x]=encK x:=by simp [Qdj]
 have hnew:∀j u,(Qdj (l++[x]))[j]? =some u→(j<l.length*2∧(Qdj l)[j]? =some u)∨(l.length*2≤j∧(encK x)[j-l.length*2]? =some u):=fun j u hu=>by
  rw [Qk8,ex1]at hu;rcases Nat.lt_or_ge j (l.length*2)with hj|hj
  ·rw [List.getElem?_append_left (by rw [Qez];exact hj)]at hu;exact .inl ⟨hj,hu⟩
  ·rw [List.getElem?_append_right (by rw [Qez];exact hj),Qez]at hu;exact .inr ⟨hj,hu⟩
 have grow:∀v' w',(Builtin.append_ #[203,203] ty #[.slice ao l.length cap,.slice (some ad) 1 c]).run Tryz.prog w= .ok v' w'→w'.ownsRow w.heap.size 208 2 v' (l.length+1) (Qdj l++encK x)→w.grownBy w' none→
   ∃ao' cap' w',(Builtin.append_ #[203,203] ty #[.slice ao l.length cap,.slice (some ad) 1 c]).run Tryz.prog w= .ok (.slice ao' (l.length+1) cap') w'∧QN B (l++[x]) ao' cap' w'∧
   ((∃g off,ao=some ⟨g,off,none⟩∧0<cap∧ao'=ao∧cap'=cap∧w.grownBy w' (some g))∨(w.grownBy w' none∧∃g off,ao'=some ⟨g,off,none⟩∧w.heap.size≤g)):=fun v' w' hr ho hg=>by
  rcases ho.2 with⟨_,h0⟩|⟨g,cap',cur,hv,hb,hblk,hlc,hcm,hsz,htk⟩
  ·omega
  ·subst hv;have hgl:g<w'.heap.size:=by
    rcases Nat.lt_or_ge g w'.heap.size with h2|h2
    ·exact h2
    ·rw [Array.getElem?_eq_none h2]at hblk;cases hblk
   have hcell:∀j,w'.cell? ⟨g,0+j,none⟩=cur[j]? :=fun j=>by rw [Nat.zero_add];exact cell_of_row w' g j cur _ (0,0) hblk
   refine⟨_,cap',w',hr,⟨by simpa using hlc,by unfold maxLen at hcm;omega,(fun e=>by cases e),fun _=>⟨g,0,rfl,Nat.le_trans hB hb,hgl,fun j hj=>⟨?_,?_⟩,fun j u hu=> ?_⟩⟩,.inr ⟨hg,g,0,rfl,hb⟩⟩
   ·rw [hcell,Array.getElem?_eq_getElem (by omega)];rfl
   ·exact frozen_of_row w' g (0+j) cur _ hblk
   ·rw [hcell];have h3:(cur.toList.take ((l.length+1)*2))[j]? =some u:=by rw [htk,←ex1,←Qk8];exact hu
    have h4:=(List.getElem?_eq_some_iff.1 h3).1;rw [List.length_take]at h4;rw [List.getElem?_take,if_pos (by omega)]at h3
    simpa using h3
 rcases Nat.lt_or_ge l.length cap with hroom|hfull
 ·obtain⟨g,off,rfl,hBg,hgl,hsp,hcl⟩:=h.at_ (by omega)
  have hrun:=run_append_room_cells (P:=Tryz.prog) w 203 ty 208 i0 Tryz.underlying203 hi g off l.length cap ad 1 c (encK x) (by rw [hz1];rfl) hc h1c (by omega)
   (fun j hj=>by
    have hj2:j<2:=hj;rw [hz1,Nat.add_assoc];exact(hsp (l.length*2+j) (by omega)).1)
   (fun j hj=>by
    have hj2:j<2:=hj;rw [hz1,Nat.add_assoc];exact(hsp (l.length*2+j) (by omega)).2)
  rw [hz1]at hrun;refine⟨_,_,_,hrun,⟨by simp;omega,hmx,(fun e=>by cases e),fun _=>⟨g,off,rfl,hBg,?_,fun j hj=>⟨?_,?_⟩,fun j u hu=> ?_⟩⟩,.inl ⟨g,off,rfl,by omega,rfl,rfl,?_⟩⟩
  ·simp [World.setCells,encK,World.setCell];exact hgl
  ·by_cases h3:j<l.length*2
   ·rw [World.cell?_setCells_out _ _ _ _ _ (fun _ _=> .inl (by show off+j<_;omega))];exact(hsp j hj).1
   ·by_cases h4:j<l.length*2+2
    ·have:=World.cell?_setCells_in g (encK x) (off+l.length*2) w (fun k hk=>by
      have hk2:k<2:=hk;rw [Nat.add_assoc];exact(hsp (l.length*2+k) (by omega)).1) (j-l.length*2) (by show _<2;omega)
     rw [show off+l.length*2+(j-l.length*2)=off+j by omega]at this
     rw [this];rfl
    ·rw [World.cell?_setCells_out _ _ _ _ _ (fun _ _=> .inr (by show _+2≤off+j;omega))];exact(hsp j hj).1
  ·rw [World.frozen?_setCells];exact(hsp j hj).2
  ·rcases hnew j u hu with⟨h3,h4⟩|⟨h3,h4⟩
   ·rw [World.cell?_setCells_out _ _ _ _ _ (fun _ _=> .inl (by show off+j<_;omega))];exact hcl j u h4
   ·have h5:=(List.getElem?_eq_some_iff.1 h4);obtain⟨h6,h7⟩:=h5;have:=World.cell?_setCells_in g (encK x) (off+l.length*2) w (fun k hk=>by
      have hk2:k<2:=hk;rw [Nat.add_assoc];exact(hsp (l.length*2+k) (by omega)).1) (j-l.length*2) h6
    rw [show off+l.length*2+(j-l.length*2)=off+j by omega,h7]at this
    exact this
  ·show w.grownBy ((w.setCell ⟨g,off+l.length*2,none⟩ _).setCell ⟨g,off+l.length*2+1,none⟩ _) (some g)
   refine⟨rfl,rfl,rfl,by simp [World.setCell],fun k hk hne=> ?_⟩
   rw [Below.heap_setCell _ _ _ _ (fun e=>hne (congrArg some e)),Below.heap_setCell _ _ _ _ (fun e=>hne (congrArg some e))]
 ·have hcl:cap=l.length:=by omega
  rcases Nat.eq_zero_or_pos cap with h0|h0
  ·have hl0:l=[]:=List.eq_nil_of_length_eq_zero (by omega)
   cases ao with
   |none=>
    obtain⟨v',w',hrun,r1,r2,_⟩:=run_append_own (P:=Tryz.prog) w w.heap.size 203 ty 208 i0 (.agg #[.int .i64 0,.int .i64 0]) 2 16 Tryz.underlying203 hi hz0 hz1 hz2 rfl (by decide) (.slice none 0 0) 0 [] (World.ownsRow_nil w _ _ 2) ad 1 c (encK x) rfl hc h1c (by unfold maxLen;omega) (by omega) Ql
    subst hl0;obtain rfl:=h0;exact grow v' w' hrun r1 r2
   |some b=>
    subst hl0;obtain⟨v',w',hrun,r1,r2⟩:=run_append_arg_grows (P:=Tryz.prog) w 203 ty 208 i0 (.agg #[.int .i64 0,.int .i64 0]) 2 16 Tryz.underlying203 hi hz0 hz1 hz2 rfl (by decide) b 0 cap [] rfl (by intro _ _ hh;simp at hh) ad 1 c (encK x) rfl hc (by omega) (by unfold maxLen;omega) (by omega)
    exact grow v' w' hrun r1 r2
  ·obtain⟨g,off,rfl,hBg,hgl,hsp,hcl2⟩:=h.at_ h0;obtain⟨v',w',hrun,r1,r2⟩:=run_append_arg_grows (P:=Tryz.prog) w 203 ty 208 i0 (.agg #[.int .i64 0,.int .i64 0]) 2 16 Tryz.underlying203 hi hz0 hz1 hz2 rfl (by decide) ⟨g,off,none⟩ l.length cap (Qdj l) (Qez l) (fun j u hu=>by rw [Qay];exact hcl2 j u hu) ad 1 c (encK x) rfl hc (by omega) (by unfold maxLen;omega) (by omega)
   exact grow v' w' hrun r1 r2
end Go.Proofs.YtbmcjdoiohcaaaaGreat
