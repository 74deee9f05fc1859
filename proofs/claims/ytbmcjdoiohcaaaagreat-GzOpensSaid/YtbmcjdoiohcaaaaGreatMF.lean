/- MF -/
import Derived.Shelf.SlSortCmp.WholeK
import Derived.Test.YtbmcjdoiohcaaaaGreatME
import Derived.Deep.AppendLies
import Derived.Deep.LoopGhost
import Derived.OrdersIn
import Derived.TacticsInMore
import Derived.OwnWalkIn
import Derived.RegionIn
import Derived.LoopIn
import Derived.LoopNIn
import Derived.RangeFuncLeaves
import Derived.RangeFuncRecord
import Derived.RangeFuncOwn
import Derived.RangeFuncKeeps
set_option maxRecDepth 100000
set_option maxHeartbeats 8000000
namespace Go.Proofs.YtbmcjdoiohcaaaaGreat
open Go.Shelf Go.RowKit
def Qon:Go.Shelf.Ren:=⟨fun|6=>156|15=>166|14=>165|28=>176|29=>177|20=>168|21=>169|22=>170|23=>171|24=>172|25=>173|26=>174|27=>175|46=>178|47=>179|48=>180|49=>181|50=>182|57=>183|n=>n,fun|22=>203|24=>208|25=>230|3=>3|39=>34|0=>0|53=>35|55=>55|4=>4|46=>243|45=>242|50=>86|5=>5|9=>9|66=>250|70=>254|76=>256|77=>46|n=>n,fun|n=>n⟩
theorem Q22:Go.Proofs.SlLaysF0.n6 Tryz.prog Qon:={
 mixed:=by kernel_rfl
 f6:=⟨Tryz.f156.name,by decide,Tryz.func156.trans (congrArg some (by kernel_rfl))⟩
 f14:=⟨Tryz.f165.name,by decide,Tryz.func165.trans (congrArg some (by kernel_rfl))⟩
 f15:=Tryz.func166.trans (congrArg some (by kernel_rfl))
 f20:=⟨Tryz.f168.name,by decide,Tryz.func168.trans (congrArg some (by kernel_rfl))⟩
 f21:=⟨Tryz.f169.name,by decide,Tryz.func169.trans (congrArg some (by kernel_rfl))⟩
 f22:=⟨Tryz.f170.name,by decide,Tryz.func170.trans (congrArg some (by kernel_rfl))⟩
 f23:=⟨Tryz.f171.name,by decide,Tryz.func171.trans (congrArg some (by kernel_rfl))⟩
 f24:=⟨Tryz.f172.name,by decide,Tryz.func172.trans (congrArg some (by kernel_rfl))⟩
 f25:=⟨Tryz.f173.name,by decide,Tryz.func173.trans (congrArg some (by kernel_rfl))⟩
 f26:=⟨Tryz.f174.name,by decide,Tryz.func174.trans (congrArg some (by kernel_rfl))⟩
 f27:=⟨Tryz.f175.name,by decide,Tryz.func175.trans (congrArg some (by kernel_rfl))⟩
 f28:=Tryz.func176.trans (congrArg some (by kernel_rfl))
 f29:=Tryz.func177.trans (congrArg some (by kernel_rfl))
 f46:=⟨Tryz.f178.name,by decide,Tryz.func178.trans (congrArg some (by kernel_rfl))⟩
 f47:=Tryz.func179.trans (congrArg some (by kernel_rfl))
 f48:=Tryz.func180.trans (congrArg some (by kernel_rfl))
 f49:=⟨Tryz.f181.name,by decide,Tryz.func181.trans (congrArg some (by kernel_rfl))⟩
 f50:=⟨Tryz.f182.name,by decide,Tryz.func182.trans (congrArg some (by kernel_rfl))⟩
 f57:=⟨Tryz.f183.name,by decide,Tryz.func183.trans (congrArg some (by kernel_rfl))⟩
 t0:=Tryz.underlying0
 a0:=Tryz.isAgg0
 z0:=Tryz.sizeOf0
 v0:=Tryz.zeroValue0
 t3:=Tryz.underlying3
 a3:=Tryz.isAgg3
 z3:=Tryz.sizeOf3
 v3:=Tryz.zeroValue3
 t4:=Tryz.underlying4
 a4:=Tryz.isAgg4
 z4:=Tryz.sizeOf4
 v4:=Tryz.zeroValue4
 t5:=Tryz.underlying5
 a5:=Tryz.isAgg5
 z5:=Tryz.sizeOf5
 v5:=Tryz.zeroValue5
 t9:=Tryz.underlying9
 a9:=Tryz.isAgg9
 z9:=Tryz.sizeOf9
 v9:=Tryz.zeroValue9
 t22:=Tryz.underlying203
 a22:=Tryz.isAgg203
 z22:=Tryz.sizeOf203
 v22:=Tryz.zeroValue203
 t25:=Tryz.underlying230
 a25:=Tryz.isAgg230
 z25:=Tryz.sizeOf230
 v25:=Tryz.zeroValue230
 t39:=Tryz.underlying34
 a39:=Tryz.isAgg34
 z39:=Tryz.sizeOf34
 v39:=Tryz.zeroValue34
 t45:=Tryz.underlying242
 a45:=Tryz.isAgg242
 z45:=Tryz.sizeOf242
 v45:=Tryz.zeroValue242
 t46:=Tryz.underlying243
 a46:=Tryz.isAgg243
 z46:=Tryz.sizeOf243
 v46:=Tryz.zeroValue243
 t50:=Tryz.underlying86
 a50:=Tryz.isAgg86
 z50:=Tryz.sizeOf86
 v50:=Tryz.zeroValue86
 t53:=Tryz.underlying35
 a53:=Tryz.isAgg35
 z53:=Tryz.sizeOf35
 v53:=Tryz.zeroValue35
 t55:=Tryz.underlying55
 a55:=Tryz.isAgg55
 z55:=Tryz.sizeOf55
 v55:=Tryz.zeroValue55
 t66:=Tryz.underlying250
 a66:=Tryz.isAgg250
 z66:=Tryz.sizeOf250
 v66:=Tryz.zeroValue250
 t70:=Tryz.underlying254
 a70:=Tryz.isAgg254
 z70:=Tryz.sizeOf254
 v70:=Tryz.zeroValue254
 t76:=Tryz.underlying256
 a76:=Tryz.isAgg256
 z76:=Tryz.sizeOf256
 v76:=Tryz.zeroValue256
 t77:=Tryz.underlying46
 a77:=Tryz.isAgg46
 z77:=Tryz.sizeOf46
 v77:=Tryz.zeroValue46}
end Go.Proofs.YtbmcjdoiohcaaaaGreat
/- Nodes sorted; the developers' symbolsOf of chapter 9. -/
namespace Go.Proofs.YtbmcjdoiohcaaaaGreat
open Go.RowKit
theorem Qyh (w:World):Calls Tryz.prog 166 #[.int .u64 0] w fun e w'=>e= .returned (.int .i64 0)∧w'=w:=
 by
 have h:=Any.bits_Len (SlLaysF0.n15.bits (P:=Tryz.prog) (ρ:=Qon) {Q22 with}) 0 w (by decide) (by decide)
 exact h.mono fun _ _ h=>h
theorem Qpt (ao:Option Addr) (cap:Nat) (fv:Value) (w:World):
  Calls Tryz.prog 168 #[.slice ao 0 cap,.int .i64 0,.int .i64 0,fv] w fun e w'=>e= .returned (.tuple #[])∧w'=w:=by
 go_enter Tryz.func168,Tryz.ntmps168
 go_wp2_with fail;go_loopw [8] (fun i wr=>i= .int .i64 1∧w=wr) (fun _ _=>0)
 case atStart=>exact⟨rfl,rfl⟩
 case round=>
  obtain⟨rfl,rfl⟩:=hrel;go_wp2_with fail;go_end0;exact⟨rfl,rfl⟩
theorem Qys (ao:Option Addr) (cap:Nat) (fv:Value) (w:World):
  Calls Tryz.prog 165 #[.slice ao 0 cap,.int .i64 0,.int .i64 0,.int .i64 0,fv] w fun e w'=>e= .returned (.tuple #[])∧w'=w:=by
 go_enter Tryz.func165,Tryz.ntmps165
 go_wp2_with fail;go_loopw [1,2,3] (fun a b c wr=>a= .int .i64 0∧b= .int .i64 0∧c= .int .i64 0∧w=wr) (fun _ _ _ _=>0)
 case atStart=>exact⟨rfl,rfl,rfl,rfl⟩
 case round=>
  obtain⟨rfl,rfl,rfl,rfl⟩:=hrel;go_wp2_with fail;refine(Qpt ao cap fv w).mono ?_;rintro e w1 ⟨rfl,rfl⟩;go_wp2_with fail;exact bodyPost_ret (results_none rfl _ _ _) rfl ⟨rfl,rfl⟩
theorem Qwd (ao:Option Addr) (cap:Nat) (fv:Value) (w:World):
  Calls Tryz.prog 156 #[.slice ao 0 cap,fv] w fun e w'=>e= .returned (.tuple #[])∧w'=w:=by
 go_enter Tryz.func156,Tryz.ntmps156
 go_wp2_with fail;refine(Qyh w).mono ?_;rintro e w1 ⟨rfl,rfl⟩;go_wp2_with fail;refine(Qys ao cap fv w1).mono ?_;rintro e w2 ⟨rfl,rfl⟩;go_wp2_with fail;go_end0;exact⟨rfl,rfl⟩
theorem Qmf {w:World} {g o n:Nat} {os:Array Obj} (d:Array Kd):w.grownBy (sortWorldK encK 2 w g o n d os) (some g):=by
 refine⟨rfl,rfl,rfl,by simp [sortWorldK,Sort.grow,Sort.putRowK,Sort.putRow,Sort.mapBlock,Sort.ahead],fun k hk hne=> ?_⟩
 unfold sortWorldK;rw [Sort.heap_grow_old _ _ (by simpa [Sort.putRowK]using hk)]
 have:g≠k:=fun e=>hne (by rw [e])
 simp [Sort.putRowK,Sort.putRow,Sort.mapBlock,Sort.ahead,Array.getElem?_modify,this]
theorem Qrc (l:List Kd) (j:Nat) (hj:j<l.length*2):(Qdj l)[j]? =some ((Sort.flatK encK 2 l.toArray)[j]!):=by
 have h1:(Sort.flatK encK 2 l.toArray)[j]! =(encK l.toArray[j /2]!)[j%2]! :=Sort.get_flatK _ _ _ _ (by simpa using hj)
 rw [h1];clear h1
 induction l generalizing j with
 |nil=>simp at hj
 |cons x l ih=>
  rw [Qjm]
  match j,hj with
  |0,_=>rfl
  |1,_=>rfl
  |j+2,hj=>
   have h2:=ih j (by simp at hj;omega)
   have e1:(j+2) /2=j /2+1:=by omega
   have e2:(j+2)%2=j%2:=by omega
   rw [e1,e2];show(Qdj l)[j]? =_;rw [h2]
   congr 3
   simp
theorem Qs6 {B n:Nat} {l:List Kd} {ao:Option Addr} {cap:Nat} {w:World} (h:QN B l ao cap w) (hB:B≤w.heap.size) (hk:okK l n) (hn:l.length≤100000):
  Calls Tryz.prog 156 #[.slice ao l.length cap,.func (.func 157) #[] #[]] w fun e w'=>e= .returned (.tuple #[])∧∃S:List Kd,S.Perm l∧S.Pairwise klt∧QN B S ao cap w'∧Below B w w':=by
 rcases Nat.eq_zero_or_pos l.length with h0|h0
 ·have hl:l=[]:=List.eq_nil_of_length_eq_zero h0;rw [h0];refine(Qwd ao cap _ w).mono fun e w' ⟨h1,h2⟩=>⟨h1,l,List.Perm.refl _,?_,?_,?_⟩
  ·rw [hl];exact List.Pairwise.nil
  ·rw [h2];exact h
  ·rw [h2];exact Below.refl _ _
 ·have hle:=h.le;obtain⟨g,off,rfl,hBg,hgl,hsp,hcl⟩:=h.at_ (by omega)
  have hH:Sort.HoldsK encK 2 w g off l.toArray:=fun j hj=>by
   rw [Sort.size_flatK]at hj;have hj2:j<l.length*2:=by simpa using hj
   exact⟨hcl j _ (Qrc l j hj2),(hsp j (by omega)).2⟩
  have eg:∀args w,(callFunc 157 args).run Tryz.prog w= .ok (.enter 157 args) w:=enters_of Tryz.func157 (by kernel_rfl) rfl
  have hcon:=AnyQ.slices_SortFunc Q22 2 Tryz.isAgg208 Tryz.sizeOf208 encK (fun _=>rfl) (fun x v hv=>by simp [encK]at hv;rcases hv with rfl|rfl<;>rfl) cmpK Qxj 157 #[] g off cap l.toArray w eg (Qnp g off l.toArray.size w) hH hgl (by simp;omega)
  change Calls Tryz.prog 156 _ _ _ at hcon;rw [List.size_toArray]at hcon;refine hcon.mono fun e w' ⟨he,d',nd,os,hp,hs,hw⟩=>⟨he,d'.toList,?_⟩;obtain⟨p1,_,p3⟩:=hp;have hsz:d'.size=l.length:=by simpa using p1
  have hx:d'.extract 0 l.length=d':=by rw [←hsz];exact Array.extract_size
  have hx2:l.toArray.extract 0 l.length=l.toArray:=by rw [show l.length=l.toArray.size by simp];exact Array.extract_size
  rw [hx,hx2]at p3;have hperm:d'.toList.Perm l:=p3;have hlen:d'.toList.length=l.length:=hperm.length_eq;have hH':Sort.HoldsK encK 2 w' g off d':=by
   rw [hw];unfold sortWorldK;refine Sort.holdsK_grow _ _ _ _ _ _ _ (by simpa [Sort.putRowK,Sort.ahead]using hgl) ?_
   exact Sort.holdsK_putRowK _ _ _ _ _ l.toArray d' (Sort.holdsK_ahead _ _ _ _ _ _ _ hH) (by rw [hsz];simp)
  have hgr:w.grownBy w' (some g):=by rw [hw];exact Qmf d'
  refine⟨hperm,?_,⟨by rw [hlen];exact hle,h.mx,(fun e=>by cases e),fun h0=>⟨g,off,rfl,hBg,Nat.lt_of_lt_of_le hgl hgr.size,fun j hj=> ?_,fun j u hu=> ?_⟩⟩,?_⟩
  ·rw [List.pairwise_iff_getElem];intro i j hi hj hij;have h1:=hs i j (Nat.zero_le _) hij (by omega)
   have ei:d'[i]! =d'.toList[i]:=by rw [getElem!_pos d' i (by omega)];rfl
   have ej:d'[j]! =d'.toList[j]:=by rw [getElem!_pos d' j (by omega)];rfl
   rw [Ql0,decide_eq_false_iff_not,ei,ej]at h1;have hnd:=(Qbj hperm.symm hk).1;refine Qjw (fun e=> ?_) h1;rw [List.nodup_iff_pairwise_ne,List.pairwise_iff_getElem]at hnd;exact hnd i j (by simpa using hi) (by simpa using hj) hij (by simpa using e.symm)
  ·have hfr:w'.frozen? ⟨g,off+j,none⟩=w.frozen? ⟨g,off+j,none⟩:=by
    rw [hw];unfold sortWorldK;rw [Sort.frozen?_grow _ _ _ (by simpa [Sort.putRowK,Sort.ahead]using hgl)]
    exact Sort.frozen?_putRow _ _ _ _ _ _
   refine⟨?_,hfr.trans (hsp j hj).2⟩;by_cases hj2:j<l.length*2
   ·have:=hH' j (by rw [Sort.size_flatK,hsz];exact hj2)
    rw [this.1];rfl
   ·have:w'.cell? ⟨g,off+j,none⟩=w.cell? ⟨g,off+j,none⟩:=by
     rw [hw];unfold sortWorldK;rw [Sort.cell?_grow _ _ _ (by simpa [Sort.putRowK,Sort.ahead]using hgl)]
     exact Sort.cell?_putRow_other _ _ _ _ _ _ (.inr (.inr (by show off+(Sort.flatK encK 2 d').size≤off+j;rw [Sort.size_flatK,hsz];omega)))
    rw [this];exact(hsp j hj).1
  ·have hj2:j<l.length*2:=by
    have:=(List.getElem?_eq_some_iff.1 hu).1;rw [Qez,hlen]at this;exact this
   have h2:=Qrc d'.toList j (by rw [hlen];exact hj2)
   rw [h2]at hu;have h3:=hH' j (by rw [Sort.size_flatK,hsz];exact hj2)
   rw [h3.1];exact hu
  ·exact Qb.grown hgr hB (fun k e=>by cases e;exact hBg)
theorem Qqk {ops:Array Oper} {rest:List Oper} {o:Oper} {a:Act} {Q:Exit→Act→World→Prop} {B:Nat} {l:List Kd} {ao:Option Addr} {cap:Nat} {w:World} (hgd:o.guard=none) (s x:Operand)
  (ho:o.op= .call {callee:= .builtin .append,args:=#[s,x],argTypes:=#[203,203]}) (hs:a.eval s= .slice ao l.length cap) (h:QN B l ao cap w) (hB:B≤w.heap.size) (hn:l.length≤100000)
  (y:Kd) (ad:Addr) (c:Nat) (hx:a.eval x= .slice (some ad) 1 c) (hc:∀j u,(encK y)[j]? =some u→w.cell? (ad.add j)=some u)
  (k:∀ao' cap' w',QN B (l++[y]) ao' cap' w'→Below B w w'→wpList Tryz.prog ops Q rest (a.put o.dst (.slice ao' (l.length+1) cap')) w'):wpList Tryz.prog ops Q (o::rest) a w:=by
 refine wpList_plain hgd fun K hK=> ?_;obtain⟨ao',cap',w',hrun,hq,hg⟩:=Qrx h hB hn o.type y ad c hc;have hb:Below B w w':=by
  rcases hg with⟨g,off,h1,h2,_,_,h5⟩|⟨h1,_⟩
  ·obtain⟨g2,off2,h6,h7,_⟩:=h.at_ h2;rw [h1]at h6;cases h6;exact Qb.grown h5 hB (fun k e=>by cases e;exact h7)
  ·exact Qb.grown h1 hB (fun k e=>by cases e)
 unfold Oper.wp;simp [execOp,ho,resolve,invoke,builtin,hs,hx,hrun,Result.andThen];exact hK _ _ (k ao' cap' w' hq hb)
theorem Qhq (p:Option Addr) (n cap:Nat) (c:Nat→Nat) (w:World) (h:IS p n cap (fun i=>(c i:Int)) w) (hn:n≤300):
  Calls Tryz.prog 144 #[.slice p n cap] w fun e w'=>∃S ao cp,e= .returned (.slice ao (nds c n).length cp)∧S.Perm (nds c n)∧S.Pairwise klt∧QN w.heap.size S ao cp w'∧Below w.heap.size w w':=by
 go_enter Tryz.func144,Tryz.ntmps144
 go_wp2_with fail;go_loopw [3,4,5,8] (fun v _ _ i wr=>∃(k:Nat) (ao:Option Addr) (cp:Nat),k≤n∧i= .int .i64 (k:Int)∧v= .slice ao (nds c k).length cp∧QN w.heap.size (nds c k) ao cp wr∧Below w.heap.size w wr∧w.heap.size≤wr.heap.size) (fun _ _ _ i _=>n-(intOf i).toNat)
 case atStart=>exact⟨0,none,0,by omega,rfl,rfl,QN.none_ _ _,Below.refl _ _,Ql⟩
 case round=>
  obtain⟨k,ao,cp,hk,rfl,rfl,hq,hb,hz⟩:=hrel;by_cases hlt:k<n
  ·cases p with
   |none=>have:=(h.nil_ rfl).1;omega
   |some a=>
    have c0:=(h.below hb).cell a rfl k hlt;have hkn:nds c (k+1)=nds c k++if 0<c k then [(c k,k)]else []:=rfl;have hlen:=Qfw c k;by_cases h0:0<c k
    ·rw [if_pos h0]at hkn;have h0i:((c k:Nat):Int)>0:=by omega
     have HKN:=Qh hkn;obtain⟨x,hx⟩:∃x,x=c k:=⟨_,rfl⟩;rw [←hx]at c0 h0i;have HX:=Qh hx;generalize nds c k=L at*;clear hkn hx h0;have hq2:=hq.below ((Below.refl _ wr).alloc Ql (.cells #[.int .i64 (x:Int),.int .i64 (k:Int)] 208));have hbn:=Blk.new wr 208 #[.int .i64 (x:Int),.int .i64 (k:Int)];go_wp2_with (refine Qqk rfl (.tmp 15) (.tmp 19) rfl rfl hq2 (by simp;omega) (by omega) (x,k) ⟨wr.heap.size,0,none⟩ 1 rfl (fun j u hu=>by rw [Qay,Nat.zero_add,hbn.cell];simpa [encK]using hu) ?_;intro ao2 cp2 w2 hq3 hb3)
     have HB3:=Qh hb3;refine⟨⟨k+1,ao2,cp2,by omega,rfl,by rw [HKN.out,←HX.out,List.length_append];rfl,by rw [HKN.out,←HX.out];exact hq3,(hb.alloc hz _).trans hb3,Nat.le_trans (by simp;omega) hb3.size⟩,by simp only [intOf];omega⟩
    ·rw [if_neg h0,List.append_nil]at hkn;obtain⟨x,hx⟩:∃x,x=c k:=⟨_,rfl⟩;rw [←hx]at c0;obtain rfl:x=0:=by omega
     have HKN:=Qh hkn;generalize nds c k=L at*;clear hkn hx h0;go_wp2_with fail;go_roundw
     case rel=>exact⟨k+1,ao,cp,by omega,by go_num,by rw [HKN.out],by rw [HKN.out];exact hq,hb,hz⟩
     case measure=>simp [intOf];omega
  ·obtain rfl:k=n:=by omega
   have C:=Qh (Qs6 hq hz (Qhi c k) (Nat.le_trans (Qfw c k) (by omega)))
   go_wp2_with fail;refine C.out.mono ?_;rintro e w2 ⟨rfl,S,h1,h2,h3,h4⟩;go_wp2_with fail;go_ret;exact⟨S,ao,cp,rfl,h1,h2,h3,hb.trans (h4.mono Ql)⟩
theorem Qd1 (w:World):(zeroValue 208).run Tryz.prog w= .ok (.agg #[.int .i64 0,.int .i64 0]) w:=by kernel_rfl
theorem Qe0 {w w':World} {row:Option Nat} (h:w.grownBy w' row):w.grownBy w'.drew row:=⟨h.os,h.tape,h.output,h.size,h.block⟩
theorem Qa1 {w w':World} {row:Option Nat} (h:w.grownBy w' row) (a:Addr) (ha:w.heap.size≤a.block∨row=some a.block) (v:Value):w.grownBy (w'.setCell a v) row:=
 ⟨h.os,h.tape,h.output,Nat.le_trans h.size (by simp [World.setCell]),fun k hk hne=>(Below.heap_setCell w' a v k (fun e=>by
  rcases ha with h1|h1
  ·omega
  ·exact hne (by rw [h1,e]))).trans (h.block k hk hne)⟩
theorem Qb6 {w w':World} {row:Option Nat} (h:w.grownBy w' row) (o:Obj):w.grownBy (w'.alloc o) row:=
 ⟨h.os,h.tape,h.output,Nat.le_trans h.size (by simp),fun k hk hne=>(Below.heap_alloc w' o k (Nat.lt_of_lt_of_le hk h.size)).trans (h.block k hk hne)⟩
theorem Qdp:(Tryz.prog.info? 208).map (·.size)=some 2:=by kernel_rfl
theorem Q1s (q:Nat) (g off n c x y:Nat) (aj:Option Addr) (cj:Nat) (w:World) (hf:Blk w q 206 #[.slice (some ⟨g,off,none⟩) (n+1) c,.slice aj 0 cj]) (hn:n+1≤c)
  (h0:w.cell? ⟨g,off,none⟩=some (.int .i64 (x:Int))) (h1:w.cell? ⟨g,off+1,none⟩=some (.int .i64 (y:Int))):
  Calls Tryz.prog 160 #[.pointer (some ⟨q,0,none⟩)] w fun e w'=>e= .returned (.agg #[.int .i64 (x:Int),.int .i64 (y:Int)])∧Blk w' q 206 #[.slice (cutA (some ⟨g,off,none⟩) c) n (c-1),.slice aj 0 cj]∧w.grownBy w' (some q):=by
 have z0:=Qd1;have hq:=hf.lt;have hgl:∀a:Addr,∀v,w.cell? a=some v→a.block<w.heap.size:=fun a v h=>by
  rcases Nat.lt_or_ge a.block w.heap.size with h2|h2
  ·exact h2
  ·simp [World.cell?,Array.getElem?_eq_none h2]at h
 obtain⟨W,hW⟩:∃W,W=(w.alloc (.cells #[.int .i64 0,.int .i64 0] 208)).drew:=⟨_,rfl⟩;have bW:Below w.heap.size w W:=by rw [hW];exact((Below.refl _ w).alloc Ql _).drew
 have HFW:Hid (Blk W q 206 #[.slice (some ⟨g,off,none⟩) (n+1) c,.slice aj 0 cj]):=Qh (hf.below bW hq);have HRW:Hid (Blk W w.heap.size 208 #[.int .i64 0,.int .i64 0]):=Qh (by rw [hW];exact(Blk.new w _ _).drew)
 have HZW:Hid (W.heap.size=w.heap.size+1):=Qh (by rw [hW];simp [World.drew])
 have HGW:Hid (w.grownBy W (some q)):=Qh (by rw [hW];exact Qe0 (World.grownBy_alloc w _ _))
 have HF0:Hid (W.cell? ⟨q,0,none⟩=some (.slice (some ⟨g,off,none⟩) (n+1) c)):=Qh (HFW.out.cell 0);have HF1:Hid (W.cell? ⟨q,1,none⟩=some (.slice aj 0 cj)):=Qh (HFW.out.cell 1);have HS0:Hid (W.cell? ⟨g,off,none⟩=some (.int .i64 (x:Int))):=Qh ((bW.cell (p:=⟨g,off,none⟩) (hgl _ _ h0)).trans h0);have HS1:Hid (W.cell? ⟨g,off+1,none⟩=some (.int .i64 (y:Int))):=Qh ((bW.cell (p:=⟨g,off+1,none⟩) (hgl _ _ h1)).trans h1);have HHQ:Hid (q<w.heap.size∧g<w.heap.size):=Qh ⟨hq,hgl _ _ h0⟩;have HWE:=Qh hW;clear h0 h1 hgl hf bW hW;go_enter Tryz.func160,Tryz.ntmps160;go_wp2_with fail;refine Qad (Two 1000 1001 fun _ _ wx=>wx=W) (by kernel_rfl) HWE.out.symm ?_
 refine tW (i:=0) rfl rfl ?_;simp only [pu];refine tW (i:=1) rfl rfl ?_;simp only [pu];refine tW (i:=2) rfl rfl ?_;simp only [pu];refine Qaa (i:=3) (v:= .slice (some ⟨g,off,none⟩) (n+1) c) rfl (Qaf rfl (fun f1 f2 wx hT=> ?_)) ?_
 ·have hT:wx=W:=hT;rw [hT];have c0:=HF0.out;refine Qab (w:=W) ?_ rfl;go_simp
 simp only [pu];refine tW (i:=4) rfl rfl ?_;simp only [pu];refine tW (i:=5) rfl rfl ?_;simp only [pu];refine tW (i:=6) rfl rfl ?_;simp only [pu];refine tW (i:=7) rfl rfl ?_;simp only [pu];refine tW (i:=8) rfl rfl ?_;simp only [pu];refine tW (i:=9) rfl rfl ?_;simp only [pu];refine Qaa (i:=10) (v:= .slice aj 0 cj) rfl (Qaf rfl (fun f1 f2 wx hT=> ?_)) ?_
 ·have hT:wx=W:=hT;rw [hT];have c0:=HF1.out;refine Qab (w:=W) ?_ rfl;go_simp
 simp only [pu];refine tW (i:=11) rfl rfl ?_;simp only [pu];refine tW (i:=12) rfl rfl ?_;simp only [pu];refine tW (i:=13) rfl rfl ?_;simp only [pu];refine Qaa (i:=14) rfl (Qae rfl) ?_;simp only [pu];refine Qaa (i:=15) rfl (Qae rfl) ?_;simp only [pu];refine Qaa (i:=16) rfl (Qae rfl) ?_;simp only [pu];refine Qaa (i:=17) rfl (Qae rfl) ?_;simp only [pu];refine Qaa (i:=18) rfl (Qae rfl) ?_;simp only [pu];refine Qaa (i:=19) rfl (Qae rfl) ?_;simp only [pu];refine Qaa (i:=20) rfl (Qae rfl) ?_;simp only [pu];refine Qaa (i:=21) rfl (Qae rfl) ?_;simp only [pu];refine Qaa (i:=22) rfl (Qae rfl) ?_;simp only [pu];refine Qaa (i:=23) rfl (Qae rfl) ?_;simp only [pu];refine Qaa (i:=24) rfl (Qae rfl) ?_;simp only [pu];refine Qaa (i:=25) rfl (Qae rfl) ?_;simp only [pu];refine Qaa (i:=26) rfl (Qae rfl) ?_;simp only [pu];refine Qaa (i:=27) rfl (Qae rfl) ?_;simp only [pu];refine Qaa (i:=28) rfl (Qae rfl) ?_;simp only [pu];refine tW (i:=29) rfl rfl ?_;simp only [pu];refine tW (i:=30) rfl rfl ?_;simp only [pu];refine Qag (by kernel_rfl) (fun wr2 hT=> ?_) _
 obtain rfl:W=wr2:=Eq.symm hT;clear z0;have hqW:q<W.heap.size:=by rw [HZW.out];omega
 have hgW:g<W.heap.size:=by rw [HZW.out];have:=HHQ.out.2;omega
 have hwW:w.heap.size<W.heap.size:=by rw [HZW.out];omega
 have s0:=HS0.out;have s1:=HS1.out;have f0:=HF0.out;have f1:=HF1.out;have z0:=Qd1;have fq:=HFW.out.frozen 0;have r0:W.cell? ⟨w.heap.size,0,none⟩=some (.int .i64 0):=HRW.out.cell 0;have r1:W.cell? ⟨w.heap.size,1,none⟩=some (.int .i64 0):=HRW.out.cell 1;have fr0:=HRW.out.frozen 0;have fr1:=HRW.out.frozen 1;have hqw:q≠w.heap.size:=by omega
 by_cases hc1:c=1
 ·obtain rfl:n=0:=by omega
  subst hc1;go_wp2_with fail;have hres:=(((HRW.out.far (p:=⟨q,0,none⟩) hqw.symm (.slice (some ⟨g,off,none⟩) 0 0)).set_ 0 (.int .i64 (x:Int))).set_ 1 (.int .i64 (y:Int))).alloc (.cells #[.int .i64 (x:Int),.int .i64 (y:Int)] 208);have hblk:=(((HFW.out.set_ 0 (.slice (some ⟨g,off,none⟩) 0 0)).far (p:=⟨w.heap.size,0,none⟩) hqw (.int .i64 (x:Int))).far (p:=⟨w.heap.size,1,none⟩) hqw (.int .i64 (y:Int))).alloc (.cells #[.int .i64 (x:Int),.int .i64 (y:Int)] 208);have hgr:=Qb6 (Qa1 (Qa1 (Qa1 HGW.out ⟨q,0,none⟩ (.inr rfl) (.slice (some ⟨g,off,none⟩) 0 0)) ⟨w.heap.size,0,none⟩ (.inl Ql) (.int .i64 (x:Int))) ⟨w.heap.size,1,none⟩ (.inl Ql) (.int .i64 (y:Int))) (.cells #[.int .i64 (x:Int),.int .i64 (y:Int)] 208);exact bodyPost_ret (results_cell_row rfl _ _ w.heap.size 208 _ (0,0) _ rfl hres Tryz.underlying208 rfl Qdp) rfl ⟨rfl,hblk.cast_ (by rfl),hgr⟩
 ·have hcc:1<c:=by omega
  have ecut:cutA (some ⟨g,off,none⟩) c=some ⟨g,off+2,none⟩:=by
   unfold cutA;rw [if_neg hc1];show some (Addr.add _ 2)=_;rw [Qay]
  go_wp2_with fail;have hres:=(((HRW.out.far (p:=⟨q,0,none⟩) hqw.symm (.slice (some ⟨g,off+2,none⟩) n (c-1))).set_ 0 (.int .i64 (x:Int))).set_ 1 (.int .i64 (y:Int))).alloc (.cells #[.int .i64 (x:Int),.int .i64 (y:Int)] 208);have hblk:=(((HFW.out.set_ 0 (.slice (some ⟨g,off+2,none⟩) n (c-1))).far (p:=⟨w.heap.size,0,none⟩) hqw (.int .i64 (x:Int))).far (p:=⟨w.heap.size,1,none⟩) hqw (.int .i64 (y:Int))).alloc (.cells #[.int .i64 (x:Int),.int .i64 (y:Int)] 208);have hgr:=Qb6 (Qa1 (Qa1 (Qa1 HGW.out ⟨q,0,none⟩ (.inr rfl) (.slice (some ⟨g,off+2,none⟩) n (c-1))) ⟨w.heap.size,0,none⟩ (.inl Ql) (.int .i64 (x:Int))) ⟨w.heap.size,1,none⟩ (.inl Ql) (.int .i64 (y:Int))) (.cells #[.int .i64 (x:Int),.int .i64 (y:Int)] 208);exact bodyPost_ret (results_cell_row rfl _ _ w.heap.size 208 _ (0,0) _ rfl hres Tryz.underlying208 rfl Qdp) rfl ⟨rfl,hblk.cast_ (by rw [ecut];rfl),hgr⟩
theorem Q1r (q:Nat) (g off n c x y:Nat) (aj:Option Addr) (cj:Nat) (w:World) (hf:Blk w q 206 #[.slice aj 0 cj,.slice (some ⟨g,off,none⟩) (n+1) c]) (hn:n+1≤c)
  (h0:w.cell? ⟨g,off,none⟩=some (.int .i64 (x:Int))) (h1:w.cell? ⟨g,off+1,none⟩=some (.int .i64 (y:Int))):
  Calls Tryz.prog 160 #[.pointer (some ⟨q,0,none⟩)] w fun e w'=>e= .returned (.agg #[.int .i64 (x:Int),.int .i64 (y:Int)])∧Blk w' q 206 #[.slice aj 0 cj,.slice (cutA (some ⟨g,off,none⟩) c) n (c-1)]∧w.grownBy w' (some q):=by
 have z0:=Qd1;have hq:=hf.lt;have hgl:∀a:Addr,∀v,w.cell? a=some v→a.block<w.heap.size:=fun a v h=>by
  rcases Nat.lt_or_ge a.block w.heap.size with h2|h2
  ·exact h2
  ·simp [World.cell?,Array.getElem?_eq_none h2]at h
 obtain⟨W,hW⟩:∃W,W=(w.alloc (.cells #[.int .i64 0,.int .i64 0] 208)).drew:=⟨_,rfl⟩;have bW:Below w.heap.size w W:=by rw [hW];exact((Below.refl _ w).alloc Ql _).drew
 have HFW:Hid (Blk W q 206 #[.slice aj 0 cj,.slice (some ⟨g,off,none⟩) (n+1) c]):=Qh (hf.below bW hq);have HRW:Hid (Blk W w.heap.size 208 #[.int .i64 0,.int .i64 0]):=Qh (by rw [hW];exact(Blk.new w _ _).drew)
 have HZW:Hid (W.heap.size=w.heap.size+1):=Qh (by rw [hW];simp [World.drew])
 have HGW:Hid (w.grownBy W (some q)):=Qh (by rw [hW];exact Qe0 (World.grownBy_alloc w _ _))
 have HF0:Hid (W.cell? ⟨q,0,none⟩=some (.slice aj 0 cj)):=Qh (HFW.out.cell 0);have HF1:Hid (W.cell? ⟨q,1,none⟩=some (.slice (some ⟨g,off,none⟩) (n+1) c)):=Qh (HFW.out.cell 1);have HS0:Hid (W.cell? ⟨g,off,none⟩=some (.int .i64 (x:Int))):=Qh ((bW.cell (p:=⟨g,off,none⟩) (hgl _ _ h0)).trans h0);have HS1:Hid (W.cell? ⟨g,off+1,none⟩=some (.int .i64 (y:Int))):=Qh ((bW.cell (p:=⟨g,off+1,none⟩) (hgl _ _ h1)).trans h1);have HHQ:Hid (q<w.heap.size∧g<w.heap.size):=Qh ⟨hq,hgl _ _ h0⟩;have HWE:=Qh hW;clear h0 h1 hgl hf bW hW;go_enter Tryz.func160,Tryz.ntmps160;go_wp2_with fail;refine Qad (Two 1000 1001 fun _ _ wx=>wx=W) (by kernel_rfl) HWE.out.symm ?_
 refine tW (i:=0) rfl rfl ?_;simp only [pu];refine tW (i:=1) rfl rfl ?_;simp only [pu];refine tW (i:=2) rfl rfl ?_;simp only [pu];refine Qaa (i:=3) (v:= .slice aj 0 cj) rfl (Qaf rfl (fun f1 f2 wx hT=> ?_)) ?_
 ·have hT:wx=W:=hT;rw [hT];have c0:=HF0.out;refine Qab (w:=W) ?_ rfl;go_simp
 simp only [pu];refine tW (i:=4) rfl rfl ?_;simp only [pu];refine tW (i:=5) rfl rfl ?_;simp only [pu];refine tW (i:=6) rfl rfl ?_;simp only [pu];refine Qaa (i:=7) rfl (Qae rfl) ?_;simp only [pu];refine Qaa (i:=8) rfl (Qae rfl) ?_;simp only [pu];refine Qaa (i:=9) rfl (Qae rfl) ?_;simp only [pu];refine Qaa (i:=10) rfl (Qae rfl) ?_;simp only [pu];refine Qaa (i:=11) rfl (Qae rfl) ?_;simp only [pu];refine Qaa (i:=12) rfl (Qae rfl) ?_;simp only [pu];refine Qaa (i:=13) rfl (Qae rfl) ?_;simp only [pu];refine Qaa (i:=14) rfl (Qae rfl) ?_;simp only [pu];refine Qaa (i:=15) rfl (Qae rfl) ?_;simp only [pu];refine Qaa (i:=16) rfl (Qae rfl) ?_;simp only [pu];refine Qaa (i:=17) rfl (Qae rfl) ?_;simp only [pu];refine Qaa (i:=18) rfl (Qae rfl) ?_;simp only [pu];refine Qaa (i:=19) rfl (Qae rfl) ?_;simp only [pu];refine Qaa (i:=20) rfl (Qae rfl) ?_;simp only [pu];refine Qaa (i:=21) rfl (Qae rfl) ?_;simp only [pu];refine Qaa (i:=22) rfl (Qae rfl) ?_;simp only [pu];refine Qaa (i:=23) rfl (Qae rfl) ?_;simp only [pu];refine Qaa (i:=24) rfl (Qae rfl) ?_;simp only [pu];refine Qaa (i:=25) rfl (Qae rfl) ?_;simp only [pu];refine Qaa (i:=26) rfl (Qae rfl) ?_;simp only [pu];refine Qaa (i:=27) rfl (Qae rfl) ?_;simp only [pu];refine Qaa (i:=28) rfl (Qae rfl) ?_;simp only [pu];refine Qaa (i:=29) rfl (Qae rfl) ?_;simp only [pu];refine tW (i:=30) rfl rfl ?_;simp only [pu];refine Qag (by kernel_rfl) (fun wr2 hT=> ?_) _
 obtain rfl:W=wr2:=Eq.symm hT;clear z0;have hqW:q<W.heap.size:=by rw [HZW.out];omega
 have hgW:g<W.heap.size:=by rw [HZW.out];have:=HHQ.out.2;omega
 have hwW:w.heap.size<W.heap.size:=by rw [HZW.out];omega
 have s0:=HS0.out;have s1:=HS1.out;have f0:=HF0.out;have f1:=HF1.out;have z0:=Qd1;have fq:=HFW.out.frozen 1;have r0:W.cell? ⟨w.heap.size,0,none⟩=some (.int .i64 0):=HRW.out.cell 0;have r1:W.cell? ⟨w.heap.size,1,none⟩=some (.int .i64 0):=HRW.out.cell 1;have fr0:=HRW.out.frozen 0;have fr1:=HRW.out.frozen 1;have hqw:q≠w.heap.size:=by omega
 by_cases hc1:c=1
 ·obtain rfl:n=0:=by omega
  subst hc1;go_wp2_with fail;have hres:=(((HRW.out.far (p:=⟨q,1,none⟩) hqw.symm (.slice (some ⟨g,off,none⟩) 0 0)).set_ 0 (.int .i64 (x:Int))).set_ 1 (.int .i64 (y:Int))).alloc (.cells #[.int .i64 (x:Int),.int .i64 (y:Int)] 208);have hblk:=(((HFW.out.set_ 1 (.slice (some ⟨g,off,none⟩) 0 0)).far (p:=⟨w.heap.size,0,none⟩) hqw (.int .i64 (x:Int))).far (p:=⟨w.heap.size,1,none⟩) hqw (.int .i64 (y:Int))).alloc (.cells #[.int .i64 (x:Int),.int .i64 (y:Int)] 208);have hgr:=Qb6 (Qa1 (Qa1 (Qa1 HGW.out ⟨q,1,none⟩ (.inr rfl) (.slice (some ⟨g,off,none⟩) 0 0)) ⟨w.heap.size,0,none⟩ (.inl Ql) (.int .i64 (x:Int))) ⟨w.heap.size,1,none⟩ (.inl Ql) (.int .i64 (y:Int))) (.cells #[.int .i64 (x:Int),.int .i64 (y:Int)] 208);exact bodyPost_ret (results_cell_row rfl _ _ w.heap.size 208 _ (0,0) _ rfl hres Tryz.underlying208 rfl Qdp) rfl ⟨rfl,hblk.cast_ (by rfl),hgr⟩
 ·have hcc:1<c:=by omega
  have ecut:cutA (some ⟨g,off,none⟩) c=some ⟨g,off+2,none⟩:=by
   unfold cutA;rw [if_neg hc1];show some (Addr.add _ 2)=_;rw [Qay]
  go_wp2_with fail;have hres:=(((HRW.out.far (p:=⟨q,1,none⟩) hqw.symm (.slice (some ⟨g,off+2,none⟩) n (c-1))).set_ 0 (.int .i64 (x:Int))).set_ 1 (.int .i64 (y:Int))).alloc (.cells #[.int .i64 (x:Int),.int .i64 (y:Int)] 208);have hblk:=(((HFW.out.set_ 1 (.slice (some ⟨g,off+2,none⟩) n (c-1))).far (p:=⟨w.heap.size,0,none⟩) hqw (.int .i64 (x:Int))).far (p:=⟨w.heap.size,1,none⟩) hqw (.int .i64 (y:Int))).alloc (.cells #[.int .i64 (x:Int),.int .i64 (y:Int)] 208);have hgr:=Qb6 (Qa1 (Qa1 (Qa1 HGW.out ⟨q,1,none⟩ (.inr rfl) (.slice (some ⟨g,off+2,none⟩) n (c-1))) ⟨w.heap.size,0,none⟩ (.inl Ql) (.int .i64 (x:Int))) ⟨w.heap.size,1,none⟩ (.inl Ql) (.int .i64 (y:Int))) (.cells #[.int .i64 (x:Int),.int .i64 (y:Int)] 208);exact bodyPost_ret (results_cell_row rfl _ _ w.heap.size 208 _ (0,0) _ rfl hres Tryz.underlying208 rfl Qdp) rfl ⟨rfl,hblk.cast_ (by rw [ecut];rfl),hgr⟩
theorem Q24 (q:Nat) (g off n c x y:Nat) (g2 off2 n2 c2 z:Nat) (w:World) (hf:Blk w q 206 #[.slice (some ⟨g,off,none⟩) (n+1) c,.slice (some ⟨g2,off2,none⟩) (n2+1) c2]) (hn:n+1≤c)
  (h0:w.cell? ⟨g,off,none⟩=some (.int .i64 (x:Int))) (h1:w.cell? ⟨g,off+1,none⟩=some (.int .i64 (y:Int))) (h2:w.cell? ⟨g2,off2,none⟩=some (.int .i64 (z:Int))) (hlt:¬(z:Int)<(x:Int)):
  Calls Tryz.prog 160 #[.pointer (some ⟨q,0,none⟩)] w fun e w'=>e= .returned (.agg #[.int .i64 (x:Int),.int .i64 (y:Int)])∧Blk w' q 206 #[.slice (cutA (some ⟨g,off,none⟩) c) n (c-1),.slice (some ⟨g2,off2,none⟩) (n2+1) c2]∧w.grownBy w' (some q):=by
 have z0:=Qd1;have hq:=hf.lt;have hgl:∀a:Addr,∀v,w.cell? a=some v→a.block<w.heap.size:=fun a v h=>by
  rcases Nat.lt_or_ge a.block w.heap.size with h2|h2
  ·exact h2
  ·simp [World.cell?,Array.getElem?_eq_none h2]at h
 obtain⟨W,hW⟩:∃W,W=(w.alloc (.cells #[.int .i64 0,.int .i64 0] 208)).drew:=⟨_,rfl⟩;have bW:Below w.heap.size w W:=by rw [hW];exact((Below.refl _ w).alloc Ql _).drew
 have HFW:Hid (Blk W q 206 #[.slice (some ⟨g,off,none⟩) (n+1) c,.slice (some ⟨g2,off2,none⟩) (n2+1) c2]):=Qh (hf.below bW hq);have HRW:Hid (Blk W w.heap.size 208 #[.int .i64 0,.int .i64 0]):=Qh (by rw [hW];exact(Blk.new w _ _).drew)
 have HZW:Hid (W.heap.size=w.heap.size+1):=Qh (by rw [hW];simp [World.drew])
 have HGW:Hid (w.grownBy W (some q)):=Qh (by rw [hW];exact Qe0 (World.grownBy_alloc w _ _))
 have HF0:Hid (W.cell? ⟨q,0,none⟩=some (.slice (some ⟨g,off,none⟩) (n+1) c)):=Qh (HFW.out.cell 0);have HF1:Hid (W.cell? ⟨q,1,none⟩=some (.slice (some ⟨g2,off2,none⟩) (n2+1) c2)):=Qh (HFW.out.cell 1);have HS0:Hid (W.cell? ⟨g,off,none⟩=some (.int .i64 (x:Int))):=Qh ((bW.cell (p:=⟨g,off,none⟩) (hgl _ _ h0)).trans h0);have HS1:Hid (W.cell? ⟨g,off+1,none⟩=some (.int .i64 (y:Int))):=Qh ((bW.cell (p:=⟨g,off+1,none⟩) (hgl _ _ h1)).trans h1);have HJ0:Hid (W.cell? ⟨g2,off2,none⟩=some (.int .i64 (z:Int))):=Qh ((bW.cell (p:=⟨g2,off2,none⟩) (hgl _ _ h2)).trans h2);have HHQ:Hid (q<w.heap.size∧g<w.heap.size):=Qh ⟨hq,hgl _ _ h0⟩;have HWE:=Qh hW;clear h0 h1 hgl hf bW h2 hW;go_enter Tryz.func160,Tryz.ntmps160;go_wp2_with fail;refine Qad (Two 1000 1001 fun _ _ wx=>wx=W) (by kernel_rfl) HWE.out.symm ?_
 refine tW (i:=0) rfl rfl ?_;simp only [pu];refine tW (i:=1) rfl rfl ?_;simp only [pu];refine tW (i:=2) rfl rfl ?_;simp only [pu];refine Qaa (i:=3) (v:= .slice (some ⟨g,off,none⟩) (n+1) c) rfl (Qaf rfl (fun f1 f2 wx hT=> ?_)) ?_
 ·have hT:wx=W:=hT;rw [hT];have c0:=HF0.out;refine Qab (w:=W) ?_ rfl;go_simp
 simp only [pu];refine tW (i:=4) rfl rfl ?_;simp only [pu];refine tW (i:=5) rfl rfl ?_;simp only [pu];refine tW (i:=6) rfl rfl ?_;simp only [pu];refine tW (i:=7) rfl rfl ?_;simp only [pu];refine tW (i:=8) rfl rfl ?_;simp only [pu];refine tW (i:=9) rfl rfl ?_;simp only [pu];refine Qaa (i:=10) (v:= .slice (some ⟨g2,off2,none⟩) (n2+1) c2) rfl (Qaf rfl (fun f1 f2 wx hT=> ?_)) ?_
 ·have hT:wx=W:=hT;rw [hT];have c0:=HF1.out;refine Qab (w:=W) ?_ rfl;go_simp
 simp only [pu];refine tW (i:=11) rfl rfl ?_;simp only [pu];refine tW (i:=12) rfl rfl ?_;simp only [pu];refine tW (i:=13) rfl rfl ?_;simp only [pu];refine tW (i:=14) rfl rfl ?_;simp only [pu];refine tW (i:=15) rfl rfl ?_;simp only [pu];refine tW (i:=16) rfl rfl ?_;simp only [pu];refine Qaa (i:=17) (v:= .slice (some ⟨g2,off2,none⟩) (n2+1) c2) rfl (Qaf rfl (fun f1 f2 wx hT=> ?_)) ?_
 ·have hT:wx=W:=hT;rw [hT];have c0:=HF1.out;refine Qab (w:=W) ?_ rfl;go_simp
 simp only [pu];refine tW (i:=18) rfl rfl ?_;simp only [pu];refine tW (i:=19) rfl rfl ?_;simp only [pu];refine Qaa (i:=20) (v:= .int .i64 (z:Int)) rfl (Qaf rfl (fun f1 f2 wx hT=> ?_)) ?_
 ·have hT:wx=W:=hT;rw [hT];have c0:=HJ0.out;refine Qab (w:=W) ?_ rfl;go_simp
 simp only [pu];refine tW (i:=21) rfl rfl ?_;simp only [pu];refine tW (i:=22) rfl rfl ?_;simp only [pu];refine tW (i:=23) rfl rfl ?_;simp only [pu];refine Qaa (i:=24) (v:= .slice (some ⟨g,off,none⟩) (n+1) c) rfl (Qaf rfl (fun f1 f2 wx hT=> ?_)) ?_
 ·have hT:wx=W:=hT;rw [hT];have c0:=HF0.out;refine Qab (w:=W) ?_ rfl;go_simp
 simp only [pu];refine tW (i:=25) rfl rfl ?_;simp only [pu];refine tW (i:=26) rfl rfl ?_;simp only [pu];refine Qaa (i:=27) (v:= .int .i64 (x:Int)) rfl (Qaf rfl (fun f1 f2 wx hT=> ?_)) ?_
 ·have hT:wx=W:=hT;rw [hT];have c0:=HS0.out;refine Qab (w:=W) ?_ rfl;go_simp
 simp only [pu];refine Qaa (i:=28) (v:= .bool false) rfl (Qaf rfl (fun f1 f2 wx hT=> ?_)) ?_
 ·have hT:wx=W:=hT;rw [hT];refine Qab (w:=W) ?_ rfl;go_simp<;>omega
 simp only [pu];refine tW (i:=29) rfl rfl ?_;simp only [pu];refine tW (i:=30) rfl rfl ?_;simp only [pu];refine Qag (by kernel_rfl) (fun wr2 hT=> ?_) _
 obtain rfl:W=wr2:=Eq.symm hT;clear z0;have hqW:q<W.heap.size:=by rw [HZW.out];omega
 have hgW:g<W.heap.size:=by rw [HZW.out];have:=HHQ.out.2;omega
 have hwW:w.heap.size<W.heap.size:=by rw [HZW.out];omega
 have s0:=HS0.out;have s1:=HS1.out;have f0:=HF0.out;have f1:=HF1.out;have z0:=Qd1;have fq:=HFW.out.frozen 0;have r0:W.cell? ⟨w.heap.size,0,none⟩=some (.int .i64 0):=HRW.out.cell 0;have r1:W.cell? ⟨w.heap.size,1,none⟩=some (.int .i64 0):=HRW.out.cell 1;have fr0:=HRW.out.frozen 0;have fr1:=HRW.out.frozen 1;have hqw:q≠w.heap.size:=by omega
 by_cases hc1:c=1
 ·obtain rfl:n=0:=by omega
  subst hc1;go_wp2_with fail;have hres:=(((HRW.out.far (p:=⟨q,0,none⟩) hqw.symm (.slice (some ⟨g,off,none⟩) 0 0)).set_ 0 (.int .i64 (x:Int))).set_ 1 (.int .i64 (y:Int))).alloc (.cells #[.int .i64 (x:Int),.int .i64 (y:Int)] 208);have hblk:=(((HFW.out.set_ 0 (.slice (some ⟨g,off,none⟩) 0 0)).far (p:=⟨w.heap.size,0,none⟩) hqw (.int .i64 (x:Int))).far (p:=⟨w.heap.size,1,none⟩) hqw (.int .i64 (y:Int))).alloc (.cells #[.int .i64 (x:Int),.int .i64 (y:Int)] 208);have hgr:=Qb6 (Qa1 (Qa1 (Qa1 HGW.out ⟨q,0,none⟩ (.inr rfl) (.slice (some ⟨g,off,none⟩) 0 0)) ⟨w.heap.size,0,none⟩ (.inl Ql) (.int .i64 (x:Int))) ⟨w.heap.size,1,none⟩ (.inl Ql) (.int .i64 (y:Int))) (.cells #[.int .i64 (x:Int),.int .i64 (y:Int)] 208);exact bodyPost_ret (results_cell_row rfl _ _ w.heap.size 208 _ (0,0) _ rfl hres Tryz.underlying208 rfl Qdp) rfl ⟨rfl,hblk.cast_ (by rfl),hgr⟩
 ·have hcc:1<c:=by omega
  have ecut:cutA (some ⟨g,off,none⟩) c=some ⟨g,off+2,none⟩:=by
   unfold cutA;rw [if_neg hc1];show some (Addr.add _ 2)=_;rw [Qay]
  go_wp2_with fail;have hres:=(((HRW.out.far (p:=⟨q,0,none⟩) hqw.symm (.slice (some ⟨g,off+2,none⟩) n (c-1))).set_ 0 (.int .i64 (x:Int))).set_ 1 (.int .i64 (y:Int))).alloc (.cells #[.int .i64 (x:Int),.int .i64 (y:Int)] 208);have hblk:=(((HFW.out.set_ 0 (.slice (some ⟨g,off+2,none⟩) n (c-1))).far (p:=⟨w.heap.size,0,none⟩) hqw (.int .i64 (x:Int))).far (p:=⟨w.heap.size,1,none⟩) hqw (.int .i64 (y:Int))).alloc (.cells #[.int .i64 (x:Int),.int .i64 (y:Int)] 208);have hgr:=Qb6 (Qa1 (Qa1 (Qa1 HGW.out ⟨q,0,none⟩ (.inr rfl) (.slice (some ⟨g,off+2,none⟩) n (c-1))) ⟨w.heap.size,0,none⟩ (.inl Ql) (.int .i64 (x:Int))) ⟨w.heap.size,1,none⟩ (.inl Ql) (.int .i64 (y:Int))) (.cells #[.int .i64 (x:Int),.int .i64 (y:Int)] 208);exact bodyPost_ret (results_cell_row rfl _ _ w.heap.size 208 _ (0,0) _ rfl hres Tryz.underlying208 rfl Qdp) rfl ⟨rfl,hblk.cast_ (by rw [ecut];rfl),hgr⟩
theorem Q23 (q:Nat) (g off n c z y:Nat) (g2 off2 n2 c2 x:Nat) (w:World) (hf:Blk w q 206 #[.slice (some ⟨g2,off2,none⟩) (n2+1) c2,.slice (some ⟨g,off,none⟩) (n+1) c]) (hn:n+1≤c)
  (h0:w.cell? ⟨g,off,none⟩=some (.int .i64 (z:Int))) (h1:w.cell? ⟨g,off+1,none⟩=some (.int .i64 (y:Int))) (h2:w.cell? ⟨g2,off2,none⟩=some (.int .i64 (x:Int))) (hlt:(z:Int)<(x:Int)):
  Calls Tryz.prog 160 #[.pointer (some ⟨q,0,none⟩)] w fun e w'=>e= .returned (.agg #[.int .i64 (z:Int),.int .i64 (y:Int)])∧Blk w' q 206 #[.slice (some ⟨g2,off2,none⟩) (n2+1) c2,.slice (cutA (some ⟨g,off,none⟩) c) n (c-1)]∧w.grownBy w' (some q):=by
 have z0:=Qd1;have hq:=hf.lt;have hgl:∀a:Addr,∀v,w.cell? a=some v→a.block<w.heap.size:=fun a v h=>by
  rcases Nat.lt_or_ge a.block w.heap.size with h2|h2
  ·exact h2
  ·simp [World.cell?,Array.getElem?_eq_none h2]at h
 obtain⟨W,hW⟩:∃W,W=(w.alloc (.cells #[.int .i64 0,.int .i64 0] 208)).drew:=⟨_,rfl⟩;have bW:Below w.heap.size w W:=by rw [hW];exact((Below.refl _ w).alloc Ql _).drew
 have HFW:Hid (Blk W q 206 #[.slice (some ⟨g2,off2,none⟩) (n2+1) c2,.slice (some ⟨g,off,none⟩) (n+1) c]):=Qh (hf.below bW hq);have HRW:Hid (Blk W w.heap.size 208 #[.int .i64 0,.int .i64 0]):=Qh (by rw [hW];exact(Blk.new w _ _).drew)
 have HZW:Hid (W.heap.size=w.heap.size+1):=Qh (by rw [hW];simp [World.drew])
 have HGW:Hid (w.grownBy W (some q)):=Qh (by rw [hW];exact Qe0 (World.grownBy_alloc w _ _))
 have HF0:Hid (W.cell? ⟨q,0,none⟩=some (.slice (some ⟨g2,off2,none⟩) (n2+1) c2)):=Qh (HFW.out.cell 0);have HF1:Hid (W.cell? ⟨q,1,none⟩=some (.slice (some ⟨g,off,none⟩) (n+1) c)):=Qh (HFW.out.cell 1);have HS0:Hid (W.cell? ⟨g,off,none⟩=some (.int .i64 (z:Int))):=Qh ((bW.cell (p:=⟨g,off,none⟩) (hgl _ _ h0)).trans h0);have HS1:Hid (W.cell? ⟨g,off+1,none⟩=some (.int .i64 (y:Int))):=Qh ((bW.cell (p:=⟨g,off+1,none⟩) (hgl _ _ h1)).trans h1);have HJ0:Hid (W.cell? ⟨g2,off2,none⟩=some (.int .i64 (x:Int))):=Qh ((bW.cell (p:=⟨g2,off2,none⟩) (hgl _ _ h2)).trans h2);have HHQ:Hid (q<w.heap.size∧g<w.heap.size):=Qh ⟨hq,hgl _ _ h0⟩;have HWE:=Qh hW;clear h0 h1 hgl hf bW h2 hW;go_enter Tryz.func160,Tryz.ntmps160;go_wp2_with fail;refine Qad (Two 1000 1001 fun _ _ wx=>wx=W) (by kernel_rfl) HWE.out.symm ?_
 refine tW (i:=0) rfl rfl ?_;simp only [pu];refine tW (i:=1) rfl rfl ?_;simp only [pu];refine tW (i:=2) rfl rfl ?_;simp only [pu];refine Qaa (i:=3) (v:= .slice (some ⟨g2,off2,none⟩) (n2+1) c2) rfl (Qaf rfl (fun f1 f2 wx hT=> ?_)) ?_
 ·have hT:wx=W:=hT;rw [hT];have c0:=HF0.out;refine Qab (w:=W) ?_ rfl;go_simp
 simp only [pu];refine tW (i:=4) rfl rfl ?_;simp only [pu];refine tW (i:=5) rfl rfl ?_;simp only [pu];refine tW (i:=6) rfl rfl ?_;simp only [pu];refine tW (i:=7) rfl rfl ?_;simp only [pu];refine tW (i:=8) rfl rfl ?_;simp only [pu];refine tW (i:=9) rfl rfl ?_;simp only [pu];refine Qaa (i:=10) (v:= .slice (some ⟨g,off,none⟩) (n+1) c) rfl (Qaf rfl (fun f1 f2 wx hT=> ?_)) ?_
 ·have hT:wx=W:=hT;rw [hT];have c0:=HF1.out;refine Qab (w:=W) ?_ rfl;go_simp
 simp only [pu];refine tW (i:=11) rfl rfl ?_;simp only [pu];refine tW (i:=12) rfl rfl ?_;simp only [pu];refine tW (i:=13) rfl rfl ?_;simp only [pu];refine tW (i:=14) rfl rfl ?_;simp only [pu];refine tW (i:=15) rfl rfl ?_;simp only [pu];refine tW (i:=16) rfl rfl ?_;simp only [pu];refine Qaa (i:=17) (v:= .slice (some ⟨g,off,none⟩) (n+1) c) rfl (Qaf rfl (fun f1 f2 wx hT=> ?_)) ?_
 ·have hT:wx=W:=hT;rw [hT];have c0:=HF1.out;refine Qab (w:=W) ?_ rfl;go_simp
 simp only [pu];refine tW (i:=18) rfl rfl ?_;simp only [pu];refine tW (i:=19) rfl rfl ?_;simp only [pu];refine Qaa (i:=20) (v:= .int .i64 (z:Int)) rfl (Qaf rfl (fun f1 f2 wx hT=> ?_)) ?_
 ·have hT:wx=W:=hT;rw [hT];have c0:=HS0.out;refine Qab (w:=W) ?_ rfl;go_simp
 simp only [pu];refine tW (i:=21) rfl rfl ?_;simp only [pu];refine tW (i:=22) rfl rfl ?_;simp only [pu];refine tW (i:=23) rfl rfl ?_;simp only [pu];refine Qaa (i:=24) (v:= .slice (some ⟨g2,off2,none⟩) (n2+1) c2) rfl (Qaf rfl (fun f1 f2 wx hT=> ?_)) ?_
 ·have hT:wx=W:=hT;rw [hT];have c0:=HF0.out;refine Qab (w:=W) ?_ rfl;go_simp
 simp only [pu];refine tW (i:=25) rfl rfl ?_;simp only [pu];refine tW (i:=26) rfl rfl ?_;simp only [pu];refine Qaa (i:=27) (v:= .int .i64 (x:Int)) rfl (Qaf rfl (fun f1 f2 wx hT=> ?_)) ?_
 ·have hT:wx=W:=hT;rw [hT];have c0:=HJ0.out;refine Qab (w:=W) ?_ rfl;go_simp
 simp only [pu];refine Qaa (i:=28) (v:= .bool true) rfl (Qaf rfl (fun f1 f2 wx hT=> ?_)) ?_
 ·have hT:wx=W:=hT;rw [hT];refine Qab (w:=W) ?_ rfl;go_simp<;>omega
 simp only [pu];refine tW (i:=29) rfl rfl ?_;simp only [pu];refine tW (i:=30) rfl rfl ?_;simp only [pu];refine Qag (by kernel_rfl) (fun wr2 hT=> ?_) _
 obtain rfl:W=wr2:=Eq.symm hT;clear z0;have hqW:q<W.heap.size:=by rw [HZW.out];omega
 have hgW:g<W.heap.size:=by rw [HZW.out];have:=HHQ.out.2;omega
 have hwW:w.heap.size<W.heap.size:=by rw [HZW.out];omega
 have s0:=HS0.out;have s1:=HS1.out;have f0:=HF0.out;have f1:=HF1.out;have z0:=Qd1;have fq:=HFW.out.frozen 1;have r0:W.cell? ⟨w.heap.size,0,none⟩=some (.int .i64 0):=HRW.out.cell 0;have r1:W.cell? ⟨w.heap.size,1,none⟩=some (.int .i64 0):=HRW.out.cell 1;have fr0:=HRW.out.frozen 0;have fr1:=HRW.out.frozen 1;have hqw:q≠w.heap.size:=by omega
 by_cases hc1:c=1
 ·obtain rfl:n=0:=by omega
  subst hc1;go_wp2_with fail;have hres:=(((HRW.out.far (p:=⟨q,1,none⟩) hqw.symm (.slice (some ⟨g,off,none⟩) 0 0)).set_ 0 (.int .i64 (z:Int))).set_ 1 (.int .i64 (y:Int))).alloc (.cells #[.int .i64 (z:Int),.int .i64 (y:Int)] 208);have hblk:=(((HFW.out.set_ 1 (.slice (some ⟨g,off,none⟩) 0 0)).far (p:=⟨w.heap.size,0,none⟩) hqw (.int .i64 (z:Int))).far (p:=⟨w.heap.size,1,none⟩) hqw (.int .i64 (y:Int))).alloc (.cells #[.int .i64 (z:Int),.int .i64 (y:Int)] 208);have hgr:=Qb6 (Qa1 (Qa1 (Qa1 HGW.out ⟨q,1,none⟩ (.inr rfl) (.slice (some ⟨g,off,none⟩) 0 0)) ⟨w.heap.size,0,none⟩ (.inl Ql) (.int .i64 (z:Int))) ⟨w.heap.size,1,none⟩ (.inl Ql) (.int .i64 (y:Int))) (.cells #[.int .i64 (z:Int),.int .i64 (y:Int)] 208);exact bodyPost_ret (results_cell_row rfl _ _ w.heap.size 208 _ (0,0) _ rfl hres Tryz.underlying208 rfl Qdp) rfl ⟨rfl,hblk.cast_ (by rfl),hgr⟩
 ·have hcc:1<c:=by omega
  have ecut:cutA (some ⟨g,off,none⟩) c=some ⟨g,off+2,none⟩:=by
   unfold cutA;rw [if_neg hc1];show some (Addr.add _ 2)=_;rw [Qay]
  go_wp2_with fail;have hres:=(((HRW.out.far (p:=⟨q,1,none⟩) hqw.symm (.slice (some ⟨g,off+2,none⟩) n (c-1))).set_ 0 (.int .i64 (z:Int))).set_ 1 (.int .i64 (y:Int))).alloc (.cells #[.int .i64 (z:Int),.int .i64 (y:Int)] 208);have hblk:=(((HFW.out.set_ 1 (.slice (some ⟨g,off+2,none⟩) n (c-1))).far (p:=⟨w.heap.size,0,none⟩) hqw (.int .i64 (z:Int))).far (p:=⟨w.heap.size,1,none⟩) hqw (.int .i64 (y:Int))).alloc (.cells #[.int .i64 (z:Int),.int .i64 (y:Int)] 208);have hgr:=Qb6 (Qa1 (Qa1 (Qa1 HGW.out ⟨q,1,none⟩ (.inr rfl) (.slice (some ⟨g,off+2,none⟩) n (c-1))) ⟨w.heap.size,0,none⟩ (.inl Ql) (.int .i64 (z:Int))) ⟨w.heap.size,1,none⟩ (.inl Ql) (.int .i64 (y:Int))) (.cells #[.int .i64 (z:Int),.int .i64 (y:Int)] 208);exact bodyPost_ret (results_cell_row rfl _ _ w.heap.size 208 _ (0,0) _ rfl hres Tryz.underlying208 rfl Qdp) rfl ⟨rfl,hblk.cast_ (by rw [ecut];rfl),hgr⟩
def lowB (ao:Option Addr) (cap B:Nat):Prop:=0<cap→∀a,ao=some a→a.block<B
theorem lowB.cut {ao:Option Addr} {cap B:Nat} (h:lowB ao cap B):lowB (cutA ao cap) (cap-1) B:=fun h0 a ha=>by
 unfold cutA at ha;rw [if_neg (by omega)]at ha
 cases ao with
 |none=>cases ha
 |some b=>
  have e:b.add 2=a:=Option.some.inj ha;rw [←e];have:(b.add 2).block=b.block:=by unfold Addr.add;split<;>rfl
  rw [this];exact h (by omega) b rfl
theorem QN.low {B:Nat} {l:List Kd} {ao:Option Addr} {cap:Nat} {w:World} (h:QN B l ao cap w):lowB ao cap w.heap.size:=fun h0 a ha=>by
 obtain⟨g,off,h1,_,h3,_⟩:=h.at_ h0;rw [h1]at ha;cases ha;exact h3
theorem QN.apart {B:Nat} {l:List Kd} {ao:Option Addr} {cap q:Nat} {w:World} (h:QN B l ao cap w) (hq:q<B):noB ao cap q:=fun h0 a ha=>by
 obtain⟨g,off,h1,h2,_⟩:=h.at_ h0;rw [h1]at ha;cases ha;show g≠q;omega
structure FQ (q B:Nat) (S J:List Kd) (aS:Option Addr) (cS:Nat) (aJ:Option Addr) (cJ:Nat) (w:World):Prop where
 f:Blk w q 206 #[.slice aS S.length cS,.slice aJ J.length cJ]
 s:QN 0 S aS cS w
 sq:noB aS cS q
 sl:lowB aS cS B
 j:QN B J aJ cJ w
 qB:q<B
theorem Qr6 (q B:Nat) (S J:List Kd) (aS:Option Addr) (cS:Nat) (aJ:Option Addr) (cJ:Nat) (w:World) (h:FQ q B S J aS cS aJ cJ w) (hne:S++J≠[]) (a:Kd) (S1 J1:List Kd) (ht:tkK S J=(a,S1,J1)):
  Calls Tryz.prog 160 #[.pointer (some ⟨q,0,none⟩)] w fun e w'=>e= .returned (.agg #[.int .i64 (a.1:Int),.int .i64 (a.2:Int)])∧w.grownBy w' (some q)∧
   ∃aS' cS' aJ' cJ',FQ q B S1 J1 aS' cS' aJ' cJ' w'∧∀g,noB aJ cJ g→noB aJ' cJ' g:=by
 have hjq:=h.j.apart h.qB
 match S,J,h,hne,ht with
 |[],[],_,hne,_=>exact absurd rfl hne
 |[],b::J,h,_,ht=>
  have ht:(b,([]:List Kd),J)=(a,S1,J1):=ht;obtain⟨e1,e2⟩:=Prod.mk.inj ht;obtain⟨e2,e3⟩:=Prod.mk.inj e2;subst e1;subst e2;subst e3;obtain⟨g,off,rfl,h0,h1⟩:=h.j.head;have hle:=h.j.le;simp only [List.length_cons]at hle;refine(Q1r q g off J.length cJ b.1 b.2 aS cS w h.f hle h0 h1).mono fun e w' ⟨h2,h3,h4⟩=>⟨h2,h4,aS,cS,cutA (some ⟨g,off,none⟩) cJ,cJ-1,⟨h3,h.s.grown h4 h.sq,h.sq,h.sl,(h.j.tail).grown h4 hjq.cut,h.qB⟩,fun g2 h5=>h5.cut⟩
 |x::S,[],h,_,ht=>
  have ht:(x,S,([]:List Kd))=(a,S1,J1):=ht;obtain⟨e1,e2⟩:=Prod.mk.inj ht;obtain⟨e2,e3⟩:=Prod.mk.inj e2;subst e1;subst e2;subst e3;obtain⟨g,off,rfl,h0,h1⟩:=h.s.head;have hle:=h.s.le;simp only [List.length_cons]at hle;refine(Q1s q g off S.length cS x.1 x.2 aJ cJ w h.f hle h0 h1).mono fun e w' ⟨h2,h3,h4⟩=>⟨h2,h4,cutA (some ⟨g,off,none⟩) cS,cS-1,aJ,cJ,⟨h3,(h.s.tail).grown h4 h.sq.cut,h.sq.cut,h.sl.cut,h.j.grown h4 hjq,h.qB⟩,fun g2 h5=>h5⟩
 |x::S,b::J,h,_,ht=>
  obtain⟨g,off,rfl,h0,h1⟩:=h.s.head;obtain⟨g2,off2,rfl,h2,h3⟩:=h.j.head;have hle:=h.s.le;have hle2:=h.j.le;simp only [List.length_cons]at hle hle2;by_cases hc:b.1<x.1
  ·have e:tkK (x::S) (b::J)=(b,x::S,J):=if_pos hc;rw [e]at ht;obtain⟨e1,e2⟩:=Prod.mk.inj ht;obtain⟨e2,e3⟩:=Prod.mk.inj e2;subst e1;subst e2;subst e3;refine(Q23 q g2 off2 J.length cJ b.1 b.2 g off S.length cS x.1 w h.f hle2 h2 h3 h0 (by omega)).mono fun e w' ⟨h4,h5,h6⟩=>⟨h4,h6,some ⟨g,off,none⟩,cS,cutA (some ⟨g2,off2,none⟩) cJ,cJ-1,⟨h5,h.s.grown h6 h.sq,h.sq,h.sl,(h.j.tail).grown h6 hjq.cut,h.qB⟩,fun g2 h5=>h5.cut⟩
  ·have e:tkK (x::S) (b::J)=(x,S,b::J):=if_neg hc;rw [e]at ht;obtain⟨e1,e2⟩:=Prod.mk.inj ht;obtain⟨e2,e3⟩:=Prod.mk.inj e2;subst e1;subst e2;subst e3;refine(Q24 q g off S.length cS x.1 x.2 g2 off2 J.length cJ b.1 w h.f hle h0 h1 h2 (by omega)).mono fun e w' ⟨h4,h5,h6⟩=>⟨h4,h6,cutA (some ⟨g,off,none⟩) cS,cS-1,some ⟨g2,off2,none⟩,cJ,⟨h5,(h.s.tail).grown h6 h.sq.cut,h.sq.cut,h.sl.cut,h.j.grown h6 hjq,h.qB⟩,fun g2 h5=>h5⟩
def Qhe (g:Nat→Nat) (k:Nat):List Value:=(List.range k).map fun i=> .int .i64 (g i:Int)
theorem Qfu (g:Nat→Nat) (k:Nat):(Qhe g k).length=k:=by simp [Qhe]
theorem Qft (g:Nat→Nat) {k i:Nat} (h:i<k):(Qhe g k)[i]? =some (.int .i64 (g i:Int)):=by simp [Qhe,h]
theorem Quu (g:Nat→Nat) (k p x:Nat):(Qhe g k).set p (.int .i64 (x:Int))=Qhe (updN g p x) k:=by
 apply List.ext_getElem?
 intro i;rw [List.getElem?_set];by_cases h:p=i
 ·subst h;rw [if_pos rfl,Qfu];by_cases h2:p<k
  ·rw [if_pos h2,Qft _ h2];unfold updN;rw [if_pos rfl]
  ·rw [if_neg h2,List.getElem?_eq_none (by rw [Qfu];omega)]
 ·rw [if_neg h];by_cases h2:i<k
  ·rw [Qft _ h2,Qft _ h2];unfold updN;rw [if_neg (fun e=>h e.symm)]
  ·rw [List.getElem?_eq_none (by rw [Qfu];omega),List.getElem?_eq_none (by rw [Qfu];omega)]
theorem Qsq (g:Nat→Nat) (k:Nat) (h:g k=0):Qhe g k++[.int .i64 0]=Qhe g (k+1):=by
 unfold Qhe;rw [List.range_succ,List.map_append];show _=_++[Value.int .i64 ((g k:Nat):Int)];rw [h];rfl
structure JW (w:World) (q:Nat) (S J:List Kd) (ab:Nat→Nat) (k:Nat) (aS:Option Addr) (cS:Nat) (aJ:Option Addr) (cJ gA cA:Nat) (wr:World):Prop where
 g:w.grownBy wr (some q)
 fq:FQ q w.heap.size S J aS cS aJ cJ wr
 jA:noB aJ cJ gA
 a:wr.ownsRow w.heap.size 3 1 (.slice (some ⟨gA,0,none⟩) k cA) k (Qhe ab k)
 gB:w.heap.size≤gA
theorem FQ.keep {q B:Nat} {S J:List Kd} {aS:Option Addr} {cS:Nat} {aJ:Option Addr} {cJ:Nat} {w w':World} (h:FQ q B S J aS cS aJ cJ w) (hz:w.heap.size≤w'.heap.size)
  (hq:w'.heap[q]? =w.heap[q]?) (hs:∀g,g<B→g≠q→w'.heap[g]? =w.heap[g]?) (hj:∀a,0<cJ→aJ=some a→a.block<w.heap.size→w'.heap[a.block]? =w.heap[a.block]?):FQ q B S J aS cS aJ cJ w':=
 ⟨hq.trans h.f,h.s.keep hz (fun a h0 ha _=>hs a.block (h.sl h0 a ha) (h.sq h0 a ha)),h.sq,h.sl,h.j.keep hz hj,h.qB⟩
theorem JW.alloc {w wr:World} {q:Nat} {S J:List Kd} {ab:Nat→Nat} {k:Nat} {aS:Option Addr} {cS:Nat} {aJ:Option Addr} {cJ gA cA:Nat} (h:JW w q S J ab k aS cS aJ cJ gA cA wr) (o:Obj):JW w q S J ab k aS cS aJ cJ gA cA (wr.alloc o):=by
 have hq:=h.fq.f.lt;have hz:=h.g.size;exact⟨Qb6 h.g o,h.fq.keep (by simp) (Below.heap_alloc wr o q hq) (fun g hg _=>Below.heap_alloc wr o g (by omega)) (fun a _ _ hl=>Below.heap_alloc wr o a.block hl),h.jA,h.a.alloc o,h.gB⟩
theorem JW.drew {w wr:World} {q:Nat} {S J:List Kd} {ab:Nat→Nat} {k:Nat} {aS:Option Addr} {cS:Nat} {aJ:Option Addr} {cJ gA cA:Nat} (h:JW w q S J ab k aS cS aJ cJ gA cA wr):JW w q S J ab k aS cS aJ cJ gA cA wr.drew:=
 ⟨Qe0 h.g,h.fq.keep Ql rfl (fun _ _ _=>rfl) (fun _ _ _ _=>rfl),h.jA,h.a.drew,h.gB⟩
theorem JW.put {w wr:World} {q:Nat} {S J:List Kd} {ab:Nat→Nat} {k:Nat} {aS:Option Addr} {cS:Nat} {aJ:Option Addr} {cJ gA cA:Nat} (h:JW w q S J ab k aS cS aJ cJ gA cA wr) (p x:Nat):JW w q S J (updN ab p x) k aS cS aJ cJ gA cA (wr.setCell ⟨gA,p,none⟩ (.int .i64 (x:Int))):=by
 obtain⟨h1,h2⟩:=h.a.stored p (.int .i64 (x:Int));have hqB:=h.fq.qB;have hgB:=h.gB;refine⟨Qa1 h.g _ (.inl h.gB) _,h.fq.keep h2.size (h2.block q h.fq.f.lt (fun e=>by cases e;omega)) (fun g hg _=>h2.block g (Nat.lt_of_lt_of_le hg h.g.size) (fun e=>by cases e;omega)) (fun a h0 ha hl=>h2.block a.block hl (fun e=>h.jA h0 a ha (Option.some.inj e))),h.jA,?_,h.gB⟩
 rw [←Quu];exact h1
theorem JW.at_ {w wr:World} {q:Nat} {S J:List Kd} {ab:Nat→Nat} {k:Nat} {aS:Option Addr} {cS:Nat} {aJ:Option Addr} {cJ gA cA:Nat} (h:JW w q S J ab k aS cS aJ cJ gA cA wr) {p:Nat} (hp:p<k):wr.cell? ⟨gA,p,none⟩=some (.int .i64 (ab p:Int)):=by
 rw [h.a.cellAt p (by omega),Qft _ hp]
section
variable {P:Program} {md:Region.Mode} {ops:Array Oper} {s t u:Nat} {T:Bool→Bool→Bool→World→Prop}
def Qiy (s t u:Nat) (T:Bool→Bool→Bool→World→Prop) (L:Array Bool) (w:World):Prop:=T (L.getD s false) (L.getD t false) (L.getD u false) w
theorem Qbm {i:Nat} {o:Oper} {v:Value} {a:Act} (hs:i≠s) (ht:i≠t) (hu:i≠u) (hw:Region.wanted o (yielded ops a.tmps)=true)
  (h:∀b c d w,T b c d w→Qbv P (T b c d) v ((execOp a.eval o).run P w)):Qbo P md ops (Qiy s t u T) i o v a:=
 .inl ⟨hw,fun L w _ hS=>by unfold Qiy at*;rw [getD_set_ne false hs,getD_set_ne false ht,getD_set_ne false hu];exact h _ _ _ w hS⟩
theorem Qhw {i n:Nat} {o:Oper} {v:Value} {a:Act} (hs:i≠s) (ht:i≠t) (hu:i≠u) (hb:Qne md ops n t i=true) (hb2:Qne md ops n u i=true) (hw:Region.wanted o (yielded ops a.tmps)=true)
  (h:∀b w,T b false false w→Qbv P (T b false false) v ((execOp a.eval o).run P w)):Qbo P md ops (Qiy s t u T) i o v a:=
 .inl ⟨hw,fun L w hm hS=>by unfold Qiy at*;rw [getD_set_ne false hs,getD_set_ne false ht,getD_set_ne false hu];rw [Qes hm hb,Qes hm hb2]at hS⊢;exact h _ w hS⟩
theorem Qsa {n:Nat} {o:Oper} {v:Value} {a:Act} (hst:s≠t) (hsu:s≠u) (hb:Qne md ops n t s=true) (hb2:Qne md ops n u s=true) (hw:Region.wanted o (yielded ops a.tmps)=true)
  (h:∀w,T false false false w→Qbv P (T true false false) v ((execOp a.eval o).run P w)):Qbo P md ops (Qiy s t u T) s o v a:=
 .inl ⟨hw,fun L w hm hS=>by unfold Qiy at*;rw [hm.unlisted.2,getD_set_ne false hst,getD_set_ne false hsu];rw [hm.unlisted.1,Qes hm hb,Qes hm hb2]at hS;rw [Qes hm hb,Qes hm hb2];exact h w hS⟩
theorem Qo3 {n:Nat} {o o2:Oper} {v:Value} {a:Act} (hts:t≠s) (htu:t≠u) (ho:ops[t]? =some o2) (hb:(o2.after.toList.any fun e=>Region.binds md e&&e.on==s)=true) (hb2:Qne md ops n u t=true) (hw:Region.wanted o (yielded ops a.tmps)=true)
  (h:∀w,T true false false w→Qbv P (T true true false) v ((execOp a.eval o).run P w)):Qbo P md ops (Qiy s t u T) t o v a:=
 .inl ⟨hw,fun L w hm hS=>by
  unfold Qiy at*;rw [hm.unlisted.2,getD_set_ne false hts,getD_set_ne false htu];rw [hm.unlisted.1,Qc4 hm ho hb,Qes hm hb2]at hS;rw [Qc4 hm ho hb,Qes hm hb2];exact h w hS⟩
theorem Qsb {o o2:Oper} {v:Value} {a:Act} (hus:u≠s) (hut:u≠t) (ho:ops[u]? =some o2) (hb:(o2.after.toList.any fun e=>Region.binds md e&&e.on==t)=true) (hw:Region.wanted o (yielded ops a.tmps)=true)
  (h:∀b w,T b true false w→Qbv P (T b true true) v ((execOp a.eval o).run P w)):Qbo P md ops (Qiy s t u T) u o v a:=
 .inl ⟨hw,fun L w hm hS=>by
  unfold Qiy at*;rw [hm.unlisted.2,getD_set_ne false hus,getD_set_ne false hut];rw [hm.unlisted.1,Qc4 hm ho hb]at hS;rw [Qc4 hm ho hb];exact h _ w hS⟩
end
theorem Qpo {a b c:World} {row:Option Nat} (h:a.grownBy b row) (k:b.grownBy c row):a.grownBy c row:=
 ⟨k.os.trans h.os,k.tape.trans h.tape,k.output.trans h.output,Nat.le_trans h.size k.size,fun i hi hn=>(k.block i (Nat.lt_of_lt_of_le hi h.size) hn).trans (h.block i hi hn)⟩
theorem Qlk {a b c:World} {r r':Option Nat} (h:a.grownBy b r) (k:b.grownBy c r') (hr:∀g,r'=some g→a.heap.size≤g∨r=some g):a.grownBy c r:=
 ⟨k.os.trans h.os,k.tape.trans h.tape,k.output.trans h.output,Nat.le_trans h.size k.size,fun i hi hn=>(k.block i (Nat.lt_of_lt_of_le hi h.size) (fun e=>by
  rcases hr i e.symm with h1|h1
  ·omega
  ·exact hn h1.symm)).trans (h.block i hi hn)⟩
variable {w wr w':World} {q:Nat} {S J:List Kd} {ab:Nat→Nat} {k:Nat} {aS:Option Addr} {cS:Nat} {aJ:Option Addr} {cJ gA cA:Nat}
theorem JW.take {S1 J1:List Kd} {aS':Option Addr} {cS':Nat} {aJ':Option Addr} {cJ':Nat} (h:JW w q S J ab k aS cS aJ cJ gA cA wr) (hg:wr.grownBy w' (some q)) (hf:FQ q w.heap.size S1 J1 aS' cS' aJ' cJ' w') (hn:∀g,noB aJ cJ g→noB aJ' cJ' g):JW w q S1 J1 ab k aS' cS' aJ' cJ' gA cA w':=by
 have hqB:=h.fq.qB;have hgB:=h.gB;exact⟨Qpo h.g hg,hf,hn _ h.jA,h.a.kept hg (.inr (fun e=>by
  have e:some gA=some q:=e
  injection e with e
  omega)),h.gB⟩
theorem JW.more {g c':Nat} {xs:List Value} (h:JW w q S J ab k aS cS aJ cJ gA cA wr) (hgr:wr.grownBy w' (some gA)) (hown:w'.ownsRow w.heap.size 3 1 (.slice (some ⟨g,0,none⟩) (k+1) c') (k+1) xs) (hxs:xs=Qhe ab (k+1)) (hat:some gA=some g∨g=wr.heap.size):JW w q S J ab (k+1) aS cS aJ cJ g c' w':=by
 subst hxs;have hqB:=h.fq.qB;have hgB:=h.gB;refine⟨Qlk h.g hgr (fun x e=>by cases e;exact .inl h.gB),h.fq.keep hgr.size (hgr.block q h.fq.f.lt (fun e=>by injection e with e;omega)) (fun x hx _=>hgr.block x (Nat.lt_of_lt_of_le hx h.g.size) (fun e=>by injection e with e;omega)) (fun a h0 ha hl=>hgr.block a.block hl (fun e=>h.jA h0 a ha (by injection e))),?_,hown,?_⟩
 ·rcases hat with e|e
  ·injection e with e;rw [←e];exact h.jA
  ·intro h0 a ha;have:=h.fq.j.low h0 a ha;omega
 ·rcases hat with e|e
  ·injection e with e;omega
  ·have:=h.g.size;omega
theorem JW.push {x:Kd} {ao':Option Addr} {cap':Nat} (h:JW w q S J ab k aS cS aJ cJ gA cA wr) (hq:QN w.heap.size (J++[x]) ao' cap' w')
  (hg:(∃g off,aJ=some ⟨g,off,none⟩∧0<cJ∧ao'=aJ∧cap'=cJ∧wr.grownBy w' (some g))∨(wr.grownBy w' none∧∃g off,ao'=some ⟨g,off,none⟩∧wr.heap.size≤g)):
  Blk w' q 206 #[.slice aS S.length cS,.slice aJ J.length cJ]∧JW w q S (J++[x]) ab k aS cS ao' cap' gA cA (w'.setCell ⟨q,1,none⟩ (.slice ao' (J.length+1) cap')):=by
 have hqB:=h.fq.qB;have hgB:=h.gB;have hal:=(h.a.lt gA rfl).2;have key:∃r:Option Nat,wr.grownBy w' r∧(∀g,r=some g→w.heap.size≤g∧g≠gA)∧noB ao' cap' gA:=by
  rcases hg with⟨g,off,h1,h2,h3,h4,h5⟩|⟨h1,g,off,h2,h3⟩
  ·refine⟨some g,h5,fun g2 e=> ?_,?_⟩
   ·injection e with e
    obtain⟨g3,off3,h6,h7,_⟩:=h.fq.j.at_ h2;rw [h1]at h6;have h6:=(Addr.mk.inj (Option.some.inj h6)).1;have h8:=h.jA h2 _ h1;have h8:g≠gA:=h8;omega
   ·rw [h3,h4];exact h.jA
  ·refine⟨none,h1,(fun g e=>by cases e),fun h0 a ha=> ?_⟩
   rw [h2]at ha;cases ha;show g≠gA;omega
 obtain⟨r,hr,hrg,hno⟩:=key;have hfq:w'.heap[q]? =wr.heap[q]? :=hr.block q h.fq.f.lt (fun e=>by have:=(hrg q e.symm).1;omega)
 refine⟨hfq.trans h.fq.f,Qa1 (Qlk h.g hr (fun g e=> .inl (hrg g e).1)) _ (.inr rfl) _,⟨?_,?_,h.fq.sq,h.fq.sl,?_,h.fq.qB⟩,hno,?_,h.gB⟩
 ·have hb:Blk w' q 206 #[.slice aS S.length cS,.slice aJ J.length cJ]:=hfq.trans h.fq.f;refine(hb.set_ 1 _).cast_ ?_;rw [List.length_append];rfl
 ·refine h.fq.s.keep (by simp [World.setCell];exact hr.size) (fun a h0 ha hl=> ?_)
  have h1:=h.fq.sl h0 a ha;rw [Below.heap_setCell _ _ _ _ (h.fq.sq h0 a ha)];exact hr.block a.block hl (fun e=>by have:=(hrg _ e.symm).1;omega)
 ·exact hq.keep (by simp [World.setCell]) (fun a h0 ha _=>Below.heap_setCell _ _ _ _ (hq.apart hqB h0 a ha))
 ·exact ownsRow_setCell_below (h.a.kept hr (by
   cases r with
   |none=>exact .inr (fun e=>by cases e)
   |some g=>exact .inr (fun e=>by
     have e:some gA=some g:=e
     injection e with e
     exact(hrg g rfl).2 e.symm))) (show q<w.heap.size from hqB) _
theorem Qek {P:Program} {R:World→Prop} {o:Oper} {a:Act} {w w':World} {v:Value} (s x:Operand) (t:TypeId) (ho:o.op= .call {callee:= .builtin .append,args:=#[s,x],argTypes:=#[t,t]}) {vs vx:Value} (hs:a.eval s=vs) (hx:a.eval x=vx)
  (hr:(Builtin.append_ #[t,t] o.type #[vs,vx]).run P w= .ok v w') (hR:R w'):Qbv P R v ((execOp a.eval o).run P w):=by
 have:(execOp a.eval o).run P w= .ok (.value v) w':=by
  unfold execOp;simp only [ho,resolve,invoke,builtin,Sem.run_bind,Sem.run_pure,Result.andThen_ok,List.map_toArray,List.map_cons,List.map_nil,hs,hx,hr]
 exact Qab this hR
theorem Qw0 (g:Nat→Nat) (p r x:Nat):updN (updN g r x) p x=updN (updN g p x) r x:=funext fun i=>by
 unfold updN;by_cases h1:i=p
 ·by_cases h2:i=r
  ·rw [if_pos h1,if_pos h2]
  ·rw [if_pos h1,if_neg h2,if_pos h1]
 ·by_cases h2:i=r
  ·rw [if_neg h1,if_pos h2,if_pos h2]
  ·rw [if_neg h1,if_neg h2,if_neg h2,if_neg h1]
structure PX (w:World) (q:Nat) (S J:List Kd) (k:Nat) (aS:Option Addr) (cS:Nat) (aJ:Option Addr) (cJ gA cA na:Nat) (a b:Kd) (ab:Nat→Nat) (wx:World):Prop where
 j:JW w q S J ab k aS cS aJ cJ gA cA wx
 xa:Blk wx na 208 #[.int .i64 (a.1:Int),.int .i64 (a.2:Int)]
 xb:Blk wx (na+1) 208 #[.int .i64 (b.1:Int),.int .i64 (b.2:Int)]
 lt:gA<na
theorem PX.put {w wx:World} {q:Nat} {S J:List Kd} {ab:Nat→Nat} {k:Nat} {aS:Option Addr} {cS:Nat} {aJ:Option Addr} {cJ gA cA na:Nat} {a b:Kd} (h:PX w q S J k aS cS aJ cJ gA cA na a b ab wx) (p x:Nat):PX w q S J k aS cS aJ cJ gA cA na a b (updN ab p x) (wx.setCell ⟨gA,p,none⟩ (.int .i64 (x:Int))):=by
 have:=h.lt;exact⟨h.j.put p x,h.xa.far (show na≠gA by omega) _,h.xb.far (show na+1≠gA by omega) _,h.lt⟩
theorem Qwq (S J:List Kd):∃a S1 J1,tkK S J=(a,S1,J1):=⟨_,_,_,rfl⟩
theorem Qyb (q n:Nat) (S0:List Kd) (aS0:Option Addr) (cS0:Nat) (w:World) (hf:Blk w q 206 #[.slice aS0 S0.length cS0,.slice none 0 0]) (hS:QN 0 S0 aS0 cS0 w) (hq:noB aS0 cS0 q) (htq:TQ S0 [] n) (hsum:sumK S0≤1000000000000000) (hn:n≤300) (hl:S0.length≤n) (A:Nat→Nat) (N:Nat) (hR:Qdv S0.length S0 [] (fun _=>0) n=(A,N)):
  Calls Tryz.prog 145 #[.pointer (some ⟨q,0,none⟩),.int .i64 (n:Int)] w fun e w'=>∃g cA,e= .returned (.slice (some ⟨g,0,none⟩) N cA)∧w'.ownsRow w.heap.size 3 1 (.slice (some ⟨g,0,none⟩) N cA) N (Qhe A N)∧w.grownBy w' (some q):=by
 have hqw:=hf.lt;have hm:=Qge n (by omega)
 have HJ0:Hid (JW w q S0 [] (fun _=>0) n aS0 cS0 none 0 w.heap.size n (w.alloc (.cells (rI n fun _=>0) 3))):=Qh (by
  have hb:=Blk.new w 3 (rI n fun _=>0);refine⟨World.grownBy_alloc w _ _,⟨hf.alloc _,hS.below (Qb.alloc Ql _),hq,hS.low,QN.none_ _ _,hqw⟩,(fun h=>by omega),⟨by rw [Qfu];omega,.inr ⟨w.heap.size,n,_,rfl,Ql,hb,Ql,by unfold maxLen;omega,by rw [Qbb];omega,?_⟩⟩,Ql⟩
  unfold Qhe
  apply List.ext_getElem?
  intro i;rw [List.getElem?_take,Nat.mul_one,List.getElem?_map];by_cases h:i<n
  ·rw [if_pos h,Array.getElem?_toList,Qeu _ h,List.getElem?_range h];rfl
  ·rw [if_neg h,List.getElem?_eq_none (by simp;omega)];rfl)
 have HR0:=Qh hR;have HQ0:=Qh htq;have HS0:=Qh hsum;have HN:=Qh (And.intro hn hl);clear hf hS hq htq hsum hR hqw;go_enter Tryz.func145,Tryz.ntmps145;go_wp2_with fail;clear hm;go_loopg [5,6,7,8] S0.length (fun gk v _ _ _ wr=>∃(t:Nat) (S J:List Kd) (ab:Nat→Nat) (k:Nat) (aS:Option Addr) (cS:Nat) (aJ:Option Addr) (cJ gA cA:Nat),gk=t∧v= .slice (some ⟨gA,0,none⟩) k cA∧Hid (Qdv t S J ab k=(A,N))∧Hid (TQ S J k)∧Hid (sumK (S++J)≤1000000000000000)∧Hid (S.length+J.length≤t∧k+S.length+J.length≤600∧k≤600)∧Hid (∀i,k≤i→ab i=0)∧Hid (JW w q S J ab k aS cS aJ cJ gA cA wr))
 case atStart=>
  have hN:=HN.out;exact⟨S0.length,S0,[],fun _=>0,n,aS0,cS0,none,0,w.heap.size,n,rfl,rfl,HR0,HQ0,Qh (by rw [List.append_nil];exact HS0.out),Qh (by simp;omega),Qh (fun _ _=>rfl),HJ0⟩
 case round=>
  obtain⟨t,S,J,ab,k,aS,cS,aJ,cJ,gA,cA,hgk,rfl,HR,HQ,HSU,HL,HZ,HJ⟩:=hrel;have HG:=Qh hgk;clear hgk HJ0 HR0 HQ0 HS0 HN;have HF0:Hid (wr.drew.cell? ⟨q,0,none⟩=some (.slice aS S.length cS)):=Qh (HJ.out.fq.f.drew.cell 0);have HF1:Hid (wr.drew.cell? ⟨q,1,none⟩=some (.slice aJ J.length cJ)):=Qh (HJ.out.fq.f.drew.cell 1);obtain⟨m,hm⟩:∃m,m=S.length+J.length:=⟨_,rfl⟩;have hml:m≤600:=by have:=HL.out;omega
  have HSUM:Hid (IntKind.i64.wrap ((S.length:Int)+(J.length:Int))=(m:Int)):=Qh (by rw [IntWalk.i64_in _ (by omega)];omega)
  have HM:=Qh hm;clear hm;by_cases h2:m≤1
  ·have hm2:¬(m:Int)>1:=by omega
   go_wp2_with fail;refine Qad (Two 1000 1001 fun _ _ wx=>wx=wr.drew) (by kernel_rfl) rfl ?_
   refine tW (i:=0) rfl rfl ?_;simp only [pu];refine tW (i:=1) rfl rfl ?_;simp only [pu];refine tW (i:=2) rfl rfl ?_;simp only [pu];refine Qaa (i:=3) (v:= .slice aS S.length cS) rfl (Qaf rfl (fun f1 f2 wx hT=> ?_)) ?_
   ·have hT:wx=wr.drew:=hT;rw [hT];have c0:=HF0.out;refine Qab (w:=wr.drew) ?_ rfl;go_simp
   simp only [pu];refine tW (i:=4) rfl rfl ?_;simp only [pu];refine tW (i:=5) rfl rfl ?_;simp only [pu];refine tW (i:=6) rfl rfl ?_;simp only [pu];refine tW (i:=7) rfl rfl ?_;simp only [pu];refine Qaa (i:=8) (v:= .slice aJ J.length cJ) rfl (Qaf rfl (fun f1 f2 wx hT=> ?_)) ?_
   ·have hT:wx=wr.drew:=hT;rw [hT];have c0:=HF1.out;refine Qab (w:=wr.drew) ?_ rfl;go_simp
   simp only [pu];refine tW (i:=9) rfl rfl ?_;simp only [pu];refine Qaa (i:=10) (v:= .int .i64 (m:Int)) rfl (Qaf rfl (fun f1 f2 wx hT=> ?_)) ?_
   ·have hT:wx=wr.drew:=hT;rw [hT];refine Qab (w:=wr.drew) ?_ rfl;go_simp<;>exact HSUM.out
   simp only [pu];refine Qaa (i:=11) (v:= .bool false) rfl (Qaf rfl (fun f1 f2 wx hT=> ?_)) ?_
   ·have hT:wx=wr.drew:=hT;rw [hT];refine Qab (w:=wr.drew) ?_ rfl;go_simp<;>omega
   simp only [pu];refine Qag (by kernel_rfl) (fun wr2 hT=> ?_) _
   have hT:wr2=wr.drew:=hT;rw [hT];clear hT;have HE:Hid (ab=A∧k=N):=Qh (by
    have h3:=HR.out;rw [Qfv (by have:=HM.out;omega)]at h3
    exact⟨congrArg Prod.fst h3,congrArg Prod.snd h3⟩)
   go_wp2_with fail;go_ret;obtain⟨rfl,rfl⟩:=HE.out;exact⟨gA,cA,rfl,HJ.out.drew.a,HJ.out.drew.g⟩
  ·have hm2:(m:Int)>1:=by omega
   go_wp2_with fail;refine Qad (Two 1000 1001 fun _ _ wx=>wx=wr.drew) (by kernel_rfl) rfl ?_
   refine tW (i:=0) rfl rfl ?_;simp only [pu];refine tW (i:=1) rfl rfl ?_;simp only [pu];refine tW (i:=2) rfl rfl ?_;simp only [pu];refine Qaa (i:=3) (v:= .slice aS S.length cS) rfl (Qaf rfl (fun f1 f2 wx hT=> ?_)) ?_
   ·have hT:wx=wr.drew:=hT;rw [hT];have c0:=HF0.out;refine Qab (w:=wr.drew) ?_ rfl;go_simp
   simp only [pu];refine tW (i:=4) rfl rfl ?_;simp only [pu];refine tW (i:=5) rfl rfl ?_;simp only [pu];refine tW (i:=6) rfl rfl ?_;simp only [pu];refine tW (i:=7) rfl rfl ?_;simp only [pu];refine Qaa (i:=8) (v:= .slice aJ J.length cJ) rfl (Qaf rfl (fun f1 f2 wx hT=> ?_)) ?_
   ·have hT:wx=wr.drew:=hT;rw [hT];have c0:=HF1.out;refine Qab (w:=wr.drew) ?_ rfl;go_simp
   simp only [pu];refine tW (i:=9) rfl rfl ?_;simp only [pu];refine Qaa (i:=10) (v:= .int .i64 (m:Int)) rfl (Qaf rfl (fun f1 f2 wx hT=> ?_)) ?_
   ·have hT:wx=wr.drew:=hT;rw [hT];refine Qab (w:=wr.drew) ?_ rfl;go_simp<;>exact HSUM.out
   simp only [pu];refine Qaa (i:=11) (v:= .bool true) rfl (Qaf rfl (fun f1 f2 wx hT=> ?_)) ?_
   ·have hT:wx=wr.drew:=hT;rw [hT];refine Qab (w:=wr.drew) ?_ rfl;go_simp<;>omega
   simp only [pu];refine Qag (by kernel_rfl) (fun wr2 hT=> ?_) _
   have hT:wr2=wr.drew:=hT;subst hT;have HJ1:=Qh HJ.out.drew;clear HJ HF0 HF1 hm2;obtain⟨a,S1,J1,e1⟩:=Qwq S J;obtain⟨b,S2,J2,e2⟩:=Qwq S1 J1;have hM:=HM.out;obtain⟨pp,_,_,hlen,hq2⟩:=HQ.out.step (by omega) e1 e2
   have hne:S++J≠[]:=fun e=>by
    have:=congrArg List.length e;rw [List.length_append]at this;simp only [List.length_nil]at this;omega
   have hne1:S1++J1≠[]:=fun e=>by
    have h3:=(Q1u HQ.out.s HQ.out.j HQ.out.sj hne).1.length_eq;rw [e1]at h3;simp only [List.length_cons,e,List.length_append,List.length_nil]at h3;omega
   have hak:=HQ.out.ok.2 a (pp.mem_iff.2 (List.mem_cons_self ..));have hbk:=HQ.out.ok.2 b (pp.mem_iff.2 (List.mem_cons_of_mem _ (List.mem_cons_self ..)));have hsu:a.1+(b.1+sumK (S2++J2))≤1000000000000000:=by
    have:=HSU.out;rw [Qkf pp]at this;exact this
   have HR2:∃t2,t=t2+1∧Hid (Qdv t2 S2 (J2++[(a.1+b.1,k)]) (updN (updN ab a.2 k) b.2 k) (k+1)=(A,N)):=by
    have h3:=HR.out;have h4:=HL.out.1;cases t with
    |zero=>omega
    |succ t2=>rw [Qgb (by omega) e1 e2]at h3;exact⟨t2,rfl,Qh h3⟩
   obtain⟨t2,ht2,HR2⟩:=HR2;have HT2:=Qh ht2;have HQ2:=Qh hq2;have HLE:=Qh hlen;have HSB:Hid (a.1+(b.1+sumK (S2++J2))≤1000000000000000):=Qh hsu;have HKB:Hid (a.2<k∧b.2<k):=Qh ⟨hak,hbk⟩;clear pp hlen hq2 hsu ht2 hM HR;go_wp2_with fail;refine(Qr6 q w.heap.size S J aS cS aJ cJ _ HJ1.out.fq hne a S1 J1 e1).mono ?_;rintro e w1 ⟨rfl,hg1,aS1,cS1,aJ1,cJ1,hf1,hn1⟩;have HJ2:=Qh (HJ1.out.take hg1 hf1 hn1);clear HJ1 hg1 hf1 hn1;go_wp2_with fail;refine(Qr6 q w.heap.size S1 J1 aS1 cS1 aJ1 cJ1 _ HJ2.out.fq hne1 b S2 J2 e2).mono ?_;rintro e w2 ⟨rfl,hg2,aS2,cS2,aJ2,cJ2,hf2,hn2⟩;have HJ3:=Qh (HJ2.out.take hg2 hf2 hn2);clear HJ2 hg2 hf2 hn2 e1 e2 hne hne1;have z0:=Qd1;have hki:(a.2:Int)<(k:Int):=by omega
   have hkj:(b.2:Int)<(k:Int):=by omega
   go_wp2_with fail;clear z0;have HPX0:Hid (PX w q S2 J2 k aS2 cS2 aJ2 cJ2 gA cA w2.heap.size a b ab ((w2.alloc (.cells #[.int .i64 (a.1:Int),.int .i64 (a.2:Int)] 208)).alloc (.cells #[.int .i64 (b.1:Int),.int .i64 (b.2:Int)] 208)).drew):=Qh
    ⟨((HJ3.out.alloc _).alloc _).drew,((Blk.new w2 _ _).alloc _).drew,((Blk.new _ _ _).cast' ⟨by simp,rfl⟩).drew,(HJ3.out.a.lt gA rfl).2⟩
   obtain⟨na,hna⟩:∃na,na=w2.heap.size:=⟨_,rfl⟩;rw [←hna]at HPX0;have HPX:Hid (∀f1 f2 wx,(bif f1 then(bif f2 then PX w q S2 J2 k aS2 cS2 aJ2 cJ2 gA cA na a b (updN (updN ab a.2 k) b.2 k) wx else PX w q S2 J2 k aS2 cS2 aJ2 cJ2 gA cA na a b (updN ab a.2 k) wx)else (bif f2 then PX w q S2 J2 k aS2 cS2 aJ2 cJ2 gA cA na a b (updN ab b.2 k) wx else PX w q S2 J2 k aS2 cS2 aJ2 cJ2 gA cA na a b ab wx))→∃g,PX w q S2 J2 k aS2 cS2 aJ2 cJ2 gA cA na a b g wx):=Qh fun f1 f2 wx h=>by
    cases f1<;>cases f2<;>exact⟨_,h⟩
   have HCA:Hid (∀wx,(∃g,PX w q S2 J2 k aS2 cS2 aJ2 cJ2 gA cA na a b g wx)→wx.cell? ⟨na,1,none⟩=some (.int .i64 (a.2:Int))):=Qh fun wx ⟨g,h⟩=>h.xa.cell 1;have HCB:Hid (∀wx,(∃g,PX w q S2 J2 k aS2 cS2 aJ2 cJ2 gA cA na a b g wx)→wx.cell? ⟨na+1,1,none⟩=some (.int .i64 (b.2:Int))):=Qh fun wx ⟨g,h⟩=>h.xb.cell 1;have HAT:Hid (∀wx p,p<k→(∃g,PX w q S2 J2 k aS2 cS2 aJ2 cJ2 gA cA na a b g wx)→∃x,wx.cell? ⟨gA,p,none⟩=some x):=Qh fun wx p hp ⟨g,h⟩=>⟨_,h.j.at_ hp⟩;have HFZ:Hid (∀wx (p:Nat),(∃g,PX w q S2 J2 k aS2 cS2 aJ2 cJ2 gA cA na a b g wx)→wx.frozen? ⟨gA,p,none⟩=false):=Qh fun wx p ⟨g,h⟩=>h.j.a.frozenAt p;have HPA:Hid (∀f2 wx,(bif f2 then PX w q S2 J2 k aS2 cS2 aJ2 cJ2 gA cA na a b (updN ab b.2 k) wx else PX w q S2 J2 k aS2 cS2 aJ2 cJ2 gA cA na a b ab wx)→(bif f2 then PX w q S2 J2 k aS2 cS2 aJ2 cJ2 gA cA na a b (updN (updN ab a.2 k) b.2 k) (wx.setCell ⟨gA,a.2,none⟩ (.int .i64 (k:Int)))else PX w q S2 J2 k aS2 cS2 aJ2 cJ2 gA cA na a b (updN ab a.2 k) (wx.setCell ⟨gA,a.2,none⟩ (.int .i64 (k:Int))))):=Qh fun f2 wx h=>by
    cases f2 with
    |false=>exact PX.put h a.2 k
    |true=>
     have h3:=PX.put h a.2 k;rw [Qw0]at h3;exact h3
   have HPB:Hid (∀f1 wx,(bif f1 then PX w q S2 J2 k aS2 cS2 aJ2 cJ2 gA cA na a b (updN ab a.2 k) wx else PX w q S2 J2 k aS2 cS2 aJ2 cJ2 gA cA na a b ab wx)→(bif f1 then PX w q S2 J2 k aS2 cS2 aJ2 cJ2 gA cA na a b (updN (updN ab a.2 k) b.2 k) (wx.setCell ⟨gA,b.2,none⟩ (.int .i64 (k:Int)))else PX w q S2 J2 k aS2 cS2 aJ2 cJ2 gA cA na a b (updN ab b.2 k) (wx.setCell ⟨gA,b.2,none⟩ (.int .i64 (k:Int))))):=Qh fun f1 wx h=>by
    cases f1 with
    |false=>exact PX.put h b.2 k
    |true=>exact PX.put h b.2 k
   rw [←hna];clear hna;refine Qad (Two 9 11 fun f1 f2 wx=>bif f1 then(bif f2 then PX w q S2 J2 k aS2 cS2 aJ2 cJ2 gA cA na a b (updN (updN ab a.2 k) b.2 k) wx else PX w q S2 J2 k aS2 cS2 aJ2 cJ2 gA cA na a b (updN ab a.2 k) wx)else (bif f2 then PX w q S2 J2 k aS2 cS2 aJ2 cJ2 gA cA na a b (updN ab b.2 k) wx else PX w q S2 J2 k aS2 cS2 aJ2 cJ2 gA cA na a b ab wx)) (by kernel_rfl) HPX0.out ?_
   refine tA (i:=0) rfl rfl ?_;simp only [pu];refine tA (i:=1) rfl rfl ?_;simp only [pu];refine tL (i:=2) (v:= .int .i64 (a.2:Int)) rfl rfl (fun f1 f2 wx hT=> ?_) ?_
   ·have c0:=HCA.out _ (HPX.out f1 f2 wx hT);go_simp
   simp only [pu];refine tA (i:=3) rfl rfl ?_;simp only [pu];refine tA (i:=4) rfl rfl ?_;simp only [pu];refine tL (i:=5) (v:= .int .i64 (b.2:Int)) rfl rfl (fun f1 f2 wx hT=> ?_) ?_
   ·have c0:=HCB.out _ (HPX.out f1 f2 wx hT);go_simp
   simp only [pu];refine tA (i:=6) rfl rfl ?_;simp only [pu];refine tA (i:=7) rfl rfl ?_;simp only [pu];refine tA (i:=8) rfl rfl ?_;simp only [pu];refine Qaa (i:=9) (v:=undef) rfl (Qa5 (by decide) rfl (fun f2 wx hT=> ?_)) ?_
   ·obtain⟨x,co⟩:=HAT.out _ a.2 hak (HPX.out false f2 wx hT);have fo:=HFZ.out _ a.2 (HPX.out false f2 wx hT);have K:=HPA.out f2 wx hT;go_simp;exact⟨rfl,by cases f2<;>exact K⟩
   simp only [Act.put];refine tA (i:=10) rfl rfl ?_;simp only [pu];refine Qaa (i:=11) (v:=undef) rfl (Qo4 (by decide) rfl (fun f1 wx hT=> ?_)) ?_
   ·obtain⟨x,co⟩:=HAT.out _ b.2 hbk (HPX.out f1 false wx hT);have fo:=HFZ.out _ b.2 (HPX.out f1 false wx hT);have K:=HPB.out f1 wx hT;go_simp;exact⟨rfl,by cases f1<;>exact K⟩
   simp only [Act.put];refine Qag (by kernel_rfl) (fun w4 hT=> ?_) _
   have HP4:Hid (PX w q S2 J2 k aS2 cS2 aJ2 cJ2 gA cA na a b (updN (updN ab a.2 k) b.2 k) w4):=Qh hT;clear hT HPX HCA HCB HAT HFZ HPA HPB HPX0 hki hkj;have hH5:(w4.alloc (.cells #[.int .i64 0] 3)).heap.size=w4.heap.size+1:=by simp
   obtain⟨i0,hi,hz0,hz1,hz2⟩:=info_parts Qca;have ho5:=(HP4.out.j.a).alloc (.cells #[.int .i64 0] 3);have hB5:w.heap.size≤(w4.alloc (.cells #[.int .i64 0] 3)).heap.size:=by have:=HP4.out.j.g.size;rw [hH5];omega
   have hL:=HL.out;have hbn:=Blk.new w4 3 #[.int .i64 0];go_wp2_with (refine wpList_append_lies _ rfl (.tmp 39) (.tmp 40) 92 rfl w.heap.size 3 i0 (.int .i64 0) 1 8 Tryz.underlying92 hi hz0 hz1 hz2 rfl (by decide) _ k _ rfl ho5 ⟨w4.heap.size,0,none⟩ 1 1 [.int .i64 0] rfl rfl (World.news_of_block hbn) (by intro u hu;rw [List.mem_singleton.1 hu];rfl) (by decide) (by unfold maxLen;omega) (by omega) hB5 _ rfl ?_;intro g5 c5 w5 hown5 hgr5 hat5 hlt5)
   have hK:=HKB.out;have hZ0:updN (updN ab a.2 k) b.2 k k=0:=by
    unfold updN;rw [if_neg (by omega),if_neg (by omega)];exact HZ.out k Ql
   have HZ2:Hid (∀i,k+1≤i→updN (updN ab a.2 k) b.2 k i=0):=Qh fun i hi=>by
    unfold updN;rw [if_neg (by omega),if_neg (by omega)];exact HZ.out i (by omega)
   have HJ5:=Qh ((HP4.out.j.alloc (.cells #[.int .i64 0] 3)).more (g:=g5) (c':=c5) hgr5 hown5 (Qsq _ k hZ0) hat5);have hlt4:=HP4.out.lt;have hxa:Blk w5 na 208 #[.int .i64 (a.1:Int),.int .i64 (a.2:Int)]:=(hgr5.block na (HP4.out.xa.alloc _).lt (fun e=>by have e:some na=some gA:=e;injection e with e;omega)).trans (HP4.out.xa.alloc _)
   have hxb:Blk w5 (na+1) 208 #[.int .i64 (b.1:Int),.int .i64 (b.2:Int)]:=(hgr5.block (na+1) (HP4.out.xb.alloc _).lt (fun e=>by have e:some (na+1)=some gA:=e;injection e with e;omega)).trans (HP4.out.xb.alloc _)
   have hn6:J2.length≤100000:=by have:=HLE.out;omega
   obtain⟨ao6,cap6,w6,hap,hq6,hg6⟩:=Qrx ((HJ5.out.drew.alloc (.cells #[.int .i64 ((a.1+b.1:Nat):Int),.int .i64 (k:Int)] 208)).fq.j) (by have:=(HJ5.out.drew.alloc (.cells #[.int .i64 ((a.1+b.1:Nat):Int),.int .i64 (k:Int)] 208)).g.size;exact this) hn6 203 (a.1+b.1,k) ⟨w5.heap.size,0,none⟩ 1 (fun j u hu=>by
    have hb:=Blk.new w5.drew 208 #[.int .i64 ((a.1+b.1:Nat):Int),.int .i64 (k:Int)];rw [Qay,Nat.zero_add];refine(hb.cell j).trans ?_
    simpa [encK]using hu)
   have hpu:=((HJ5.out.drew.alloc (.cells #[.int .i64 ((a.1+b.1:Nat):Int),.int .i64 (k:Int)] 208)).push hq6 hg6);have HJ6:=Qh hpu.2;have HAP:=Qh hap;have HC6:Hid (w6.cell? ⟨q,1,none⟩=some (.slice aJ2 J2.length cJ2)):=Qh (hpu.1.cell 1);have HF6:Hid (w6.frozen? ⟨q,1,none⟩=false):=Qh (hpu.1.frozen 1);clear hpu;have HJJ:Hid (∀(f1:Bool) wx,(bif f1 then wx=w5.drew.alloc (.cells #[.int .i64 ((a.1+b.1:Nat):Int),.int .i64 (k:Int)] 208)else wx=w5.drew)→wx.cell? ⟨q,1,none⟩=some (.slice aJ2 J2.length cJ2)):=Qh fun f1 wx h=>by
    cases f1 with
    |false=>rw [show wx=w5.drew from h];exact HJ5.out.drew.fq.f.cell 1
    |true=>rw [show wx=w5.drew.alloc _ from h];exact(HJ5.out.drew.fq.f.alloc _).cell 1
   have HWA:Hid (∀(f1:Bool) wx,(bif f1 then wx=w5.drew.alloc (.cells #[.int .i64 ((a.1+b.1:Nat):Int),.int .i64 (k:Int)] 208)else wx=w5.drew)→wx.cell? ⟨na,0,none⟩=some (.int .i64 (a.1:Int))):=Qh fun f1 wx h=>by
    cases f1 with
    |false=>rw [show wx=w5.drew from h];exact hxa.drew.cell 0
    |true=>rw [show wx=w5.drew.alloc _ from h];exact(hxa.drew.alloc _).cell 0
   have HWB:Hid (∀(f1:Bool) wx,(bif f1 then wx=w5.drew.alloc (.cells #[.int .i64 ((a.1+b.1:Nat):Int),.int .i64 (k:Int)] 208)else wx=w5.drew)→wx.cell? ⟨na+1,0,none⟩=some (.int .i64 (b.1:Int))):=Qh fun f1 wx h=>by
    cases f1 with
    |false=>rw [show wx=w5.drew from h];exact hxb.drew.cell 0
    |true=>rw [show wx=w5.drew.alloc _ from h];exact(hxb.drew.alloc _).cell 0
   have HSM:Hid (IntKind.i64.wrap ((a.1:Int)+(b.1:Int))=(a.1:Int)+(b.1:Int)):=Qh (IntWalk.i64_in _ (by have:=HSB.out;omega))
   have HSU2:Hid (sumK (S2++(J2++[(a.1+b.1,k)]))≤1000000000000000):=Qh (by
    have e:(S2++(J2++[(a.1+b.1,k)])).Perm ((a.1+b.1,k)::(S2++J2)):=by rw [←List.append_assoc];exact List.perm_append_singleton _ _
    rw [Qkf e];show a.1+b.1+sumK (S2++J2)≤_;have:=HSB.out;omega)
   have HL2:Hid (S2.length+(J2++[(a.1+b.1,k)]).length≤t2∧k+1+S2.length+(J2++[(a.1+b.1,k)]).length≤600∧k+1≤600):=Qh (by
    have h1:=HLE.out;have h2:=HT2.out;simp only [List.length_append,List.length_cons,List.length_nil];omega)
   clear hK hZ0 hown5 hgr5 hat5 hlt5 hH5 hi hz0 hz1 hz2 ho5 hB5 hL hbn hlt4 hxa hxb hn6 hap hq6 hg6 HP4;refine Qad (Qiy 12 13 16 fun f1 f2 f3 wx=>bif f3 then wx=w6.setCell ⟨q,1,none⟩ (.slice ao6 (J2.length+1) cap6)else bif f2 then wx=w6 else bif f1 then wx=w5.drew.alloc (.cells #[.int .i64 ((a.1+b.1:Nat):Int),.int .i64 (k:Int)] 208)else wx=w5.drew) (by kernel_rfl) rfl ?_
   refine Qaa (i:=0) (v:= ?_) rfl (Qbm (by decide) (by decide) (by decide) rfl (fun f1 f2 f3 wx hT=> ?_)) ?_;rotate_left
   ·refine Qab (w:=wx) ?_ hT;go_simp<;>rfl
   simp only [pu];refine Qaa (i:=1) (v:= ?_) rfl (Qbm (by decide) (by decide) (by decide) rfl (fun f1 f2 f3 wx hT=> ?_)) ?_;rotate_left
   ·refine Qab (w:=wx) ?_ hT;go_simp<;>rfl
   simp only [pu];refine Qaa (i:=2) (v:= ?_) rfl (Qbm (by decide) (by decide) (by decide) rfl (fun f1 f2 f3 wx hT=> ?_)) ?_;rotate_left
   ·refine Qab (w:=wx) ?_ hT;go_simp<;>rfl
   simp only [pu];refine Qaa (i:=3) (v:= ?_) rfl (Qbm (by decide) (by decide) (by decide) rfl (fun f1 f2 f3 wx hT=> ?_)) ?_;rotate_left
   ·refine Qab (w:=wx) ?_ hT;go_simp<;>rfl
   simp only [pu];refine Qaa (i:=4) (v:= .slice aJ2 J2.length cJ2) rfl (Qhw (n:=20) (by decide) (by decide) (by decide) (by kernel_rfl) (by kernel_rfl) rfl (fun f1 wx hT=> ?_)) ?_
   ·have c0:=HJJ.out f1 wx hT;refine Qab (w:=wx) ?_ hT;go_simp
   simp only [pu];refine Qaa (i:=5) (v:= ?_) rfl (Qbm (by decide) (by decide) (by decide) rfl (fun f1 f2 f3 wx hT=> ?_)) ?_;rotate_left
   ·refine Qab (w:=wx) ?_ hT;go_simp<;>rfl
   simp only [pu];refine Qaa (i:=6) (v:= .int .i64 (a.1:Int)) rfl (Qhw (n:=20) (by decide) (by decide) (by decide) (by kernel_rfl) (by kernel_rfl) rfl (fun f1 wx hT=> ?_)) ?_
   ·have c0:=HWA.out f1 wx hT;refine Qab (w:=wx) ?_ hT;go_simp
   simp only [pu];refine Qaa (i:=7) (v:= ?_) rfl (Qbm (by decide) (by decide) (by decide) rfl (fun f1 f2 f3 wx hT=> ?_)) ?_;rotate_left
   ·refine Qab (w:=wx) ?_ hT;go_simp<;>rfl
   simp only [pu];refine Qaa (i:=8) (v:= .int .i64 (b.1:Int)) rfl (Qhw (n:=20) (by decide) (by decide) (by decide) (by kernel_rfl) (by kernel_rfl) rfl (fun f1 wx hT=> ?_)) ?_
   ·have c0:=HWB.out f1 wx hT;refine Qab (w:=wx) ?_ hT;go_simp
   simp only [pu];refine Qaa (i:=9) (v:= .int .i64 ((a.1+b.1:Nat):Int)) rfl (Qbm (by decide) (by decide) (by decide) rfl (fun f1 f2 f3 wx hT=> ?_)) ?_
   ·refine Qab (w:=wx) ?_ hT;go_simp<;>exact HSM.out
   simp only [pu];refine Qaa (i:=10) (v:= ?_) rfl (Qbm (by decide) (by decide) (by decide) rfl (fun f1 f2 f3 wx hT=> ?_)) ?_;rotate_left
   ·refine Qab (w:=wx) ?_ hT;go_simp<;>rfl
   simp only [pu];refine Qaa (i:=11) (v:= ?_) rfl (Qbm (by decide) (by decide) (by decide) rfl (fun f1 f2 f3 wx hT=> ?_)) ?_;rotate_left
   ·refine Qab (w:=wx) ?_ hT;go_simp<;>rfl
   simp only [pu];refine Qaa (i:=12) (v:= .slice (some ⟨w5.heap.size,0,none⟩) 1 1) rfl (Qsa (n:=20) (by decide) (by decide) (by kernel_rfl) (by kernel_rfl) rfl (fun wx hT=> ?_)) ?_
   ·have hT:wx=w5.drew:=hT;rw [hT];refine Qab (w:=w5.drew.alloc (.cells #[.int .i64 ((a.1+b.1:Nat):Int),.int .i64 (k:Int)] 208)) ?_ rfl;go_simp
   simp only [pu];refine Qaa (i:=13) (v:= .slice ao6 (J2.length+1) cap6) rfl (Qo3 (n:=20) (by decide) (by decide) rfl (by kernel_rfl) (by kernel_rfl) rfl (fun wx hT=> ?_)) ?_
   ·have hT:wx=w5.drew.alloc (.cells #[.int .i64 ((a.1+b.1:Nat):Int),.int .i64 (k:Int)] 208):=hT;rw [hT];exact Qek (.tmp 46) (.tmp 54) 203 rfl rfl rfl HAP.out rfl
   simp only [pu];refine Qaa (i:=14) (v:= ?_) rfl (Qbm (by decide) (by decide) (by decide) rfl (fun f1 f2 f3 wx hT=> ?_)) ?_;rotate_left
   ·refine Qab (w:=wx) ?_ hT;go_simp<;>rfl
   simp only [pu];refine Qaa (i:=15) (v:= ?_) rfl (Qbm (by decide) (by decide) (by decide) rfl (fun f1 f2 f3 wx hT=> ?_)) ?_;rotate_left
   ·refine Qab (w:=wx) ?_ hT;go_simp<;>rfl
   simp only [pu];refine Qaa (i:=16) (v:=undef) rfl (Qsb (by decide) (by decide) rfl (by kernel_rfl) rfl (fun f1 wx hT=> ?_)) ?_
   ·have hT:wx=w6:=hT;rw [hT];have co:=HC6.out;have fo:=HF6.out;go_simp;exact⟨rfl,rfl⟩
   simp only [Act.put];refine Qag (by kernel_rfl) (fun w7 hT=> ?_) _
   have hT:w7=_:=hT;rw [hT];clear hT HJJ HWA HWB HC6 HF6 HAP;go_wp2_with fail;go_roundg t2
   case measure=>have h1:=HG.out;have h2:=HT2.out;omega
   case rel=>exact⟨t2,S2,J2++[(a.1+b.1,k)],updN (updN ab a.2 k) b.2 k,k+1,aS2,cS2,ao6,cap6,g5,c5,rfl,by trivial,HR2,HQ2,HSU2,HL2,HZ2,HJ6⟩
abbrev WR (ro:Option Nat):Fence:={Fence.wide with round:=ro}
theorem Qf9 {ro:Option Nat} {P:Program} {f:FuncId} {args:Array Value} {w:World} {R:Ending→World→Prop} (h:Calls P f args w R):CallsIn (WR ro) 0 P f args w R:=(callsIn_wide (n:=0)).2 h
def Qu9 (ops:Array Oper):Bool:=ops.all fun o=>match o.op with| .defer _=>false|_=>true
theorem Qn5 {ops:Array Oper} (h:Qu9 ops=true) (j:Nat) (o:Oper) (c:Call) (ho:ops[j]? =some o):o.op≠ .defer c:=by
 intro e;have h1:=Array.all_eq_true_iff_forall_mem.1 h o (Array.mem_of_getElem? ho);simp [e]at h1
section
variable {P:Program} {ops:Array Oper} {Q:Exit→Act→World→Prop} {md:Region.Mode} {S:Array Bool→World→Prop} {ro:Option Nat}
def Qjh (P:Program) (R:World→Prop) (v:Value):Result Next→Prop
 | .ok (.value u) w'=>u=v∧R w'
 | .ok .skip w'=>v=undef∧R w'
 | .ok (.enter f args) w'=>Calls P f args w' fun e w''=>e= .returned v∧R w''
 | .ok (.round l f ts s b) w'=>RoundIn Fence.wide 0 P l f ts s b w' fun e w''=>e= .returned v∧R w''
 |_=>False
theorem Qbv.r {R:World→Prop} {v:Value} {r:Result Next} (h:Qbv P R v r):Qjh P R v r:=by
 cases r with
 |ok n w'=>cases n<;>first|exact h|exact h.elim
 |halt x w'=>exact h.elim
theorem Qjh.upon {R:World→Prop} {o:Oper} {a:Act} {v:Value} {r:Result Next} {K:Act→World→Prop} (h:Qjh P R v r) (hK:∀w',R w'→K (a.put o.dst v) w'):o.uponIn (WR ro) 0 P a K Q r:=by
 cases r with
 |ok n w'=>
  cases n with
  |value u=>obtain⟨rfl,hS⟩:=h;exact hK _ hS
  |skip=>obtain⟨rfl,hS⟩:=h;exact hK _ hS
  |enter f args=>
   refine⟨(fun hh=>by cases hh),?_⟩
   refine(Qf9 h).mono ?_;rintro e w'' ⟨rfl,hS⟩;exact hK _ hS
  |round l f ts s b=>
   refine⟨(fun hh=>by cases hh),?_⟩
   refine(show RoundIn (WR ro) 0 P l f ts s b w' _ from h).mono ?_;rintro e w'' ⟨rfl,hS⟩;exact hK _ hS
  |_=>exact h.elim
 |halt x w'=>exact h.elim
def Qcd (P:Program) (md:Region.Mode) (ops:Array Oper) (S:Array Bool→World→Prop) (i:Nat) (o:Oper) (v:Value) (a:Act):Prop:=
 (Region.wanted o (yielded ops a.tmps)=true∧∀L w,May md ops i L→S L w→Qjh P (S (L.setIfInBounds i true)) v ((execOp a.eval o).run P w))∨
 (Region.wanted o (yielded ops a.tmps)=false∧v=undef∧∀L w,May md ops i L→S L w→S (L.setIfInBounds i true) w)
theorem Qcd.of_same {i:Nat} {o:Oper} {v:Value} {a a':Act} (hy:Qcd P md ops S i o v a) (he:execOp a'.eval o=execOp a.eval o)
  (hw:Region.wanted o (yielded ops a'.tmps)=Region.wanted o (yielded ops a.tmps)):Qcd P md ops S i o v a':=by
 unfold Qcd at*;rw [he,hw];exact hy
theorem Qcd.wpOp {i:Nat} {o:Oper} {v:Value} {a:Act} (hi:ops[i]? =some o) (hnd:∀c,o.op≠ .defer c) (hy:Qcd P md ops S i o v a) {L:Array Bool} (hm:May md ops i L)
  {K:Act→World→Prop} {w:World} (hS:S L w) (h:∀w',S (L.setIfInBounds i true) w'→K (a.put o.dst v) w'):wpOpIn (WR ro) 0 P ops Q i K a w:=by
 unfold Go.wpOpIn;simp only [hi];rcases hy with⟨hw,hv⟩|⟨hw,rfl,hv⟩
 ·simp only [hw,if_true];refine⟨fun _ _=>trivial,?_⟩;rw [Oper.semAt_eq _ _ _ hnd];exact(hv L w hm hS).upon h
 ·simp only [hw,Bool.false_eq_true,if_false];exact⟨fun _ _=>trivial,h _ (hv L w hm hS)⟩
def anyR (P:Program) (md:Region.Mode) (ops:Array Oper) (Q:Exit→Act→World→Prop) (S:Array Bool→World→Prop):Nat→Array Bool→Act→Prop
 |0,listed,a=>Region.ready md ops listed=[]∧∀w,S listed w→Q .normal a w
 |fuel+1,listed,a=>
  (Region.ready md ops listed=[]→∀w,S listed w→Q .normal a w)∧
  ∀i∈Region.ready md ops listed,∃o v,ops[i]? =some o∧Qcd P md ops S i o v a∧anyR P md ops Q S fuel (listed.setIfInBounds i true) (a.put o.dst v)
theorem Qcd.put {i:Nat} {oi oj:Oper} {v u:Value} {a:Act} (hap:oi.apart ops oj=true) (hsi:∀cs b,oi.op≠ .select cs b) (hy:Qcd P md ops S i oi v a):Qcd P md ops S i oi v (a.put oj.dst u):=by
 obtain⟨_,_,h3⟩:=Oper.apart_spec hap;exact hy.of_same (execOp_put oi hsi a oj.dst u h3) (wanted_put oi a oj.dst u h3)
theorem Qcd.unput {j:Nat} {oi oj:Oper} {v u:Value} {a:Act} (hap:oi.apart ops oj=true) (hsj:∀cs b,oj.op≠ .select cs b) (hy:Qcd P md ops S j oj u (a.put oi.dst v)):Qcd P md ops S j oj u a:=by
 obtain⟨h1,_,_⟩:=Oper.apart_spec hap;exact hy.of_same (execOp_put oj hsj a oi.dst v h1).symm (wanted_put oj a oi.dst v h1).symm
theorem Qsf {i:Nat} {oi:Oper} {v:Value} (hi:ops[i]? =some oi) (hsel:∀(j:Nat) (o:Oper) cs b,ops[j]? =some o→o.op≠ .select cs b):
  ∀(fuel:Nat) (listed:Array Bool) (a:Act),
   (∀j oj,ops[j]? =some oj→j≠i→listed.getD j true=false→(∀e∈oj.after,Region.binds md e=true→e.on≠i)→oi.apart ops oj=true)→
   i∈Region.ready md ops listed→Qcd P md ops S i oi v a→
   anyR P md ops Q S fuel (listed.setIfInBounds i true) (a.put oi.dst v)→anyR P md ops Q S (fuel+1) listed a:=by
 intro fuel
 induction fuel with
 |zero=>
  intro listed a _ hr hy H;refine⟨fun h=>(by rw [h]at hr;cases hr),fun j hj=> ?_⟩
  by_cases hji:j=i
  ·subst hji;exact⟨oi,v,hi,hy,H⟩
  ·have:=ready_mono hj hji;rw [H.1]at this;cases this
 |succ fuel ih=>
  intro listed a hfree hr hy H;refine⟨fun h=>(by rw [h]at hr;cases hr),fun j hj=> ?_⟩
  by_cases hji:j=i
  ·subst hji;exact⟨oi,v,hi,hy,H⟩
  ·obtain⟨oj,u,hoj,h1,h2⟩:=H.2 j (ready_mono hj hji);obtain⟨hjun,oj',hoj',hall⟩:=mem_ready.1 hj;obtain rfl:oj=oj':=by rw [hoj]at hoj';cases hoj';rfl
   have hnot:∀e∈oj.after,Region.binds md e=true→e.on≠i:=fun e he hb heq=>by
    have h1:=hall e he hb;have h0:=(mem_ready.1 hr).1;rw [heq]at h1;rcases Nat.lt_or_ge i listed.size with h'|h'
    ·simp [h']at h0 h1;rw [h0]at h1;cases h1
    ·simp [Array.getElem?_eq_none h']at h1
   have hap:=hfree j oj hoj hji hjun hnot;have hfree':∀k ok,ops[k]? =some ok→k≠i→(listed.setIfInBounds j true).getD k true=false→
     (∀e∈ok.after,Region.binds md e=true→e.on≠i)→oi.apart ops ok=true:=fun k ok hk hki hun hno=>by
    refine hfree k ok hk hki ?_ hno;by_cases hjk:j=k
    ·subst hjk;exact hjun
    ·rw [getD_set_ne true hjk]at hun;exact hun
   refine⟨oj,u,hoj,h1.unput hap (fun cs b=>hsel j oj cs b hoj),?_⟩;refine ih (listed.setIfInBounds j true) _ hfree' (ready_mono hr (Ne.symm hji)) (hy.put hap (fun cs b=>hsel i oi cs b hi)) ?_;rw [Array.setIfInBounds_comm _ _ hji,←Act.put_comm a v u (Oper.apart_spec hap).2.1];exact h2
theorem Qk1 (hnd:∀(j:Nat) o c,ops[j]? =some o→o.op≠ .defer c):∀(fuel:Nat) (listed:Array Bool) (a:Act),listed.size=ops.size→Qfl md ops listed→anyR P md ops Q S fuel listed a→∀w,S listed w→wpAnyIn (WR ro) 0 P md ops Q fuel listed a w
 |0,_,_,_,_,h,w,hS=>⟨h.1,h.2 w hS⟩
 |fuel+1,listed,a,hs,hc,h,w,hS=>
  ⟨fun h0=>h.1 h0 w hS,fun j hj=>by
   obtain⟨o,v,ho,hy,H⟩:=h.2 j hj;exact hy.wpOp ho (fun c=>hnd j o c ho) ⟨hs,hc,hj⟩ hS fun w' hS'=>Qk1 hnd fuel _ _ (by simpa using hs) (hc.set hj) H w' hS'⟩
/-! The moves. -/
theorem Qc2 {i:Nat} {oi:Oper} {r:List Oper} {v:Value} {fuel:Nat} {listed:Array Bool} {a:Act} (hi:ops.toList.drop i=oi::r)
  (hs:Region.noSelect ops=true) (hf:Region.free md ops listed i=true) (hr:(Region.ready md ops listed).contains i=true)
  (hy:Qcd P md ops S i oi v a)
  (h:anyR P md ops Q S fuel (listed.setIfInBounds i true) (a.put oi.dst v)):anyR P md ops Q S (fuel+1) listed a:=
 Qsf (Qdt hi) (Region.noSelect_spec hs) fuel listed a (Region.free_spec (Qdt hi) hf) (by simpa using hr) hy h
theorem Qtn {listed:Array Bool} {a:Act} (hr:Region.ready md ops listed=[]) (h:∀w,S listed w→Q .normal a w):∀fuel,anyR P md ops Q S fuel listed a
 |0=>⟨hr,h⟩
 |_+1=>⟨fun _=>h,by rw [hr];simp⟩
theorem Qi2 {id:Nat} {a:Act} {w:World} (S:Array Bool→World→Prop) (hm:P.follows .mixedOrders=true) (hnd:Qu9 ops=true) (hS:S (Array.replicate ops.size false) w.drew)
  (h:anyR P .any ops Q S ops.size (Array.replicate ops.size false) a):(Code.region id ops true).wpIn (WR ro) 0 P Q a w:=
 wpIn_region_any hm (Qk1 (Qn5 hnd) _ _ _ (by simp) Qfl.start h _ hS)
/-! The invariant hangs on whether two operations (stores) have come up. -/
variable {T:Bool→Bool→World→Prop} {s t:Nat}
theorem Qfk {i:Nat} {o:Oper} {v:Value} {a:Act} (hs:i≠s) (ht:i≠t) (hw:Region.wanted o (yielded ops a.tmps)=true)
  (h:∀b c w,T b c w→Qjh P (T b c) v ((execOp a.eval o).run P w)):Qcd P md ops (Two s t T) i o v a:=
 .inl ⟨hw,fun L w _ hS=>by unfold Two at*;rw [getD_set_ne false hs,getD_set_ne false ht];exact h _ _ w hS⟩
theorem Qzk {i n:Nat} {o:Oper} {v:Value} {a:Act} (hs:i≠s) (ht:i≠t) (hb:Qne md ops n s i=true) (hw:Region.wanted o (yielded ops a.tmps)=true)
  (h:∀c w,T false c w→Qjh P (T false c) v ((execOp a.eval o).run P w)):Qcd P md ops (Two s t T) i o v a:=
 .inl ⟨hw,fun L w hm hS=>by unfold Two at*;rw [getD_set_ne false hs,getD_set_ne false ht];rw [Qes hm hb]at hS⊢;exact h _ w hS⟩
theorem Qzl {o:Oper} {v:Value} {a:Act} (hne:s≠t) (hw:Region.wanted o (yielded ops a.tmps)=true)
  (h:∀c w,T false c w→Qjh P (T true c) v ((execOp a.eval o).run P w)):Qcd P md ops (Two s t T) s o v a:=
 .inl ⟨hw,fun L w hm hS=>by unfold Two at*;rw [hm.unlisted.2,getD_set_ne false hne];rw [hm.unlisted.1]at hS;exact h _ w hS⟩
/-! A region in Go's own order: what is proved plainly serves. -/
end
structure Qbn (B:Nat) (w w':World):Prop where
 size:w.heap.size≤w'.heap.size
 block:∀k,B≤k→k<w.heap.size→w'.heap[k]? =w.heap[k]?
theorem Qbn.refl (B:Nat) (w:World):Qbn B w w:=⟨Ql,fun _ _ _=>rfl⟩
theorem Qbn.trans {B:Nat} {a b c:World} (h:Qbn B a b) (k:Qbn B b c):Qbn B a c:=
 ⟨Nat.le_trans h.size k.size,fun i hi hl=>(k.block i hi (by have:=h.size;omega)).trans (h.block i hi hl)⟩
theorem Qbn.mono {B C:Nat} {a b:World} (h:Qbn B a b) (hBC:B≤C):Qbn C a b:=⟨h.size,fun k hk hl=>h.block k (by omega) hl⟩
theorem Qbn.obj {B k:Nat} {a b:World} {o:Obj} (h:Qbn B a b) (hk:B≤k) (ho:a.heap[k]? =some o):b.heap[k]? =some o:=(h.block k hk (Array.getElem?_eq_some_iff.1 ho).1).trans ho
theorem Qbn.drew (B:Nat) (w:World):Qbn B w w.drew:=⟨Ql,fun _ _ _=>rfl⟩
theorem Qbn.setCell {B:Nat} (w:World) (p:Addr) (v:Value) (h:p.block<B):Qbn B w (w.setCell p v):=
 ⟨(KeepsWalks.setCell w p v).size,fun k hk _=>Below.heap_setCell w p v k (by omega)⟩
theorem Qbn.putObj {B:Nat} (w:World) (l:Nat) (o:Obj) (h:l<B):Qbn B w (w.putObj l o):=
 ⟨by simp,fun k hk _=>World.putObj_heap_other (by omega)⟩
theorem Qei {B:Nat} {W:World} {l:Nat} {o:Obj} (o':Obj) (h:W.heap[l]? =some o) (hB:B≤l):Below B W (W.putObj l o'):=
 (Below.refl B W).grown (grownBy_putObj' W l o') (by have:=(Array.getElem?_eq_some_iff.1 h).1;omega) (fun k e=>by cases e;exact hB)
theorem Qk2 {B k:Nat} {a b:World} {o:Obj} (h:Below B a b) (hk:k<B) (ho:a.heap[k]? =some o):b.heap[k]? =some o:=(h.block k hk).trans ho
def Qzo (P:Program) (g:Nat) (lb:Array Value) (Cap:World→Prop) (N:Nat) (enc:Nat→Array Value):Prop:=
 ∀(l:Nat) (J:Nat→World→Prop) (W:World),Cap W→
  (∀i A C,J i A→W.heap.size≤A.heap.size→Below W.heap.size A C→J i C)→
  (∀i W1,i<N→J i W1→Cap W1→W.heap.size≤W1.heap.size→YieldAt Fence.wide 0 P l (enc i) W1 fun e W'=>e= .returned (.bool true)∧J (i+1) W'∧Cap W'∧Qbn W.heap.size W1 W')→
  J 0 W→CallsIn Fence.wide 0 P g (#[.func (.yield l) #[] #[]]++lb) W fun e W'=>(∃v,e= .returned v)∧J N W'∧Cap W'∧W.heap.size≤W'.heap.size
def endR (I:Nat→World→Prop) (Cap:World→Prop) (B i:Nat) (W:World):Exit→Act→World→Prop
 | .normal,_,W'=>I (i+1) W'∧Cap W'∧Qbn B W W'
 |_,_,_=>False
theorem Qqh {P:Program} {g:Operand} {ps:Array Tmp} {assign body:Code} {Q:Exit→Act→World→Prop} {a:Act} {w:World}
  {gf:Nat} {lb:Array Value} (hg:a.eval g= .func (.func gf) #[] lb) (eg:∀args w,(callFunc gf args).run P w= .ok (.enter gf args) w)
  {Cap:World→Prop} {N:Nat} {enc:Nat→Array Value} (hseq:Qzo P gf lb Cap N enc) (hps:∀i,(enc i).size=ps.size)
  (I:Nat→World→Prop) (hI:∀i A C,I i A→w.heap.size≤A.heap.size→Below w.heap.size A C→I i C)
  (hcap:Cap w) (hCst:∀A C,Cap A→Below w.heap.size A C→Cap C) (h0:I 0 w) (a₁:Nat→Act)
  (hassign:∀(l i:Nat) (W:World) (K:Act→World→Prop),K (a₁ i) W→
   assign.wpIn (Fence.wide.inRound l) 0 P (Exit.then K (fun _ _ _=>False)) {tmps:=(ps.zip (enc i)).foldl (fun t (p,v)=>t.setIfInBounds p v) a.tmps,defers:=[]} W)
  (hbody:∀(l i:Nat) (W:World),i<N→I i W→Cap W→w.heap.size≤W.heap.size→body.wpIn (Fence.wide.inRound l) 0 P (endR I Cap w.heap.size i W) (a₁ i) W)
  (hdone:∀(D:Nat) (W:World),w.heap.size≤D→I N W→Cap W→W.heap[D]? =some (.deferred (some []))→Q .normal {a with defers:={target:= .collected D,args:=#[]}::a.defers} W):
  (Code.rangeFunc g ps assign body).wpIn Fence.wide 0 P Q a w:=by
 refine wpIn_rangeFunc ?_;intro fn hfn;obtain⟨rec,hrec⟩:∃rec:LoopState→Option Code→Loop,rec=fun st pe=>{state:=st,pending:=pe,fn,tmps:=a.tmps,params:=ps,assign,body,defers:=w.heap.size}:=⟨_,rfl⟩;obtain⟨W1,hW1⟩:∃W1,(w.alloc (.deferred (some []))).alloc (.loop (rec .ready none))=W1:=⟨_,rfl⟩;have hz1:W1.heap.size=w.heap.size+2:=by rw [←hW1];simp
 have hL1:W1.heap[w.heap.size+1]? =some (.loop (rec .ready none)):=by
  rw [←hW1];have:=World.alloc_heap_new (w.alloc (.deferred (some []))) (.loop (rec .ready none));rwa [World.size_alloc]at this
 have hK1:W1.heap[w.heap.size]? =some (.deferred (some [])):=by
  rw [←hW1];exact(Below.heap_alloc _ _ _ (by simp)).trans (World.alloc_heap_new w _)
 have hb1:Below w.heap.size w W1:=by
  rw [←hW1];exact((Below.refl _ w).alloc Ql _).alloc (by simp) _
 refine⟨w.heap.size+1,[{target:= .collected w.heap.size,args:=#[]}],W1,{target:= .fn (.func gf) lb,args:=#[.func (.yield (w.heap.size+1)) #[] #[]]},W1,gf,
  #[.func (.yield (w.heap.size+1)) #[] #[]]++lb,W1,?_,?_,fun _ _=>trivial,?_,(fun h=>by cases h),?_⟩
 ·rw [←hW1,hrec];exact run_enterLoop_outer _ _ _ _ _
 ·simp only [resolve,hg];simp [go_sem]
 ·simp [invoke,go_sem,eg]
 ·refine(hseq (w.heap.size+1) (fun i W=>I i W∧W.heap[w.heap.size+1]? =some (.loop (rec .ready none))∧W.heap[w.heap.size]? =some (.deferred (some []))) W1 (hCst _ _ hcap hb1) ?_ ?_
   ⟨hI _ _ _ h0 Ql hb1,hL1,hK1⟩).mono ?_
  ·rintro i A C ⟨h1,h2,h3⟩ hle hb;exact⟨hI _ _ _ h1 (by omega) (hb.mono (by omega)),Qk2 hb (by omega) h2,Qk2 hb (by omega) h3⟩
  ·rintro i W hi ⟨h1,h2,h3⟩ hc hle;have hlt:w.heap.size+1<W.heap.size:=(Array.getElem?_eq_some_iff.1 h2).1;have hy:=run_yield (P:=P) (args:=(enc i)) h2 (by rw [hrec];exact(hps i))
   rw [hrec]at hy;refine⟨fn,_,assign,body,hy,roundIn_of_wpIn (F:=Fence.wide) trivial (hassign _ i W _ ⟨_,run_beginRound h2 (by rw [hrec]),?_⟩)⟩
   have b2:Below w.heap.size W (W.putObj (w.heap.size+1) (.loop {rec .ready none with state:= .busy})):=Qei _ h2 (by omega)
   have hl2:(W.putObj (w.heap.size+1) (.loop {rec .ready none with state:= .busy})).heap[w.heap.size+1]? =some (.loop {rec .ready none with state:= .busy}):=World.putObj_heap_same hlt;have hk2:(W.putObj (w.heap.size+1) (.loop {rec .ready none with state:= .busy})).heap[w.heap.size]? =some (.deferred (some [])):=(World.putObj_heap_other (by omega)).trans h3
   have u2:Qbn W1.heap.size W (W.putObj (w.heap.size+1) (.loop {rec .ready none with state:= .busy})):=Qbn.putObj _ _ _ (by omega)
   refine wpIn_mono (hbody _ i _ hi (hI _ _ _ h1 (by omega) b2) (hCst _ _ hc b2) (by simp;omega)) ?_
   rintro e a3 W3 hp;cases e with
   |normal=>
    obtain⟨hi3,hc3,hu3⟩:=hp;have hl3:=hu3.obj (by omega) hl2
    have hk3:=hu3.obj (by omega) hk2
    have hlt3:=(Array.getElem?_eq_some_iff.1 hl3).1;have hr:=run_endRound (P:=P) none hl3;have b4:Below w.heap.size W3 (W3.putObj (w.heap.size+1) (.loop (rec .ready none))):=Qei _ hl3 (by omega)
    refine⟨.bool true,W3.putObj (w.heap.size+1) (.loop (rec .ready none)),?_,rfl,⟨hI _ _ _ hi3 (by omega) b4,World.putObj_heap_same hlt3,(World.putObj_heap_other (by omega)).trans hk3⟩,hCst _ _ hc3 b4,(u2.trans (hu3.mono (by omega))).trans (Qbn.putObj _ _ _ (by omega))⟩
    rw [hrec]at hr⊢;exact hr
   |_=>exact hp.elim
  ·rintro e W2 ⟨⟨v,rfl⟩,⟨h1,h2,h3⟩,hc,hle⟩;have b5:Below w.heap.size W2 (W2.putObj (w.heap.size+1) (.loop {rec .ready none with state:= .exhausted})):=Qei _ h2 (by omega)
   refine⟨none,_,?_,hdone w.heap.size _ Ql (hI _ _ _ h1 (by omega) b5) (hCst _ _ hc b5) ((World.putObj_heap_other (by omega)).trans h3)⟩
   have:=run_endLoop (P:=P) h2 (by rw [hrec];simp)
   rw [hrec]at this⊢;exact this
def capB (b:Nat) (p:Option Addr) (n cap:Nat) (f:Nat→Int) (w:World):Prop:=Blk w b 92 #[.slice p n cap]∧IS p n cap f w
theorem Qnm (p:Option Addr) (n cap:Nat) (w:World):
  Calls Tryz.prog 146 #[.slice p n cap] w fun e w'=>e= .returned (.func (.func 161) #[] #[.pointer (some ⟨w.heap.size,0,none⟩)])∧w'=w.alloc (.cells #[.slice p n cap] 92):=by
 go_enter Tryz.func146,Tryz.ntmps146
 go_wp2_with fail;go_ret;exact⟨rfl,rfl⟩
theorem Qkv (p:Option Addr) (n cap:Nat) (f:Nat→Int) (hn:n≤100000) (b:Nat):
  Qzo Tryz.prog 161 #[.pointer (some ⟨b,0,none⟩)] (capB b p n cap f) n (fun i=>#[.int .i64 ((n-1-i:Nat):Int),.int .i64 (f (n-1-i))]):=by
 intro l J W hcap hJ hY h0;refine callsIn_of_wp Tryz.func161 rfl trivial ?_;simp only [Tryz.ntmps161,List.size_toArray,List.length_cons,List.length_nil,Nat.reduceAdd,Nat.reduceSub,Array.replicate_succ,Array.replicate_zero,List.push_toArray,List.append_toArray,List.nil_append,List.cons_append];have hc0:W.cell? ⟨b,0,none⟩=some (.slice p n cap):=hcap.1.cell 0;have hz1:IntKind.i64.wrap ((n:Int)-1)=(n:Int)-1:=IntWalk.i64_in _ (by omega)
 gi_wp2_with fail
 clear hc0
 gi_loopw [3] (fun v wr=>∃i:Nat,v= .int .i64 ((n:Int)-1-i)∧i≤n∧J i wr∧capB b p n cap f wr∧W.heap.size≤wr.heap.size) (fun v _=>(intOf v+1).toNat)
 case atStart=>exact⟨0,by simp,by omega,h0,hcap,Ql⟩
 case round=>
  obtain⟨i,rfl,hi,hj,hc,hz⟩:=hrel;clear h0 hcap;have hc1:wr.cell? ⟨b,0,none⟩=some (.slice p n cap):=hc.1.cell 0;by_cases hlt:i<n
  ·obtain⟨fn,tm,ag,bd,hy,hR⟩:=hY i wr hlt hj hc hz;obtain⟨k,hk⟩:∃k,k=n-1-i:=⟨_,rfl⟩;have hkn:k<n:=by omega
   cases p with
   |none=>have:=(hc.2.nil_ rfl).1;omega
   |some a=>
   have hcell:=hc.2.cell a rfl k hkn;rw [show (n:Int)-1-(i:Int)=(k:Int)by omega]
   rw [←hk]at hy;have hki:(k:Int)<(n:Int):=by omega
   have hw:IntKind.i64.wrap ((k:Int)-1)=(k:Int)-1:=IntWalk.i64_in _ (by omega)
   have HK:=Qh hk;have HN:=Qh hlt;clear hk hlt hz1
   gi_wp2_with fail
   refine⟨rfl,hR.mono ?_⟩;rintro e w2 ⟨rfl,hj2,hc2,hu⟩
   gi_wp2_with fail
   go_roundw
   case rel=>exact⟨i+1,by have:=HK.out;have:=HN.out;simp only [Value.int.injEq,true_and];omega,by have:=HN.out;omega,hj2,hc2,Nat.le_trans hz hu.size⟩
   case measure=>simp [intOf]
  ·obtain rfl:i=n:=by omega
   have hneg:¬(i:Int)-1-(i:Int)≥0:=by omega
   gi_wp2_with fail
   go_end0
   exact⟨⟨_,rfl⟩,hj,hc,hz⟩

section
attribute [local go_sem] Oper.semAt_some
theorem Qxh (g n N:Nat) (hn:n≤N) (w:World):
  Calls Tryz.prog 147 #[.slice (some ⟨g,0,none⟩) n N] w fun e w'=>e= .returned (.slice (some ⟨g,0,none⟩) n n)∧w'=w:=by
 go_enter Tryz.func147,Tryz.ntmps147
 go_wp2_with fail;go_ret;exact⟨rfl,rfl⟩
theorem Q1m (c:Nat→Nat) (n:Nat) (h:∀i,i<n→c i≤1099511627776):sumK (nds c n)≤n*1099511627776:=by
 have app:∀a b:List Kd,sumK (a++b)=sumK a+sumK b:=fun a b=>by
  induction a with
  |nil=>exact(Nat.zero_add _).symm
  |cons x a ih=>show x.1+sumK (a++b)=x.1+sumK a+sumK b;rw [ih];omega
 induction n with
 |zero=>exact Nat.zero_le _
 |succ n ih=>
  have h1:=ih fun i hi=>h i (by omega)
  have h2:=h n (by omega)
  show sumK (nds c n++_)≤_
  rw [app,Nat.add_mul,Nat.one_mul];refine Nat.add_le_add h1 ?_;split
  ·show c n+0≤_;omega
  ·exact Nat.zero_le _
theorem Q2y {B g k cA:Nat} {ab:Nat→Nat} {w:World} (h:w.ownsRow B 3 1 (.slice (some ⟨g,0,none⟩) k cA) k (Qhe ab k)) (hb:∀i,i<k→ab i<9223372036854775808):IS (some ⟨g,0,none⟩) k cA (fun i=>(ab i:Int)) w:=
 ⟨(fun e=>by cases e),(fun a e i hi=>by
  cases e
  rw [Qay,Nat.zero_add,h.cellAt i (by omega),Qft _ hi]),(fun a e=>by cases e;exact(h.lt g rfl).2),(fun i _=>by omega),(fun i hi=>by have:=hb i hi;omega)⟩
theorem IS.belowB {p:Option Addr} {n cap B:Nat} {f:Nat→Int} {w w':World} (h:IS p n cap f w) (hp:∀a,p=some a→a.block<B) (hb:Below B w w'):IS p n cap f w':=
 ⟨h.nil_,fun a ha i hi=>by
  have hl:=hp a ha;have:(a.add i).block=a.block:=by unfold Addr.add;split<;>rfl
  rw [hb.cell (p:=a.add i) (by rw [this];exact hl)];exact h.cell a ha i hi,fun a ha=>Nat.lt_of_lt_of_le (h.lt a ha) hb.size,h.lo,h.hi⟩
theorem IS.drewI {p:Option Addr} {n cap:Nat} {f:Nat→Int} {w:World} (h:IS p n cap f w):IS p n cap f w.drew:=⟨h.nil_,h.cell,h.lt,h.lo,h.hi⟩
theorem capB.belowB {b:Nat} {p:Option Addr} {n cap B:Nat} {f:Nat→Int} {w w':World} (h:capB b p n cap f w) (hb0:b<B) (hp:∀a,p=some a→a.block<B) (hb:Below B w w'):capB b p n cap f w':=⟨h.1.below hb hb0,h.2.belowB hp hb⟩
def dpF (D:Nat→Nat) (N i j:Nat):Int:=if N-i≤j then(D j:Int)else 0
theorem Q0k (D:Nat→Nat) (N i k j:Nat) (hk:k=N-1-i) (hi:i<N):(if j=k then Value.int .i64 (D k:Int)else Value.int .i64 (dpF D N i j))=Value.int .i64 (dpF D N (i+1) j):=by
 unfold dpF;by_cases h:j=k
 ·subst h;rw [if_pos rfl,if_pos (by omega)]
 ·rw [if_neg h];by_cases h2:N-i≤j
  ·rw [if_pos h2,if_pos (by omega)]
  ·rw [if_neg h2,if_neg (by omega)]
theorem Qxt (D:Nat→Nat) (N i:Nat) (h0:D (N-1-i)=0) (hi:i<N) (j:Nat):dpF D N i j=dpF D N (i+1) j:=by
 unfold dpF;by_cases h:j=N-1-i
 ·subst h;rw [if_neg (by omega),if_pos (by omega),h0];rfl
 ·by_cases h2:N-i≤j
  ·rw [if_pos h2,if_pos (by omega)]
  ·rw [if_neg h2,if_neg (by omega)]
structure TL (w:World) (gl gb N:Nat) (D:Nat→Nat) (i:Nat) (wx:World):Prop where
 b:Below w.heap.size w wx
 l:Blk wx gl 3 (rI N (dpF D N i))
 v:Blk wx gb 92 #[.slice (some ⟨gl,0,none⟩) N N]
theorem TL.below {w:World} {gl gb N:Nat} {D:Nat→Nat} {i B:Nat} {A C:World} (h:TL w gl gb N D i A) (hB:w.heap.size≤B) (hl:gl<B) (hb:gb<B) (hbe:Below B A C):TL w gl gb N D i C:=
 ⟨h.b.trans (hbe.mono hB),h.l.below hbe hl,h.v.below hbe hb⟩
theorem Qkp (p:Option Addr) (n cap:Nat) (c:Nat→Nat) (w:World) (h:IS p n cap (fun i=>(c i:Int)) w) (hn:n≤300) (h1:(nds c n).length=1):
  Calls Tryz.prog 121 #[.slice p n cap] w fun e w'=>∃p2 c2,e= .returned (.slice p2 n c2)∧IS p2 n c2 (fun i=>(lenO c n i:Int)) w'∧Below w.heap.size w w'∧n≤c2:=by
 have CS:=Qhq p n cap c w h hn;rw [h1]at CS;have hm:=Qge n (by omega)
 refine(callsIn_wide (n:=0)).1 ?_;refine callsIn_of_wp_marks Tryz.func121 rfl trivial ?_;simp only [Tryz.ntmps121,List.size_toArray,List.length_cons,List.length_nil,Nat.reduceAdd,Nat.reduceSub,Array.replicate_succ,Array.replicate_zero,List.push_toArray,List.append_toArray,List.nil_append,List.cons_append]
 gi_wp2_with fail
 refine⟨trivial,rfl,(Qf9 (ro:=none) CS).mono ?_⟩;rintro e w1 ⟨S,ao,cp,rfl,hp,hs,hq,hb⟩;have hlS:S.length=1:=hp.length_eq.trans h1
 match S,hlS with
 |[x],_=>
 obtain⟨g,off,rfl,hx0,hx1⟩:=hq.head;have hgl:g<w1.heap.size:=by
  have:=hq.low (by have:=hq.le;simp at this;omega) _ rfl
  exact this
 have hx:=Qbw.1 (hp.mem_iff.1 (List.mem_singleton.2 rfl));have hxn:x.2<n:=hx.1;have hxi:(x.2:Int)<(n:Int):=by omega
 have HX:=Qh hp;have hgn:g≠w1.heap.size:=by omega
 have hgn1:g≠w1.heap.size+1:=by omega
 obtain⟨y,hy⟩:∃y,y=x.2:=⟨_,rfl⟩;rw [←hy]at hx1 hxn hxi;have HY:=Qh hy;clear CS hs hq hx hp hx0 hy h;have hb3:Blk ((w1.alloc (.cells #[.slice (some ⟨g,off,none⟩) 1 cp,.slice none 0 0] 206)).alloc (.cells (rI n fun _=>0) 3)) (w1.heap.size+1) 3 (rI n fun _=>0):=(Blk.new _ _ _).cast' ⟨by simp,rfl⟩
 have c3:=hb3.at_ hxn;have f3:=hb3.frozen y;have hbb:Below w.heap.size w ((w1.alloc (.cells #[.slice (some ⟨g,off,none⟩) 1 cp,.slice none 0 0] 206)).alloc (.cells (rI n fun _=>0) 3)):=(hb.alloc hb.size _).alloc (by have:=hb.size;simp;omega) _
 have HR:Hid (Blk ((w1.alloc (.cells #[.slice (some ⟨g,off,none⟩) 1 cp,.slice none 0 0] 206)).alloc (.cells ((rI n fun _=>0).setIfInBounds y (.int .i64 1)) 3)) (w1.heap.size+1) 3 (row n fun j=>if j=y then Value.int .i64 1 else .int .i64 0)):=Qh (((Blk.new _ _ _).cast' ⟨by simp,rfl⟩).cast_ (Qv3 _ hxn _))
 have HBB:Hid (Below w.heap.size w ((w1.alloc (.cells #[.slice (some ⟨g,off,none⟩) 1 cp,.slice none 0 0] 206)).alloc (.cells ((rI n fun _=>0).setIfInBounds y (.int .i64 1)) 3))):=Qh ((hb.alloc hb.size _).alloc (by have:=hb.size;simp;omega) _)
 clear hb hb3 hbb
 gi_wp2_with fail
 refine⟨_,results_tmp rfl _ _ _,?_⟩;refine⟨some ⟨w1.heap.size+1,0,none⟩,n,rfl,IS.row (HR.out.cast_ (Qa3 fun i hi=> ?_)) (fun i _=>by omega) (fun i _=>by unfold lenO;rw [if_pos h1];split<;>omega),HBB.out,Nat.le_refl n⟩
 have hmem:c i≠0↔i=y:=by
  rw [HY.out]
  constructor
  ·intro h0;have:=(HX.out).mem_iff.2 ((Qbw (x:=(c i,i))).2 ⟨hi,by show 0<c i;omega,rfl⟩)
   rw [←List.mem_singleton.1 this]
  ·rintro rfl;have:=Qbw.1 (HX.out.mem_iff.1 (List.mem_singleton.2 rfl));omega
 show _=Value.int .i64 ((lenO c n i:Nat):Int)
 unfold lenO;by_cases h0:i=y
 ·rw [if_pos h0,if_neg (hmem.2 h0),if_pos h1];rfl
 ·rw [if_neg h0,if_pos (Decidable.not_not.1 (fun hh=>h0 (hmem.1 hh)))];rfl
theorem Qi1 (p:Option Addr) (n cap:Nat) (c:Nat→Nat) (w:World) (h:IS p n cap (fun i=>(c i:Int)) w) (hn:n≤300) (hc:∀i,i<n→c i≤1099511627776) (h1:(nds c n).length≠1):
  Calls Tryz.prog 121 #[.slice p n cap] w fun e w'=>∃p2 c2,e= .returned (.slice p2 n c2)∧IS p2 n c2 (fun i=>(lenO c n i:Int)) w'∧Below w.heap.size w w'∧n≤c2:=by
 have CS:=Qhq p n cap c w h hn;have hln:=Qfw c n;have hsu:=Q1m c n hc;obtain⟨L,hL⟩:∃L,L=(nds c n).length:=⟨_,rfl⟩;rw [←hL]at CS h1 hln;have HLL:=Qh hL;have HSU:=Qh hsu;clear hL hsu;refine(callsIn_wide (n:=0)).1 ?_;refine callsIn_of_wp_marks Tryz.func121 rfl trivial ?_;simp only [Tryz.ntmps121,List.size_toArray,List.length_cons,List.length_nil,Nat.reduceAdd,Nat.reduceSub,Array.replicate_succ,Array.replicate_zero,List.push_toArray,List.append_toArray,List.nil_append,List.cons_append]
 gi_wp2_with fail
 refine⟨trivial,rfl,(Qf9 (ro:=none) CS).mono ?_⟩;rintro e w1 ⟨S,ao,cp,rfl,hp,hs,hq,hb⟩;clear CS h;have hlS:S.length=L:=hp.length_eq.trans HLL.out.symm;obtain⟨q,hqd⟩:∃q,q=w1.heap.size:=⟨_,rfl⟩;have hok:=Qbj hp.symm (Qhi c n);have htq:TQ S [] n:=⟨by rw [List.append_nil];exact hok,hs,List.Pairwise.nil,(fun x _ y hy=>by cases hy),0,(fun x _=>Nat.zero_le _),(fun x hx=>by cases hx)⟩
 obtain⟨A,N,hAN⟩:∃A N,Qdv S.length S [] (fun _=>0) n=(A,N):=⟨_,_,rfl⟩;have hup:=Qrf S.length S [] (fun _=>0) n htq (fun i h=>absurd h (Nat.lt_irrefl 0));rw [hAN]at hup;have hdep:=fun i hi=>Qyc (c:=c) (n:=n) hp hs S.length Ql i hi;rw [hAN]at hdep;have hNb:N≤601:=by
  have h3:=Qsr S.length S [] (fun _=>0) n;rw [hAN]at h3;simp only [List.length_nil]at h3;omega
 have b2:Below w1.heap.size w1 (w1.alloc (.cells #[.slice ao L cp,.slice none 0 0] 206)):=Qb.alloc Ql _;have CJ:=Qh (Qyb w1.heap.size n S ao cp (w1.alloc (.cells #[.slice ao L cp,.slice none 0 0] 206)) (by rw [hlS];exact Blk.new w1 _ _) ((hq.mono (Nat.zero_le _)).below b2) (fun h0 a ha=>by have:=hq.low h0 a ha;omega) htq (by rw [Qkf hp];have:=HSU.out;omega) hn (by omega) A N hAN)
 have HB1:=Qh hb;have hk:(w1.alloc (.cells #[.slice ao L cp,.slice none 0 0] 206)).cell? ⟨w1.heap.size,0,none⟩=some (.slice ao L cp):=(Blk.new w1 _ _).cell 0;have h1i:¬(L:Int)=1:=by omega
 have hbq:((L:Int)==1)=false:=by simpa using h1i
 have HUP:=Qh hup;have HDEP:=Qh hdep;clear hp hs hq hb hlS hok htq hup hdep hqd q hAN b2
 gi_wp2_with fail
 refine⟨trivial,rfl,(Qf9 (ro:=none) CJ.out).mono ?_⟩;rintro e w3 ⟨gA,cA,rfl,hown,hg3⟩;clear CJ;have HB3:Hid (Below w.heap.size w w3):=Qh ((HB1.out.alloc HB1.out.size _).grown hg3 (by have:=HB1.out.size;simp;omega) (fun k e=>by cases e;exact HB1.out.size))
 have HIS:Hid (IS (some ⟨gA,0,none⟩) N cA (fun i=>(A i:Int)) w3):=Qh (Q2y hown (fun i _=>by
  have h3:=HUP.out.2 i;omega))
 have hm:=Qge N (by omega)
 clear hown hg3 HB1
 gi_wp2_with fail
 refine⟨trivial,rfl,(Qf9 (ro:=none) (Qnm _ _ _ _)).mono ?_⟩;rintro e w4 ⟨rfl,rfl⟩
 gi_wp2_with fail
 obtain⟨D,hD⟩:∃D:Nat→Nat,D=dP A N:=⟨_,rfl⟩;have HDI:Hid (∀i,D i=if 0<A i then D (A i)+1 else 0):=Qh fun i=>by rw [hD];exact Q0i HUP.out.2 i
 have HDL:Hid (∀i,D i≤N):=Qh fun i=>by rw [hD];exact Q3h A N i
 have HDN:Hid (∀i,i<n→D i=if c i=0 then 0 else dep c n i):=Qh fun i hi=>by rw [hD];exact HDEP.out i hi
 have HNN:Hid (n≤N):=Qh HUP.out.1;have HUP2:Hid (∀i,0<A i→i<A i∧A i<N):=Qh HUP.out.2;have hgA:gA<w3.heap.size:=HIS.out.lt _ rfl;obtain⟨w5,hw5⟩:∃w5,w5=((w3.alloc (.cells (rI N fun _=>0) 3)).alloc (.cells #[.slice (some ⟨w3.heap.size,0,none⟩) N N] 92)).alloc (.cells #[.slice (some ⟨gA,0,none⟩) N cA] 92):=⟨_,rfl⟩;have hz5:w5.heap.size=w3.heap.size+1+1+1:=by rw [hw5];simp
 have b5:Below w3.heap.size w3 w5:=by rw [hw5];exact((Qb.alloc Ql _).alloc (by simp) _).alloc (by simp;omega) _
 have t5:TL w w3.heap.size (w3.heap.size+1) N D 0 w5:=by
  refine⟨HB3.out.trans (b5.mono HB3.out.size),?_,?_⟩
  ·rw [hw5];refine(((Blk.new w3 _ _).alloc _).alloc _).cast_ (Qa3 fun i hi=> ?_);show _=Value.int .i64 (dpF D N 0 i);unfold dpF;rw [if_neg (by omega)]
  ·rw [hw5];exact((Blk.new _ _ _).cast' ⟨by simp,rfl⟩).alloc _
 have k5:capB (w3.heap.size+1+1) (some ⟨gA,0,none⟩) N cA (fun i=>(A i:Int)) w5:=by
  refine⟨?_,HIS.out.below b5⟩;rw [hw5];exact(Blk.new _ _ _).cast' ⟨by simp,rfl⟩
 rw [←hw5];have HBW:=Qh HB3.out.size;clear hw5 b5 hD HDEP HUP hm HB3;refine Qqh rfl (enters_of Tryz.func161 (by kernel_rfl) rfl) (Qkv (some ⟨gA,0,none⟩) N cA (fun i=>(A i:Int)) (by omega) (w3.heap.size+1+1)) (fun _=>rfl) (fun i X=>TL w w3.heap.size (w3.heap.size+1) N D i X)
  (fun i X C hh hz hb=>hh.below (B:=w5.heap.size) (by have:=HBW.out;omega) (by omega) (by omega) hb) k5 (fun X C hh hb=>hh.belowB (B:=w5.heap.size) (by omega) (fun a ha=>by cases ha;show gA<_;omega) hb) t5
  (fun i=>{tmps:=#[.slice p n cap,undef,.slice none 0 0,.pointer (some ⟨w1.heap.size,0,none⟩),undef,.slice (some ⟨gA,0,none⟩) N cA,.pointer (some ⟨w3.heap.size+1,0,none⟩),.int .i64 ((N-1-i:Nat):Int),.int .i64 (A (N-1-i):Int),.slice p n cap,.slice ao L cp,.agg #[.slice ao L cp,.slice none 0 0],.pointer (some ⟨w1.heap.size,0,none⟩),.slice ao L cp,.int .i64 (L:Int),.bool false,undef,undef,undef,undef,undef,undef,undef,undef,undef,undef,undef,.slice p n cap,.int .i64 (n:Int),.slice (some ⟨gA,0,none⟩) N cA,.slice (some ⟨gA,0,none⟩) N cA,.int .i64 (N:Int),.slice (some ⟨w3.heap.size,0,none⟩) N N,.slice (some ⟨gA,0,none⟩) N cA,.func (.func 161) #[] #[.pointer (some ⟨w3.heap.size+1+1,0,none⟩)],.int .i64 ((N-1-i:Nat):Int),.int .i64 (A (N-1-i):Int),undef,undef,undef,undef,undef,undef,undef,undef,undef,undef,undef,undef,undef,undef,undef],defers:=[]}) ?assign ?body ?done
 case assign=>
  intro l2 i V K hK
  gi_wp2_with fail
  exact hK
 case body=>
  rintro l2 i V hi ht hcap hz;obtain⟨k,hk⟩:∃k,k=N-1-i:=⟨_,rfl⟩;obtain⟨up,hup⟩:∃up,up=A k:=⟨_,rfl⟩;rw [←hk,←hup];have hkN:k<N:=by omega
  have hDk:=HDI.out k;rw [←hup]at hDk
  apply wpIn_block
  by_cases h0:up=0
  ·rw [if_neg (by omega)]at hDk
   have hT2:TL w w3.heap.size (w3.heap.size+1) N D (i+1) V:=⟨ht.b,ht.l.cast_ (Qa3 fun j _=>congrArg (fun x:Int=>Value.int .i64 x) (Qxt D N i (by rw [←hk];exact hDk) hi j)),ht.v⟩
   have H2:=Qh hT2;have HC:=Qh hcap;subst h0;clear ht hDk hT2 hcap hk hup
   gi_wp2_with fail
   exact⟨H2.out,HC.out,Qbn.refl _ _⟩
  ·rw [if_pos (by omega)]at hDk
   have hupN:=HUP2.out k (by omega)
   rw [←hup]at hupN;have hui:(up:Int)>0:=by omega
   have huN:(up:Int)<(N:Int):=by omega
   have hkNi:(k:Int)<(N:Int):=by omega
   have hDu:=HDL.out up;have HAD:Hid (IntKind.i64.wrap ((D up:Int)+1)=(D up:Int)+1):=Qh (IntWalk.i64_in _ (by omega))
   have HCV:Hid (∀(f1:Bool) wx,(bif f1 then TL w w3.heap.size (w3.heap.size+1) N D (i+1) wx∧capB (w3.heap.size+1+1) (some ⟨gA,0,none⟩) N cA (fun i=>(A i:Int)) wx∧Qbn w5.heap.size V wx else TL w w3.heap.size (w3.heap.size+1) N D i wx∧capB (w3.heap.size+1+1) (some ⟨gA,0,none⟩) N cA (fun i=>(A i:Int)) wx∧Qbn w5.heap.size V wx)→wx.cell? ⟨w3.heap.size+1,0,none⟩=some (.slice (some ⟨w3.heap.size,0,none⟩) N N)):=Qh fun f1 wx hh=>by
    cases f1 with
    |false=>exact hh.1.v.cell 0
    |true=>exact hh.1.v.cell 0
   have HCU:Hid (∀wx,TL w w3.heap.size (w3.heap.size+1) N D i wx∧capB (w3.heap.size+1+1) (some ⟨gA,0,none⟩) N cA (fun i=>(A i:Int)) wx∧Qbn w5.heap.size V wx→wx.cell? ⟨w3.heap.size,up,none⟩=some (.int .i64 (D up:Int))):=Qh fun wx hh=>by
    rw [hh.1.l.at_ hupN.2];unfold dpF;rw [if_pos (by omega)]
   have HCO:Hid (∀wx,TL w w3.heap.size (w3.heap.size+1) N D i wx∧capB (w3.heap.size+1+1) (some ⟨gA,0,none⟩) N cA (fun i=>(A i:Int)) wx∧Qbn w5.heap.size V wx→wx.cell? ⟨w3.heap.size,k,none⟩=some (.int .i64 (dpF D N i k))):=Qh fun wx hh=>hh.1.l.at_ hkN;have HFO:Hid (∀wx,TL w w3.heap.size (w3.heap.size+1) N D i wx∧capB (w3.heap.size+1+1) (some ⟨gA,0,none⟩) N cA (fun i=>(A i:Int)) wx∧Qbn w5.heap.size V wx→wx.frozen? ⟨w3.heap.size,k,none⟩=false):=Qh fun wx hh=>hh.1.l.frozen k;have HPUT:Hid (∀wx,TL w w3.heap.size (w3.heap.size+1) N D i wx∧capB (w3.heap.size+1+1) (some ⟨gA,0,none⟩) N cA (fun i=>(A i:Int)) wx∧Qbn w5.heap.size V wx→TL w w3.heap.size (w3.heap.size+1) N D (i+1) (wx.setCell ⟨w3.heap.size,k,none⟩ (.int .i64 ((D up+1:Nat):Int)))∧capB (w3.heap.size+1+1) (some ⟨gA,0,none⟩) N cA (fun i=>(A i:Int)) (wx.setCell ⟨w3.heap.size,k,none⟩ (.int .i64 ((D up+1:Nat):Int)))∧Qbn w5.heap.size V (wx.setCell ⟨w3.heap.size,k,none⟩ (.int .i64 ((D up+1:Nat):Int)))):=Qh fun wx ⟨hh1,hh2,hh3⟩=>by
    have hBW:=HBW.out;refine⟨⟨hh1.b.setCell (p:=⟨w3.heap.size,k,none⟩) hBW _,(hh1.l.put hkN _).cast_ (Qa3 fun j _=> ?_),hh1.v.far (show w3.heap.size+1≠w3.heap.size by omega) _⟩,⟨hh2.1.far (show w3.heap.size+1+1≠w3.heap.size by omega) _,hh2.2.set _ _ (fun a ha=>by cases ha;show gA≠w3.heap.size;omega)⟩,hh3.trans (Qbn.setCell _ _ _ (show w3.heap.size<w5.heap.size by omega))⟩
    rw [←hDk];exact Q0k D N i k j hk hi
   have HT0:=Qh ht;have HC0:=Qh hcap;clear ht hcap hDk hk hup hDu hz5
   gi_wp2_with fail
   have hst:TL w w3.heap.size (w3.heap.size+1) N D i V.drew∧capB (w3.heap.size+1+1) (some ⟨gA,0,none⟩) N cA (fun i=>(A i:Int)) V.drew∧Qbn w5.heap.size V V.drew:=⟨⟨HT0.out.b.drew,HT0.out.l.drew,HT0.out.v.drew⟩,⟨HC0.out.1.drew,HC0.out.2.drewI⟩,Qbn.drew _ _⟩;refine Qi2 (ro:=some l2) (Two 8 1000 fun f1 _ wx=>bif f1 then TL w w3.heap.size (w3.heap.size+1) N D (i+1) wx∧capB (w3.heap.size+1+1) (some ⟨gA,0,none⟩) N cA (fun i=>(A i:Int)) wx∧Qbn w5.heap.size V wx else TL w w3.heap.size (w3.heap.size+1) N D i wx∧capB (w3.heap.size+1+1) (some ⟨gA,0,none⟩) N cA (fun i=>(A i:Int)) wx∧Qbn w5.heap.size V wx) (by kernel_rfl) (by kernel_rfl) hst ?_
   refine Qc2 (i:=0) (v:= .slice (some ⟨w3.heap.size,0,none⟩) N N) rfl (by kernel_rfl) (by kernel_rfl) (by kernel_rfl) (Qfk (by decide) (by decide) rfl (fun f1 f2 wx hT=> ?_)) ?_
   ·have c0:=HCV.out f1 wx hT;refine Qbv.r (Qab (w:=wx) ?_ hT);go_simp
   simp only [pu];refine Qc2 (i:=1) (v:= ?_) rfl (by kernel_rfl) (by kernel_rfl) (by kernel_rfl) (Qfk (by decide) (by decide) rfl (fun f1 f2 wx hT=> ?_)) ?_;rotate_left
   ·refine Qbv.r (Qab (w:=wx) ?_ hT);go_simp<;>rfl
   simp only [pu];refine Qc2 (i:=2) (v:= .slice (some ⟨w3.heap.size,0,none⟩) N N) rfl (by kernel_rfl) (by kernel_rfl) (by kernel_rfl) (Qfk (by decide) (by decide) rfl (fun f1 f2 wx hT=> ?_)) ?_
   ·have c0:=HCV.out f1 wx hT;refine Qbv.r (Qab (w:=wx) ?_ hT);go_simp
   simp only [pu];refine Qc2 (i:=3) (v:= ?_) rfl (by kernel_rfl) (by kernel_rfl) (by kernel_rfl) (Qfk (by decide) (by decide) rfl (fun f1 f2 wx hT=> ?_)) ?_;rotate_left
   ·refine Qbv.r (Qab (w:=wx) ?_ hT);go_simp<;>rfl
   simp only [pu];refine Qc2 (i:=4) (v:= ?_) rfl (by kernel_rfl) (by kernel_rfl) (by kernel_rfl) (Qfk (by decide) (by decide) rfl (fun f1 f2 wx hT=> ?_)) ?_;rotate_left
   ·refine Qbv.r (Qab (w:=wx) ?_ hT);go_simp<;>rfl
   simp only [pu];refine Qc2 (i:=5) (v:= .int .i64 (D up:Int)) rfl (by kernel_rfl) (by kernel_rfl) (by kernel_rfl) (Qzk (n:=12) (by decide) (by decide) (by kernel_rfl) rfl (fun f2 wx hT=> ?_)) ?_
   ·have c0:=HCU.out wx hT;refine Qbv.r (Qab (w:=wx) ?_ hT);go_simp
   simp only [pu];refine Qc2 (i:=6) (v:= .int .i64 ((D up+1:Nat):Int)) rfl (by kernel_rfl) (by kernel_rfl) (by kernel_rfl) (Qfk (by decide) (by decide) rfl (fun f1 f2 wx hT=> ?_)) ?_
   ·refine Qbv.r (Qab (w:=wx) ?_ hT);go_simp<;>exact HAD.out
   simp only [pu];refine Qc2 (i:=7) (v:= ?_) rfl (by kernel_rfl) (by kernel_rfl) (by kernel_rfl) (Qfk (by decide) (by decide) rfl (fun f1 f2 wx hT=> ?_)) ?_;rotate_left
   ·refine Qbv.r (Qab (w:=wx) ?_ hT);go_simp<;>rfl
   simp only [pu];refine Qc2 (i:=8) (v:=undef) rfl (by kernel_rfl) (by kernel_rfl) (by kernel_rfl) (Qzl (by decide) rfl (fun f2 wx hT=> ?_)) ?_
   ·have co:=HCO.out wx hT;have fo:=HFO.out wx hT;have K:=HPUT.out wx hT;go_simp;exact⟨rfl,K⟩
   simp only [Act.put];refine Qtn (by kernel_rfl) (fun w6 h6=> ?_) _
   exact h6
 case done=>
  rintro Z V hZ ht hcap hK;have c0:V.cell? ⟨w3.heap.size+1,0,none⟩=some (.slice (some ⟨w3.heap.size,0,none⟩) N N):=ht.v.cell 0;have hnN:=HNN.out;have bD:Below w.heap.size w (V.putObj Z (.deferred none)):=ht.b.trans (Qei _ hK (by have:=HBW.out;omega))
  have hblk:Blk (V.putObj Z (.deferred none)) w3.heap.size 3 (rI N (dpF D N N)):=(World.putObj_heap_other (by omega)).trans ht.l
  have HI:Hid (IS (some ⟨w3.heap.size,0,none⟩) n n (fun i=>(lenO c n i:Int)) (V.putObj Z (.deferred none))):=Qh (by
   have hlen:∀i,i<n→(dpF D N N i)=(lenO c n i:Int):=fun i hi=>by
    unfold dpF lenO;rw [if_pos (by omega),HDN.out i hi]
    by_cases h0:c i=0
    ·rw [if_pos h0,if_pos h0]
    ·rw [if_neg h0,if_neg h0,if_neg (by rw [←HLL.out];exact h1)]
   refine⟨(fun e=>by cases e),(fun a e i hi=> ?_),(fun a e=>by cases e;exact hblk.lt),(fun i _=>by omega),(fun i hi=> ?_)⟩
   ·cases e
    rw [Qay,Nat.zero_add,hblk.at_ (by omega),hlen i hi]
   ·rw [←hlen i hi];unfold dpF;rw [if_pos (by omega)]
    have:=HDL.out i;omega)
  have HBD:=Qh bD;clear ht hcap bD hblk
  gi_wp2_with fail
  refine⟨trivial,rfl,(Qf9 (ro:=none) (Qxh _ _ _ hnN _)).mono ?_⟩;rintro e w8 ⟨rfl,rfl⟩
  gi_wp2_with fail
  refine⟨by simp,.inl ⟨_,_,rfl,run_takeDeferred hK,?_⟩⟩
  exact⟨_,results_tmp rfl _ _ _,_,_,rfl,HI.out,HBD.out,Ql⟩
theorem Qf8 (p:Option Addr) (n cap:Nat) (c:Nat→Nat) (w:World) (h:IS p n cap (fun i=>(c i:Int)) w) (hn:n≤300) (hc:∀i,i<n→c i≤1099511627776):
  Calls Tryz.prog 121 #[.slice p n cap] w fun e w'=>∃p2 c2,e= .returned (.slice p2 n c2)∧IS p2 n c2 (fun i=>(lenO c n i:Int)) w'∧Below w.heap.size w w'∧n≤c2:=by
 by_cases h1:(nds c n).length=1
 ·exact Qkp p n cap c w h hn h1
 ·exact Qi1 p n cap c w h hn hc h1
end
def haN (c:Nat→Nat) (k j:Nat):Int:=if j<k then((Qdu c j:Nat):Int)else (c j:Int)
theorem Q0x (c:Nat→Nat) (k j:Nat):(if j=k then((Qdu c k:Nat):Int)else haN c k j)=haN c (k+1) j:=by
 unfold haN;by_cases h:j=k
 ·subst h;rw [if_pos rfl,if_pos (by omega)]
 ·rw [if_neg h];by_cases h2:j<k
  ·rw [if_pos h2,if_pos (by omega)]
  ·rw [if_neg h2,if_neg (by omega)]
theorem Qup (B:Nat) (w:World) (p:Option Addr) (n cap:Nat) (c:Nat→Nat) (w1:World) (h:OI B w p n cap (fun i=>(c i:Int)) w1) (hB:B≤w1.heap.size) (hn:n≤300) (hc:∀i,i<n→c i≤1099511627776):
  Calls Tryz.prog 122 #[.slice p n cap] w1 fun e w'=>e= .returned (.tuple #[])∧OI B w p n cap (fun i=>((Qdu c i:Nat):Int)) w'∧B≤w'.heap.size:=by
 have H0:=Qh h;have HC:=Qh hc;clear h hc;go_enter Tryz.func122,Tryz.ntmps122;go_wp2_with fail;go_loopw [2,3,6] (fun _ _ i wx=>∃k:Nat,k≤n∧i= .int .i64 (k:Int)∧Hid (OI B w p n cap (haN c k) wx)∧Hid (B≤wx.heap.size)) (fun _ _ i _=>n-(intOf i).toNat)
 case atStart=>exact⟨0,by omega,rfl,Qh (H0.out.cast fun i _=>by unfold haN;rw [if_neg (by omega)]),Qh hB⟩
 case round=>
  obtain⟨k,hk,rfl,HO,HS⟩:=hrel;clear hB;by_cases hlt:k<n
  ·obtain⟨g,rfl⟩:∃g,p=some ⟨g,0,none⟩:=by
    cases p with
    |none=>have:=(HO.out.is_.nil_ rfl).1;omega
    |some a=>exact⟨a.block,by rw [←(HO.out.form a rfl).1]⟩
   have hck:=HC.out k hlt;obtain⟨d,hd⟩:∃d,d=c k:=⟨_,rfl⟩;have hv:haN c k k=(d:Int):=by unfold haN;rw [if_neg (by omega),hd]
   have c0:=HO.out.at_ hlt;rw [hv]at c0;have f0:=HO.out.fz _ rfl k hlt;obtain⟨q,hq⟩:∃q,q=d /2:=⟨_,rfl⟩;obtain⟨r,hr⟩:∃r,r=d%2:=⟨_,rfl⟩;obtain⟨u,hu⟩:∃u,u=q+r:=⟨_,rfl⟩;have hqi:(d:Int).tdiv 2=(q:Int):=by rw [Int.tdiv_eq_ediv_of_nonneg (by omega)];omega
   have hri:(d:Int).tmod 2=(r:Int):=by rw [Int.tmod_eq_emod_of_nonneg (by omega)];omega
   have hqi2:(d:Int) /2=(q:Int):=by omega
   have hri2:(d:Int)%2=(r:Int):=by omega
   have hhv:Qdu c k=u:=by unfold Qdu;omega
   have HP:Hid (OI B w (some ⟨g,0,none⟩) n cap (haN c (k+1)) (wr.setCell ⟨g,k,none⟩ (.int .i64 (u:Int)))):=Qh (HO.out.put k (u:Int) (by omega) (by omega) (fun i _=>by rw [←hhv];exact Q0x c k i) hlt)
   have hki:(k:Int)<(n:Int):=by omega
   have hdb:d≤1099511627776:=by omega
   have huw:IntKind.i64.wrap ((q:Int)+(r:Int))=(q:Int)+(r:Int):=IntWalk.i64_in _ (by omega)
   have hqr:(q:Int)+(r:Int)=(u:Int):=by omega
   have hqw:IntKind.i64.wrap (q:Int)=(q:Int):=IntWalk.i64_in _ (by omega)
   have hwu:wrap64 (u:Int)=(u:Int):=IntWalk.wrap64_in _ (by omega)
   have HZ:Hid (B≤(wr.setCell ⟨g,k,none⟩ (.int .i64 (u:Int))).heap.size):=Qh (by simp [World.setCell];exact HS.out)
   clear hck hd hv hq hr hu hhv hdb;go_wp2_with fail;go_roundw
   case rel=>exact⟨k+1,by omega,by go_num,HP,HZ⟩
   case measure=>simp [intOf];omega
  ·obtain rfl:k=n:=by omega
   go_wp2_with fail;go_end0;exact⟨rfl,HO.out.cast fun i hi=>by unfold haN;rw [if_pos hi],HS.out⟩
theorem Q11 (f:Nat→Int) (n:Nat):allB f 1099511627776 n=okC f n:=by
 induction n with
 |zero=>rfl
 |succ n ih=>unfold allB okC;rw [ih]
theorem Qw9 (c:Nat→Nat) (n mo:Nat) (h:1≤mo):allB (fun i=>(lenO c n i:Int)) (mo:Int) n=decide (depM c n n≤mo):=by
 rw [Bool.eq_iff_iff,Qnj,decide_eq_true_eq,Qh3]
 constructor
 ·intro h1 i hi hc;have h2:=h1 i hi;unfold lenO at h2;rw [if_neg (by omega)]at h2
  by_cases h3:(nds c n).length=1
  ·unfold dep;rw [Qhd (by omega)]
   omega
  ·rw [if_neg h3]at h2;omega
 ·intro h1 i hi;unfold lenO;by_cases hc:c i=0
  ·rw [if_pos hc];omega
  ·rw [if_neg hc];have:=h1 i hi (by omega)
   split<;>omega
theorem Qe9 (p:Option Addr) (n cap:Nat) (f:Nat→Int) (most:Int) (w:World) (h:IS p n cap f w) (hn:n≤300) (l:Nat→Nat) (hl:Qu2 f n most=some l):
  Calls Tryz.prog 84 #[.slice p n cap,.int .i64 most] w fun e w'=>∃p2 c2,e= .returned (.tuple #[.slice p2 n c2,.bool true])∧IS p2 n c2 (fun i=>(l i:Int)) w'∧Below w.heap.size w w'∧n≤c2:=by
 have hcond:okC f n=true∧n≤300∧((9≤most∧most≤15)∨(most=7∧n≤19)):=by
  unfold Qu2 at hl;by_cases hc:okC f n=true∧n≤300∧((9≤most∧most≤15)∨(most=7∧n≤19))
  ·exact hc
  ·rw [if_neg hc]at hl;cases hl
 have hlv:lenV 42 (toL f) n most.toNat=some l:=by
  unfold Qu2 at hl
  rwa [if_pos hcond]at hl
 obtain⟨mo,rfl⟩:=Int.eq_ofNat_of_zero_le (show 0≤most by have:=hcond.2.2;omega)
 have hmo:1≤mo:=by have:=hcond.2.2;omega
 rw [Int.toNat_natCast]at hlv;have C:=Qc1 p n cap f 1099511627776 w h (by omega)
 rw [Q11,hcond.1]at C;have CM:=Qn3 (mo:Int) n true w ⟨fun _=>⟨hn,hcond.2.2⟩,fun _=>rfl⟩ (by omega)
 have HF:=Qh (Qhm.1 hcond.1);have HL:=Qh hlv;have hlo:=h.lo;have hhi:=h.hi;clear hcond hl hlv;go_enter Tryz.func84,Tryz.ntmps84;go_wp2_with fail;refine CM.mono ?_;intro e w1 hw1;obtain⟨rfl,e1⟩:=hw1;obtain rfl:=e1;clear CM;go_wp2_with fail;refine C.mono ?_;rintro e w2 ⟨rfl,b2⟩;clear C;have CC:=Qtx p n cap f w2 (h.below b2) (by omega)
 go_wp2_with fail;refine CC.mono ?_;rintro e w3 ⟨v3,rfl,hL3⟩;obtain⟨p3,c3,rfl,o3⟩:=hL3.oi hlo hhi;have HS3:=Qh (Nat.le_trans b2.size hL3.lo);have HO3:Hid (OI w1.heap.size w1 p3 n c3 (fun i=>(toL f i:Int)) w3):=Qh (by
  have e:OI w2.heap.size w2 p3 n c3 (fun i=>(toL f i:Int)) w3:=o3.cast fun i hi=>by have:=HF.out i hi;unfold toL;omega
  exact⟨e.is_,(fun a ha=>⟨(e.form a ha).1,Nat.le_trans b2.size (e.form a ha).2⟩),e.fz,b2.trans (e.b.mono b2.size)⟩)
 have HB3:Hid (∀i,i<n→toL f i≤1099511627776):=Qh fun i hi=>by have:=HF.out i hi;unfold toL;omega
 clear CC hL3 o3 hlo hhi h b2 HF;have CT:=Qf8 p3 n c3 (toL f) w3 HO3.out.is_ hn HB3.out;go_wp2_with fail;refine CT.mono ?_;rintro e w4 ⟨p4,c4,rfl,i4,b4,k4⟩;have HK4:=Qh k4;clear k4;clear CT;go_wp2_with fail;go_loopg [6] 42 (fun gk v wr=>∃(t:Nat) (c:Nat→Nat) (p5:Option Addr) (c5:Nat),gk=t∧v= .slice p5 n c5∧Hid (n≤c5)∧Hid (lenV t c n mo=some l)∧Hid (∀i,i<n→c i≤1099511627776)∧Hid (OI w1.heap.size w1 p3 n c3 (fun i=>(c i:Int)) wr)∧Hid (IS p5 n c5 (fun i=>(lenO c n i:Int)) wr)∧Hid (w1.heap.size≤wr.heap.size))
 case atStart=>exact⟨42,toL f,p4,c4,rfl,rfl,HK4,HL,HB3,Qh (HO3.out.below b4 HS3.out),Qh i4,Qh (Nat.le_trans HS3.out b4.size)⟩
 case round=>
  obtain⟨t,c,p5,c5,hgk,rfl,HK5,HV,HB,HO,HI,HS⟩:=hrel;have HG:=Qh hgk;clear hgk i4 b4 HL HS3 HO3 HB3;have CW:=Qc1 p5 n c5 (fun i=>(lenO c n i:Int)) (mo:Int) wr HI.out (by omega)
  rw [Qw9 c n mo hmo]at CW;cases t with
  |zero=>have:=HV.out;simp [lenV]at this
  |succ t=>
   by_cases hle:depM c n n≤mo
   ·rw [decide_eq_true hle]at CW;have HE:Hid (lenO c n=l):=Qh (by have:=HV.out;unfold lenV at this;rw [if_pos hle]at this;exact Option.some.inj this)
    clear hle;go_wp2_with fail;refine CW.mono ?_;rintro e w6 ⟨rfl,b6⟩;have HI6:=Qh (HI.out.below b6);have HB6:=Qh (HO.out.b.trans (b6.mono HS.out));clear CW b6;go_wp2_with fail;go_ret2;rw [←HE.out];exact⟨p5,c5,rfl,HI6.out,HB6.out,HK5.out⟩
   ·rw [decide_eq_false hle]at CW;have HV2:Hid (lenV t (Qdu c) n mo=some l):=Qh (by have:=HV.out;unfold lenV at this;rw [if_neg hle]at this;exact this)
    clear hle;go_wp2_with fail;refine CW.mono ?_;rintro e w6 ⟨rfl,b6⟩;have HS6:Hid (w1.heap.size≤w6.heap.size):=Qh (Nat.le_trans HS.out b6.size);have CH:=Qup w1.heap.size w1 p3 n c3 c w6 (HO.out.below b6 HS.out) HS6.out hn HB.out;clear CW b6;go_wp2_with fail;refine CH.mono ?_;rintro e w7 ⟨rfl,o7,s7⟩;have HO7:=Qh o7;have HS7:=Qh s7;have HB7:Hid (∀i,i<n→Qdu c i≤1099511627776):=Qh fun i hi=>by have:=HB.out i hi;unfold Qdu;omega
    clear CH o7 s7;have CT2:=Qf8 p3 n c3 (Qdu c) w7 HO7.out.is_ hn HB7.out;go_wp2_with fail;refine CT2.mono ?_;rintro e w8 ⟨p8,c8,rfl,i8,b8,k8⟩;have HK8:=Qh k8;have HI8:=Qh i8;have HO8:=Qh (HO7.out.below b8 HS7.out);have HS8:Hid (w1.heap.size≤w8.heap.size):=Qh (Nat.le_trans HS7.out b8.size);clear CT2 i8 b8 k8;go_wp2_with fail;go_roundg t
    case measure=>have:=HG.out;omega
    case rel=>exact⟨t,Qdu c,p8,c8,rfl,rfl,HK8,HV2,HB7,HO8,HI8,HS8⟩
end Go.Proofs.YtbmcjdoiohcaaaaGreat
