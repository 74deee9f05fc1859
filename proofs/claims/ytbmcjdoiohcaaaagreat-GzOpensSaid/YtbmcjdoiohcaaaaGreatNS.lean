/- NS -/
import Derived.Laws.OwnMore
import Derived.Test.YtbmcjdoiohcaaaaGreatNP
set_option maxRecDepth 100000
set_option maxHeartbeats 16000000
namespace Go.Proofs.YtbmcjdoiohcaaaaGreat
open Go.RowKit
theorem Qd5 (f:Nat→Int) (n:Nat):Qam f (n+1)=Qam f n++[f n]:=by simp [Qam,List.range_succ]
theorem Qed {ops:Array Oper} {rest:List Oper} {o:Oper} {a:Act} {Q:Exit→Act→World→Prop} {B:Nat} {w0 w:World} {l:List Int} {v:Value} (hgd:o.guard=none) (s x:Operand)
  (ho:o.op= .call {callee:= .builtin .append,args:=#[s,x],argTypes:=#[92,92]}) (hs:a.eval s=v) (h:LI B w0 l v w) (y:Int)
  (hx:a.eval x= .slice (some ⟨w.heap.size,0,none⟩) 1 1) (hn:l.length≤1000)
  (k:∀v' w',LI B w0 (l++[y]) v' w'→wpList Tryz.prog ops Q rest (a.put o.dst v') w'):
  wpList Tryz.prog ops Q (o::rest) a (w.alloc (.cells #[.int .i64 y] 3)):=by
 have hb:Below w.heap.size w (w.alloc (.cells #[.int .i64 y] 3)):=Qb.alloc Ql _;have h2:=h.below hb;obtain⟨i0,hi,hz0,hz1,hz2⟩:=info_parts Qca;refine wpList_append_own _ hgd s x 92 ho B 3 i0 (.int .i64 0) 1 8 Tryz.underlying92 hi hz0 hz1 hz2 rfl (by decide) v l.length _ hs h2.own ⟨w.heap.size,0,none⟩ 1 1 [.int .i64 y] hx rfl ?_ ?_ ?_ ?_ h2.lo ?_
 ·intro j u hu;cases j with
  |zero=>
   cases hu
   rw [Qay,Nat.zero_add,cell_of_row _ _ 0 _ _ (0,0) (heap_alloc_new w _)];rfl
  |succ j=>cases hu
 ·intro u hu;rw [List.mem_singleton.1 hu];rfl
 ·unfold maxLen;omega
 ·omega
 ·intro v' w2 hown hg _;refine k v' w2 ⟨?_,?_,Nat.le_trans h2.lo hg.size⟩
  ·rw [List.length_append,List.map_append];exact hown
  ·refine h2.b.grown hg h2.lo fun k e=> ?_;rcases h.own.2 with⟨h3,_⟩|⟨g,cap,cur,h3,h4,_⟩
   ·rw [h3]at e;cases e
   ·rw [h3]at e;cases e;exact h4
def fixF (i:Nat):Int:=if 143<i∧i<256 then 9 else if 255<i∧i<280 then 7 else 8
theorem Q0q:∀i:Fin 288,((fixA.getD i.val 0:Nat):Int)=fixF i.val:=by decide+kernel
theorem Qof (w:World):
  Calls Tryz.prog 43 #[] w fun e w'=>∃p1 c1 p2 c2,e= .returned (.tuple #[.slice p1 288 c1,.slice p2 32 c2])∧IS p1 288 c1 fixF w'∧IS p2 32 c2 (fun _=>5) w'∧Below w.heap.size w w'∧(∀a,p1=some a→w.heap.size≤a.block)∧∀a,p2=some a→w.heap.size≤a.block:=by
 go_enter Tryz.func43,Tryz.ntmps43
 go_wp2_with fail;go_loopw [2,3,4] (fun v i _ wr=>∃k:Nat,k≤288∧i= .int .i64 (k:Int)∧LI w.heap.size w (Qam fixF k) v wr) (fun _ i _ _=>288-(intOf i).toNat)
 case atStart=>exact⟨0,by omega,rfl,LI.nil Qb Ql⟩
 case round=>
  obtain⟨k,hk,rfl,hl⟩:=hrel;by_cases hlt:k<288
  ·have hlti:(k:Int)<288:=by omega
   have hk1:IntKind.i64.wrap ((k:Int)+1)=((k+1:Nat):Int):=by rw [IntWalk.i64_in _ (by omega)];rfl
   have hor:(¬(k:Int)>143∧¬(k:Int)>255∧fixF k=8)∨((k:Int)>143∧(k:Int)<256∧¬(k:Int)>255∧fixF k=9)∨((k:Int)>143∧¬(k:Int)<256∧(k:Int)>255∧(k:Int)<280∧fixF k=7)∨((k:Int)>143∧¬(k:Int)<256∧(k:Int)>255∧¬(k:Int)<280∧fixF k=8):=by
    unfold fixF;rcases(show k<144∨(144≤k∧k<256)∨(256≤k∧k<280)∨280≤k by omega)with h|h|h|h
    ·exact .inl ⟨by omega,by omega,by rw [if_neg (by omega),if_neg (by omega)]⟩
    ·exact .inr (.inl ⟨by omega,by omega,by omega,by rw [if_pos (by omega)]⟩)
    ·exact .inr (.inr (.inl ⟨by omega,by omega,by omega,by omega,by rw [if_neg (by omega),if_pos (by omega)]⟩))
    ·exact .inr (.inr (.inr ⟨by omega,by omega,by omega,by omega,by rw [if_neg (by omega),if_neg (by omega)]⟩))
   rcases hor with⟨h1,h2,h3⟩|⟨h1,h2,h3,h4⟩|⟨h1,h2,h3,h4,h5⟩|⟨h1,h2,h3,h4,h5⟩
   ·have HF:=Qh h3;clear h3;go_wp2_with (at_builtin;refine Qed rfl (.tmp 23) (.tmp 25) rfl rfl hl 8 rfl (by rw [Qaq];omega) ?_;intro v2 w2 hL)
    exact⟨⟨k+1,by omega,rfl,by rw [Qd5,HF.out];exact hL⟩,by simp only [intOf];omega⟩
   ·have HF:=Qh h4;clear h4;go_wp2_with (at_builtin;refine Qed rfl (.tmp 23) (.tmp 25) rfl rfl hl 9 rfl (by rw [Qaq];omega) ?_;intro v2 w2 hL)
    exact⟨⟨k+1,by omega,rfl,by rw [Qd5,HF.out];exact hL⟩,by simp only [intOf];omega⟩
   ·have HF:=Qh h5;clear h5;go_wp2_with (at_builtin;refine Qed rfl (.tmp 23) (.tmp 25) rfl rfl hl 7 rfl (by rw [Qaq];omega) ?_;intro v2 w2 hL)
    exact⟨⟨k+1,by omega,rfl,by rw [Qd5,HF.out];exact hL⟩,by simp only [intOf];omega⟩
   ·have HF:=Qh h5;clear h5;go_wp2_with (at_builtin;refine Qed rfl (.tmp 23) (.tmp 25) rfl rfl hl 8 rfl (by rw [Qaq];omega) ?_;intro v2 w2 hL)
    exact⟨⟨k+1,by omega,rfl,by rw [Qd5,HF.out];exact hL⟩,by simp only [intOf];omega⟩
  ·obtain rfl:k=288:=by omega
   have hbnd:∀i,i<288→-9223372036854775808≤fixF i∧fixF i<9223372036854775808:=fun i _=>by unfold fixF;split;omega;split<;>omega
   obtain⟨p1,c1,rfl,i1,hp1⟩:=hl.is (fun i hi=>(hbnd i hi).1) (fun i hi=>(hbnd i hi).2);have b1:=hl.b;clear hl hbnd;rw [show ((288:Nat):Int)=288 from rfl];go_wp2_with fail;go_loopw [5,6] (fun v i wx=>∃k:Nat,k≤32∧i= .int .i64 (k:Int)∧LI wr.heap.size wr (Qam (fun _=>5) k) v wx) (fun _ i _=>32-(intOf i).toNat)
   case atStart=>exact⟨0,by omega,rfl,LI.nil Qb Ql⟩
   case round=>
    obtain⟨k,hk,rfl,hl⟩:=hrel;by_cases hlt:k<32
    ·have hlti:(k:Int)<32:=by omega
     go_wp2_with (at_builtin;refine Qed rfl (.tmp 31) (.tmp 32) rfl rfl hl 5 rfl (by rw [Qaq];omega) ?_;intro v2 w2 hL)
     go_roundw
     case rel=>exact⟨k+1,by omega,rfl,by rw [Qd5];exact hL⟩
     case measure=>simp [intOf];omega
    ·obtain rfl:k=32:=by omega
     obtain⟨p2,c2,rfl,i2,hp2⟩:=hl.is (fun i hi=>by omega) (fun i hi=>by omega)
     have b2:=hl.b;clear hl;go_wp2_with fail;go_ret2;exact⟨p1,c1,p2,c2,rfl,i1.below b2,i2,b1.trans (b2.mono b1.size),hp1,fun a ha=>Nat.le_trans b1.size (hp2 a ha)⟩
theorem Qiu (w:World):
  Calls Tryz.prog 73 #[] w fun e w'=>e= .returned (.slice (some ⟨w.heap.size,0,none⟩) 19 19)∧IS (some ⟨w.heap.size,0,none⟩) 19 19 (fun i=>((ordL.getD i 0:Nat):Int)) w'∧Below w.heap.size w w':=by
 have hb:=(Below.refl _ w).alloc Ql (.cells #[.int .i64 16,.int .i64 17,.int .i64 18,.int .i64 0,.int .i64 8,.int .i64 7,.int .i64 9,.int .i64 6,.int .i64 10,.int .i64 5,.int .i64 11,.int .i64 4,.int .i64 12,.int .i64 3,.int .i64 13,.int .i64 2,.int .i64 14,.int .i64 1,.int .i64 15] 3);have hk:=Blk.new w 3 #[.int .i64 16,.int .i64 17,.int .i64 18,.int .i64 0,.int .i64 8,.int .i64 7,.int .i64 9,.int .i64 6,.int .i64 10,.int .i64 5,.int .i64 11,.int .i64 4,.int .i64 12,.int .i64 3,.int .i64 13,.int .i64 2,.int .i64 14,.int .i64 1,.int .i64 15];go_enter Tryz.func73,Tryz.ntmps73;go_wp2_with fail;go_ret;have hO:∀i:Fin 19,ordL.getD i.val 0≤18:=by decide
 refine⟨rfl,⟨(fun e=>by cases e),fun a ha i hi=> ?_,(fun a ha=>by cases ha;exact hk.lt),fun i hi=>by have:=hO ⟨i,hi⟩;omega,fun i hi=>by have:=hO ⟨i,hi⟩;simp only at this;omega⟩,hb⟩
 cases ha
 rw [Qay,Nat.zero_add];refine(hk.cell i).trans ?_;rcases(show i=0∨i=1∨i=2∨i=3∨i=4∨i=5∨i=6∨i=7∨i=8∨i=9∨i=10∨i=11∨i=12∨i=13∨i=14∨i=15∨i=16∨i=17∨i=18 by omega)with rfl|rfl|rfl|rfl|rfl|rfl|rfl|rfl|rfl|rfl|rfl|rfl|rfl|rfl|rfl|rfl|rfl|rfl|rfl
 all_goals rfl
theorem Qx8 (n:Int):bits .and .i64 n 1=n%2:=by
 have h7:(BitVec.ofInt 64 1).toNat=2^1-1:=by decide
 have key:(BitVec.ofInt 64 n&&&BitVec.ofInt 64 1).toNat=(n%((2^64:Nat):Int)).toNat%2^1:=by
  rw [BitVec.toNat_and,BitVec.toNat_ofInt,h7,Nat.and_two_pow_sub_one_eq_mod]
 show IntKind.i64.wrap ((BitVec.ofInt 64 n&&&BitVec.ofInt 64 1).toNat:Nat)=n%2
 rw [key,IntKind.wrap_i64];omega
theorem Qvk:∀r:Fin 8,∀x:Fin 256,∀b:Fin 2,x.val<2^r.val→bits .or .u8 (x.val:Int) ((b.val*2^r.val:Nat):Int)=((x.val+b.val*2^r.val:Nat):Int):=by decide+kernel
theorem Qrm {V A:Nat} (h:V<2^A):V /256^(A /8)%256<2^(A%8):=by
 have h1:V /256^(A /8)<2^(A%8):=by
  rw [Nat.div_lt_iff_lt_mul (Nat.pow_pos (by decide)),Qfy,←Nat.pow_add,show A%8+8*(A /8)=A by omega];exact h
 exact Nat.lt_of_le_of_lt (Nat.mod_le _ _) h1
structure OW (g N n:Nat) (v:Value) (w:World):Prop where
 blk:Blk w g 66 #[v,.int .i64 (n:Int)]
 own:w.ownsRow (g+1) 5 1 v ((n+7) /8) (byN N ((n+7) /8))
 lt:N<2^n
structure OM (g N A C q cap:Nat) (w:World):Prop where
 blk:Blk w g 66 #[.slice (some ⟨q,0,none⟩) C cap,.int .i64 (A:Int)]
 own:w.ownsRow (g+1) 5 1 (.slice (some ⟨q,0,none⟩) C cap) C (byN N C)
theorem Qly {N c i:Nat} (h:i<c):(byN N c)[i]? =some (.int .u8 ((N /256^i%256:Nat):Int)):=by
 unfold byN;rw [List.getElem?_map,List.getElem?_range h];rfl
theorem Qo8 (N c:Nat):(byN N c).length=c:=by simp [byN]
theorem OM.last {g N A C q cap Q:Nat} {w:World} (h:OM g N A C q cap w) (hQ:Q<C):w.cell? ⟨q,Q,none⟩=some (.int .u8 ((N /256^Q%256:Nat):Int)):=by
 rw [h.own.cellAt Q (by omega),Qly hQ]
theorem OM.q_gt {g N A C q cap:Nat} {w:World} (h:OM g N A C q cap w):g<q:=(World.ownsRow.lt h.own q rfl).1
theorem Qz9 {N A b:Nat} (hN:N<2^A) (hb:b<2):(byN N (A /8+1)).set (A /8) (.int .u8 ((N /256^(A /8)%256+b*2^(A%8):Nat):Int))=byN (N+2^A*b) (A /8+1):=by
 apply List.ext_getElem?
 intro i;have hA:2^A*b=256^(A /8)*(b*2^(A%8)):=by
  rw [Qfy,Nat.mul_comm b,←Nat.mul_assoc,←Nat.pow_add,show 8*(A /8)+A%8=A by omega]
 rcases Nat.lt_trichotomy i (A /8)with h|h|h
 ·rw [List.getElem?_set_ne (by omega),Qly (by omega),Qly (by omega)]
  congr 3
  obtain⟨k,hk⟩:∃k,A /8=i+(k+1):=⟨A /8-i-1,by omega⟩
  rw [hA,hk,Nat.pow_add,Nat.mul_assoc,Nat.add_mul_div_left _ _ (Nat.pow_pos (by decide)),Nat.pow_succ',Nat.mul_assoc,Nat.add_mul_mod_self_left]
 ·subst h;rw [List.getElem?_set_self (by rw [Qo8];omega),Qly (by omega)]
  congr 3
  have h1:N /256^(A /8)<2^(A%8):=by
   rw [Nat.div_lt_iff_lt_mul (Nat.pow_pos (by decide)),Qfy,←Nat.pow_add,show A%8+8*(A /8)=A by omega];exact hN
  have h2:2^(A%8)≤128:=by
   have:2^(A%8)≤2^7:=Nat.pow_le_pow_right (by decide) (by omega)
   omega
  have h3:b*2^(A%8)≤2^(A%8):=by
   have:b=0∨b=1:=by omega
   rcases this with e|e
   ·rw [e,Nat.zero_mul];exact Nat.zero_le _
   ·rw [e,Nat.one_mul];exact Ql
  rw [hA,Nat.add_mul_div_left _ _ (Nat.pow_pos (by decide))]
  generalize N /256^(A /8)=G at*;generalize b*2^(A%8)=G2 at*;generalize 2^(A%8)=G3 at*;omega
 ·rw [List.getElem?_eq_none (by rw [List.length_set,Qo8];omega),List.getElem?_eq_none (by rw [Qo8];omega)]
theorem OM.next {g N A C q cap b:Nat} {w:World} (h:OM g N A C q cap w) (hC:C=A /8+1) (hN:N<2^A) (hb:b<2):
  OW g (N+2^A*b) (A+1) (.slice (some ⟨q,0,none⟩) C cap) ((w.drew.setCell ⟨q,A /8,none⟩ (.int .u8 ((N /256^(A /8)%256+b*2^(A%8):Nat):Int))).setCell ⟨g,1,none⟩ (.int .i64 ((A+1:Nat):Int))):=by
 have h1:=(h.own.drew.stored (A /8) (.int .u8 ((N /256^(A /8)%256+b*2^(A%8):Nat):Int))).1;rw [hC,Qz9 hN hb]at h1;refine⟨(h.blk.drew.far (p:=⟨q,A /8,none⟩) (by have:g<q:=h.q_gt;show g≠q;omega) _).set_ 1 _,?_,?_⟩
 ·rw [show (A+1+7) /8=A /8+1 by omega,hC]
  exact ownsRow_setCell_below h1 (show g<g+1 by omega) _
 ·have:b=0∨b=1:=by omega
  rw [Nat.pow_succ];rcases this with e|e<;>rw [e]<;>omega
theorem Gg.far_own {g q:Nat} {v v':Value} {w w':World} (h:Gg g v w v' w') (ho:v'.ownBlock=some q) (_hq:g<q) (j:Nat) (u:Value):Gg g v w v' (w'.setCell ⟨q,j,none⟩ u):=
 ⟨h.os,h.tape,h.output,by simp [World.setCell];exact h.size,fun i hi hg hv=>(Below.heap_setCell w' ⟨q,j,none⟩ u i (show i≠q from fun e=>by
  rcases h.own q ho with h1|h1
  ·exact hv (e▸h1)
  ·omega)).trans (h.block i hi hg hv),h.own⟩
theorem OW.to {g N n:Nat} {v:Value} {w:World} (h:OW g N n v w) (hr:n%8≠0):∃q cap,v= .slice (some ⟨q,0,none⟩) (n /8+1) cap∧OM g N n (n /8+1) q cap w:=by
 have e:(n+7) /8=n /8+1:=by omega
 have ho:=h.own;rw [e]at ho;obtain⟨q,cap,cur,h1,h2,h3,h4⟩:=(ho.2.resolve_left (fun hh=>by simp at hh))
 subst h1;exact⟨q,cap,rfl,h.blk,ho⟩
theorem OW.ls {g N n:Nat} {v:Value} {w:World} (h:OW g N n v w):LS 5 1 (g+1) w ((List.range ((n+7) /8)).map fun i=>encB ((N /256^i%256:Nat):Int)) v w:=by
 refine⟨?_,fun x hx=> ?_,Below.refl _ _,h.blk.lt⟩
 ·rw [List.length_map,List.length_range];have e:((List.range ((n+7) /8)).map fun i=>encB ((N /256^i%256:Nat):Int)).flatten=byN N ((n+7) /8):=by
   unfold byN;generalize (n+7) /8=c
   induction c with
   |zero=>rfl
   |succ c ih=>rw [List.range_succ,List.map_append,List.flatten_append,ih,List.map_append];rfl
  rw [e];exact h.own
 ·obtain⟨i,_,rfl⟩:=List.mem_map.1 hx;exact Q19 _ _ (.head _)
theorem LS.own_form {E:TypeId} {z B:Nat} {w0 w:World} {l:List (List Value)} {v:Value} (h:LS E z B w0 l v w) {c:Nat} (hl:l.length=c+1):∃q cap,v= .slice (some ⟨q,0,none⟩) (c+1) cap:=by
 have ho:=h.own;rw [hl]at ho;obtain⟨q,cap,cur,h1,h2,h3,h4⟩:=(ho.2.resolve_left (fun hh=>by simp at hh))
 exact⟨q,cap,h1⟩
theorem Gg.of_gr {g:Nat} {v v':Value} {w w':World} (h:Gr v w v' w'):Gg g v w v' w':=⟨h.os,h.tape,h.output,h.size,fun i hi _ hv=>h.block i hi hv,h.own⟩
theorem Qtt {N A:Nat} (h:N<2^A) (h8:A /8*8=A):byN N (A /8+1)=byN N (A /8)++[.int .u8 0]:=by
 rw [Qqw,Qfy,show 8*(A /8)=A by omega,Nat.div_eq_of_lt h];rfl
theorem Qxb (N c:Nat):((List.range c).map fun i=>encB ((N /256^i%256:Nat):Int)).flatten=byN N c:=by
 unfold byN
 induction c with
 |zero=>rfl
 |succ c ih=>rw [List.range_succ,List.map_append,List.flatten_append,ih,List.map_append];rfl
theorem OW.grown {g N A q cap:Nat} {v:Value} {w w':World} (h:OW g N A v w) (h8:A /8*8=A) (hg:Gr v w (.slice (some ⟨q,0,none⟩) (A /8+1) cap) w') (hl:LS 5 1 (g+1) w (((List.range ((A+7) /8)).map fun i=>encB ((N /256^i%256:Nat):Int))++[encB 0]) (.slice (some ⟨q,0,none⟩) (A /8+1) cap) w'):
  OM g N A (A /8+1) q cap (w'.setCell ⟨g,0,none⟩ (.slice (some ⟨q,0,none⟩) (A /8+1) cap)):=by
 have hb:=h.blk.gr hg (fun e=>by have:=(World.ownsRow.lt h.own _ e).1;omega)
 have ho:=hl.own;rw [List.length_append,List.length_map,List.length_range,List.flatten_append,Qxb,show(A+7) /8=A /8 by omega]at ho
 have e2:byN N (A /8)++[encB 0].flatten=byN N (A /8+1):=by rw [Qtt h.lt h8];rfl
 rw [e2]at ho;exact⟨hb.set_ 0 _,ownsRow_setCell_below ho (show g<g+1 by omega) _⟩
theorem Qbd (g N n:Nat) (v:Value) (x k:Nat) (w:World) (h0:OW g N n v w) (hx:x≤1000000000) (hk:k≤60) (hn:n≤1000000000000):
  Calls Tryz.prog 62 #[.pointer (some ⟨g,0,none⟩),.int .i64 (x:Int),.int .i64 (k:Int)] w fun e w'=>e= .returned (.tuple #[])∧∃v',OW g (N+2^n*(x%2^k)) (n+k) v' w'∧Gg g v w v' w':=by
 have HB:=Qh (⟨hx,hk,hn⟩:x≤1000000000∧k≤60∧n≤1000000000000);have H0:Hid (OW g (N+2^n*(x%2^0)) (n+0) v w∧Gg g v w v w):=Qh ⟨by rw [Nat.pow_zero,Nat.mod_one,Nat.mul_zero,Nat.add_zero];exact h0,Gg.refl _ _ _⟩
 clear h0 hx hk hn;go_enter Tryz.func62,Tryz.ntmps62;go_wp2_with fail;go_loopw [6] (fun i wr=>∃(j:Nat) (v':Value),i= .int .i64 (j:Int)∧j≤k∧Hid (OW g (N+2^n*(x%2^j)) (n+j) v' wr)∧Hid (Gg g v w v' wr)) (fun i _=>k-(intOf i).toNat)
 case atStart=>exact⟨0,_,rfl,Nat.zero_le _,Qh H0.out.1,Qh H0.out.2⟩
 case round=>
  obtain⟨j,v',rfl,hj,HO,HG⟩:=hrel;clear H0;by_cases hlt:j<k
  ·have hlti:(j:Int)<(k:Int):=by omega
   have hjw:IntKind.i64.wrap ((j:Int)+1)=((j+1:Nat):Int):=by have:=HB.out;rw [IntWalk.i64_in _ (by omega)];rfl
   obtain⟨A,hA⟩:∃A,A=n+j:=⟨_,rfl⟩;obtain⟨V,hV⟩:∃V,V=N+2^n*(x%2^j):=⟨_,rfl⟩;obtain⟨X,hX⟩:∃X,X=x /2^j:=⟨_,rfl⟩;obtain⟨b,hb⟩:∃b,b=X%2:=⟨_,rfl⟩;have HBIT:Hid (b<2∧V+2^A*b=N+2^n*(x%2^(j+1))):=Qh ⟨by omega,by
    rw [hV,hA,hb,hX,Nat.mod_pow_succ,Nat.mul_add,Nat.pow_add,←Nat.mul_assoc,Nat.add_assoc]⟩
   have HAN:Hid (A≤2000000000000):=Qh (by have:=HB.out;omega)
   have HAJ:=Qh hA;rw [←hA,←hV]at HO;have HV:=Qh HO.out.lt;have hmin64:min j 64=j:=by have:=HB.out;omega
   have hXe:(x:Int) /2^j=(X:Int):=by rw [hX,Int.natCast_ediv,Int.natCast_pow];rfl
   have hand:bits .and .i64 (X:Int) 1=(b:Int):=by rw [Qx8];omega
   have hj0:¬(j:Int)<0:=by omega
   have HJ:=Qh hlt;have ca:=HO.out.blk.cell 1;have cb:=HO.out.blk.cell 0;obtain⟨r0,hr0⟩:∃r0,r0=A%8:=⟨_,rfl⟩;have hr1:(A:Int).tmod 8=(r0:Int):=by rw [Int.tmod_eq_emod_of_nonneg (by omega)];omega
   have hr1w:IntKind.i64.wrap (r0:Int)=(r0:Int):=IntWalk.i64_in _ (by omega)
   clear hX hb hV hA hlt;by_cases hr:r0=0
   ·subst hr;have HL:=Qh HO.out.ls;have hA8:(A+7) /8=A /8∧A /8*8=A:=by omega
    have HLN:Hid (((List.range ((A+7) /8)).map fun i=>encB ((V /256^i%256:Nat):Int)).length≤999999999999):=Qh (by rw [List.length_map,List.length_range];have:=HAN.out;omega)
    have HA8:=Qh hA8;clear hA8 hr0;go_wp2_with (at_builtin;refine Qqj rfl (.tmp 22) (.tmp 23) 25 rfl rfl rfl HL.out 0 rfl HLN.out ?_;intro v9 w9 h9 g9;obtain⟨q,cap,rfl⟩:=h9.own_form (c:=A /8) (by rw [List.length_append,List.length_map,List.length_range];have:=HA8.out;show(A+7) /8+1=_;omega);have HM:=Qh (HO.out.grown HA8.out.2 g9 h9);have HGA:Hid (Gg g v w (.slice (some ⟨q,0,none⟩) (A /8+1) cap) (w9.setCell ⟨g,0,none⟩ (.slice (some ⟨q,0,none⟩) (A /8+1) cap))):=Qh ((HG.out.trans (Gg.of_gr g9)).set 0 _);have d0:=(HO.out.blk.gr g9 (fun e=>by have:=(HL.out.ownB _ e).1;omega)).cell 0;have e0:=(HO.out.blk.gr g9 (fun e=>by have:=(HL.out.ownB _ e).1;omega)).frozen 0;clear h9 g9)
    obtain⟨C,hC⟩:∃C,C=A /8+1:=⟨_,rfl⟩;have HC:=Qh hC;rw [←hC]at HM HGA⊢;have HQW:Hid (g≠q∧g<q):=Qh (by have:g<q:=HM.out.q_gt;omega)
    clear hC HL HLN HO HG d0 e0 ca cb HA8 hr1 hr1w;generalize w9.setCell ⟨g,0,none⟩ (.slice (some ⟨q,0,none⟩) C cap)=wa at HM HGA⊢;obtain⟨Q,hQ⟩:∃Q,Q=A /8:=⟨_,rfl⟩;obtain⟨R,hR⟩:∃R,R=A%8:=⟨_,rfl⟩;obtain⟨y,hy⟩:∃y,y=V /256^Q%256:=⟨_,rfl⟩;have hya:y<2^R:=by rw [hy,hQ,hR];exact Qrm HV.out
    have hR8:R<8:=by omega
    have hpw:2^R≤128:=by
     have:2^R≤2^7:=Nat.pow_le_pow_right (by decide) (by omega)
     omega
    obtain⟨W8,hW8⟩:∃W8,W8=b*2^R:=⟨_,rfl⟩;have hb2:b=0∨b=1:=by have:=HBIT.out.1;omega
    have hWl:W8≤128:=by rcases hb2 with h|h<;>rw [hW8,h]<;>omega
    have hor:bits .or .u8 (y:Int) (W8:Int)=((y+W8:Nat):Int):=by rw [hW8];exact Qvk ⟨R,hR8⟩ ⟨y,by omega⟩ ⟨b,HBIT.out.1⟩ hya
    have hz1:(A:Int).tdiv 8=(Q:Int):=by rw [Int.tdiv_eq_ediv_of_nonneg (by omega)];omega
    have hR1:(A:Int).tmod 8=(R:Int):=by rw [Int.tmod_eq_emod_of_nonneg (by omega)];omega
    have hQw:IntKind.i64.wrap (Q:Int)=(Q:Int):=by have:=HAN.out;exact IntWalk.i64_in _ (by omega)
    have hRw:IntKind.i64.wrap (R:Int)=(R:Int):=IntWalk.i64_in _ (by omega)
    have hAw:IntKind.i64.wrap ((A:Int)+1)=((A+1:Nat):Int):=by have:=HAN.out;rw [IntWalk.i64_in _ (by omega)];rfl
    have hww:IntKind.u8.wrap (W8:Int)=(W8:Int):=IntWalk.u8_in _ (by omega)
    have hsh2:(b:Int)*2^R=(W8:Int):=by rw [hW8,Int.natCast_mul,Int.natCast_pow];rfl
    have hmin8:min R 8=R:=by omega
    have hbu:IntKind.u8.wrap (b:Int)=(b:Int):=by have:=HBIT.out.1;exact IntWalk.u8_in _ (by omega)
    have hQC:(Q:Int)<(C:Int):=by have:=HC.out;omega
    have hQC2:Q<C:=by have:=HC.out;omega
    have hyw:IntKind.u8.wrap ((y+W8:Nat):Int)=((y+W8:Nat):Int):=IntWalk.u8_in _ (by omega)
    obtain⟨T,hTd⟩:∃T:Bool→World→Prop,T=fun b wx=>(b=false→wx=wa.drew)∧(b=true→wx=wa.drew.setCell ⟨q,Q,none⟩ (.int .u8 ((y+W8:Nat):Int))):=⟨_,rfl⟩;have HT0:Hid (∀wx,T false wx→wx.cell? ⟨g,0,none⟩=some (.slice (some ⟨q,0,none⟩) C cap)∧wx.cell? ⟨g,1,none⟩=some (.int .i64 (A:Int))∧wx.cell? ⟨q,Q,none⟩=some (.int .u8 (y:Int))∧wx.frozen? ⟨q,Q,none⟩=false∧T true (wx.setCell ⟨q,Q,none⟩ (.int .u8 ((y+W8:Nat):Int)))):=Qh fun wx h=>by
     rw [hTd]at h⊢;have e:=h.1 rfl;subst e;exact⟨HM.out.blk.cell 0,HM.out.blk.cell 1,by rw [hy];exact HM.out.last hQC2,HM.out.own.frozenAt Q,fun h=>(by cases h),fun _=>rfl⟩
    have HT1:Hid (∀wx,T true wx→wx=wa.drew.setCell ⟨q,Q,none⟩ (.int .u8 ((y+W8:Nat):Int))):=Qh fun wx h=>by rw [hTd]at h;exact h.2 rfl
    have HTS:Hid (T false wa.drew):=Qh (by rw [hTd];exact⟨fun _=>rfl,fun h=>(by cases h)⟩)
    have HN:Hid (OW g (N+2^n*(x%2^(j+1))) (n+(j+1)) (.slice (some ⟨q,0,none⟩) C cap) ((wa.drew.setCell ⟨q,Q,none⟩ (.int .u8 ((y+W8:Nat):Int))).setCell ⟨g,1,none⟩ (.int .i64 ((A+1:Nat):Int)))):=Qh (by
     rw [←HBIT.out.2,show n+(j+1)=A+1 by have:=HAJ.out;omega,hy,hW8,hR,hQ]
     exact HM.out.next HC.out HV.out HBIT.out.1)
    have HG2:Hid (Gg g v w (.slice (some ⟨q,0,none⟩) C cap) ((wa.drew.setCell ⟨q,Q,none⟩ (.int .u8 ((y+W8:Nat):Int))).setCell ⟨g,1,none⟩ (.int .i64 ((A+1:Nat):Int)))):=Qh ((HGA.out.drew.far_own (rfl:(Value.slice (some ⟨q,0,none⟩) C cap).ownBlock=some q) HQW.out.2 Q _).set 1 _);have HCA:Hid ((wa.drew.setCell ⟨q,Q,none⟩ (.int .u8 ((y+W8:Nat):Int))).cell? ⟨g,1,none⟩=some (.int .i64 (A:Int))∧(wa.drew.setCell ⟨q,Q,none⟩ (.int .u8 ((y+W8:Nat):Int))).frozen? ⟨g,1,none⟩=false):=Qh ⟨((HM.out.blk.drew.far (p:=⟨q,Q,none⟩) HQW.out.1 _).cell 1),((HM.out.blk.drew.far (p:=⟨q,Q,none⟩) HQW.out.1 _).frozen 1)⟩;clear hTd hQ hR hy hya hW8 hb2 hpw;refine Qad (Two 33 1001 fun b _ wx=>T b wx) (by kernel_rfl) HTS.out ?_
    refine tA (i:=0) rfl rfl ?_;simp only [pu];refine tA (i:=1) rfl rfl ?_;simp only [pu];refine tV (i:=2) (v:= .pointer (some ⟨g,0,none⟩)) rfl rfl ?_;simp only [pu];refine Qaa (i:=3) (v:= .slice (some ⟨q,0,none⟩) C cap) rfl (Qah (n:=9) rfl (fun f2 wx hT=> ?_)) ?_
    ·have cc:=(HT0.out wx hT).1;refine Qab (w:=wx) ?_ hT;go_simp;skip
    simp only [pu];refine tA (i:=4) rfl rfl ?_;simp only [pu];refine tA (i:=5) rfl rfl ?_;simp only [pu];refine tV (i:=6) (v:= .pointer (some ⟨g,1,none⟩)) rfl rfl ?_;simp only [pu];refine Qaa (i:=7) (v:= .int .i64 (A:Int)) rfl (Qah (n:=9) rfl (fun f2 wx hT=> ?_)) ?_
    ·have cc:=(HT0.out wx hT).2.1;refine Qab (w:=wx) ?_ hT;go_simp;skip
    simp only [pu];refine tV (i:=8) (v:= .int .i64 (Q:Int)) rfl rfl ?_;simp only [pu];refine tA (i:=9) rfl rfl ?_;simp only [pu];refine tA (i:=10) rfl rfl ?_;simp only [pu];refine tV (i:=11) (v:= .pointer (some ⟨g,0,none⟩)) rfl rfl ?_;simp only [pu];refine Qaa (i:=12) (v:= .slice (some ⟨q,0,none⟩) C cap) rfl (Qah (n:=9) rfl (fun f2 wx hT=> ?_)) ?_
    ·have cc:=(HT0.out wx hT).1;refine Qab (w:=wx) ?_ hT;go_simp;skip
    simp only [pu];refine tA (i:=13) rfl rfl ?_;simp only [pu];refine tA (i:=14) rfl rfl ?_;simp only [pu];refine tV (i:=15) (v:= .pointer (some ⟨g,1,none⟩)) rfl rfl ?_;simp only [pu];refine Qaa (i:=16) (v:= .int .i64 (A:Int)) rfl (Qah (n:=9) rfl (fun f2 wx hT=> ?_)) ?_
    ·have cc:=(HT0.out wx hT).2.1;refine Qab (w:=wx) ?_ hT;go_simp;skip
    simp only [pu];refine tV (i:=17) (v:= .int .i64 (Q:Int)) rfl rfl ?_;simp only [pu];refine tV (i:=18) (v:= .pointer (some ⟨q,Q,none⟩)) rfl rfl ?_;simp only [pu];refine Qaa (i:=19) (v:= .int .u8 (y:Int)) rfl (Qah (n:=9) rfl (fun f2 wx hT=> ?_)) ?_
    ·have cc:=(HT0.out wx hT).2.2.1;refine Qab (w:=wx) ?_ hT;go_simp;skip
    simp only [pu];refine tA (i:=20) rfl rfl ?_;simp only [pu];refine tA (i:=21) rfl rfl ?_;simp only [pu];refine tV (i:=22) (v:= .int .i64 (X:Int)) rfl rfl ?_;simp only [pu];refine tV (i:=23) (v:= .int .i64 (b:Int)) rfl rfl ?_;simp only [pu];refine tV (i:=24) (v:= .int .u8 (b:Int)) rfl rfl ?_;simp only [pu];refine tA (i:=25) rfl rfl ?_;simp only [pu];refine tA (i:=26) rfl rfl ?_;simp only [pu];refine tV (i:=27) (v:= .pointer (some ⟨g,1,none⟩)) rfl rfl ?_;simp only [pu];refine Qaa (i:=28) (v:= .int .i64 (A:Int)) rfl (Qah (n:=9) rfl (fun f2 wx hT=> ?_)) ?_
    ·have cc:=(HT0.out wx hT).2.1;refine Qab (w:=wx) ?_ hT;go_simp;skip
    simp only [pu];refine tV (i:=29) (v:= .int .i64 (R:Int)) rfl rfl ?_;simp only [pu];refine tV (i:=30) (v:= .int .u8 (W8:Int)) rfl rfl ?_;simp only [pu];refine tV (i:=31) (v:= .int .u8 ((y+W8:Nat):Int)) rfl rfl ?_;simp only [pu];refine tV (i:=32) (v:= .pointer (some ⟨q,Q,none⟩)) rfl rfl ?_;simp only [pu];refine Qaa (i:=33) (v:=undef) rfl (Qa5 (by decide) rfl (fun f2 wx hT=> ?_)) ?_
    ·have c0:=(HT0.out wx hT).2.2.1;have f0:=(HT0.out wx hT).2.2.2.1;have K:=(HT0.out wx hT).2.2.2.2;go_simp;exact⟨rfl,K⟩
    simp only [pu];refine Qag rfl ?_ _;intro wx hT;have hT:wx=wa.drew.setCell ⟨q,Q,none⟩ (.int .u8 ((y+W8:Nat):Int)):=HT1.out wx hT;subst hT;obtain⟨ca2,fa2⟩:=HCA.out;clear HT0 HT1 HTS HM HCA HGA;generalize wa.drew.setCell ⟨q,Q,none⟩ (.int .u8 ((y+W8:Nat):Int))=wq at*;go_wp2_with fail;exact⟨⟨j+1,_,by go_num,by have:=HJ.out;omega,HN,HG2⟩,by simp only [intOf];have:=HJ.out;omega⟩
   ·obtain⟨q,cap,hv',hM⟩:=HO.out.to (by rw [←hr0];exact hr)
    subst hv';obtain⟨C,hC⟩:∃C,C=A /8+1:=⟨_,rfl⟩;have HC:=Qh hC;rw [←hC]at hM HG ca cb;have HM:=Qh hM;have HGA:=HG;have HQW:Hid (g≠q∧g<q):=Qh (by have:g<q:=hM.q_gt;omega)
    have hri:¬(r0:Int)=0:=by omega
    have hrb:((r0:Int)==0)=false:=beq_eq_false_iff_ne.2 hri;clear hC hM HO HG hr0 hr;go_wp2_with fail;clear ca cb hr1 hr1w hri hrb;obtain⟨wa,hwa⟩:∃wa,wa=wr:=⟨_,rfl⟩;rw [←hwa]at HM HGA⊢;clear hwa;obtain⟨Q,hQ⟩:∃Q,Q=A /8:=⟨_,rfl⟩;obtain⟨R,hR⟩:∃R,R=A%8:=⟨_,rfl⟩;obtain⟨y,hy⟩:∃y,y=V /256^Q%256:=⟨_,rfl⟩;have hya:y<2^R:=by rw [hy,hQ,hR];exact Qrm HV.out
    have hR8:R<8:=by omega
    have hpw:2^R≤128:=by
     have:2^R≤2^7:=Nat.pow_le_pow_right (by decide) (by omega)
     omega
    obtain⟨W8,hW8⟩:∃W8,W8=b*2^R:=⟨_,rfl⟩;have hb2:b=0∨b=1:=by have:=HBIT.out.1;omega
    have hWl:W8≤128:=by rcases hb2 with h|h<;>rw [hW8,h]<;>omega
    have hor:bits .or .u8 (y:Int) (W8:Int)=((y+W8:Nat):Int):=by rw [hW8];exact Qvk ⟨R,hR8⟩ ⟨y,by omega⟩ ⟨b,HBIT.out.1⟩ hya
    have hz1:(A:Int).tdiv 8=(Q:Int):=by rw [Int.tdiv_eq_ediv_of_nonneg (by omega)];omega
    have hR1:(A:Int).tmod 8=(R:Int):=by rw [Int.tmod_eq_emod_of_nonneg (by omega)];omega
    have hQw:IntKind.i64.wrap (Q:Int)=(Q:Int):=by have:=HAN.out;exact IntWalk.i64_in _ (by omega)
    have hRw:IntKind.i64.wrap (R:Int)=(R:Int):=IntWalk.i64_in _ (by omega)
    have hAw:IntKind.i64.wrap ((A:Int)+1)=((A+1:Nat):Int):=by have:=HAN.out;rw [IntWalk.i64_in _ (by omega)];rfl
    have hww:IntKind.u8.wrap (W8:Int)=(W8:Int):=IntWalk.u8_in _ (by omega)
    have hsh2:(b:Int)*2^R=(W8:Int):=by rw [hW8,Int.natCast_mul,Int.natCast_pow];rfl
    have hmin8:min R 8=R:=by omega
    have hbu:IntKind.u8.wrap (b:Int)=(b:Int):=by have:=HBIT.out.1;exact IntWalk.u8_in _ (by omega)
    have hQC:(Q:Int)<(C:Int):=by have:=HC.out;omega
    have hQC2:Q<C:=by have:=HC.out;omega
    have hyw:IntKind.u8.wrap ((y+W8:Nat):Int)=((y+W8:Nat):Int):=IntWalk.u8_in _ (by omega)
    obtain⟨T,hTd⟩:∃T:Bool→World→Prop,T=fun b wx=>(b=false→wx=wa.drew)∧(b=true→wx=wa.drew.setCell ⟨q,Q,none⟩ (.int .u8 ((y+W8:Nat):Int))):=⟨_,rfl⟩;have HT0:Hid (∀wx,T false wx→wx.cell? ⟨g,0,none⟩=some (.slice (some ⟨q,0,none⟩) C cap)∧wx.cell? ⟨g,1,none⟩=some (.int .i64 (A:Int))∧wx.cell? ⟨q,Q,none⟩=some (.int .u8 (y:Int))∧wx.frozen? ⟨q,Q,none⟩=false∧T true (wx.setCell ⟨q,Q,none⟩ (.int .u8 ((y+W8:Nat):Int)))):=Qh fun wx h=>by
     rw [hTd]at h⊢;have e:=h.1 rfl;subst e;exact⟨HM.out.blk.cell 0,HM.out.blk.cell 1,by rw [hy];exact HM.out.last hQC2,HM.out.own.frozenAt Q,fun h=>(by cases h),fun _=>rfl⟩
    have HT1:Hid (∀wx,T true wx→wx=wa.drew.setCell ⟨q,Q,none⟩ (.int .u8 ((y+W8:Nat):Int))):=Qh fun wx h=>by rw [hTd]at h;exact h.2 rfl
    have HTS:Hid (T false wa.drew):=Qh (by rw [hTd];exact⟨fun _=>rfl,fun h=>(by cases h)⟩)
    have HN:Hid (OW g (N+2^n*(x%2^(j+1))) (n+(j+1)) (.slice (some ⟨q,0,none⟩) C cap) ((wa.drew.setCell ⟨q,Q,none⟩ (.int .u8 ((y+W8:Nat):Int))).setCell ⟨g,1,none⟩ (.int .i64 ((A+1:Nat):Int)))):=Qh (by
     rw [←HBIT.out.2,show n+(j+1)=A+1 by have:=HAJ.out;omega,hy,hW8,hR,hQ]
     exact HM.out.next HC.out HV.out HBIT.out.1)
    have HG2:Hid (Gg g v w (.slice (some ⟨q,0,none⟩) C cap) ((wa.drew.setCell ⟨q,Q,none⟩ (.int .u8 ((y+W8:Nat):Int))).setCell ⟨g,1,none⟩ (.int .i64 ((A+1:Nat):Int)))):=Qh ((HGA.out.drew.far_own (rfl:(Value.slice (some ⟨q,0,none⟩) C cap).ownBlock=some q) HQW.out.2 Q _).set 1 _);have HCA:Hid ((wa.drew.setCell ⟨q,Q,none⟩ (.int .u8 ((y+W8:Nat):Int))).cell? ⟨g,1,none⟩=some (.int .i64 (A:Int))∧(wa.drew.setCell ⟨q,Q,none⟩ (.int .u8 ((y+W8:Nat):Int))).frozen? ⟨g,1,none⟩=false):=Qh ⟨((HM.out.blk.drew.far (p:=⟨q,Q,none⟩) HQW.out.1 _).cell 1),((HM.out.blk.drew.far (p:=⟨q,Q,none⟩) HQW.out.1 _).frozen 1)⟩;clear hTd hQ hR hy hya hW8 hb2 hpw;refine Qad (Two 33 1001 fun b _ wx=>T b wx) (by kernel_rfl) HTS.out ?_
    refine tA (i:=0) rfl rfl ?_;simp only [pu];refine tA (i:=1) rfl rfl ?_;simp only [pu];refine tV (i:=2) (v:= .pointer (some ⟨g,0,none⟩)) rfl rfl ?_;simp only [pu];refine Qaa (i:=3) (v:= .slice (some ⟨q,0,none⟩) C cap) rfl (Qah (n:=9) rfl (fun f2 wx hT=> ?_)) ?_
    ·have cc:=(HT0.out wx hT).1;refine Qab (w:=wx) ?_ hT;go_simp;skip
    simp only [pu];refine tA (i:=4) rfl rfl ?_;simp only [pu];refine tA (i:=5) rfl rfl ?_;simp only [pu];refine tV (i:=6) (v:= .pointer (some ⟨g,1,none⟩)) rfl rfl ?_;simp only [pu];refine Qaa (i:=7) (v:= .int .i64 (A:Int)) rfl (Qah (n:=9) rfl (fun f2 wx hT=> ?_)) ?_
    ·have cc:=(HT0.out wx hT).2.1;refine Qab (w:=wx) ?_ hT;go_simp;skip
    simp only [pu];refine tV (i:=8) (v:= .int .i64 (Q:Int)) rfl rfl ?_;simp only [pu];refine tA (i:=9) rfl rfl ?_;simp only [pu];refine tA (i:=10) rfl rfl ?_;simp only [pu];refine tV (i:=11) (v:= .pointer (some ⟨g,0,none⟩)) rfl rfl ?_;simp only [pu];refine Qaa (i:=12) (v:= .slice (some ⟨q,0,none⟩) C cap) rfl (Qah (n:=9) rfl (fun f2 wx hT=> ?_)) ?_
    ·have cc:=(HT0.out wx hT).1;refine Qab (w:=wx) ?_ hT;go_simp;skip
    simp only [pu];refine tA (i:=13) rfl rfl ?_;simp only [pu];refine tA (i:=14) rfl rfl ?_;simp only [pu];refine tV (i:=15) (v:= .pointer (some ⟨g,1,none⟩)) rfl rfl ?_;simp only [pu];refine Qaa (i:=16) (v:= .int .i64 (A:Int)) rfl (Qah (n:=9) rfl (fun f2 wx hT=> ?_)) ?_
    ·have cc:=(HT0.out wx hT).2.1;refine Qab (w:=wx) ?_ hT;go_simp;skip
    simp only [pu];refine tV (i:=17) (v:= .int .i64 (Q:Int)) rfl rfl ?_;simp only [pu];refine tV (i:=18) (v:= .pointer (some ⟨q,Q,none⟩)) rfl rfl ?_;simp only [pu];refine Qaa (i:=19) (v:= .int .u8 (y:Int)) rfl (Qah (n:=9) rfl (fun f2 wx hT=> ?_)) ?_
    ·have cc:=(HT0.out wx hT).2.2.1;refine Qab (w:=wx) ?_ hT;go_simp;skip
    simp only [pu];refine tA (i:=20) rfl rfl ?_;simp only [pu];refine tA (i:=21) rfl rfl ?_;simp only [pu];refine tV (i:=22) (v:= .int .i64 (X:Int)) rfl rfl ?_;simp only [pu];refine tV (i:=23) (v:= .int .i64 (b:Int)) rfl rfl ?_;simp only [pu];refine tV (i:=24) (v:= .int .u8 (b:Int)) rfl rfl ?_;simp only [pu];refine tA (i:=25) rfl rfl ?_;simp only [pu];refine tA (i:=26) rfl rfl ?_;simp only [pu];refine tV (i:=27) (v:= .pointer (some ⟨g,1,none⟩)) rfl rfl ?_;simp only [pu];refine Qaa (i:=28) (v:= .int .i64 (A:Int)) rfl (Qah (n:=9) rfl (fun f2 wx hT=> ?_)) ?_
    ·have cc:=(HT0.out wx hT).2.1;refine Qab (w:=wx) ?_ hT;go_simp;skip
    simp only [pu];refine tV (i:=29) (v:= .int .i64 (R:Int)) rfl rfl ?_;simp only [pu];refine tV (i:=30) (v:= .int .u8 (W8:Int)) rfl rfl ?_;simp only [pu];refine tV (i:=31) (v:= .int .u8 ((y+W8:Nat):Int)) rfl rfl ?_;simp only [pu];refine tV (i:=32) (v:= .pointer (some ⟨q,Q,none⟩)) rfl rfl ?_;simp only [pu];refine Qaa (i:=33) (v:=undef) rfl (Qa5 (by decide) rfl (fun f2 wx hT=> ?_)) ?_
    ·have c0:=(HT0.out wx hT).2.2.1;have f0:=(HT0.out wx hT).2.2.2.1;have K:=(HT0.out wx hT).2.2.2.2;go_simp;exact⟨rfl,K⟩
    simp only [pu];refine Qag rfl ?_ _;intro wx hT;have hT:wx=wa.drew.setCell ⟨q,Q,none⟩ (.int .u8 ((y+W8:Nat):Int)):=HT1.out wx hT;subst hT;obtain⟨ca2,fa2⟩:=HCA.out;clear HT0 HT1 HTS HM HCA HGA;generalize wa.drew.setCell ⟨q,Q,none⟩ (.int .u8 ((y+W8:Nat):Int))=wq at*;go_wp2_with fail;exact⟨⟨j+1,_,by go_num,by have:=HJ.out;omega,HN,HG2⟩,by simp only [intOf];have:=HJ.out;omega⟩
  ·obtain rfl:k=j:=by omega
   have hlti:¬(k:Int)<(k:Int):=by omega
   go_wp2_with fail;go_end0;exact⟨rfl,_,HO.out,HG.out⟩
theorem Qvx (g N n:Nat) (v:Value) (x k:Nat) (w:World) (h0:OW g N n v w) (hx:x≤1000000000) (hk:k≤60) (hn:n≤900000000000):
  Calls Tryz.prog 95 #[.pointer (some ⟨g,0,none⟩),.int .i64 (x:Int),.int .i64 (k:Int)] w fun e w'=>e= .returned (.tuple #[])∧∃v',OW g (N+2^n*revN k x) (n+k) v' w'∧Gg g v w v' w':=by
 have HB:=Qh (⟨hx,hk,hn⟩:x≤1000000000∧k≤60∧n≤900000000000);have hk1:IntKind.i64.wrap ((k:Int)-1)=(k:Int)-1:=IntWalk.i64_in _ (by omega)
 have H0:Hid (OW g (N+2^n*revN 0 (x /2^(k-0))) (n+0) v w∧Gg g v w v w):=Qh ⟨h0,Gg.refl _ _ _⟩;clear h0 hx hk hn;go_enter Tryz.func95,Tryz.ntmps95;go_wp2_with fail;clear hk1;go_loopw [6] (fun i wr=>∃(j:Nat) (v':Value),j≤k∧i= .int .i64 ((k:Int)-1-(j:Int))∧Hid (OW g (N+2^n*revN j (x /2^(k-j))) (n+j) v' wr)∧Hid (Gg g v w v' wr)) (fun i _=>(intOf i+1).toNat)
 case atStart=>exact⟨0,_,Nat.zero_le _,by simp,Qh H0.out.1,Qh H0.out.2⟩
 case round=>
  obtain⟨j,v',hj,rfl,HO,HG⟩:=hrel;clear H0;by_cases hlt:j<k
  ·obtain⟨t,ht⟩:∃t,t=k-1-j:=⟨_,rfl⟩;have hti:(k:Int)-1-(j:Int)=(t:Int):=by omega
   rw [hti];have hb:=HB.out;have ht0:(t:Int)≥0:=by omega
   have ht1:¬(t:Int)<0:=by omega
   have htw:IntKind.i64.wrap ((t:Int)-1)=(t:Int)-1:=IntWalk.i64_in _ (by omega)
   have hmin:min t 64=t:=by omega
   obtain⟨X,hX⟩:∃X,X=x /2^t:=⟨_,rfl⟩;have hXe:(x:Int) /2^t=(X:Int):=by rw [hX,Int.natCast_ediv,Int.natCast_pow];rfl
   have hXl:X≤x:=by rw [hX];exact Nat.div_le_self _ _
   have C:=Qbd g _ (n+j) v' X 1 wr HO.out (by omega) (by decide) (by omega)
   have e:N+2^n*revN j (x /2^(k-j))+2^(n+j)*(X%2^1)=N+2^n*revN (j+1) (x /2^(k-(j+1))):=by
    have e1:x /2^(k-(j+1))=X:=by rw [hX,ht,show k-1-j=k-(j+1)by omega]
    have e2:x /2^(k-j)=X /2:=by rw [hX,Nat.div_div_eq_div_mul,←Nat.pow_succ,show t.succ=k-j by omega]
    rw [e1,e2,Nat.pow_one];show _=N+2^n*(revN j (X /2)+X%2*2^j);rw [Nat.mul_add,Nat.pow_add,Nat.mul_comm (X%2),←Nat.mul_assoc,Nat.add_assoc]
   rw [e]at C;have HT:=Qh hti;have HJ:=Qh (⟨hlt,hj⟩:j<k∧j≤k);clear e hX hXl hti ht hb hlt HO;go_wp2_with fail;refine C.mono ?_;rintro e w1 ⟨rfl,v1,o1,g1⟩;have HO1:=Qh o1;have HG1:=Qh (HG.out.trans g1);clear C o1 g1 HG hXe;go_wp2_with fail;exact⟨⟨j+1,v1,by have:=HJ.out;omega,by have:=HT.out;congr 1;omega,HO1,HG1⟩,by simp only [intOf];omega⟩
  ·obtain rfl:k=j:=by omega
   have hneg:¬(k:Int)-1-(k:Int)≥0:=by omega
   have HR:=Qh HO.out;go_wp2_with fail;go_end0;have h:=HR.out;rw [Nat.sub_self,Nat.pow_zero,Nat.div_one]at h;exact⟨rfl,_,h,HG.out⟩
theorem Qi8:lenW 258=(257+28,258-lenB 28,lenX 28)∧lenB 28=258∧lenX 28=0:=by decide+kernel
theorem Qoj (n:Nat) (h1:3≤n) (h2:n≤258) (w:World):
  Calls Tryz.prog 97 #[.int .i64 (n:Int),.bool false] w fun e w'=>∃i,i<29∧lenW n=(257+i,n-lenB i,lenX i)∧lenB i≤n∧e= .returned (.tuple #[.int .i64 ((257+i:Nat):Int),.int .i64 (lenB i:Int),.int .i64 (lenX i:Int)])∧w'=w:=by
 by_cases h258:n=258
 ·subst h258;go_enter Tryz.func97,Tryz.ntmps97;go_wp2_with fail;go_ret3;exact⟨28,by decide,Qi8.1,Nat.le_of_eq Qi8.2.1,by rw [Qi8.2.1,Qi8.2.2];rfl,rfl⟩
 ·have hne:¬(n:Int)=258:=by omega
  have hneb:((n:Int)==258)=false:=beq_eq_false_iff_ne.2 hne;obtain⟨i,hi,ei,hil⟩:=Qpx h1 h2;have hfit:=(Qmk h1 h2).1;rw [ei]at hfit;dsimp only at hfit;have hi28:i<28:=by
   rcases Nat.lt_or_ge i 28 with h|h
   ·exact h
   ·have:i=28:=by omega
    subst this;have:lenB 28=258:=rfl;omega
  have HI:=Qh (⟨hi28,ei,hil,hfit,h2⟩:i<28∧lenW n=(257+i,n-lenB i,lenX i)∧lenB i≤n∧n-lenB i<2^lenX i∧n≤258);clear h258 hi ei hil hfit hi28 h1 h2;go_enter Tryz.func97,Tryz.ntmps97;go_wp2_with fail;go_loopw [7] (fun u wr=>∃j a:Nat,u= .int .i64 (a:Int)∧a=257+j∧j≤i∧wr=w) (fun u _=>257+i-(intOf u).toNat)
  case atStart=>exact⟨0,257,rfl,rfl,Nat.zero_le _,rfl⟩
  case round=>
   obtain⟨j,a,rfl,haj,hj,rfl⟩:=hrel;have HA:=Qh haj;have hI:=HI.out;have C:=Qgx (a:Int) wr;rw [haj,Qln j (by omega),←haj]at C
   dsimp only at C;obtain⟨bs,hbs⟩:∃bs,bs=lenB j:=⟨_,rfl⟩;obtain⟨xb,hxb⟩:∃xb,xb=lenX j:=⟨_,rfl⟩;obtain⟨P,hP⟩:∃P,P=2^xb:=⟨_,rfl⟩;have hx5:xb≤5:=by rw [hxb];unfold lenX Qgt;split<;>omega
   have hP32:P≤32:=by
    have:2^xb≤2^5:=Nat.pow_le_pow_right (by decide) hx5
    omega
   have hmono:∀d,lenB j≤lenB (j+d):=fun d=>by
    induction d with
    |zero=>exact Ql
    |succ d ih=>exact Nat.le_trans ih (Qmj (j+d))
   have hle:bs≤n:=by
    have:=hmono (i-j);rw [show j+(i-j)=i by omega]at this
    omega
   have hmin:min xb 64=xb:=by omega
   have hp2:(2:Int)^xb=(P:Int):=by rw [hP,Int.natCast_pow];rfl
   have hx0:¬(xb:Int)<0:=by omega
   have hPw:IntKind.i64.wrap (P:Int)=(P:Int):=IntWalk.i64_in _ (by omega)
   have hbw:IntKind.i64.wrap ((bs:Int)+(P:Int))=(bs:Int)+(P:Int):=IntWalk.i64_in _ (by omega)
   have hge:(n:Int)≥(bs:Int):=by omega
   have hat:IntKind.i64.wrap ((a:Int)+1)=((a+1:Nat):Int):=by rw [IntWalk.i64_in _ (by omega)];rfl
   rw [←hbs,←hxb]at C;by_cases hji:j=i
   ·subst hji;have hlt:(n:Int)<(bs:Int)+(P:Int):=by have:=hI.2.2.2.1;rw [←hbs,←hxb,←hP]at this;omega
    have HR:=Qh (⟨hbs,hxb⟩:bs=lenB j∧xb=lenX j);clear hI hmono hbs hxb hP hle hx5 haj;go_wp2_with fail;refine C.mono ?_;rintro e w1 ⟨rfl,rfl⟩;clear C;go_wp2_with fail;go_ret3;exact⟨j,by have:=HI.out;omega,HI.out.2.1,HI.out.2.2.1,by rw [←HR.out.1,←HR.out.2,←HA.out];rfl,rfl⟩
   ·have hlt:¬(n:Int)<(bs:Int)+(P:Int):=by
     have e1:lenB (j+1)=lenB j+2^lenX j:=by
      unfold lenB lenX;rw [if_pos (show j+1<28 by omega),if_pos (show j<28 by omega),if_pos (show j<28 by omega)]
      rfl
     have e2:lenB (j+1)≤lenB i:=by
      have hm2:∀d,lenB (j+1)≤lenB (j+1+d):=fun d=>by
       induction d with
       |zero=>exact Ql
       |succ d ih=>exact Nat.le_trans ih (Qmj (j+1+d))
      have:=hm2 (i-(j+1))
      rwa [show j+1+(i-(j+1))=i by omega]at this
     rw [←hbs,←hxb,←hP]at e1;omega
    have HJ:Hid (j<i):=Qh (by omega)
    clear hI hmono hbs hxb hP hle hx5 hji haj;go_wp2_with fail;refine C.mono ?_;rintro e w1 ⟨rfl,rfl⟩;clear C;go_wp2_with fail;exact⟨⟨j+1,a+1,by go_num,by have:=HA.out;omega,by have:=HJ.out;omega,by first|trivial|rfl⟩,by simp only [intOf];have:=HJ.out;have:=HA.out;omega⟩
theorem Qoi (n:Nat) (h1:1≤n) (h2:n≤32768) (w:World):
  Calls Tryz.prog 97 #[.int .i64 (n:Int),.bool true] w fun e w'=>∃i,i<30∧disW n=(286+i,n-Qbe i,Qb2 i)∧Qbe i≤n∧e= .returned (.tuple #[.int .i64 (i:Int),.int .i64 (Qbe i:Int),.int .i64 (Qb2 i:Int)])∧w'=w:=by
 obtain⟨i,hi,ei,hil⟩:=Qpg h1;have hfit:=(Ql5 h1 h2).1;rw [ei]at hfit;dsimp only at hfit;have HI:=Qh (⟨hi,ei,hil,hfit,h2⟩:i<30∧disW n=(286+i,n-Qbe i,Qb2 i)∧Qbe i≤n∧n-Qbe i<2^Qb2 i∧n≤32768);clear hi ei hil hfit h1 h2;go_enter Tryz.func97,Tryz.ntmps97;go_wp2_with fail;go_loopw [7] (fun u wr=>∃j a:Nat,u= .int .i64 (a:Int)∧a=j∧j≤i∧wr=w) (fun u _=>i-(intOf u).toNat)
 case atStart=>exact⟨0,0,rfl,rfl,Nat.zero_le _,rfl⟩
 case round=>
  obtain⟨j,a,rfl,haj,hj,rfl⟩:=hrel;obtain rfl:j=a:=haj.symm;have HA:Hid (j=j):=Qh rfl;clear haj;have hI:=HI.out;have C0:=Qgx (j:Int) wr;have e0:Qan (j:Int)=(0,0,false):=by unfold Qan;rw [if_neg (by omega),if_neg (by omega)]
  rw [e0]at C0;dsimp only at C0;have C:=Qoe (j:Int) wr;rw [Qq4 j (by omega)]at C
  dsimp only at C;clear e0;obtain⟨bs,hbs⟩:∃bs,bs=Qbe j:=⟨_,rfl⟩;obtain⟨xb,hxb⟩:∃xb,xb=Qb2 j:=⟨_,rfl⟩;obtain⟨P,hP⟩:∃P,P=2^xb:=⟨_,rfl⟩;have hx5:xb≤13:=by rw [hxb];unfold Qb2;omega
  have hP32:P≤8192:=by
   have:2^xb≤2^13:=Nat.pow_le_pow_right (by decide) hx5
   omega
  have hmono:∀d,Qbe j≤Qbe (j+d):=fun d=>by
   induction d with
   |zero=>exact Ql
   |succ d ih=>exact Nat.le_trans ih (Ql4 (j+d))
  have hle:bs≤n:=by
   have:=hmono (i-j);rw [show j+(i-j)=i by omega]at this
   omega
  have hmin:min xb 64=xb:=by omega
  have hp2:(2:Int)^xb=(P:Int):=by rw [hP,Int.natCast_pow];rfl
  have hx0:¬(xb:Int)<0:=by omega
  have hPw:IntKind.i64.wrap (P:Int)=(P:Int):=IntWalk.i64_in _ (by omega)
  have hbw:IntKind.i64.wrap ((bs:Int)+(P:Int))=(bs:Int)+(P:Int):=IntWalk.i64_in _ (by omega)
  have hge:(n:Int)≥(bs:Int):=by omega
  have hat:IntKind.i64.wrap ((j:Int)+1)=((j+1:Nat):Int):=by rw [IntWalk.i64_in _ (by omega)];rfl
  rw [←hbs,←hxb]at C;by_cases hji:j=i
  ·subst hji;have hlt:(n:Int)<(bs:Int)+(P:Int):=by have:=hI.2.2.2.1;rw [←hbs,←hxb,←hP]at this;omega
   have HR:=Qh (⟨hbs,hxb⟩:bs=Qbe j∧xb=Qb2 j);clear hI hmono hbs hxb hP hle hx5;go_wp2_with fail;refine C0.mono ?_;rintro e w1 ⟨rfl,rfl⟩;clear C0;go_wp2_with fail;refine C.mono ?_;rintro e w1 ⟨rfl,rfl⟩;clear C;go_wp2_with fail;go_ret3;exact⟨j,by have:=HI.out;omega,HI.out.2.1,HI.out.2.2.1,by rw [←HR.out.1,←HR.out.2];rfl,rfl⟩
  ·have hlt:¬(n:Int)<(bs:Int)+(P:Int):=by
    have e1:Qbe (j+1)=Qbe j+2^Qb2 j:=by
     rfl
    have e2:Qbe (j+1)≤Qbe i:=by
     have hm2:∀d,Qbe (j+1)≤Qbe (j+1+d):=fun d=>by
      induction d with
      |zero=>exact Ql
      |succ d ih=>exact Nat.le_trans ih (Ql4 (j+1+d))
     have:=hm2 (i-(j+1))
     rwa [show j+1+(i-(j+1))=i by omega]at this
    rw [←hbs,←hxb,←hP]at e1;omega
   have HJ:Hid (j<i):=Qh (by omega)
   clear hI hmono hbs hxb hP hle hx5 hji;go_wp2_with fail;refine C0.mono ?_;rintro e w1 ⟨rfl,rfl⟩;clear C0;go_wp2_with fail;refine C.mono ?_;rintro e w1 ⟨rfl,rfl⟩;clear C;go_wp2_with fail;exact⟨⟨j+1,j+1,by go_num,by have:=HA.out;omega,by have:=HJ.out;omega,by first|trivial|rfl⟩,by simp only [intOf];have:=HJ.out;have:=HA.out;omega⟩
def Qml (s:Nat):Nat:=if s=16 then 2 else if s=17 then 3 else if s=18 then 7 else 0
theorem Qvz (s:Nat) (w:World):
  Calls Tryz.prog 96 #[.int .i64 (s:Int)] w fun e w'=>e= .returned (.int .i64 (Qml s:Int))∧w'=w:=by
 by_cases h1:s=16
 ·subst h1;go_enter Tryz.func96,Tryz.ntmps96;go_wp2_with fail;go_ret;exact⟨rfl,rfl⟩
 ·by_cases h2:s=17
  ·subst h2;go_enter Tryz.func96,Tryz.ntmps96;go_wp2_with fail;go_ret;exact⟨rfl,rfl⟩
  ·by_cases h3:s=18
   ·subst h3;go_enter Tryz.func96,Tryz.ntmps96;go_wp2_with fail;go_ret;exact⟨rfl,rfl⟩
   ·have e1:((s:Int)==16)=false:=beq_eq_false_iff_ne.2 (by omega)
    have e2:((s:Int)==17)=false:=beq_eq_false_iff_ne.2 (by omega)
    have e3:((s:Int)==18)=false:=beq_eq_false_iff_ne.2 (by omega)
    have HE:Hid (Qml s=0):=Qh (by unfold Qml;rw [if_neg h1,if_neg h2,if_neg h3])
    clear h1 h2 h3;go_enter Tryz.func96,Tryz.ntmps96;go_wp2_with fail;go_ret;rw [HE.out];exact⟨rfl,rfl⟩
theorem Qj8 (p:Option Addr) (n cap:Nat) (f:Nat→Int) (lo:Nat) (w:World) (h:IS p n cap f w) (hc:n≤cap) (hn:n≤1000000):
  Calls Tryz.prog 92 #[.slice p n cap,.int .i64 (lo:Int)] w fun e w'=>e= .returned (.slice p (upN f lo n) cap)∧w'=w:=by
 have HI:=Qh h;have HN:=Qh (⟨hc,hn⟩:n≤cap∧n≤1000000);clear h hc hn;go_enter Tryz.func92,Tryz.ntmps92;go_wp2_with fail;go_loopw [5] (fun u wr=>∃k:Nat,u= .int .i64 (k:Int)∧k≤n∧Hid (upN f lo k=upN f lo n)∧wr=w) (fun u _=>(intOf u).toNat)
 case atStart=>exact⟨n,rfl,Ql,Qh rfl,rfl⟩
 case round=>
  obtain⟨k,rfl,hk,HU,rfl⟩:=hrel;have hN:=HN.out;by_cases h1:lo<k
  ·have h1i:(k:Int)>(lo:Int):=by omega
   obtain⟨j,rfl⟩:∃j,k=j+1:=⟨k-1,by omega⟩
   obtain⟨a,rfl⟩:∃a,p=some a:=by
    cases p with
    |none=>have:=(HI.out.nil_ rfl).1;omega
    |some a=>exact⟨a,rfl⟩
   obtain⟨k1,hk1⟩:∃k1,k1=j+1:=⟨_,rfl⟩;rw [←hk1]at h1i⊢;have hw:IntKind.i64.wrap ((k1:Int)-1)=(j:Int):=by rw [IntWalk.i64_in _ (by omega)];omega
   have hjn:(j:Int)<(n:Int):=by omega
   have hjn2:j<n:=by omega
   have c0:=HI.out.cell a rfl j hjn2;by_cases h2:f j=0
   ·have HU2:Hid (upN f lo j=upN f lo n):=Qh (by
     rw [←HU.out];show _=if lo<j+1∧f j=0 then upN f lo j else j+1;rw [if_pos ⟨h1,h2⟩])
    have hE:(f j==0)=true:=beq_iff_eq.2 h2;have HK1:=Qh hk1;clear HU h2 hk1 h1;go_wp2_with fail;exact⟨⟨j,by go_num,by omega,HU2,by first|trivial|rfl⟩,by simp only [intOf];have:=HK1.out;omega⟩
   ·have HU2:Hid (upN f lo n=k1):=Qh (by
     rw [←HU.out,hk1];show(if lo<j+1∧f j=0 then upN f lo j else j+1)=_;rw [if_neg (fun h=>h2 h.2)])
    have hE:(f j==0)=false:=beq_eq_false_iff_ne.2 h2;have hkn:(k1:Int)≤(n:Int):=by omega
    have hkc:(k1:Int)≤(cap:Int):=by omega
    have hkc2:k1≤cap:=by omega
    have hk0:(0:Int)≤(k1:Int):=by omega
    clear HU h2 hk1 h1 hk hN;go_wp2_with fail;go_ret;rw [HU2.out];exact⟨rfl,rfl⟩
  ·have h1i:¬(k:Int)>(lo:Int):=by omega
   have HU2:Hid (upN f lo n=k):=Qh (by
    rw [←HU.out];cases k with
    |zero=>rfl
    |succ k=>
     show(if lo<k+1∧f k=0 then upN f lo k else k+1)=_
     rw [if_neg (fun h=>h1 h.1)])
   have hkn:(k:Int)≤(n:Int):=by omega
   have hkc:(k:Int)≤(cap:Int):=by omega
   have hkc2:k≤cap:=by omega
   have hk0:(0:Int)≤(k:Int):=by omega
   clear HU h1 hk hN;go_wp2_with fail;go_ret;rw [HU2.out];exact⟨rfl,rfl⟩
def OkR (N:Nat) (l:List (Nat×Nat)):Prop:=∀k (h:k<l.length),sumT (l.take k)≤1000000∧((l[k]=(1,0)∧sumT (l.take k)<N)∨(3≤l[k].1∧l[k].1≤258∧1≤l[k].2∧l[k].2≤32768))
theorem Qks (b:Nat→Nat) (l:List (Nat×Nat)) (k:Nat) (h:k<l.length):Qap b (l.take (k+1)) 0=Qap b (l.take k) 0++Qeh b (sumT (l.take k)) l[k]:=by
 rw [List.take_succ_eq_append_getElem h,Qim,Nat.zero_add];show _++(Qeh b (sumT (l.take k)) l[k]++[])=_;rw [List.append_nil]
theorem Qop (l:List (Nat×Nat)) (k:Nat) (h:k<l.length):sumT (l.take (k+1))=sumT (l.take k)+l[k].1:=by
 rw [List.take_succ_eq_append_getElem h,Qr3];rfl
theorem Qou:(Tryz.prog.info? 113).map (·.size)=some 2:=by kernel_rfl
theorem Qjf (a b:Int):(#[Value.int .i64 a,Value.int .i64 b]:Array Value).all (·.oneCell')=true:=by kernel_rfl
theorem Qd0 (l:List (Int×Nat×Nat)) (S:Nat) (y:Nat×Nat) (i:Nat):cntV (l++[((S:Int),y)]) i=cntV l i+if i=S then 1 else 0:=by
 rw [Qqz];show _+((if(S:Int)=(i:Int)then 1 else 0)+0)=_;by_cases h:i=S
 ·rw [if_pos h,if_pos (by omega)]
 ·rw [if_neg h,if_neg (by omega)]
theorem Qf0 {w:World} {z m S C1:Nat} {f f':Nat→Nat} (h:Blk w z 3 (rI m fun i=>(f i:Int))) (hS:S<m) (hC:C1=f S+1) (hf:∀i,i<m→f' i=f i+if i=S then 1 else 0):
  Blk (w.setCell ⟨z,S,none⟩ (.int .i64 (C1:Int))) z 3 (rI m fun i=>(f' i:Int)):=
 (h.put hS (.int .i64 (C1:Int))).cast_ (Qa3 fun j hj=>by
  by_cases e:j=S
  ·rw [if_pos e];show _=Value.int .i64 ((f' j:Nat):Int);rw [hf j hj,if_pos e,hC,e]
  ·rw [if_neg e];show Value.int .i64 ((f j:Nat):Int)=Value.int .i64 ((f' j:Nat):Int);rw [hf j hj,if_neg e,Nat.add_zero])
theorem Qp4 (S:ByteArray) (p:Option Addr) (n cap:Nat) (L:List (Nat×Nat)) (w:World) (h:RS 2 p n cap (L.map encT) w) (hn:n≤100000) (hS:S.size≤1000000) (hok:OkR S.size L):
  Calls Tryz.prog 90 #[.agg #[.slice p n cap,.string S]] w fun e w'=>∃z1 z2,e= .returned (.tuple #[.slice (some ⟨z1,0,none⟩) 286 286,.slice (some ⟨z2,0,none⟩) 30 30])∧
   Blk w' z1 3 (rI 286 fun i=>(cntV (Qas (Qac S) L) i:Int))∧Blk w' z2 3 (rI 30 fun i=>(cntV (Qas (Qac S) L) (286+i):Int))∧Below w.heap.size w w'∧w.heap.size≤z1∧w.heap.size≤z2∧z1≠z2:=by
 have hlen:L.length=n:=by have:=h.len;rwa [List.length_map]at this
 have HRW:Hid (∀wx,Below w.heap.size w wx→RS 2 p n cap (L.map encT) wx):=Qh fun wx hb=>h.below hb;have HOK:=Qh hok;have HLN:=Qh hlen;have HNN:=Qh (⟨hn,hS⟩:n≤100000∧S.size≤1000000);have hmk1:∀w,(Instr.makeSlice 92 (.int .i64 286) (.int .i64 286)).run Tryz.prog w= .ok (.slice (some ⟨w.heap.size,0,none⟩) 286 286) (w.alloc (.cells (rI 286 fun _=>0) 3)):=fun w=>Qdo 286 (by decide) w
 have hmk2:∀w,(Instr.makeSlice 92 (.int .i64 30) (.int .i64 30)).run Tryz.prog w= .ok (.slice (some ⟨w.heap.size,0,none⟩) 30 30) (w.alloc (.cells (rI 30 fun _=>0) 3)):=fun w=>Qdo 30 (by decide) w
 obtain⟨g,hg⟩:∃g,g=w.heap.size:=⟨_,rfl⟩;obtain⟨w1,hw1⟩:∃w1,w1=w.alloc (.cells #[.slice p n cap,.string S] 70):=⟨_,rfl⟩;obtain⟨w2,hw2⟩:∃w2,w2=w1.alloc (.cells (rI 286 fun _=>0) 3):=⟨_,rfl⟩;obtain⟨w3,hw3⟩:∃w3,w3=w2.alloc (.cells (rI 30 fun _=>0) 3):=⟨_,rfl⟩;obtain⟨z1,hz1⟩:∃z1,z1=w1.heap.size:=⟨_,rfl⟩;obtain⟨z2,hz2⟩:∃z2,z2=w2.heap.size:=⟨_,rfl⟩;have b1:Below w.heap.size w w1:=by rw [hw1];exact Qb.alloc Ql _
 have b2:Below w1.heap.size w1 w2:=by rw [hw2];exact Qb.alloc Ql _
 have b3:Below w2.heap.size w2 w3:=by rw [hw3];exact Qb.alloc Ql _
 have k1:Blk w1 g 70 #[.slice p n cap,.string S]:=by rw [hw1,hg];exact Blk.new w _ _
 have k2:Blk w2 z1 3 (rI 286 fun _=>0):=by rw [hw2,hz1];exact Blk.new w1 _ _
 have k3:Blk w3 z2 3 (rI 30 fun _=>0):=by rw [hw3,hz2];exact Blk.new w2 _ _
 have l1:=k1.lt;have l2:=k2.lt;have s2:=b2.size;have HZ:Hid (g=w.heap.size∧g<z1∧z1<z2):=Qh ⟨hg,by omega,by omega⟩
 have HEQ:=Qh (⟨hw1,hw2,hw3,hg,hz1,hz2⟩:w1=w.alloc (.cells #[.slice p n cap,.string S] 70)∧w2=w1.alloc (.cells (rI 286 fun _=>0) 3)∧w3=w2.alloc (.cells (rI 30 fun _=>0) 3)∧g=w.heap.size∧z1=w1.heap.size∧z2=w2.heap.size);have H0:Hid (Blk w3 g 70 #[.slice p n cap,.string S]∧Blk w3 z1 3 (rI 286 fun i=>(cntV (Qap (Qac S) (L.take 0) 0) i:Int))∧Blk w3 z2 3 (rI 30 fun i=>(cntV (Qap (Qac S) (L.take 0) 0) (286+i):Int))∧Below w.heap.size w w3):=
  Qh ⟨(k1.below b2 k1.lt).below b3 (by omega),k2.below b3 k2.lt,k3,(b1.trans (b2.mono b1.size)).trans (b3.mono (by have:=b1.size;omega))⟩
 clear h hok hlen hn hS b1 b2 b3 k1 k2 k3 l1 l2 s2 hg hw1 hw2 hw3 hz1 hz2;go_enter Tryz.func90,Tryz.ntmps90;go_wp2_with fail;have hzz1:w.heap.size+1=z1:=by rw [HEQ.out.2.2.2.2.1,HEQ.out.1];exact(Array.size_push _).symm
 have hzz2:w.heap.size+1+1=z2:=by rw [hzz1,HEQ.out.2.2.2.2.1,HEQ.out.2.2.2.2.2,HEQ.out.2.1];exact(Array.size_push _).symm
 rw [←HEQ.out.1,←HEQ.out.2.1,←HEQ.out.2.2.1,hzz2,hzz1,←HEQ.out.2.2.2.1];clear hzz1 hzz2;clear hmk1 hmk2 HEQ;go_loopw [6,7] (fun u6 u7 wr=>∃i at_:Nat,u6= .int .i64 (at_:Int)∧u7= .int .i64 (i:Int)∧i≤n∧Hid (at_=sumT (L.take i))∧Hid (Blk wr g 70 #[.slice p n cap,.string S]∧Blk wr z1 3 (rI 286 fun i'=>(cntV (Qap (Qac S) (L.take i) 0) i':Int))∧Blk wr z2 3 (rI 30 fun i'=>(cntV (Qap (Qac S) (L.take i) 0) (286+i'):Int))∧Below w.heap.size w wr)) (fun _ u _=>n-(intOf u).toNat)
 case atStart=>exact⟨0,0,rfl,rfl,Nat.zero_le _,Qh rfl,H0⟩
 case round=>
  obtain⟨i,at_,rfl,rfl,hi,HAT,HR⟩:=hrel;clear H0;have x0:=HR.out.1.cell 0;have x1:=HR.out.1.cell 1;by_cases hlt:i<n
  ·have hlti:(i:Int)<(n:Int):=by omega
   have hiw:IntKind.i64.wrap ((i:Int)+1)=((i+1:Nat):Int):=by have:=HNN.out;rw [IntWalk.i64_in _ (by omega)];rfl
   obtain⟨a,rfl⟩:=(HRW.out w Qb).some_ (by omega)
   have hil:i<L.length:=by rw [HLN.out];exact hlt
   obtain⟨hsum,hcase⟩:=HOK.out i hil;have hwt:=Qks (Qac S) L i hil;have hst:=Qop L i hil;have hget:(L.map encT)[i]? =some (encT (L[i]'hil)):=by rw [List.getElem?_map,List.getElem?_eq_getElem hil];rfl
   generalize L[i]'hil=t at hcase hwt hst hget;obtain⟨X,Y⟩:=t;obtain⟨c0,c1⟩:=(HRW.out wr HR.out.2.2.2).at2 hget;rw [←HAT.out]at hsum hcase hwt hst;have HB1:=Qh (Blk.new wr 113 #[.int .i64 0,.int .i64 0]);have HZ2:=HB1.out.row_ #[.int .i64 (X:Int),.int .i64 (Y:Int)];have hb2:=Qai ((Below.refl _ wr).alloc Ql (.cells #[.int .i64 0,.int .i64 0] 113)) Ql #[.int .i64 (X:Int),.int .i64 (Y:Int)];obtain⟨W2,hW2⟩:∃W2,W2=(wr.alloc (.cells #[.int .i64 0,.int .i64 0] 113)).setRow wr.heap.size #[.int .i64 (X:Int),.int .i64 (Y:Int)]:=⟨_,rfl⟩;rw [←hW2]at HZ2 hb2;have HWE:=Qh hW2;obtain⟨q5,hq5⟩:∃q5,q5=wr.heap.size:=⟨_,rfl⟩;have HQ5:=Qh hq5;rw [←hq5]at HZ2;have HSZ:=Qh Qou;have HN2:Hid (Blk W2 g 70 #[.slice (some a) n cap,.string S]∧Blk W2 z1 3 (rI 286 fun i'=>(cntV (Qap (Qac S) (L.take i) 0) i':Int))∧Blk W2 z2 3 (rI 30 fun i'=>(cntV (Qap (Qac S) (L.take i) 0) (286+i'):Int))∧Below w.heap.size w W2):=Qh ⟨HR.out.1.below hb2 HR.out.1.lt,HR.out.2.1.below hb2 HR.out.2.1.lt,HR.out.2.2.1.below hb2 HR.out.2.2.1.lt,HR.out.2.2.2.trans (hb2.mono HR.out.2.2.2.size)⟩;have hcb:∀j,cntV (Qap (Qac S) (L.take i) 0) j≤1000000:=fun j=>by
    have h1:=Qcf (Qap (Qac S) (L.take i) 0) j;have h2:=Qdh (Qac S) (L.take i) 0;rw [List.length_take]at h2;have:=HNN.out;omega
   have HCB:=Qh hcb;have y0:=HN2.out.1.cell 0;have y1:=HN2.out.1.cell 1;have HTB:Hid (Blk W2 q5 113 #[.int .i64 (X:Int),.int .i64 (Y:Int)]∧q5≠z1∧q5≠z2):=Qh ⟨HZ2,by have:=HR.out.2.1.lt;omega,by have:=HR.out.2.2.1.lt;omega⟩
   have e0:=HZ2.cell 0;have e1:=HZ2.cell 1;have HKN:=Qh hlt;have HAN:=Qh hsum;clear hget hil hlt hW2 hq5 HZ2 hb2 HR hcb hsum;rcases hcase with⟨ht,hat⟩|⟨hx1,hx2,hy1,hy2⟩
   ·have hX:X=1:=congrArg Prod.fst ht;have hY:Y=0:=congrArg Prod.snd ht;subst hX;subst hY;replace HWE:Hid (W2=(wr.alloc (.cells #[.int .i64 0,.int .i64 0] 113)).setRow wr.heap.size #[.int .i64 1,.int .i64 0]):=HWE;replace e0:W2.cell? ⟨q5,0,none⟩=some (.int .i64 1):=e0;replace e1:W2.cell? ⟨q5,1,none⟩=some (.int .i64 0):=e1;replace c0:wr.cell? (a.add (i*2))=some (.int .i64 1):=c0;replace c1:wr.cell? ⟨(a.add (i*2)).block,(a.add (i*2)).off+1,none⟩=some (.int .i64 0):=c1;obtain⟨y,hy⟩:∃y,y=Qac S at_:=⟨_,rfl⟩;have hy8:y<256:=by rw [hy];exact Qaz _ _
    have hati:(at_:Int)<(S.size:Int):=by omega
    have hby:(S[at_]'hat).toNat=y:=by rw [hy];exact Qa2 S at_ hat
    obtain⟨C,hC⟩:∃C,C=cntV (Qap (Qac S) (L.take i) 0) y:=⟨_,rfl⟩;have hCb:C≤1000000:=by rw [hC];exact HCB.out y
    obtain⟨C1,hC1⟩:∃C1,C1=C+1:=⟨_,rfl⟩;have hCw:IntKind.i64.wrap ((C:Int)+1)=(C1:Int):=by rw [IntWalk.i64_in _ (by omega)];omega
    have hyi:(y:Int)<286:=by omega
    have hy286:y<286:=by omega
    have d1:W2.cell? ⟨z1,y,none⟩=some (.int .i64 (C:Int)):=by rw [HN2.out.2.1.at_ hy286,hC]
    have d2:W2.frozen? ⟨z1,y,none⟩=false:=HN2.out.2.1.frozen _;have hatw:IntKind.i64.wrap ((at_:Int)+1)=((at_+1:Nat):Int):=by have:=HAN.out;rw [IntWalk.i64_in _ (by omega)];rfl
    have ew:Qap (Qac S) (L.take (i+1)) 0=Qap (Qac S) (L.take i) 0++[((y:Int),(0,0))]:=by rw [hwt,hy];rfl
    have f0:(W2.setCell ⟨z1,y,none⟩ (.int .i64 (C1:Int))).cell? ⟨q5,0,none⟩=some (.int .i64 1):=(HTB.out.1.far (p:=⟨z1,y,none⟩) HTB.out.2.1 _).cell 0;have HF:Hid (Blk (W2.setCell ⟨z1,y,none⟩ (.int .i64 (C1:Int))) g 70 #[.slice (some a) n cap,.string S]∧Blk (W2.setCell ⟨z1,y,none⟩ (.int .i64 (C1:Int))) z1 3 (rI 286 fun i'=>(cntV (Qap (Qac S) (L.take (i+1)) 0) i':Int))∧Blk (W2.setCell ⟨z1,y,none⟩ (.int .i64 (C1:Int))) z2 3 (rI 30 fun i'=>(cntV (Qap (Qac S) (L.take (i+1)) 0) (286+i'):Int))∧Below w.heap.size w (W2.setCell ⟨z1,y,none⟩ (.int .i64 (C1:Int)))):=Qh (by
     have hz:=HZ.out;refine⟨HN2.out.1.far (p:=⟨z1,y,none⟩) (by show g≠z1;omega) _,Qf0 HN2.out.2.1 hy286 (by rw [hC1,hC]) (fun j _=>by rw [ew];exact Qd0 _ y _ j),?_,HN2.out.2.2.2.setCell (p:=⟨z1,y,none⟩) (by show w.heap.size≤z1;omega) _⟩
     refine(HN2.out.2.2.1.far (p:=⟨z1,y,none⟩) (by show z2≠z1;omega) (.int .i64 (C1:Int))).cast_ (Qa3 fun j _=> ?_)
     show Value.int .i64 ((cntV (Qap (Qac S) (L.take i) 0) (286+j):Nat):Int)=Value.int .i64 ((cntV (Qap (Qac S) (L.take (i+1)) 0) (286+j):Nat):Int)
     rw [ew,Qd0 _ y _ (286+j),if_neg (by omega),Nat.add_zero])
    have HAT2:Hid (at_+1=sumT (L.take (i+1))):=Qh (by rw [hst])
    clear hwt hst hy hC hC1 ew hCb hy8 HN2 ht HAT;go_wp2_with (refine wpList_store_row rfl 113 _ _ rfl wr.heap.size #[.int .i64 1,.int .i64 0] rfl rfl 113 _ HB1.out HSZ.out rfl (Qjf _ _) ?_;rw [←HWE.out,←HQ5.out]);exact⟨⟨i+1,at_+1,by go_num,by go_num,by have:=HKN.out;omega,HAT2,HF⟩,by simp only [intOf];have:=HKN.out;omega⟩
   ·have CL:=Qoj X hx1 hx2;have CD:=Qoi Y hy1 hy2;obtain⟨i1,hi1,ei1,hl1⟩:=Qpx hx1 hx2;obtain⟨j1,hj1,ej1,hl2⟩:=Qpg hy1;have ew:Qap (Qac S) (L.take (i+1)) 0=(Qap (Qac S) (L.take i) 0++[(((257+i1:Nat):Int),(lenW X).2)])++[(((286+j1:Nat):Int),(disW Y).2)]:=by
     rw [hwt];unfold Qeh;rw [if_neg (show¬X=1 by omega)]
     show _++[((((lenW X).1:Nat):Int),(lenW X).2),((((disW Y).1:Nat):Int),(disW Y).2)]=_
     have e1:(lenW X).1=257+i1:=by rw [ei1]
     have e2:(disW Y).1=286+j1:=by rw [ej1]
     rw [e1,e2,List.append_assoc];rfl
    obtain⟨A1,hA1⟩:∃A1,A1=257+i1:=⟨_,rfl⟩;obtain⟨C,hC⟩:∃C,C=cntV (Qap (Qac S) (L.take i) 0) A1:=⟨_,rfl⟩;have hCb:C≤1000000:=by rw [hC];exact HCB.out A1
    obtain⟨C1,hC1⟩:∃C1,C1=C+1:=⟨_,rfl⟩;have hCw:IntKind.i64.wrap ((C:Int)+1)=(C1:Int):=by rw [IntWalk.i64_in _ (by omega)];omega
    obtain⟨D,hD⟩:∃D,D=cntV (Qap (Qac S) (L.take i) 0) (286+j1):=⟨_,rfl⟩;have hDb:D≤1000000:=by rw [hD];exact HCB.out _
    obtain⟨D1,hD1⟩:∃D1,D1=D+1:=⟨_,rfl⟩;have hDw:IntKind.i64.wrap ((D:Int)+1)=(D1:Int):=by rw [IntWalk.i64_in _ (by omega)];omega
    have hA286:A1<286:=by omega
    have hAi:(A1:Int)<286:=by omega
    have hj30:(j1:Int)<30:=by omega
    have hyn:((Y:Int)==0)=false:=beq_eq_false_iff_ne.2 (by omega)
    have d1:W2.cell? ⟨z1,A1,none⟩=some (.int .i64 (C:Int)):=by rw [HN2.out.2.1.at_ hA286,hC]
    have d2:W2.frozen? ⟨z1,A1,none⟩=false:=HN2.out.2.1.frozen _;obtain⟨W3,hW3⟩:∃W3,W3=W2.setCell ⟨z1,A1,none⟩ (.int .i64 (C1:Int)):=⟨_,rfl⟩;have hz:=HZ.out;have kz2:Blk W3 z2 3 (rI 30 fun i'=>(cntV (Qap (Qac S) (L.take i) 0) (286+i'):Int)):=by rw [hW3];exact HN2.out.2.2.1.far (p:=⟨z1,A1,none⟩) (by show z2≠z1;omega) _
    have d3:W3.cell? ⟨z2,j1,none⟩=some (.int .i64 (D:Int)):=by rw [kz2.at_ hj1,hD]
    have d4:W3.frozen? ⟨z2,j1,none⟩=false:=kz2.frozen _;have hq3:Blk W3 q5 113 #[.int .i64 (X:Int),.int .i64 (Y:Int)]:=by rw [hW3];exact HTB.out.1.far (p:=⟨z1,A1,none⟩) HTB.out.2.1 _
    have f0:(W3.setCell ⟨z2,j1,none⟩ (.int .i64 (D1:Int))).cell? ⟨q5,0,none⟩=some (.int .i64 (X:Int)):=(hq3.far (p:=⟨z2,j1,none⟩) HTB.out.2.2 _).cell 0;have hatw:IntKind.i64.wrap ((at_:Int)+(X:Int))=((at_+X:Nat):Int):=by have:=HAN.out;rw [IntWalk.i64_in _ (by omega)];rfl
    have HF:Hid (Blk (W3.setCell ⟨z2,j1,none⟩ (.int .i64 (D1:Int))) g 70 #[.slice (some a) n cap,.string S]∧Blk (W3.setCell ⟨z2,j1,none⟩ (.int .i64 (D1:Int))) z1 3 (rI 286 fun i'=>(cntV (Qap (Qac S) (L.take (i+1)) 0) i':Int))∧Blk (W3.setCell ⟨z2,j1,none⟩ (.int .i64 (D1:Int))) z2 3 (rI 30 fun i'=>(cntV (Qap (Qac S) (L.take (i+1)) 0) (286+i'):Int))∧Below w.heap.size w (W3.setCell ⟨z2,j1,none⟩ (.int .i64 (D1:Int)))):=Qh (by
     have kg:Blk W3 g 70 #[.slice (some a) n cap,.string S]:=by rw [hW3];exact HN2.out.1.far (p:=⟨z1,A1,none⟩) (by show g≠z1;omega) _
     have k1:Blk W3 z1 3 (rI 286 fun i'=>(cntV (Qap (Qac S) (L.take (i+1)) 0) i':Int)):=by
      rw [hW3];refine Qf0 HN2.out.2.1 hA286 (by rw [hC1,hC]) (fun j hj=> ?_)
      rw [ew,Qd0 _ (286+j1) _ j,if_neg (by omega),Nat.add_zero,Qd0 _ (257+i1) _ j,hA1]
     have kb:Below w.heap.size w W3:=by rw [hW3];exact HN2.out.2.2.2.setCell (p:=⟨z1,A1,none⟩) (by show w.heap.size≤z1;omega) _
     refine⟨kg.far (p:=⟨z2,j1,none⟩) (by show g≠z2;omega) _,k1.far (p:=⟨z2,j1,none⟩) (by show z1≠z2;omega) _,Qf0 (f:=fun i'=>cntV (Qap (Qac S) (L.take i) 0) (286+i')) kz2 hj1 (by rw [hD1,hD]) (fun j hj=> ?_),kb.setCell (p:=⟨z2,j1,none⟩) (by show w.heap.size≤z2;omega) _⟩
     rw [ew,Qd0 _ (286+j1) _ (286+j),Qd0 _ (257+i1) _ (286+j),if_neg (show¬286+j=257+i1 by omega),Nat.add_zero]
     by_cases hjj:j=j1
     ·rw [if_pos hjj,if_pos (by omega)]
     ·rw [if_neg hjj,if_neg (by omega)])
    have HAT2:Hid (at_+X=sumT (L.take (i+1))):=Qh (by rw [hst])
    have HEI:=Qh (⟨ei1,hA1,ej1⟩:lenW X=(257+i1,X-lenB i1,lenX i1)∧A1=257+i1∧disW Y=(286+j1,Y-Qbe j1,Qb2 j1));rw [hW3]at d3 d4 f0 HF;clear hwt hst hC hD hC1 hD1 ew hCb hDb HN2 HAT kz2 hq3 hz hW3 W3 ei1 ej1 hA1 hl1 hl2 hi1 hx1 hx2 hy1 hy2;go_wp2_with (refine wpList_store_row rfl 113 _ _ rfl wr.heap.size #[.int .i64 (X:Int),.int .i64 (Y:Int)] rfl rfl 113 _ HB1.out HSZ.out rfl (Qjf _ _) ?_;rw [←HWE.out,←HQ5.out]);refine(CL W2).mono ?_;rintro e w4 ⟨i2,hi2,ei2,_,rfl,rfl⟩;have hii:i2=i1:=by have h:=HEI.out.1;rw [ei2]at h;have:=congrArg Prod.fst h;simp only at this;omega
    subst hii;rw [←HEI.out.2.1];clear ei2 CL;go_wp2_with fail;refine(CD w4).mono ?_;rintro e w5 ⟨j2,hj2,ej2,_,rfl,rfl⟩;have hjj:j2=j1:=by have h:=HEI.out.2.2;rw [ej2]at h;have:=congrArg Prod.fst h;simp only at this;omega
    subst hjj;clear ej2 CD;go_wp2_with fail;exact⟨⟨i+1,at_+X,by go_num,by go_num,by have:=HKN.out;omega,HAT2,HF⟩,by simp only [intOf];have:=HKN.out;omega⟩
  ·obtain rfl:i=n:=by omega
   have hlti:¬(i:Int)<(i:Int):=by omega
   have HE:Hid (L.take i=L):=Qh (List.take_of_length_le (by rw [HLN.out];exact Ql))
   obtain⟨C,hC⟩:∃C,C=cntV (Qap (Qac S) (L.take i) 0) 256:=⟨_,rfl⟩;have d1:wr.cell? ⟨z1,256,none⟩=some (.int .i64 (C:Int)):=by rw [HR.out.2.1.at_ (show 256<286 by decide),hC]
   have d2:wr.frozen? ⟨z1,256,none⟩=false:=HR.out.2.1.frozen _;have hCb:C≤1000000:=by
    have h1:=Qcf (Qap (Qac S) (L.take i) 0) 256;have h2:=Qdh (Qac S) (L.take i) 0;rw [List.length_take]at h2;have:=HNN.out;omega
   obtain⟨C1,hC1⟩:∃C1,C1=C+1:=⟨_,rfl⟩;have hCw:IntKind.i64.wrap ((C:Int)+1)=(C1:Int):=by rw [IntWalk.i64_in _ (by omega)];omega
   have hF1:Blk (wr.setCell ⟨z1,256,none⟩ (.int .i64 (C1:Int))) z1 3 (rI 286 fun i'=>(cntV (Qas (Qac S) L) i':Int)):=Qf0 HR.out.2.1 (by decide) (by rw [hC1,hC]) (fun j _=>by
    unfold Qas;rw [HE.out];exact Qd0 _ 256 _ j)
   have hF2:Blk (wr.setCell ⟨z1,256,none⟩ (.int .i64 (C1:Int))) z2 3 (rI 30 fun i'=>(cntV (Qas (Qac S) L) (286+i'):Int)):=by
    have:=HR.out.2.2.1.far (p:=⟨z1,256,none⟩) (by have:=HZ.out;show z2≠z1;omega) (.int .i64 (C1:Int))
    refine this.cast_ (Qa3 fun j _=> ?_);show Value.int .i64 ((cntV (Qap (Qac S) (L.take i) 0) (286+j):Nat):Int)=Value.int .i64 ((cntV (Qas (Qac S) L) (286+j):Nat):Int);have e:=Qd0 (Qap (Qac S) L 0) 256 (0,0) (286+j);rw [if_neg (by omega),Nat.add_zero]at e
    have e:cntV (Qas (Qac S) L) (286+j)=cntV (Qap (Qac S) L 0) (286+j):=e;rw [HE.out,e]
   have hF3:Below w.heap.size w (wr.setCell ⟨z1,256,none⟩ (.int .i64 (C1:Int))):=HR.out.2.2.2.setCell (p:=⟨z1,256,none⟩) (by have:=HZ.out;show w.heap.size≤z1;omega) _
   have HF:=Qh (⟨hF1,hF2,hF3⟩:Blk _ z1 3 (rI 286 fun i'=>(cntV (Qas (Qac S) L) i':Int))∧Blk _ z2 3 (rI 30 fun i'=>(cntV (Qas (Qac S) L) (286+i'):Int))∧Below w.heap.size w (wr.setCell ⟨z1,256,none⟩ (.int .i64 (C1:Int))));clear hF1 hF2 hF3 hC hC1 hCb HR;go_wp2_with fail;go_ret2;exact⟨z1,z2,rfl,HF.out.1,HF.out.2.1,HF.out.2.2,by have:=HZ.out;omega,by have:=HZ.out;omega,by have:=HZ.out;omega⟩
end Go.Proofs.YtbmcjdoiohcaaaaGreat
