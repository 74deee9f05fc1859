/- MY -/
import Derived.Test.YtbmcjdoiohcaaaaGreatMX
import Derived.Deep.QuietTactic
import Derived.BigQuiet
import Derived.Deep.AppendLies
import Derived.Test.YtbmcjdoiohcaaaaGreatME
import Derived.Deep.LoopGhost
set_option maxRecDepth 100000
set_option maxHeartbeats 8000000
namespace Go.Proofs.YtbmcjdoiohcaaaaGreat
open Go.RowKit
def bys (l:List Nat):List Value:=l.map fun(b:Nat)=>Value.int .u8 (b:Int)
structure FW (g:Nat) (s:ByteArray) (M:Nat) (x:Fl) (v:Value) (w:World):Prop where
 blk:Blk w g 90 #[.string s,.int .i64 (x.p:Int),.int .i64 (x.e:Int),v,.int .i64 (M:Int)]
 own:w.ownsRow (g+1) 5 1 v x.o.length (bys x.o)
structure Mv (g:Nat) (v:Value) (w:World) (v':Value) (w':World):Prop where
 os:w'.os=w.os
 tape:w'.tape=w.tape
 output:w'.output=w.output
 size:w.heap.size≤w'.heap.size
 block:∀k,k<w.heap.size→k≠g→v.ownBlock≠some k→w'.heap[k]? =w.heap[k]?
 own:∀k,v'.ownBlock=some k→v.ownBlock=some k∨w.heap.size≤k
theorem Mv.refl (g:Nat) (v:Value) (w:World):Mv g v w v w:=⟨rfl,rfl,rfl,Ql,fun _ _ _ _=>rfl,fun _ h=> .inl h⟩
theorem Mv.trans {g:Nat} {v v1 v2:Value} {w w1 w2:World} (h:Mv g v w v1 w1) (k:Mv g v1 w1 v2 w2):Mv g v w v2 w2:=
 ⟨k.os.trans h.os,k.tape.trans h.tape,k.output.trans h.output,Nat.le_trans h.size k.size,fun i hi hg hv=>(k.block i (Nat.lt_of_lt_of_le hi h.size) hg (fun e=>by
  rcases h.own i e with h1|h1
  ·exact hv h1
  ·omega)).trans (h.block i hi hg hv),fun i e=>by
  rcases k.own i e with h1|h1
  ·exact h.own i h1
  ·exact .inr (Nat.le_trans h.size h1)⟩
theorem Mv.set {g:Nat} {v v':Value} {w w':World} (h:Mv g v w v' w') (j:Nat) (u:Value):Mv g v w v' (w'.setCell ⟨g,j,none⟩ u):=
 ⟨h.os,h.tape,h.output,by simp [World.setCell];exact h.size,fun i hi hg hv=>(Below.heap_setCell w' ⟨g,j,none⟩ u i (show i≠g from hg)).trans (h.block i hi hg hv),h.own⟩
theorem Mv.below {g:Nat} {v v':Value} {w w1 w2:World} (h:Mv g v w v' w1) (hb:Below w1.heap.size w1 w2):Mv g v w v' w2:=
 ⟨hb.os.trans h.os,hb.tape.trans h.tape,hb.output.trans h.output,Nat.le_trans h.size hb.size,fun i hi hg hv=>(hb.block i (Nat.lt_of_lt_of_le hi h.size)).trans (h.block i hi hg hv),h.own⟩
theorem Mv.drew {g:Nat} {v v':Value} {w w1:World} (h:Mv g v w v' w1):Mv g v w v' w1.drew:=⟨h.os,h.tape,h.output,h.size,h.block,h.own⟩
theorem Mv.drewN {g:Nat} {v v':Value} {w w1:World} (h:Mv g v w v' w1) (n:Nat):Mv g v w v' (w1.drewN n):=⟨h.os,h.tape,h.output,h.size,h.block,h.own⟩
theorem Mv.is {g:Nat} {v v':Value} {w w':World} (h:Mv g v w v' w') {p:Option Addr} {n cap:Nat} {f:Nat→Int} (hi:IS p n cap f w) (hg:∀a,p=some a→a.block≠g∧v.ownBlock≠some a.block):IS p n cap f w':=
 ⟨hi.nil_,(fun a ha i hin=>by
  have hb:(a.add i).block=a.block:=by unfold Addr.add;split<;>rfl
  rw [World.cell?_of_block (w:=w) (h.block _ (by rw [hb];exact hi.lt a ha) (by rw [hb];exact(hg a ha).1) (by rw [hb];exact(hg a ha).2))]
  exact hi.cell a ha i hin),(fun a ha=>Nat.lt_of_lt_of_le (hi.lt a ha) h.size),hi.lo,hi.hi⟩
section
variable {g:Nat} {s:ByteArray} {M:Nat} {x:Fl} {v:Value} {w w':World}
theorem FW.lt (h:FW g s M x v w):g<w.heap.size:=h.blk.lt
theorem FW.c0 (h:FW g s M x v w):w.cell? ⟨g,0,none⟩=some (.string s):=h.blk.cell 0
theorem FW.c1 (h:FW g s M x v w):w.cell? ⟨g,1,none⟩=some (.int .i64 (x.p:Int)):=h.blk.cell 1
theorem FW.c2 (h:FW g s M x v w):w.cell? ⟨g,2,none⟩=some (.int .i64 (x.e:Int)):=h.blk.cell 2
theorem FW.c3 (h:FW g s M x v w):w.cell? ⟨g,3,none⟩=some v:=h.blk.cell 3
theorem FW.c4 (h:FW g s M x v w):w.cell? ⟨g,4,none⟩=some (.int .i64 (M:Int)):=h.blk.cell 4
theorem FW.fz (h:FW g s M x v w) (j:Nat):w.frozen? ⟨g,j,none⟩=false:=h.blk.frozen j
theorem FW.setP (h:FW g s M x v w) (p:Nat):FW g s M ⟨p,x.e,x.o⟩ v (w.setCell ⟨g,1,none⟩ (.int .i64 (p:Int))):=
 ⟨h.blk.set_ 1 _,ownsRow_setCell_below h.own (a:=⟨g,1,none⟩) (Nat.lt_succ_self g) _⟩
theorem FW.setE (h:FW g s M x v w) (e:Nat):FW g s M ⟨x.p,e,x.o⟩ v (w.setCell ⟨g,2,none⟩ (.int .i64 (e:Int))):=
 ⟨h.blk.set_ 2 _,ownsRow_setCell_below h.own (a:=⟨g,2,none⟩) (Nat.lt_succ_self g) _⟩
theorem FW.drew (h:FW g s M x v w):FW g s M x v w.drew:=⟨h.blk.drew,h.own.drew⟩
theorem FW.drewN (h:FW g s M x v w) (n:Nat):FW g s M x v (w.drewN n):=⟨h.blk.drewN n,h.own⟩
theorem FW.below (h:FW g s M x v w) (hb:Below w.heap.size w w'):FW g s M x v w':=by
 refine⟨h.blk.below hb h.lt,h.own.1,?_⟩;rcases h.own.2 with h1|⟨q,cap,cur,h1,h2,h3,h4⟩
 ·exact .inl h1
 ·refine .inr ⟨q,cap,cur,h1,h2,?_,h4⟩;rw [hb.block q (by
   rcases Nat.lt_or_ge q w.heap.size with hlt|hge
   ·exact hlt
   ·rw [Array.getElem?_eq_none hge]at h3;cases h3)]
  exact h3
theorem FW.ownB (h:FW g s M x v w):∀k,v.ownBlock=some k→g+1≤k∧k<w.heap.size:=World.ownsRow.lt h.own
end
theorem Q2w (a b k:Nat) (h:a<2^k) (hb:b<2) (hk:k≤40):bits .or .i64 (a:Int) ((b*2^k:Nat):Int)=((a+b*2^k:Nat):Int):=by
 have hp:2^k≤2^40:=Nat.pow_le_pow_right (by decide) hk
 have hbk:b*2^k≤1*2^40:=Nat.mul_le_mul (by omega) hp
 have e:b*2^k|||a=2^k*b+a:=by rw [Nat.mul_comm,Nat.two_pow_add_eq_or_of_lt h]
 have key:(BitVec.ofInt 64 (a:Int)|||BitVec.ofInt 64 ((b*2^k:Nat):Int)).toNat=a+b*2^k:=by
  rw [BitVec.toNat_or,BitVec.ofInt_natCast,BitVec.ofInt_natCast,BitVec.toNat_ofNat,BitVec.toNat_ofNat,Nat.mod_eq_of_lt (by omega),Nat.mod_eq_of_lt (by omega),Nat.or_comm,e]
  rw [Nat.mul_comm];omega
 show IntKind.i64.wrap ((BitVec.ofInt 64 (a:Int)|||BitVec.ofInt 64 ((b*2^k:Nat):Int)).toNat:Nat)=_
 rw [key,IntKind.wrap_i64];omega
theorem Qtk:∀x:Fin 256,bits .and .u8 (x.val:Int) 1=((x.val%2:Nat):Int):=by decide+kernel
theorem Qqt (x r:Nat) (h:x<256):bits .and .u8 ((x:Int) /2^r) 1=((x /2^r%2:Nat):Int):=by
 have e:(x:Int) /2^r=((x /2^r:Nat):Int):=by norm_cast
 have h2:x /2^r<256:=Nat.lt_of_le_of_lt (Nat.div_le_self _ _) h;rw [e];exact Qtk ⟨_,h2⟩
theorem Qw1 (B:Nat→Nat) (hB:∀i,B i<2) (p k:Nat) (hk:k≤40) (y:Int) (hy:y=(B (p+k):Int)):bits .or .i64 (vb B p k:Int) (wrap64 (wrap64 y*2^k))=(vb B p (k+1):Int):=by
 have h1:=hB (p+k);have hp:2^k≤2^40:=Nat.pow_le_pow_right (by decide) hk
 have hbk:B (p+k)*2^k≤1*2^40:=Nat.mul_le_mul (by omega) hp
 subst hy;have e:wrap64 (wrap64 (B (p+k):Int)*2^k)=((B (p+k)*2^k:Nat):Int):=by
  rw [IntWalk.wrap64_in (B (p+k):Int) (by omega),Int.natCast_mul,Int.natCast_pow]
  show wrap64 ((B (p+k):Int)*2^k)=(B (p+k):Int)*2^k
  have e2:(B (p+k):Int)*2^k=((B (p+k)*2^k:Nat):Int):=by rw [Int.natCast_mul,Int.natCast_pow];rfl
  rw [e2];exact IntWalk.wrap64_in _ (by omega)
 rw [e,Q2w _ _ _ (Qzi hB p k) h1 hk];rfl
theorem Qew {B:Nat→Nat} {T n:Nat} {x:Fl} (h:x.e≠0):Qal B T n x=(0,x):=if_pos h
theorem Qi5 {B:Nat→Nat} {T n:Nat} {x:Fl} (h:x.e=0) (hp:x.p+n≤T):Qal B T n x=(vb B x.p n,⟨x.p+n,0,x.o⟩):=by unfold Qal;rw [if_neg (by omega),if_pos hp]
theorem Qg5 {B:Nat→Nat} {T n:Nat} {x:Fl} (h:x.e=0) (hp:¬x.p+n≤T):Qal B T n x=(0,⟨T,2,x.o⟩):=by unfold Qal;rw [if_neg (by omega),if_neg hp]
theorem Qbg (g:Nat) (s:ByteArray) (M:Nat) (x:Fl) (v:Value) (n:Nat) (w:World) (h:FW g s M x v w) (hs:s.size≤281474976710656) (hp:x.e=0→x.p≤8*s.size) (hn:n≤16):
  Calls Tryz.prog 41 #[.pointer (some ⟨g,0,none⟩),.int .i64 (n:Int)] w fun e w'=>e= .returned (.int .i64 ((Qal (bitH s) (8*s.size) n x).1:Int))∧FW g s M (Qal (bitH s) (8*s.size) n x).2 v w'∧Mv g v w v w':=by
 have c2:=h.c2;by_cases he:x.e=0
 ·replace hp:=hp he;rw [he]at c2;have hT:= @Qi5 (bitH s) (8*s.size) n x he;have hF:= @Qg5 (bitH s) (8*s.size) n x he;obtain⟨p,e,o⟩:=x;obtain rfl:e=0:=he;have HT:=Qh hT;have HF:=Qh hF;generalize Qal (bitH s) (8*s.size) n ⟨p,0,o⟩=r at HT HF⊢;clear hT hF;go_enter Tryz.func41,Tryz.ntmps41;go_wp2_with fail;go_loopw [5,6] (fun u i wr=>∃k:Nat,k≤n∧i= .int .i64 (k:Int)∧u= .int .i64 (vb (bitH s) p k:Int)∧p+k≤8*s.size∧FW g s M ⟨p+k,0,o⟩ v wr∧Mv g v w v wr) (fun _ i _=>n-(intOf i).toNat)
  case atStart=>exact⟨0,by omega,rfl,rfl,hp,h,Mv.refl _ _ _⟩
  case round=>
   obtain⟨k,hk,rfl,rfl,hpk,hr,hm⟩:=hrel;have c0:=hr.c0;have c1:=hr.c1;have c2:wr.cell? ⟨g,2,none⟩=some (.int .i64 0):=hr.c2;have f1:=hr.fz 1;have f2:=hr.fz 2;by_cases hlt:k<n
   ·obtain⟨P,hP⟩:∃P,P=p+k:=⟨_,rfl⟩;obtain⟨Q,hQ⟩:∃Q,Q=P /8:=⟨_,rfl⟩;obtain⟨R,hR⟩:∃R,R=P%8:=⟨_,rfl⟩;rw [←hP]at c1 hpk hr;have hz1:(P:Int).tdiv 8=(Q:Int):=by rw [Int.tdiv_eq_ediv_of_nonneg (by omega)];omega
    have hz2:(P:Int) /8=(Q:Int):=by omega
    have hR1:(P:Int).tmod 8=(R:Int):=by rw [Int.tmod_eq_emod_of_nonneg (by omega)];omega
    have hR2:(P:Int)%8=(R:Int):=by omega
    have hQw:IntKind.i64.wrap (Q:Int)=(Q:Int):=IntWalk.i64_in _ (by omega)
    have hlti:(k:Int)<(n:Int):=by omega
    by_cases hq:Q<s.size
    ·have hQn:¬(Q:Int)≥(s.size:Int):=by omega
     have hR8:R<8:=by omega
     have hmin:min R 8=R:=by omega
     have HBS:Hid (bitH s P=Qac s Q /2^R%2):=Qh (by unfold bitH;rw [←hQ,←hR])
     have HP1:=Qh hP;have HPT:Hid (P<8*s.size):=Qh (by omega)
     clear hP hQ hR hpk hp hlt;go_wp2_with fail;go_quiet (fail);have h2:=hr.drewN nq;have m2:=hm.drewN nq;clear hr hm c0 c1 c2 f1 f2;generalize wr.drewN nq=wq at h2 m2⊢;have c0:=h2.c0;have c1:=h2.c1;have c2:wq.cell? ⟨g,2,none⟩=some (.int .i64 0):=h2.c2;have f1:=h2.fz 1;have f2:=h2.fz 2;go_wp2_with fail;go_quiet (fail);have HV:Hid (bits .or .i64 (vb (bitH s) p k:Int) (wrap64 (wrap64 (bits .and .u8 (((s[Q]).toNat:Int) /2^R) 1)*2^k))=(vb (bitH s) p (k+1):Int)):=Qh (Qw1 _ (Qeq s) p k (by omega) _ (by
      rw [Qa2 s Q hq,Qqt _ _ (Qaz _ _),←HBS.out,HP1.out]))
     rw [HV.out];have h3:=h2.drewN nq;have m3:=m2.drewN nq;clear h2 m2 c0 c1 c2 f1 f2;generalize wq.drewN nq=wz at h3 m3⊢;have c1:=h3.c1;have f1:=h3.fz 1;have hPw:IntKind.i64.wrap ((P:Int)+1)=((P+1:Nat):Int):=by have:=HPT.out;rw [IntWalk.i64_in _ (by omega)];rfl
     have HPT2:Hid ((P:Int)+1<9000000000000000000):=Qh (by have:=HPT.out;omega)
     have HKN:Hid (k<n):=Qh (by omega)
     go_wp2_with fail;have hP1:=HP1.out;have hPT:=HPT.out;have hkn:=HKN.out;have h4:=h3.setP (P+1);rw [show P+1=p+(k+1)by omega]at h4
     rw [show (P:Int)+1=((p+(k+1):Nat):Int)by omega]
     exact⟨⟨k+1,by omega,rfl,rfl,by omega,h4,m3.set 1 _⟩,by simp only [intOf];omega⟩
    ·have hQn:(Q:Int)≥(s.size:Int):=by omega
     have HR:=Qh (HF.out (show¬p+n≤_ by omega))
     have HPT:Hid (8*s.size=P):=Qh (by omega)
     clear hP hQ hR hpk hq hp hk hlt HT HF;go_wp2_with fail;go_quiet (fail);have h2:=hr.drewN nq;have m2:=hm.drewN nq;clear hr hm c0 c1 c2 f1 f2;generalize wr.drewN nq=wq at h2 m2⊢;have c0:=h2.c0;have c1:=h2.c1;have c2:wq.cell? ⟨g,2,none⟩=some (.int .i64 0):=h2.c2;have f1:=h2.fz 1;have f2:=h2.fz 2;go_wp2_with fail;go_ret;rw [HR.out,HPT.out];exact⟨rfl,h2.setE 2,m2.set 2 _⟩
   ·obtain rfl:k=n:=by omega
    have hlti:¬(k:Int)<(k:Int):=by omega
    have HR:=Qh (HT.out hpk);go_wp2_with fail;go_ret;rw [HR.out];exact⟨rfl,hr,hm⟩
 ·rw [Qew he];have he2:¬(x.e:Int)=0:=by omega
  have hb:((x.e:Int)==0)=false:=by simp;omega
  go_enter Tryz.func41,Tryz.ntmps41
  have HN:(0:Int)<(n:Int)∨¬(0:Int)<(n:Int):=by omega
  go_wp2_with fail;go_loopw [5,6] (fun u i wr=>i= .int .i64 0∧u= .int .i64 0∧w=wr) (fun _ i _=>0)
  case atStart=>exact⟨rfl,rfl,rfl⟩
  case round=>
   obtain⟨rfl,rfl,rfl⟩:=hrel;rcases HN with hn0|hn0
   all_goals
    go_wp2_with fail;go_ret;exact⟨rfl,h,Mv.refl _ _ _⟩
theorem FW.shape {g:Nat} {s:ByteArray} {M:Nat} {x:Fl} {v:Value} {w:World} (h:FW g s M x v w):∃p cap,v= .slice p x.o.length cap:=by
 rcases h.own.2 with⟨h1,h2⟩|⟨q,cap,cur,h1,_⟩
 ·exact⟨none,0,by rw [h1,h2]⟩
 ·exact⟨_,cap,h1⟩
theorem Qtu (l:List Nat) (b:Nat):bys (l++[b])=bys l++[Value.int .u8 (b:Int)]:=by simp [bys]
theorem Qqm {ops:Array Oper} {rest:List Oper} {o:Oper} {a:Act} {Q:Exit→Act→World→Prop} {g:Nat} {s:ByteArray} {M:Nat} {x:Fl} {v:Value} {w:World} (hgd:o.guard=none) (sl xx:Operand)
  (ho:o.op= .call {callee:= .builtin .append,args:=#[sl,xx],argTypes:=#[25,25]}) (hs:a.eval sl=v) (h:FW g s M x v w) (hn:x.o.length≤2097152)
  (hx:a.eval xx= .slice (some ⟨w.heap.size,0,none⟩) 1 1) (b:Nat)
  (k:∀q cap w',w'.cell? ⟨g,3,none⟩=some v→w'.frozen? ⟨g,3,none⟩=false→FW g s M ⟨x.p,x.e,x.o++[b]⟩ (.slice (some ⟨q,0,none⟩) (x.o.length+1) cap) (w'.setCell ⟨g,3,none⟩ (.slice (some ⟨q,0,none⟩) (x.o.length+1) cap))→
   Mv g v w (.slice (some ⟨q,0,none⟩) (x.o.length+1) cap) (w'.setCell ⟨g,3,none⟩ (.slice (some ⟨q,0,none⟩) (x.o.length+1) cap))→wpList Tryz.prog ops Q rest (a.put o.dst (.slice (some ⟨q,0,none⟩) (x.o.length+1) cap)) w'):
  wpList Tryz.prog ops Q (o::rest) a (w.alloc (.cells #[.int .u8 (b:Int)] 5)):=by
 have hb:Below w.heap.size w (w.alloc (.cells #[.int .u8 (b:Int)] 5)):=Qb.alloc Ql _;have h2:=h.below hb;obtain⟨i0,hi,hz0,hz1,hz2⟩:=info_parts Qr9;have hbn:=Blk.new w 5 #[.int .u8 (b:Int)];refine wpList_append_lies _ hgd sl xx 25 ho (g+1) 5 i0 (.int .u8 0) 1 1 Tryz.underlying25 hi hz0 hz1 hz2 rfl (by decide) v x.o.length _ hs h2.own ⟨w.heap.size,0,none⟩ 1 1 [.int .u8 (b:Int)] hx rfl
  (World.news_of_block hbn) (by intro u hu;rw [List.mem_singleton.1 hu];rfl) (by decide) (by unfold maxLen;omega) (by omega) (by have:=h2.lt;omega) _ rfl ?_
 intro q cap w' hown hgr hat hlt;have hgB:=h.lt;have hne:v.ownBlock≠some g:=fun e=>by have:=(h.ownB g e).1;omega
 have hblk:w'.heap[g]? =_:=hgr.block g (by have:=hb.size;omega) (fun e=>hne e.symm)
 have hbw:Blk w' g 90 #[.string s,.int .i64 (x.p:Int),.int .i64 (x.e:Int),v,.int .i64 (M:Int)]:=hblk.trans h2.blk;have hq:g+1≤q:=(World.ownsRow.lt hown q rfl).1;refine k q cap w' (hbw.cell 3) (hbw.frozen 3) ⟨hbw.set_ 3 _,?_⟩ (Mv.set ?_ 3 _)
 ·have:=ownsRow_setCell_below hown (a:=⟨g,3,none⟩) (Nat.lt_succ_self g) (.slice (some ⟨q,0,none⟩) (x.o.length+1) cap);show World.ownsRow _ _ _ _ _ (x.o++[b]).length (bys (x.o++[b]));rw [Qtu,List.length_append];exact this
 ·refine⟨hgr.os.trans hb.os,hgr.tape.trans hb.tape,hgr.output.trans hb.output,Nat.le_trans hb.size hgr.size,fun i hi2 _ hv=>(hgr.block i (Nat.lt_of_lt_of_le hi2 hb.size) (fun e=>hv e.symm)).trans (hb.block i hi2),fun i e=> ?_⟩;have e:q=i:=by injection e
  rcases hat with h1|h1
  ·exact .inl (by rw [h1,e])
  ·right
   have:=hb.size;omega
theorem Qif (g:Nat) (s:ByteArray) (M:Nat) (x:Fl) (v:Value) (b:Nat) (w:World) (h:FW g s M x v w) (hM:M≤1048576) (hn:x.o.length≤M):
  Calls Tryz.prog 69 #[.pointer (some ⟨g,0,none⟩),.int .u8 (b:Int)] w fun e w'=>e= .returned (.tuple #[])∧∃v',FW g s M (sayS M b x) v' w'∧Mv g v w v' w':=by
 have c2:=h.c2;have c3:=h.c3;have c4:=h.c4;have f2:=h.fz 2;by_cases he:x.e=0
 ·rw [he]at c2;replace c2:w.cell? ⟨g,2,none⟩=some (.int .i64 0):=c2;obtain⟨p,cap,hv⟩:=h.shape;subst hv;by_cases hl:x.o.length≥M
  ·have e:sayS M b x=⟨x.p,9,x.o⟩:=by unfold sayS;rw [if_neg (by omega),if_pos hl]
   rw [e];have hli:(x.o.length:Int)≥(M:Int):=by omega
   go_enter Tryz.func69,Tryz.ntmps69
   go_wp2_with fail;go_quiet (fail);have h2:=h.drewN nq;have m2:=(Mv.refl g (.slice p x.o.length cap) w).drewN nq;clear h c2 c3 c4 f2;generalize w.drewN nq=wq at h2 m2⊢;have c2:wq.cell? ⟨g,2,none⟩=_:=h2.c2;have f2:=h2.fz 2;go_wp2_with fail;exact bodyPost_end (results_none rfl _ _ _) rfl ⟨rfl,_,h2.setE 9,m2.set 2 _⟩
  ·have e:sayS M b x=⟨x.p,0,x.o++[b]⟩:=by unfold sayS;rw [if_neg (by omega),if_neg hl]
   rw [e];have hli:¬(x.o.length:Int)≥(M:Int):=by omega
   go_enter Tryz.func69,Tryz.ntmps69
   go_wp2_with fail;go_quiet (fail);have h2:=h.drewN nq;have m2:=(Mv.refl g (.slice p x.o.length cap) w).drewN nq;clear h c2 c3 c4 f2;generalize w.drewN nq=wq at h2 m2⊢;have c2:wq.cell? ⟨g,2,none⟩=some (.int .i64 (x.e:Int)):=h2.c2;rw [he]at c2;replace c2:wq.cell? ⟨g,2,none⟩=some (.int .i64 0):=c2;have c3:=h2.c3;have HE:=Qh he;go_wp2_with (at_builtin;refine Qqm rfl (.tmp 33) (.tmp 35) rfl rfl h2 (by omega) rfl b ?_;intro q cap2 w3 d3 e3 h3 m3)
   have h4:FW g s M ⟨x.p,0,x.o++[b]⟩ _ _:=HE.out▸h3;exact bodyPost_end (results_none rfl _ _ _) rfl ⟨rfl,_,h4,m2.trans m3⟩
 ·have e:sayS M b x=x:=if_pos he;rw [e];obtain⟨y,hy⟩:∃y:Int,(x.e:Int)=y:=⟨_,rfl⟩;have hy0:¬y=0:=by omega
  rw [hy]at c2;have HY:=Qh hy;clear he e hy;go_enter Tryz.func69,Tryz.ntmps69;go_wp2_with fail;go_quiet (fail);have h2:=h.drewN nq;have m2:=(Mv.refl g v w).drewN nq;clear h c2 c3 c4 f2;generalize w.drewN nq=wq at h2 m2⊢;have c2:=h2.c2;rw [HY.out]at c2;go_wp2_with fail;exact bodyPost_end (results_none rfl _ _ _) rfl ⟨rfl,_,h2,m2⟩
structure SyW (g:Nat) (s:ByteArray) (M:Nat) (x:Fl) (v:Value) (q:Nat) (p1:Option Addr) (c1:Nat) (p2:Option Addr) (c2 n:Nat) (f:Nat→Int) (w wr:World):Prop where
 fw:FW g s M x v wr
 m:Mv g v w v wr
 o:Blk wr q 125 #[.slice p1 n c1,.slice p2 n c2]
 l:IS p1 n c1 f wr
 c:IS p2 n c2 (fun i=>(Qa0 (toL f) n i:Int)) wr
section
variable {g:Nat} {s:ByteArray} {M:Nat} {x:Fl} {v:Value} {q:Nat} {p1:Option Addr} {c1:Nat} {p2:Option Addr} {c2 n:Nat} {f:Nat→Int} {w wr wr':World}
theorem SyW.below (h:SyW g s M x v q p1 c1 p2 c2 n f w wr) (hb:Below wr.heap.size wr wr'):SyW g s M x v q p1 c1 p2 c2 n f w wr':=
 ⟨h.fw.below hb,h.m.below hb,h.o.below hb h.o.lt,h.l.below hb,h.c.below hb⟩
theorem SyW.drew (h:SyW g s M x v q p1 c1 p2 c2 n f w wr):SyW g s M x v q p1 c1 p2 c2 n f w wr.drew:=
 ⟨h.fw.drew,h.m.drew,h.o.drew,⟨h.l.nil_,h.l.cell,h.l.lt,h.l.lo,h.l.hi⟩,⟨h.c.nil_,h.c.cell,h.c.lt,h.c.lo,h.c.hi⟩⟩
end
theorem Qje {B:Nat→Nat} {T n:Nat} {l:Nat→Nat} {x:Fl} (h:x.e≠0):symS B T l n x=(0,x):=if_pos h
theorem Qwj {B:Nat→Nat} {T n:Nat} {l:Nat→Nat} {x:Fl} (h:x.e=0) {k q:Nat} (e:Qc0 l n B T x.p 0 15=(k,q,0)):symS B T l n x=(k,⟨q,0,x.o⟩):=by
 unfold symS;rw [if_neg (by omega),e];rfl
theorem Qr4 {B:Nat→Nat} {T n:Nat} {l:Nat→Nat} {x:Fl} (h:x.e=0) {k q e:Nat} (e1:Qc0 l n B T x.p 0 15=(k,q,e+1)):symS B T l n x=(0,⟨x.p,2,x.o⟩):=by
 unfold symS;rw [if_neg (by omega),e1];rfl
theorem Qls (g:Nat) (s:ByteArray) (M:Nat) (x:Fl) (v:Value) (p1:Option Addr) (n1 c1:Nat) (p2:Option Addr) (n2 c2:Nat) (w:World) (h:FW g s M x v w) (he:x.e≠0):
  Calls Tryz.prog 71 #[.pointer (some ⟨g,0,none⟩),.agg #[.slice p1 n1 c1,.slice p2 n2 c2]] w fun e w'=>e= .returned (.int .i64 0)∧FW g s M x v w'∧Mv g v w v w':=by
 obtain⟨y,hy⟩:∃y:Int,(x.e:Int)=y:=⟨_,rfl⟩;have hy0:¬y=0:=by omega
 have hyn:(y !=0)=true:=by simp;omega
 have hb0:=(Below.refl _ w).alloc Ql (.cells #[.slice p1 n1 c1,.slice p2 n2 c2] 125);have h2:=h.below hb0;have m2:=(Mv.refl g v w).below hb0;have c2:=h2.c2;rw [hy]at c2;clear h he hb0;go_enter Tryz.func71,Tryz.ntmps71;go_wp2_with fail;go_ret;exact⟨rfl,h2,m2⟩
theorem Qig (g:Nat) (s:ByteArray) (M:Nat) (x:Fl) (v:Value) (p1:Option Addr) (c1:Nat) (p2:Option Addr) (c2 n:Nat) (f:Nat→Int) (w:World) (h:FW g s M x v w) (hn:n≤300) (hok:okB f n=true)
  (h1:IS p1 n c1 f w) (h2:IS p2 n c2 (fun i=>(Qa0 (toL f) n i:Int)) w) (hs:s.size≤281474976710656) (hp:x.p<9223372036854775808):
  Calls Tryz.prog 71 #[.pointer (some ⟨g,0,none⟩),.agg #[.slice p1 n c1,.slice p2 n c2]] w fun e w'=>e= .returned (.int .i64 ((symS (bitH s) (8*s.size) (toL f) n x).1:Int))∧FW g s M (symS (bitH s) (8*s.size) (toL f) n x).2 v w'∧Mv g v w v w':=by
 by_cases he:x.e=0
 ·obtain⟨r,hr⟩:∃r,Qc0 (toL f) n (bitH s) (8*s.size) x.p 0 15=r:=⟨_,rfl⟩;have HR:=Qh hr;have HOK:=Qh hok;have hb0:=(Below.refl _ w).alloc Ql (.cells #[.slice p1 n c1,.slice p2 n c2] 125);have H0:Hid (SyW g s M x v w.heap.size p1 c1 p2 c2 n f w (w.alloc (.cells #[.slice p1 n c1,.slice p2 n c2] 125))):=Qh ⟨h.below hb0,(Mv.refl g v w).below hb0,Blk.new w _ _,h1.below hb0,h2.below hb0⟩;have HE:=Qh he;have k2:=H0.out.fw.c2;rw [he]at k2;replace k2:World.cell? _ ⟨g,2,none⟩=some (.int .i64 0):=k2;clear he hr hok hb0 h h1 h2;go_enter Tryz.func71,Tryz.ntmps71;go_wp2_with fail;obtain⟨q,hq⟩:∃q,q=w.heap.size:=⟨_,rfl⟩;rw [←hq]at H0⊢;clear k2 hq;refine Qad (Two 1000 1001 fun _ _ wx=>SyW g s M x v q p1 c1 p2 c2 n f w wx) (by kernel_rfl) H0.out.drew ?_
  refine Qaa (i:=0) (v:= .agg #[.slice p1 n c1,.slice p2 n c2]) rfl (Qaf rfl (fun f1 f2 wx hT=> ?_)) ?_
  ·exact Qia 125 (.tmp 3) rfl q rfl 125 _ _ hT.o Tryz.underlying125 rfl (by kernel_rfl) hT
  simp only [pu];refine tA (i:=1) rfl rfl ?_;simp only [pu];refine tA (i:=2) rfl rfl ?_;simp only [pu];refine tA (i:=3) rfl rfl ?_;simp only [pu];refine tL (i:=4) (v:= .string s) rfl rfl (fun f1 f2 wx hT=> ?_) ?_
  ·have c0:=hT.fw.c0;go_simp;skip
  simp only [pu];refine tA (i:=5) rfl rfl ?_;simp only [pu];refine tA (i:=6) rfl rfl ?_;simp only [pu];refine tA (i:=7) rfl rfl ?_;simp only [pu];refine tL (i:=8) (v:= .int .i64 (x.p:Int)) rfl rfl (fun f1 f2 wx hT=> ?_) ?_
  ·have c1:=hT.fw.c1;go_simp;skip
  simp only [pu];refine Qaa (i:=9) (v:= .tuple #[.int .i64 (r.1:Int),.int .i64 (r.2.1:Int),.int .i64 (r.2.2:Int)]) rfl (Qaf rfl (fun f1 f2 wx hT=> ?_)) ?_
  ·refine Qao (f:=105) ((Qs1 p1 c1 p2 c2 n f s x.p wx hn HOK.out hT.l hT.c hs hp r HR.out).mono fun e w' ⟨he,hb⟩=>⟨he,hT.below hb⟩) ?_;go_simp;skip
  simp only [pu];refine tA (i:=10) rfl rfl ?_;simp only [pu];refine tA (i:=11) rfl rfl ?_;simp only [pu];refine tA (i:=12) rfl rfl ?_;simp only [pu];refine tA (i:=13) rfl rfl ?_;simp only [pu];refine tA (i:=14) rfl rfl ?_;simp only [pu];refine tA (i:=15) rfl rfl ?_;simp only [pu];refine tA (i:=16) rfl rfl ?_;simp only [pu];refine Qag rfl ?_ _;intro wx hT;replace hT:SyW g s M x v q p1 c1 p2 c2 n f w wx:=hT;obtain⟨k,z,e⟩:=r;cases e with
  |zero=>
   have HS:=Qh (Qwj HE.out HR.out);have fz:=hT.fw.fz 1;have c1:=hT.fw.c1;go_wp2_with fail;go_ret;rw [HS.out];have h4:FW g s M ⟨z,0,x.o⟩ v _:=HE.out▸hT.fw.setP z;exact⟨rfl,h4,hT.m.set 1 _⟩
  |succ e=>
   have HS:=Qh (Qr4 HE.out HR.out);have fz:=hT.fw.fz 2;have c2:=hT.fw.c2;have hen:(((e+1:Nat):Int) !=0)=true:=by simp;omega
   have hen0:¬((e+1:Nat):Int)=0:=by omega
   generalize ((e+1:Nat):Int)=E at hen hen0⊢;go_wp2_with fail;go_ret;rw [HS.out];exact⟨rfl,hT.fw.setE 2,hT.m.set 2 _⟩
 ·rw [Qje he];exact Qls g s M x v p1 n c1 p2 n c2 w h he
def okF (T M:Nat) (x:Fl):Prop:=(x.e=0→x.p≤T)∧x.o.length≤M
theorem Qck (s:ByteArray) (T n:Nat) (x:Fl):(Qal (bitH s) T n x).1<2^n:=by
 unfold Qal;split
 ·exact Nat.two_pow_pos n
 ·split
  ·exact Qzi (Qeq s) _ _
  ·exact Nat.two_pow_pos n
theorem Qlx (B:Nat→Nat) (T n:Nat) (x:Fl):(Qal B T n x).2.o=x.o:=by unfold Qal;split;rfl;split<;>rfl
theorem Qb5 {B:Nat→Nat} {T M n:Nat} {x:Fl} (h:okF T M x):okF T M (Qal B T n x).2:=by
 refine⟨?_,by rw [Qlx];exact h.2⟩
 unfold Qal;split
 ·exact h.1
 ·split
  ·intro _;assumption
  ·intro h2;exact absurd (show 2=0 from h2) (by decide)
theorem Q1i {T M b:Nat} {x:Fl} (h:okF T M x):okF T M (sayS M b x):=by
 unfold sayS;split
 ·exact h
 ·have hp:=h.1 (by omega)
  split
  ·exact⟨fun h2=>absurd (show 9=0 from h2) (by decide),h.2⟩
  ·exact⟨fun _=>hp,by show(x.o++[b]).length≤M;rw [List.length_append];simp only [List.length_cons,List.length_nil];omega⟩
theorem Qdm {B:Nat→Nat} {T M n:Nat} {x:Fl} (h:x.e≠0):Qdl B T M n x=x:=by
 cases n with
 |zero=>rfl
 |succ n=>exact if_pos h
theorem Qg9 {B:Nat→Nat} {T M n:Nat} {x:Fl} (h:x.e=0):Qdl B T M (n+1) x=Qdl B T M n (sayS M (Qal B T 8 x).1 (Qal B T 8 x).2):=if_neg (by omega)
def Qii (B:Nat→Nat) (T:Nat) (x:Fl):Nat×Fl:=
 let a:=Qal B T 16 ⟨(x.p+7) /8*8,x.e,x.o⟩
 let b:=Qal B T 16 a.2
 (a.1,if b.2.e=0∧b.1+a.1≠65535 then⟨b.2.p,2,b.2.o⟩else b.2)
theorem Qs9 (B:Nat→Nat) (T M:Nat) (x:Fl):Qb8 B T M x=Qdl B T M (Qii B T x).1 (Qii B T x).2:=rfl
theorem Qs7 {B:Nat→Nat} {t M:Nat} {x:Fl} (h:okF (8*t) M x):okF (8*t) M (Qii B (8*t) x).2:=by
 have h0:okF (8*t) M ⟨(x.p+7) /8*8,x.e,x.o⟩:=⟨fun he=>by have:=h.1 he;show(x.p+7) /8*8≤8*t;omega,h.2⟩
 have h2:okF (8*t) M _:=Qb5 (B:=B) (n:=16) (Qb5 (B:=B) (n:=16) h0);unfold Qii;simp only;split
 ·exact⟨fun h3=>absurd (show 2=0 from h3) (by decide),h2.2⟩
 ·exact h2
theorem Qmx (g:Nat) (s:ByteArray) (M:Nat) (x:Fl) (v:Value) (w:World) (h:FW g s M x v w) (hs:s.size≤281474976710656) (he:x.e=0) (hM:M≤1048576) (hok:okF (8*s.size) M x):
  Calls Tryz.prog 42 #[.pointer (some ⟨g,0,none⟩)] w fun e w'=>e= .returned (.tuple #[])∧∃v',FW g s M (Qb8 (bitH s) (8*s.size) M x) v' w'∧Mv g v w v' w':=by
 have hp:=hok.1 he;have HK:=Qh (Qs7 (B:=bitH s) hok);rw [Qs9];obtain⟨H,hH⟩:∃H,H=Qii (bitH s) (8*s.size) x:=⟨_,rfl⟩;rw [←hH]at HK⊢;obtain⟨Q,hQ⟩:∃Q,Q=(x.p+7) /8:=⟨_,rfl⟩;have hq1:((x.p:Int)+7).tdiv 8=(Q:Int):=by rw [Int.tdiv_eq_ediv_of_nonneg (by omega)];omega
 have hq2:((x.p:Int)+7) /8=(Q:Int):=by omega
 have hqs:Q≤s.size:=by omega
 have e8:(Q:Int)*8=((Q*8:Nat):Int):=by omega
 have hqw:IntKind.i64.wrap (Q:Int)=(Q:Int):=IntWalk.i64_in _ (by omega)
 have hok0:okF (8*s.size) M ⟨Q*8,x.e,x.o⟩:=⟨fun _=>by show Q*8≤_;omega,hok.2⟩
 have HH:=Qh hH;have HQ:=Qh hQ;have k1:=h.c1;have f1:=h.fz 1;have h0:=h.setP (Q*8);have m0:=(Mv.refl g v w).set 1 (.int .i64 ((Q*8:Nat):Int));have E8:=Qh e8;clear hH hQ h e8;go_enter Tryz.func42,Tryz.ntmps42;go_wp2_with fail;rw [E8.out];clear k1 f1 E8 hq1 hq2;generalize w.setCell ⟨g,1,none⟩ (.int .i64 ((Q*8:Nat):Int))=wa at h0 m0⊢;refine(Qbg g s M ⟨Q*8,x.e,x.o⟩ v 16 wa h0 hs hok0.1 (by omega)).mono ?_
 rintro e w1 ⟨rfl,h1,m1⟩;have ok1:=Qb5 (B:=bitH s) (n:=16) hok0;have l1:=Qck s (8*s.size) 16 ⟨Q*8,x.e,x.o⟩;obtain⟨a,ha⟩:∃a,a=Qal (bitH s) (8*s.size) 16 ⟨Q*8,x.e,x.o⟩:=⟨_,rfl⟩;rw [←ha]at h1 ok1 l1⊢;replace m1:=m0.trans m1;have HAA:=Qh ha;clear m0 h0 hok0 ha;go_wp2_with fail;refine(Qbg g s M a.2 v 16 w1 h1 hs ok1.1 (by omega)).mono ?_
 rintro e w2 ⟨rfl,h2,m2⟩;have ok2:=Qb5 (B:=bitH s) (n:=16) ok1;have l2:=Qck s (8*s.size) 16 a.2;obtain⟨b,hb⟩:∃b,b=Qal (bitH s) (8*s.size) 16 a.2:=⟨_,rfl⟩;rw [←hb]at h2 ok2 l2⊢;replace m2:=m1.trans m2;clear m1 h1 ok1;have HV:Hid (H=(a.1,if b.2.e=0∧b.1+a.1≠65535 then⟨b.2.p,2,b.2.o⟩else b.2)):=Qh (by
  rw [HH.out];unfold Qii;rw [←HQ.out];simp only;rw [←HAA.out,←hb])
 clear HAA hb HH HQ;obtain⟨A,ha⟩:∃A,A=a.1:=⟨_,rfl⟩;obtain⟨D,hd⟩:∃D,D=b.1:=⟨_,rfl⟩;have HA1:Hid (H.1=A):=Qh (by rw [HV.out,ha])
 rw [←ha]at l1 HV⊢;rw [←hd]at l2 HV⊢;clear ha hd;have k2:=h2.c2;have hl1:(A:Int)<65536:=by omega
 have hl2:(D:Int)<65536:=by omega
 have L2:=Qh l2;have L1:=Qh l1;clear l1 l2;obtain⟨Z,hZ⟩:∃Z:Int,65535-(A:Int)=Z:=⟨_,rfl⟩;have hZw:IntKind.i64.wrap Z=Z:=IntWalk.i64_in _ (by omega)
 have hZb: -65536<Z∧Z<65536:=by omega
 obtain⟨E,hE⟩:∃E:Int,(b.2.e:Int)=E:=⟨_,rfl⟩;rw [hE]at k2;by_cases hbad:b.2.e=0∧D+A≠65535
 ·have HY:Hid (H.2=⟨b.2.p,2,b.2.o⟩):=Qh (by rw [HV.out,if_pos hbad])
  have e0:E=0:=by omega
  have hne:¬(D:Int)=Z:=by omega
  have fz:=h2.fz 2;have h3:=h2.setE 2;have m3:=m2.set 2 (.int .i64 ((2:Nat):Int));clear hE HV hbad;subst e0;have hneb:((D:Int) !=Z)=true:=by simp;omega
  have HZ:=Qh hZ;clear hl1 hl2 hne hZb;dsimp only
  iterate 38 go_step
  clear hZ hZw hneb;go_wp2_with fail;generalize w2.setCell ⟨g,2,none⟩ (.int .i64 2)=wz at*;have HC:Hid (Qdl (bitH s) (8*s.size) M H.1 H.2=⟨b.2.p,2,b.2.o⟩):=Qh (by rw [HY.out];exact Qdm (fun h=>absurd (show 2=0 from h) (by decide)))
  have hAor:(0:Int)<(A:Int)∨¬(0:Int)<(A:Int):=by omega
  have c2:wz.cell? ⟨g,2,none⟩=some (.int .i64 2):=h3.c2;go_loopw [4] (fun i wr=>i= .int .i64 0∧wz=wr) (fun _ _=>0)
  case atStart=>exact⟨rfl,rfl⟩
  case round=>
   obtain⟨rfl,rfl⟩:=hrel;rcases hAor with hA0|hA0
   all_goals
    go_wp2_with fail;go_end0;rw [HC.out];exact⟨rfl,v,h3,m3⟩
 ·have HY:Hid (H.2=b.2):=Qh (by rw [HV.out,if_neg hbad])
  by_cases he0:E=0
  ·have hneb:((D:Int) !=Z)=false:=by simp;omega
   have HZ:=Qh hZ;clear hE HV hbad;subst he0;clear hl1 hl2 hZb;dsimp only
   iterate 38 go_step
   clear hZ hZw hneb;go_wp2_with fail;have h3:=HY.out.symm▸h2;clear h2 k2;go_loopw [4] (fun i wr=>∃(k:Nat) (y:Fl) (v':Value),k≤A∧i= .int .i64 (k:Int)∧Hid (Qdl (bitH s) (8*s.size) M (A-k) y=Qdl (bitH s) (8*s.size) M H.1 H.2)∧Hid (okF (8*s.size) M y)∧FW g s M y v' wr∧Mv g v w v' wr) (fun i _=>A-(intOf i).toNat)
   case atStart=>exact⟨0,H.2,v,by omega,rfl,Qh (by rw [HA1.out];rfl),HK,h3,m2⟩
   case round=>
    obtain⟨k,y,v',hk,rfl,HC,HO,hr,hm⟩:=hrel;clear h3 m2;have k2:=hr.c2;by_cases hlt:k<A
    ·have hlti:(k:Int)<(A:Int):=by omega
     by_cases hye:y.e=0
     ·rw [hye]at k2;replace k2:wr.cell? ⟨g,2,none⟩=some (.int .i64 0):=k2;obtain⟨q,hq⟩:∃q,A-k=q+1:=⟨A-k-1,by omega⟩
      have HN:=Qh (by rw [←HC.out,hq,Qg9 hye]:Qdl (bitH s) (8*s.size) M H.1 H.2=Qdl (bitH s) (8*s.size) M q (sayS M (Qal (bitH s) (8*s.size) 8 y).1 (Qal (bitH s) (8*s.size) 8 y).2))
      have hq2:q=A-(k+1):=by omega
      have HQ2:=Qh hq2;have HKN:Hid (k<A):=Qh hlt;have HK1:Hid (wrap64 ((k:Int)+1)=((k+1:Nat):Int)):=Qh (by have:=L1.out;rw [IntWalk.wrap64_in _ (by omega)];rfl)
      clear hye hq hq2 HC;go_wp2_with fail;refine(Qbg g s M y v' 8 wr hr hs HO.out.1 (by omega)).mono ?_
      rintro e w5 ⟨rfl,h5,m5⟩;replace m5:=hm.trans m5;have ok5:=Qh (Qb5 (B:=bitH s) (n:=8) HO.out);have l5:=Qck s (8*s.size) 8 y;obtain⟨a,ha⟩:∃a,a=Qal (bitH s) (8*s.size) 8 y:=⟨_,rfl⟩;rw [←ha]at h5 ok5 l5 HN⊢;obtain⟨c,hc⟩:∃c,c=a.1:=⟨_,rfl⟩;rw [←hc]at l5 HN⊢;have hc8:IntKind.u8.wrap (c:Int)=(c:Int):=by rw [IntKind.wrap_u8];omega
      have hc256:(c:Int)<256:=by omega
      clear ha hc l5 hr hm k2 HO;dsimp only;go_wp2_with fail;refine(Qif g s M a.2 v' c w5 h5 hM ok5.out.2).mono ?_;rintro e w6 ⟨rfl,v6,h6,m6⟩;have ok6:=Qh (Q1i (b:=c) ok5.out);replace m6:=m5.trans m6;obtain⟨y6,hy6⟩:∃y6,y6=sayS M c a.2:=⟨_,rfl⟩;rw [←hy6]at h6 ok6 HN;clear hy6 h5 m5 ok5;go_wp2_with fail;rw [HK1.out];have hkn:=HKN.out;exact⟨⟨k+1,y6,v6,by omega,rfl,Qh (by rw [←HQ2.out];exact HN.out.symm),ok6,h6,m6⟩,by simp only [intOf];omega⟩
     ·have HS:Hid (Qdl (bitH s) (8*s.size) M H.1 H.2=y):=Qh (by rw [←HC.out];exact Qdm hye)
      obtain⟨E,hE⟩:∃E:Int,(y.e:Int)=E:=⟨_,rfl⟩;rw [hE]at k2;have he0:¬E=0:=by omega
      have heb:(E==0)=false:=by simp;omega
      clear hE hye;go_wp2_with fail;go_end0;rw [HS.out];exact⟨rfl,v',hr,hm⟩
    ·obtain rfl:k=A:=by omega
     have hlti:¬(k:Int)<(k:Int):=by omega
     have HS:Hid (Qdl (bitH s) (8*s.size) M H.1 H.2=y):=Qh (by rw [←HC.out,Nat.sub_self];rfl)
     go_wp2_with fail;go_end0;rw [HS.out];exact⟨rfl,v',hr,hm⟩
  ·have heb:(E==0)=false:=by simp;omega
   have hye:b.2.e≠0:=by omega
   have HC:Hid (Qdl (bitH s) (8*s.size) M H.1 H.2=b.2):=Qh (by rw [HY.out];exact Qdm hye)
   have hAor:(0:Int)<(A:Int)∨¬(0:Int)<(A:Int):=by omega
   clear hE HV hbad hl1 hl2 hZb hZ hZw hye;dsimp only;go_wp2_with fail;go_loopw [4] (fun i wr=>i= .int .i64 0∧w2=wr) (fun _ _=>0)
   case atStart=>exact⟨rfl,rfl⟩
   case round=>
    obtain⟨rfl,rfl⟩:=hrel;rcases hAor with hA0|hA0
    all_goals
     go_wp2_with fail;go_end0;rw [HC.out];exact⟨rfl,v,h2,m2⟩
structure UW (g:Nat) (s:ByteArray) (M p:Nat) (o:List Nat) (v k1 k2:Value) (w:World):Prop where
 blk:Blk w g 84 #[.string s,.int .i64 (p:Int),.int .i64 (M:Int),v,k1,k2]
 own:w.ownsRow (g+1) 5 1 v o.length (bys o)
section
variable {g:Nat} {s:ByteArray} {M p:Nat} {o:List Nat} {v k1 k2:Value} {w w':World}
theorem UW.lt (h:UW g s M p o v k1 k2 w):g<w.heap.size:=h.blk.lt
theorem UW.c0 (h:UW g s M p o v k1 k2 w):w.cell? ⟨g,0,none⟩=some (.string s):=h.blk.cell 0
theorem UW.c1 (h:UW g s M p o v k1 k2 w):w.cell? ⟨g,1,none⟩=some (.int .i64 (p:Int)):=h.blk.cell 1
theorem UW.c2 (h:UW g s M p o v k1 k2 w):w.cell? ⟨g,2,none⟩=some (.int .i64 (M:Int)):=h.blk.cell 2
theorem UW.c3 (h:UW g s M p o v k1 k2 w):w.cell? ⟨g,3,none⟩=some v:=h.blk.cell 3
theorem UW.c4 (h:UW g s M p o v k1 k2 w):w.cell? ⟨g,4,none⟩=some k1:=h.blk.cell 4
theorem UW.c5 (h:UW g s M p o v k1 k2 w):w.cell? ⟨g,5,none⟩=some k2:=h.blk.cell 5
theorem UW.fz (h:UW g s M p o v k1 k2 w) (j:Nat):w.frozen? ⟨g,j,none⟩=false:=h.blk.frozen j
theorem UW.setP (h:UW g s M p o v k1 k2 w) (q:Nat):UW g s M q o v k1 k2 (w.setCell ⟨g,1,none⟩ (.int .i64 (q:Int))):=
 ⟨h.blk.set_ 1 _,ownsRow_setCell_below h.own (a:=⟨g,1,none⟩) (Nat.lt_succ_self g) _⟩
theorem UW.drew (h:UW g s M p o v k1 k2 w):UW g s M p o v k1 k2 w.drew:=⟨h.blk.drew,h.own.drew⟩
theorem UW.drewN (h:UW g s M p o v k1 k2 w) (n:Nat):UW g s M p o v k1 k2 (w.drewN n):=⟨h.blk.drewN n,h.own⟩
theorem UW.below (h:UW g s M p o v k1 k2 w) (hb:Below w.heap.size w w'):UW g s M p o v k1 k2 w':=by
 refine⟨h.blk.below hb h.lt,h.own.1,?_⟩;rcases h.own.2 with h1|⟨q,cap,cur,h1,h2,h3,h4⟩
 ·exact .inl h1
 ·refine .inr ⟨q,cap,cur,h1,h2,?_,h4⟩;rw [hb.block q (by
   rcases Nat.lt_or_ge q w.heap.size with hlt|hge
   ·exact hlt
   ·rw [Array.getElem?_eq_none hge]at h3;cases h3)]
  exact h3
theorem UW.ownB (h:UW g s M p o v k1 k2 w):∀k,v.ownBlock=some k→g+1≤k∧k<w.heap.size:=World.ownsRow.lt h.own
end
def numS (B:Nat→Nat) (T p least n:Nat):Nat×Bool×Nat:=if p+n≤T then(least+vb B p n,true,p+n)else (0,false,p)
theorem Qdx {B:Nat→Nat} {T p least n:Nat} (h:p+n≤T):numS B T p least n=(least+vb B p n,true,p+n):=if_pos h
theorem Qfb {B:Nat→Nat} {T p least n:Nat} (h:¬p+n≤T):numS B T p least n=(0,false,p):=if_neg h
theorem Qcl (g:Nat) (s:ByteArray) (M p:Nat) (o:List Nat) (v k1 k2:Value) (least n:Nat) (w:World) (h:UW g s M p o v k1 k2 w) (hs:s.size≤281474976710656) (hp:p≤8*s.size) (hn:n≤16) (hl:least≤100000):
  Calls Tryz.prog 65 #[.pointer (some ⟨g,0,none⟩),.int .i64 (least:Int),.int .i64 (n:Int)] w fun e w'=>e= .returned (.tuple #[.int .i64 ((numS (bitH s) (8*s.size) p least n).1:Int),.bool (numS (bitH s) (8*s.size) p least n).2.1])∧UW g s M (numS (bitH s) (8*s.size) p least n).2.2 o v k1 k2 w'∧Mv g v w v w':=by
 have c0:=h.c0;have c1:=h.c1;obtain⟨T,hT⟩:∃T,T=8*s.size:=⟨_,rfl⟩;have hw1:IntKind.i64.wrap (8*(s.size:Int))=(T:Int):=by rw [IntWalk.i64_in _ (by omega)];omega
 have hw2:IntKind.i64.wrap ((T:Int)-(p:Int))=(T:Int)-(p:Int):=IntWalk.i64_in _ (by omega)
 by_cases hin:p+n≤8*s.size
 ·rw [Qdx hin];have hgt:¬(n:Int)>(T:Int)-(p:Int):=by omega
  have HT:=Qh hT;have HIN:=Qh hin;clear hT hin;go_enter Tryz.func65,Tryz.ntmps65;go_wp2_with fail;go_quiet (fail);have h2:=h.drewN nq;have m2:=(Mv.refl g v w).drewN nq;clear h c0 c1;generalize w.drewN nq=w0 at h2 m2⊢;go_wp2_with fail;go_loopw [8,24] (fun u i wr=>∃k:Nat,k≤n∧i= .int .i64 (k:Int)∧u= .int .i64 (vb (bitH s) p k:Int)∧UW g s M (p+k) o v k1 k2 wr∧Mv g v w v wr) (fun _ i _=>n-(intOf i).toNat)
  case atStart=>exact⟨0,by omega,rfl,rfl,h2,m2⟩
  case round=>
   obtain⟨k,hk,rfl,rfl,hr,hm⟩:=hrel;clear h2 m2;have c0:=hr.c0;have c1:=hr.c1;have f1:=hr.fz 1;by_cases hlt:k<n
   ·obtain⟨P,hP⟩:∃P,P=p+k:=⟨_,rfl⟩;obtain⟨Q,hQ⟩:∃Q,Q=P /8:=⟨_,rfl⟩;obtain⟨R,hR⟩:∃R,R=P%8:=⟨_,rfl⟩;rw [←hP]at c1 hr;have hin:=HIN.out;have hq:Q<s.size:=by omega
    have hz1:(P:Int).tdiv 8=(Q:Int):=by rw [Int.tdiv_eq_ediv_of_nonneg (by omega)];omega
    have hz2:(P:Int) /8=(Q:Int):=by omega
    have hR1:(P:Int).tmod 8=(R:Int):=by rw [Int.tmod_eq_emod_of_nonneg (by omega)];omega
    have hR2:(P:Int)%8=(R:Int):=by omega
    have hQw:IntKind.i64.wrap (Q:Int)=(Q:Int):=IntWalk.i64_in _ (by omega)
    have hlti:(k:Int)<(n:Int):=by omega
    have hR8:R<8:=by omega
    have hmin:min R 8=R:=by omega
    have HBS:Hid (bitH s P=Qac s Q /2^R%2):=Qh (by unfold bitH;rw [←hQ,←hR])
    have HP1:=Qh hP;have HPT:Hid (P<8*s.size∧k<n):=Qh ⟨by omega,hlt⟩
    clear hP hQ hR hp hlt hin;go_wp2_with fail;go_quiet (fail);have HV:Hid (bits .or .i64 (vb (bitH s) p k:Int) (wrap64 (wrap64 (bits .and .u8 (((s[Q]).toNat:Int) /2^R) 1)*2^k))=(vb (bitH s) p (k+1):Int)):=Qh (Qw1 _ (Qeq s) p k (by have:=HPT.out;omega) _ (by
     rw [Qa2 s Q hq,Qqt _ _ (Qaz _ _),←HBS.out,HP1.out]))
    rw [HV.out];have h3:=hr.drewN nq;have m3:=hm.drewN nq;clear hr hm c0 c1 f1;generalize wr.drewN nq=wz at h3 m3⊢;have c1:=h3.c1;have f1:=h3.fz 1;have hPw:IntKind.i64.wrap ((P:Int)+1)=((P+1:Nat):Int):=by have:=HPT.out;rw [IntWalk.i64_in _ (by omega)];rfl
    have HPT2:Hid ((P:Int)+1<9000000000000000000):=Qh (by have:=HPT.out;omega)
    go_wp2_with fail;have hP1:=HP1.out;have hPT:=HPT.out;have h4:=h3.setP (P+1);rw [show P+1=p+(k+1)by omega]at h4
    rw [show (P:Int)+1=((p+(k+1):Nat):Int)by omega]
    exact⟨⟨k+1,by omega,rfl,rfl,h4,m3.set 1 _⟩,by simp only [intOf];omega⟩
   ·obtain rfl:k=n:=by omega
    have hlti:¬(k:Int)<(k:Int):=by omega
    have hvl:=Qzi (Qeq s) p k;have h16:2^k≤2^16:=Nat.pow_le_pow_right (by decide) hn
    have HW:IntKind.i64.wrap ((least:Int)+(vb (bitH s) p k:Int))=(least:Int)+(vb (bitH s) p k:Int):=IntWalk.i64_in _ (by omega)
    clear hvl h16;go_wp2_with fail;go_ret2;exact⟨rfl,hr,hm⟩
 ·rw [Qfb hin];have hgt:(n:Int)>(T:Int)-(p:Int):=by omega
  clear hT hin;go_enter Tryz.func65,Tryz.ntmps65;go_wp2_with fail;go_quiet (fail);have h2:=h.drewN nq;have m2:=(Mv.refl g v w).drewN nq;clear h c0 c1;generalize w.drewN nq=w0 at h2 m2⊢;go_wp2_with fail;go_ret2;exact⟨rfl,h2,m2⟩
section
variable {g:Nat} {s:ByteArray} {M p:Nat} {o:List Nat} {v k1 k2:Value} {w w':World}
theorem UW.own_cells (h:UW g s M p o v k1 k2 w) {k:Nat} (e:v.ownBlock=some k):∃cs,w.heap[k]? =some (.cells cs 5 (0,0)):=by
 rcases h.own.2 with⟨h1,_⟩|⟨q,cap,cur,h1,_,h3,_⟩
 ·subst h1;cases e
 ·subst h1;have e:q=k:=by injection e
  subst e;exact⟨_,h3⟩
theorem Qa8.mv {c:Value} {f:Nat→Int} {n:Nat} {v':Value} (h:Qa8 c f n w) (hu:UW g s M p o v k1 k2 w) (m:Mv g v w v' w'):Qa8 c f n w':=by
 obtain⟨h1,h2,h3,w1,h4,⟨D,⟨es,clock,e1,e2⟩,h5⟩,h6⟩:=h;have hb:=hu.blk;unfold Blk at hb;refine⟨h1,h2,h3,w1,h4,⟨D,⟨es,clock,(m.block _ ?_ ?_ ?_).trans e1,e2⟩,h5⟩,(m.block _ h6.lt ?_ ?_).trans h6⟩
 ·exact World.ownsMap.lt (H:=Unit) ⟨es,clock,e1,e2⟩
 ·rintro rfl;rw [e1]at hb;cases hb
 ·intro e;obtain⟨cs,h7⟩:=hu.own_cells e;rw [e1]at h7;cases h7
 ·rintro rfl;unfold Blk at h6;rw [h6]at hb
  injection hb with hb
  injection hb with _ hb
  exact absurd hb (by decide)
 ·intro e;obtain⟨cs,h7⟩:=hu.own_cells e;unfold Blk at h6;rw [h6]at h7
  injection h7 with h7
  injection h7 with _ h7
  exact absurd h7 (by decide)
end
def symR (B:Nat→Nat) (T:Nat) (l:Nat→Nat) (n p:Nat):Nat×Bool×Nat:=
 match Qc0 l n B T p 0 15 with
 |(k,q,0)=>(k,true,q)
 |_=>(0,false,p)
theorem Qf4 {B:Nat→Nat} {T:Nat} {l:Nat→Nat} {n p k q:Nat} (h:Qc0 l n B T p 0 15=(k,q,0)):symR B T l n p=(k,true,q):=by unfold symR;rw [h];rfl
theorem Qfh {B:Nat→Nat} {T:Nat} {l:Nat→Nat} {n p k q e:Nat} (h:Qc0 l n B T p 0 15=(k,q,e+1)):symR B T l n p=(0,false,p):=by unfold symR;rw [h];rfl
theorem Qle (g:Nat) (s:ByteArray) (M p:Nat) (o:List Nat) (v k1 k2:Value) (w:World) (h:UW g s M p o v k1 k2 w) (hp:p≤2251799813685248):
  Calls Tryz.prog 39 #[.pointer (some ⟨g,0,none⟩)] w fun e w'=>e= .returned (.int .i64 (((p+7) /8:Nat):Int))∧w=w':=by
 have c1:=h.c1;obtain⟨Q,hQ⟩:∃Q,Q=(p+7) /8:=⟨_,rfl⟩;rw [←hQ];have hw:IntKind.i64.wrap ((p:Int)+7)=(p:Int)+7:=IntWalk.i64_in _ (by omega)
 have hq1:((p:Int)+7).tdiv 8=(Q:Int):=by rw [Int.tdiv_eq_ediv_of_nonneg (by omega)];omega
 have hq2:((p:Int)+7) /8=(Q:Int):=by omega
 have hqw:IntKind.i64.wrap (Q:Int)=(Q:Int):=IntWalk.i64_in _ (by omega)
 clear hQ;go_enter Tryz.func39,Tryz.ntmps39;go_wp2_with fail;go_ret;exact⟨rfl,rfl⟩
theorem Qso (g:Nat) (s:ByteArray) (M p:Nat) (o:List Nat) (v k1 k2:Value) (w:World) (h:UW g s M p o v k1 k2 w) (hp:p≤2251799813685248):
  Calls Tryz.prog 99 #[.pointer (some ⟨g,0,none⟩)] w fun e w'=>e= .returned (.tuple #[])∧UW g s M ((p+7) /8*8) o v k1 k2 w'∧Mv g v w v w':=by
 have C:=Qle g s M p o v k1 k2 w h hp;have f1:=h.fz 1;have c1:=h.c1;obtain⟨Q,hQ⟩:∃Q,Q=(p+7) /8:=⟨_,rfl⟩;rw [←hQ]at C⊢;have hw:IntKind.i64.wrap (8*(Q:Int))=((Q*8:Nat):Int):=by rw [IntWalk.i64_in _ (by omega)];omega
 have H:=Qh (⟨h.setP (Q*8),(Mv.refl g v w).set 1 (.int .i64 ((Q*8:Nat):Int))⟩:UW g s M (Q*8) o v k1 k2 (w.setCell ⟨g,1,none⟩ (.int .i64 ((Q*8:Nat):Int)))∧Mv g v w v (w.setCell ⟨g,1,none⟩ (.int .i64 ((Q*8:Nat):Int))));clear hQ;go_enter Tryz.func99,Tryz.ntmps99;go_wp2_with fail;refine C.mono ?_;rintro e w1 ⟨rfl,rfl⟩;go_wp2_with fail;exact bodyPost_end (results_none rfl _ _ _) rfl ⟨rfl,H.out⟩
theorem Ql8 (g:Nat) (s:ByteArray) (M p:Nat) (o:List Nat) (v k1 k2 c:Value) (f:Nat→Int) (n:Nat) (w:World) (h:UW g s M p o v k1 k2 w) (hc:Qa8 c f n w) (hs:s.size≤281474976710656) (hp:p≤2251799813685248):
  Calls Tryz.prog 130 #[.pointer (some ⟨g,0,none⟩),c] w fun e w'=>e= .returned (.tuple #[.int .i64 ((symR (bitH s) (8*s.size) (toL f) n p).1:Int),.bool (symR (bitH s) (8*s.size) (toL f) n p).2.1])∧UW g s M (symR (bitH s) (8*s.size) (toL f) n p).2.2 o v k1 k2 w'∧Mv g v w v w':=by
 obtain⟨r,hr⟩:∃r,Qc0 (toL f) n (bitH s) (8*s.size) p 0 15=r:=⟨_,rfl⟩;have HR:=Qh hr;have H0:=Qh (⟨h.drew,(Mv.refl g v w).drew,hc⟩:UW g s M p o v k1 k2 w.drew∧Mv g v w v w.drew∧Qa8 c f n w.drew);clear hr h hc;go_enter Tryz.func130,Tryz.ntmps130;go_wp2_with fail;refine Qad (Two 1000 1001 fun _ _ wx=>UW g s M p o v k1 k2 wx∧Mv g v w v wx∧Qa8 c f n wx) (by kernel_rfl) H0.out ?_
 refine tV (i:=0) (v:=c) rfl rfl ?_;simp only [pu];refine tA (i:=1) rfl rfl ?_;simp only [pu];refine tA (i:=2) rfl rfl ?_;simp only [pu];refine tA (i:=3) rfl rfl ?_;simp only [pu];refine tL (i:=4) (v:= .string s) rfl rfl (fun f1 f2 wx hT=> ?_) ?_
 ·have cc:=hT.1.c0;go_simp;skip
 simp only [pu];refine tA (i:=5) rfl rfl ?_;simp only [pu];refine tA (i:=6) rfl rfl ?_;simp only [pu];refine tA (i:=7) rfl rfl ?_;simp only [pu];refine tL (i:=8) (v:= .int .i64 (p:Int)) rfl rfl (fun f1 f2 wx hT=> ?_) ?_
 ·have cc:=hT.1.c1;go_simp;skip
 simp only [pu];refine Qaa (i:=9) (v:= .tuple #[.int .i64 (r.1:Int),.int .i64 (r.2.1:Int),.int .i64 (r.2.2:Int)]) rfl (Qaf rfl (fun f1 f2 wx hT=> ?_)) ?_
 ·refine Qao (f:=152) ((Qu7 c f n s p wx hT.2.2 hs (by omega) r HR.out).mono fun e w' ⟨he,hb⟩=>⟨he,hT.1.below hb,hT.2.1.below hb,hT.2.2.below hb⟩) ?_;go_simp;skip
 simp only [pu];refine tA (i:=10) rfl rfl ?_;simp only [pu];refine tA (i:=11) rfl rfl ?_;simp only [pu];refine tA (i:=12) rfl rfl ?_;simp only [pu];refine tA (i:=13) rfl rfl ?_;simp only [pu];refine tA (i:=14) rfl rfl ?_;simp only [pu];refine tA (i:=15) rfl rfl ?_;simp only [pu];refine tA (i:=16) rfl rfl ?_;simp only [pu];refine Qag rfl ?_ _;intro wx hT;replace hT:UW g s M p o v k1 k2 wx∧Mv g v w v wx∧Qa8 c f n wx:=hT;obtain⟨h1,m1,_⟩:=hT;obtain⟨k,z,e⟩:=r;cases e with
 |zero=>
  have HS:=Qh (Qf4 HR.out);have fz:=h1.fz 1;have c1:=h1.c1;go_wp2_with fail;go_ret2;rw [HS.out];exact⟨rfl,h1.setP z,m1.set 1 _⟩
 |succ e=>
  have HS:=Qh (Qfh HR.out);have hen:(((e+1:Nat):Int) !=0)=true:=by simp;omega
  have hen0:¬((e+1:Nat):Int)=0:=by omega
  generalize ((e+1:Nat):Int)=E at hen hen0⊢;go_wp2_with fail;go_ret2;rw [HS.out];exact⟨rfl,h1,m1⟩
theorem UW.shape {g:Nat} {s:ByteArray} {M p:Nat} {o:List Nat} {v k1 k2:Value} {w:World} (h:UW g s M p o v k1 k2 w):∃q cap,v= .slice q o.length cap:=by
 rcases h.own.2 with⟨h1,h2⟩|⟨q,cap,cur,h1,_⟩
 ·exact⟨none,0,by rw [h1,h2]⟩
 ·exact⟨_,cap,h1⟩
theorem Qqn {ops:Array Oper} {rest:List Oper} {z:Oper} {a:Act} {Q:Exit→Act→World→Prop} {g:Nat} {s:ByteArray} {M p:Nat} {o:List Nat} {v k1 k2:Value} {w:World} (hgd:z.guard=none) (sl xx:Operand)
  (ho:z.op= .call {callee:= .builtin .append,args:=#[sl,xx],argTypes:=#[25,25]}) (hs:a.eval sl=v) (h:UW g s M p o v k1 k2 w) (hn:o.length≤2097152)
  (hx:a.eval xx= .slice (some ⟨w.heap.size,0,none⟩) 1 1) (b:Nat)
  (k:∀q cap w',w'.cell? ⟨g,3,none⟩=some v→w'.frozen? ⟨g,3,none⟩=false→UW g s M p (o++[b]) (.slice (some ⟨q,0,none⟩) (o.length+1) cap) k1 k2 (w'.setCell ⟨g,3,none⟩ (.slice (some ⟨q,0,none⟩) (o.length+1) cap))→
   Mv g v w (.slice (some ⟨q,0,none⟩) (o.length+1) cap) (w'.setCell ⟨g,3,none⟩ (.slice (some ⟨q,0,none⟩) (o.length+1) cap))→wpList Tryz.prog ops Q rest (a.put z.dst (.slice (some ⟨q,0,none⟩) (o.length+1) cap)) w'):
  wpList Tryz.prog ops Q (z::rest) a (w.alloc (.cells #[.int .u8 (b:Int)] 5)):=by
 have hb:Below w.heap.size w (w.alloc (.cells #[.int .u8 (b:Int)] 5)):=Qb.alloc Ql _;have h2:=h.below hb;obtain⟨i0,hi,hz0,hz1,hz2⟩:=info_parts Qr9;have hbn:=Blk.new w 5 #[.int .u8 (b:Int)];refine wpList_append_lies _ hgd sl xx 25 ho (g+1) 5 i0 (.int .u8 0) 1 1 Tryz.underlying25 hi hz0 hz1 hz2 rfl (by decide) v o.length _ hs h2.own ⟨w.heap.size,0,none⟩ 1 1 [.int .u8 (b:Int)] hx rfl
  (World.news_of_block hbn) (by intro u hu;rw [List.mem_singleton.1 hu];rfl) (by decide) (by unfold maxLen;omega) (by omega) (by have:=h2.lt;omega) _ rfl ?_
 intro q cap w' hown hgr hat hlt;have hgB:=h.lt;have hne:v.ownBlock≠some g:=fun e=>by have:=(h.ownB g e).1;omega
 have hblk:w'.heap[g]? =_:=hgr.block g (by have:=hb.size;omega) (fun e=>hne e.symm)
 have hbw:Blk w' g 84 #[.string s,.int .i64 (p:Int),.int .i64 (M:Int),v,k1,k2]:=hblk.trans h2.blk;have hq:g+1≤q:=(World.ownsRow.lt hown q rfl).1;refine k q cap w' (hbw.cell 3) (hbw.frozen 3) ⟨hbw.set_ 3 _,?_⟩ (Mv.set ?_ 3 _)
 ·have:=ownsRow_setCell_below hown (a:=⟨g,3,none⟩) (Nat.lt_succ_self g) (.slice (some ⟨q,0,none⟩) (o.length+1) cap);show World.ownsRow _ _ _ _ _ (o++[b]).length (bys (o++[b]));rw [Qtu,List.length_append];exact this
 ·refine⟨hgr.os.trans hb.os,hgr.tape.trans hb.tape,hgr.output.trans hb.output,Nat.le_trans hb.size hgr.size,fun i hi2 _ hv=>(hgr.block i (Nat.lt_of_lt_of_le hi2 hb.size) (fun e=>hv e.symm)).trans (hb.block i hi2),fun i e=> ?_⟩;have e:q=i:=by injection e
  rcases hat with h1|h1
  ·exact .inl (by rw [h1,e])
  ·right
   have:=hb.size;omega
theorem Ql7 (g:Nat) (s:ByteArray) (M p:Nat) (o:List Nat) (v k1 k2:Value) (b:Nat) (w:World) (h:UW g s M p o v k1 k2 w) (hM:M≤1048576) (hn:o.length≤M):
  Calls Tryz.prog 100 #[.pointer (some ⟨g,0,none⟩),.int .u8 (b:Int)] w fun e w'=>∃v',e= .returned (.bool (decide (o.length<M)))∧UW g s M p (if o.length<M then o++[b]else o) v' k1 k2 w'∧Mv g v w v' w':=by
 have k2':=h.c2;have k3:=h.c3;obtain⟨q,cap,hv⟩:=h.shape;subst hv;by_cases hl:o.length<M
 ·rw [if_pos hl,decide_eq_true hl];have hli:((o.length:Int)==(M:Int))=false:=by simp;omega
  have hli2:¬(o.length:Int)=(M:Int):=by omega
  have HN:Hid (o.length≤2097152):=Qh (by omega)
  clear hl hn;go_enter Tryz.func100,Tryz.ntmps100;go_wp2_with fail;go_quiet (fail);have h2:=h.drewN nq;have m2:=(Mv.refl g (.slice q o.length cap) w).drewN nq;clear h k2' k3;generalize w.drewN nq=wq at h2 m2⊢;have c3:=h2.c3;go_wp2_with (at_builtin;refine Qqn rfl (.tmp 19) (.tmp 21) rfl rfl h2 HN.out rfl b ?_;intro q2 cap2 w3 d3 e3 h3 m3);go_ret;exact⟨_,rfl,h3,m2.trans m3⟩
 ·rw [if_neg hl,decide_eq_false hl];have hli:((o.length:Int)==(M:Int))=true:=by simp;omega
  have hli2:(o.length:Int)=(M:Int):=by omega
  clear hl hn;rw [hli2]at*;go_enter Tryz.func100,Tryz.ntmps100;go_wp2_with fail;go_quiet (fail);have h2:=h.drewN nq;have m2:=(Mv.refl g (.slice q o.length cap) w).drewN nq;clear h k2' k3;generalize w.drewN nq=wq at h2 m2⊢;go_wp2_with fail;go_ret;exact⟨_,rfl,h2,m2⟩
def byS (B:Nat→Nat) (T p least n:Nat) (ok:Bool):Nat×Bool×Nat:=if ok then numS B T p least n else(0,false,p)
theorem Qt6 (g:Nat) (s:ByteArray) (M p:Nat) (o:List Nat) (v k1 k2:Value) (least n:Nat) (ok:Bool) (w:World) (h:UW g s M p o v k1 k2 w) (hs:s.size≤281474976710656) (hp:p≤8*s.size) (hn:n≤16) (hl:least≤100000):
  Calls Tryz.prog 153 #[.pointer (some ⟨g,0,none⟩),.int .i64 (least:Int),.int .i64 (n:Int),.bool ok] w fun e w'=>e= .returned (.tuple #[.int .i64 ((byS (bitH s) (8*s.size) p least n ok).1:Int),.bool (byS (bitH s) (8*s.size) p least n ok).2.1])∧UW g s M (byS (bitH s) (8*s.size) p least n ok).2.2 o v k1 k2 w'∧Mv g v w v w':=by
 cases ok with
 |true=>
  have C:=Qcl g s M p o v k1 k2 least n w h hs hp hn hl;show Calls _ _ _ _ fun e w'=>e= .returned (.tuple #[.int .i64 ((numS (bitH s) (8*s.size) p least n).1:Int),.bool (numS (bitH s) (8*s.size) p least n).2.1])∧UW g s M (numS (bitH s) (8*s.size) p least n).2.2 o v k1 k2 w'∧Mv g v w v w';generalize numS (bitH s) (8*s.size) p least n=r at C⊢;clear h;go_enter Tryz.func153,Tryz.ntmps153;go_wp2_with fail;refine C.mono ?_;rintro e w1 ⟨rfl,h1,m1⟩;go_wp2_with fail;go_ret2;exact⟨rfl,h1,m1⟩
 |false=>
  show Calls _ _ _ _ fun e w'=>e= .returned (.tuple #[.int .i64 0,.bool false])∧UW g s M p o v k1 k2 w'∧Mv g v w v w'
  have H:=Qh (⟨h,Mv.refl g v w⟩:UW g s M p o v k1 k2 w∧Mv g v w v w);clear h;go_enter Tryz.func153,Tryz.ntmps153;go_wp2_with fail;go_ret2;exact⟨rfl,H.out⟩
theorem Qd8 {B:Nat→Nat} {T p least n:Nat} (h:p≤T):(numS B T p least n).2.2≤T:=by unfold numS;split<;>assumption
theorem Qd9 (s:ByteArray) (T p least n:Nat):(numS (bitH s) T p least n).1<least+2^n:=by
 unfold numS;have:=Nat.two_pow_pos n;split
 ·have:=Qzi (Qeq s) p n;show least+vb (bitH s) p n<_;omega
 ·show 0<_;omega
theorem Qdi (B:Nat→Nat) (T p n:Nat) (o:List Nat):((numS B T p 0 n).2.1=true∧Qal B T n ⟨p,0,o⟩=((numS B T p 0 n).1,⟨(numS B T p 0 n).2.2,0,o⟩))∨((numS B T p 0 n).2.1=false∧(numS B T p 0 n).1=0∧Qal B T n ⟨p,0,o⟩=(0,⟨T,2,o⟩)):=by
 by_cases h:p+n≤T
 ·exact .inl ⟨by rw [Qdx h],by rw [Qdx h,Qi5 rfl h];simp⟩
 ·exact .inr ⟨by rw [Qfb h],by rw [Qfb h],Qg5 rfl h⟩
theorem Qqf (B:Nat→Nat) (T M p:Nat) (o:List Nat) (r1 r2:Nat×Bool×Nat) (h1:r1=numS B T ((p+7) /8*8) 0 16) (h2:r2=numS B T r1.2.2 0 16):
  ((r1.2.1=false∨r2.2.1=false∨r1.1+r2.1≠65535)→(Qb8 B T M ⟨p,0,o⟩).e=2)∧
  (r1.2.1=true→r2.2.1=true→r1.1+r2.1=65535→Qb8 B T M ⟨p,0,o⟩=Qdl B T M r1.1 ⟨r2.2.2,0,o⟩):=by
 have k1:=Qdi B T ((p+7) /8*8) 16 o;rw [←h1]at k1;have k2:=Qdi B T r1.2.2 16 o;rw [←h2]at k2;clear h1 h2;obtain⟨a,b1,p1⟩:=r1;obtain⟨d,b2,p2⟩:=r2;have hE:∀n (x:Fl),x.e≠0→(Qdl B T M n x).e=x.e:=fun n x hx=>by rw [Qdm hx]
 rcases k1 with⟨e1,k1⟩|⟨e1,e1',k1⟩
 ·dsimp only at e1 k1 k2;subst e1;rcases k2 with⟨e2,k2⟩|⟨e2,e2',k2⟩
  ·try dsimp only at e2 k2
   subst e2;unfold Qb8;simp only [k1,k2];refine⟨fun h=> ?_,fun _ _ h=> ?_⟩
   ·rcases h with h|h|h
    ·cases h
    ·cases h
    ·rw [if_pos ⟨trivial,by show d+a≠65535;omega⟩,hE _ _ (show(2:Nat)≠0 by decide)]
   ·rw [if_neg (by rintro⟨_,h2⟩;have:d+a≠65535:=h2;have:a+d=65535:=h;omega)]
  ·try dsimp only at e2 k2
   subst e2;unfold Qb8;simp only [k1,k2];refine⟨fun _=> ?_,fun _ h=>by cases h⟩
   rw [if_neg (by rintro⟨h,_⟩;exact absurd (show 2=0 from h) (by decide)),hE _ _ (show(2:Nat)≠0 by decide)]
 ·dsimp only at e1 k1;subst e1;refine⟨fun _=> ?_,fun h=>by cases h⟩
  unfold Qb8;simp only [k1];rw [Qew (show(2:Nat)≠0 by decide)]
  rw [if_neg (by rintro⟨h,_⟩;exact absurd (show 2=0 from h) (by decide)),hE _ _ (show(2:Nat)≠0 by decide)]
theorem Qt2 (B:Nat→Nat) (T M n p:Nat) (o:List Nat) (r:Nat×Bool×Nat) (h:r=numS B T p 0 8):
  (r.2.1=false→(Qdl B T M (n+1) ⟨p,0,o⟩).e=2)∧(r.2.1=true→¬o.length<M→(Qdl B T M (n+1) ⟨p,0,o⟩).e=9)∧
  (r.2.1=true→o.length<M→Qdl B T M (n+1) ⟨p,0,o⟩=Qdl B T M n ⟨r.2.2,0,o++[r.1]⟩):=by
 have k:=Qdi B T p 8 o;rw [←h]at k;clear h;obtain⟨a,b,q⟩:=r;rw [Qg9 rfl];rcases k with⟨e,k⟩|⟨e,e',k⟩
 ·dsimp only at e k;subst e;rw [k];refine⟨fun h=>(by cases h),fun _ hl=> ?_,fun _ hl=> ?_⟩
  ·have hs:sayS M a ⟨q,0,o⟩=⟨q,9,o⟩:=by unfold sayS;rw [if_neg (fun h=>h rfl),if_pos (show o.length≥M by omega)]
   show(Qdl B T M n (sayS M a ⟨q,0,o⟩)).e=9
   rw [hs,Qdm (show(9:Nat)≠0 by decide)]
  ·have hs:sayS M a ⟨q,0,o⟩=⟨q,0,o++[a]⟩:=by unfold sayS;rw [if_neg (fun h=>h rfl),if_neg (show¬o.length≥M by omega)]
   show Qdl B T M n (sayS M a ⟨q,0,o⟩)=_
   rw [hs]
 ·dsimp only at e k;subst e;rw [k];refine⟨fun _=> ?_,fun h=>(by cases h),fun h=>(by cases h)⟩
  have hs:sayS M 0 ⟨T,2,o⟩=⟨T,2,o⟩:=if_pos (show(2:Nat)≠0 by decide)
  show(Qdl B T M n (sayS M 0 ⟨T,2,o⟩)).e=2
  rw [hs,Qdm (show(2:Nat)≠0 by decide)]
def Dn (g:Nat) (s:ByteArray) (M:Nat) (x:Fl) (v k1 k2:Value) (w w':World):Prop:=∃v',Mv g v w v' w'∧(x.e=0→UW g s M x.p x.o v' k1 k2 w')
theorem Dn.bad {g:Nat} {s:ByteArray} {M:Nat} {x:Fl} {v k1 k2 v':Value} {w w':World} (m:Mv g v w v' w') (h:x.e≠0):Dn g s M x v k1 k2 w w':=⟨v',m,fun e=>absurd e h⟩
theorem Qpi (g:Nat) (s:ByteArray) (M p:Nat) (o:List Nat) (v k1 k2:Value) (w:World) (h:UW g s M p o v k1 k2 w) (hs:s.size≤281474976710656) (hp:p≤8*s.size) (hM:M≤1048576) (ho:o.length≤M):
  Calls Tryz.prog 66 #[.pointer (some ⟨g,0,none⟩)] w fun e w'=>e= .returned (.int .i64 ((Qb8 (bitH s) (8*s.size) M ⟨p,0,o⟩).e:Int))∧Dn g s M (Qb8 (bitH s) (8*s.size) M ⟨p,0,o⟩) v k1 k2 w w':=by
 obtain⟨S,hS⟩:∃S,S=Qb8 (bitH s) (8*s.size) M ⟨p,0,o⟩:=⟨_,rfl⟩;rw [←hS];have C0:=Qso g s M p o v k1 k2 w h (by omega)
 clear h;go_enter Tryz.func66,Tryz.ntmps66;go_wp2_with fail;refine C0.mono ?_;rintro e w1 ⟨rfl,h1,m1⟩;have C1:=Qcl g s M _ o v k1 k2 0 16 w1 h1 hs (by omega) (by omega) (by omega)
 obtain⟨r1,hr1⟩:∃r,r=numS (bitH s) (8*s.size) ((p+7) /8*8) 0 16:=⟨_,rfl⟩;have hp1:r1.2.2≤8*s.size:=by rw [hr1];exact Qd8 (by omega)
 have ha:r1.1<65536:=by rw [hr1];exact Qd9 s _ _ _ _
 rw [←hr1]at C1;clear h1;go_wp2_with fail;refine C1.mono ?_;rintro e w2 ⟨rfl,h2,m2⟩;replace m2:=m1.trans m2;clear m1 C1;have C2:=Qcl g s M _ o v k1 k2 0 16 w2 h2 hs hp1 (by omega) (by omega)
 obtain⟨r2,hr2⟩:∃r,r=numS (bitH s) (8*s.size) r1.2.2 0 16:=⟨_,rfl⟩;have hp2:r2.2.2≤8*s.size:=by rw [hr2];exact Qd8 hp1
 have hd:r2.1<65536:=by rw [hr2];exact Qd9 s _ _ _ _
 have D:=Qqf (bitH s) (8*s.size) M p o r1 r2 hr1 hr2;rw [←hS]at D;rw [←hr2]at C2;clear h2 hr1 hr2 hp1 hS;go_wp2_with fail;refine C2.mono ?_;rintro e w3 ⟨rfl,h3,m3⟩;replace m3:=m2.trans m3;clear m2 C2;obtain⟨a,b1,q1⟩:=r1;obtain⟨d,b2,q2⟩:=r2;dsimp only at h3 hp2 ha hd D⊢;have hw:IntKind.i64.wrap ((a:Int)+(d:Int))=(a:Int)+(d:Int):=IntWalk.i64_in _ (by omega)
 cases b1 with
 |false=>
  have HE:=Qh (D.1 (.inl rfl));clear D;go_wp2_with fail;go_ret;rw [HE.out];exact⟨rfl,.bad m3 (by rw [HE.out];decide)⟩
 |true=>
  cases b2 with
  |false=>
   have HE:=Qh (D.1 (.inr (.inl rfl)));clear D;go_wp2_with fail;go_ret;rw [HE.out];exact⟨rfl,.bad m3 (by rw [HE.out];decide)⟩
  |true=>
   by_cases hsum:a+d=65535
   ·have hsb:((a:Int)+(d:Int) !=65535)=false:=by simp;omega
    have hsi:(a:Int)+(d:Int)=65535:=by omega
    have HS:=Qh (D.2 rfl rfl hsum);have HA:Hid (a<65536):=Qh ha;have HM:Hid (M≤1048576):=Qh hM;clear D hsum ha hd;go_wp2_with fail;go_loopw [2,40] (fun r i wr=>∃(k q:Nat) (O:List Nat) (u:Value),k≤a∧r= .int .i64 0∧i= .int .i64 (k:Int)∧Hid (S=Qdl (bitH s) (8*s.size) M (a-k) ⟨q,0,O⟩)∧q≤8*s.size∧Hid (O.length≤M)∧UW g s M q O u k1 k2 wr∧Mv g v w u wr) (fun _ i _=>a-(intOf i).toNat)
    case atStart=>exact⟨0,q2,o,v,by omega,rfl,rfl,HS,hp2,Qh ho,h3,m3⟩
    case round=>
     obtain⟨k,q,O,u,hk,rfl,rfl,HK,hq,HO,hr,hm⟩:=hrel;clear h3 m3;by_cases hlt:k<a
     ·have hlti:(k:Int)<(a:Int):=by omega
      have HKL:=Qh hlt;obtain⟨t,ht⟩:∃t,a-k=t+1:=⟨a-k-1,by omega⟩
      have C:=Qcl g s M q O u k1 k2 0 8 wr hr hs hq (by omega) (by omega)
      obtain⟨z,hz⟩:∃r,r=numS (bitH s) (8*s.size) q 0 8:=⟨_,rfl⟩;have hz2:z.2.2≤8*s.size:=by rw [hz];exact Qd8 hq
      have hzl:z.1<256:=by rw [hz];exact Qd9 s _ _ _ _
      have D:=Qt2 (bitH s) (8*s.size) M t q O z hz;rw [←ht,←HK.out]at D;rw [←hz]at C;have HTT:=Qh ht;clear hz hr hq HK hlt ht;go_wp2_with fail;refine C.mono ?_;rintro e w4 ⟨rfl,h4,m4⟩;replace m4:=hm.trans m4;clear hm C;obtain⟨b,ok,z2⟩:=z;dsimp only at h4 hz2 hzl D⊢;cases ok with
      |false=>
       have HE:=Qh (D.1 rfl);clear D;go_wp2_with fail;go_ret;rw [HE.out];exact⟨rfl,.bad m4 (by rw [HE.out];decide)⟩
      |true=>
       have hbw:IntKind.u8.wrap (b:Int)=(b:Int):=by rw [IntKind.wrap_u8];omega
       have hbm:(b:Int)%256=(b:Int):=by omega
       have C:=Ql7 g s M z2 O u k1 k2 b w4 h4 HM.out HO.out;by_cases hl:O.length<M
       ·have HN:=Qh (D.2.2 rfl hl);have HL:=Qh hl;rw [decide_eq_true hl,if_pos hl]at C;clear D h4 hl;go_wp2_with fail;refine C.mono ?_;rintro e w5 ⟨u5,rfl,h5,m5⟩;replace m5:=m4.trans m5;clear m4 C;go_wp2_with fail;go_roundw
        case rel=>exact⟨k+1,z2,O++[b],u5,by have:=HKL.out;omega,rfl,by go_num,Qh (by rw [HN.out,show a-(k+1)=t by have:=HTT.out;omega]),hz2,Qh (by rw [List.length_append];have:=HL.out;simp only [List.length_cons,List.length_nil];omega),h5,m5⟩
        case measure=>simp only [intOf];omega
       ·have HE:=Qh (D.2.1 rfl hl);rw [decide_eq_false hl,if_neg hl]at C;clear D h4 hl;go_wp2_with fail;refine C.mono ?_;rintro e w5 ⟨u5,rfl,h5,m5⟩;replace m5:=m4.trans m5;clear m4 C;go_wp2_with fail;go_ret;rw [HE.out];exact⟨rfl,.bad m5 (by rw [HE.out];decide)⟩
     ·obtain rfl:k=a:=by omega
      have hlti:¬(k:Int)<(k:Int):=by omega
      have HE:Hid (S=⟨q,0,O⟩):=Qh (by rw [HK.out,Nat.sub_self];rfl)
      clear HK;go_wp2_with fail;go_ret;rw [HE.out];exact⟨rfl,u,hm,fun _=>hr⟩
   ·have hsb:((a:Int)+(d:Int) !=65535)=true:=by simp;omega
    have hsi:¬(a:Int)+(d:Int)=65535:=by omega
    have HE:=Qh (D.1 (.inr (.inr hsum)));clear D hsum;go_wp2_with fail;go_ret;rw [HE.out];exact⟨rfl,.bad m3 (by rw [HE.out];decide)⟩
section
variable {g:Nat} {s:ByteArray} {M p:Nat} {o:List Nat} {v k1 k2:Value} {w w':World}
theorem Blk.mv {k:Nat} {t:TypeId} {cs:Array Value} {v':Value} (h:Blk w k t cs) (h1:t≠84) (h2:t≠5) (hu:UW g s M p o v k1 k2 w) (m:Mv g v w v' w'):Blk w' k t cs:=by
 have hb:=hu.blk;unfold Blk at hb h;refine(m.block _ (Blk.lt h) ?_ ?_).trans h
 ·rintro rfl;rw [h]at hb
  injection hb with hb
  injection hb with _ hb
  exact h1 hb
 ·intro e;obtain⟨c,h7⟩:=hu.own_cells e;rw [h]at h7
  injection h7 with h7
  injection h7 with _ h7
  exact h2 h7
theorem UW.at_ (h:UW g s M p o v k1 k2 w) {j:Nat} (hj:j<o.length):∃q cap,v= .slice (some ⟨q,0,none⟩) o.length cap∧∀wx,UW g s M p o v k1 k2 wx→wx.cell? ⟨q,j,none⟩=some (.int .u8 (o.getD j 0:Int)):=by
 rcases h.own.2 with⟨_,h2⟩|⟨q,cap,cur,h1,_⟩
 ·omega
 ·refine⟨q,cap,h1,fun wx hx=> ?_⟩;rcases hx.own.2 with⟨_,h2⟩|⟨q2,cap2,cur2,e1,e2,e3,e4,e5,e6,e7⟩
  ·omega
  ·rw [h1]at e1;obtain rfl:q=q2:=by injection e1 with e1;injection e1 with e1;injection e1
   rw [cell_of_row wx q j cur2 5 (0,0) e3];have h8:(cur2.toList.take (o.length*1))[j]? =(bys o)[j]? :=by rw [e7]
   rw [List.getElem?_take_of_lt (by omega)]at h8
   rw [←Array.getElem?_toList,h8];unfold bys;rw [List.getElem?_map,List.getElem?_eq_getElem hj];simp [List.getD,List.getElem?_eq_getElem hj]
end
theorem Qlo (x:Int):(Qan x).1≤300∧(Qan x).2.1≤6:=by
 unfold Qan;split
 ·exact⟨by decide,by decide⟩
 ·split
  ·exact⟨Qmh _ (by omega),Qri _ (by omega)⟩
  ·exact⟨by decide,by decide⟩
theorem Qq5 (x:Int):(Qa9 x).1≤40000∧(Qa9 x).2.1≤14:=by
 unfold Qa9;split
 ·exact⟨Ql3 _ (by omega),Qq3 _ (by omega)⟩
 ·exact⟨by decide,by decide⟩
theorem Qqx {B:Nat→Nat} {T p least n:Nat} {ok:Bool} (h:p≤T):(byS B T p least n ok).2.2≤T:=by
 unfold byS;split
 ·exact Qd8 h
 ·exact h
theorem Qzr (s:ByteArray) (T p least n:Nat) (ok:Bool):(byS (bitH s) T p least n ok).1<least+2^n:=by
 unfold byS;have:=Nat.two_pow_pos n;split
 ·exact Qd9 s _ _ _ _
 ·show 0<_;omega
theorem Qqu (B:Nat→Nat) (T p least n:Nat) (o:List Nat) (ok:Bool):((byS B T p least n ok).2.1=true∧ok=true∧∃b,Qal B T n ⟨p,0,o⟩=(b,⟨(byS B T p least n ok).2.2,0,o⟩)∧(byS B T p least n ok).1=least+b)∨
  ((byS B T p least n ok).2.1=false∧(ok=false∨(Qal B T n ⟨p,0,o⟩).2.e=2)):=by
 cases ok with
 |false=>exact .inr ⟨rfl,.inl rfl⟩
 |true=>
  show((numS B T p least n).2.1=true∧true=true∧∃b,Qal B T n ⟨p,0,o⟩=(b,⟨(numS B T p least n).2.2,0,o⟩)∧(numS B T p least n).1=least+b)∨((numS B T p least n).2.1=false∧(true=false∨(Qal B T n ⟨p,0,o⟩).2.e=2))
  by_cases h:p+n≤T
  ·exact .inl ⟨by rw [Qdx h],rfl,vb B p n,by rw [Qdx h,Qi5 rfl h],by rw [Qdx h]⟩
  ·exact .inr ⟨by rw [Qfb h],.inr (by rw [Qg5 rfl h])⟩
theorem Qoq (B:Nat→Nat) (T:Nat) (l:Nat→Nat) (n p:Nat) (o:List Nat):((symR B T l n p).2.1=true∧symS B T l n ⟨p,0,o⟩=((symR B T l n p).1,⟨(symR B T l n p).2.2,0,o⟩))∨((symR B T l n p).2.1=false∧symS B T l n ⟨p,0,o⟩=(0,⟨p,2,o⟩)):=by
 obtain⟨k,q,e0,e⟩:∃k q e,Qc0 l n B T p 0 15=(k,q,e):=⟨_,_,_,rfl⟩;cases e0 with
 |zero=>exact .inl ⟨by rw [Qf4 e],by rw [Qf4 e,Qwj rfl e]⟩
 |succ z=>exact .inr ⟨by rw [Qfh e],by rw [Qr4 rfl e]⟩
theorem Qi9 {l:Nat→Nat} {n:Nat} {B:Nat→Nat} {T at_:Nat}:∀(f d:Nat) {k q:Nat},Qc0 l n B T at_ d f=(k,q,0)→at_+d<q∧q≤T
 |0,_,_,_,h=>by cases h
 |f+1,d,k,q,h=>by
  by_cases hT:T≤at_+d
  ·rw [Qhk _ _ _ _ _ _ _ hT]at h;cases h
  ·cases hf:fnd l n (d+1) (rv B at_ (d+1)) n with
   |some j=>rw [Qfa hT hf]at h;cases h;omega
   |none=>rw [Qhl hT hf]at h;have:=Qi9 f (d+1) h;omega
theorem Qm4 {B:Nat→Nat} {T:Nat} {l:Nat→Nat} {n p:Nat} (h:(symR B T l n p).2.1=true):p<(symR B T l n p).2.2∧(symR B T l n p).2.2≤T:=by
 obtain⟨k,q,e0,e⟩:∃k q e,Qc0 l n B T p 0 15=(k,q,e):=⟨_,_,_,rfl⟩;cases e0 with
 |zero=>rw [Qf4 e];exact Qi9 15 0 e
 |succ z=>rw [Qfh e]at h;cases h
theorem Qm2 {B:Nat→Nat} {T:Nat} (l:Nat→Nat) (n p:Nat) (hp:p≤T):(symR B T l n p).2.2≤T:=by
 obtain⟨k,q,e0,e⟩:∃k q e,Qc0 l n B T p 0 15=(k,q,e):=⟨_,_,_,rfl⟩;cases e0 with
 |zero=>rw [Qf4 e];exact(Qi9 15 0 e).2
 |succ z=>rw [Qfh e];exact hp
theorem Qnt (k:Nat):1≤Qbe k:=by
 induction k with
 |zero=>exact Nat.le_refl 1
 |succ k ih=>exact Nat.le_trans ih (Nat.le_add_right _ _)
theorem Qxs {B:Nat→Nat} {T p:Nat} {x:Int} {z:Nat×Bool×Nat} (hz:z=byS B T p (Qa9 x).1 (Qa9 x).2.1 (Qa9 x).2.2) (h:z.2.1=true):1≤z.1:=by
 have hd:(Qa9 x).2.2=true∧p+(Qa9 x).2.1≤T:=by
  rw [hz]at h;unfold byS at h;split at h
  ·next ho=>
   refine⟨ho,?_⟩;unfold numS at h;split at h
   ·assumption
   ·cases h
  ·cases h
 rw [hz,hd.1];show 1≤(numS B T p (Qa9 x).1 (Qa9 x).2.1).1;rw [Qdx hd.2];show 1≤(Qa9 x).1+_;have h1:1≤(Qa9 x).1:=by
  have h2:=hd.1;unfold Qa9 at h2⊢;split
  ·exact Qnt _
  ·next hn=>rw [if_neg hn]at h2;cases h2
 omega
theorem Qc3 {M d n:Nat} {x:Fl} (h:x.e≠0):Qcp M d n x=x:=by
 cases n with
 |zero=>rfl
 |succ n=>exact if_pos h
theorem Qto (M d n p:Nat) (o:List Nat):(¬o.length<M→(Qcp M d (n+1) ⟨p,0,o⟩).e=9)∧(o.length<M→Qcp M d (n+1) ⟨p,0,o⟩=Qcp M d n ⟨p,0,o++[o.getD (o.length-d) 0]⟩):=by
 have h0:Qcp M d (n+1) ⟨p,0,o⟩=Qcp M d n (sayS M (o.getD (o.length-d) 0) ⟨p,0,o⟩):=if_neg (fun h=>h rfl);rw [h0];refine⟨fun hl=> ?_,fun hl=> ?_⟩
 ·have hs:sayS M (o.getD (o.length-d) 0) ⟨p,0,o⟩=⟨p,9,o⟩:=by unfold sayS;rw [if_neg (fun h=>h rfl),if_pos (show o.length≥M by omega)]
  rw [hs,Qc3 (show(9:Nat)≠0 by decide)]
 ·have hs:sayS M (o.getD (o.length-d) 0) ⟨p,0,o⟩=⟨p,0,o++[o.getD (o.length-d) 0]⟩:=by unfold sayS;rw [if_neg (fun h=>h rfl),if_neg (show¬o.length≥M by omega)]
  rw [hs]
theorem Qjq (B:Nat→Nat) (T M k p:Nat) (l:Nat→Nat) (n:Nat) (o:List Nat) (x y z:Nat×Bool×Nat) (hx:x=byS B T p (Qan (k:Int)).1 (Qan (k:Int)).2.1 (Qan (k:Int)).2.2)
  (hy:y=symR B T l n x.2.2) (hz:z=byS B T y.2.2 (Qa9 (y.1:Int)).1 (Qa9 (y.1:Int)).2.1 (Qa9 (y.1:Int)).2.2):
  ((x.2.1=false∨y.2.1=false∨z.2.1=false∨z.1>o.length)→(Qa7 B T M k l n ⟨p,0,o⟩).e=2)∧
  (x.2.1=true→y.2.1=true→z.2.1=true→¬z.1>o.length→Qa7 B T M k l n ⟨p,0,o⟩=Qcp M z.1 x.1 ⟨z.2.2,0,o⟩):=by
 have X:=Qqu B T p (Qan (k:Int)).1 (Qan (k:Int)).2.1 o (Qan (k:Int)).2.2;rw [←hx]at X;have Y:=Qoq B T l n x.2.2 o;rw [←hy]at Y;have Z:=Qqu B T y.2.2 (Qa9 (y.1:Int)).1 (Qa9 (y.1:Int)).2.1 o (Qa9 (y.1:Int)).2.2;rw [←hz]at Z;clear hx hy hz;have hE:∀n d (x:Fl),x.e≠0→(Qcp M d n x).e=x.e:=fun n d x hx=>by rw [Qc3 hx]
 have s2:∀x:Fl,x.e=2→symS B T l n x=(0,x):=fun x hx=>Qje (by rw [hx];decide)
 rcases X with⟨x1,xok,b,xb,xv⟩|⟨x1,x2⟩
 ·rcases Y with⟨y1,ys⟩|⟨y1,ys⟩
  ·rcases Z with⟨z1,zok,d,zb,zv⟩|⟨z1,z2⟩
   ·unfold Qa7;simp only [xok,xb,ys,zok,zb];rw [←zv,←xv];refine⟨fun h=> ?_,fun _ _ _ h=> ?_⟩
    ·have h4:z.1>o.length:=by
      rcases h with h|h|h|h
      ·rw [x1]at h;cases h
      ·rw [y1]at h;cases h
      ·rw [z1]at h;cases h
      ·exact h
     rw [if_neg (by decide),if_neg (by decide),if_pos ⟨trivial,h4⟩,hE _ _ _ (show(2:Nat)≠0 by decide)]
    ·rw [if_neg (by decide),if_neg (by decide),if_neg (fun h2=>h h2.2)]
   ·refine⟨fun _=> ?_,fun _ _ h=>by rw [z1]at h;cases h⟩
    unfold Qa7;simp only [xok,xb,ys];rw [if_neg (by decide)]
    rcases z2 with z2|z2
    ·rw [if_pos (.inr z2)]
    ·by_cases hd:(Qa9 (y.1:Int)).2.2=false
     ·rw [if_pos (.inr hd)]
     ·rw [if_neg (by rintro(h|h);exact h rfl;exact hd h)]
      have h0:¬((Qal B T (Qa9 (y.1:Int)).2.1 ⟨y.2.2,0,o⟩).2.e=0∧(Qa9 (y.1:Int)).1+(Qal B T (Qa9 (y.1:Int)).2.1 ⟨y.2.2,0,o⟩).1>(Qal B T (Qa9 (y.1:Int)).2.1 ⟨y.2.2,0,o⟩).2.o.length):=by rw [z2];rintro⟨h,_⟩;exact absurd h (by decide)
      rw [if_neg h0,hE _ _ _ (by rw [z2];decide),z2]
  ·refine⟨fun _=> ?_,fun _ h=>by rw [y1]at h;cases h⟩
   unfold Qa7;simp only [xok,xb,ys];rw [if_neg (by decide),if_pos (.inl (by decide))]
 ·refine⟨fun _=> ?_,fun h=>by rw [x1]at h;cases h⟩
  unfold Qa7;rcases x2 with x2|x2
  ·rw [if_pos x2]
  ·by_cases hd:(Qan (k:Int)).2.2=false
   ·rw [if_pos hd]
   ·rw [if_neg hd];simp only [s2 _ x2];rw [if_pos (.inl (by rw [x2];decide))]
theorem Qsm (g:Nat) (s:ByteArray) (M p:Nat) (o:List Nat) (v k1 k2 c1 c2:Value) (f:Nat→Int) (n k:Nat) (w:World) (h:UW g s M p o v k1 k2 w) (hc:Qa8 c2 f n w) (hs:s.size≤281474976710656) (hp:p≤8*s.size) (hM:M≤1048576) (ho:o.length≤M):
  Calls Tryz.prog 131 #[.pointer (some ⟨g,0,none⟩),.int .i64 (k:Int),.agg #[c1,c2]] w fun e w'=>e= .returned (.int .i64 ((Qa7 (bitH s) (8*s.size) M k (toL f) n ⟨p,0,o⟩).e:Int))∧Dn g s M (Qa7 (bitH s) (8*s.size) M k (toL f) n ⟨p,0,o⟩) v k1 k2 w w':=by
 obtain⟨S,hS⟩:∃S,S=Qa7 (bitH s) (8*s.size) M k (toL f) n ⟨p,0,o⟩:=⟨_,rfl⟩;rw [←hS];have hb0:=(Below.refl _ w).alloc Ql (.cells #[c1,c2] 82);have H0:=Qh (⟨h.below hb0,(Mv.refl g v w).below hb0,hc.below hb0,Blk.new w _ _⟩:UW g s M p o v k1 k2 (w.alloc (.cells #[c1,c2] 82))∧Mv g v w v (w.alloc (.cells #[c1,c2] 82))∧Qa8 c2 f n (w.alloc (.cells #[c1,c2] 82))∧Blk (w.alloc (.cells #[c1,c2] 82)) w.heap.size 82 #[c1,c2]);obtain⟨q0,hq0⟩:∃q0,q0=w.heap.size:=⟨_,rfl⟩;obtain⟨x,hx⟩:∃x,x=byS (bitH s) (8*s.size) p (Qan (k:Int)).1 (Qan (k:Int)).2.1 (Qan (k:Int)).2.2:=⟨_,rfl⟩;obtain⟨y,hy⟩:∃y,y=symR (bitH s) (8*s.size) (toL f) n x.2.2:=⟨_,rfl⟩;obtain⟨z,hz⟩:∃z,z=byS (bitH s) (8*s.size) y.2.2 (Qa9 (y.1:Int)).1 (Qa9 (y.1:Int)).2.1 (Qa9 (y.1:Int)).2.2:=⟨_,rfl⟩;have HD:=Qh (Qjq (bitH s) (8*s.size) M k p (toL f) n o x y z hx hy hz);rw [←hS]at HD;clear h hc hb0 hS;go_enter Tryz.func131,Tryz.ntmps131;go_wp2_with fail;refine(Qjr (k:Int) _).mono ?_;rintro e w0 ⟨rfl,rfl⟩;rw [←hq0]at H0⊢;clear hq0;generalize w.alloc (.cells #[c1,c2] 82)=wa at H0⊢;have hL:=Qlo (k:Int);have C1:=Qt6 g s M p o v k1 k2 (Qan (k:Int)).1 (Qan (k:Int)).2.1 (Qan (k:Int)).2.2 wa H0.out.1 hs hp (by omega) (by omega)
 have hxl:=Qzr s (8*s.size) p (Qan (k:Int)).1 (Qan (k:Int)).2.1 (Qan (k:Int)).2.2;have hxp:x.2.2≤8*s.size:=by rw [hx];exact Qqx hp
 rw [←hx]at C1 hxl;have hpw:2^(Qan (k:Int)).2.1≤2^6:=Nat.pow_le_pow_right (by decide) hL.2
 have hx9:x.1≤400:=by omega
 clear hx hxl hpw;generalize Qan (k:Int)=L at*;obtain⟨L1,L2,L3⟩:=L;clear hL;go_wp2_with fail;refine C1.mono ?_;rintro e w1 ⟨rfl,h1,m1⟩;have H1:=Qh (⟨h1,H0.out.2.1.trans m1,H0.out.2.2.1.mv H0.out.1 m1,Blk.mv H0.out.2.2.2 (by decide) (by decide) H0.out.1 m1⟩:UW g s M x.2.2 o v k1 k2 w1∧Mv g v w v w1∧Qa8 c2 f n w1∧Blk w1 q0 82 #[c1,c2])
 clear h1 m1 H0 C1;have hyp:y.2.2≤8*s.size∧y.2.2≤2251799813685248:=by
  have:y.2.2≤8*s.size:=by rw [hy];exact Qm2 _ _ _ hxp
  omega
 have HC5:Hid (∀wx,UW g s M x.2.2 o v k1 k2 wx→Qa8 c2 f n wx→Calls Tryz.prog 130 #[.pointer (some ⟨g,0,none⟩),c2] wx fun e w'=>e= .returned (.tuple #[.int .i64 (y.1:Int),.bool y.2.1])∧UW g s M y.2.2 o v k1 k2 w'∧Mv g v wx v w'):=Qh fun wx h2 h3=>by
  rw [hy];exact Ql8 g s M x.2.2 o v k1 k2 c2 f n wx h2 h3 hs (by omega)
 clear hy;obtain⟨x1,x2,x3⟩:=x;cases x2 with
 |false=>
  have HE:=Qh (HD.out.1 (.inl rfl));clear HD HC5 hz;go_wp2_with fail;go_ret;rw [HE.out];exact⟨rfl,.bad H1.out.2.1 (by rw [HE.out];decide)⟩
 |true=>
 go_wp2_with fail;refine Qad (Two 5 1001 fun b _ wx=>(b=false→UW g s M x3 o v k1 k2 wx∧Mv g v w v wx∧Qa8 c2 f n wx∧Blk wx q0 82 #[c1,c2])∧(b=true→UW g s M y.2.2 o v k1 k2 wx∧Mv g v w v wx)) (by kernel_rfl) ⟨fun _=>⟨H1.out.1.drew,H1.out.2.1.drew,H1.out.2.2.1,H1.out.2.2.2.drew⟩,fun h=>by(cases h)⟩ ?_
 refine tA (i:=0) rfl rfl ?_;simp only [pu];refine tA (i:=1) rfl rfl ?_;simp only [pu];refine tA (i:=2) rfl rfl ?_;simp only [pu];refine tA (i:=3) rfl rfl ?_;simp only [pu];refine Qaa (i:=4) (v:=c2) rfl (Qah (n:=9) rfl (fun f2 wx hT=> ?_)) ?_
 ·have cc:=(hT.1 rfl).2.2.2.cell 1;refine Qab (w:=wx) ?_ hT;go_simp;skip
 simp only [pu];refine Qaa (i:=5) (v:= .tuple #[.int .i64 (y.1:Int),.bool y.2.1]) rfl (Qa5 (by decide) rfl (fun f2 wx hT=> ?_)) ?_
 ·have h5:=hT.1 rfl;refine Qao (f:=130) ((HC5.out wx h5.1 h5.2.2.1).mono fun e w' ⟨he,hq,hm⟩=>⟨he,⟨fun h=>by(cases h),fun _=>⟨hq,h5.2.1.trans hm⟩⟩⟩) ?_;go_simp;skip
 simp only [pu];refine tA (i:=6) rfl rfl ?_;simp only [pu];refine tA (i:=7) rfl rfl ?_;simp only [pu];refine tA (i:=8) rfl rfl ?_;simp only [pu];refine tA (i:=9) rfl rfl ?_;simp only [pu];refine tA (i:=10) rfl rfl ?_;simp only [pu];refine Qag rfl ?_ _;intro w2 hT;have H2:=Qh (hT.2 rfl:UW g s M y.2.2 o v k1 k2 w2∧Mv g v w v w2);clear hT H1 HC5;obtain⟨y1,y2,y3⟩:=y;cases y2 with
 |false=>
  have HE:=Qh (HD.out.1 (.inr (.inl rfl)));clear HD hz;go_wp2_with fail;go_ret;rw [HE.out];exact⟨rfl,.bad H2.out.2 (by rw [HE.out];decide)⟩
 |true=>
 go_wp2_with fail;refine(Qnu (y1:Int) _).mono ?_;rintro e w0 ⟨rfl,rfl⟩;have hL:=Qq5 (y1:Int)
 try dsimp only at hz hyp
 have C1:=Qt6 g s M y3 o v k1 k2 (Qa9 (y1:Int)).1 (Qa9 (y1:Int)).2.1 (Qa9 (y1:Int)).2.2 w0 H2.out.1 hs hyp.1 (by omega) (by omega)
 have hxl:=Qzr s (8*s.size) y3 (Qa9 (y1:Int)).1 (Qa9 (y1:Int)).2.1 (Qa9 (y1:Int)).2.2;have hzp:z.2.2≤8*s.size:=by rw [hz];exact Qqx hyp.1
 rw [←hz]at C1 hxl;have hpw:2^(Qa9 (y1:Int)).2.1≤2^14:=Nat.pow_le_pow_right (by decide) hL.2
 have hz9:z.1≤60000:=by omega
 have HZP:=Qh (Qxs hz);clear hz hxl hpw;generalize Qa9 (y1:Int)=L at*;obtain⟨L1,L2,L3⟩:=L;clear hL;go_wp2_with fail;refine C1.mono ?_;rintro e w1 ⟨rfl,h1,m1⟩;replace m1:=H2.out.2.trans m1;clear H2 C1;obtain⟨z1,z2,z3⟩:=z;cases z2 with
 |false=>
  have HE:=Qh (HD.out.1 (.inr (.inr (.inl rfl))));clear HD;go_wp2_with fail;go_ret;rw [HE.out];exact⟨rfl,.bad m1 (by rw [HE.out];decide)⟩
 |true=>
 have c3:=h1.c3;obtain⟨qv,cap,hv⟩:=h1.shape;rw [hv]at c3;by_cases hfar:z1>o.length
 ·have HE:=Qh (HD.out.1 (.inr (.inr (.inr hfar))));have hfi:(z1:Int)>(o.length:Int):=by omega
  clear HD hfar hv;go_wp2_with fail;go_ret;rw [HE.out];exact⟨rfl,.bad m1 (by rw [HE.out];decide)⟩
 ·have hfi:¬(z1:Int)>(o.length:Int):=by omega
  have HK:=Qh (HD.out.2 (by trivial) (by trivial) (by trivial) hfar)
  have HF:=Qh hfar;have HM:=Qh hM;have HO:=Qh ho;clear HD hfar hv;go_wp2_with fail;go_loopw [6,55] (fun r i wr=>∃(j q:Nat) (O:List Nat) (u:Value),j≤x1∧r= .int .i64 0∧i= .int .i64 (j:Int)∧Hid (S=Qcp M z1 (x1-j) ⟨q,0,O⟩)∧Hid (z1≤O.length)∧Hid (O.length≤M)∧UW g s M q O u k1 k2 wr∧Mv g v w u wr) (fun _ i _=>x1-(intOf i).toNat)
  case atStart=>exact⟨0,z3,o,v,by omega,rfl,rfl,HK,Qh (by have:=HF.out;omega),HO,h1,m1⟩
  case round=>
   obtain⟨j,q,O,u,hj,rfl,rfl,HK,HZ,HO,hr,hm⟩:=hrel;clear h1 m1 c3 hfi;by_cases hlt:j<x1
   ·have hlti:(j:Int)<(x1:Int):=by omega
    have HJL:=Qh hlt;obtain⟨t,ht⟩:∃t,x1-j=t+1:=⟨x1-j-1,by omega⟩
    have HTT:=Qh ht;have D:=Qto M z1 t q O;rw [←ht,←HK.out]at D;obtain⟨J,hJ⟩:∃J,J=O.length-z1:=⟨_,rfl⟩;have hz0:1≤z1:=HZP.out (by trivial)
    have hZl:=HZ.out;rw [←hJ]at D;have hJl:J<O.length:=by omega
    ·have hOl:=HO.out;have hw:IntKind.i64.wrap ((O.length:Int)-(z1:Int))=(J:Int):=by rw [IntWalk.i64_in _ (by omega)];omega
     obtain⟨qb,qc,hu,hB⟩:=hr.at_ hJl;obtain⟨b,hb⟩:∃b,b=O.getD J 0:=⟨_,rfl⟩;rw [←hb]at hB D;subst hu;have HB:=Qh hB;have HD:=Qh D;have HR:=Qh (⟨hr,hm⟩:UW g s M q O (.slice (some ⟨qb,0,none⟩) O.length qc) k1 k2 wr∧Mv g v w (.slice (some ⟨qb,0,none⟩) O.length qc) wr);have hJi:(J:Int)<(O.length:Int):=by omega
     clear hB D hr hm hb hJ hz0 hZl hlt ht HK hJl hOl;go_wp2_with fail;refine Qad (Two 14 1001 fun b' _ wx=>(b'=false→UW g s M q O (.slice (some ⟨qb,0,none⟩) O.length qc) k1 k2 wx∧Mv g v w (.slice (some ⟨qb,0,none⟩) O.length qc) wx)∧(b'=true→∃u',UW g s M q (if O.length<M then O++[b]else O) u' k1 k2 wx∧Mv g v w u' wx)) (by kernel_rfl) ⟨fun _=>⟨HR.out.1.drew,HR.out.2.drew⟩,fun h=>by(cases h)⟩ ?_
     refine tA (i:=0) rfl rfl ?_;simp only [pu];refine tA (i:=1) rfl rfl ?_;simp only [pu];refine tA (i:=2) rfl rfl ?_;simp only [pu];refine tA (i:=3) rfl rfl ?_;simp only [pu];refine Qaa (i:=4) (v:= .slice (some ⟨qb,0,none⟩) O.length qc) rfl (Qah (n:=9) rfl (fun f2 wx hT=> ?_)) ?_
     ·have cc:=(hT.1 rfl).1.c3;refine Qab (w:=wx) ?_ hT;go_simp;skip
     simp only [pu];refine tA (i:=5) rfl rfl ?_;simp only [pu];refine tA (i:=6) rfl rfl ?_;simp only [pu];refine tA (i:=7) rfl rfl ?_;simp only [pu];refine Qaa (i:=8) (v:= .slice (some ⟨qb,0,none⟩) O.length qc) rfl (Qah (n:=9) rfl (fun f2 wx hT=> ?_)) ?_
     ·have cc:=(hT.1 rfl).1.c3;refine Qab (w:=wx) ?_ hT;go_simp;skip
     simp only [pu];refine tA (i:=9) rfl rfl ?_;simp only [pu];refine tA (i:=10) rfl rfl ?_;simp only [pu];refine tV (i:=11) (v:= .int .i64 (J:Int)) rfl rfl ?_;simp only [pu];refine tV (i:=12) (v:= .pointer (some ⟨qb,J,none⟩)) rfl rfl ?_;simp only [pu];refine Qaa (i:=13) (v:= .int .u8 (b:Int)) rfl (Qah (n:=9) rfl (fun f2 wx hT=> ?_)) ?_
     ·have cc:=HB.out wx (hT.1 rfl).1;refine Qab (w:=wx) ?_ hT;go_simp;skip
     simp only [pu];refine Qaa (i:=14) (v:= .bool (decide (O.length<M))) rfl (Qa5 (by decide) rfl (fun f2 wx hT=> ?_)) ?_
     ·have h5:=hT.1 rfl;refine Qao (f:=100) ((Ql7 g s M q O _ k1 k2 b wx h5.1 HM.out HO.out).mono fun e w' ⟨u',he,hq,hm⟩=>⟨he,⟨fun h=>by(cases h),fun _=>⟨u',hq,h5.2.trans hm⟩⟩⟩) ?_;go_simp;skip
     simp only [pu];refine tA (i:=15) rfl rfl ?_;simp only [pu];refine Qag rfl ?_ _;intro w2 hT;obtain⟨u',h2,m2⟩:=hT.2 rfl;clear hT HR;by_cases hl:O.length<M
     ·have HN:=Qh (HD.out.2 hl);have HL:=Qh hl;rw [if_pos hl]at h2;rw [decide_eq_true hl];clear HD hl;go_wp2_with fail;go_roundw
      case rel=>exact⟨j+1,q,O++[b],u',by have:=HJL.out;omega,rfl,by go_num,Qh (by rw [HN.out,show x1-(j+1)=t by have:=HTT.out;omega]),Qh (by rw [List.length_append];have:=HZ.out;omega),Qh (by rw [List.length_append];have:=HL.out;simp only [List.length_cons,List.length_nil];omega),h2,m2⟩
      case measure=>simp only [intOf];omega
     ·have HE:=Qh (HD.out.1 hl);rw [decide_eq_false hl];clear HD hl h2;go_wp2_with fail;go_ret;rw [HE.out];exact⟨rfl,.bad m2 (by rw [HE.out];decide)⟩
   ·obtain rfl:j=x1:=by omega
    have hlti:¬(j:Int)<(j:Int):=by omega
    have HE:Hid (S=⟨q,0,O⟩):=Qh (by rw [HK.out,Nat.sub_self];rfl)
    clear HK;go_wp2_with fail;go_ret;rw [HE.out];exact⟨rfl,u,hm,fun _=>hr⟩
theorem Qdq {B:Nat→Nat} {T M:Nat} {l:Nat→Nat} {n:Nat} {g:Nat→Nat} {m t:Nat} {x:Fl} (h:x.e≠0):Qat B T M l n g m t x=x:=by
 cases t with
 |zero=>rfl
 |succ t=>exact if_pos h
theorem Qor (B:Nat→Nat) (T M:Nat) (l:Nat→Nat) (n:Nat) (g:Nat→Nat) (m t p:Nat) (o:List Nat) (x:Nat×Bool×Nat) (hx:x=symR B T l n p):
  (x.2.1=false→(Qat B T M l n g m (t+1) ⟨p,0,o⟩).e=2)∧(x.2.1=true→x.1=256→Qat B T M l n g m (t+1) ⟨p,0,o⟩=⟨x.2.2,0,o⟩)∧
  (x.2.1=true→x.1<256→¬o.length<M→(Qat B T M l n g m (t+1) ⟨p,0,o⟩).e=9)∧
  (x.2.1=true→x.1<256→o.length<M→Qat B T M l n g m (t+1) ⟨p,0,o⟩=Qat B T M l n g m t ⟨x.2.2,0,o++[x.1]⟩)∧
  (x.2.1=true→256<x.1→Qat B T M l n g m (t+1) ⟨p,0,o⟩=Qat B T M l n g m t (Qa7 B T M x.1 g m ⟨x.2.2,0,o⟩)):=by
 have X:=Qoq B T l n p o;rw [←hx]at X;clear hx;obtain⟨a,b,q⟩:=x;have h0:Qat B T M l n g m (t+1) ⟨p,0,o⟩=(let s:=symS B T l n ⟨p,0,o⟩
  if s.2.e≠0∨s.1=256 then s.2 else
   if s.1<256 then Qat B T M l n g m t (sayS M s.1 s.2)else Qat B T M l n g m t (Qa7 B T M s.1 g m s.2)):=if_neg (fun h=>h rfl)
 rw [h0];rcases X with⟨x1,xs⟩|⟨x1,xs⟩
 ·have x1:b=true:=x1;subst x1;simp only [xs];refine⟨fun h=>(by cases h),fun _ h=> ?_,fun _ h hl=> ?_,fun _ h hl=> ?_,fun _ h=> ?_⟩
  ·rw [if_pos (.inr h)]
  ·rw [if_neg (by rintro(h2|h2);exact h2 rfl;omega),if_pos h]
   have hs:sayS M a ⟨q,0,o⟩=⟨q,9,o⟩:=by unfold sayS;rw [if_neg (fun h=>h rfl),if_pos (show o.length≥M by omega)]
   rw [hs,Qdq (show(9:Nat)≠0 by decide)]
  ·rw [if_neg (by rintro(h2|h2);exact h2 rfl;omega),if_pos h]
   have hs:sayS M a ⟨q,0,o⟩=⟨q,0,o++[a]⟩:=by unfold sayS;rw [if_neg (fun h=>h rfl),if_neg (show¬o.length≥M by omega)]
   rw [hs]
  ·rw [if_neg (by rintro(h2|h2);exact h2 rfl;omega),if_neg (by omega)]
 ·have x1:b=false:=x1;subst x1;simp only [xs];refine⟨fun _=> ?_,fun h=>(by cases h),fun h=>(by cases h),fun h=>(by cases h),fun h=>(by cases h)⟩
  rw [if_pos (.inl (by decide))]
theorem Qv8 (M b:Nat) (x:Fl):(sayS M b x).p=x.p:=by unfold sayS;split;rfl;split<;>rfl
theorem Qtp (M d:Nat):∀(n:Nat) (x:Fl),(Qcp M d n x).p=x.p
 |0,_=>rfl
 |n+1,x=>by
  by_cases h:x.e≠0
  ·rw [Qc3 h]
  ·have e:Qcp M d (n+1) x=Qcp M d n (sayS M (x.o.getD (x.o.length-d) 0) x):=if_neg h;rw [e,Qtp M d n,Qv8]
theorem Qrz {M b:Nat} {x:Fl} (h:x.o.length≤M):(sayS M b x).o.length≤M:=by
 unfold sayS;split
 ·exact h
 ·split
  ·exact h
  ·show(x.o++[b]).length≤M;rw [List.length_append];simp only [List.length_cons,List.length_nil];omega
theorem Qnl {M d:Nat}:∀(n:Nat) {x:Fl},x.o.length≤M→(Qcp M d n x).o.length≤M
 |0,_,h=>h
 |n+1,x,h=>by
  by_cases he:x.e≠0
  ·rw [Qc3 he];exact h
  ·have e:Qcp M d (n+1) x=Qcp M d n (sayS M (x.o.getD (x.o.length-d) 0) x):=if_neg he;rw [e];exact Qnl n (Qrz h)
theorem Qzq {B:Nat→Nat} {T p least n:Nat} {ok:Bool}:p≤(byS B T p least n ok).2.2:=by
 unfold byS;split
 ·unfold numS;split
  ·exact Nat.le_add_right _ _
  ·exact Ql
 ·exact Ql
theorem Q1n {B:Nat→Nat} {T:Nat} {l:Nat→Nat} {n p:Nat}:p≤(symR B T l n p).2.2:=by
 cases h:(symR B T l n p).2.1 with
 |true=>exact Nat.le_of_lt (Qm4 h).1
 |false=>
  obtain⟨k,q,e0,e⟩:∃k q e,Qc0 l n B T p 0 15=(k,q,e):=⟨_,_,_,rfl⟩;cases e0 with
  |zero=>rw [Qf4 e]at h;cases h
  |succ z=>rw [Qfh e];exact Ql
theorem Qsl {B:Nat→Nat} {T M k p:Nat} {l:Nat→Nat} {n:Nat} {o:List Nat} (h:(Qa7 B T M k l n ⟨p,0,o⟩).e=0) (hp:p≤T) (ho:o.length≤M):
  p≤(Qa7 B T M k l n ⟨p,0,o⟩).p∧(Qa7 B T M k l n ⟨p,0,o⟩).p≤T∧(Qa7 B T M k l n ⟨p,0,o⟩).o.length≤M:=by
 obtain⟨x,hx⟩:∃x,x=byS B T p (Qan (k:Int)).1 (Qan (k:Int)).2.1 (Qan (k:Int)).2.2:=⟨_,rfl⟩;obtain⟨y,hy⟩:∃y,y=symR B T l n x.2.2:=⟨_,rfl⟩;obtain⟨z,hz⟩:∃z,z=byS B T y.2.2 (Qa9 (y.1:Int)).1 (Qa9 (y.1:Int)).2.1 (Qa9 (y.1:Int)).2.2:=⟨_,rfl⟩;have D:=Qjq B T M k p l n o x y z hx hy hz;have h1:p≤x.2.2∧x.2.2≤T:=by rw [hx];exact⟨Qzq,Qqx hp⟩
 have h2:x.2.2≤y.2.2∧y.2.2≤T:=by rw [hy];exact⟨Q1n,Qm2 _ _ _ h1.2⟩
 have h3:y.2.2≤z.2.2∧z.2.2≤T:=by rw [hz];exact⟨Qzq,Qqx h2.2⟩
 clear hx hy hz;have no:∀{P:Prop},(P→(Qa7 B T M k l n ⟨p,0,o⟩).e=2)→¬P:=fun hP hq=>by rw [hP hq]at h;cases h
 have n1:=no D.1;have e:Qa7 B T M k l n ⟨p,0,o⟩=Qcp M z.1 x.1 ⟨z.2.2,0,o⟩:=D.2 (by
  cases h:x.2.1 with
  |true=>rfl
  |false=>exact absurd (.inl h) n1) (by
  cases h:y.2.1 with
  |true=>rfl
  |false=>exact absurd (.inr (.inl h)) n1) (by
  cases h:z.2.1 with
  |true=>rfl
  |false=>exact absurd (.inr (.inr (.inl h))) n1) (fun h=>n1 (.inr (.inr (.inr h))))
 rw [e,Qtp];exact⟨by show p≤z.2.2;omega,h3.2,Qnl _ ho⟩
theorem Qlg (g:Nat) (s:ByteArray) (M p:Nat) (o:List Nat) (v k1 k2 c1 c2:Value) (f1:Nat→Int) (n1:Nat) (f2:Nat→Int) (n2:Nat) (w:World) (h:UW g s M p o v k1 k2 w) (hc1:Qa8 c1 f1 n1 w) (hc2:Qa8 c2 f2 n2 w) (hs:s.size≤281474976710656) (hp:p≤8*s.size) (hM:M≤1048576) (ho:o.length≤M):
  Calls Tryz.prog 102 #[.pointer (some ⟨g,0,none⟩),.agg #[c1,c2]] w fun e w'=>e= .returned (.int .i64 ((Qat (bitH s) (8*s.size) M (toL f1) n1 (toL f2) n2 (8*s.size+1) ⟨p,0,o⟩).e:Int))∧Dn g s M (Qat (bitH s) (8*s.size) M (toL f1) n1 (toL f2) n2 (8*s.size+1) ⟨p,0,o⟩) v k1 k2 w w':=by
 obtain⟨S,hS⟩:∃S,S=Qat (bitH s) (8*s.size) M (toL f1) n1 (toL f2) n2 (8*s.size+1) ⟨p,0,o⟩:=⟨_,rfl⟩;rw [←hS];have hb0:=(Below.refl _ w).alloc Ql (.cells #[c1,c2] 82);have H0:=Qh (⟨h.below hb0,(Mv.refl g v w).below hb0,hc1.below hb0,hc2.below hb0,Blk.new w _ _⟩:UW g s M p o v k1 k2 (w.alloc (.cells #[c1,c2] 82))∧Mv g v w v (w.alloc (.cells #[c1,c2] 82))∧Qa8 c1 f1 n1 (w.alloc (.cells #[c1,c2] 82))∧Qa8 c2 f2 n2 (w.alloc (.cells #[c1,c2] 82))∧Blk (w.alloc (.cells #[c1,c2] 82)) w.heap.size 82 #[c1,c2]);obtain⟨q0,hq0⟩:∃q0,q0=w.heap.size:=⟨_,rfl⟩;rw [←hq0]at H0;have HS:=Qh hS;have HM:=Qh hM;have HO:=Qh ho;have HSZ:=Qh hs;clear h hc1 hc2 hb0 hS hM ho hs;go_enter Tryz.func102,Tryz.ntmps102;go_wp2_with fail;rw [←hq0];clear hq0;generalize w.alloc (.cells #[c1,c2] 82)=wa at H0⊢;go_loopg [4] (8*s.size+1) (fun gk r wr=>∃(t q:Nat) (O:List Nat) (u:Value),gk=t∧r= .int .i64 0∧Hid (S=Qat (bitH s) (8*s.size) M (toL f1) n1 (toL f2) n2 t ⟨q,0,O⟩)∧q≤8*s.size∧8*s.size-q<t∧Hid (O.length≤M)∧Hid (UW g s M q O u k1 k2 wr∧Mv g v w u wr∧Qa8 c1 f1 n1 wr∧Qa8 c2 f2 n2 wr∧Blk wr q0 82 #[c1,c2]))
 case atStart=>exact⟨_,p,o,v,rfl,rfl,HS,hp,by omega,HO,H0⟩
 case round=>
  obtain⟨t,q,O,u,hgk,rfl,HK,hq,hqt,HOl,HR⟩:=hrel;clear H0 HS HO hp;cases t with
  |zero=>omega
  |succ t=>
   obtain⟨y,hy⟩:∃y,y=symR (bitH s) (8*s.size) (toL f1) n1 q:=⟨_,rfl⟩;have D:=Qor (bitH s) (8*s.size) M (toL f1) n1 (toL f2) n2 t q O y hy;rw [←HK.out]at D;have HD:=Qh D;have HYP:Hid (y.2.1=true→q<y.2.2∧y.2.2≤8*s.size):=Qh fun h=>by rw [hy]at h⊢;exact Qm4 h
   have HC5:Hid (∀wx,UW g s M q O u k1 k2 wx→Qa8 c1 f1 n1 wx→Calls Tryz.prog 130 #[.pointer (some ⟨g,0,none⟩),c1] wx fun e w'=>e= .returned (.tuple #[.int .i64 (y.1:Int),.bool y.2.1])∧UW g s M y.2.2 O u k1 k2 w'∧Mv g u wx u w'):=Qh fun wx h2 h3=>by
    have:=HSZ.out;rw [hy];exact Ql8 g s M q O u k1 k2 c1 f1 n1 wx h2 h3 HSZ.out (by omega)
   have HQT:=Qh hqt;have HGK:=Qh hgk;clear hy D HK hqt hgk hq;go_wp2_with fail;refine Qad (Two 5 1001 fun b _ wx=>(b=false→UW g s M q O u k1 k2 wx∧Mv g v w u wx∧Qa8 c1 f1 n1 wx∧Qa8 c2 f2 n2 wx∧Blk wx q0 82 #[c1,c2])∧(b=true→UW g s M y.2.2 O u k1 k2 wx∧Mv g v w u wx∧Qa8 c1 f1 n1 wx∧Qa8 c2 f2 n2 wx∧Blk wx q0 82 #[c1,c2])) (by kernel_rfl) ⟨fun _=>⟨HR.out.1.drew,HR.out.2.1.drew,HR.out.2.2.1,HR.out.2.2.2.1,HR.out.2.2.2.2.drew⟩,fun h=>by(cases h)⟩ ?_
   refine tA (i:=0) rfl rfl ?_;simp only [pu];refine tA (i:=1) rfl rfl ?_;simp only [pu];refine tA (i:=2) rfl rfl ?_;simp only [pu];refine tA (i:=3) rfl rfl ?_;simp only [pu];refine Qaa (i:=4) (v:=c1) rfl (Qah (n:=9) rfl (fun f2 wx hT=> ?_)) ?_
   ·have cc:=(hT.1 rfl).2.2.2.2.cell 0;refine Qab (w:=wx) ?_ hT;go_simp;skip
   simp only [pu];refine Qaa (i:=5) (v:= .tuple #[.int .i64 (y.1:Int),.bool y.2.1]) rfl (Qa5 (by decide) rfl (fun f2 wx hT=> ?_)) ?_
   ·have h5:=hT.1 rfl;refine Qao (f:=130) ((HC5.out wx h5.1 h5.2.2.1).mono fun e w' ⟨he,hq,hm⟩=>⟨he,⟨fun h=>by(cases h),fun _=>⟨hq,h5.2.1.trans hm,h5.2.2.1.mv h5.1 hm,h5.2.2.2.1.mv h5.1 hm,Blk.mv h5.2.2.2.2 (by decide) (by decide) h5.1 hm⟩⟩⟩) ?_;go_simp;skip
   simp only [pu];refine tA (i:=6) rfl rfl ?_;simp only [pu];refine tA (i:=7) rfl rfl ?_;simp only [pu];refine tA (i:=8) rfl rfl ?_;simp only [pu];refine tA (i:=9) rfl rfl ?_;simp only [pu];refine tA (i:=10) rfl rfl ?_;simp only [pu];refine Qag rfl ?_ _;intro w2 hT;have H2:=Qh (hT.2 rfl:UW g s M y.2.2 O u k1 k2 w2∧Mv g v w u w2∧Qa8 c1 f1 n1 w2∧Qa8 c2 f2 n2 w2∧Blk w2 q0 82 #[c1,c2]);clear hT HR HC5;obtain⟨y1,y2,y3⟩:=y;cases y2 with
   |false=>
    have HE:=Qh (HD.out.1 rfl);clear HD;go_wp2_with fail;go_ret;rw [HE.out];exact⟨rfl,.bad H2.out.2.1 (by rw [HE.out];decide)⟩
   |true=>
   by_cases h256:y1=256
   ·have HE:=Qh (HD.out.2.1 rfl h256);have hi:(y1:Int)=256:=by omega
    have hib:((y1:Int)==256)=true:=by simp;omega
    clear HD h256;go_wp2_with fail;go_ret;rw [HE.out];exact⟨rfl,u,H2.out.2.1,fun _=>H2.out.1⟩
   ·have hi:¬(y1:Int)=256:=by omega
    have hib:((y1:Int)==256)=false:=by simp;omega
    by_cases hgt:256<y1
    ·have hgi:(y1:Int)>256:=by omega
     have HN:=Qh (HD.out.2.2.2.2 rfl hgt);have hyp:=HYP.out rfl;have C:=Qsm g s M y3 O u k1 k2 c1 c2 f2 n2 y1 w2 H2.out.1 H2.out.2.2.2.1 HSZ.out hyp.2 HM.out HOl.out;have HOK:Hid ((Qa7 (bitH s) (8*s.size) M y1 (toL f2) n2 ⟨y3,0,O⟩).e=0→y3≤(Qa7 (bitH s) (8*s.size) M y1 (toL f2) n2 ⟨y3,0,O⟩).p∧(Qa7 (bitH s) (8*s.size) M y1 (toL f2) n2 ⟨y3,0,O⟩).p≤8*s.size∧(Qa7 (bitH s) (8*s.size) M y1 (toL f2) n2 ⟨y3,0,O⟩).o.length≤M):=Qh fun h=>Qsl h hyp.2 HOl.out;dsimp only at HN;generalize Qa7 (bitH s) (8*s.size) M y1 (toL f2) n2 ⟨y3,0,O⟩=X at C HN HOK;have cc0:=H2.out.2.2.2.2.cell 0;have cc1:=H2.out.2.2.2.2.cell 1;have HYPP:=Qh hyp;clear HD h256 hgt hyp HYP;go_wp2_with (refine wpList_val (.agg #[c1,c2]) rfl (by exact Qia (R:=fun wx=>wx=w2) _ _ rfl _ rfl _ _ _ H2.out.2.2.2.2 Tryz.underlying82 rfl (by kernel_rfl) rfl) ?_;rintro _ rfl;simp only [pu])
     refine C.mono ?_;rintro e w3 ⟨rfl,hdn⟩;obtain⟨Xp,Xe,Xo⟩:=X;by_cases he:Xe=0
     ·subst he;obtain⟨u3,m3,h3⟩:=hdn;have h3:=h3 rfl;have H3:=Qh (⟨h3,H2.out.2.1.trans m3,H2.out.2.2.1.mv H2.out.1 m3,H2.out.2.2.2.1.mv H2.out.1 m3,Blk.mv H2.out.2.2.2.2 (by decide) (by decide) H2.out.1 m3⟩:UW g s M Xp Xo u3 k1 k2 w3∧Mv g v w u3 w3∧Qa8 c1 f1 n1 w3∧Qa8 c2 f2 n2 w3∧Blk w3 q0 82 #[c1,c2])
      have hok:=HOK.out rfl;clear h3 m3 cc0 cc1;go_wp2_with fail;go_roundg t
      case measure=>have:=HGK.out;omega
      case rel=>exact⟨t,Xp,Xo,u3,rfl,rfl,HN,hok.2.1,by have:=HYPP.out;have:=HQT.out;have:=hok.1;omega,Qh hok.2.2,H3⟩
     ·have HE:Hid (S.e=Xe∧S.e≠0):=Qh (by rw [HN.out,Qdq he];exact⟨rfl,he⟩)
      obtain⟨u3,m3,_⟩:=hdn;have hei:¬(Xe:Int)=0:=by omega
      have hneb:((Xe:Int) !=0)=true:=by simp;omega
      clear he cc0 cc1 HN HOK;go_wp2_with fail;go_ret;rw [HE.out.1];exact⟨rfl,.bad (H2.out.2.1.trans m3) HE.out.2⟩
    ·have hlt:y1<256:=by omega
     have hgi:¬(y1:Int)>256:=by omega
     have hbw:IntKind.u8.wrap (y1:Int)=(y1:Int):=by rw [IntKind.wrap_u8];omega
     have hbm:(y1:Int)%256=(y1:Int):=by omega
     have C:=Ql7 g s M y3 O u k1 k2 y1 w2 H2.out.1 HM.out HOl.out;have hyp:=HYP.out rfl;have HYPP:=Qh hyp;by_cases hl:O.length<M
     ·have HN:=Qh (HD.out.2.2.2.1 rfl hlt hl);have HL:=Qh hl;rw [decide_eq_true hl,if_pos hl]at C;clear HD h256 hgt hyp HYP hl hlt;go_wp2_with fail;refine C.mono ?_;rintro e w3 ⟨u3,rfl,h3,m3⟩;have H3:=Qh (⟨h3,H2.out.2.1.trans m3,H2.out.2.2.1.mv H2.out.1 m3,H2.out.2.2.2.1.mv H2.out.1 m3,Blk.mv H2.out.2.2.2.2 (by decide) (by decide) H2.out.1 m3⟩:UW g s M y3 (O++[y1]) u3 k1 k2 w3∧Mv g v w u3 w3∧Qa8 c1 f1 n1 w3∧Qa8 c2 f2 n2 w3∧Blk w3 q0 82 #[c1,c2])
      clear h3 m3 C;go_wp2_with fail;go_roundg t
      case measure=>have:=HGK.out;omega
      case rel=>exact⟨t,y3,O++[y1],u3,rfl,rfl,HN,HYPP.out.2,by have:=HYPP.out;have:=HQT.out;omega,Qh (by rw [List.length_append];have:=HL.out;simp only [List.length_cons,List.length_nil];omega),H3⟩
     ·have HE:=Qh (HD.out.2.2.1 rfl hlt hl);rw [decide_eq_false hl,if_neg hl]at C;clear HD h256 hgt hyp HYP hl hlt;go_wp2_with fail;refine C.mono ?_;rintro e w3 ⟨u3,rfl,h3,m3⟩;clear C;go_wp2_with fail;go_ret;rw [HE.out];exact⟨rfl,.bad (H2.out.2.1.trans m3) (by rw [HE.out];decide)⟩
end Go.Proofs.YtbmcjdoiohcaaaaGreat
