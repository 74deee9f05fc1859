/- NB -/
import Derived.Test.YtbmcjdoiohcaaaaGreatNA
import Derived.OwnWalk
import Derived.Laws.AppendOwn
import Derived.Deep.AppendLies
set_option maxRecDepth 100000
set_option maxHeartbeats 8000000
namespace Go.Proofs.YtbmcjdoiohcaaaaGreat
open Go.RowKit
theorem Qci (w:World) (arr:Array Value) (t:TypeId) (j:Nat) (u:Value) (h:arr.toList[j]? =some u):(w.alloc (.cells arr t)).cell? ((⟨w.heap.size,0,none⟩:Addr).add j)=some u:=by
 rw [Qay,Nat.zero_add,cell_of_row _ _ j _ _ (0,0) (heap_alloc_new w _)]
 simpa using h
def Each (z:Nat) (l:List (List Value)):Prop:=∀x∈l,x.length=z∧∀u∈x,u.oneCell'=true
theorem Each.len {z:Nat}:∀{l:List (List Value)},Each z l→l.flatten.length=l.length*z
 |[],_=>by simp
 |x::l,h=>by
  rw [List.flatten_cons,List.length_append,(h x (.head _)).1,Each.len fun y hy=>h y (.tail _ hy),List.length_cons,Nat.succ_mul];omega
theorem Each.app {z:Nat} {l m:List (List Value)} (h:Each z l) (k:Each z m):Each z (l++m):=fun x hx=>by
 rcases List.mem_append.1 hx with hx|hx
 ·exact h x hx
 ·exact k x hx
theorem Each.one {z:Nat} {l:List (List Value)} (h:Each z l):∀u∈l.flatten,u.oneCell'=true:=fun u hu=>by
 obtain⟨x,hx,hux⟩:=List.mem_flatten.1 hu;exact(h x hx).2 u hux
theorem Qh5 {z:Nat}:∀{l:List (List Value)},(∀x∈l,x.length=z)→∀(i j:Nat) (h:i<l.length),j<z→l.flatten[i*z+j]? =(l[i])[j]?
 |[],_,i,j,h,_=>absurd h (Nat.not_lt_zero i)
 |x::l,hl,0,j,_,hj=>by
  rw [List.flatten_cons,Nat.zero_mul,Nat.zero_add,List.getElem?_append_left (by rw [hl x (.head _)];exact hj)];rfl
 |x::l,hl,i+1,j,h,hj=>by
  rw [List.flatten_cons,List.getElem?_append_right (by rw [hl x (.head _),Nat.succ_mul];omega),hl x (.head _),show(i+1)*z+j-z=i*z+j by rw [Nat.succ_mul];omega]
  exact Qh5 (fun y hy=>hl y (.tail _ hy)) i j (by simpa using h) hj
structure LS (E:TypeId) (z:Nat) (B:Nat) (w0:World) (l:List (List Value)) (v:Value) (wr:World):Prop where
 own:wr.ownsRow B E z v l.length l.flatten
 each:Each z l
 b:Below B w0 wr
 lo:B≤wr.heap.size
section
variable {E:TypeId} {z B:Nat} {w0 w w':World} {l:List (List Value)} {v:Value}
theorem LS.nil (h:Below B w0 w) (hB:B≤w.heap.size):LS E z B w0 [] (.slice none 0 0) w:=⟨⟨by simp,.inl ⟨rfl,rfl⟩⟩,fun _ h=>(by cases h),h,hB⟩
theorem LS.below (h:LS E z B w0 l v w) (hb:Below w.heap.size w w'):LS E z B w0 l v w':=by
 refine⟨⟨h.own.1,?_⟩,h.each,h.b.trans (hb.mono h.lo),Nat.le_trans h.lo hb.size⟩;rcases h.own.2 with h1|⟨g,cap,cur,h1,h2,h3,h4⟩
 ·exact .inl h1
 ·refine .inr ⟨g,cap,cur,h1,h2,?_,h4⟩;rw [hb.block g (by
   rcases Nat.lt_or_ge g w.heap.size with hlt|hge
   ·exact hlt
   ·rw [Array.getElem?_eq_none hge]at h3;cases h3)]
  exact h3
theorem LS.drew (h:LS E z B w0 l v w):LS E z B w0 l v w.drew:=⟨h.own.drew,h.each,h.b.drew,h.lo⟩
end
structure RS (z:Nat) (p:Option Addr) (n cap:Nat) (l:List (List Value)) (w:World):Prop where
 len:l.length=n
 each:Each z l
 nil_:p=none→n=0∧cap=0
 le:n≤cap
 mx:cap≤9223372036854775807
 cell:∀a,p=some a→∀i (h:i<l.length),∀j u,(l[i])[j]? =some u→w.cell? (a.add (i*z+j))=some u
 lt:∀a,p=some a→a.block<w.heap.size
section
variable {E:TypeId} {z B:Nat} {w0 w w':World} {l:List (List Value)} {v:Value} {p:Option Addr} {n cap:Nat}
theorem RS.below (h:RS z p n cap l w) (hb:Below w.heap.size w w'):RS z p n cap l w':=
 ⟨h.len,h.each,h.nil_,h.le,h.mx,fun a ha i hi j u hu=>by
  have hl:=h.lt a ha;have:(a.add (i*z+j)).block=a.block:=by unfold Addr.add;split<;>rfl
  rw [hb.cell (p:=a.add (i*z+j)) (by rw [this];exact hl)];exact h.cell a ha i hi j u hu,fun a ha=>Nat.lt_of_lt_of_le (h.lt a ha) hb.size⟩
theorem RS.some_ (h:RS z p n cap l w) (h0:0<n):∃a,p=some a:=by
 cases p with
 |none=>have:=(h.nil_ rfl).1;omega
 |some a=>exact⟨a,rfl⟩
theorem LS.rs (h:LS E z B w0 l v w):∃p cap,v= .slice p l.length cap∧RS z p l.length cap l w∧∀a,p=some a→B≤a.block:=by
 rcases h.own.2 with⟨h1,h2⟩|⟨g,cap,cur,h1,h2,h3,h4,h5,h6,h7⟩
 ·rw [h2];obtain rfl:l=[]:=List.eq_nil_of_length_eq_zero h2;exact⟨none,0,h1,⟨rfl,h.each,fun _=>⟨rfl,rfl⟩,Ql,by decide,(fun a e=>by cases e),(fun a e=>by cases e)⟩,(fun a e=>by cases e)⟩
 ·refine⟨some ⟨g,0,none⟩,cap,h1,⟨rfl,h.each,(fun e=>by cases e),h4,by unfold maxLen at h5;exact h5,fun a ha i hi j u hu=> ?_,fun a ha=> ?_⟩,fun a ha=>by cases ha;exact h2⟩
  ·cases ha
   have hj:j<z:=by
    have:=(h.each _ (List.getElem_mem hi)).1;rcases Nat.lt_or_ge j z with h|h
    ·exact h
    ·rw [List.getElem?_eq_none (by omega)]at hu;cases hu
   rw [Qay,Nat.zero_add,cell_of_row w g _ cur E (0,0) h3];have hh:=Qh5 (fun x hx=>(h.each x hx).1) i j hi hj;rw [hu,←h7,List.getElem?_take]at hh;split at hh
   ·simpa using hh
   ·cases hh
  ·cases ha
   show g<_
   rcases Nat.lt_or_ge g w.heap.size with hlt|hge
   ·exact hlt
   ·rw [Array.getElem?_eq_none hge]at h3;cases h3
end
structure Gr (v:Value) (w:World) (v':Value) (w':World):Prop where
 os:w'.os=w.os
 tape:w'.tape=w.tape
 output:w'.output=w.output
 size:w.heap.size≤w'.heap.size
 block:∀i,i<w.heap.size→v.ownBlock≠some i→w'.heap[i]? =w.heap[i]?
 own:∀i,v'.ownBlock=some i→v.ownBlock=some i∨w.heap.size≤i
theorem Gr.of {v:Value} {w w':World} (hb:Below w.heap.size w w'):Gr v w v w':=⟨hb.os,hb.tape,hb.output,hb.size,fun i hi _=>hb.block i hi,fun _ h=> .inl h⟩
theorem Gr.trans {v v1 v2:Value} {w w1 w2:World} (h:Gr v w v1 w1) (k:Gr v1 w1 v2 w2):Gr v w v2 w2:=
 ⟨k.os.trans h.os,k.tape.trans h.tape,k.output.trans h.output,Nat.le_trans h.size k.size,fun i hi hv=>(k.block i (Nat.lt_of_lt_of_le hi h.size) (fun e=>by
  rcases h.own i e with h1|h1
  ·exact hv h1
  ·omega)).trans (h.block i hi hv),fun i e=>by
  rcases k.own i e with h1|h1
  ·exact h.own i h1
  ·right;have:=h.size;omega⟩
theorem Qdz {B:Nat} {w0 w w':World} {v v':Value} (h:Below B w0 w) (hg:Gr v w v' w') (hB:∀i,v.ownBlock=some i→B≤i) (hz:B≤w.heap.size):Below B w0 w':=
 ⟨hg.os.trans h.os,hg.tape.trans h.tape,hg.output.trans h.output,Nat.le_trans h.size hg.size,fun i hi=>(hg.block i (by omega) (fun e=>by have:=hB i e;omega)).trans (h.block i hi)⟩
theorem Blk.gr {w w':World} {v v':Value} {q:Nat} {t:TypeId} {cs:Array Value} (h:Blk w q t cs) (hg:Gr v w v' w') (hq:v.ownBlock≠some q):Blk w' q t cs:=(hg.block q h.lt hq).trans h
section
variable {E:TypeId} {z B:Nat} {w0 w w':World} {l:List (List Value)} {v v' u:Value} {p:Option Addr} {n cap:Nat}
theorem LS.ownB (h:LS E z B w0 l v w):∀i,v.ownBlock=some i→B≤i∧i<w.heap.size:=World.ownsRow.lt h.own
theorem LS.gr (h:LS E z B w0 l u w) (hg:Gr v w v' w') (hne:∀i,u.ownBlock=some i→v.ownBlock≠some i) (hB:∀i,v.ownBlock=some i→B≤i):LS E z B w0 l u w':=by
 refine⟨⟨h.own.1,?_⟩,h.each,Qdz h.b hg hB h.lo,Nat.le_trans h.lo hg.size⟩;rcases h.own.2 with h1|⟨g,cap,cur,h1,h2,h3,h4⟩
 ·exact .inl h1
 ·refine .inr ⟨g,cap,cur,h1,h2,?_,h4⟩;rw [hg.block g (by
   rcases Nat.lt_or_ge g w.heap.size with hlt|hge
   ·exact hlt
   ·rw [Array.getElem?_eq_none hge]at h3;cases h3) (hne g (by rw [h1];rfl))]
  exact h3
theorem Qhj (hg:Gr v w v' w') (hne:∀i,u.ownBlock=some i→v.ownBlock≠some i) (hu:∀i,u.ownBlock=some i→i<w.heap.size):∀i,u.ownBlock=some i→v'.ownBlock≠some i:=fun i e e2=>by
 rcases hg.own i e2 with h|h
 ·exact hne i e h
 ·have:=hu i e;omega
theorem Qcr (hne:∀i,u.ownBlock=some i→v.ownBlock≠some i):∀i,v.ownBlock=some i→u.ownBlock≠some i:=fun i e e2=>hne i e2 e
end
theorem Qfp (a:Addr) (j:Nat) (hj:0<j):a.add j=⟨a.block,a.off+j,none⟩:=by unfold Addr.add;rw [if_neg (by omega)]
theorem Q0y:(Tryz.prog.info? 138).map (fun i=>(i.zero,i.size,i.bytes))=some (some (.agg #[.int .i64 0,.int .i64 0,.int .i64 0]),3,24):=by kernel_rfl
def encW (c0:Int) (c1:Int) (c2:Int):List Value:=[.int .i64 c0,.int .i64 c1,.int .i64 c2]
theorem Q0m (c0:Int) (c1:Int) (c2:Int):Each 3 [encW c0 c1 c2]:=fun x hx=>by
 rw [List.mem_singleton.1 hx];refine⟨rfl,fun u hu=> ?_⟩;unfold encW at hu;simp only [List.mem_cons,List.not_mem_nil,or_false]at hu;rcases hu with rfl|rfl|rfl<;>rfl
theorem Qoz {ops:Array Oper} {rest:List Oper} {o:Oper} {a:Act} {Q:Exit→Act→World→Prop} {B:Nat} {w0 w:World} {l:List (List Value)} {v:Value} (hgd:o.guard=none) (s x:Operand) (T:TypeId) (hT:Tryz.prog.underlying T=Tryz.prog.underlying 99)
  (ho:o.op= .call {callee:= .builtin .append,args:=#[s,x],argTypes:=#[T,T]}) (hs:a.eval s=v) (h:LS 138 3 B w0 l v w) (ad:Addr) (m c:Nat) (xs:List (List Value))
  (hx:a.eval x= .slice (some ad) m c) (hm:xs.length=m) (hz:Each 3 xs) (hc:∀j u,xs.flatten[j]? =some u→w.cell? (ad.add j)=some u) (hm0:0<m) (hn:l.length+m≤1000000000000)
  (k:∀v' w',LS 138 3 B w0 (l++xs) v' w'→Gr v w v' w'→wpList Tryz.prog ops Q rest (a.put o.dst v') w'):
  wpList Tryz.prog ops Q (o::rest) a w:=by
 obtain⟨i0,hi,hz0,hz1,hz2⟩:=info_parts Q0y;refine wpList_append_lies _ hgd s x T ho B 138 i0 (.agg #[.int .i64 0,.int .i64 0,.int .i64 0]) 3 24 (hT.trans Tryz.underlying99) hi hz0 hz1 hz2 rfl (by decide) v l.length _ hs h.own ad m c xs.flatten hx (by rw [hz.len,hm]) hc hz.one hm0 (by unfold maxLen;omega) (by omega) h.lo _ rfl ?_
 intro q cap w2 hown hg hat hlt;have hG:Gr v w (.slice (some ⟨q,0,none⟩) (l.length+m) cap) w2:=⟨hg.os,hg.tape,hg.output,hg.size,fun i hi hv=>hg.block i hi (fun e=>hv e.symm),fun i e=>by
  have e:q=i:=by injection e
  rcases hat with h1|h1
  ·exact .inl (by rw [h1,e])
  ·right;omega⟩
 refine k _ w2 ⟨?_,h.each.app hz,Qdz h.b hG (fun i e=>(h.ownB i e).1) h.lo,Nat.le_trans h.lo hg.size⟩ hG;rw [List.length_append,List.flatten_append,hm];exact hown
theorem Qg1 {ops:Array Oper} {rest:List Oper} {o:Oper} {a:Act} {Q:Exit→Act→World→Prop} {B:Nat} {w0 w:World} {l:List (List Value)} {v:Value} (hgd:o.guard=none) (s x:Operand) (T:TypeId) (hT:Tryz.prog.underlying T=Tryz.prog.underlying 99)
  (ho:o.op= .call {callee:= .builtin .append,args:=#[s,x],argTypes:=#[T,T]}) (hs:a.eval s=v) (h:LS 138 3 B w0 l v w) (c0:Int) (c1:Int) (c2:Int)
  (hx:a.eval x= .slice (some ⟨w.heap.size,0,none⟩) 1 1) (hn:l.length≤999999999999)
  (k:∀v' w',LS 138 3 B w0 (l++[encW c0 c1 c2]) v' w'→Gr v w v' w'→wpList Tryz.prog ops Q rest (a.put o.dst v') w'):
  wpList Tryz.prog ops Q (o::rest) a (w.alloc (.cells #[.int .i64 c0,.int .i64 c1,.int .i64 c2] 138)):=
 Qoz hgd s x T hT ho hs (h.below (Qb.alloc Ql _)) ⟨w.heap.size,0,none⟩ 1 1 [encW c0 c1 c2] hx rfl (Q0m c0 c1 c2) (fun j u hu=>Qci w #[.int .i64 c0,.int .i64 c1,.int .i64 c2] 138 j u (by simpa [encW]using hu)) (by decide) (by omega) fun v' w' h2 h3=>k v' w' h2 ((Gr.of (Qb.alloc Ql _)).trans h3)
theorem Qus:(Tryz.prog.info? 106).map (fun i=>(i.zero,i.size,i.bytes))=some (some (.agg #[.int .i64 0,.int .i64 0]),2,16):=by kernel_rfl
def encN (c0:Int) (c1:Int):List Value:=[.int .i64 c0,.int .i64 c1]
theorem Qnx (c0:Int) (c1:Int):Each 2 [encN c0 c1]:=fun x hx=>by
 rw [List.mem_singleton.1 hx];refine⟨rfl,fun u hu=> ?_⟩;unfold encN at hu;simp only [List.mem_cons,List.not_mem_nil,or_false]at hu;rcases hu with rfl|rfl<;>rfl
theorem Qc9 {ops:Array Oper} {rest:List Oper} {o:Oper} {a:Act} {Q:Exit→Act→World→Prop} {B:Nat} {w0 w:World} {l:List (List Value)} {v:Value} (hgd:o.guard=none) (s x:Operand) (T:TypeId) (hT:Tryz.prog.underlying T=Tryz.prog.underlying 52)
  (ho:o.op= .call {callee:= .builtin .append,args:=#[s,x],argTypes:=#[T,T]}) (hs:a.eval s=v) (h:LS 106 2 B w0 l v w) (ad:Addr) (m c:Nat) (xs:List (List Value))
  (hx:a.eval x= .slice (some ad) m c) (hm:xs.length=m) (hz:Each 2 xs) (hc:∀j u,xs.flatten[j]? =some u→w.cell? (ad.add j)=some u) (hm0:0<m) (hn:l.length+m≤1000000000000)
  (k:∀v' w',LS 106 2 B w0 (l++xs) v' w'→Gr v w v' w'→wpList Tryz.prog ops Q rest (a.put o.dst v') w'):
  wpList Tryz.prog ops Q (o::rest) a w:=by
 obtain⟨i0,hi,hz0,hz1,hz2⟩:=info_parts Qus;refine wpList_append_lies _ hgd s x T ho B 106 i0 (.agg #[.int .i64 0,.int .i64 0]) 2 16 (hT.trans Tryz.underlying52) hi hz0 hz1 hz2 rfl (by decide) v l.length _ hs h.own ad m c xs.flatten hx (by rw [hz.len,hm]) hc hz.one hm0 (by unfold maxLen;omega) (by omega) h.lo _ rfl ?_
 intro q cap w2 hown hg hat hlt;have hG:Gr v w (.slice (some ⟨q,0,none⟩) (l.length+m) cap) w2:=⟨hg.os,hg.tape,hg.output,hg.size,fun i hi hv=>hg.block i hi (fun e=>hv e.symm),fun i e=>by
  have e:q=i:=by injection e
  rcases hat with h1|h1
  ·exact .inl (by rw [h1,e])
  ·right;omega⟩
 refine k _ w2 ⟨?_,h.each.app hz,Qdz h.b hG (fun i e=>(h.ownB i e).1) h.lo,Nat.le_trans h.lo hg.size⟩ hG;rw [List.length_append,List.flatten_append,hm];exact hown
theorem Qix {ops:Array Oper} {rest:List Oper} {o:Oper} {a:Act} {Q:Exit→Act→World→Prop} {B:Nat} {w0 w:World} {l:List (List Value)} {v:Value} (hgd:o.guard=none) (s x:Operand) (T:TypeId) (hT:Tryz.prog.underlying T=Tryz.prog.underlying 52)
  (ho:o.op= .call {callee:= .builtin .append,args:=#[s,x],argTypes:=#[T,T]}) (hs:a.eval s=v) (h:LS 106 2 B w0 l v w) (c0:Int) (c1:Int)
  (hx:a.eval x= .slice (some ⟨w.heap.size,0,none⟩) 1 1) (hn:l.length≤999999999999)
  (k:∀v' w',LS 106 2 B w0 (l++[encN c0 c1]) v' w'→Gr v w v' w'→wpList Tryz.prog ops Q rest (a.put o.dst v') w'):
  wpList Tryz.prog ops Q (o::rest) a (w.alloc (.cells #[.int .i64 c0,.int .i64 c1] 106)):=
 Qc9 hgd s x T hT ho hs (h.below (Qb.alloc Ql _)) ⟨w.heap.size,0,none⟩ 1 1 [encN c0 c1] hx rfl (Qnx c0 c1) (fun j u hu=>Qci w #[.int .i64 c0,.int .i64 c1] 106 j u (by simpa [encN]using hu)) (by decide) (by omega) fun v' w' h2 h3=>k v' w' h2 ((Gr.of (Qb.alloc Ql _)).trans h3)
theorem Q2h:(Tryz.prog.info? 110).map (fun i=>(i.zero,i.size,i.bytes))=some (some (.agg #[.int .i64 0,.int .i64 0]),2,16):=by kernel_rfl
def Ql9 (c0:Int) (c1:Int):List Value:=[.int .i64 c0,.int .i64 c1]
theorem Qzt (c0:Int) (c1:Int):Each 2 [Ql9 c0 c1]:=fun x hx=>by
 rw [List.mem_singleton.1 hx];refine⟨rfl,fun u hu=> ?_⟩;unfold Ql9 at hu;simp only [List.mem_cons,List.not_mem_nil,or_false]at hu;rcases hu with rfl|rfl<;>rfl
theorem Qnf {ops:Array Oper} {rest:List Oper} {o:Oper} {a:Act} {Q:Exit→Act→World→Prop} {B:Nat} {w0 w:World} {l:List (List Value)} {v:Value} (hgd:o.guard=none) (s x:Operand) (T:TypeId) (hT:Tryz.prog.underlying T=Tryz.prog.underlying 61)
  (ho:o.op= .call {callee:= .builtin .append,args:=#[s,x],argTypes:=#[T,T]}) (hs:a.eval s=v) (h:LS 110 2 B w0 l v w) (ad:Addr) (m c:Nat) (xs:List (List Value))
  (hx:a.eval x= .slice (some ad) m c) (hm:xs.length=m) (hz:Each 2 xs) (hc:∀j u,xs.flatten[j]? =some u→w.cell? (ad.add j)=some u) (hm0:0<m) (hn:l.length+m≤1000000000000)
  (k:∀v' w',LS 110 2 B w0 (l++xs) v' w'→Gr v w v' w'→wpList Tryz.prog ops Q rest (a.put o.dst v') w'):
  wpList Tryz.prog ops Q (o::rest) a w:=by
 obtain⟨i0,hi,hz0,hz1,hz2⟩:=info_parts Q2h;refine wpList_append_lies _ hgd s x T ho B 110 i0 (.agg #[.int .i64 0,.int .i64 0]) 2 16 (hT.trans Tryz.underlying61) hi hz0 hz1 hz2 rfl (by decide) v l.length _ hs h.own ad m c xs.flatten hx (by rw [hz.len,hm]) hc hz.one hm0 (by unfold maxLen;omega) (by omega) h.lo _ rfl ?_
 intro q cap w2 hown hg hat hlt;have hG:Gr v w (.slice (some ⟨q,0,none⟩) (l.length+m) cap) w2:=⟨hg.os,hg.tape,hg.output,hg.size,fun i hi hv=>hg.block i hi (fun e=>hv e.symm),fun i e=>by
  have e:q=i:=by injection e
  rcases hat with h1|h1
  ·exact .inl (by rw [h1,e])
  ·right;omega⟩
 refine k _ w2 ⟨?_,h.each.app hz,Qdz h.b hG (fun i e=>(h.ownB i e).1) h.lo,Nat.le_trans h.lo hg.size⟩ hG;rw [List.length_append,List.flatten_append,hm];exact hown
theorem Qo0 {ops:Array Oper} {rest:List Oper} {o:Oper} {a:Act} {Q:Exit→Act→World→Prop} {B:Nat} {w0 w:World} {l:List (List Value)} {v:Value} (hgd:o.guard=none) (s x:Operand) (T:TypeId) (hT:Tryz.prog.underlying T=Tryz.prog.underlying 61)
  (ho:o.op= .call {callee:= .builtin .append,args:=#[s,x],argTypes:=#[T,T]}) (hs:a.eval s=v) (h:LS 110 2 B w0 l v w) (c0:Int) (c1:Int)
  (hx:a.eval x= .slice (some ⟨w.heap.size,0,none⟩) 1 1) (hn:l.length≤999999999999)
  (k:∀v' w',LS 110 2 B w0 (l++[Ql9 c0 c1]) v' w'→Gr v w v' w'→wpList Tryz.prog ops Q rest (a.put o.dst v') w'):
  wpList Tryz.prog ops Q (o::rest) a (w.alloc (.cells #[.int .i64 c0,.int .i64 c1] 110)):=
 Qnf hgd s x T hT ho hs (h.below (Qb.alloc Ql _)) ⟨w.heap.size,0,none⟩ 1 1 [Ql9 c0 c1] hx rfl (Qzt c0 c1) (fun j u hu=>Qci w #[.int .i64 c0,.int .i64 c1] 110 j u (by simpa [Ql9]using hu)) (by decide) (by omega) fun v' w' h2 h3=>k v' w' h2 ((Gr.of (Qb.alloc Ql _)).trans h3)
theorem Q3n:(Tryz.prog.info? 3).map (fun i=>(i.zero,i.size,i.bytes))=some (some (.int .i64 0),1,8):=by kernel_rfl
def encI (c0:Int):List Value:=[.int .i64 c0]
theorem Q0l (c0:Int):Each 1 [encI c0]:=fun x hx=>by
 rw [List.mem_singleton.1 hx];refine⟨rfl,fun u hu=> ?_⟩;unfold encI at hu;simp only [List.mem_cons,List.not_mem_nil,or_false]at hu;rcases hu with rfl<;>rfl
theorem Qeo {ops:Array Oper} {rest:List Oper} {o:Oper} {a:Act} {Q:Exit→Act→World→Prop} {B:Nat} {w0 w:World} {l:List (List Value)} {v:Value} (hgd:o.guard=none) (s x:Operand) (T:TypeId) (hT:Tryz.prog.underlying T=Tryz.prog.underlying 92)
  (ho:o.op= .call {callee:= .builtin .append,args:=#[s,x],argTypes:=#[T,T]}) (hs:a.eval s=v) (h:LS 3 1 B w0 l v w) (ad:Addr) (m c:Nat) (xs:List (List Value))
  (hx:a.eval x= .slice (some ad) m c) (hm:xs.length=m) (hz:Each 1 xs) (hc:∀j u,xs.flatten[j]? =some u→w.cell? (ad.add j)=some u) (hm0:0<m) (hn:l.length+m≤1000000000000)
  (k:∀v' w',LS 3 1 B w0 (l++xs) v' w'→Gr v w v' w'→wpList Tryz.prog ops Q rest (a.put o.dst v') w'):
  wpList Tryz.prog ops Q (o::rest) a w:=by
 obtain⟨i0,hi,hz0,hz1,hz2⟩:=info_parts Q3n;refine wpList_append_lies _ hgd s x T ho B 3 i0 (.int .i64 0) 1 8 (hT.trans Tryz.underlying92) hi hz0 hz1 hz2 rfl (by decide) v l.length _ hs h.own ad m c xs.flatten hx (by rw [hz.len,hm]) hc hz.one hm0 (by unfold maxLen;omega) (by omega) h.lo _ rfl ?_
 intro q cap w2 hown hg hat hlt;have hG:Gr v w (.slice (some ⟨q,0,none⟩) (l.length+m) cap) w2:=⟨hg.os,hg.tape,hg.output,hg.size,fun i hi hv=>hg.block i hi (fun e=>hv e.symm),fun i e=>by
  have e:q=i:=by injection e
  rcases hat with h1|h1
  ·exact .inl (by rw [h1,e])
  ·right;omega⟩
 refine k _ w2 ⟨?_,h.each.app hz,Qdz h.b hG (fun i e=>(h.ownB i e).1) h.lo,Nat.le_trans h.lo hg.size⟩ hG;rw [List.length_append,List.flatten_append,hm];exact hown
theorem Qax {ops:Array Oper} {rest:List Oper} {o:Oper} {a:Act} {Q:Exit→Act→World→Prop} {B:Nat} {w0 w:World} {l:List (List Value)} {v:Value} (hgd:o.guard=none) (s x:Operand) (T:TypeId) (hT:Tryz.prog.underlying T=Tryz.prog.underlying 92)
  (ho:o.op= .call {callee:= .builtin .append,args:=#[s,x],argTypes:=#[T,T]}) (hs:a.eval s=v) (h:LS 3 1 B w0 l v w) (c0:Int)
  (hx:a.eval x= .slice (some ⟨w.heap.size,0,none⟩) 1 1) (hn:l.length≤999999999999)
  (k:∀v' w',LS 3 1 B w0 (l++[encI c0]) v' w'→Gr v w v' w'→wpList Tryz.prog ops Q rest (a.put o.dst v') w'):
  wpList Tryz.prog ops Q (o::rest) a (w.alloc (.cells #[.int .i64 c0] 3)):=
 Qeo hgd s x T hT ho hs (h.below (Qb.alloc Ql _)) ⟨w.heap.size,0,none⟩ 1 1 [encI c0] hx rfl (Q0l c0) (fun j u hu=>Qci w #[.int .i64 c0] 3 j u (by simpa [encI]using hu)) (by decide) (by omega) fun v' w' h2 h3=>k v' w' h2 ((Gr.of (Qb.alloc Ql _)).trans h3)
theorem Q2g:(Tryz.prog.info? 5).map (fun i=>(i.zero,i.size,i.bytes))=some (some (.int .u8 0),1,1):=by kernel_rfl
def encB (c0:Int):List Value:=[.int .u8 c0]
theorem Q19 (c0:Int):Each 1 [encB c0]:=fun x hx=>by
 rw [List.mem_singleton.1 hx];refine⟨rfl,fun u hu=> ?_⟩;unfold encB at hu;simp only [List.mem_cons,List.not_mem_nil,or_false]at hu;rcases hu with rfl<;>rfl
theorem Qoy {ops:Array Oper} {rest:List Oper} {o:Oper} {a:Act} {Q:Exit→Act→World→Prop} {B:Nat} {w0 w:World} {l:List (List Value)} {v:Value} (hgd:o.guard=none) (s x:Operand) (T:TypeId) (hT:Tryz.prog.underlying T=Tryz.prog.underlying 25)
  (ho:o.op= .call {callee:= .builtin .append,args:=#[s,x],argTypes:=#[T,T]}) (hs:a.eval s=v) (h:LS 5 1 B w0 l v w) (ad:Addr) (m c:Nat) (xs:List (List Value))
  (hx:a.eval x= .slice (some ad) m c) (hm:xs.length=m) (hz:Each 1 xs) (hc:∀j u,xs.flatten[j]? =some u→w.cell? (ad.add j)=some u) (hm0:0<m) (hn:l.length+m≤1000000000000)
  (k:∀v' w',LS 5 1 B w0 (l++xs) v' w'→Gr v w v' w'→wpList Tryz.prog ops Q rest (a.put o.dst v') w'):
  wpList Tryz.prog ops Q (o::rest) a w:=by
 obtain⟨i0,hi,hz0,hz1,hz2⟩:=info_parts Q2g;refine wpList_append_lies _ hgd s x T ho B 5 i0 (.int .u8 0) 1 1 (hT.trans Tryz.underlying25) hi hz0 hz1 hz2 rfl (by decide) v l.length _ hs h.own ad m c xs.flatten hx (by rw [hz.len,hm]) hc hz.one hm0 (by unfold maxLen;omega) (by omega) h.lo _ rfl ?_
 intro q cap w2 hown hg hat hlt;have hG:Gr v w (.slice (some ⟨q,0,none⟩) (l.length+m) cap) w2:=⟨hg.os,hg.tape,hg.output,hg.size,fun i hi hv=>hg.block i hi (fun e=>hv e.symm),fun i e=>by
  have e:q=i:=by injection e
  rcases hat with h1|h1
  ·exact .inl (by rw [h1,e])
  ·right;omega⟩
 refine k _ w2 ⟨?_,h.each.app hz,Qdz h.b hG (fun i e=>(h.ownB i e).1) h.lo,Nat.le_trans h.lo hg.size⟩ hG;rw [List.length_append,List.flatten_append,hm];exact hown
theorem Qqj {ops:Array Oper} {rest:List Oper} {o:Oper} {a:Act} {Q:Exit→Act→World→Prop} {B:Nat} {w0 w:World} {l:List (List Value)} {v:Value} (hgd:o.guard=none) (s x:Operand) (T:TypeId) (hT:Tryz.prog.underlying T=Tryz.prog.underlying 25)
  (ho:o.op= .call {callee:= .builtin .append,args:=#[s,x],argTypes:=#[T,T]}) (hs:a.eval s=v) (h:LS 5 1 B w0 l v w) (c0:Int)
  (hx:a.eval x= .slice (some ⟨w.heap.size,0,none⟩) 1 1) (hn:l.length≤999999999999)
  (k:∀v' w',LS 5 1 B w0 (l++[encB c0]) v' w'→Gr v w v' w'→wpList Tryz.prog ops Q rest (a.put o.dst v') w'):
  wpList Tryz.prog ops Q (o::rest) a (w.alloc (.cells #[.int .u8 c0] 5)):=
 Qoy hgd s x T hT ho hs (h.below (Qb.alloc Ql _)) ⟨w.heap.size,0,none⟩ 1 1 [encB c0] hx rfl (Q19 c0) (fun j u hu=>Qci w #[.int .u8 c0] 5 j u (by simpa [encB]using hu)) (by decide) (by omega) fun v' w' h2 h3=>k v' w' h2 ((Gr.of (Qb.alloc Ql _)).trans h3)
theorem Quf (l:List Int):(l.map encI).flatten=l.map fun(x:Int)=>Value.int .i64 x:=by
 induction l with
 |nil=>rfl
 |cons x l ih=>simp only [List.map_cons,List.flatten_cons,ih,encI,List.singleton_append]
theorem RS.at2 {a:Addr} {n cap:Nat} {l:List (List Value)} {w:World} (h:RS 2 (some a) n cap l w) {i:Nat} {x y:Value} (hi:l[i]? =some [x,y]):
  w.cell? (a.add (i*2))=some x∧w.cell? ⟨(a.add (i*2)).block,(a.add (i*2)).off+1,none⟩=some y:=by
 obtain⟨hl,e⟩:=List.getElem?_eq_some_iff.1 hi;have k:=h.cell a rfl i hl;rw [e]at k;refine⟨k 0 x rfl,?_⟩;have:=k 1 y rfl
 rwa [←Qg2,Qfp _ 1 (by decide)]at this
theorem RS.at3 {a:Addr} {n cap:Nat} {l:List (List Value)} {w:World} (h:RS 3 (some a) n cap l w) {i:Nat} {x y z:Value} (hi:l[i]? =some [x,y,z]):
  w.cell? (a.add (i*3))=some x∧w.cell? ⟨(a.add (i*3)).block,(a.add (i*3)).off+1,none⟩=some y∧w.cell? ⟨(a.add (i*3)).block,(a.add (i*3)).off+2,none⟩=some z:=by
 obtain⟨hl,e⟩:=List.getElem?_eq_some_iff.1 hi;have k:=h.cell a rfl i hl;rw [e]at k;refine⟨k 0 x rfl,?_,?_⟩
 ·have:=k 1 y rfl
  rwa [←Qg2,Qfp _ 1 (by decide)]at this
 ·have:=k 2 z rfl
  rwa [←Qg2,Qfp _ 2 (by decide)]at this
def encR (x:Int×Nat×Nat):List Value:=encW x.1 (x.2.1:Int) (x.2.2:Int)
theorem Qy0 (p:Option Addr) (n cap:Nat) (f:Nat→Int) (w:World) (h:IS p n cap f w) (hc:n≤cap) (hn:n≤1000000000) (hcap:cap≤9223372036854775807):
  Calls Tryz.prog 123 #[.slice p n cap] w fun e w'=>∃v,e= .returned v∧LS 138 3 w.heap.size w ((Qef f n).map encR) v w':=by
 have HI:Hid (∀wx,Below w.heap.size w wx→IS p n cap f wx):=Qh fun wx hb=>h.below hb;have HL0:Hid (LS 138 3 w.heap.size w [] (.slice none 0 0) w):=Qh (LS.nil Qb Ql);clear h;go_enter Tryz.func123,Tryz.ntmps123;go_wp2_with fail;go_loopg [3,4] n (fun gk v u wr=>∃(k:Nat) (v3:Value) (l:List (List Value)),gk=n-k∧v3=v∧u= .int .i64 (k:Int)∧k≤n∧l.length≤k∧Hid ((Qef f n).map encR=l++(Qdg f n (n-k) k).map encR)∧Hid (LS 138 3 w.heap.size w l v3 wr))
 case atStart=>exact⟨0,_,[],rfl,rfl,rfl,by omega,by decide,Qh rfl,HL0⟩
 case round=>
  obtain⟨k,v3,l,hgk,rfl,rfl,hk,hl,HK,HL⟩:=hrel;clear HL0;by_cases hlt:k<n
  ·have hlti:(k:Int)<(n:Int):=by omega
   have C:=Q1f p n cap f k wr (HI.out wr HL.out.b) hlt hc (by omega) hcap
   have hpos:=Qmy f n k;have hin:= @Qv5 f n k hlt;have HK2:Hid ((Qef f n).map encR=(l++[encR (runV f n k).1])++(Qdg f n (n-(k+(runV f n k).2)) (k+(runV f n k).2)).map encR):=Qh (by
    rw [HK.out,show n-k=n-k-1+1 by omega,Qcb hlt,Qcn f n (n-k-1) (n-(k+(runV f n k).2)) _ (by omega) (by omega)]
    simp)
   generalize hrr:runV f n k=r at C hpos hin HK2;clear hrr;obtain⟨⟨s,v,b⟩,t⟩:=r;dsimp only at C hpos hin HK2;go_wp2_with fail;refine C.mono ?_;rintro e w1 ⟨rfl,b1⟩;have HL1:=Qh (HL.out.below b1);clear C b1 HL;have HZ:=Qh (Blk.new w1 138 #[.int .i64 0,.int .i64 0,.int .i64 0]);have HZ2:=Qh (HZ.out.row_ #[.int .i64 s,.int .i64 (v:Int),.int .i64 (b:Int)]);have HB2:=Qh (Qai ((Below.refl _ w1).alloc Ql (.cells #[.int .i64 0,.int .i64 0,.int .i64 0] 138)) Ql #[.int .i64 s,.int .i64 (v:Int),.int .i64 (b:Int)]);have HL2:=Qh (HL1.out.below HB2.out);obtain⟨W2,hW2⟩:∃W2,W2=(w1.alloc (.cells #[.int .i64 0,.int .i64 0,.int .i64 0] 138)).setRow w1.heap.size #[.int .i64 s,.int .i64 (v:Int),.int .i64 (b:Int)]:=⟨_,rfl⟩;rw [←hW2]at HZ2 HB2 HL2;have HW2:=Qh hW2;clear hW2;have HLN:Hid (l.length≤999999999999):=Qh (by omega)
   have HKN:=Qh (⟨hgk,hl,hlt,hpos,hin⟩:gk=n-k∧l.length≤k∧k<n∧0<t∧k+t≤n);have hw:IntKind.i64.wrap ((k:Int)+(t:Int))=((k+t:Nat):Int):=by rw [IntWalk.i64_in _ (by omega)];rfl
   clear hl hpos hgk hlt HL1;go_wp2_with (first|(refine wpList_store_row rfl 138 _ _ rfl w1.heap.size #[.int .i64 s,.int .i64 (v:Int),.int .i64 (b:Int)] rfl rfl 138 _ HZ.out Qc8 rfl (Qc7 _ _ _) ?_;rw [←HW2.out])|(refine wpList_load_row rfl 138 (.tmp 5) rfl w1.heap.size rfl 138 _ (0,0) _ HZ2.out Tryz.underlying138 rfl Qc8 ?_)|(at_builtin;refine Qg1 rfl (.tmp 17) (.tmp 19) 99 rfl rfl rfl HL2.out s (v:Int) (b:Int) rfl HLN.out ?_;intro v9 w9 HL9 _))
   have HL10:Hid (LS 138 3 w.heap.size w (l++[encR (s,v,b)]) v9 w9):=Qh HL9;clear HL9;go_roundg (n-(k+t))
   case measure=>have:=HKN.out;omega
   case rel=>exact⟨k+t,_,l++[encR (s,v,b)],rfl,rfl,by go_num,by have:=HKN.out;omega,by rw [List.length_append];have:=HKN.out;show l.length+1≤k+t;omega,HK2,HL10⟩
  ·obtain rfl:k=n:=by omega
   have hlti:¬(k:Int)<(k:Int):=by omega
   have HE:Hid ((Qef f k).map encR=l):=Qh (by rw [HK.out,Nat.sub_self];simp [Qdg])
   clear HK;go_wp2_with fail;go_ret;rw [HE.out];exact⟨_,rfl,HL.out⟩
def runA (l:List (Int×Nat×Nat)):List (List Value):=l.map fun x=>encI x.1
def runB (l:List (Int×Nat×Nat)):List (List Value):=l.map fun x=>encI (x.2.1:Int)
end Go.Proofs.YtbmcjdoiohcaaaaGreat
