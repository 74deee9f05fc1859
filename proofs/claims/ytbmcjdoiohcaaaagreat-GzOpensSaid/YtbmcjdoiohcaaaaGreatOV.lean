/- OV -/
import Derived.Test.YtbmcjdoiohcaaaaGreatMW
import Derived.Test.YtbmcjdoiohcaaaaGreatNS
import Derived.Deep.Cut
set_option maxRecDepth 100000
set_option maxHeartbeats 8000000
namespace Go.Proofs.YtbmcjdoiohcaaaaGreat
open Go.RowKit
def cdF (f:Nat→Int) (n:Nat) (x:Fl):Fl:=if x.e≠0 then x else if newE f n=0 then x else⟨x.p,2,x.o⟩
theorem Qxl (l:List Nat) (x:Fl):Qdb l x=cdF (fun i=>(l.getD i 0:Int)) l.length x:=rfl
theorem Qdf {P:Program} {fn:Func} {p:Tmp} {ty:TypeId} (h:fn.results=#[.cell p ty]) (tmps:Array Value) (w:World) (g:Nat) (t:TypeId) (cs:Array Value) (d:TypeDesc)
  (hp:tmps.getD p undef= .pointer (some ⟨g,0,none⟩)) (hg:Blk w g t cs) (hu:P.underlying ty=some d) (hd:(match d with| .struct _| .array _ _=>true|_=>false)=true) (hi:(P.info? ty).map (·.size)=some cs.size):
  (results fn tmps).run P w= .ok (.agg cs) w:=by
 have hp':tmps[p]?.getD undef= .pointer (some ⟨g,0,none⟩):=by simpa using hp
 simp [results,h,hp',asAddr,run_loadVar_row w g t ty cs (0,0) d hg hu hd hi]
theorem FW.far {g:Nat} {s:ByteArray} {M:Nat} {x:Fl} {v:Value} {w:World} (h:FW g s M x v w) {q:Addr} (h1:g≠q.block) (h2:v.ownBlock≠some q.block) (u:Value):FW g s M x v (w.setCell q u):=by
 refine⟨h.blk.far h1 u,h.own.1,?_⟩;rcases h.own.2 with h3|⟨k,cap,cur,h3,h4,h5,h6⟩
 ·exact .inl h3
 ·refine .inr ⟨k,cap,cur,h3,h4,?_,h6⟩;rw [Below.heap_setCell w q u k (fun e=>h2 (by rw [h3,←e];rfl))]
  exact h5
theorem Mv.new {g:Nat} {v v':Value} {w w':World} (h:Mv g v w v' w') {q:Addr} (hq:w.heap.size≤q.block) (u:Value):Mv g v w v' (w'.setCell q u):=
 ⟨h.os,h.tape,h.output,by simp [World.setCell];exact h.size,fun i hi hg hv=>(Below.heap_setCell w' q u i (by omega)).trans (h.block i hi hg hv),h.own⟩
theorem Qgw (g:Nat) (s:ByteArray) (M:Nat) (x:Fl) (v:Value) (p:Option Addr) (n cap:Nat) (f:Nat→Int) (w:World) (h:FW g s M x v w) (hi:IS p n cap f w) (hn:n≤17592186044416):
  Calls Tryz.prog 70 #[.pointer (some ⟨g,0,none⟩),.slice p n cap] w fun e w'=>∃p1 c1 p2 c2 m,e= .returned (.agg #[.slice p1 m c1,.slice p2 m c2])∧FW g s M (cdF f n x) v w'∧Mv g v w v w'∧
   ((cdF f n x).e=0→m=n∧n≤300∧okB f n=true∧IS p1 n c1 f w'∧IS p2 n c2 (fun i=>(Qa0 (toL f) n i:Int)) w'∧(∀a,p1=some a→w.heap.size≤a.block)∧∀a,p2=some a→w.heap.size≤a.block):=by
 have hb0:=(Below.refl _ w).alloc Ql (.cells #[.slice none 0 0,.slice none 0 0] 125);have h0:=h.below hb0;have m0:=(Mv.refl g v w).below hb0;have k0:=Blk.new w 125 #[.slice none 0 0,.slice none 0 0];have i0:=hi.below hb0;have hz0:(w.alloc (.cells #[.slice none 0 0,.slice none 0 0] 125)).heap.size=w.heap.size+1:=by simp
 have c2:=h0.c2;by_cases he:x.e=0
 ·have hF:cdF f n x=if newE f n=0 then x else⟨x.p,2,x.o⟩:=if_neg (by omega)
  rw [he]at c2;replace c2:World.cell? _ ⟨g,2,none⟩=some (.int .i64 0):=c2;have HF:=Qh hF;have HE:=Qh he;clear hF he;go_enter Tryz.func70,Tryz.ntmps70;go_wp2_with fail;refine(Qsz p n cap f _ i0 hn).mono ?_;rintro e w1 ⟨p1,c1,p2,c2',m,rfl,b1,hgood⟩;rw [hz0]at hgood;have h1:=h0.below b1;have m1:=m0.below b1;have k1:=k0.below b1 k0.lt;have hz1:w.heap.size+1≤w1.heap.size:=by have:=b1.size;omega
  have HG:=Qh hgood;clear hgood h0 m0 k0 i0 b1 c2 hb0 hz0;have b2:=(Below.refl _ w1).alloc Ql (.cells #[.slice p1 m c1,.slice p2 m c2'] 125);have h2:=h1.below b2;have m2:=m1.below b2;have k2:=k1.below b2 k1.lt;have q2:=Blk.new w1 125 #[.slice p1 m c1,.slice p2 m c2'];have HG2:Hid (newE f n=0→m=n∧n≤300∧okB f n=true∧IS p1 n c1 f (w1.alloc (.cells #[.slice p1 m c1,.slice p2 m c2'] 125))∧IS p2 n c2' (fun i=>(Qa0 (toL f) n i:Int)) (w1.alloc (.cells #[.slice p1 m c1,.slice p2 m c2'] 125))∧(∀a,p1=some a→w.heap.size+1≤a.block)∧∀a,p2=some a→w.heap.size+1≤a.block):=Qh (fun h0=>
   have⟨a,b,c,d,e,f1,f2⟩:=HG.out h0
   ⟨a,b,c,d.below b2,e.below b2,f1,f2⟩)
  have hgw:g<w.heap.size:=h.lt;have hvw:v.ownBlock≠some w.heap.size:=fun e=>by have:=(h.ownB _ e).2;omega
  have HVW:=Qh hvw;obtain⟨R,hR⟩:∃R,R=w.heap.size:=⟨_,rfl⟩;have HR:=Qh hR;obtain⟨q,hq⟩:∃q,q=w1.heap.size:=⟨_,rfl⟩;have hgq:g≠q:=by omega
  have hRq:R≠q:=by omega
  clear HG h1 m1 k1 b2 hi h hvw;dsimp only
  iterate 24 go_step
  rw [←hR]at k2;rw [←hR,←hq];rw [←hq]at q2;generalize w1.alloc (.cells #[.slice p1 m c1,.slice p2 m c2'] 125)=W at*;have d0:W.cell? ⟨q,0,none⟩=some (.slice p1 m c1):=q2.cell 0;have d1:W.cell? ⟨q,1,none⟩=some (.slice p2 m c2'):=q2.cell 1;clear hq hR;have hinf:(Tryz.prog.info? 125).map (·.size)=some (#[Value.slice p1 m c1,.slice p2 m c2']).size:=by
   show _=some 2
   kernel_rfl
  by_cases hN:newE f n=0
  ·have hNi:((newE f n:Int) !=0)=false:=by simp;omega
   have r0:W.cell? ⟨R,0,none⟩=some (.slice none 0 0):=k2.cell 0;have r1:W.cell? ⟨R,1,none⟩=some (.slice none 0 0):=k2.cell 1;have f0:=k2.frozen 0;have f1:=k2.frozen 1;have HN:=Qh hN;clear hN;generalize (newE f n:Int)=E at hNi⊢;go_wp2_with fail;have kR:=(k2.set_ 0 (.slice p1 m c1)).set_ 1 (.slice p2 m c2');have e4:((#[Value.slice none 0 0,.slice none 0 0]:Array Value).setIfInBounds 0 (.slice p1 m c1)).setIfInBounds 1 (.slice p2 m c2')=#[.slice p1 m c1,.slice p2 m c2']:=rfl;rw [e4]at kR;have hxe:cdF f n x=x:=by rw [HF.out,if_pos HN.out]
   have hRw:=HR.out;have hgR:g≠R:=by omega
   have hvR:v.ownBlock≠some R:=by rw [hRw];exact HVW.out
   refine bodyPost_ret (Qdf rfl _ _ R 125 #[.slice p1 m c1,.slice p2 m c2'] _ rfl kR Tryz.underlying125 rfl hinf) rfl ⟨p1,c1,p2,c2',m,rfl,?_,?_,fun _=> ?_⟩
   ·rw [hxe];exact(h2.far (q:=⟨R,0,none⟩) hgR hvR _).far (q:=⟨R,1,none⟩) hgR hvR _
   ·exact(m2.new (q:=⟨R,0,none⟩) (show w.heap.size≤R by omega) _).new (q:=⟨R,1,none⟩) (show w.heap.size≤R by omega) _
   ·obtain⟨a1,a2,a3,a4,a5,a6,a7⟩:=HG2.out HN.out;have n1:∀a,p1=some a→a.block≠R:=fun a ha=>by have:=a6 a ha;omega
    have n2:∀a,p2=some a→a.block≠R:=fun a ha=>by have:=a7 a ha;omega
    exact⟨a1,a2,a3,(a4.set ⟨R,0,none⟩ _ n1).set ⟨R,1,none⟩ _ n1,(a5.set ⟨R,0,none⟩ _ n2).set ⟨R,1,none⟩ _ n2,fun a ha=>by have:=a6 a ha;omega,fun a ha=>by have:=a7 a ha;omega⟩
  ·have hNi:((newE f n:Int) !=0)=true:=by simp;omega
   have g2:W.cell? ⟨g,2,none⟩=some (.int .i64 (x.e:Int)):=h2.c2;have fg:=h2.fz 2;have hRw:=HR.out;have hgR:g≠R:=by omega
   have h3:=h2.setE 2;have m3:=m2.set 2 (.int .i64 ((2:Nat):Int));have k3:=k2.far (p:=⟨g,2,none⟩) (Ne.symm hgR) (.int .i64 2);have q3:=q2.far (p:=⟨g,2,none⟩) (Ne.symm hgq) (.int .i64 2);have d0:=q3.cell 0;have d1:=q3.cell 1;have r0:World.cell? _ ⟨R,0,none⟩=some (.slice none 0 0):=k3.cell 0;have r1:World.cell? _ ⟨R,1,none⟩=some (.slice none 0 0):=k3.cell 1;have f0:=k3.frozen 0;have f1:=k3.frozen 1;have kR:=(k3.set_ 0 (.slice p1 m c1)).set_ 1 (.slice p2 m c2');have e4:((#[Value.slice none 0 0,.slice none 0 0]:Array Value).setIfInBounds 0 (.slice p1 m c1)).setIfInBounds 1 (.slice p2 m c2')=#[.slice p1 m c1,.slice p2 m c2']:=rfl;rw [e4]at kR;have hxe:cdF f n x=⟨x.p,2,x.o⟩:=by rw [HF.out,if_neg hN]
   have HXE:=Qh hxe;have hvR:v.ownBlock≠some R:=by rw [hRw];exact HVW.out
   have HHR:=Qh hRw;have HVR:=Qh hvR;clear hN hxe hRw hvR e4;generalize (newE f n:Int)=E at hNi⊢;go_wp2_with fail;refine bodyPost_ret (Qdf rfl _ _ R 125 #[.slice p1 m c1,.slice p2 m c2'] _ rfl kR Tryz.underlying125 rfl hinf) rfl ⟨p1,c1,p2,c2',m,rfl,?_,?_,fun h0=> ?_⟩
   ·rw [HXE.out];exact(h3.far (q:=⟨R,0,none⟩) hgR HVR.out _).far (q:=⟨R,1,none⟩) hgR HVR.out _
   ·exact(m3.new (q:=⟨R,0,none⟩) (show w.heap.size≤R by have:=HHR.out;omega) _).new (q:=⟨R,1,none⟩) (show w.heap.size≤R by have:=HHR.out;omega) _
   ·rw [HXE.out]at h0;exact absurd (show 2=0 from h0) (by decide)
 ·have hxe:cdF f n x=x:=if_pos he;obtain⟨y,hy⟩:∃y:Int,(x.e:Int)=y:=⟨_,rfl⟩;rw [hy]at c2;have hyn:(y !=0)=true:=by simp;omega
  have HXE:=Qh hxe;have HE:=Qh he;have hgw:g<w.heap.size:=h.lt;have hvw:v.ownBlock≠some w.heap.size:=fun e=>by have:=(h.ownB _ e).2;omega
  have hgR:g≠w.heap.size:=by omega
  have r0:World.cell? _ ⟨w.heap.size,0,none⟩=some (.slice none 0 0):=k0.cell 0;have r1:World.cell? _ ⟨w.heap.size,1,none⟩=some (.slice none 0 0):=k0.cell 1;have f0:=k0.frozen 0;have f1:=k0.frozen 1;have hinf:(Tryz.prog.info? 125).map (·.size)=some (#[Value.slice none 0 0,.slice none 0 0]).size:=by
   show _=some 2
   kernel_rfl
  have HVW:=Qh hvw;clear hxe he hy hb0 i0 hz0 hvw hi h;go_enter Tryz.func70,Tryz.ntmps70;go_wp2_with fail;refine bodyPost_ret (Qdf rfl _ _ w.heap.size 125 #[.slice none 0 0,.slice none 0 0] _ rfl k0 Tryz.underlying125 rfl hinf) rfl ⟨none,0,none,0,0,rfl,?_,?_,fun h9=> ?_⟩
  ·rw [HXE.out];exact h0
  ·exact m0
  ·rw [HXE.out]at h9;exact absurd h9 HE.out
section
variable {g:Nat} {s:ByteArray} {M:Nat} {x:Fl} {v:Value} {w w':World}
theorem FW.at_ (h:FW g s M x v w) {j:Nat} (hj:j<x.o.length):∃q cap,v= .slice (some ⟨q,0,none⟩) x.o.length cap∧∀wx,FW g s M x v wx→wx.cell? ⟨q,j,none⟩=some (.int .u8 (x.o.getD j 0:Int)):=by
 rcases h.own.2 with⟨_,h2⟩|⟨q,cap,cur,h1,_⟩
 ·omega
 ·refine⟨q,cap,h1,fun wx hx=> ?_⟩;rcases hx.own.2 with⟨_,h2⟩|⟨q2,cap2,cur2,e1,e2,e3,e4,e5,e6,e7⟩
  ·omega
  ·rw [h1]at e1;obtain rfl:q=q2:=by injection e1 with e1;injection e1 with e1;injection e1
   rw [cell_of_row wx q j cur2 5 (0,0) e3];have h8:(cur2.toList.take (x.o.length*1))[j]? =(bys x.o)[j]? :=by rw [e7]
   rw [List.getElem?_take_of_lt (by omega)]at h8
   rw [←Array.getElem?_toList,h8];unfold bys;rw [List.getElem?_map,List.getElem?_eq_getElem hj];simp [List.getD,List.getElem?_eq_getElem hj]
structure RC (g:Nat) (p1:Option Addr) (c1:Nat) (p2:Option Addr) (c2 n:Nat) (f:Nat→Int) (v:Value) (w:World):Prop where
 hn:n≤300
 ok:okB f n=true
 l:IS p1 n c1 f w
 c:IS p2 n c2 (fun i=>(Qa0 (toL f) n i:Int)) w
 s1:∀a,p1=some a→a.block≠g∧v.ownBlock≠some a.block
 s2:∀a,p2=some a→a.block≠g∧v.ownBlock≠some a.block
theorem RC.mv {p1:Option Addr} {c1:Nat} {p2:Option Addr} {c2 n:Nat} {f:Nat→Int} {v':Value} (h:RC g p1 c1 p2 c2 n f v w) (m:Mv g v w v' w'):RC g p1 c1 p2 c2 n f v' w':=
 ⟨h.hn,h.ok,m.is h.l h.s1,m.is h.c h.s2,fun a ha=>⟨(h.s1 a ha).1,fun e=>by
  rcases m.own _ e with h1|h1
  ·exact(h.s1 a ha).2 h1
  ·have:=h.l.lt a ha;omega⟩,fun a ha=>⟨(h.s2 a ha).1,fun e=>by
  rcases m.own _ e with h1|h1
  ·exact(h.s2 a ha).2 h1
  ·have:=h.c.lt a ha;omega⟩⟩
theorem RC.below {p1:Option Addr} {c1:Nat} {p2:Option Addr} {c2 n:Nat} {f:Nat→Int} (h:RC g p1 c1 p2 c2 n f v w) (hb:Below w.heap.size w w'):RC g p1 c1 p2 c2 n f v w':=
 ⟨h.hn,h.ok,h.l.below hb,h.c.below hb,h.s1,h.s2⟩
theorem Blk.mvF {k:Nat} {t:TypeId} {cs:Array Value} {v':Value} (h:Blk w k t cs) (h1:t≠90) (h2:t≠5) (hu:FW g s M x v w) (m:Mv g v w v' w'):Blk w' k t cs:=by
 have hb:=hu.blk;unfold Blk at hb h;refine(m.block _ (Blk.lt h) ?_ ?_).trans h
 ·rintro rfl;rw [h]at hb
  injection hb with hb
  injection hb with _ hb
  exact h1 hb
 ·intro e;rcases hu.own.2 with⟨e1,_⟩|⟨q,cap,cur,e1,_,e3,_⟩
  ·subst e1;cases e
  ·subst e1;have e:q=k:=by injection e
   subst e;rw [h]at e3
   injection e3 with e3
   injection e3 with _ e3
   exact h2 e3
end
theorem Qph {x:Int} (h:(Qa9 x).2.2=true):1≤(Qa9 x).1:=by
 unfold Qa9 at h⊢;split
 ·exact Qnt _
 ·next hn=>rw [if_neg hn]at h;cases h
theorem Qn7 {T M:Nat} {x:Fl} (h:okF T M x):Rn 0 T M x:=⟨fun he=>⟨Nat.zero_le _,h.1 he⟩,h.2⟩
theorem Qnh {p0 T M:Nat} {x:Fl} (h:Rn p0 T M x):okF T M x:=⟨fun he=>(h.1 he).2,h.2⟩
theorem Qmu (g:Nat) (s:ByteArray) (M:Nat) (x:Fl) (v:Value) (k:Nat) (p1:Option Addr) (c1:Nat) (p2:Option Addr) (c2 n:Nat) (f:Nat→Int) (w:World) (h:FW g s M x v w) (hc:RC g p1 c1 p2 c2 n f v w) (hs:s.size≤281474976710656) (hok:okF (8*s.size) M x) (hM:M≤1048576) (he:x.e=0):
  Calls Tryz.prog 72 #[.pointer (some ⟨g,0,none⟩),.int .i64 (k:Int),.agg #[.slice p1 n c1,.slice p2 n c2]] w fun e w'=>e= .returned (.tuple #[])∧∃v',FW g s M (Qa7 (bitH s) (8*s.size) M k (toL f) n x) v' w'∧Mv g v w v' w':=by
 have hb0:=(Below.refl _ w).alloc Ql (.cells #[.slice p1 n c1,.slice p2 n c2] 125);have H0:=Qh (⟨h.below hb0,(Mv.refl g v w).below hb0,hc.below hb0,Blk.new w _ _⟩:FW g s M x v (w.alloc (.cells #[.slice p1 n c1,.slice p2 n c2] 125))∧Mv g v w v (w.alloc (.cells #[.slice p1 n c1,.slice p2 n c2] 125))∧RC g p1 c1 p2 c2 n f v (w.alloc (.cells #[.slice p1 n c1,.slice p2 n c2] 125))∧Blk (w.alloc (.cells #[.slice p1 n c1,.slice p2 n c2] 125)) w.heap.size 125 #[.slice p1 n c1,.slice p2 n c2]);obtain⟨q0,hq0⟩:∃q0,q0=w.heap.size:=⟨_,rfl⟩;have HSP:Hid (Qa7 (bitH s) (8*s.size) M k (toL f) n x=if (Qan (k:Int)).2.2=false then⟨x.p,2,x.o⟩else
  let a:=Qal (bitH s) (8*s.size) (Qan (k:Int)).2.1 x
  let t:=symS (bitH s) (8*s.size) (toL f) n a.2
  if t.2.e≠0∨(Qa9 (t.1:Int)).2.2=false then⟨t.2.p,2,t.2.o⟩else
   let b:=Qal (bitH s) (8*s.size) (Qa9 (t.1:Int)).2.1 t.2
   let d:=(Qa9 (t.1:Int)).1+b.1
   Qcp M d ((Qan (k:Int)).1+a.1) (if b.2.e=0∧d>b.2.o.length then⟨b.2.p,2,b.2.o⟩else b.2)):=Qh rfl
 have HM:=Qh hM;clear h hc hb0;generalize Qa7 (bitH s) (8*s.size) M k (toL f) n x=S at HSP⊢;go_enter Tryz.func72,Tryz.ntmps72;go_wp2_with fail;refine(Qgx (k:Int) _).mono ?_;rintro e w0 ⟨rfl,rfl⟩;rw [←hq0]at H0⊢;clear hq0;generalize w.alloc (.cells #[.slice p1 n c1,.slice p2 n c2] 125)=wa at H0⊢;have hL:=Qlo (k:Int);generalize Qan (k:Int)=L at HSP hL⊢;obtain⟨L1,L2,L3⟩:=L;cases L3 with
 |false=>
  have HE:Hid (S=⟨x.p,2,x.o⟩):=Qh HSP.out;have k2:=H0.out.1.c2;have fz:=H0.out.1.fz 2;have h3:=H0.out.1.setE 2;have m3:=H0.out.2.1.set 2 (.int .i64 ((2:Nat):Int));clear HSP;go_wp2_with fail;refine bodyPost_ret (results_none rfl _ _ _) rfl ⟨rfl,v,?_,m3⟩;rw [HE.out];exact h3
 |true=>
 dsimp only at hL;have ok1:=Qbi (B:=bitH s) (n:=L2) (Qn7 hok);have l1:=Qck s (8*s.size) L2 x;have C1:=Qbg g s M x v L2 wa H0.out.1 hs hok.1 (by omega)
 obtain⟨a,ha⟩:∃a,a=Qal (bitH s) (8*s.size) L2 x:=⟨_,rfl⟩;have HSP2:Hid (S=let t:=symS (bitH s) (8*s.size) (toL f) n a.2
  if t.2.e≠0∨(Qa9 (t.1:Int)).2.2=false then⟨t.2.p,2,t.2.o⟩else
   let b:=Qal (bitH s) (8*s.size) (Qa9 (t.1:Int)).2.1 t.2
   let d:=(Qa9 (t.1:Int)).1+b.1
   Qcp M d (L1+a.1) (if b.2.e=0∧d>b.2.o.length then⟨b.2.p,2,b.2.o⟩else b.2)):=Qh (by rw [HSP.out,ha];rfl)
 rw [←ha]at C1 ok1 l1;clear ha HSP;have h26:2^L2≤2^6:=Nat.pow_le_pow_right (by decide) hL.2
 obtain⟨Z,hZ⟩:∃Z,Z=L1+a.1:=⟨_,rfl⟩;have hZl:Z≤400:=by omega
 have hw:IntKind.i64.wrap ((L1:Int)+(a.1:Int))=(Z:Int):=by rw [IntWalk.i64_in _ (by omega)];omega
 rw [←hZ]at HSP2;clear hZ h26 l1;go_wp2_with fail;refine C1.mono ?_;rintro e w1 ⟨rfl,h1,m1⟩;have H1:=Qh (⟨h1,H0.out.2.1.trans m1,H0.out.2.2.1.mv m1,Blk.mvF H0.out.2.2.2 (by decide) (by decide) H0.out.1 m1⟩:FW g s M a.2 v w1∧Mv g v w v w1∧RC g p1 c1 p2 c2 n f v w1∧Blk w1 q0 125 #[.slice p1 n c1,.slice p2 n c2])
 clear h1 m1 H0 C1;have ok2:=Qij (B:=bitH s) (l:=toL f) (n:=n) ok1;have C2:Calls Tryz.prog 71 #[.pointer (some ⟨g,0,none⟩),.agg #[.slice p1 n c1,.slice p2 n c2]] w1 fun e w'=>e= .returned (.int .i64 ((symS (bitH s) (8*s.size) (toL f) n a.2).1:Int))∧FW g s M (symS (bitH s) (8*s.size) (toL f) n a.2).2 v w'∧Mv g v w1 v w':=by
  by_cases h0:a.2.e=0
  ·exact Qig g s M a.2 v p1 c1 p2 c2 n f w1 H1.out.1 H1.out.2.2.1.hn H1.out.2.2.1.ok H1.out.2.2.1.l H1.out.2.2.1.c hs (by have:=(ok1.1 h0).2;omega)
  ·rw [Qje h0];exact Qls g s M a.2 v p1 n c1 p2 n c2 w1 H1.out.1 h0
 have d0:=H1.out.2.2.2.cell 0;have d1:=H1.out.2.2.2.cell 1;generalize symS (bitH s) (8*s.size) (toL f) n a.2=t at C2 HSP2 ok2;clear ok1;go_wp2_with fail;refine C2.mono ?_;rintro e w2 ⟨rfl,h2,m2⟩;have H2:=Qh (⟨h2,H1.out.2.1.trans m2⟩:FW g s M t.2 v w2∧Mv g v w v w2);clear h2 m2 H1 C2 d0 d1 hw;go_wp2_with fail;refine(Qoe (t.1:Int) _).mono ?_;rintro e w0 ⟨rfl,rfl⟩;have hD:=Qq5 (t.1:Int);have hDp:= @Qph (t.1:Int);obtain⟨t1,t2⟩:=t;dsimp only at hD hDp ok2 HSP2⊢;generalize Qa9 (t1:Int)=D at HSP2 hD hDp⊢;obtain⟨D1,D2,D3⟩:=D;dsimp only at hD hDp;have k2:=H2.out.1.c2;have fz:=H2.out.1.fz 2;have h3:=H2.out.1.setE 2;have m3:=H2.out.2.set 2 (.int .i64 ((2:Nat):Int));by_cases hbad:t2.e≠0∨D3=false
 ·have HE:Hid (S=⟨t2.p,2,t2.o⟩):=Qh (by rw [HSP2.out];exact if_pos hbad)
  have hor:t2.e≠0∨(t2.e=0∧D3=false):=by
   rcases hbad with h|h
   ·exact .inl h
   ·by_cases h4:t2.e=0
    ·exact .inr ⟨h4,h⟩
    ·exact .inl h4
  clear HSP2 hbad;rcases hor with h0|⟨h0,rfl⟩
  ·obtain⟨E,hE⟩:∃E:Int,(t2.e:Int)=E:=⟨_,rfl⟩;rw [hE]at k2;have hneb:(E !=0)=true:=by simp;omega
   have hei:¬E=0:=by omega
   clear hE h0;go_wp2_with fail;refine bodyPost_ret (results_none rfl _ _ _) rfl ⟨rfl,v,?_,m3⟩;rw [HE.out];exact h3
  ·rw [h0]at k2;replace k2:w0.cell? ⟨g,2,none⟩=some (.int .i64 0):=k2;clear h0;go_wp2_with fail;refine bodyPost_ret (results_none rfl _ _ _) rfl ⟨rfl,v,?_,m3⟩;rw [HE.out];exact h3
 ·have h0:t2.e=0:=by
   by_cases h:t2.e=0
   ·exact h
   ·exact absurd (.inl h) hbad
  have hD3:D3=true:=by
   cases D3 with
   |true=>rfl
   |false=>exact absurd (.inr rfl) hbad
  subst hD3;have ok3:=Qbi (B:=bitH s) (n:=D2) ok2;have l3:=Qck s (8*s.size) D2 t2;have C3:=Qbg g s M t2 v D2 w0 H2.out.1 hs (fun h=>(ok2.1 h).2) (by omega)
  obtain⟨b,hb⟩:∃b,b=Qal (bitH s) (8*s.size) D2 t2:=⟨_,rfl⟩;have HSP3:Hid (S=Qcp M (D1+b.1) Z (if b.2.e=0∧D1+b.1>b.2.o.length then⟨b.2.p,2,b.2.o⟩else b.2)):=Qh (by rw [HSP2.out,hb];exact if_neg hbad)
  rw [←hb]at C3 ok3 l3;rw [h0]at k2;replace k2:w0.cell? ⟨g,2,none⟩=some (.int .i64 0):=k2;have h214:2^D2≤2^14:=Nat.pow_le_pow_right (by decide) hD.2
  obtain⟨d,hd⟩:∃d,d=D1+b.1:=⟨_,rfl⟩;have hdl:d≤60000:=by omega
  have hd1:1≤d:=by have:=hDp rfl;omega
  have hw:IntKind.i64.wrap ((D1:Int)+(b.1:Int))=(d:Int):=by rw [IntWalk.i64_in _ (by omega)];omega
  rw [←hd]at HSP3;clear hd hb h214 l3 HSP2 hbad h0 h3 m3 fz hD hDp ok2;go_wp2_with fail;refine C3.mono ?_;rintro e w3 ⟨rfl,h3,m3⟩;obtain⟨b1,b2⟩:=b;dsimp only at h3 ok3 HSP3⊢;have k2:=h3.c2;have k3:=h3.c3;have fz:=h3.fz 2;have h4:=h3.setE 2;have m4:=(H2.out.2.trans m3).set 2 (.int .i64 ((2:Nat):Int));obtain⟨qv,cap,hv⟩:=h3.shape;rw [hv]at k3;have HD1:=Qh hd1;have hZb:Hid (Z≤400):=Qh hZl;have hfin:∀(y:Fl) (u:Value) (wr:World),True:=fun _ _ _=>trivial;clear hfin;by_cases hfar:b2.e=0∧d>b2.o.length
  ·obtain⟨hb0,hdl2⟩:=hfar;have HE:Hid (S=⟨b2.p,2,b2.o⟩):=Qh (by rw [HSP3.out,if_pos ⟨hb0,hdl2⟩];exact Qc3 (show(2:Nat)≠0 by decide))
   rw [hb0]at k2;replace k2:w3.cell? ⟨g,2,none⟩=some (.int .i64 0):=k2;have hfi:(d:Int)>(b2.o.length:Int):=by omega
   have z2:World.cell? _ ⟨g,2,none⟩=some (.int .i64 ((2:Nat):Int)):=h4.c2;clear hb0 hdl2 HSP3 C3 hv;have hor:(0:Int)<(Z:Int)∨¬(0:Int)<(Z:Int):=by omega
   go_wp2_with fail;generalize w3.setCell ⟨g,2,none⟩ (.int .i64 2)=wz at*;go_loopw [14] (fun i wr=>i= .int .i64 0∧wz=wr) (fun _ _=>0)
   case atStart=>exact⟨rfl,rfl⟩
   case round=>
    obtain⟨rfl,rfl⟩:=hrel;replace z2:wz.cell? ⟨g,2,none⟩=some (.int .i64 2):=z2;rcases hor with h9|h9
    all_goals
     go_wp2_with fail;go_end0;rw [HE.out];exact⟨rfl,v,h4,m4⟩
  ·have HN:Hid (S=Qcp M d Z b2):=Qh (by rw [HSP3.out,if_neg hfar])
   have HF:Hid (b2.e=0→d≤b2.o.length):=Qh fun h=>by
    by_cases h2:d≤b2.o.length
    ·exact h2
    ·exact absurd ⟨h,by omega⟩ hfar
   have H3:=Qh (⟨h3,H2.out.2.trans m3⟩:FW g s M b2 v w3∧Mv g v w v w3);have HOK3:=Qh ok3;have hor:(b2.e=0∧¬(d:Int)>(b2.o.length:Int))∨b2.e≠0:=by
    by_cases h:b2.e=0
    ·left;have:=HF.out h;exact⟨h,by omega⟩
    ·exact .inr h
   clear HSP3 hfar C3 h4 m4 m3 h3 H2 fz hv ok3;rcases hor with⟨hb0,hfi⟩|hb0
   ·rw [hb0]at k2;replace k2:w3.cell? ⟨g,2,none⟩=some (.int .i64 0):=k2;have HB0:=Qh hb0;clear hb0;go_wp2_with fail;clear k2 k3;go_loopw [14] (fun i wr=>∃(j:Nat) (y:Fl) (u:Value),j≤Z∧i= .int .i64 (j:Int)∧Hid (S=Qcp M d (Z-j) y)∧Hid (y.e=0→d≤y.o.length)∧Hid (Rn 0 (8*s.size) M y)∧Hid (FW g s M y u wr∧Mv g v w u wr)) (fun i _=>Z-(intOf i).toNat)
    case atStart=>exact⟨0,b2,v,by omega,rfl,HN,HF,HOK3,H3⟩
    case round=>
     obtain⟨j,y,u,hj,rfl,HK,HFY,HRN,HR⟩:=hrel;clear H3 HN HF HOK3 hfi HB0;have k2:=HR.out.1.c2;by_cases hlt:j<Z
     ·have hlti:(j:Int)<(Z:Int):=by omega
      by_cases hy:y.e=0
      ·rw [hy]at k2;replace k2:wr.cell? ⟨g,2,none⟩=some (.int .i64 0):=k2;have hdy:=HFY.out hy;have hD1:=HD1.out;obtain⟨J,hJ⟩:∃J,J=y.o.length-d:=⟨_,rfl⟩;have hJl:J<y.o.length:=by omega
       have hyl:=HRN.out.2;have hMM:=HM.out;have hw2:IntKind.i64.wrap ((y.o.length:Int)-(d:Int))=(J:Int):=by rw [IntWalk.i64_in _ (by omega)];omega
       obtain⟨qb,qc,hu,hB⟩:=HR.out.1.at_ hJl;obtain⟨b,hb⟩:∃b,b=y.o.getD J 0:=⟨_,rfl⟩;rw [←hb]at hB;have HN2:Hid (S=Qcp M d (Z-(j+1)) (sayS M b y)):=Qh (by
        rw [HK.out,show Z-j=(Z-(j+1))+1 by omega]
        have e:Qcp M d (Z-(j+1)+1) y=Qcp M d (Z-(j+1)) (sayS M (y.o.getD (y.o.length-d) 0) y):=if_neg (by omega)
        rw [e,←hJ,←hb])
       have HFY2:Hid ((sayS M b y).e=0→d≤(sayS M b y).o.length):=Qh fun _=>by
        unfold sayS;split
        ·exact hdy
        ·split
         ·exact hdy
         ·rw [List.length_append];omega
       have HRN2:Hid (Rn 0 (8*s.size) M (sayS M b y)):=Qh (Qka HRN.out);have HB:=Qh hB;have HOK:Hid (y.o.length≤M):=Qh hyl;subst hu;have hJi:(J:Int)<(y.o.length:Int):=by omega
       have HJL:=Qh hlt;clear hB hb hJ hJl hyl hMM hdy hD1 HK HFY hlt;go_wp2_with fail;refine Qad (Two 14 1001 fun b' _ wx=>(b'=false→FW g s M y (.slice (some ⟨qb,0,none⟩) y.o.length qc) wx∧Mv g v w (.slice (some ⟨qb,0,none⟩) y.o.length qc) wx)∧(b'=true→∃u',FW g s M (sayS M b y) u' wx∧Mv g v w u' wx)) (by kernel_rfl) ⟨fun _=>⟨HR.out.1.drew,HR.out.2.drew⟩,fun h=>by(cases h)⟩ ?_
       refine tA (i:=0) rfl rfl ?_;simp only [pu];refine tA (i:=1) rfl rfl ?_;simp only [pu];refine tA (i:=2) rfl rfl ?_;simp only [pu];refine tA (i:=3) rfl rfl ?_;simp only [pu];refine Qaa (i:=4) (v:= .slice (some ⟨qb,0,none⟩) y.o.length qc) rfl (Qah (n:=9) rfl (fun f2 wx hT=> ?_)) ?_
       ·have cc:=(hT.1 rfl).1.c3;refine Qab (w:=wx) ?_ hT;go_simp;skip
       simp only [pu];refine tA (i:=5) rfl rfl ?_;simp only [pu];refine tA (i:=6) rfl rfl ?_;simp only [pu];refine tA (i:=7) rfl rfl ?_;simp only [pu];refine Qaa (i:=8) (v:= .slice (some ⟨qb,0,none⟩) y.o.length qc) rfl (Qah (n:=9) rfl (fun f2 wx hT=> ?_)) ?_
       ·have cc:=(hT.1 rfl).1.c3;refine Qab (w:=wx) ?_ hT;go_simp;skip
       simp only [pu];refine tA (i:=9) rfl rfl ?_;simp only [pu];refine tA (i:=10) rfl rfl ?_;simp only [pu];refine tV (i:=11) (v:= .int .i64 (J:Int)) rfl rfl ?_;simp only [pu];refine tV (i:=12) (v:= .pointer (some ⟨qb,J,none⟩)) rfl rfl ?_;simp only [pu];refine Qaa (i:=13) (v:= .int .u8 (b:Int)) rfl (Qah (n:=9) rfl (fun f2 wx hT=> ?_)) ?_
       ·have cc:=HB.out wx (hT.1 rfl).1;refine Qab (w:=wx) ?_ hT;go_simp;skip
       simp only [pu];refine Qaa (i:=14) (v:= .tuple #[]) rfl (Qa5 (by decide) rfl (fun f2 wx hT=> ?_)) ?_
       ·have h5:=hT.1 rfl;refine Qao (f:=69) ((Qif g s M y _ b wx h5.1 HM.out HOK.out).mono fun e w' ⟨he,u',hq,hm⟩=>⟨he,⟨fun h=>by(cases h),fun _=>⟨u',hq,h5.2.trans hm⟩⟩⟩) ?_;go_simp;skip
       simp only [pu];refine Qag rfl ?_ _;intro w5 hT;obtain⟨u',h5,m5⟩:=hT.2 rfl;have H5:=Qh (⟨h5,m5⟩:FW g s M (sayS M b y) u' w5∧Mv g v w u' w5);clear hT HR h5 m5;go_wp2_with fail;go_roundw
       case rel=>exact⟨j+1,sayS M b y,u',by have:=HJL.out;omega,by go_num,HN2,HFY2,HRN2,H5⟩
       case measure=>simp only [intOf];omega
      ·have HE:Hid (S=y):=Qh (by rw [HK.out];exact Qc3 hy)
       obtain⟨E,hE⟩:∃E:Int,(y.e:Int)=E:=⟨_,rfl⟩;rw [hE]at k2;have hneb:(E==0)=false:=by simp;omega
       have hei:¬E=0:=by omega
       clear hE hy HK;go_wp2_with fail;go_end0;rw [HE.out];exact⟨rfl,u,HR.out.1,HR.out.2⟩
     ·have HE:Hid (S=y):=Qh (by rw [HK.out,show Z-j=0 by omega];rfl)
      have hlti:¬(j:Int)<(Z:Int):=by omega
      clear HK;go_wp2_with fail;go_end0;rw [HE.out];exact⟨rfl,u,HR.out.1,HR.out.2⟩
   ·have HE:Hid (S=b2):=Qh (by rw [HN.out];exact Qc3 hb0)
    obtain⟨E,hE⟩:∃E:Int,(b2.e:Int)=E:=⟨_,rfl⟩;rw [hE]at k2;have hneb:(E==0)=false:=by simp;omega
    have hei:¬E=0:=by omega
    have hor:(0:Int)<(Z:Int)∨¬(0:Int)<(Z:Int):=by omega
    clear hE hb0 HN;go_wp2_with fail;go_loopw [14] (fun i wr=>i= .int .i64 0∧w3=wr) (fun _ _=>0)
    case atStart=>exact⟨rfl,rfl⟩
    case round=>
     obtain⟨rfl,rfl⟩:=hrel;rcases hor with h9|h9
     all_goals
      go_wp2_with fail;go_end0;rw [HE.out];exact⟨rfl,v,H3.out.1,H3.out.2⟩
theorem Qjg (p1:Option Addr) (n1 c1:Nat) (p2:Option Addr) (n2 c2:Nat):(#[Value.slice p1 n1 c1,Value.slice p2 n2 c2]:Array Value).all (·.oneCell')=true:=by kernel_rfl
theorem Qtw {p0 T M n:Nat} {f:Nat→Int} {x:Fl} (h:Rn p0 T M x):Rn p0 T M (cdF f n x):=by
 unfold cdF;split
 ·exact h
 ·split
  ·exact h
  ·exact h.err (by decide)
theorem Qxf {f:Nat→Int} {n:Nat} {x:Fl} (h:(cdF f n x).e=0):x.e=0:=by
 by_cases hx:x.e=0
 ·exact hx
 ·rw [show cdF f n x=x from if_pos hx]at h;exact h
theorem Qzb {B:Nat→Nat} {T:Nat} {l:Nat→Nat} {n:Nat} {x:Fl} (hx:x.e=0) (h:(symS B T l n x).2.e=0):x.p<(symS B T l n x).2.p∧(symS B T l n x).2.p≤T:=by
 obtain⟨p,e,o⟩:=x;obtain rfl:e=0:=hx;rcases Qoq B T l n p o with⟨h1,h2⟩|⟨h1,h2⟩
 ·rw [h2];exact Qm4 h1
 ·rw [h2]at h;cases h
theorem Qis (g:Nat) (s:ByteArray) (M:Nat) (x:Fl) (v:Value) (pa:Option Addr) (na ca:Nat) (fa:Nat→Int) (pb:Option Addr) (nb cb:Nat) (fb:Nat→Int) (w:World) (h:FW g s M x v w) (ha:IS pa na ca fa w) (hb:IS pb nb cb fb w)
  (hna:na≤17592186044416) (hnb:nb≤17592186044416) (sb:∀a,pb=some a→a.block≠g∧v.ownBlock≠some a.block) (hs:s.size≤281474976710656) (hok:okF (8*s.size) M x) (hM:M≤1048576):
  Calls Tryz.prog 44 #[.pointer (some ⟨g,0,none⟩),.slice pa na ca,.slice pb nb cb] w fun e w'=>e= .returned (.tuple #[])∧∃v',FW g s M (Qat (bitH s) (8*s.size) M (toL fa) na (toL fb) nb (8*s.size+1) (cdF fb nb (cdF fa na x))) v' w'∧Mv g v w v' w':=by
 obtain⟨S,hS⟩:∃S,S=Qat (bitH s) (8*s.size) M (toL fa) na (toL fb) nb (8*s.size+1) (cdF fb nb (cdF fa na x)):=⟨_,rfl⟩;rw [←hS];have C1:=Qgw g s M x v pa na ca fa w h ha hna;have R2:Rn 0 (8*s.size) M (cdF fb nb (cdF fa na x)):=Qtw (Qtw (Qn7 hok));have E21:(cdF fb nb (cdF fa na x)).e=0→(cdF fa na x).e=0:=Qxf;generalize cdF fa na x=y1 at*;have HS:=Qh hS;have HM:=Qh hM;have HSZS:=Qh hs;have HR2:=Qh R2;have HE21:=Qh E21;have hsz:(Tryz.prog.info? 125).map (·.size)=some 2:=by kernel_rfl
 have HSZ:=Qh hsz;have H0:=Qh h;have HIB:=Qh hb;have HSB:=Qh sb;clear hS hM hs R2 E21 hsz h hb sb ha hok;go_enter Tryz.func44,Tryz.ntmps44;go_wp2_with fail;refine C1.mono ?_;rintro e w1 ⟨p1,c1,p2,c2,n1,rfl,h1,mv1,good1⟩;clear C1;have hB1:=Blk.new w1 125 #[.slice none 0 0,.slice none 0 0];have b1:=(Below.refl _ w1).alloc Ql (.cells #[.slice none 0 0,.slice none 0 0] 125);have b2:Below w1.heap.size w1 ((w1.alloc (.cells #[.slice none 0 0,.slice none 0 0] 125)).setRow w1.heap.size #[.slice p1 n1 c1,.slice p2 n1 c2]):=Qai b1 Ql _;have C2:=Qgw g s M y1 v pb nb cb fb _ (h1.below b2) ((mv1.is HIB.out HSB.out).below b2) hnb;have HA:=Qh (⟨h1.below b2,mv1.below b2,hB1.row_ #[.slice p1 n1 c1,.slice p2 n1 c2]⟩:FW g s M y1 v _∧Mv g v w v _∧Blk _ w1.heap.size 125 #[.slice p1 n1 c1,.slice p2 n1 c2]);have HG1:Hid (y1.e=0→n1=na∧RC g p1 c1 p2 c2 na fa v ((w1.alloc (.cells #[.slice none 0 0,.slice none 0 0] 125)).setRow w1.heap.size #[.slice p1 n1 c1,.slice p2 n1 c2])):=Qh fun he=>by
  obtain⟨e1,e2,e3,e4,e5,e6,e7⟩:=good1 he;have l1:=H0.out.lt;have l2:=H0.out.ownB;refine⟨e1,RC.below ⟨e2,e3,e4,e5,fun a ha=>⟨by have:=e6 a ha;omega,fun e=> ?_⟩,fun a ha=>⟨by have:=e7 a ha;omega,fun e=> ?_⟩⟩ b2⟩
  ·have:=e6 a ha;have:=l2 _ e;omega
  ·have:=e7 a ha;have:=l2 _ e;omega
 have HB:=Qh hB1;clear good1 h1 mv1 hB1 b1 b2 HIB HSB H0;obtain⟨q1,hq1⟩:∃q1,q1=w1.heap.size:=⟨_,rfl⟩;go_wp2_with (refine wpList_store_row rfl 125 _ _ rfl w1.heap.size #[.slice p1 n1 c1,.slice p2 n1 c2] rfl rfl 125 _ HB.out HSZ.out rfl (Qjg _ _ _ _ _ _) ?_);clear HB;generalize (w1.alloc (.cells #[.slice none 0 0,.slice none 0 0] 125)).setRow w1.heap.size #[.slice p1 n1 c1,.slice p2 n1 c2]=wa at*;refine C2.mono ?_;rintro e w2 ⟨p3,c3,p4,c4,n2,rfl,h2,mv2,good2⟩;clear C2;have hB2:=Blk.new w2 125 #[.slice none 0 0,.slice none 0 0];have b3:=(Below.refl _ w2).alloc Ql (.cells #[.slice none 0 0,.slice none 0 0] 125);have b4:Below w2.heap.size w2 ((w2.alloc (.cells #[.slice none 0 0,.slice none 0 0] 125)).setRow w2.heap.size #[.slice p3 n2 c3,.slice p4 n2 c4]):=Qai b3 Ql _;have HH:=Qh (⟨h2.below b4,(HA.out.2.1.trans mv2).below b4,(Blk.mvF HA.out.2.2 (by decide) (by decide) HA.out.1 mv2).below b4 (Blk.mvF HA.out.2.2 (by decide) (by decide) HA.out.1 mv2).lt,hB2.row_ #[.slice p3 n2 c3,.slice p4 n2 c4]⟩:FW g s M (cdF fb nb y1) v _∧Mv g v w v _∧Blk _ w1.heap.size 125 #[.slice p1 n1 c1,.slice p2 n1 c2]∧Blk _ w2.heap.size 125 #[.slice p3 n2 c3,.slice p4 n2 c4])
 have HG:Hid ((cdF fb nb y1).e=0→n1=na∧n2=nb∧RC g p1 c1 p2 c2 na fa v ((w2.alloc (.cells #[.slice none 0 0,.slice none 0 0] 125)).setRow w2.heap.size #[.slice p3 n2 c3,.slice p4 n2 c4])∧RC g p3 c3 p4 c4 nb fb v ((w2.alloc (.cells #[.slice none 0 0,.slice none 0 0] 125)).setRow w2.heap.size #[.slice p3 n2 c3,.slice p4 n2 c4])):=Qh fun he=>by
  obtain⟨e1,e2,e3,e4,e5,e6,e7⟩:=good2 he;obtain⟨f1,f2⟩:=HG1.out (HE21.out he);have l1:=HA.out.1.lt;have l2:=HA.out.1.ownB;refine⟨f1,e1,(f2.mv mv2).below b4,RC.below ⟨e2,e3,e4,e5,fun a ha=>⟨by have:=e6 a ha;omega,fun e=> ?_⟩,fun a ha=>⟨by have:=e7 a ha;omega,fun e=> ?_⟩⟩ b4⟩
  ·have:=e6 a ha;have:=l2 _ e;omega
  ·have:=e7 a ha;have:=l2 _ e;omega
 have HB:=Qh hB2;clear good2 h2 mv2 hB2 b3 b4 HA HG1 HE21;generalize cdF fb nb y1=y2 at*;obtain⟨q2,hq2⟩:∃q2,q2=w2.heap.size:=⟨_,rfl⟩;obtain⟨wb,hwb⟩:∃wb,wb=(w2.alloc (.cells #[.slice none 0 0,.slice none 0 0] 125)).setRow w2.heap.size #[.slice p3 n2 c3,.slice p4 n2 c4]:=⟨_,rfl⟩;rw [←hwb]at HH HG;rw [←hq2,←hq1]at HH;by_cases he:y2.e=0
 ·obtain⟨rfl,rfl,r1,r2⟩:=HG.out he;have HZ:=Qh (⟨HH.out.1,HH.out.2.1,r1,r2,HH.out.2.2⟩:FW g s M y2 v wb∧Mv g v w v wb∧RC g p1 c1 p2 c2 n1 fa v wb∧RC g p3 c3 p4 c4 n2 fb v wb∧Blk wb q1 125 #[.slice p1 n1 c1,.slice p2 n1 c2]∧Blk wb q2 125 #[.slice p3 n2 c3,.slice p4 n2 c4]);clear r1 r2 HG HH he;go_wp2_with (refine wpList_store_row rfl 125 _ _ rfl w2.heap.size #[.slice p3 n2 c3,.slice p4 n2 c4] rfl rfl 125 _ HB.out HSZ.out rfl (Qjg _ _ _ _ _ _) ?_);simp only [pu];rw [←hwb,←hq2,←hq1];clear hwb hq2 hq1 HB;go_loopg [8] (8*s.size+1) (fun gk r wr=>∃(t:Nat) (y:Fl) (u:Value),gk=t∧Hid (S=Qat (bitH s) (8*s.size) M (toL fa) n1 (toL fb) n2 t y)∧Hid (Rn 0 (8*s.size) M y)∧Hid (y.e=0→8*s.size-y.p<t)∧Hid (FW g s M y u wr∧Mv g v w u wr∧RC g p1 c1 p2 c2 n1 fa u wr∧RC g p3 c3 p4 c4 n2 fb u wr∧Blk wr q1 125 #[.slice p1 n1 c1,.slice p2 n1 c2]∧Blk wr q2 125 #[.slice p3 n2 c3,.slice p4 n2 c4]))
  case atStart=>exact⟨_,y2,v,rfl,HS,HR2,Qh fun _=>by omega,HZ⟩
  case round=>
   obtain⟨t,y,u,hgk,HK,HRN,HQ,HR⟩:=hrel;clear HZ HS HR2;have k2:=HR.out.1.c2;by_cases he:y.e=0
   ·rw [he]at k2;replace k2:wr.cell? ⟨g,2,none⟩=some (.int .i64 0):=k2;cases t with
    |zero=>have:=HQ.out he;omega
    |succ t=>
    have hp:=(HRN.out.1 he).2;have C:=Qig g s M y u p1 c1 p2 c2 n1 fa wr HR.out.1 HR.out.2.2.1.hn HR.out.2.2.1.ok HR.out.2.2.1.l HR.out.2.2.1.c HSZS.out (by have:=HSZS.out;omega)
    have HP:=Qh (Qzb (B:=bitH s) (T:=8*s.size) (l:=toL fa) (n:=n1) he);have HN:Hid (S=if (symS (bitH s) (8*s.size) (toL fa) n1 y).2.e≠0∨(symS (bitH s) (8*s.size) (toL fa) n1 y).1=256 then(symS (bitH s) (8*s.size) (toL fa) n1 y).2 else
     if(symS (bitH s) (8*s.size) (toL fa) n1 y).1<256 then Qat (bitH s) (8*s.size) M (toL fa) n1 (toL fb) n2 t (sayS M (symS (bitH s) (8*s.size) (toL fa) n1 y).1 (symS (bitH s) (8*s.size) (toL fa) n1 y).2)else Qat (bitH s) (8*s.size) M (toL fa) n1 (toL fb) n2 t (Qa7 (bitH s) (8*s.size) M (symS (bitH s) (8*s.size) (toL fa) n1 y).1 (toL fb) n2 (symS (bitH s) (8*s.size) (toL fa) n1 y).2)):=Qh (by rw [HK.out];exact if_neg (by omega))
    have HX:=Qh (Qij (B:=bitH s) (l:=toL fa) (n:=n1) HRN.out);generalize symS (bitH s) (8*s.size) (toL fa) n1 y=X at*;obtain⟨a,z⟩:=X;dsimp only at C HP HN HX;have d0:=HR.out.2.2.2.2.1.cell 0;have d1:=HR.out.2.2.2.2.1.cell 1;have HQ2:=Qh (HQ.out he);have HGK:=Qh hgk;clear HK HQ he hp hgk HRN;go_wp2_with fail;refine C.mono ?_;rintro e w3 ⟨rfl,h3,m3⟩;have H3:=Qh (⟨h3,HR.out.2.1.trans m3,HR.out.2.2.1.mv m3,HR.out.2.2.2.1.mv m3,Blk.mvF HR.out.2.2.2.2.1 (by decide) (by decide) HR.out.1 m3,Blk.mvF HR.out.2.2.2.2.2 (by decide) (by decide) HR.out.1 m3⟩:FW g s M z u w3∧Mv g v w u w3∧RC g p1 c1 p2 c2 n1 fa u w3∧RC g p3 c3 p4 c4 n2 fb u w3∧Blk w3 q1 125 #[.slice p1 n1 c1,.slice p2 n1 c2]∧Blk w3 q2 125 #[.slice p3 n2 c3,.slice p4 n2 c4])
    have k2:=h3.c2;clear h3 m3 HR C d0 d1;by_cases hz:z.e=0
    ·rw [hz]at k2;replace k2:w3.cell? ⟨g,2,none⟩=some (.int .i64 0):=k2;have hPP:=Qh (HP.out hz);by_cases h256:a=256
     ·have HE:Hid (S=z):=Qh (by rw [HN.out];exact if_pos (.inr h256))
      have hi:(a:Int)=256:=by omega
      have hib:((a:Int)==256)=true:=by simp;omega
      clear HN h256 hz HP;go_wp2_with fail
      (try simp only [Exit.inBlock,Exit.then])
      refine bodyPost_ret (results_none rfl _ _ _) rfl ⟨rfl,u,?_,H3.out.2.1⟩;rw [HE.out];exact H3.out.1
     ·have hi:¬(a:Int)=256:=by omega
      have hib:((a:Int)==256)=false:=by simp;omega
      have HN2:Hid (S=if a<256 then Qat (bitH s) (8*s.size) M (toL fa) n1 (toL fb) n2 t (sayS M a z)else Qat (bitH s) (8*s.size) M (toL fa) n1 (toL fb) n2 t (Qa7 (bitH s) (8*s.size) M a (toL fb) n2 z)):=Qh (by rw [HN.out];exact if_neg (by rintro(h|h);exact h hz;exact h256 h))
      clear HN;by_cases hlt:a<256
      ·have HE:Hid (S=Qat (bitH s) (8*s.size) M (toL fa) n1 (toL fb) n2 t (sayS M a z)):=Qh (by rw [HN2.out];exact if_pos hlt)
       have hli:(a:Int)<256:=by omega
       have hbw:IntKind.u8.wrap (a:Int)=(a:Int):=by rw [IntKind.wrap_u8];omega
       have hbm:(a:Int)%256=(a:Int):=by omega
       have C:=Qif g s M z u a w3 H3.out.1 HM.out HX.out.2;have HY:=Qh (Qka (b:=a) HX.out);have HYP:Hid ((sayS M a z).p=z.p):=Qh (Qv8 M a z);generalize sayS M a z=y9 at*;clear HN2 h256 hz HP hlt;go_wp2_with fail;refine C.mono ?_;rintro e w4 ⟨rfl,u4,h4,m4⟩;have H4:=Qh (⟨h4,H3.out.2.1.trans m4,H3.out.2.2.1.mv m4,H3.out.2.2.2.1.mv m4,Blk.mvF H3.out.2.2.2.2.1 (by decide) (by decide) H3.out.1 m4,Blk.mvF H3.out.2.2.2.2.2 (by decide) (by decide) H3.out.1 m4⟩:FW g s M y9 u4 w4∧Mv g v w u4 w4∧RC g p1 c1 p2 c2 n1 fa u4 w4∧RC g p3 c3 p4 c4 n2 fb u4 w4∧Blk w4 q1 125 #[.slice p1 n1 c1,.slice p2 n1 c2]∧Blk w4 q2 125 #[.slice p3 n2 c3,.slice p4 n2 c4])
       clear h4 m4 C H3 k2;go_wp2_with fail;go_roundg t
       case measure=>have:=HGK.out;omega
       case rel=>exact⟨t,y9,u4,rfl,HE,HY,Qh fun _=>by have:=hPP.out;have:=HQ2.out;have:=HYP.out;omega,H4⟩
      ·have HE:Hid (S=Qat (bitH s) (8*s.size) M (toL fa) n1 (toL fb) n2 t (Qa7 (bitH s) (8*s.size) M a (toL fb) n2 z)):=Qh (by rw [HN2.out];exact if_neg hlt)
       have hli:¬(a:Int)<256:=by omega
       have C:=Qmu g s M z u a p3 c3 p4 c4 n2 fb w3 H3.out.1 H3.out.2.2.2.1 HSZS.out (Qnh HX.out) HM.out hz;have HY:=Qh (Qh2 (B:=bitH s) (k:=a) (l:=toL fb) (n:=n2) HX.out);have HY2:=Qh (Qh2 (B:=bitH s) (k:=a) (l:=toL fb) (n:=n2) (⟨fun he=>⟨Ql,(HX.out.1 he).2⟩,HX.out.2⟩:Rn z.p (8*s.size) M z));generalize Qa7 (bitH s) (8*s.size) M a (toL fb) n2 z=y9 at*;have d0:=H3.out.2.2.2.2.2.cell 0;have d1:=H3.out.2.2.2.2.2.cell 1;clear HN2 h256 hz HP hlt;go_wp2_with fail;refine C.mono ?_;rintro e w4 ⟨rfl,u4,h4,m4⟩;have H4:=Qh (⟨h4,H3.out.2.1.trans m4,H3.out.2.2.1.mv m4,H3.out.2.2.2.1.mv m4,Blk.mvF H3.out.2.2.2.2.1 (by decide) (by decide) H3.out.1 m4,Blk.mvF H3.out.2.2.2.2.2 (by decide) (by decide) H3.out.1 m4⟩:FW g s M y9 u4 w4∧Mv g v w u4 w4∧RC g p1 c1 p2 c2 n1 fa u4 w4∧RC g p3 c3 p4 c4 n2 fb u4 w4∧Blk w4 q1 125 #[.slice p1 n1 c1,.slice p2 n1 c2]∧Blk w4 q2 125 #[.slice p3 n2 c3,.slice p4 n2 c4])
       clear h4 m4 C H3 k2 d0 d1;go_wp2_with fail;go_roundg t
       case measure=>have:=HGK.out;omega
       case rel=>exact⟨t,y9,u4,rfl,HE,HY,Qh fun he=>by have:=hPP.out;have:=HQ2.out;have:=(HY2.out.1 he).1;omega,H4⟩
    ·have HE:Hid (S=z):=Qh (by rw [HN.out];exact if_pos (.inl hz))
     obtain⟨E,hE⟩:∃E:Int,(z.e:Int)=E:=⟨_,rfl⟩;rw [hE]at k2;have hneb:(E !=0)=true:=by simp;omega
     have hei:¬E=0:=by omega
     clear HN hz HP hE;go_wp2_with fail
     (try simp only [Exit.inBlock,Exit.then])
     refine bodyPost_ret (results_none rfl _ _ _) rfl ⟨rfl,u,?_,H3.out.2.1⟩;rw [HE.out];exact H3.out.1
   ·have HE:Hid (S=y):=Qh (by rw [HK.out,Qdq he])
    obtain⟨E,hE⟩:∃E:Int,(y.e:Int)=E:=⟨_,rfl⟩;rw [hE]at k2;have hneb:(E==0)=false:=by simp;omega
    have hei:¬E=0:=by omega
    clear hE he HK HQ hgk;go_wp2_with fail;go_end0;rw [HE.out];exact⟨rfl,u,HR.out.1,HR.out.2.1⟩
 ·have HE:Hid (S=y2):=Qh (by rw [HS.out,Qdq he])
  obtain⟨E,hE⟩:∃E:Int,(y2.e:Int)=E:=⟨_,rfl⟩;have k2:=HH.out.1.c2;rw [hE]at k2;have hneb:(E==0)=false:=by simp;omega
  have hei:¬E=0:=by omega
  clear hE he HS HG;go_wp2_with (refine wpList_store_row rfl 125 _ _ rfl w2.heap.size #[.slice p3 n2 c3,.slice p4 n2 c4] rfl rfl 125 _ HB.out HSZ.out rfl (Qjg _ _ _ _ _ _) ?_);simp only [pu];rw [←hwb,←hq2,←hq1];clear hwb hq2 hq1 HB;go_loopw [8] (fun _ wr=>wb=wr) (fun _ _=>0)
  case atStart=>exact rfl
  case round=>
   obtain rfl:=hrel;go_wp2_with fail;go_end0;rw [HE.out];exact⟨rfl,v,HH.out.1,HH.out.2.1⟩
theorem Q1p {B:Nat→Nat} {T:Nat} {l:Nat→Nat} {x:Fl} (h:(symS B T l 19 x).2.e=0):(symS B T l 19 x).1<19:=by
 obtain⟨p,e,o⟩:=x;by_cases he:e=0
 ·subst he;rcases Qoq B T l 19 p o with⟨h1,h2⟩|⟨h1,h2⟩
  ·rw [h2];exact Qm3 h1
  ·rw [h2]at h;cases h
 ·rw [Qje he];exact(by decide:0<19)
theorem Qq7 {B:Nat→Nat} {T M:Nat}:∀(n i:Nat) (f:Nat→Nat) {x:Fl},okF T M x→okF T M (fewS B T n i f x).2
 |0,_,_,_,h=>h
 |n+1,i,_,_,h=>Qq7 n (i+1) _ (Qb5 h)
theorem Qui (B:Nat→Nat) (T t k:Nat) (F:Nat→Nat) (y:Fl):fewS B T (t+1) k F y=fewS B T t (k+1) (fun j=>if j=ordL.getD k 0 then(Qal B T 3 y).1 else F j) (Qal B T 3 y).2:=rfl
theorem IS.farC {p:Option Addr} {n cap:Nat} {f:Nat→Int} {w:World} (h:IS p n cap f w) {z:Nat} (hz:∀a,p=some a→a.block≠z) (j:Nat) (u:Value):IS p n cap f (w.setCell ⟨z,j,none⟩ u):=
 ⟨h.nil_,fun a ha i hi=>by
  rw [World.cell?_of_block (a:=a.add i) (w:=w) (Below.heap_setCell w ⟨z,j,none⟩ u (a.add i).block (fun e=>hz a ha (by have e:(a.add i).block=z:=e;rw [←e];unfold Addr.add;split<;>rfl)))]
  exact h.cell a ha i hi,fun a ha=>by simp [World.setCell];exact h.lt a ha,h.lo,h.hi⟩
section
variable {P:Program} {ops:Array Oper} {Q:Exit→Act→World→Prop} {md:Region.Mode}
theorem Quq {i j:Nat} {fuel:Nat} {listed:Array Bool} {a:Act} {w:World} (hr:Region.ready md ops listed=[i,j]) (hi:wpOp P ops Q i (fun a' w'=>True∧wpAnyH P md ops Q (fun _=>True) fuel (listed.setIfInBounds i true) a' w') a w)
  (hj:wpOp P ops Q j (fun a' w'=>True∧wpAnyH P md ops Q (fun _=>True) fuel (listed.setIfInBounds j true) a' w') a w):wpAnyH P md ops Q (fun _=>True) (fuel+1) listed a w:=
 wpAnyH_all hr (by simp) fun k hk=>by
  rcases List.mem_cons.1 hk with rfl|hk
  ·exact hi
  ·obtain rfl:=List.mem_singleton.1 hk;exact hj
end
theorem IS.dr {p:Option Addr} {n c:Nat} {f:Nat→Int} {w:World} (h:IS p n c f w):IS p n c f w.drew:=⟨h.nil_,h.cell,h.lt,h.lo,h.hi⟩
theorem RC.dr {g:Nat} {p1:Option Addr} {c1:Nat} {p2:Option Addr} {c2 n:Nat} {f:Nat→Int} {v:Value} {w:World} (h:RC g p1 c1 p2 c2 n f v w):RC g p1 c1 p2 c2 n f v w.drew:=⟨h.hn,h.ok,h.l.dr,h.c.dr,h.s1,h.s2⟩
structure LgW (g:Nat) (s:ByteArray) (M:Nat) (K:Prop) (m:Nat) (p1:Option Addr) (c1:Nat) (p2:Option Addr) (c2:Nat) (f:Nat→Int) (q:Nat) (v:Value) (w0:World) (y:Fl) (L:List Nat) (u:Value) (w:World):Prop where
 fw:FW g s M y v w
 mo:Mv g v w0 v w
 al:AL g L u v w
 nw:∀k,u.ownBlock=some k→w0.heap.size≤k
 rc:K→m=19∧RC g p1 c1 p2 c2 19 f v w∧RC g p1 c1 p2 c2 19 f u w
 bk:Blk w q 125 #[.slice p1 m c1,.slice p2 m c2]
section
variable {g:Nat} {s:ByteArray} {M:Nat} {K:Prop} {m:Nat} {p1:Option Addr} {c1:Nat} {p2:Option Addr} {c2:Nat} {f:Nat→Int} {q:Nat} {v:Value} {w0:World} {y y':Fl} {L L':List Nat} {u u':Value} {w w':World}
theorem LgW.mv (h:LgW g s M K m p1 c1 p2 c2 f q v w0 y L u w) (hf:FW g s M y' v w') (k:Mv g v w v w'):LgW g s M K m p1 c1 p2 c2 f q v w0 y' L u w':=
 ⟨hf,h.mo.trans k,h.al.mv k,h.nw,fun hk=>⟨(h.rc hk).1,(h.rc hk).2.1.mv k,⟨(h.rc hk).2.2.hn,(h.rc hk).2.2.ok,((h.rc hk).2.1.mv k).l,((h.rc hk).2.1.mv k).c,(h.rc hk).2.2.s1,(h.rc hk).2.2.s2⟩⟩,Blk.mvF h.bk (by decide) (by decide) h.fw k⟩
theorem LgW.side (h:LgW g s M K m p1 c1 p2 c2 f q v w0 y L u w) (hf:FW g s M y' v w') (ha:AL g L' u' v w') (k:Mv g u w u' w'):LgW g s M K m p1 c1 p2 c2 f q v w0 y' L' u' w':=by
 refine⟨hf,h.mo.side k h.nw,ha,h.mo.side_own k h.nw,fun hk=>⟨(h.rc hk).1,⟨(h.rc hk).2.1.hn,(h.rc hk).2.1.ok,((h.rc hk).2.2.mv k).l,((h.rc hk).2.2.mv k).c,(h.rc hk).2.1.s1,(h.rc hk).2.1.s2⟩,(h.rc hk).2.2.mv k⟩,(k.block q h.bk.lt ?_ ?_).trans h.bk⟩
 ·rintro rfl;have hb:=h.fw.blk;have hc:=h.bk;unfold Blk at hb hc;rw [hc]at hb
  injection hb with hb
  injection hb with _ hb
  exact absurd hb (by decide)
 ·intro e;obtain⟨cs,h7⟩:=h.al.own_cells e;have hc:=h.bk;unfold Blk at hc;rw [hc]at h7
  injection h7 with h7
  injection h7 with _ h7
  exact absurd h7 (by decide)
theorem LgW.drew (h:LgW g s M K m p1 c1 p2 c2 f q v w0 y L u w):LgW g s M K m p1 c1 p2 c2 f q v w0 y L u w.drew:=
 ⟨h.fw.drew,h.mo.drew,⟨h.al.own,h.al.ne⟩,h.nw,fun hk=>⟨(h.rc hk).1,(h.rc hk).2.1.dr,(h.rc hk).2.2.dr⟩,h.bk⟩
theorem Qcv (L:List Nat) (b n e:Nat):(Qbx L b n e).length=if e=0 then L.length+n else L.length:=by
 unfold Qbx;split
 ·rw [List.length_append,List.length_replicate]
 ·rfl
theorem Qjt {L R:List Nat} {B:Nat} (h1:∀i,L.getD i 0<B) (h2:∀i,R.getD i 0<B) (i:Nat):(L++R).getD i 0<B:=by
 by_cases h:i<L.length
 ·have:=h1 i;simp only [List.getD,List.getElem?_append_left h]at this⊢;exact this
 ·have:=h2 (i-L.length);simp only [List.getD,List.getElem?_append_right (Nat.le_of_not_lt h)]at this⊢;exact this
theorem Qpm {b n B:Nat} (hb:b<B) (i:Nat):(List.replicate n b).getD i 0<B:=by
 by_cases h:i<n
 ·simp [List.getD,h];exact hb
 ·simp [List.getD,h];omega
theorem Qg3 {L:List Nat} {b n e:Nat} (h1:∀i,L.getD i 0<19) (hb:b<19) (i:Nat):(Qbx L b n e).getD i 0<19:=by
 unfold Qbx;split
 ·exact Qjt h1 (Qpm hb) i
 ·exact h1 i
theorem Qic (b n:Nat) (h:LgW g s M K m p1 c1 p2 c2 f q v w0 y L u w) (hn:n≤1000) (hL:L.length≤1000):
  Calls Tryz.prog 74 #[.pointer (some ⟨g,0,none⟩),u,.int .i64 (b:Int),.int .i64 (n:Int)] w fun e w'=>∃q4 c4,e= .returned (.slice q4 (Qbx L b n y.e).length c4)∧LgW g s M K m p1 c1 p2 c2 f q v w0 y (Qbx L b n y.e) (.slice q4 (Qbx L b n y.e).length c4) w':=by
 refine(Qod g s M y v u L b n w h.fw h.al hn hL).mono ?_;rintro e w' ⟨u',rfl,h1,h2,h3⟩;obtain⟨q4,c4,rfl⟩:=h2.shape;exact⟨q4,c4,rfl,h.side h1 h2 h3⟩
end
theorem Qp9 (g:Nat) (s:ByteArray) (M:Nat) (x:Fl) (v:Value) (w:World) (h:FW g s M x v w) (hs:s.size≤281474976710656) (hok:okF (8*s.size) M x):
  Calls Tryz.prog 45 #[.pointer (some ⟨g,0,none⟩)] w fun e w'=>∃pa na ca pb nb cb,e= .returned (.tuple #[.slice pa na ca,.slice pb nb cb])∧FW g s M (Qbp (bitH s) (8*s.size) x).2 v w'∧Mv g v w v w'∧
   na=(Qbp (bitH s) (8*s.size) x).1.1.length∧nb=(Qbp (bitH s) (8*s.size) x).1.2.length∧IS pa na ca (numF (Qbp (bitH s) (8*s.size) x).1.1) w'∧IS pb nb cb (numF (Qbp (bitH s) (8*s.size) x).1.2) w'∧(∀a,pb=some a→a.block≠g∧v.ownBlock≠some a.block)∧na≤1000∧nb≤1000:=by
 rw [Qgj];have la:=Qck s (8*s.size) 5 x;have oka:=Qb5 (B:=bitH s) (n:=5) hok;have Ca:=Qbg g s M x v 5 w h hs hok.1 (by decide)
 generalize Qal (bitH s) (8*s.size) 5 x=a at*;have lb:=Qck s (8*s.size) 5 a.2;have okb:=Qb5 (B:=bitH s) (n:=5) oka;have Cb:Hid (∀wx,FW g s M a.2 v wx→Calls Tryz.prog 41 #[.pointer (some ⟨g,0,none⟩),.int .i64 ((5:Nat):Int)] wx fun e w'=>e= .returned (.int .i64 ((Qal (bitH s) (8*s.size) 5 a.2).1:Int))∧FW g s M (Qal (bitH s) (8*s.size) 5 a.2).2 v w'∧Mv g v wx v w'):=Qh fun wx hx=>Qbg g s M a.2 v 5 wx hx hs oka.1 (by decide)
 generalize Qal (bitH s) (8*s.size) 5 a.2=b at*;have lc:=Qck s (8*s.size) 4 b.2;have okc:=Qb5 (B:=bitH s) (n:=4) okb;have Cc:Hid (∀wx,FW g s M b.2 v wx→Calls Tryz.prog 41 #[.pointer (some ⟨g,0,none⟩),.int .i64 ((4:Nat):Int)] wx fun e w'=>e= .returned (.int .i64 ((Qal (bitH s) (8*s.size) 4 b.2).1:Int))∧FW g s M (Qal (bitH s) (8*s.size) 4 b.2).2 v w'∧Mv g v wx v w'):=Qh fun wx hx=>Qbg g s M b.2 v 4 wx hx hs okb.1 (by decide)
 generalize Qal (bitH s) (8*s.size) 4 b.2=c at*;have HSZ:=Qh hs;have H0:=Qh h;have HOKC:=Qh okc;obtain⟨a1,a2⟩:=a;obtain⟨b1,b2⟩:=b;obtain⟨c1,c2⟩:=c;dsimp only at la lb lc Ca Cb Cc HOKC⊢;obtain⟨many,hmany⟩:∃many,many=257+a1:=⟨_,rfl⟩;obtain⟨far,hfar⟩:∃far,far=1+b1:=⟨_,rfl⟩;obtain⟨few,hfew⟩:∃few,few=4+c1:=⟨_,rfl⟩;rw [←hmany,←hfar,←hfew];have hwm:IntKind.i64.wrap (257+(a1:Int))=(many:Int):=by rw [IntWalk.i64_in _ (by omega)];omega
 have hwf:IntKind.i64.wrap (1+(b1:Int))=(far:Int):=by rw [IntWalk.i64_in _ (by omega)];omega
 have hww:IntKind.i64.wrap (4+(c1:Int))=(few:Int):=by rw [IntWalk.i64_in _ (by omega)];omega
 have HLM:Hid (257≤many∧many<300∧1≤far∧far<40∧4≤few∧few<20):=Qh (by omega)
 obtain⟨S,hS⟩:∃S,S=Qgm (bitH s) (8*s.size) many far few c2:=⟨_,rfl⟩;rw [←hS];have HS:=Qh hS;clear hS hok oka okb okc h hs la lb lc hmany hfar hfew;go_enter Tryz.func45,Tryz.ntmps45;go_wp2_with fail;refine Ca.mono ?_;rintro e w1 ⟨rfl,h1,m1⟩;have C:=Cb.out w1 h1;clear Ca;go_wp2_with fail;refine C.mono ?_;rintro e w2 ⟨rfl,h2,m2⟩;replace m2:=m1.trans m2;clear C h1 m1;have C:=Cc.out w2 h2;go_wp2_with fail;refine C.mono ?_;rintro e w3 ⟨rfl,h3,m3⟩;have H3:=Qh (⟨h3,m2.trans m3⟩:FW g s M c2 v w3∧Mv g v w v w3);have k2:=h3.c2;have fz:=h3.fz 2;clear C h2 m2 h3 m3 Cb Cc;obtain⟨bad,hbad⟩:∃bad:Bool,bad=decide (c2.e=0∧(many>286∨far>30)):=⟨_,rfl⟩;have HBAD:=Qh hbad;clear hbad;go_upto_region 4 with fail;go_cut [4,5,6,34]from 13 (fun s4 s5 s6 s34 wx=>s4= .int .i64 (many:Int)∧s5= .int .i64 (far:Int)∧s6= .int .i64 (few:Int)∧s34= .bool bad∧w3=wx)
 case first=>
  by_cases he:c2.e=0
  ·rw [he]at k2;replace k2:w3.cell? ⟨g,2,none⟩=some (.int .i64 0):=k2;by_cases hm:many>286
   ·have hmi:(many:Int)>286:=by omega
    have HE:Hid (bad=true):=Qh (by rw [HBAD.out];exact decide_eq_true ⟨he,.inl hm⟩)
    clear hm he;go_wp2_with fail;go_meet
    case rel=>exact⟨rfl,rfl,rfl,by rw [HE.out],rfl⟩
   ·have hmi:¬(many:Int)>286:=by omega
    by_cases hf:far>30
    ·have hfi:(far:Int)>30:=by omega
     have HE:Hid (bad=true):=Qh (by rw [HBAD.out];exact decide_eq_true ⟨he,.inr hf⟩)
     clear hm hf he;go_wp2_with fail;go_meet
     case rel=>exact⟨rfl,rfl,rfl,by rw [HE.out],rfl⟩
    ·have hfi:¬(far:Int)>30:=by omega
     have HE:Hid (bad=false):=Qh (by rw [HBAD.out];exact decide_eq_false (by rintro⟨_,h|h⟩;exact hm h;exact hf h))
     clear hm hf he;go_wp2_with fail;go_meet
     case rel=>exact⟨rfl,rfl,rfl,by rw [HE.out],rfl⟩
  ·have HE:Hid (bad=false):=Qh (by rw [HBAD.out];exact decide_eq_false fun h=>he h.1)
   obtain⟨E,hE⟩:∃E:Int,(c2.e:Int)=E:=⟨_,rfl⟩;rw [hE]at k2;have hneb:(E==0)=false:=by simp;omega
   have hei:¬E=0:=by omega
   clear hE he;go_wp2_with fail;go_meet
   case rel=>exact⟨rfl,rfl,rfl,by rw [HE.out],rfl⟩
 case rest=>
 obtain⟨rfl,rfl,rfl,rfl,rfl⟩:=hcut;clear k2 fz;obtain⟨x1,hx1⟩:∃x1:Fl,x1=if c2.e=0∧(many>286∨far>30)then ⟨c2.p,2,c2.o⟩else c2:=⟨_,rfl⟩;have HOK1:Hid (okF (8*s.size) M x1):=Qh (by
  rw [hx1];split
  ·exact⟨fun h=>absurd (show 2=0 from h) (by decide),HOKC.out.2⟩
  ·exact HOKC.out)
 have HS1:Hid (S=(let g:=fewS (bitH s) (8*s.size) few 0 (fun _=>0) x1
  let t:=Qbf (bitH s) (8*s.size) g.1 (many+far) (many+far+1) [] (Qdb ((List.range 19).map g.1) g.2)
  let y:=if t.2.e=0∧(t.1.length>many+far∨t.1.getD 256 0=0)then ⟨t.2.p,2,t.2.o⟩else t.2
  if y.e≠0 then(([],[]),y)else ((t.1.take many,t.1.drop many),y))):=Qh (by rw [HS.out,hx1];rfl)
 have HX1:=Qh hx1;clear hx1 HS;go_upto_if 34 with fail;go_cut [4,5,6]from 13 (fun s4 s5 s6 wx=>s4= .int .i64 (many:Int)∧s5= .int .i64 (far:Int)∧s6= .int .i64 (few:Int)∧Hid (FW g s M x1 v wx∧Mv g v w v wx))
 case first=>
  have fz:=H3.out.1.fz 2;have k2:=H3.out.1.c2;cases bad with
  |true=>
   have HE:Hid (FW g s M x1 v (w3.setCell ⟨g,2,none⟩ (.int .i64 ((2:Nat):Int)))∧Mv g v w v (w3.setCell ⟨g,2,none⟩ (.int .i64 ((2:Nat):Int)))):=Qh (by
    rw [HX1.out,if_pos (of_decide_eq_true HBAD.out.symm)];exact⟨H3.out.1.setE 2,H3.out.2.set 2 _⟩)
   go_wp2_with fail;go_meet
   case rel=>exact⟨rfl,rfl,rfl,HE⟩
  |false=>
   have HE:Hid (FW g s M x1 v w3∧Mv g v w v w3):=Qh (by
    rw [HX1.out,if_neg (of_decide_eq_false HBAD.out.symm)];exact H3.out)
   go_wp2_with fail;go_meet
   case rel=>exact⟨rfl,rfl,rfl,HE⟩
 case rest=>
 obtain⟨rfl,rfl,rfl,HC1⟩:=hcut;clear HBAD HX1 H3 HOKC;have hmk:∀w,(Instr.makeSlice 92 (.int .i64 19) (.int .i64 19)).run Tryz.prog w= .ok (.slice (some ⟨w.heap.size,0,none⟩) 19 19) (w.alloc (.cells (rI 19 fun _=>0) 3)):=fun w=>by kernel_rfl
 have bz:=(Below.refl _ wc).alloc Ql (.cells (rI 19 fun _=>0) 3);have CO:=Qiu (wc.alloc (.cells (rI 19 fun _=>0) 3));have H4:=Qh (⟨HC1.out.1.below bz,HC1.out.2.below bz,Blk.new wc _ _⟩:FW g s M x1 v (wc.alloc (.cells (rI 19 fun _=>0) 3))∧Mv g v w v (wc.alloc (.cells (rI 19 fun _=>0) 3))∧Blk (wc.alloc (.cells (rI 19 fun _=>0) 3)) wc.heap.size 3 (rI 19 fun _=>0));have HZG:Hid (wc.heap.size≠g∧v.ownBlock≠some wc.heap.size∧w.heap.size≤wc.heap.size):=Qh ⟨fun e=>by have:=HC1.out.1.lt;omega,fun e=>by have:=(HC1.out.1.ownB _ e).2;omega,HC1.out.2.size⟩
 clear bz HC1;go_wp2_with fail;generalize hwz:wc.alloc (.cells (rI 19 fun _=>0) 3)=wz at*;obtain⟨z,hz⟩:∃z,z=wc.heap.size:=⟨_,rfl⟩;have HZZ:=Qh hz;clear hwz hmk;refine CO.mono ?_;rintro e w5 ⟨rfl,io,b5⟩;have H5:=Qh (⟨H4.out.1.below b5,H4.out.2.1.below b5,io,H4.out.2.2.below b5 H4.out.2.2.lt⟩:FW g s M x1 v w5∧Mv g v w v w5∧IS (some ⟨wz.heap.size,0,none⟩) 19 19 (fun i=>((ordL.getD i 0:Nat):Int)) w5∧Blk w5 wc.heap.size 3 (rI 19 fun _=>0));have HQG:Hid (wz.heap.size≠g∧v.ownBlock≠some wz.heap.size∧wz.heap.size≠wc.heap.size):=Qh ⟨fun e=>by have:=H4.out.1.lt;omega,fun e=>by have:=(H4.out.1.ownB _ e).2;omega,fun e=>by have:=H4.out.2.2.lt;omega⟩
 clear io b5 H4 CO;go_wp2_with fail;obtain⟨qo,hqo⟩:∃qo,qo=wz.heap.size:=⟨_,rfl⟩;rw [←hqo,←hz]at H5 HQG⊢;rw [←hz]at HZG;clear hqo hz;obtain⟨G,hG⟩:∃G,G=fewS (bitH s) (8*s.size) few 0 (fun _=>0) x1:=⟨_,rfl⟩;rw [←hG]at HS1;have HG0:Hid (∀j,19≤j→G.1 j=0):=Qh (by rw [hG];exact Qjs _ _ _ _ fun _ _=>rfl)
 have HGK:Hid (okF (8*s.size) M G.2):=Qh (by rw [hG];exact Qq7 _ _ _ HOK1.out)
 have HG:Hid (G=fewS (bitH s) (8*s.size) (few-0) 0 (fun _=>0) x1):=Qh hG;clear hG;go_loopw [9] (fun i wr=>∃(k:Nat) (y:Fl) (F:Nat→Nat),k≤few∧i= .int .i64 (k:Int)∧Hid (G=fewS (bitH s) (8*s.size) (few-k) k F y)∧Hid (okF (8*s.size) M y)∧Hid (∀j,F j<256)∧Hid (FW g s M y v wr∧Mv g v w v wr∧IS (some ⟨qo,0,none⟩) 19 19 (fun i=>((ordL.getD i 0:Nat):Int)) wr∧Blk wr z 3 (rI 19 fun j=>(F j:Int)))) (fun i _=>few-(intOf i).toNat)
 case atStart=>exact⟨0,x1,fun _=>0,by have:=HLM.out;omega,rfl,HG,HOK1,Qh fun _=>(by decide:(0:Nat)<256),H5⟩
 case round=>
  obtain⟨k,y,F,hk,rfl,HK,HOK,HF,HR⟩:=hrel;clear H5 HG HOK1;by_cases hlt:k<few
  ·have hlti:(k:Int)<(few:Int):=by omega
   have hk19:k<19:=by have:=HLM.out;omega
   have HKL:=Qh hlt;obtain⟨t,ht⟩:∃t,few-k=t+1:=⟨few-k-1,by omega⟩
   obtain⟨d,hd⟩:∃d,d=ordL.getD k 0:=⟨_,rfl⟩;have hd19:d<19:=by rw [hd];exact Qvm k
   have bl:=Qck s (8*s.size) 3 y;have HOK2:=Qh (Qb5 (B:=bitH s) (n:=3) HOK.out);have CB:∀wx,FW g s M y v wx→Calls Tryz.prog 41 #[.pointer (some ⟨g,0,none⟩),.int .i64 ((3:Nat):Int)] wx fun e w'=>e= .returned (.int .i64 ((Qal (bitH s) (8*s.size) 3 y).1:Int))∧FW g s M (Qal (bitH s) (8*s.size) 3 y).2 v w'∧Mv g v wx v w':=fun wx hx=>Qbg g s M y v 3 wx hx HSZ.out HOK.out.1 (by decide)
   have HK2:Hid (G=fewS (bitH s) (8*s.size) t (k+1) (fun j=>if j=d then(Qal (bitH s) (8*s.size) 3 y).1 else F j) (Qal (bitH s) (8*s.size) 3 y).2):=Qh (by rw [HK.out,ht,Qui,←hd])
   generalize Qal (bitH s) (8*s.size) 3 y=x3 at*;obtain⟨n,y2⟩:=x3;dsimp only at bl HOK2 CB HK2;obtain⟨T,hT⟩:∃T:Bool→Bool→World→Prop,T=fun b1 b2 wx=>FW g s M (bif b1 then y2 else y) v wx∧Mv g v w v wx∧IS (some ⟨qo,0,none⟩) 19 19 (fun i=>((ordL.getD i 0:Nat):Int)) wx∧Blk wx z 3 (rI 19 fun j=>((bif b2 then(fun j=>if j=d then n else F j)else F) j:Int)):=⟨_,rfl⟩;have HCO:Hid (∀b1 b2 wx,T b1 b2 wx→wx.cell? ⟨qo,k,none⟩=some (.int .i64 (d:Int))):=Qh fun b1 b2 wx h=>by
    rw [hT]at h;have:=h.2.2.1.cell _ rfl k hk19;rw [Qay,Nat.zero_add,←hd]at this;exact this
   have HCB:Hid (∀b2 wx,T false b2 wx→Calls Tryz.prog 41 #[.pointer (some ⟨g,0,none⟩),.int .i64 ((3:Nat):Int)] wx fun e w'=>e= .returned (.int .i64 (n:Int))∧T true b2 w'):=Qh fun b2 wx h=>by
    rw [hT]at h⊢;refine(CB wx h.1).mono ?_;rintro e w' ⟨rfl,h1,h2⟩;refine⟨rfl,h1,h.2.1.trans h2,h2.is h.2.2.1 (fun a ha=>by cases ha;exact⟨HQG.out.1,HQG.out.2.1⟩),(h2.block z h.2.2.2.lt HZG.out.1 HZG.out.2.1).trans h.2.2.2⟩
   have HPUT:Hid (∀b1 wx,T b1 false wx→wx.cell? ⟨z,d,none⟩=some (.int .i64 (F d:Int))∧wx.frozen? ⟨z,d,none⟩=false∧T b1 true (wx.setCell ⟨z,d,none⟩ (.int .i64 (n:Int)))):=Qh fun b1 wx h=>by
    rw [hT]at h⊢;refine⟨h.2.2.2.at_ hd19,h.2.2.2.frozen d,h.1.far (q:=⟨z,d,none⟩) (fun e=>HZG.out.1 e.symm) HZG.out.2.1 _,h.2.1.far HZG.out.2.2 d _,h.2.2.1.farC (fun a ha=>by cases ha;exact HQG.out.2.2) d _,(h.2.2.2.put hd19 (.int .i64 (n:Int))).cast_ (Qa3 fun j _=>by dsimp only [cond];split<;>rfl)⟩
   have HTD:Hid (∀wx,T true true wx→FW g s M y2 v wx∧Mv g v w v wx∧IS (some ⟨qo,0,none⟩) 19 19 (fun i=>((ordL.getD i 0:Nat):Int)) wx∧Blk wx z 3 (rI 19 fun j=>((if j=d then n else F j:Nat):Int))):=Qh fun wx h=>by rw [hT]at h;exact h
   have HT0:Hid (T false false wr.drew):=Qh (by rw [hT];exact⟨HR.out.1.drew,HR.out.2.1.drew,⟨HR.out.2.2.1.nil_,HR.out.2.2.1.cell,HR.out.2.2.1.lt,HR.out.2.2.1.lo,HR.out.2.2.1.hi⟩,HR.out.2.2.2.drew⟩)
   have HTT:=Qh ht;have HF2:Hid (∀j,(if j=d then n else F j)<256):=Qh fun j=>by split;omega;exact HF.out j
   have hki:(k:Int)<19:=by omega
   have hdi:(d:Int)<19:=by omega
   clear hT CB hd bl HK HOK HR ht hlt;go_wp2_with fail;refine Qad (Two 6 8 T) (by kernel_rfl) HT0.out ?_
   refine tA (i:=0) rfl rfl ?_;simp only [pu];refine tA (i:=1) rfl rfl ?_;simp only [pu];refine tA (i:=2) rfl rfl ?_;simp only [pu];refine tV (i:=3) (v:= .pointer (some ⟨qo,k,none⟩)) rfl rfl ?_;simp only [pu];refine tL (i:=4) (v:= .int .i64 (d:Int)) rfl rfl (fun f1 f2 wx hT=> ?_) ?_
   ·have cc:=HCO.out _ _ wx hT;go_simp;skip
   simp only [pu];refine tA (i:=5) rfl rfl ?_;simp only [pu];refine Qaa (i:=6) (v:= .int .i64 (n:Int)) rfl (Qa5 (by decide) rfl (fun f2 wx hT=> ?_)) ?_
   ·refine Qao (f:=41) ((HCB.out f2 wx hT).mono fun e w' ⟨he,hq⟩=>⟨he,hq⟩) ?_;go_simp;skip
   simp only [pu];refine tV (i:=7) (v:= .pointer (some ⟨z,d,none⟩)) rfl rfl ?_;simp only [pu];refine Qaa (i:=8) (v:=undef) rfl (Qo4 (by decide) rfl (fun f1 wx hT=> ?_)) ?_
   ·obtain⟨c0,f0,K⟩:=HPUT.out f1 wx hT;go_simp;exact⟨rfl,K⟩
   simp only [pu];refine Qag rfl ?_ _;intro w6 hT6;have H6:=Qh (HTD.out w6 hT6);clear hT6 HTD HCO HCB HPUT HT0;go_wp2_with fail;go_roundw
   case rel=>exact⟨k+1,y2,fun j=>if j=d then n else F j,by have:=HKL.out;omega,by go_num,Qh (by rw [show few-(k+1)=t by have:=HTT.out;omega];exact HK2.out),HOK2,HF2,H6⟩
   case measure=>simp only [intOf];have:=HKL.out;omega
  ·obtain rfl:k=few:=by omega
   have hlti:¬(k:Int)<(k:Int):=by omega
   have HGE:Hid (G=(F,y)):=Qh (by rw [HK.out,Nat.sub_self];rfl)
   have hF0:∀j,19≤j→F j=0:=by have:=HG0.out;rw [HGE.out]at this;exact this
   obtain⟨fL,hfL⟩:∃fL:Nat→Int,fL=numF ((List.range 19).map F):=⟨_,rfl⟩;have hnF:∀i,i<19→((F i:Nat):Int)=fL i:=fun i hi=>by
    rw [hfL];unfold numF;simp [List.getD,List.getElem?_range hi]
   have hTL:toL fL=F:=by rw [hfL];exact Qwr F hF0
   have hIS:IS (some ⟨z,0,none⟩) 19 19 fL wr:=by
    refine IS.row (HR.out.2.2.2.cast_ (Qa3 fun i hi=>by show Value.int .i64 ((F i:Nat):Int)=_;rw [hnF i hi])) (fun i hi=> ?_) (fun i hi=> ?_)
    ·rw [←hnF i hi];omega
    ·rw [←hnF i hi];have:=HF.out i;omega
   have hcd:Qdb ((List.range 19).map F) y=cdF fL 19 y:=by
    rw [Qxl,List.length_map,List.length_range,hfL];rfl
   have C:=Qgw g s M y v (some ⟨z,0,none⟩) 19 19 fL wr HR.out.1 hIS (by decide)
   have HOK3:Hid (okF (8*s.size) M (cdF fL 19 y)):=Qh (Qnh (Qtw (Qn7 HOK.out)));have HS2:Hid (S=(let t:=Qbf (bitH s) (8*s.size) (toL fL) (many+far) (many+far+1) [] (cdF fL 19 y)
    let y:=if t.2.e=0∧(t.1.length>many+far∨t.1.getD 256 0=0)then ⟨t.2.p,2,t.2.o⟩else t.2
    if y.e≠0 then(([],[]),y)else ((t.1.take many,t.1.drop many),y))):=Qh (by rw [HS1.out,HGE.out,hTL,←hcd])
   have HR2:=Qh (⟨HR.out.1,HR.out.2.1⟩:FW g s M y v wr∧Mv g v w v wr);generalize hy3:cdF fL 19 y=y3 at*;clear hy3 hcd hnF hTL hfL hF0 hIS HGE HK HOK HF HG0 HGK HS1 HR HQG HZG HZZ hk hlti;go_wp2_with fail;refine C.mono ?_;rintro e w7 ⟨p1,cc1,p2,cc2,m,rfl,h7,m7,good⟩;have hB7:=Blk.new w7 125 #[.slice none 0 0,.slice none 0 0];have b3:=(Below.refl _ w7).alloc Ql (.cells #[.slice none 0 0,.slice none 0 0] 125);have b4:Below w7.heap.size w7 ((w7.alloc (.cells #[.slice none 0 0,.slice none 0 0] 125)).setRow w7.heap.size #[.slice p1 m cc1,.slice p2 m cc2]):=Qai b3 Ql _;have hsz:(Tryz.prog.info? 125).map (·.size)=some 2:=by kernel_rfl
   have HLW:Hid (LgW g s M (y3.e=0) m p1 cc1 p2 cc2 fL w7.heap.size v w y3 [] (.slice none 0 0) ((w7.alloc (.cells #[.slice none 0 0,.slice none 0 0] 125)).setRow w7.heap.size #[.slice p1 m cc1,.slice p2 m cc2])):=Qh (by
    refine⟨h7.below b4,(HR2.out.2.trans m7).below b4,⟨World.ownsRow_nil _ _ _ 1,fun k e=>(by cases e)⟩,fun k e=>(by cases e),fun hk=> ?_,hB7.row_ _⟩
    obtain⟨e1,e2,e3,e4,e5,e6,e7⟩:=good hk;have l1:=HR2.out.1.lt;have l2:=HR2.out.1.ownB;have R:RC g p1 cc1 p2 cc2 19 fL v w7:=by
     refine⟨e2,e3,e4,e5,fun a ha=>⟨by have:=e6 a ha;omega,fun e=> ?_⟩,fun a ha=>⟨by have:=e7 a ha;omega,fun e=> ?_⟩⟩
     ·have:=e6 a ha;have:=l2 _ e;omega
     ·have:=e7 a ha;have:=l2 _ e;omega
    have R2:=R.below b4;exact⟨e1,R2,R2.hn,R2.ok,R2.l,R2.c,fun a ha=>⟨(R2.s1 a ha).1,fun e=>(by cases e)⟩,fun a ha=>⟨(R2.s2 a ha).1,fun e=>(by cases e)⟩⟩)
   have HB:=Qh hB7;have HSZ2:=Qh hsz;obtain⟨all,hall⟩:∃all,all=many+far:=⟨_,rfl⟩;rw [←hall]at HS2;obtain⟨Z,hZ⟩:∃Z,Z=Qbf (bitH s) (8*s.size) (toL fL) all (all+1) [] y3:=⟨_,rfl⟩;rw [←hZ]at HS2;have HZ0:=Qh hZ;have hwall:IntKind.i64.wrap ((many:Int)+(far:Int))=(all:Int):=by have:=HLM.out;rw [IntWalk.i64_in _ (by omega)];omega
   have HALL:Hid (all=many+far∧258≤all∧all<340):=Qh (by have:=HLM.out;omega)
   obtain⟨q,hq⟩:∃q,q=w7.heap.size:=⟨_,rfl⟩;obtain⟨wb,hwb⟩:∃wb,wb=(w7.alloc (.cells #[.slice none 0 0,.slice none 0 0] 125)).setRow w7.heap.size #[.slice p1 m cc1,.slice p2 m cc2]:=⟨_,rfl⟩;rw [←hwb,←hq]at HLW;clear hB7 b3 b4 h7 m7 good C hsz hZ HR2 hall;go_wp2_with (refine wpList_store_row rfl 125 _ _ rfl w7.heap.size #[.slice p1 m cc1,.slice p2 m cc2] rfl rfl 125 _ HB.out HSZ2.out rfl (Qjg _ _ _ _ _ _) ?_);rw [←hwb,←hq];clear hwb hq HB HSZ2;go_loopg [11,12] (all+1) (fun gk s11 s12 wr=>∃(t:Nat) (L:List Nat) (y:Fl) (q3:Option Addr) (c3:Nat),gk=t∧s11= .slice q3 L.length c3∧Hid (Z=Qbf (bitH s) (8*s.size) (toL fL) all t L y)∧Hid (okF (8*s.size) M y)∧Hid (L.length≤500∧∀i,L.getD i 0<19)∧Hid (y.e=0→y3.e=0)∧Hid (y.e=0→all-L.length<t)∧Hid (LgW g s M (y3.e=0) m p1 cc1 p2 cc2 fL q v w y L (.slice q3 L.length c3) wr))
   case atStart=>exact⟨_,[],y3,none,0,rfl,rfl,HZ0,HOK3,Qh ⟨by decide,fun i=>by simp [List.getD]⟩,Qh fun h=>h,Qh fun _=>by omega,HLW⟩
   case round=>
    obtain⟨t,L,y,q3,c3,hgk,rfl,HK,HOK,HL,HKK,HQ,HR⟩:=hrel;clear HLW HZ0 HOK3;have k2:=HR.out.fw.c2;by_cases hl:L.length<all
    ·have hli:(L.length:Int)<(all:Int):=by omega
     by_cases he:y.e=0
     ·rw [he]at k2;replace k2:wr.cell? ⟨g,2,none⟩=some (.int .i64 0):=k2;cases t with
      |zero=>have:=HQ.out he;omega
      |succ t=>
      obtain⟨em,r1,_⟩:=HR.out.rc (HKK.out he);have C:=Qig g s M y v p1 cc1 p2 cc2 19 fL wr HR.out.fw (by decide) r1.ok r1.l r1.c HSZ.out (by have:=HOK.out.1 he;have:=HSZ.out;omega)
      have HX:=Qh (Qnh (Qij (B:=bitH s) (l:=toL fL) (n:=19) (Qn7 HOK.out)));have HXL:=Qh (@Q1p (bitH s) (8*s.size) (toL fL) y);have HN:Hid (Z=(let s2:=symS (bitH s) (8*s.size) (toL fL) 19 y
       if s2.2.e≠0 then(L,s2.2)else
       if s2.1<16 then Qbf (bitH s) (8*s.size) (toL fL) all t (L++[s2.1]) s2.2 else
       if s2.1=16∧L.length=0 then(L,⟨s2.2.p,2,s2.2.o⟩)else
       if s2.1=16 then Qbf (bitH s) (8*s.size) (toL fL) all t (Qbx L (L.getD (L.length-1) 0) (3+(Qal (bitH s) (8*s.size) 2 s2.2).1) (Qal (bitH s) (8*s.size) 2 s2.2).2.e) (Qal (bitH s) (8*s.size) 2 s2.2).2 else
       if s2.1=17 then Qbf (bitH s) (8*s.size) (toL fL) all t (Qbx L 0 (3+(Qal (bitH s) (8*s.size) 3 s2.2).1) (Qal (bitH s) (8*s.size) 3 s2.2).2.e) (Qal (bitH s) (8*s.size) 3 s2.2).2 else
        Qbf (bitH s) (8*s.size) (toL fL) all t (Qbx L 0 (11+(Qal (bitH s) (8*s.size) 7 s2.2).1) (Qal (bitH s) (8*s.size) 7 s2.2).2.e) (Qal (bitH s) (8*s.size) 7 s2.2).2)):=Qh (by rw [HK.out];exact if_neg (by rintro(h|h);omega;exact h he))
      have HKE:=Qh (HKK.out he);have HQE:=Qh (HQ.out he);have HLA:=Qh hl;have HGK:=Qh hgk;generalize symS (bitH s) (8*s.size) (toL fL) 19 y=X at*;obtain⟨a,z⟩:=X;dsimp only at C HX HXL HN;have d0:=HR.out.bk.cell 0;have d1:=HR.out.bk.cell 1;rw [em]at d0 d1;clear em r1 HK HQ HKK hgk he hl HOK;go_wp2_with fail;refine C.mono ?_;rintro e w8 ⟨rfl,h8,m8⟩;have H8:=Qh (HR.out.mv h8 m8);have k2:=h8.c2;have hl:=HLA.out;clear h8 m8 HR C d0 d1;by_cases hz:z.e=0
      ·rw [hz]at k2;replace k2:w8.cell? ⟨g,2,none⟩=some (.int .i64 0):=k2;have h19:=HXL.out hz;clear HXL;by_cases h16:a<16
       ·have HN2:Hid (Z=Qbf (bitH s) (8*s.size) (toL fL) all t (L++[a]) z):=Qh (by rw [HN.out,if_neg (fun h=>h hz),if_pos h16])
        have hai:(a:Int)<16:=by omega
        have hA16:=Qh h16;clear HN hz h16 h19;go_wp2_with (at_builtin;refine Qkt rfl (.tmp 87) (.tmp 89) rfl rfl H8.out.fw H8.out.al (by have:=HL.out.1;omega) rfl a ?_;intro u9 w9 h9 a9 m9)
        obtain⟨q4,c4,hu9⟩:=a9.shape;have H9:=Qh (H8.out.side h9 a9 m9);subst hu9;clear h9 a9 m9;go_roundg t
        case measure=>have:=HGK.out;omega
        case rel=>exact⟨t,L++[a],z,q4,c4,rfl,rfl,HN2,HX,Qh ⟨by rw [List.length_append];have:=HLA.out;have:=HALL.out;simp only [List.length_cons,List.length_nil];omega,Qjt HL.out.2 (fun i=>by have:=hA16.out;cases i with|zero=>show a<19;omega|succ i=>simp [List.getD])⟩,Qh fun _=>HKE.out,Qh fun _=>by rw [List.length_append];have:=HQE.out;have:=HLA.out;simp only [List.length_cons,List.length_nil];omega,H9⟩
       ·have hai:¬(a:Int)<16:=by omega
        by_cases h16e:a=16
        ·have he16:(a:Int)=16:=by omega
         have he16b:((a:Int)==16)=true:=by simp;omega
         by_cases hl0:L.length=0
         ·have HN2:Hid (Z=Qbf (bitH s) (8*s.size) (toL fL) all t L ⟨z.p,2,z.o⟩):=Qh (by rw [HN.out,if_neg (fun h=>h hz),if_neg h16,if_pos ⟨h16e,hl0⟩,Qe7 (show(2:Nat)≠0 by decide)])
          have hl0i:(L.length:Int)=0:=by omega
          have hl0b:((L.length:Int)==0)=true:=by rw [hl0i];rfl
          have fz:=H8.out.fw.fz 2;have H9:=Qh (H8.out.mv (H8.out.fw.setE 2) ((Mv.refl g v w8).set 2 (.int .i64 ((2:Nat):Int))));clear HN hz h16 h19 h16e hl0;go_wp2_with fail;go_roundg t
          case measure=>have:=HGK.out;omega
          case rel=>exact⟨t,L,⟨z.p,2,z.o⟩,q3,c3,rfl,rfl,HN2,Qh ⟨fun h=>absurd (show 2=0 from h) (by decide),HX.out.2⟩,HL,Qh fun _=>HKE.out,Qh fun h=>absurd (show 2=0 from h) (by decide),H9⟩
         ·have hl0i:¬(L.length:Int)=0:=by omega
          have hl0b:((L.length:Int)==0)=false:=Bool.eq_false_iff.2 fun h=>hl0i (eq_of_beq h);have HN2:Hid (Z=Qbf (bitH s) (8*s.size) (toL fL) all t (Qbx L (L.getD (L.length-1) 0) (3+(Qal (bitH s) (8*s.size) 2 z).1) (Qal (bitH s) (8*s.size) 2 z).2.e) (Qal (bitH s) (8*s.size) 2 z).2):=Qh (by rw [HN.out,if_neg (fun h=>h hz),if_neg h16,if_neg (fun h=>hl0 h.2),if_pos h16e])
          have hbl:=Qck s (8*s.size) 2 z;have HOK2:=Qh (Qb5 (B:=bitH s) (n:=2) HX.out);have C:Hid (∀wx,FW g s M z v wx→Calls Tryz.prog 41 #[.pointer (some ⟨g,0,none⟩),.int .i64 ((2:Nat):Int)] wx fun e w'=>e= .returned (.int .i64 ((Qal (bitH s) (8*s.size) 2 z).1:Int))∧FW g s M (Qal (bitH s) (8*s.size) 2 z).2 v w'∧Mv g v wx v w'):=Qh fun wx hx=>Qbg g s M z v 2 wx hx HSZ.out HX.out.1 (by decide)
          generalize Qal (bitH s) (8*s.size) 2 z=x2 at*;obtain⟨n2,z2⟩:=x2;dsimp only at hbl HOK2 C HN2;have hwa:IntKind.i64.wrap (3+(n2:Int))=((3+n2:Nat):Int):=by rw [IntWalk.i64_in _ (by omega)];omega
          obtain⟨N,hN⟩:∃N,N=3+n2:=⟨_,rfl⟩;rw [←hN]at hwa HN2;have HNL:Hid (1≤N∧N≤150):=Qh (by omega)
          clear hN hbl;obtain⟨qb,cb,hu,_⟩:=H8.out.al.last (show L.length-1<L.length by omega)
          injection hu with hu1 _ hu3
          subst hu1 hu3;obtain⟨J,hJ⟩:∃J,J=L.length-1:=⟨_,rfl⟩;obtain⟨V,hV⟩:∃V,V=L.getD (L.length-1) 0:=⟨_,rfl⟩;rw [←hV]at HN2;have hV19:V<19:=by rw [hV];exact HL.out.2 _
          have HV19:=Qh hV19;have HLAST:Hid (∀y9 wx,LgW g s M (y3.e=0) m p1 cc1 p2 cc2 fL q v w y9 L (.slice (some ⟨qb,0,none⟩) L.length c3) wx→wx.cell? ⟨qb,J,none⟩=some (.int .i64 (V:Int))):=Qh fun y9 wx hx=>by
           obtain⟨qb2,cb2,hu,hc⟩:=hx.al.last (show L.length-1<L.length by omega)
           injection hu with hu1
           injection hu1 with hu1
           injection hu1 with hu1
           subst hu1;rw [hJ,hV];exact hc
          have CAG:Hid (∀wx,LgW g s M (y3.e=0) m p1 cc1 p2 cc2 fL q v w z2 L (.slice (some ⟨qb,0,none⟩) L.length c3) wx→Calls Tryz.prog 74 #[.pointer (some ⟨g,0,none⟩),.slice (some ⟨qb,0,none⟩) L.length c3,.int .i64 (V:Int),.int .i64 (N:Int)] wx fun e w'=>∃q4 c4,e= .returned (.slice q4 (Qbx L V N z2.e).length c4)∧LgW g s M (y3.e=0) m p1 cc1 p2 cc2 fL q v w z2 (Qbx L V N z2.e) (.slice q4 (Qbx L V N z2.e).length c4) w'):=Qh fun wx hx=>Qic V N hx (by have:=HNL.out;omega) (by have:=HL.out.1;omega)
          have hwJ:IntKind.i64.wrap ((L.length:Int)-1)=(J:Int):=by have:=HL.out.1;rw [IntWalk.i64_in _ (by omega)];omega
          have hJL:J<L.length:=by omega
          have hJi:(J:Int)<(L.length:Int):=by omega
          have H9:=Qh H8.out.drew;clear HN hz HX H8 hJ hV hV19 hl0 h16e h16 hl;go_wp2_with fail;clear k2;refine Qbc (by kernel_rfl) ?_
          change wpAnyH _ _ _ _ _ _ _ _ w8.drew;generalize w8.drew=wd at*;refine Qa4 (i:=0) (v:= ?_) rfl rfl (fun wx=> ?_) ?_;rotate_left
          ·go_simp<;>rfl
          simp only [pu];refine tH (i:=1) (v:= .slice (some ⟨qb,0,none⟩) L.length c3) rfl rfl ?_;simp only [pu];refine tH (i:=2) (v:= .slice (some ⟨qb,0,none⟩) L.length c3) rfl rfl ?_;simp only [pu];refine tH (i:=3) (v:= .slice (some ⟨qb,0,none⟩) L.length c3) rfl rfl ?_;simp only [pu];refine tH (i:=4) (v:= .int .i64 (L.length:Int)) rfl rfl ?_;simp only [pu];refine tH (i:=5) (v:= .int .i64 (J:Int)) rfl rfl ?_;simp only [pu];refine tH (i:=6) (v:= .pointer (some ⟨qb,J,none⟩)) rfl rfl ?_;simp only [pu];refine Qa4 (i:=8) (v:= ?_) rfl rfl (fun wx=> ?_) ?_;rotate_left
          ·go_simp<;>rfl
          simp only [pu];refine Quq (i:=7) (j:=9) (by kernel_rfl) ?_ ?_
          ·have c0:=HLAST.out _ _ H9.out;refine Qio (v:= .int .i64 (V:Int)) (R:=fun wx=>wx=wd) (Qdt rfl) rfl (Qab (w:=wd) (by go_simp;skip) rfl) ?_
           rintro _ rfl;refine⟨trivial,?_⟩;simp only [pu];refine Qau (i:=9) (f:=41) (by kernel_rfl) rfl rfl (by go_simp;skip) ((C.out _ H9.out.fw).mono ?_)
           rintro e w9 ⟨rfl,h9,m9⟩;refine⟨_,rfl,?_⟩;simp only [pu];have H9b:=Qh (H9.out.mv h9 m9);refine tH (i:=10) (v:= .int .i64 (N:Int)) rfl rfl ?_;simp only [pu];refine Qau (i:=11) (f:=74) (by kernel_rfl) rfl rfl (by go_simp;skip) ((CAG.out _ H9b.out).mono ?_)
           rintro e w10 ⟨q4,c4,rfl,h10⟩;refine⟨_,rfl,?_⟩;simp only [pu];refine Qa4 (i:=12) (v:= ?_) rfl rfl (fun wx=> ?_) ?_;rotate_left
           ·go_simp<;>rfl
           simp only [pu];refine wpAnyH_done (by kernel_rfl) ?_ _
           have H10:=Qh h10;clear h10 H9 H9b h9 m9 C CAG HLAST c0;go_wp2_with fail;go_roundg t
           case measure=>have:=HGK.out;omega
           case rel=>exact⟨t,_,z2,q4,c4,rfl,rfl,HN2,HOK2,Qh ⟨by rw [Qcv];have:=HL.out.1;have:=HNL.out;have:=HLA.out;have:=HALL.out;split<;>omega,Qg3 HL.out.2 HV19.out⟩,Qh fun _=>HKE.out,Qh fun h0=>by rw [Qcv,if_pos h0];have:=HQE.out;have:=HNL.out;have:=HLA.out;omega,H10⟩
          ·refine Qin (f:=41) (Qdt rfl) rfl (by go_simp;skip) ((C.out _ H9.out.fw).mono ?_)
           rintro e w9 ⟨rfl,h9,m9⟩;refine⟨_,rfl,trivial,?_⟩;simp only [pu];have H9b:=Qh (H9.out.mv h9 m9);refine tH (i:=10) (v:= .int .i64 (N:Int)) rfl rfl ?_;simp only [pu];have c0:=HLAST.out _ _ H9b.out;refine Qd6 (i:=7) (v:= .int .i64 (V:Int)) (R:=fun wx=>wx=w9) (by kernel_rfl) rfl rfl (Qab (w:=w9) (by go_simp;skip) rfl) ?_
           rintro _ rfl;simp only [pu];refine Qau (i:=11) (f:=74) (by kernel_rfl) rfl rfl (by go_simp;skip) ((CAG.out _ H9b.out).mono ?_)
           rintro e w10 ⟨q4,c4,rfl,h10⟩;refine⟨_,rfl,?_⟩;simp only [pu];refine Qa4 (i:=12) (v:= ?_) rfl rfl (fun wx=> ?_) ?_;rotate_left
           ·go_simp<;>rfl
           simp only [pu];refine wpAnyH_done (by kernel_rfl) ?_ _
           have H10:=Qh h10;clear h10 H9 H9b m9 C CAG HLAST c0;go_wp2_with fail;go_roundg t
           case measure=>have:=HGK.out;omega
           case rel=>exact⟨t,_,z2,q4,c4,rfl,rfl,HN2,HOK2,Qh ⟨by rw [Qcv];have:=HL.out.1;have:=HNL.out;have:=HLA.out;have:=HALL.out;split<;>omega,Qg3 HL.out.2 HV19.out⟩,Qh fun _=>HKE.out,Qh fun h0=>by rw [Qcv,if_pos h0];have:=HQE.out;have:=HNL.out;have:=HLA.out;omega,H10⟩
        ·have he16:¬(a:Int)=16:=by omega
         have he16b:((a:Int)==16)=false:=by simp;omega
         by_cases h17:a=17
         ·have he17:(a:Int)=17:=by omega
          have he17b:((a:Int)==17)=true:=by simp;omega
          have HN2:Hid (Z=Qbf (bitH s) (8*s.size) (toL fL) all t (Qbx L 0 (3+(Qal (bitH s) (8*s.size) 3 z).1) (Qal (bitH s) (8*s.size) 3 z).2.e) (Qal (bitH s) (8*s.size) 3 z).2):=Qh (by rw [HN.out];rw [if_neg (fun h=>h hz),if_neg h16,if_neg (fun h=>h16e h.1),if_neg h16e,if_pos h17])
          have hbl:=Qck s (8*s.size) 3 z;have HOK2:=Qh (Qb5 (B:=bitH s) (n:=3) HX.out);have C:=Qbg g s M z v 3 w8 H8.out.fw HSZ.out HX.out.1 (by decide)
          generalize Qal (bitH s) (8*s.size) 3 z=x2 at*;obtain⟨n2,z2⟩:=x2;dsimp only at hbl HOK2 C HN2;have hwa:IntKind.i64.wrap (3+(n2:Int))=((3+n2:Nat):Int):=by rw [IntWalk.i64_in _ (by omega)];omega
          obtain⟨N,hN⟩:∃N,N=3+n2:=⟨_,rfl⟩;rw [←hN]at hwa HN2;have HNL:Hid (1≤N∧N≤150):=Qh (by omega)
          clear hN hbl;clear HN hz HX;go_wp2_with fail;refine C.mono ?_;rintro e w9 ⟨rfl,h9,m9⟩;have H9:=Qh (H8.out.mv h9 m9);clear C h9 m9 H8 k2;have C:=Qic 0 N H9.out (by have:=HNL.out;omega) (by have:=HL.out.1;omega)
          go_wp2_with fail;refine C.mono ?_;rintro e w10 ⟨q4,c4,rfl,h10⟩;have H10:=Qh h10;clear C h10 H9;go_wp2_with fail;go_roundg t
          case measure=>have:=HGK.out;omega
          case rel=>exact⟨t,_,z2,q4,c4,rfl,rfl,HN2,HOK2,Qh ⟨by rw [Qcv];have:=HL.out.1;have:=HNL.out;have:=HLA.out;have:=HALL.out;split<;>omega,Qg3 HL.out.2 (by decide)⟩,Qh fun _=>HKE.out,Qh fun h0=>by rw [Qcv,if_pos h0];have:=HQE.out;have:=HNL.out;have:=HLA.out;omega,H10⟩
         ·have he17:¬(a:Int)=17:=by omega
          have he17b:((a:Int)==17)=false:=by simp;omega
          have HN2:Hid (Z=Qbf (bitH s) (8*s.size) (toL fL) all t (Qbx L 0 (11+(Qal (bitH s) (8*s.size) 7 z).1) (Qal (bitH s) (8*s.size) 7 z).2.e) (Qal (bitH s) (8*s.size) 7 z).2):=Qh (by rw [HN.out];rw [if_neg (fun h=>h hz),if_neg h16,if_neg (fun h=>h16e h.1),if_neg h16e,if_neg h17])
          have hbl:=Qck s (8*s.size) 7 z;have HOK2:=Qh (Qb5 (B:=bitH s) (n:=7) HX.out);have C:=Qbg g s M z v 7 w8 H8.out.fw HSZ.out HX.out.1 (by decide)
          generalize Qal (bitH s) (8*s.size) 7 z=x2 at*;obtain⟨n2,z2⟩:=x2;dsimp only at hbl HOK2 C HN2;have hwa:IntKind.i64.wrap (11+(n2:Int))=((11+n2:Nat):Int):=by rw [IntWalk.i64_in _ (by omega)];omega
          obtain⟨N,hN⟩:∃N,N=11+n2:=⟨_,rfl⟩;rw [←hN]at hwa HN2;have HNL:Hid (1≤N∧N≤150):=Qh (by omega)
          clear hN hbl;clear HN hz HX;go_wp2_with fail;refine C.mono ?_;rintro e w9 ⟨rfl,h9,m9⟩;have H9:=Qh (H8.out.mv h9 m9);clear C h9 m9 H8 k2;have C:=Qic 0 N H9.out (by have:=HNL.out;omega) (by have:=HL.out.1;omega)
          go_wp2_with fail;refine C.mono ?_;rintro e w10 ⟨q4,c4,rfl,h10⟩;have H10:=Qh h10;clear C h10 H9;go_wp2_with fail;go_roundg t
          case measure=>have:=HGK.out;omega
          case rel=>exact⟨t,_,z2,q4,c4,rfl,rfl,HN2,HOK2,Qh ⟨by rw [Qcv];have:=HL.out.1;have:=HNL.out;have:=HLA.out;have:=HALL.out;split<;>omega,Qg3 HL.out.2 (by decide)⟩,Qh fun _=>HKE.out,Qh fun h0=>by rw [Qcv,if_pos h0];have:=HQE.out;have:=HNL.out;have:=HLA.out;omega,H10⟩
      ·have HN2:Hid (Z=Qbf (bitH s) (8*s.size) (toL fL) all t L z):=Qh (by rw [HN.out,if_pos hz,Qe7 hz])
       have HZN:Hid (z.e≠0):=Qh hz;obtain⟨E,hE⟩:∃E:Int,(z.e:Int)=E:=⟨_,rfl⟩;rw [hE]at k2;have hneq:(E !=0)=true:=by simp;omega
       have hei:¬E=0:=by omega
       clear HN hz hE HXL;go_wp2_with fail;go_roundg t
       case measure=>have:=HGK.out;omega
       case rel=>exact⟨t,L,z,q3,c3,rfl,rfl,HN2,HX,HL,Qh fun _=>HKE.out,Qh fun h=>absurd h HZN.out,H8⟩
     ·have HZE:Hid (Z=(L,y)):=Qh (by rw [HK.out,Qe7 he])
      have HSE:Hid (S=(([],[]),y)):=Qh (by
       rw [HS2.out,HZE.out];show(let y9:=if y.e=0∧(L.length>all∨L.getD 256 0=0)then ⟨y.p,2,y.o⟩else y;if y9.e≠0 then(([],[]),y9)else ((L.take many,L.drop many),y9))=(([],[]),y);rw [if_neg (show¬(y.e=0∧(L.length>all∨L.getD 256 0=0))from fun h=>he h.1)];exact if_pos he)
      obtain⟨E,hE⟩:∃E:Int,(y.e:Int)=E:=⟨_,rfl⟩;rw [hE]at k2;have hneb:(E==0)=false:=by simp;omega
      have hneq:(E !=0)=true:=by simp;omega
      have hei:¬E=0:=by omega
      clear hE he HK HQ HKK hgk HZE;go_wp2_with fail;go_ret2;exact⟨none,0,0,none,0,0,rfl,by rw [HSE.out];exact HR.out.fw,HR.out.mo,by rw [HSE.out];rfl,by rw [HSE.out];rfl,IS.nil0 _ _,IS.nil0 _ _,fun a ha=>(by cases ha),by decide,by decide⟩
    ·have hli:¬(L.length:Int)<(all:Int):=by omega
     have HZE:Hid (Z=(L,y)):=Qh (by rw [HK.out,Qkk (Nat.le_of_not_lt hl)])
     by_cases he:y.e=0
     ·skip
      rw [he]at k2;replace k2:wr.cell? ⟨g,2,none⟩=some (.int .i64 0):=k2;have HSO:Hid (S=if L.length>all∨L.getD 256 0=0 then(([],[]),⟨y.p,2,y.o⟩)else ((L.take many,L.drop many),y)):=Qh (by
       rw [HS2.out,HZE.out];show(let y9:=if y.e=0∧(L.length>all∨L.getD 256 0=0)then ⟨y.p,2,y.o⟩else y;if y9.e≠0 then(([],[]),y9)else ((L.take many,L.drop many),y9))=_;by_cases hc:L.length>all∨L.getD 256 0=0
       ·have e1:(if y.e=0∧(L.length>all∨L.getD 256 0=0)then (⟨y.p,2,y.o⟩:Fl)else y)=⟨y.p,2,y.o⟩:=if_pos ⟨he,hc⟩;dsimp only;rw [e1,if_pos hc];exact if_pos (show(2:Nat)≠0 by decide)
       ·have e1:(if y.e=0∧(L.length>all∨L.getD 256 0=0)then (⟨y.p,2,y.o⟩:Fl)else y)=y:=if_neg (fun h=>hc h.2);dsimp only;rw [e1,if_neg hc];exact if_neg (fun h=>h he))
      have hal:=HALL.out;have hLM:=HLM.out;obtain⟨qb,cb,hu,c256⟩:=HR.out.al.last (show 256<L.length by omega)
      injection hu with hu1 _ hu3
      subst hu1 hu3;have hni:(256:Int)<(L.length:Int):=by omega
      clear HK HQ HKK hgk HZE;by_cases hgt:L.length>all
      ·have hgti:(L.length:Int)>(all:Int):=by omega
       have HSE:Hid (S=(([],[]),⟨y.p,2,y.o⟩)):=Qh (by rw [HSO.out];exact if_pos (.inl hgt))
       have fz:=HR.out.fw.fz 2;have H9:=Qh (⟨HR.out.fw.setE 2,HR.out.mo.set 2 (.int .i64 ((2:Nat):Int))⟩:FW g s M ⟨y.p,2,y.o⟩ v (wr.setCell ⟨g,2,none⟩ (.int .i64 ((2:Nat):Int)))∧Mv g v w v (wr.setCell ⟨g,2,none⟩ (.int .i64 ((2:Nat):Int))));clear he hal hLM hgt hl;go_wp2_with fail;go_ret2;exact⟨none,0,0,none,0,0,rfl,by rw [HSE.out];exact H9.out.1,H9.out.2,by rw [HSE.out];rfl,by rw [HSE.out];rfl,IS.nil0 _ _,IS.nil0 _ _,fun a ha=>(by cases ha),by decide,by decide⟩
      ·have hgti:¬(L.length:Int)>(all:Int):=by omega
       by_cases hd:L.getD 256 0=0
       ·have HSE:Hid (S=(([],[]),⟨y.p,2,y.o⟩)):=Qh (by rw [HSO.out];exact if_pos (.inr hd))
        rw [hd]at c256;replace c256:wr.cell? ⟨qb,256,none⟩=some (.int .i64 0):=c256;have fz:=HR.out.fw.fz 2;have H9:=Qh (⟨HR.out.fw.setE 2,HR.out.mo.set 2 (.int .i64 ((2:Nat):Int))⟩:FW g s M ⟨y.p,2,y.o⟩ v (wr.setCell ⟨g,2,none⟩ (.int .i64 ((2:Nat):Int)))∧Mv g v w v (wr.setCell ⟨g,2,none⟩ (.int .i64 ((2:Nat):Int))));clear he hal hLM hgt hd hl;go_wp2_with fail;go_ret2;exact⟨none,0,0,none,0,0,rfl,by rw [HSE.out];exact H9.out.1,H9.out.2,by rw [HSE.out];rfl,by rw [HSE.out];rfl,IS.nil0 _ _,IS.nil0 _ _,fun a ha=>(by cases ha),by decide,by decide⟩
       ·have HSE:Hid (S=((L.take many,L.drop many),y)):=Qh (by rw [HSO.out];exact if_neg (by rintro(h|h);exact hgt h;exact hd h))
        have hd0:¬((L.getD 256 0:Nat):Int)=0:=by omega
        have hd0b:(((L.getD 256 0:Nat):Int)==0)=false:=Bool.eq_false_iff.2 fun h=>hd0 (eq_of_beq h);generalize ((L.getD 256 0:Nat):Int)=D256 at c256 hd0 hd0b;have hLe:L.length=many+far:=by omega
        have hcap:L.length≤c3:=by
         rcases HR.out.al.own.2 with⟨_,h2⟩|⟨_,_,_,h1,_,_,h4,_⟩
         ·omega
         ·injection h1 with _ _ h1;omega
        have hac:(many:Int)≤(c3:Int):=by omega
        have hcn:¬c3=many:=by omega
        have han:(many:Int)≤(L.length:Int):=by omega
        have hnc:(L.length:Int)≤(c3:Int):=by omega
        have i1:=HR.out.al.is_take HL.out.2 (show many≤L.length by omega)
        have i2:=HR.out.al.is_drop HL.out.2 (show many≤L.length by omega) (c3-many)
        have hown:=World.ownsRow.lt HR.out.al.own qb rfl;have hne:=HR.out.al.ne qb rfl;have HF:Hid (FW g s M y v wr∧Mv g v w v wr∧(L.take many).length=many∧(L.drop many).length=L.length-many∧IS (some ⟨qb,0,none⟩) many c3 (numF (L.take many)) wr∧IS (some ⟨qb,many,none⟩) (L.length-many) (c3-many) (numF (L.drop many)) wr∧(qb≠g∧v.ownBlock≠some qb)∧many≤1000∧L.length-many≤1000):=
         Qh ⟨HR.out.fw,HR.out.mo,by rw [List.length_take];omega,by rw [List.length_drop],i1,i2,⟨by omega,hne⟩,by omega,by omega⟩
        clear he hal hLM hgt hd hl hLe hcap i1 i2 hown hne;go_wp2_with fail;go_quiet (fail);go_wp2_with fail;go_ret2;obtain⟨f1,f2,f3,f4,f5,f6,f7,f8,f9⟩:=HF.out;exact⟨some ⟨qb,0,none⟩,many,c3,some ⟨qb,many,none⟩,L.length-many,c3-many,rfl,by rw [HSE.out];exact f1.drewN _,f2.drewN _,by rw [HSE.out];exact f3.symm,by rw [HSE.out];exact f4.symm,by rw [HSE.out];exact⟨f5.nil_,f5.cell,f5.lt,f5.lo,f5.hi⟩,by rw [HSE.out];exact⟨f6.nil_,f6.cell,f6.lt,f6.lo,f6.hi⟩,fun a ha=>(by cases ha;exact f7),f8,f9⟩
     ·skip
      have HSE:Hid (S=(([],[]),y)):=Qh (by
       rw [HS2.out,HZE.out];show(let y9:=if y.e=0∧(L.length>all∨L.getD 256 0=0)then ⟨y.p,2,y.o⟩else y;if y9.e≠0 then(([],[]),y9)else ((L.take many,L.drop many),y9))=(([],[]),y);rw [if_neg (show¬(y.e=0∧(L.length>all∨L.getD 256 0=0))from fun h=>he h.1)];exact if_pos he)
      obtain⟨E,hE⟩:∃E:Int,(y.e:Int)=E:=⟨_,rfl⟩;rw [hE]at k2;have hneb:(E==0)=false:=by simp;omega
      have hneq:(E !=0)=true:=by simp;omega
      have hei:¬E=0:=by omega
      clear hE he HK HQ HKK hgk HZE;go_wp2_with fail;go_ret2;exact⟨none,0,0,none,0,0,rfl,by rw [HSE.out];exact HR.out.fw,HR.out.mo,by rw [HSE.out];rfl,by rw [HSE.out];rfl,IS.nil0 _ _,IS.nil0 _ _,fun a ha=>(by cases ha),by decide,by decide⟩
theorem FW.text {g:Nat} {s:ByteArray} {M:Nat} {x:Fl} {v:Value} {w:World} (h:FW g s M x v w) (hf:∀i,x.o.getD i 0<256):(convert 25 9 v).run Tryz.prog w= .ok (.string (txtL x.o)) w:=by
 refine Qcm w 25 9 5 (g+1) Tryz.underlying25 Tryz.underlying5 Tryz.underlying9 v x.o.length ((List.range x.o.length).map fun i=>BitVec.ofNat 8 (x.o.getD i 0)) ?_;have e:((List.range x.o.length).map fun i=>BitVec.ofNat 8 (x.o.getD i 0)).map b8v=bys x.o:=by
  rw [List.map_map];unfold bys
  apply List.ext_getElem (by simp)
  intro i h1 h2;simp only [List.getElem_map,List.getElem_range];have hi:i<x.o.length:=by simpa using h2
  show Value.int .u8 (iw (BitVec.ofNat 8 (x.o.getD i 0)))=Value.int .u8 ((x.o[i]:Nat):Int)
  have e3:x.o.getD i 0=x.o[i]:=by simp [List.getD,List.getElem?_eq_getElem hi]
  rw [e3];unfold iw;rw [BitVec.toNat_ofNat,Nat.mod_eq_of_lt (show x.o[i]<2^8 by rw [←e3];exact hf i)]
 rw [e];exact h.own
theorem IS.congr10 {p:Option Addr} {n c:Nat} {f f':Nat→Int} {w:World} (h:IS p n c f w) (e:∀i,i<n→f i=f' i):IS p n c f' w:=
 ⟨h.nil_,fun a ha i hi=>by rw [←e i hi];exact h.cell a ha i hi,h.lt,fun i hi=>by rw [←e i hi];exact h.lo i hi,fun i hi=>by rw [←e i hi];exact h.hi i hi⟩
theorem Qla (B:Nat→Nat) (T M:Nat) (a b:List Nat) (x:Fl):Qcw B T M a b x=Qat B T M (toL (numF a)) a.length (toL (numF b)) b.length (T+1) (cdF (numF b) b.length (cdF (numF a) a.length x)):=by
 rw [Qg0,Qg0];rfl
theorem Qk5 {B:Nat→Nat} {p0 t M:Nat} {x:Fl} (h1:Rn p0 (8*t) M (Qal B (8*t) 2 (Qal B (8*t) 1 x).2).2):Rn p0 (8*t) M (Qch B (8*t) M x).2:=by
 unfold Qch;dsimp only;split
 ·exact h1
 ·split
  ·exact Qgh h1
  ·split
   ·exact Qdk h1
   ·split
    ·exact Qdk (Qhu h1)
    ·exact h1.err (by decide)
theorem Qts {B:Nat→Nat} {t M:Nat} {x:Fl} (hx:x.e=0) (h:Rn 0 (8*t) M x):(Qch B (8*t) M x).2.e=0→x.p<(Qch B (8*t) M x).2.p:=by
 have h1:Rn (x.p+1) (8*t) M (Qal B (8*t) 1 x).2:=by
  refine⟨fun he=> ?_,by rw [Qlx];exact h.2⟩
  unfold Qal at he⊢;rw [if_neg (fun h=>h hx)]at he⊢;split
  ·next h2=>exact⟨Ql,h2⟩
  ·next h2=>rw [if_neg h2]at he;cases he
 exact fun he=>((Qk5 (B:=B) (Qbi h1)).1 he).1
theorem Qp8 (s:ByteArray) (most:Int) (w:World) (hs:s.size≤281474976710656):
  Calls Tryz.prog 24 #[.string s,.int .i64 most] w fun e w'=>e= .returned (.tuple #[.string (txtL (Qct s most).1),.int .i64 ((Qct s most).2.1:Int),.int .i64 ((Qct s most).2.2:Int)])∧Below w.heap.size w w':=by
 have et:txtL []=ByteArray.empty:=by decide+kernel
 by_cases hbad:most<0∨most>1048576
 ·have e:Qct s most=([],0,1):=if_pos hbad;rw [e];dsimp only;rw [et];have hor:most<0∨(¬most<0∧most>1048576):=by omega
  have HB:Hid (Below w.heap.size w w):=Qh Qb;clear hbad e;rcases hor with h1|⟨h1,h2⟩
  all_goals
   go_enter Tryz.func24,Tryz.ntmps24
   go_wp2_with fail;go_ret3;exact⟨rfl,HB.out⟩
 ·obtain⟨M,rfl⟩:∃M:Nat,most=M:=⟨most.toNat,by omega⟩
  have hM:M≤1048576:=by omega
  obtain⟨S,hS⟩:∃S,S=Qbt (bitH s) (8*s.size) M (8*s.size+1) false ⟨0,0,[]⟩:=⟨_,rfl⟩;have HO:Hid (Qct s (M:Int)=if S.e≠0 then([],0,S.e)else (S.o,(S.p+7) /8,0)):=Qh (by
   unfold Qct;rw [if_neg hbad,hS];rfl)
  have hb0:=(Below.refl _ w).alloc Ql (.cells #[.string s,.int .i64 0,.int .i64 0,.slice none 0 0,.int .i64 (M:Int)] 90);have H0:Hid (FW w.heap.size s M ⟨0,0,[]⟩ (.slice none 0 0) (w.alloc (.cells #[.string s,.int .i64 0,.int .i64 0,.slice none 0 0,.int .i64 (M:Int)] 90))∧Mv w.heap.size (.slice none 0 0) (w.alloc (.cells #[.string s,.int .i64 0,.int .i64 0,.slice none 0 0,.int .i64 (M:Int)] 90)) (.slice none 0 0) (w.alloc (.cells #[.string s,.int .i64 0,.int .i64 0,.slice none 0 0,.int .i64 (M:Int)] 90))):=Qh ⟨⟨Blk.new w _ _,rfl,.inl ⟨rfl,rfl⟩⟩,Mv.refl _ _ _⟩;have HBW:Hid (∀u w',Mv w.heap.size (.slice none 0 0) (w.alloc (.cells #[.string s,.int .i64 0,.int .i64 0,.slice none 0 0,.int .i64 (M:Int)] 90)) u w'→Below w.heap.size w w'):=Qh fun u w' m=>⟨m.os.trans hb0.os,m.tape.trans hb0.tape,m.output.trans hb0.output,Nat.le_trans hb0.size m.size,fun k hk=>(m.block k (Nat.lt_of_lt_of_le hk hb0.size) (by omega) (fun e=>by cases e)).trans (hb0.block k hk)⟩
  have hlo:¬(M:Int)<0:=by omega
  have hhi:¬(M:Int)>1048576:=by omega
  have HS:=Qh hS;have HM:=Qh hM;have HET:=Qh et;have HSZ:=Qh hs;clear hS hM et hs hb0 hbad;go_enter Tryz.func24,Tryz.ntmps24;go_wp2_with fail;generalize w.alloc (.cells #[.string s,.int .i64 0,.int .i64 0,.slice none 0 0,.int .i64 (M:Int)] 90)=wa at*;obtain⟨q,hq⟩:∃q,q=w.heap.size:=⟨_,rfl⟩;have HBW2:Hid (∀u w',Mv q (.slice none 0 0) wa u w'→Below w.heap.size w w'):=Qh (by rw [hq];exact HBW.out)
  rw [←hq]at H0⊢;clear hq HBW;have HBW:=HBW2;clear HBW2;go_loopg [8] (8*s.size+1) (fun gk s8 wr=>∃(t:Nat) (last:Bool) (y:Fl) (u:Value),gk=t∧s8= .bool last∧Hid (S=Qbt (bitH s) (8*s.size) M t last y)∧Hid (Rn 0 (8*s.size) M y)∧Hid (y.e=0→8*s.size-y.p<t)∧Hid (B8 y)∧Hid (FW q s M y u wr∧Mv q (.slice none 0 0) wa u wr))
  case atStart=>exact⟨_,false,⟨0,0,[]⟩,_,rfl,rfl,HS,Qh ⟨fun _=>⟨Nat.le_refl 0,Nat.zero_le _⟩,Nat.zero_le _⟩,Qh fun _=>by dsimp only;omega,Qh fun i=>by simp,H0⟩
  case round=>
   obtain⟨t,last,y,u,hgk,rfl,HK,HRN,HUP,HB,HR⟩:=hrel;clear H0 HS;have k2:=HR.out.1.c2;by_cases he:y.e=0
   ·rw [he]at k2;replace k2:wr.cell? ⟨q,2,none⟩=some (.int .i64 0):=k2;cases last with
    |true=>
     have HSE:Hid (S=y):=Qh (by rw [HK.out];exact Qip)
     obtain⟨Q,hQ⟩:∃Q,Q=(y.p+7) /8:=⟨_,rfl⟩;have HEE:Hid (Qct s (M:Int)=(y.o,Q,0)):=Qh (by rw [HO.out,HSE.out,hQ];exact if_neg (fun h=>h he))
     have hp:=(HRN.out.1 he).2;have hsz:=HSZ.out;have hw7:IntKind.i64.wrap ((y.p:Int)+7)=(y.p:Int)+7:=IntWalk.i64_in _ (by omega)
     have hq1:((y.p:Int)+7).tdiv 8=(Q:Int):=by rw [Int.tdiv_eq_ediv_of_nonneg (by omega)];omega
     have hq2:((y.p:Int)+7) /8=(Q:Int):=by omega
     have hqw:IntKind.i64.wrap (Q:Int)=(Q:Int):=IntWalk.i64_in _ (by omega)
     have HU:Hid (wr.drew.cell? ⟨q,3,none⟩=some u∧(convert 25 9 u).run Tryz.prog wr.drew= .ok (.string (txtL y.o)) wr.drew∧wr.drew.cell? ⟨q,1,none⟩=some (.int .i64 (y.p:Int))):=Qh ⟨HR.out.1.drew.c3,HR.out.1.drew.text HB.out,HR.out.1.drew.c1⟩;have HW:=Qh (HBW.out _ _ HR.out.2);clear hQ hp hsz he HK HRN HUP HB hgk HO HSE;go_wp2_with fail;refine Qad (Two 1000 1001 fun _ _ wx=>wx=wr.drew) (by kernel_rfl) rfl ?_
     refine tA (i:=0) rfl rfl ?_;simp only [pu];refine tA (i:=1) rfl rfl ?_;simp only [pu];refine tA (i:=2) rfl rfl ?_;simp only [pu];refine Qaa (i:=3) (v:=u) rfl (Qaf rfl (fun f1 f2 wx hT=> ?_)) ?_
     ·have cc:=HU.out.1;rw [hT];refine Qab (w:=wr.drew) ?_ rfl;go_simp;skip
     simp only [pu];refine Qaa (i:=4) (v:= .string (txtL y.o)) rfl (Qaf rfl (fun f1 f2 wx hT=> ?_)) ?_
     ·have cc:=HU.out.2.1;rw [hT];refine Qab (w:=wr.drew) ?_ rfl;go_simp;skip
     simp only [pu];refine tA (i:=5) rfl rfl ?_;simp only [pu];refine tA (i:=6) rfl rfl ?_;simp only [pu];refine tA (i:=7) rfl rfl ?_;simp only [pu];refine Qaa (i:=8) (v:= .int .i64 (y.p:Int)) rfl (Qaf rfl (fun f1 f2 wx hT=> ?_)) ?_
     ·have cc:=HU.out.2.2;rw [hT];refine Qab (w:=wr.drew) ?_ rfl;go_simp;skip
     simp only [pu];refine tV (i:=9) (v:= .int .i64 ((y.p:Int)+7)) rfl rfl ?_;simp only [pu];refine tV (i:=10) (v:= .int .i64 (Q:Int)) rfl rfl ?_;simp only [pu];refine tA (i:=11) rfl rfl ?_;simp only [pu];refine tA (i:=12) rfl rfl ?_;simp only [pu];refine tA (i:=13) rfl rfl ?_;simp only [pu];refine Qag rfl ?_ _;intro wx hT;have hT:wx=wr.drew:=hT;subst hT;go_wp2_with fail;go_ret3;rw [HEE.out];exact⟨rfl,HW.out.drew⟩
    |false=>
     cases t with
     |zero=>have:=HUP.out he;omega
     |succ t=>
     have HN:Hid (S=Qbt (bitH s) (8*s.size) M t (Qch (bitH s) (8*s.size) M y).1 (Qch (bitH s) (8*s.size) M y).2):=Qh (by rw [HK.out];exact if_neg (by rintro(h|h);cases h;exact h he))
     have HRY:=Qh (Qk5 (B:=bitH s) (p0:=0) (Qbi (n:=2) (Qbi (n:=1) HRN.out)));have HUY:=Qh (Qts (B:=bitH s) he HRN.out);have HBY:=Qh (Qnn (s:=s) (T:=8*s.size) (M:=M) HB.out);have HYE:Hid (Qch (bitH s) (8*s.size) M y=(decide ((Qal (bitH s) (8*s.size) 1 y).1=1),let k:=Qal (bitH s) (8*s.size) 2 (Qal (bitH s) (8*s.size) 1 y).2
      if k.2.e≠0 then k.2 else if k.1=0 then Qb8 (bitH s) (8*s.size) M k.2 else if k.1=1 then Qcw (bitH s) (8*s.size) M fixA fixB k.2 else
  if k.1=2 then Qcw (bitH s) (8*s.size) M (Qbp (bitH s) (8*s.size) k.2).1.1 (Qbp (bitH s) (8*s.size) k.2).1.2 (Qbp (bitH s) (8*s.size) k.2).2 else⟨k.2.p,2,k.2.o⟩)):=Qh rfl
     generalize Qch (bitH s) (8*s.size) M y=Y at*;obtain⟨lb,Y⟩:=Y;dsimp only at HN HRY HUY HBY HYE;have oky:=Qnh HRN.out;have Ca:=Qbg q s M y u 1 wr HR.out.1 HSZ.out oky.1 (by decide)
     have oka:=Qb5 (B:=bitH s) (n:=1) oky;generalize Qal (bitH s) (8*s.size) 1 y=a at*;have Cb:Hid (∀wx,FW q s M a.2 u wx→Calls Tryz.prog 41 #[.pointer (some ⟨q,0,none⟩),.int .i64 ((2:Nat):Int)] wx fun e w'=>e= .returned (.int .i64 ((Qal (bitH s) (8*s.size) 2 a.2).1:Int))∧FW q s M (Qal (bitH s) (8*s.size) 2 a.2).2 u w'∧Mv q u wx u w'):=Qh fun wx hx=>Qbg q s M a.2 u 2 wx hx HSZ.out oka.1 (by decide)
     have HOKB:=Qh (Qb5 (B:=bitH s) (n:=2) oka);generalize Qal (bitH s) (8*s.size) 2 a.2=b at*;obtain⟨a1,a2⟩:=a;obtain⟨b1,b2⟩:=b;dsimp only at Ca Cb HYE HOKB oka;have hlb:((a1:Int)==1)=lb:=by
      have e:lb=decide (a1=1):=congrArg Prod.fst HYE.out;rw [e];by_cases h1:a1=1
      ·rw [decide_eq_true h1,h1];rfl
      ·rw [decide_eq_false h1];exact Bool.eq_false_iff.2 fun h=>h1 (by have:=eq_of_beq h;omega)
     have HYF:Hid (Y=if b2.e≠0 then b2 else if b1=0 then Qb8 (bitH s) (8*s.size) M b2 else if b1=1 then Qcw (bitH s) (8*s.size) M fixA fixB b2 else
       if b1=2 then Qcw (bitH s) (8*s.size) M (Qbp (bitH s) (8*s.size) b2).1.1 (Qbp (bitH s) (8*s.size) b2).1.2 (Qbp (bitH s) (8*s.size) b2).2 else⟨b2.p,2,b2.o⟩):=Qh (congrArg Prod.snd HYE.out)
     have HGK:=Qh hgk;have HUP2:Hid (Y.e=0→8*s.size-Y.p<t):=Qh fun h=>by have h1:=HUP.out he;have h2:=HUY.out h;have h3:=(HRY.out.1 h).2;omega
     clear HYE oky oka HK HUP HUY HRN hgk he HB;go_wp2_with fail;refine Ca.mono ?_;rintro e w1 ⟨rfl,h1,m1⟩;have C:=Cb.out w1 h1;have M1:=Qh (HR.out.2.trans m1);clear Ca Cb h1 m1 HR;go_wp2_with fail;refine C.mono ?_;rintro e w2 ⟨rfl,h2,m2⟩;have H2:=Qh (⟨h2,M1.out.trans m2⟩:FW q s M b2 u w2∧Mv q (.slice none 0 0) wa u w2);have k2:=h2.c2;clear C h2 m2 M1;by_cases hz:b2.e=0
     ·rw [hz]at k2;replace k2:w2.cell? ⟨q,2,none⟩=some (.int .i64 0):=k2;by_cases h0:b1=0
      ·have HYG:Hid (Y=Qb8 (bitH s) (8*s.size) M b2):=Qh (by rw [HYF.out,if_neg (fun h=>h hz),if_pos h0])
       have hi0:(b1:Int)=0:=by omega
       have hb0:((b1:Int)==0)=true:=by rw [hi0];rfl
       have C:=Qmx q s M b2 u w2 H2.out.1 HSZ.out hz HM.out HOKB.out;rw [←HYG.out]at C;clear HYF hz h0;go_wp2_with fail;refine C.mono ?_;rintro e w3 ⟨rfl,u3,h3,m3⟩;have H3:=Qh (⟨h3,H2.out.2.trans m3⟩:FW q s M Y u3 w3∧Mv q (.slice none 0 0) wa u3 w3);clear C h3 m3 H2 k2;go_wp2_with fail;go_roundg t
       case measure=>have:=HGK.out;omega
       case rel=>exact⟨t,lb,Y,u3,rfl,rfl,HN,HRY,HUP2,HBY,H3⟩
      ·have hi0:¬(b1:Int)=0:=by omega
       have hb0:((b1:Int)==0)=false:=Bool.eq_false_iff.2 fun h=>hi0 (eq_of_beq h);by_cases h1:b1=1
       ·have HYG:Hid (Y=Qcw (bitH s) (8*s.size) M fixA fixB b2):=Qh (by rw [HYF.out,if_neg (fun h=>h hz),if_neg h0,if_pos h1])
        have hi1:(b1:Int)=1:=by omega
        have hb1:((b1:Int)==1)=true:=by rw [hi1];rfl
        have CF:=Qof w2;have C:Hid (∀p1 c1 p2 c2 wx,IS p1 288 c1 fixF wx→IS p2 32 c2 (fun _=>5) wx→Below w2.heap.size w2 wx→(∀a,p2=some a→w2.heap.size≤a.block)→Calls Tryz.prog 44 #[.pointer (some ⟨q,0,none⟩),.slice p1 288 c1,.slice p2 32 c2] wx fun e w'=>e= .returned (.tuple #[])∧∃u3,FW q s M Y u3 w'∧Mv q (.slice none 0 0) wa u3 w'):=Qh fun p1 c1 p2 c2 wx i1 i2 bw hp2=>by
         have j1:IS p1 288 c1 (numF fixA) wx:=i1.congr10 fun i hi=>(Q0q ⟨i,hi⟩).symm;have hB5:∀i:Fin 32,((fixB.getD i.val 0:Nat):Int)=5:=by decide+kernel
         have j2:IS p2 32 c2 (numF fixB) wx:=i2.congr10 fun i hi=>(hB5 ⟨i,hi⟩).symm;refine(Qis q s M b2 u p1 288 c1 (numF fixA) p2 32 c2 (numF fixB) wx (H2.out.1.below bw) j1 j2 (by decide) (by decide) (fun a ha=>⟨by have:=hp2 a ha;have:=H2.out.1.lt;omega,fun e=>by have:=hp2 a ha;have:=(H2.out.1.ownB _ e).2;omega⟩) HSZ.out HOKB.out HM.out).mono ?_
         rintro e w' ⟨rfl,u3,h3,m3⟩;refine⟨rfl,u3,?_,(H2.out.2.below bw).trans m3⟩;rw [HYG.out,Qla,Qq8,Qra];exact h3
        clear HYF hz h0 h1;go_wp2_with fail;refine CF.mono ?_;rintro e w3 ⟨p1,c1,p2,c2,rfl,i1,i2,bw,_,hp2⟩;have D:=C.out p1 c1 p2 c2 w3 i1 i2 bw hp2;clear CF C i1 i2 bw hp2 H2 k2;go_wp2_with fail;refine D.mono ?_;rintro e w4 ⟨rfl,u3,h3,m3⟩;have H3:=Qh (⟨h3,m3⟩:FW q s M Y u3 w4∧Mv q (.slice none 0 0) wa u3 w4);clear D h3 m3;go_wp2_with fail;go_roundg t
        case measure=>have:=HGK.out;omega
        case rel=>exact⟨t,lb,Y,u3,rfl,rfl,HN,HRY,HUP2,HBY,H3⟩
       ·have hi1:¬(b1:Int)=1:=by omega
        have hb1:((b1:Int)==1)=false:=Bool.eq_false_iff.2 fun h=>hi1 (eq_of_beq h);by_cases h2:b1=2
        ·have HYG:Hid (Y=Qcw (bitH s) (8*s.size) M (Qbp (bitH s) (8*s.size) b2).1.1 (Qbp (bitH s) (8*s.size) b2).1.2 (Qbp (bitH s) (8*s.size) b2).2):=Qh (by rw [HYF.out,if_neg (fun h=>h hz),if_neg h0,if_neg h1,if_pos h2])
         have hi2:(b1:Int)=2:=by omega
         have hb2:((b1:Int)==2)=true:=by rw [hi2];rfl
         have HRT:=Qh (Qhu (B:=bitH s) (Qn7 HOKB.out));have CT:=Qp9 q s M b2 u w2 H2.out.1 HSZ.out HOKB.out;clear HYF hz h0 h1 h2;go_wp2_with fail;refine CT.mono ?_;rintro e w3 ⟨pa,na,ca,pb,nb,cb,rfl,h3,m3,hna,hnb,ia,ib,sb,la,lb9⟩;have D:=Qis q s M _ u pa na ca _ pb nb cb _ w3 h3 ia ib (by omega) (by omega) sb HSZ.out (Qnh HRT.out) HM.out
         rw [hna,hnb,←Qla,←HYG.out,←hna,←hnb]at D;have M3:=Qh (H2.out.2.trans m3);clear CT h3 m3 hna hnb ia ib sb la lb9 H2 k2;go_wp2_with fail;refine D.mono ?_;rintro e w4 ⟨rfl,u3,h4,m4⟩;have H3:=Qh (⟨h4,M3.out.trans m4⟩:FW q s M Y u3 w4∧Mv q (.slice none 0 0) wa u3 w4);clear D h4 m4 M3;go_wp2_with fail;go_roundg t
         case measure=>have:=HGK.out;omega
         case rel=>exact⟨t,lb,Y,u3,rfl,rfl,HN,HRY,HUP2,HBY,H3⟩
        ·have HYG:Hid (Y=⟨b2.p,2,b2.o⟩):=Qh (by rw [HYF.out,if_neg (fun h=>h hz),if_neg h0,if_neg h1,if_neg h2])
         have hi2:¬(b1:Int)=2:=by omega
         have hb2:((b1:Int)==2)=false:=Bool.eq_false_iff.2 fun h=>hi2 (eq_of_beq h);have fz:=H2.out.1.fz 2;have H3:Hid (FW q s M Y u (w2.setCell ⟨q,2,none⟩ (.int .i64 ((2:Nat):Int)))∧Mv q (.slice none 0 0) wa u (w2.setCell ⟨q,2,none⟩ (.int .i64 ((2:Nat):Int)))):=Qh (by rw [HYG.out];exact⟨H2.out.1.setE 2,H2.out.2.set 2 _⟩)
         clear HYF hz h0 h1 h2 H2;go_wp2_with fail;go_roundg t
         case measure=>have:=HGK.out;omega
         case rel=>exact⟨t,lb,Y,u,rfl,rfl,HN,HRY,HUP2,HBY,H3⟩
     ·have HYG:Hid (Y=b2):=Qh (by rw [HYF.out];exact if_pos hz)
      have H3:Hid (FW q s M Y u w2∧Mv q (.slice none 0 0) wa u w2):=Qh (by rw [HYG.out];exact H2.out)
      obtain⟨E,hE⟩:∃E:Int,(b2.e:Int)=E:=⟨_,rfl⟩;rw [hE]at k2;have hneq:(E !=0)=true:=by simp;omega
      have hei:¬E=0:=by omega
      clear HYF hz hE H2;go_wp2_with fail;go_roundg t
      case measure=>have:=HGK.out;omega
      case rel=>exact⟨t,lb,Y,u,rfl,rfl,HN,HRY,HUP2,HBY,H3⟩
   ·cases last
    all_goals
     have HSE:Hid (S=y):=Qh (by rw [HK.out];exact Qgp he)
     obtain⟨E,hE⟩:∃E:Int,(y.e:Int)=E:=⟨_,rfl⟩;rw [hE]at k2;have hneb:(E==0)=false:=by simp;omega
     have hneq:(E !=0)=true:=by simp;omega
     have hei:¬E=0:=by omega
     have HK2:Hid (wr.drew.cell? ⟨q,2,none⟩=some (.int .i64 E)):=Qh k2;have HW:=Qh (HBW.out _ _ HR.out.2);have HEE:Hid (Qct s (M:Int)=([],0,y.e)):=Qh (by rw [HO.out,HSE.out];exact if_pos he)
     have HE2:=Qh hE;clear hE he HK HRN HUP HB hgk HO;go_wp2_with fail;refine Qad (Two 1000 1001 fun _ _ wx=>wx=wr.drew) (by kernel_rfl) rfl ?_
     refine tA (i:=0) rfl rfl ?_;simp only [pu];refine tA (i:=1) rfl rfl ?_;simp only [pu];refine tA (i:=2) rfl rfl ?_;simp only [pu];refine Qaa (i:=3) (v:= .int .i64 E) rfl (Qaf rfl (fun f1 f2 wx hT=> ?_)) ?_
     ·have cc:=HK2.out;rw [hT];refine Qab (w:=wr.drew) ?_ rfl;go_simp;skip
     simp only [pu];refine tA (i:=4) rfl rfl ?_;simp only [pu];refine tA (i:=5) rfl rfl ?_;simp only [pu];refine tA (i:=6) rfl rfl ?_;simp only [pu];refine Qag rfl ?_ _;intro wx hT;have hT:wx=wr.drew:=hT;subst hT;go_wp2_with fail;go_ret3;rw [HEE.out];dsimp only;rw [HET.out,HE2.out];exact⟨rfl,HW.out.drew⟩
end Go.Proofs.YtbmcjdoiohcaaaaGreat
