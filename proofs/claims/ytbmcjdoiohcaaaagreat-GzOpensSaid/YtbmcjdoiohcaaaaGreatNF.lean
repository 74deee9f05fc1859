/- NF -/
import Derived.Test.YtbmcjdoiohcaaaaGreatNE
import Derived.Laws.BitsAllLaws
import Derived.Lib.AppendZerosOnto
set_option maxRecDepth 100000
set_option maxHeartbeats 8000000
namespace Go.Proofs.YtbmcjdoiohcaaaaGreat
open Go.RowKit
def revN:Nat→Nat→Nat
 |0,_=>0
 |k+1,x=>revN k (x /2)+x%2*2^k
theorem Qie:∀(k x:Nat),revN k x<2^k
 |0,_=>Nat.one_pos
 |k+1,x=>by
  have:=Qie k (x /2);show revN k (x /2)+x%2*2^k<2^(k+1);rw [Nat.pow_succ];rcases(show x%2=0∨x%2=1 by omega)with e|e<;>rw [e]<;>omega
theorem Qru:∀(k m x:Nat),revN (k+m) x /2^m=revN k x
 |0,m,x=>by rw [Nat.zero_add];exact Nat.div_eq_of_lt (Qie m x)
 |k+1,m,x=>by
  rw [show k+1+m=(k+m)+1 by omega]
  show(revN (k+m) (x /2)+x%2*2^(k+m)) /2^m=revN k (x /2)+x%2*2^k
  rw [Nat.pow_add,←Nat.mul_assoc,Nat.add_mul_div_right _ _ (Nat.pow_pos (by decide)),Qru k m (x /2)]
theorem Qlr:∀(a b x:Nat),revN (a+b) x=revN b (x /2^a)+revN a x*2^b
 |0,b,x=>by simp [revN]
 |a+1,b,x=>by
  rw [show a+1+b=(a+b)+1 by omega]
  show revN (a+b) (x /2)+x%2*2^(a+b)=revN b (x /2^(a+1))+(revN a (x /2)+x%2*2^a)*2^b
  rw [Qlr a b (x /2),Nat.div_div_eq_div_mul,Nat.pow_succ' (n:=a),Nat.add_mul,Nat.pow_add,Nat.mul_assoc (x%2),Nat.add_assoc]
theorem Qja:∀(k x:Nat),revN k (x%2^k)=revN k x
 |0,_=>rfl
 |k+1,x=>by
  show revN k (x%2^(k+1) /2)+x%2^(k+1)%2*2^k=revN k (x /2)+x%2*2^k
  have e1:x%2^(k+1) /2=x /2%2^k:=by rw [Nat.pow_succ',Nat.mod_mul_right_div_self]
  have e2:x%2^(k+1)%2=x%2:=Nat.mod_mod_of_dvd _ ⟨2^k,Nat.pow_succ'⟩;rw [e1,e2,Qja k (x /2)]
theorem Qnz {o:Oper} {a:Act} {w:World} (c ix:Operand) (T:ByteArray) (i:Nat) (ho:o.op= .index 9 c ix) (hc:a.eval c= .string T) (hx:a.eval ix= .int .u16 (i:Int)) (hT:T.size=256) (ht:∀j:Fin 256,Qac T j.val=revN 8 j.val) (hi:i<256):
  Qbv Tryz.prog (fun w'=>w'=w) (.int .u8 (revN 8 i:Int)) ((execOp a.eval o).run Tryz.prog w):=by
 refine Qab (w:=w) ?_ rfl;have hi2:i<T.size:=by omega
 have hii:(i:Int)<(T.size:Int):=by omega
 have hb:((T[i]'hi2).toNat:Int)=(revN 8 i:Int):=by rw [Qa2 T i hi2,ht ⟨i,hi⟩]
 clear ht hT hi;simp [execOp,ho,hc,hx];go_simp
 skip
theorem Qvy (x:Nat) (hx:x<65536) (w:World):
  Calls Tryz.prog 111 #[.int .u16 (x:Int)] w fun e w'=>e= .returned (.int .u16 (revN 16 x:Int))∧∃nq,w'=w.drewN nq:=by
 obtain⟨hi,hh⟩:∃hi,hi=x /256:=⟨_,rfl⟩;obtain⟨lo,hl⟩:∃lo,lo=x%256:=⟨_,rfl⟩;obtain⟨r1,hr1⟩:∃r1,r1=revN 8 hi:=⟨_,rfl⟩;obtain⟨r2,hr2⟩:∃r2,r2=revN 8 lo:=⟨_,rfl⟩;obtain⟨z,hz⟩:∃z,z=revN 16 x:=⟨_,rfl⟩;have hb1:r1<256:=by rw [hr1];exact Qie 8 hi
 have hb2:r2<256:=by rw [hr2];exact Qie 8 lo
 have hzz:z=r1+2^8*r2:=by
  rw [hz,Qlr 8 8 x,hr1,hr2,hh,hl,Nat.mul_comm];have:=Qja 8 x;rw [show (2:Nat)^8=256 from rfl]at this⊢;rw [this]
 have HR1:=Qh hr1;have HR2:=Qh hr2;have HB:Hid (hi<256∧lo<256):=Qh (by omega)
 have HH:Hid ((x:Int) /256=(hi:Int)):=Qh (by omega)
 have HL:Hid (bits .and .u16 (x:Int) 255=(lo:Int)):=Qh (by rw [show (255:Int)=((255:Nat):Int)from rfl,u16_and_nat _ _ hx (by decide),show(255:Nat)=2^8-1 from rfl,Nat.and_two_pow_sub_one_eq_mod,hl])
 have HU1:Hid (IntKind.u16.wrap (r1:Int)=(r1:Int)):=Qh (by rw [IntKind.wrap_u16];omega)
 have HU2:Hid (IntKind.u16.wrap (r2:Int)=(r2:Int)):=Qh (by rw [IntKind.wrap_u16];omega)
 have HS:Hid (IntKind.u16.wrap ((r2:Int)*256)=(r2:Int)*256):=Qh (by rw [IntKind.wrap_u16];omega)
 have HO:Hid (bits .or .u16 (r1:Int) ((r2:Int)*256)=(z:Int)):=Qh (by
  have e:(r2:Int)*256=((2^8*r2:Nat):Int):=by rw [Nat.mul_comm];rfl
  rw [e,u16_or_nat _ _ (by omega) (by omega),Nat.or_comm,←Nat.two_pow_add_eq_or_of_lt (show r1<2^8 from hb1),hzz,Nat.add_comm])
 have HZ:=Qh hz;clear hh hl hr1 hr2 hz hzz hb1 hb2;go_enter Tryz.func111,Tryz.ntmps111;go_wp2_with fail;refine Qad (Two 1000 1001 fun _ _ wx=>wx=w.drew) (by kernel_rfl) rfl ?_
 refine tV (i:=0) (v:= .int .u16 (x:Int)) rfl rfl ?_;simp only [pu];refine tL (i:=1) (v:= .int .u16 (hi:Int)) rfl rfl (fun f1 f2 wx hT=> ?_) ?_
 ·have cc:=HH.out;go_simp;skip
 simp only [pu];refine Qaa (i:=2) (v:= .int .u8 (r1:Int)) rfl (Qaf rfl (fun f1 f2 wx hT=> ?_)) ?_
 ·have hr:=HR1.out;rw [hr];exact(Qnz (w:=wx) _ (.tmp 4) _ hi rfl rfl rfl (by decide+kernel) (by decide+kernel) HB.out.1).mono fun _ e=>e▸hT
 simp only [pu];refine tL (i:=3) (v:= .int .u16 (r1:Int)) rfl rfl (fun f1 f2 wx hT=> ?_) ?_
 ·have cc:=HU1.out;go_simp;skip
 simp only [pu];refine tV (i:=4) (v:= .int .u16 (x:Int)) rfl rfl ?_;simp only [pu];refine tL (i:=5) (v:= .int .u16 (lo:Int)) rfl rfl (fun f1 f2 wx hT=> ?_) ?_
 ·have cc:=HL.out;go_simp;skip
 simp only [pu];refine Qaa (i:=6) (v:= .int .u8 (r2:Int)) rfl (Qaf rfl (fun f1 f2 wx hT=> ?_)) ?_
 ·have hr:=HR2.out;rw [hr];exact(Qnz (w:=wx) _ (.tmp 8) _ lo rfl rfl rfl (by decide+kernel) (by decide+kernel) HB.out.2).mono fun _ e=>e▸hT
 simp only [pu];refine tL (i:=7) (v:= .int .u16 (r2:Int)) rfl rfl (fun f1 f2 wx hT=> ?_) ?_
 ·have cc:=HU2.out;go_simp;skip
 simp only [pu];refine tL (i:=8) (v:= .int .u16 ((r2:Int)*256)) rfl rfl (fun f1 f2 wx hT=> ?_) ?_
 ·have cc:=HS.out;go_simp;skip
 simp only [pu];refine tL (i:=9) (v:= .int .u16 (z:Int)) rfl rfl (fun f1 f2 wx hT=> ?_) ?_
 ·have cc:=HO.out;go_simp;skip
 simp only [pu];refine tV (i:=10) (v:= .int .u16 (z:Int)) rfl rfl ?_;simp only [pu];refine Qag rfl ?_ _;rintro w2 rfl;go_wp2_with fail;go_ret;rw [←HZ.out];exact⟨rfl,1,rfl⟩
def cdV (l:Nat→Nat) (n i:Nat):Nat×Nat:=(revN (l i) (Qa0 l n i),l i)
def cdL (l:Nat→Nat) (n:Nat):List (Nat×Nat):=(List.range n).map (cdV l n)
def cdC (l:Nat→Nat) (n k j:Nat):Int:=if j /2<k then(if j%2=0 then((cdV l n (j /2)).1:Int)else ((cdV l n (j /2)).2:Int))else 0
theorem Qn2 (n:Nat) (hn:n≤1000) (w:World) (T:TypeId) (hT:Tryz.prog.underlying T=Tryz.prog.underlying 52):(Instr.makeSlice T (.int .i64 (n:Int)) (.int .i64 (n:Int))).run Tryz.prog w= .ok (.slice (some ⟨w.heap.size,0,none⟩) n n) (w.alloc (.cells (rI (n*2) fun _=>0) 106)):=by
 obtain⟨i0,hi,hz0,hz1,hz2⟩:=info_parts Qus;have h:=run_make (P:=Tryz.prog) w T 106 i0 (.agg #[.int .i64 0,.int .i64 0]) (hT.trans Tryz.underlying52) hi hz0 .i64 .i64 (n:Int) n (by omega) (by omega) (by rw [hz2];omega) (by omega)
 rw [hz1,Int.toNat_natCast]at h;have e:madeCells (Value.cells (.agg #[.int .i64 0,.int .i64 0])) (n*2)=rI (n*2) fun _=>0:=by
  apply Array.ext
  ·rw [size_madeCells,Qbb]
  ·intro i h1 h2;have h:i<n*2:=by rw [size_madeCells]at h1;exact h1
   have e:=Qeu (fun i=>Value.int .i64 ((fun _=>(0:Int)) i)) h;rw [Array.getElem?_eq_getElem h2]at e;rw [Option.some.inj e];simp only [madeCells];rcases(show i%2=0∨i%2=1 by omega)with e2|e2<;>simp [Value.cells,e2]
 rw [e]at h;exact h
theorem Q1j (c K:Nat) (hK:K≤15):revN 16 (c%65536) /2^(16-K)=revN K c:=by
 have h:=Qru K (16-K) (c%65536);rw [show K+(16-K)=16 by omega]at h
 rw [h,←Qja K (c%65536),←Qja K c]
 congr 1
 exact Nat.mod_mod_of_dvd _ (by rw [show (65536:Nat)=2^16 from rfl];exact Nat.pow_dvd_pow 2 (by omega))
theorem Qgu (p:Option Addr) (n cap:Nat) (f:Nat→Int) (w:World) (h:IS p n cap f w) (hn:n≤300) (he:Qba f n=0) (h15:∀i,i<n→0≤f i∧f i≤15):
  Calls Tryz.prog 78 #[.slice p n cap] w fun e w'=>∃z,e= .returned (.slice (some ⟨z,0,none⟩) n n)∧Blk w' z 106 (rI (n*2) (cdC (toL f) n n))∧Below w.heap.size w w'∧w.heap.size≤z:=by
 have CC:=Qlc p n cap f w h (by omega)
 have em:Qfs f n=n:=by unfold Qfs;rw [if_pos he]
 rw [em]at CC;have HI:=Qh h;have H15:=Qh h15;clear h h15 em he;go_enter Tryz.func78,Tryz.ntmps78;go_wp2_with fail;refine CC.mono ?_;rintro e w1 ⟨p2,c2,rfl,hI2,b1⟩;have hmk:=fun w=>Qn2 n (by omega) w 53 rfl
 have hbz:=Blk.new w1 106 (rI (n*2) fun _=>0);have hb2:=b1.alloc b1.size (.cells (rI (n*2) fun _=>0) 106);have H0:Hid (Blk (w1.alloc (.cells (rI (n*2) fun _=>0) 106)) w1.heap.size 106 (rI (n*2) (cdC (toL f) n 0))∧IS p2 n c2 (fun i=>(Qa0 (toL f) n i:Int)) (w1.alloc (.cells (rI (n*2) fun _=>0) 106))∧Below w.heap.size w (w1.alloc (.cells (rI (n*2) fun _=>0) 106))):=Qh ⟨hbz.cast_ (Qa3 fun j _=>by unfold cdC;rw [if_neg (by omega)]),hI2.below (Qb.alloc Ql _),hb2⟩
 have HZ0:Hid (w.heap.size≤w1.heap.size):=Qh b1.size;have HP2:Hid (∀a,p2=some a→a.block<w1.heap.size):=Qh hI2.lt;clear CC hI2 b1 hbz hb2;go_wp2_with fail;obtain⟨z,hz⟩:∃z,z=w1.heap.size:=⟨_,rfl⟩;rw [←hz]at H0 HZ0 HP2⊢;clear hz hmk;generalize w1.alloc (.cells (rI (n*2) fun _=>0) 106)=wa at H0⊢;go_loopw [18] (fun u wr=>∃i:Nat,i≤n∧u= .int .i64 (i:Int)∧Hid (Blk wr z 106 (rI (n*2) (cdC (toL f) n i))∧IS p2 n c2 (fun i=>(Qa0 (toL f) n i:Int)) wr∧Below w.heap.size w wr)) (fun u _=>n-(intOf u).toNat)
 case atStart=>exact⟨0,Nat.zero_le _,rfl,H0⟩
 case round=>
  obtain⟨i,hi,rfl,HR⟩:=hrel;clear H0;by_cases hlt:i<n
  ·have hlti:(i:Int)<(n:Int):=by omega
   obtain⟨a,rfl⟩:∃a,p=some a:=by
    cases p with
    |none=>have:=(HI.out.nil_ rfl).1;omega
    |some a=>exact⟨a,rfl⟩
   obtain⟨a2,rfl⟩:∃a,p2=some a:=by
    cases p2 with
    |none=>have:=(HR.out.2.1.nil_ rfl).1;omega
    |some a=>exact⟨a,rfl⟩
   obtain⟨C,hC⟩:∃C,C=Qa0 (toL f) n i:=⟨_,rfl⟩;obtain⟨K,hK⟩:∃K,K=toL f i:=⟨_,rfl⟩;have hfi:=H15.out i hlt;have hKf:f i=(K:Int):=by rw [hK];unfold toL;omega
   have hK15:K≤15:=by omega
   obtain⟨X,hX⟩:∃X,X=C%65536:=⟨_,rfl⟩;have hXl:X<65536:=by omega
   obtain⟨Y,hY⟩:∃Y,Y=revN 16 X:=⟨_,rfl⟩;have hYl:Y<2^16:=by rw [hY];exact Qie 16 X
   obtain⟨V,hV⟩:∃V,V=Y /2^(16-K):=⟨_,rfl⟩;have hVr:V=revN K C:=by rw [hV,hY,hX];exact Q1j C K hK15
   have hVl:V<65536:=by rw [hV];exact Nat.lt_of_le_of_lt (Nat.div_le_self _ _) hYl
   obtain⟨D,hD⟩:∃D,D=16-K:=⟨_,rfl⟩;rw [←hD]at hV;have cc2:wr.cell? (a2.add i)=some (.int .i64 (C:Int)):=by rw [HR.out.2.1.cell a2 rfl i hlt,hC]
   have HX:Hid (IntKind.u16.wrap (C:Int)=(X:Int)):=Qh (by rw [IntKind.wrap_u16];omega)
   have HC:Hid (∀nx,Calls Tryz.prog 111 #[.int .u16 (X:Int)] (wr.drewN nx) fun e w'=>e= .returned (.int .u16 (Y:Int))∧∃nq,w'=wr.drewN nq):=Qh fun nx=>by
    have C:=Qvy X hXl (wr.drewN nx);rw [←hY]at C;refine C.mono ?_;rintro e w' ⟨h1,nq,h2⟩;exact⟨h1,nx+nq,by rw [h2,World.drewN_drewN]⟩
   have HK:Hid (∀nx,(wr.drewN nx).cell? (a.add i)=some (.int .i64 (K:Int))):=Qh fun nx=>by
    have:=(HI.out.below HR.out.2.2).cell a rfl i hlt;rw [hKf]at this;exact this
   have HD:Hid (IntKind.i64.wrap (16-(K:Int))=(D:Int)):=Qh (by rw [IntWalk.i64_in _ (by omega)];omega)
   have HM:Hid (min D 16=D∧min D 64=D∧(D:Int)≥0):=Qh (by omega)
   have HV:Hid ((Y:Int) /2^D=(V:Int)∧IntKind.i64.wrap (V:Int)=(V:Int)):=Qh ⟨by rw [hV,Int.natCast_ediv,Int.natCast_pow];rfl,IntWalk.i64_in _ (by omega)⟩
   have hiw:IntKind.i64.wrap ((i:Int)+1)=((i+1:Nat):Int):=by rw [IntWalk.i64_in _ (by omega)];rfl
   have HS:Hid (∀nx,Blk (((wr.drewN nx).setCell ⟨z,i*2,none⟩ (.int .i64 (V:Int))).setCell ⟨z,i*2+1,none⟩ (.int .i64 (K:Int))) z 106 (rI (n*2) (cdC (toL f) n (i+1)))∧IS (some a2) n c2 (fun i=>(Qa0 (toL f) n i:Int)) (((wr.drewN nx).setCell ⟨z,i*2,none⟩ (.int .i64 (V:Int))).setCell ⟨z,i*2+1,none⟩ (.int .i64 (K:Int)))∧Below w.heap.size w (((wr.drewN nx).setCell ⟨z,i*2,none⟩ (.int .i64 (V:Int))).setCell ⟨z,i*2+1,none⟩ (.int .i64 (K:Int)))):=Qh fun nx=>by
    have hne:a2.block≠z:=by have:=HP2.out a2 rfl;omega
    refine⟨?_,((HR.out.2.1.below (Qbu Qb nx)).set _ _ (fun b hb=>by cases hb;exact hne)).set _ _ (fun b hb=>by cases hb;exact hne),((Qbu HR.out.2.2 nx).setCell (p:=⟨z,i*2,none⟩) HZ0.out _).setCell (p:=⟨z,i*2+1,none⟩) HZ0.out _⟩
    have hb:Blk (wr.drewN nx) z 106 (rI (n*2) (cdC (toL f) n i)):=HR.out.1;refine((hb.put (show i*2<n*2 by omega) (.int .i64 (V:Int))).put (show i*2+1<n*2 by omega) (.int .i64 (K:Int))).cast_ (Qa3 fun j hj=> ?_)
    unfold cdC;by_cases e1:j=i*2+1
    ·rw [if_pos e1,if_pos (by omega),if_neg (by omega),show j /2=i by omega]
     show _=Value.int .i64 ((toL f i:Nat):Int)
     rw [hK]
    ·rw [if_neg e1];by_cases e2:j=i*2
     ·rw [if_pos e2,if_pos (by omega),if_pos (by omega),show j /2=i by omega]
      show _=Value.int .i64 ((revN (toL f i) (Qa0 (toL f) n i):Nat):Int)
      rw [hVr,hK,hC]
     ·rw [if_neg e2];by_cases e3:j /2<i
      ·rw [if_pos e3,if_pos (show j /2<i+1 by omega)]
      ·rw [if_neg e3,if_neg (show¬j /2<i+1 by omega)]
   have hzc:∀nx,(wr.drewN nx).cell? ⟨z,i*2,none⟩=some (.int .i64 (cdC (toL f) n i (i*2)))∧(wr.drewN nx).frozen? ⟨z,i*2,none⟩=false∧(wr.drewN nx).cell? ⟨z,i*2+1,none⟩=some (.int .i64 (cdC (toL f) n i (i*2+1)))∧(wr.drewN nx).frozen? ⟨z,i*2+1,none⟩=false:=fun nx=>by
    have hb:Blk (wr.drewN nx) z 106 (rI (n*2) (cdC (toL f) n i)):=HR.out.1;exact⟨hb.at_ (show i*2<n*2 by omega),hb.frozen _,hb.at_ (show i*2+1<n*2 by omega),hb.frozen _⟩
   have HZC:=Qh hzc;have HIN:=Qh hlt;clear hC hK hfi hKf hK15 hX hXl hY hYl hV hVr hVl hD hlt hzc HR;go_wp2_with fail;refine Qad (Two 18 1001 fun b _ wx=>(b=false→∃nx,wx=wr.drewN nx)∧(b=true→∃nx,wx=((wr.drewN nx).setCell ⟨z,i*2,none⟩ (.int .i64 (V:Int))).setCell ⟨z,i*2+1,none⟩ (.int .i64 (K:Int)))) (by kernel_rfl) ?_ ?_
   ·refine⟨fun _=>⟨1,rfl⟩,fun h=> ?_⟩;cases h
   refine Qaa (i:=0) (v:= .slice (some ⟨z,0,none⟩) n n) rfl (Qah (n:=19) rfl (fun f2 wx hT=> ?_)) ?_
   ·obtain⟨nx,hx⟩:=hT.1 rfl;subst hx;refine Qab (w:=wr.drewN nx) ?_ ⟨fun _=>⟨nx,rfl⟩,fun h=>by(cases h)⟩;go_simp;skip
   simp only [pu];refine Qaa (i:=1) (v:= .int .i64 (i:Int)) rfl (Qah (n:=19) rfl (fun f2 wx hT=> ?_)) ?_
   ·obtain⟨nx,hx⟩:=hT.1 rfl;subst hx;refine Qab (w:=wr.drewN nx) ?_ ⟨fun _=>⟨nx,rfl⟩,fun h=>by(cases h)⟩;go_simp;skip
   simp only [pu];refine Qaa (i:=2) (v:= .int .i64 (C:Int)) rfl (Qah (n:=19) rfl (fun f2 wx hT=> ?_)) ?_
   ·obtain⟨nx,hx⟩:=hT.1 rfl;subst hx;refine Qab (w:=wr.drewN nx) ?_ ⟨fun _=>⟨nx,rfl⟩,fun h=>by(cases h)⟩;go_simp;skip
   simp only [pu];refine Qaa (i:=3) (v:= .int .u16 (X:Int)) rfl (Qah (n:=19) rfl (fun f2 wx hT=> ?_)) ?_
   ·obtain⟨nx,hx⟩:=hT.1 rfl;subst hx;have cc:=HX.out;refine Qab (w:=wr.drewN nx) ?_ ⟨fun _=>⟨nx,rfl⟩,fun h=>by(cases h)⟩;go_simp;skip
   simp only [pu];refine Qaa (i:=4) (v:= .int .u16 (Y:Int)) rfl (Qah (n:=19) rfl (fun f2 wx hT=> ?_)) ?_
   ·obtain⟨nx,hx⟩:=hT.1 rfl;subst hx;refine Qao (f:=111) ((HC.out nx).mono fun e w' ⟨he,hq⟩=>⟨he,fun _=>hq,fun h=>by(cases h)⟩) ?_;go_simp;skip
   simp only [pu];refine Qaa (i:=5) (v:= .slice (some a) n cap) rfl (Qah (n:=19) rfl (fun f2 wx hT=> ?_)) ?_
   ·obtain⟨nx,hx⟩:=hT.1 rfl;subst hx;refine Qab (w:=wr.drewN nx) ?_ ⟨fun _=>⟨nx,rfl⟩,fun h=>by(cases h)⟩;go_simp;skip
   simp only [pu];refine Qaa (i:=6) (v:= .int .i64 (i:Int)) rfl (Qah (n:=19) rfl (fun f2 wx hT=> ?_)) ?_
   ·obtain⟨nx,hx⟩:=hT.1 rfl;subst hx;refine Qab (w:=wr.drewN nx) ?_ ⟨fun _=>⟨nx,rfl⟩,fun h=>by(cases h)⟩;go_simp;skip
   simp only [pu];refine Qaa (i:=7) (v:= .pointer (some (a.add i))) rfl (Qah (n:=19) rfl (fun f2 wx hT=> ?_)) ?_
   ·obtain⟨nx,hx⟩:=hT.1 rfl;subst hx;refine Qab (w:=wr.drewN nx) ?_ ⟨fun _=>⟨nx,rfl⟩,fun h=>by(cases h)⟩;go_simp;skip
   simp only [pu];refine Qaa (i:=8) (v:= .int .i64 (K:Int)) rfl (Qah (n:=19) rfl (fun f2 wx hT=> ?_)) ?_
   ·obtain⟨nx,hx⟩:=hT.1 rfl;subst hx;have cc:=HK.out nx;refine Qab (w:=wr.drewN nx) ?_ ⟨fun _=>⟨nx,rfl⟩,fun h=>by(cases h)⟩;go_simp;skip
   simp only [pu];refine Qaa (i:=9) (v:= .int .i64 (D:Int)) rfl (Qah (n:=19) rfl (fun f2 wx hT=> ?_)) ?_
   ·obtain⟨nx,hx⟩:=hT.1 rfl;subst hx;have cc:=HD.out;refine Qab (w:=wr.drewN nx) ?_ ⟨fun _=>⟨nx,rfl⟩,fun h=>by(cases h)⟩;go_simp;skip
   simp only [pu];refine Qaa (i:=10) (v:= .int .u16 (V:Int)) rfl (Qah (n:=19) rfl (fun f2 wx hT=> ?_)) ?_
   ·obtain⟨nx,hx⟩:=hT.1 rfl;subst hx;have cc:=HV.out.1;have c2:=HV.out.2;have cm:=HM.out;refine Qab (w:=wr.drewN nx) ?_ ⟨fun _=>⟨nx,rfl⟩,fun h=>by(cases h)⟩;go_simp;skip
   simp only [pu];refine Qaa (i:=11) (v:= .int .i64 (V:Int)) rfl (Qah (n:=19) rfl (fun f2 wx hT=> ?_)) ?_
   ·obtain⟨nx,hx⟩:=hT.1 rfl;subst hx;have cc:=HV.out.2;refine Qab (w:=wr.drewN nx) ?_ ⟨fun _=>⟨nx,rfl⟩,fun h=>by(cases h)⟩;go_simp;skip
   simp only [pu];refine Qaa (i:=12) (v:= .slice (some a) n cap) rfl (Qah (n:=19) rfl (fun f2 wx hT=> ?_)) ?_
   ·obtain⟨nx,hx⟩:=hT.1 rfl;subst hx;refine Qab (w:=wr.drewN nx) ?_ ⟨fun _=>⟨nx,rfl⟩,fun h=>by(cases h)⟩;go_simp;skip
   simp only [pu];refine Qaa (i:=13) (v:= .int .i64 (i:Int)) rfl (Qah (n:=19) rfl (fun f2 wx hT=> ?_)) ?_
   ·obtain⟨nx,hx⟩:=hT.1 rfl;subst hx;refine Qab (w:=wr.drewN nx) ?_ ⟨fun _=>⟨nx,rfl⟩,fun h=>by(cases h)⟩;go_simp;skip
   simp only [pu];refine Qaa (i:=14) (v:= .pointer (some (a.add i))) rfl (Qah (n:=19) rfl (fun f2 wx hT=> ?_)) ?_
   ·obtain⟨nx,hx⟩:=hT.1 rfl;subst hx;refine Qab (w:=wr.drewN nx) ?_ ⟨fun _=>⟨nx,rfl⟩,fun h=>by(cases h)⟩;go_simp;skip
   simp only [pu];refine Qaa (i:=15) (v:= .int .i64 (K:Int)) rfl (Qah (n:=19) rfl (fun f2 wx hT=> ?_)) ?_
   ·obtain⟨nx,hx⟩:=hT.1 rfl;subst hx;have cc:=HK.out nx;refine Qab (w:=wr.drewN nx) ?_ ⟨fun _=>⟨nx,rfl⟩,fun h=>by(cases h)⟩;go_simp;skip
   simp only [pu];refine Qaa (i:=16) (v:= .agg #[.int .i64 (V:Int),.int .i64 (K:Int)]) rfl (Qah (n:=19) rfl (fun f2 wx hT=> ?_)) ?_
   ·obtain⟨nx,hx⟩:=hT.1 rfl;subst hx;refine Qab (w:=wr.drewN nx) ?_ ⟨fun _=>⟨nx,rfl⟩,fun h=>by(cases h)⟩;go_simp;skip
   simp only [pu];refine Qaa (i:=17) (v:= .pointer (some ⟨z,i*2,none⟩)) rfl (Qah (n:=19) rfl (fun f2 wx hT=> ?_)) ?_
   ·obtain⟨nx,hx⟩:=hT.1 rfl;subst hx;refine Qab (w:=wr.drewN nx) ?_ ⟨fun _=>⟨nx,rfl⟩,fun h=>by(cases h)⟩;go_simp;skip
   simp only [pu];refine Qaa (i:=18) (v:=undef) rfl (Qa5 (by decide) rfl (fun f2 wx hT=> ?_)) ?_
   ·obtain⟨nx,hx⟩:=hT.1 rfl;subst hx;obtain⟨c0,f0,c1,f1⟩:=HZC.out nx;go_simp;exact⟨rfl,nx,rfl⟩
   simp only [pu];refine Qag rfl ?_ _;intro w9 hT9;obtain⟨nx,rfl⟩:=hT9.2 rfl;have H9:=Qh (HS.out nx);generalize ((wr.drewN nx).setCell ⟨z,i*2,none⟩ (.int .i64 (V:Int))).setCell ⟨z,i*2+1,none⟩ (.int .i64 (K:Int))=w9 at H9⊢;clear hT9 HS HZC;go_wp2_with fail;exact⟨⟨i+1,by have:=HIN.out;omega,by go_num,H9⟩,by simp only [intOf];have:=HIN.out;omega⟩
  ·obtain rfl:i=n:=by omega
   have hlti:¬(i:Int)<(i:Int):=by omega
   go_wp2_with fail;go_ret;exact⟨z,rfl,HR.out.1,HR.out.2.2,HZ0.out⟩
theorem Qhx (n:Nat):Builtin.zeroCells (Value.cells (.agg #[.int .i64 0,.int .i64 0])) n=(List.replicate (n*2) (Value.int .i64 0)).toArray:=by
 apply Array.ext_getElem?
 intro i;unfold Builtin.zeroCells;by_cases h:i<n*2
 ·rcases(show i%2=0∨i%2=1 by omega)with e2|e2<;>simp [h,Value.cells,e2]
 ·simp [h,Value.cells]
theorem RS.flat {z:Nat} {a:Addr} {n cap:Nat} {l:List (List Value)} {w:World} (h:RS z (some a) n cap l w) (j:Nat) (u:Value) (hu:l.flatten[j]? =some u):w.cell? (a.add j)=some u:=by
 have hz:0<z:=by
  rcases Nat.eq_zero_or_pos z with e|e
  ·subst e;have hl:=h.each.len;rw [Nat.mul_zero]at hl;rw [List.eq_nil_of_length_eq_zero hl]at hu;cases hu
  ·exact e
 have hj:j<l.flatten.length:=(List.getElem?_eq_some_iff.1 hu).1;rw [h.each.len]at hj;have hi:j /z<l.length:=Nat.div_lt_of_lt_mul (by rw [Nat.mul_comm];exact hj)
 have hd:j /z*z+j%z=j:=by rw [Nat.mul_comm];exact Nat.div_add_mod j z
 have e:=Qh5 (fun x hx=>(h.each x hx).1) (j /z) (j%z) hi (Nat.mod_lt _ hz);rw [hd,hu]at e;have:=h.cell a rfl (j /z) hi (j%z) u e.symm;rw [hd]at this;exact this
theorem Qu8 (n:Nat) (h1:1≤n) (hn:n≤2000) (w:World):
  Calls Tryz.prog 109 #[.slice none 0 0,.int .i64 (n:Int)] w fun e w'=>∃v,e= .returned v∧LS 106 2 w.heap.size w [] v w':=by
 obtain⟨i0,hi,hz0,hz1,hz2⟩:=info_parts Qus;have hneg:¬(n:Int)<0:=by omega
 have hpos:(n:Int)>0:=by omega
 have hw:IntKind.i64.wrap (n:Int)=(n:Int):=IntWalk.i64_in _ (by omega)
 have hap:=Go.Lib.run_append_grow_zeros (P:=Tryz.prog) w 53 3 53 106 i0 (.agg #[.int .i64 0,.int .i64 0]) .i64 .i64 ((show Tryz.prog.underlying 53=Tryz.prog.underlying 52 from rfl).trans Tryz.underlying52) Tryz.underlying3 hi hz0 none 0 0 [] (run_firstCells_none w.drew i0.size 0 0 0) n (by omega) (by rw [hz1];decide) (by omega) (by omega) (by rw [hz2];omega) (by
  rw [hz2];unfold Builtin.nextslicecap;rw [if_pos (by omega)];omega)
 obtain⟨C,hC⟩:∃C,C=grownCap w (0+n) 0 106:=⟨_,rfl⟩;have hC1:n≤C:=by have:=grownCap_ge w (0+n) 0 106;rw [hC];omega
 have hC2:C≤maxLen:=by rw [hC];exact grownCap_le_maxLen w (0+n) 0 106 (by unfold maxLen;omega)
 rw [←hC]at hap;have e0:(#[]++Builtin.zeroCells (Value.agg #[.int .i64 0,.int .i64 0]).cells n++Builtin.zeroCells (Value.agg #[.int .i64 0,.int .i64 0]).cells (C-(0+n)):Array Value)=rI (C*2) fun _=>0:=by
  rw [Qhx,Qhx]
  apply Array.ext_getElem?
  intro i;by_cases h:i<C*2
  ·have e2:=Qeu (fun i=>Value.int .i64 ((fun _=>(0:Int)) i)) h;rw [e2];simp only [List.append_toArray,List.getElem?_toArray,List.nil_append];by_cases h2:i<n*2
   ·rw [List.getElem?_append_left (by rw [List.length_replicate];exact h2),List.getElem?_replicate,if_pos h2]
   ·rw [List.getElem?_append_right (by rw [List.length_replicate];omega),List.length_replicate,List.getElem?_replicate,if_pos (by omega)]
  ·rw [Array.getElem?_eq_none (by simp;omega),Array.getElem?_eq_none (by rw [Qbb];omega)]
 rw [e0]at hap;have HAP:Hid (∀(o:Oper) (a:Act),o.op= .call {callee:= .builtin .append,args:=#[.tmp 20,.tmp 21],argTypes:=#[53,3]}→o.type=53→a.eval (.tmp 20)= .slice none 0 0→a.eval (.tmp 21)= .int .i64 (n:Int)→
   Qbv Tryz.prog (fun w'=>w'=w.drew.alloc (.cells (rI (C*2) fun _=>0) 106)) (.slice (some ⟨w.heap.size,0,none⟩) n C) ((execOp a.eval o).run Tryz.prog w)):=Qh fun o a ho ht h20 h21=>by
  have:(execOp a.eval o).run Tryz.prog w= .ok (.value (.slice (some ⟨w.heap.size,0,none⟩) n C)) (w.drew.alloc (.cells (rI (C*2) fun _=>0) 106)):=by
   unfold execOp;simp only [ho,ht,resolve,invoke,builtin,Sem.run_bind,Sem.run_pure,Result.andThen_ok,List.map_toArray,List.map_cons,List.map_nil,h20,h21,hap,Nat.zero_add]
  rw [this];exact⟨rfl,rfl⟩
 have HC:=Qh (⟨hC1,hC2⟩:n≤C∧C≤maxLen);have hb:=(Below.refl w.heap.size w).drew.alloc Ql (.cells (rI (C*2) fun _=>0) 106);have HB:=Qh (⟨hb,Blk.new w.drew 106 (rI (C*2) fun _=>0)⟩:Below w.heap.size w (w.drew.alloc (.cells (rI (C*2) fun _=>0) 106))∧Blk (w.drew.alloc (.cells (rI (C*2) fun _=>0) 106)) w.heap.size 106 (rI (C*2) fun _=>0));clear hap e0 hC hi hz0 hz1 hz2 hb h1 hn hC1 hC2;go_enter Tryz.func109,Tryz.ntmps109;go_wp2_with (refine Qav (.slice (some ⟨w.heap.size,0,none⟩) n C) rfl (HAP.out _ _ rfl rfl rfl rfl) ?_;rintro _ rfl;simp only [pu]);go_ret;refine⟨_,rfl,⟨rfl,.inr ⟨w.heap.size,C,rI (C*2) fun _=>0,rfl,Ql,HB.out.2,Nat.zero_le _,HC.out.2,by rw [Qbb],rfl⟩⟩,fun _ h=>(by cases h),HB.out.1,HB.out.1.size⟩
def catN (ll:Nat→List (List Value)):Nat→List (List Value)
 |0=>[]
 |k+1=>catN ll k++ll k
theorem Qlz {nn:Nat→Nat} {ll:Nat→List (List Value)} (h:∀i,i<2→(ll i).length=nn i):∀k,k≤2→(catN ll k).length=sumN nn k
 |0,_=>rfl
 |k+1,hk=>by
  show(catN ll k++ll k).length=sumN nn k+nn k
  rw [List.length_append,Qlz h k (by omega),h k (by omega)]
theorem Qpy (q:Nat) (zz nn cc:Nat→Nat) (ll:Nat→List (List Value)) (w:World) (h:Blk w q 53 (row 2 fun i=> .slice (some ⟨zz i,0,none⟩) (nn i) (cc i))) (hb:∀i,i<2→RS 2 (some ⟨zz i,0,none⟩) (nn i) (cc i) (ll i) w∧zz i<w.heap.size) (hn:∀i,nn i≤400) (h1:1≤nn 0) (h2:1≤nn 1):
  Calls Tryz.prog 77 #[.slice (some ⟨q,0,none⟩) 2 2] w fun e w'=>∃v,e= .returned v∧LS 106 2 w.heap.size w (catN ll 2) v w':=by
 have HC:Hid (∀k,k<2→∀wx,Below w.heap.size w wx→wx.cell? ⟨q,k,none⟩=some (.slice (some ⟨zz k,0,none⟩) (nn k) (cc k))):=Qh fun k hk wx hx=>(h.below hx h.lt).at_ hk;have HB:Hid (∀k,k<2→∀wx,Below w.heap.size w wx→RS 2 (some ⟨zz k,0,none⟩) (nn k) (cc k) (ll k) wx):=Qh fun k hk wx hx=>(hb k hk).1.below hx;have HS:Hid (1≤sumN nn 2∧sumN nn 2≤800):=Qh ⟨by show 1≤0+nn 0+nn 1;omega,Qfg hn 2⟩
 have HLN:Hid (∀i,i<2→(ll i).length=nn i):=Qh fun i hi=>(hb i hi).1.len;have HN1:Hid (∀k,k<2→0<nn k):=Qh fun k hk=>by rcases(show k=0∨k=1 by omega)with rfl|rfl<;>assumption
 have HN:=Qh hn;clear h hb hn h1 h2;go_enter Tryz.func77,Tryz.ntmps77;go_wp2_with fail;go_loopw [3,11] (fun s i wr=>∃k:Nat,k≤2∧s= .int .i64 (sumN nn k:Int)∧i= .int .i64 (k:Int)∧w=wr) (fun _ i _=>2-(intOf i).toNat)
 case atStart=>exact⟨0,by omega,rfl,rfl,rfl⟩
 case round=>
  obtain⟨k,hk,rfl,rfl,rfl⟩:=hrel;by_cases hlt:k<2
  ·have hki:(k:Int)<2:=by omega
   have c0:=HC.out k hlt w Qb;have hl:=HN.out k;have hs:=Qfg HN.out k;have hw:IntKind.i64.wrap ((sumN nn k:Int)+(nn k:Int))=(sumN nn (k+1):Int):=by
    rw [IntWalk.i64_in _ (by omega)];show _=((sumN nn k+nn k:Nat):Int);omega
   have hneg:¬((sumN nn (k+1):Nat):Int)<0:=by omega
   clear hl hs;obtain⟨Z,hZ⟩:∃Z,Z=sumN nn (k+1):=⟨_,rfl⟩;rw [←hZ]at hw hneg;have HZ:=Qh hZ;clear hZ;generalize sumN nn k=Y at hw⊢;generalize nn k=X at c0 hw⊢;go_wp2_with fail;go_roundw
   case rel=>exact⟨k+1,by omega,by rw [HZ.out],by go_num,by trivial⟩
   case measure=>simp only [intOf];omega
  ·obtain rfl:k=2:=by omega
   have hki:¬(((2:Nat):Int))<2:=by omega
   have G:=Qu8 (sumN nn 2) HS.out.1 (by have:=HS.out;omega) w
   go_wp2_with fail;refine G.mono ?_;rintro e w1 ⟨v,rfl,hL⟩;have HL:Hid (LS 106 2 w.heap.size w (catN ll 0) v w1):=Qh hL;clear G hL;go_wp2_with fail;go_loopw [6,27] (fun v i wr=>∃k:Nat,k≤2∧i= .int .i64 (k:Int)∧Hid (LS 106 2 w.heap.size w (catN ll k) v wr)) (fun _ i _=>2-(intOf i).toNat)
   case atStart=>exact⟨0,by omega,rfl,HL⟩
   case round=>
    obtain⟨k,hk,rfl,HL2⟩:=hrel;clear HL;by_cases hlt:k<2
    ·have hki:(k:Int)<2:=by omega
     have c0:=HC.out k hlt _ HL2.out.b;have HBK:=Qh (HB.out k hlt _ HL2.out.b);have HLen:Hid ((catN ll k).length+nn k≤1000000):=Qh (by rw [Qlz HLN.out k hk];have:=Qfg HN.out k;have:=HN.out k;omega)
     have HKK:=Qh hlt;clear hlt;go_wp2_with (at_builtin;refine Qc9 rfl (.tmp 31) (.tmp 32) 53 rfl rfl rfl HL2.out ⟨zz k,0,none⟩ (nn k) (cc k) (ll k) rfl HBK.out.len HBK.out.each (fun j u hu=>HBK.out.flat j u hu) (HN1.out k HKK.out) (by have:=HLen.out;omega) ?_;intro v2 w2 h2 h3)
     go_roundw
     case rel=>exact⟨k+1,by have:=HKK.out;omega,by go_num,Qh h2⟩
     case measure=>simp only [intOf];omega
    ·obtain rfl:k=2:=by omega
     have hki:¬(((2:Nat):Int))<2:=by omega
     go_wp2_with fail;go_ret;exact⟨_,rfl,HL2.out⟩
end Go.Proofs.YtbmcjdoiohcaaaaGreat
