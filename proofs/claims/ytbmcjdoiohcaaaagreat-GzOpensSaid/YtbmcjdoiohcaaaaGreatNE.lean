/- NE -/
import Derived.Test.YtbmcjdoiohcaaaaGreatNB
import Derived.Test.YtbmcjdoiohcaaaaGreatMF
import Derived.Laws.BitsAllLaws
set_option maxRecDepth 100000
set_option maxHeartbeats 16000000
namespace Go.Proofs.YtbmcjdoiohcaaaaGreat
open Go.RowKit
def Qaj:List (Nat×Nat)→Nat
 |[]=>0
 |x::r=>x.2+Qaj r
def valN:List (Nat×Nat)→Nat
 |[]=>0
 |x::r=>x.1+2^x.2*valN r
theorem Qa6 (a b:List (Nat×Nat)):Qaj (a++b)=Qaj a+Qaj b:=by
 induction a with
 |nil=>show Qaj b=0+Qaj b;omega
 |cons x a ih=>show x.2+Qaj (a++b)=x.2+Qaj a+Qaj b;rw [ih];omega
theorem Qco (a b:List (Nat×Nat)):valN (a++b)=valN a+2^Qaj a*valN b:=by
 induction a with
 |nil=>show valN b=0+2^0*valN b;omega
 |cons x a ih=>
  show x.1+2^x.2*valN (a++b)=x.1+2^x.2*valN a+2^(x.2+Qaj a)*valN b
  rw [ih,Nat.mul_add,Nat.pow_add,Nat.mul_assoc,Nat.add_assoc]
def FitN (l:List (Nat×Nat)):Prop:=∀x∈l,x.1<2^x.2∧x.2≤16
theorem FitN.app {a b:List (Nat×Nat)} (h:FitN a) (k:FitN b):FitN (a++b):=fun x hx=>by
 rcases List.mem_append.1 hx with hx|hx
 ·exact h x hx
 ·exact k x hx
theorem Qg4 {l:List (Nat×Nat)} (h:FitN l):Qaj l≤16*l.length:=by
 induction l with
 |nil=>exact Nat.zero_le _
 |cons x l ih=>
  have h1:=(h x (.head _)).2;have:=ih fun y hy=>h y (.tail _ hy);show x.2+Qaj l≤16*(l.length+1);omega
def encP (x:Nat×Nat):List Value:=encN (x.1:Int) (x.2:Int)
theorem Qdc:(Tryz.prog.info? 106).map (·.size)=some 2:=by kernel_rfl
theorem Qgk (a b:Int):(#[Value.int .i64 a,Value.int .i64 b]:Array Value).all (·.oneCell')=true:=by kernel_rfl
theorem Qk3 (l:List (Nat×Nat)) (k:Nat) (h:k<l.length):Qaj (l.take (k+1))=Qaj (l.take k)+l[k].2:=by
 rw [List.take_succ_eq_append_getElem h,Qa6];show _+(l[k].2+0)=_;omega
theorem Qgg (p:Option Addr) (n cap:Nat) (l:List (Nat×Nat)) (w:World) (h:RS 2 p n cap (l.map encP) w) (hf:FitN l) (hn:n≤1000000000):
  Calls Tryz.prog 52 #[.slice p n cap] w fun e w'=>e= .returned (.int .i64 (Qaj l:Int))∧Below w.heap.size w w':=by
 have hlen:l.length=n:=by have:=h.len;rwa [List.length_map]at this
 have HB:Hid (∀k,Qaj (l.take k)≤16000000000):=Qh fun k=>by
  have:=Qg4 (l:=l.take k) (fun x hx=>hf x (List.mem_of_mem_take hx));have:=List.length_take_le k l;have:(l.take k).length≤l.length:=List.length_take_le' k l;omega
 have HF:=Qh hf;have HR:=Qh h;have HLN:=Qh hlen;clear hf h hlen;go_enter Tryz.func52,Tryz.ntmps52;go_wp2_with fail;go_loopw [3,8] (fun s u wr=>∃k:Nat,s= .int .i64 (Qaj (l.take k):Int)∧u= .int .i64 (k:Int)∧k≤n∧Hid (Below w.heap.size w wr)) (fun _ u _=>n-(intOf u).toNat)
 case atStart=>exact⟨0,rfl,rfl,Nat.zero_le _,Qh Qb⟩
 case round=>
  obtain⟨k,rfl,rfl,hk,HW⟩:=hrel;by_cases hlt:k<n
  ·have hlti:(k:Int)<(n:Int):=by omega
   obtain⟨a,rfl⟩:=HR.out.some_ (by omega)
   have hkl:k<l.length:=by rw [HLN.out];exact hlt
   obtain⟨⟨v,b⟩,hx⟩:∃x,x=l[k]'hkl:=⟨_,rfl⟩;have hget:(l.map encP)[k]? =some [.int .i64 (v:Int),.int .i64 (b:Int)]:=by
    rw [List.getElem?_map,List.getElem?_eq_getElem hkl,←hx];rfl
   obtain⟨c0,c1⟩:=(HR.out.below HW.out).at2 hget;have HS:Hid (Qaj (l.take (k+1))=Qaj (l.take k)+b):=Qh (by rw [Qk3 l k hkl,←hx])
   have hsb:Qaj (l.take k)+b≤16000000000:=by have:=HB.out (k+1);rw [HS.out]at this;exact this
   have hw:IntKind.i64.wrap ((Qaj (l.take k):Int)+(b:Int))=((Qaj (l.take k)+b:Nat):Int):=by rw [IntWalk.i64_in _ (by omega)];rfl
   have hkw:IntKind.i64.wrap ((k:Int)+1)=((k+1:Nat):Int):=by rw [IntWalk.i64_in _ (by omega)];rfl
   have HZ:=Qh (Blk.new wr 106 #[.int .i64 0,.int .i64 0]);have HZ2:=HZ.out.row_ #[.int .i64 (v:Int),.int .i64 (b:Int)];have HB2:=Qh (Qai (HW.out.alloc HW.out.size (.cells #[.int .i64 0,.int .i64 0] 106)) HW.out.size #[.int .i64 (v:Int),.int .i64 (b:Int)]);have HSZ:=Qh Qdc;obtain⟨W2,hW2⟩:∃W2,W2=(wr.alloc (.cells #[.int .i64 0,.int .i64 0] 106)).setRow wr.heap.size #[.int .i64 (v:Int),.int .i64 (b:Int)]:=⟨_,rfl⟩;rw [←hW2]at HZ2 HB2;have HWE:=Qh hW2;have d1:W2.cell? ⟨wr.heap.size,1,none⟩=some (.int .i64 (b:Int)):=HZ2.cell 1;have HKN:=Qh hlt;clear hx hget hkl hW2 HZ2 hsb hlt HW;generalize Qaj (l.take k)=sk at*;go_wp2_with (refine wpList_store_row rfl 106 _ _ rfl wr.heap.size #[.int .i64 (v:Int),.int .i64 (b:Int)] rfl rfl 106 _ HZ.out HSZ.out rfl (Qgk _ _) ?_;rw [←HWE.out]);exact⟨⟨k+1,by rw [HS.out];go_num,by go_num,by have:=HKN.out;omega,HB2⟩,by simp only [intOf];have:=HKN.out;omega⟩
  ·obtain rfl:k=n:=by omega
   have hlti:¬(k:Int)<(k:Int):=by omega
   have HE:Hid (l.take k=l):=Qh (List.take_of_length_le (by rw [HLN.out];exact Ql))
   go_wp2_with fail;go_ret;rw [HE.out];exact⟨rfl,HW.out⟩
def byN (N c:Nat):List Value:=(List.range c).map fun i=>Value.int .u8 ((N /256^i%256:Nat):Int)
theorem Qqw (N c:Nat):byN N (c+1)=byN N c++[Value.int .u8 ((N /256^c%256:Nat):Int)]:=by unfold byN;rw [List.range_succ,List.map_append];rfl
theorem Qxc {N M c:Nat} (h:∀i,i<c→N /256^i%256=M /256^i%256):byN N c=byN M c:=by
 unfold byN
 apply List.map_congr_left
 intro i hi;rw [h i (List.mem_range.1 hi)]
structure BP (g:Nat) (fx:Value) (N c h:Nat) (v:Value) (w:World):Prop where
 blk:Blk w g 59 #[v,.int .u64 ((N /256^c:Nat):Int),.int .i64 (h:Int),fx]
 own:w.ownsRow (g+1) 5 1 v c (byN N c)
 lt:N<2^(8*c+h)
structure Gg (g:Nat) (v:Value) (w:World) (v':Value) (w':World):Prop where
 os:w'.os=w.os
 tape:w'.tape=w.tape
 output:w'.output=w.output
 size:w.heap.size≤w'.heap.size
 block:∀i,i<w.heap.size→i≠g→v.ownBlock≠some i→w'.heap[i]? =w.heap[i]?
 own:∀i,v'.ownBlock=some i→v.ownBlock=some i∨w.heap.size≤i
section
variable {g:Nat} {v v1 v2 fx:Value} {w w1 w2:World} {N c h:Nat}
theorem Gg.refl (g:Nat) (v:Value) (w:World):Gg g v w v w:=⟨rfl,rfl,rfl,Ql,fun _ _ _ _=>rfl,fun _ h=> .inl h⟩
theorem Gg.of (hb:Below w.heap.size w w1):Gg g v w v w1:=⟨hb.os,hb.tape,hb.output,hb.size,fun i hi _ _=>hb.block i hi,fun _ h=> .inl h⟩
theorem Gg.trans (h:Gg g v w v1 w1) (k:Gg g v1 w1 v2 w2):Gg g v w v2 w2:=
 ⟨k.os.trans h.os,k.tape.trans h.tape,k.output.trans h.output,Nat.le_trans h.size k.size,fun i hi hg hv=>(k.block i (Nat.lt_of_lt_of_le hi h.size) hg (fun e=>by
  rcases h.own i e with h1|h1
  ·exact hv h1
  ·omega)).trans (h.block i hi hg hv),fun i e=>by
  rcases k.own i e with h1|h1
  ·exact h.own i h1
  ·right;have:=h.size;omega⟩
theorem Gg.set (h:Gg g v w v1 w1) (j:Nat) (u:Value):Gg g v w v1 (w1.setCell ⟨g,j,none⟩ u):=
 ⟨h.os,h.tape,h.output,by simp [World.setCell];exact h.size,fun i hi hg hv=>(Below.heap_setCell w1 ⟨g,j,none⟩ u i (show i≠g from hg)).trans (h.block i hi hg hv),h.own⟩
theorem Gg.drew (h:Gg g v w v1 w1):Gg g v w v1 w1.drew:=⟨h.os,h.tape,h.output,h.size,h.block,h.own⟩
theorem RS.gg {z:Nat} {p:Option Addr} {n cap:Nat} {l:List (List Value)} (h:RS z p n cap l w) (hg:Gg g v w v1 w1) (hp:∀a,p=some a→a.block≠g∧v.ownBlock≠some a.block):RS z p n cap l w1:=
 ⟨h.len,h.each,h.nil_,h.le,h.mx,fun a ha i hi j u hu=>by
  have hl:=h.lt a ha;have:(a.add (i*z+j)).block=a.block:=by unfold Addr.add;split<;>rfl
  rw [World.cell?_of_block (a:=a.add (i*z+j)) (w:=w) (by rw [this];exact hg.block _ hl (hp a ha).1 (hp a ha).2)];exact h.cell a ha i hi j u hu,fun a ha=>Nat.lt_of_lt_of_le (h.lt a ha) hg.size⟩
theorem BP.keep (h0:BP g fx N c h v w) (e1:w1.heap[g]? =w.heap[g]?) (e2:∀i,v.ownBlock=some i→w1.heap[i]? =w.heap[i]?):BP g fx N c h v w1:=by
 refine⟨e1.trans h0.blk,⟨h0.own.1,?_⟩,h0.lt⟩;rcases h0.own.2 with h1|⟨q,cap,cur,h1,h2,h3,h4⟩
 ·exact .inl h1
 ·exact .inr ⟨q,cap,cur,h1,h2,(e2 q (by rw [h1];rfl)).trans h3,h4⟩
theorem BP.ownB (h0:BP g fx N c h v w):∀i,v.ownBlock=some i→g+1≤i∧i<w.heap.size:=World.ownsRow.lt h0.own
theorem BP.below (h0:BP g fx N c h v w) (hb:Below w.heap.size w w1):BP g fx N c h v w1:=h0.keep (hb.block g h0.blk.lt) fun i e=>hb.block i (h0.ownB i e).2
end
theorem Qfy (c:Nat):256^c=2^(8*c):=by rw [show (256:Nat)=2^8 from rfl,←Nat.pow_mul]
theorem Qda (g:Nat) (fx:Value) (N c h:Nat) (v:Value) (p:Option Addr) (m cap:Nat) (l:List (Nat×Nat)) (w:World) (h0:BP g fx N c h v w) (hh:h<8) (hr:RS 2 p m cap (l.map encP) w) (hp:∀a,p=some a→a.block≠g∧v.ownBlock≠some a.block) (hf:FitN l) (hm:m≤1000000000) (hc:c≤100000000000):
  Calls Tryz.prog 55 #[.pointer (some ⟨g,0,none⟩),.slice p m cap] w fun e w'=>e= .returned (.tuple #[])∧∃v' c' h',h'<8∧8*c'+h'=8*c+h+Qaj l∧BP g fx (N+2^(8*c+h)*valN l) c' h' v' w'∧Gg g v w v' w':=by
 have hlen:l.length=m:=by have:=hr.len;rwa [List.length_map]at this
 have HLN:=Qh hlen;have HF:=Qh hf;have HP:=Qh hp;have HM:=Qh hm;have HCC:=Qh hc;have HBL:Hid (∀k,Qaj (l.take k)≤16000000000):=Qh fun k=>by
  have:=Qg4 (l:=l.take k) (fun x hx=>hf x (List.mem_of_mem_take hx));have:(l.take k).length≤l.length:=List.length_take_le' k l;omega
 have HAPL:Hid (∀a,p=some a→a.block<w.heap.size):=Qh hr.lt;have H0:=Qh (⟨h0,Gg.refl g v w,hr⟩:BP g fx N c h v w∧Gg g v w v w∧RS 2 p m cap (l.map encP) w);clear h0 hr hf hp hlen;go_enter Tryz.func55,Tryz.ntmps55;go_wp2_with fail;go_loopw [8] (fun u wr=>∃(k c1 h1:Nat) (v1:Value),u= .int .i64 (k:Int)∧k≤m∧h1<8∧Hid (8*c1+h1=8*c+h+Qaj (l.take k))∧Hid (BP g fx (N+2^(8*c+h)*valN (l.take k)) c1 h1 v1 wr∧Gg g v w v1 wr∧RS 2 p m cap (l.map encP) wr)) (fun u _=>m-(intOf u).toNat)
 case atStart=>exact⟨0,c,h,v,rfl,Nat.zero_le _,hh,Qh rfl,Qh (by simpa [valN]using H0.out)⟩
 case round=>
  obtain⟨k,c1,h1,v1,rfl,hk,hh1,HCH,HR⟩:=hrel;clear H0;by_cases hlt:k<m
  ·have hlti:(k:Int)<(m:Int):=by omega
   obtain⟨ap,rfl⟩:=HR.out.2.2.some_ (by omega)
   have hkl:k<l.length:=by rw [HLN.out];exact hlt
   obtain⟨⟨x,b⟩,hx⟩:∃x,x=l[k]'hkl:=⟨_,rfl⟩;have hget:(l.map encP)[k]? =some [.int .i64 (x:Int),.int .i64 (b:Int)]:=by
    rw [List.getElem?_map,List.getElem?_eq_getElem hkl,←hx];rfl
   obtain⟨c0,c0b⟩:=HR.out.2.2.at2 hget;have hfx:x<2^b∧b≤16:=HF.out (x,b) (by rw [hx];exact List.getElem_mem hkl)
   obtain⟨M0,hM0⟩:∃M0,M0=N+2^(8*c+h)*valN (l.take k):=⟨_,rfl⟩;rw [←hM0]at HR;obtain⟨N1,hN1⟩:∃N1,N1=M0+256^c1*(x*2^h1):=⟨_,rfl⟩;have HBT:Hid (Qaj (l.take (k+1))=Qaj (l.take k)+b):=Qh (by rw [Qk3 l k hkl,←hx])
   have hpw:2^(8*c+h)*2^Qaj (l.take k)=256^c1*2^h1:=by rw [←Nat.pow_add,←HCH.out,Nat.pow_add,Qfy]
   have HNX:Hid (N1=N+2^(8*c+h)*valN (l.take (k+1))):=Qh (by
    rw [hN1,hM0,List.take_succ_eq_append_getElem hkl,Qco,←hx,show valN [(x,b)]=x from by simp [valN],Nat.mul_add,←Nat.mul_assoc (2^(8*c+h)),hpw,Nat.add_assoc,Nat.mul_comm x,Nat.mul_assoc (256^c1)])
   have hMl:=HR.out.1.lt;have h256:0<256^c1:=Nat.pow_pos (by decide)
   obtain⟨r,hrr⟩:∃r,r=M0 /256^c1:=⟨_,rfl⟩;have hrl:r<2^h1:=by
    rw [hrr,Nat.div_lt_iff_lt_mul h256,Qfy,←Nat.pow_add,Nat.add_comm h1];exact hMl
   obtain⟨r2,hr2⟩:∃r2,r2=r+2^h1*x:=⟨_,rfl⟩;have hN1r:N1 /256^c1=r2:=by rw [hN1,Nat.add_mul_div_left _ _ h256,hr2,hrr,Nat.mul_comm x]
   have hp7:2^h1≤2^7:=Nat.pow_le_pow_right (by decide) (by omega)
   have hp16:2^b≤2^16:=Nat.pow_le_pow_right (by decide) hfx.2
   have hxx:2^h1*x≤2^7*65536:=Nat.mul_le_mul hp7 (by omega)
   have hr2b:r2<2^(h1+b):=by
    have h3:2^h1*(x+1)≤2^h1*2^b:=Nat.mul_le_mul_left _ hfx.1;rw [Nat.pow_add];rw [Nat.mul_add,Nat.mul_one]at h3;omega
   have HXU:Hid (IntKind.u64.wrap (x:Int)=(x:Int)):=Qh (by rw [IntKind.wrap_u64];omega)
   have HMN:Hid (min h1 64=h1):=Qh (by omega)
   have HSH:Hid (IntKind.u64.wrap ((x:Int)*2^h1)=(x:Int)*2^h1):=Qh (by
    have e:(x:Int)*2^h1=((x*2^h1:Nat):Int):=by rw [Int.natCast_mul,Int.natCast_pow];rfl
    rw [e,IntKind.wrap_u64];rw [Nat.mul_comm]at hxx;omega)
   have HOR:Hid (bits .or .u64 (r:Int) ((x:Int)*2^h1)=(r2:Int)):=Qh (by
    have e:(x:Int)*2^h1=((x*2^h1:Nat):Int):=by rw [Int.natCast_mul,Int.natCast_pow];rfl
    rw [e,Nat.mul_comm x,u64_or_nat _ _ (by omega) (by omega),Nat.or_comm,←Nat.two_pow_add_eq_or_of_lt hrl,hr2,Nat.add_comm])
   have HAD:Hid (IntKind.i64.wrap ((h1:Int)+(b:Int))=((h1+b:Nat):Int)):=Qh (by rw [IntWalk.i64_in _ (by omega)];rfl)
   have HLOW:Hid (byN N1 c1=byN M0 c1):=Qh (Qxc fun i hi=>by
    rw [hN1,show 256^c1=256^i*(256*256^(c1-i-1))by rw [←Nat.pow_succ',←Nat.pow_add];congr 1;omega,Nat.mul_assoc,Nat.add_mul_div_left _ _ (Nat.pow_pos (by decide)),Nat.mul_assoc,Nat.add_mul_mod_self_left])
   have HLT1:Hid (N1<2^(8*c1+(h1+b))):=Qh (by
    rw [Nat.pow_add,←Qfy,Nat.mul_comm,←Nat.div_lt_iff_lt_mul h256,hN1r];exact hr2b)
   have HN1R:=Qh hN1r;obtain⟨q,hq⟩:∃q,q=wr.heap.size:=⟨_,rfl⟩;have HZ:=Qh (Blk.new wr 106 #[.int .i64 0,.int .i64 0]);have HSZ:=Qh Qdc;have hb2:=Qai ((Below.refl _ wr).alloc Ql (.cells #[.int .i64 0,.int .i64 0] 106)) Ql #[.int .i64 (x:Int),.int .i64 (b:Int)];have hz2:=HZ.out.row_ #[.int .i64 (x:Int),.int .i64 (b:Int)];obtain⟨W2,hW2⟩:∃W2,W2=(wr.alloc (.cells #[.int .i64 0,.int .i64 0] 106)).setRow wr.heap.size #[.int .i64 (x:Int),.int .i64 (b:Int)]:=⟨_,rfl⟩;rw [←hW2]at hb2 hz2;have HW2:=Qh hW2;have HAP0:Hid (ap.block≠g∧∀vx wx,Gg g v w vx wx→vx.ownBlock≠some ap.block):=Qh ⟨(HP.out ap rfl).1,fun vx wx hg e=>by
    rcases hg.own _ e with h|h
    ·exact(HP.out ap rfl).2 h
    ·have:=HAPL.out ap rfl;omega⟩
   have HQG:Hid (q≠g∧v1.ownBlock≠some q):=Qh ⟨by have:=HR.out.1.blk.lt;omega,fun e=>by have:=(HR.out.1.ownB _ e).2;omega⟩
   have hbp2:=HR.out.1.below hb2;have hrs2:=HR.out.2.2.below hb2;have hgg2:Gg g v w v1 W2:=HR.out.2.1.trans (Gg.of hb2);obtain⟨S3,hS3⟩:∃S:World→Prop,S=fun wx=>Blk wx g 59 #[v1,.int .u64 (r:Int),.int .i64 (h1:Int),fx]∧wx.ownsRow (g+1) 5 1 v1 c1 (byN M0 c1)∧Gg g v w v1 wx∧RS 2 (some ap) m cap (l.map encP) wx∧Blk wx q 106 #[.int .i64 (x:Int),.int .i64 (b:Int)]:=⟨_,rfl⟩;obtain⟨S4,hS4⟩:∃S:World→Prop,S=fun wx=>Blk wx g 59 #[v1,.int .u64 (r2:Int),.int .i64 (h1:Int),fx]∧wx.ownsRow (g+1) 5 1 v1 c1 (byN M0 c1)∧Gg g v w v1 wx∧RS 2 (some ap) m cap (l.map encP) wx∧Blk wx q 106 #[.int .i64 (x:Int),.int .i64 (b:Int)]:=⟨_,rfl⟩;obtain⟨S5,hS5⟩:∃S:World→Prop,S=fun wx=>BP g fx N1 c1 (h1+b) v1 wx∧Gg g v w v1 wx∧RS 2 (some ap) m cap (l.map encP) wx:=⟨_,rfl⟩;have HS3:Hid (S3 W2.drew):=Qh (by rw [hS3,hrr];exact⟨hbp2.blk.drew,hbp2.own.drew,hgg2.drew,hrs2.below (Qb.drew),by rw [hq];exact hz2.drew⟩)
   have HA1:Hid (∀wx,S3 wx→wx.cell? ⟨g,1,none⟩=some (.int .u64 (r:Int))):=Qh fun wx h=>by rw [hS3]at h;exact h.1.cell 1
   have HA2:Hid (∀wx,S3 wx→wx.cell? ⟨g,2,none⟩=some (.int .i64 (h1:Int))):=Qh fun wx h=>by rw [hS3]at h;exact h.1.cell 2
   have HA5:Hid (∀wx,S3 wx→wx.cell? ⟨q,0,none⟩=some (.int .i64 (x:Int))):=Qh fun wx h=>by rw [hS3]at h;exact h.2.2.2.2.cell 0
   have HST3:Hid (∀wx,S3 wx→wx.cell? ⟨g,1,none⟩=some (.int .u64 (r:Int))∧wx.frozen? ⟨g,1,none⟩=false∧S4 (wx.setCell ⟨g,1,none⟩ (.int .u64 (r2:Int)))):=Qh fun wx h=>by
    rw [hS3]at h;rw [hS4];exact⟨h.1.cell 1,h.1.frozen 1,h.1.set_ 1 _,ownsRow_setCell_below h.2.1 (a:=⟨g,1,none⟩) (Nat.lt_succ_self g) _,h.2.2.1.set 1 _,h.2.2.2.1.gg ((Gg.refl g v1 wx).set 1 _) (fun a ha=>by cases ha;exact⟨HAP0.out.1,HAP0.out.2 _ _ h.2.2.1⟩),h.2.2.2.2.far (p:=⟨g,1,none⟩) (fun e=>HQG.out.1 e) _⟩
   have HS4:Hid (∀wx,S4 wx→S4 wx.drew):=Qh fun wx h=>by
    rw [hS4]at h⊢;exact⟨h.1.drew,h.2.1.drew,h.2.2.1.drew,h.2.2.2.1.below (Qb.drew),h.2.2.2.2.drew⟩
   have HB2:Hid (∀wx,S4 wx→wx.cell? ⟨g,2,none⟩=some (.int .i64 (h1:Int))):=Qh fun wx h=>by rw [hS4]at h;exact h.1.cell 2
   have HB5:Hid (∀wx,S4 wx→wx.cell? ⟨q,1,none⟩=some (.int .i64 (b:Int))):=Qh fun wx h=>by rw [hS4]at h;exact h.2.2.2.2.cell 1
   have HST4:Hid (∀wx,S4 wx→wx.cell? ⟨g,2,none⟩=some (.int .i64 (h1:Int))∧wx.frozen? ⟨g,2,none⟩=false∧S5 (wx.setCell ⟨g,2,none⟩ (.int .i64 ((h1+b:Nat):Int)))):=Qh fun wx h=>by
    rw [hS4]at h;rw [hS5];refine⟨h.1.cell 2,h.1.frozen 2,⟨?_,?_,HLT1.out⟩,h.2.2.1.set 2 _,h.2.2.2.1.gg ((Gg.refl g v1 wx).set 2 _) (fun a ha=>by cases ha;exact⟨HAP0.out.1,HAP0.out.2 _ _ h.2.2.1⟩)⟩
    ·rw [HN1R.out];exact h.1.set_ 2 _
    ·rw [HLOW.out];exact ownsRow_setCell_below h.2.1 (a:=⟨g,2,none⟩) (Nat.lt_succ_self g) _
   have HS5:Hid (∀wx,S5 wx→BP g fx N1 c1 (h1+b) v1 wx∧Gg g v w v1 wx∧RS 2 (some ap) m cap (l.map encP) wx):=Qh fun wx h=>by rw [hS5]at h;exact h
   have HKM:=Qh (⟨hlt,hh1⟩:k<m∧h1<8);have HB16:Hid (b≤16):=Qh hfx.2;have HC1:Hid (c1≤103000000000):=Qh (by have:=HCH.out;have:=HBL.out k;have:=HCC.out;omega)
   have HQE:=Qh hq;have hkw:IntKind.i64.wrap ((k:Int)+1)=((k+1:Nat):Int):=by have:=HM.out;rw [IntWalk.i64_in _ (by omega)];rfl
   have hmn:=HMN.out;clear hx hget hkl hM0 hN1 hrr hrl hr2 hN1r hp7 hp16 hxx hr2b h256 hMl hW2 hb2 hz2 hbp2 hrs2 hgg2 hS3 hS4 hS5 hq hfx hlt hh1 HR;go_wp2_with (refine wpList_store_row rfl 106 _ _ rfl wr.heap.size #[.int .i64 (x:Int),.int .i64 (b:Int)] rfl rfl 106 _ HZ.out HSZ.out rfl (Qgk _ _) ?_;rw [←HW2.out,←HQE.out]);refine Qad (Two 15 1001 fun b _ wx=>(b=false→S3 wx)∧(b=true→S4 wx)) (by kernel_rfl) ?_ ?_
   ·refine⟨fun _=>HS3.out,fun h=> ?_⟩;cases h
   refine tA (i:=0) rfl rfl ?_;simp only [pu];refine tA (i:=1) rfl rfl ?_;simp only [pu];refine tA (i:=2) rfl rfl ?_;simp only [pu];refine Qaa (i:=3) (v:= .int .u64 (r:Int)) rfl (Qah (n:=9) rfl (fun f2 wx hT=> ?_)) ?_
   ·have cc:=(HA1.out wx (hT.1 rfl));refine Qab (w:=wx) ?_ hT;go_simp;skip
   simp only [pu];refine tA (i:=4) rfl rfl ?_;simp only [pu];refine Qaa (i:=5) (v:= .int .i64 (x:Int)) rfl (Qah (n:=9) rfl (fun f2 wx hT=> ?_)) ?_
   ·have cc:=(HA5.out wx (hT.1 rfl));refine Qab (w:=wx) ?_ hT;go_simp;skip
   simp only [pu];refine tL (i:=6) (v:= .int .u64 (x:Int)) rfl rfl (fun f1 f2 wx hT=> ?_) ?_
   ·have cc:=HXU.out;go_simp;skip
   simp only [pu];refine tA (i:=7) rfl rfl ?_;simp only [pu];refine tA (i:=8) rfl rfl ?_;simp only [pu];refine tA (i:=9) rfl rfl ?_;simp only [pu];refine Qaa (i:=10) (v:= .int .i64 (h1:Int)) rfl (Qah (n:=9) rfl (fun f2 wx hT=> ?_)) ?_
   ·have cc:=(HA2.out wx (hT.1 rfl));refine Qab (w:=wx) ?_ hT;go_simp;skip
   simp only [pu];refine tL (i:=11) (v:= .int .u64 ((x:Int)*2^h1)) rfl rfl (fun f1 f2 wx hT=> ?_) ?_
   ·have cc:=HSH.out;have cm:=HMN.out;go_simp;skip
   simp only [pu];refine tL (i:=12) (v:= .int .u64 (r2:Int)) rfl rfl (fun f1 f2 wx hT=> ?_) ?_
   ·have cc:=HOR.out;go_simp;skip
   simp only [pu];refine tA (i:=13) rfl rfl ?_;simp only [pu];refine tA (i:=14) rfl rfl ?_;simp only [pu];refine Qaa (i:=15) (v:=undef) rfl (Qa5 (by decide) rfl (fun f2 wx hT=> ?_)) ?_
   ·obtain⟨c0,f0,K⟩:=HST3.out wx (hT.1 rfl);go_simp;exact⟨rfl,K⟩
   simp only [pu];refine Qag rfl ?_ _;intro w4 hT8;have Hw4:=Qh (hT8.2 rfl);clear hT8;go_wp2_with fail;refine Qad (Two 9 1001 fun b _ wx=>(b=false→S4 wx)∧(b=true→S5 wx)) (by kernel_rfl) ?_ ?_
   ·refine⟨fun _=>HS4.out w4 Hw4.out,fun h=> ?_⟩;cases h
   refine tA (i:=0) rfl rfl ?_;simp only [pu];refine tA (i:=1) rfl rfl ?_;simp only [pu];refine tA (i:=2) rfl rfl ?_;simp only [pu];refine Qaa (i:=3) (v:= .int .i64 (h1:Int)) rfl (Qah (n:=9) rfl (fun f2 wx hT=> ?_)) ?_
   ·have cc:=(HB2.out wx (hT.1 rfl));refine Qab (w:=wx) ?_ hT;go_simp;skip
   simp only [pu];refine tA (i:=4) rfl rfl ?_;simp only [pu];refine Qaa (i:=5) (v:= .int .i64 (b:Int)) rfl (Qah (n:=9) rfl (fun f2 wx hT=> ?_)) ?_
   ·have cc:=(HB5.out wx (hT.1 rfl));refine Qab (w:=wx) ?_ hT;go_simp;skip
   simp only [pu];refine tL (i:=6) (v:= .int .i64 ((h1+b:Nat):Int)) rfl rfl (fun f1 f2 wx hT=> ?_) ?_
   ·have cc:=HAD.out;go_simp;skip
   simp only [pu];refine tA (i:=7) rfl rfl ?_;simp only [pu];refine tA (i:=8) rfl rfl ?_;simp only [pu];refine Qaa (i:=9) (v:=undef) rfl (Qa5 (by decide) rfl (fun f2 wx hT=> ?_)) ?_
   ·obtain⟨c0,f0,K⟩:=HST4.out wx (hT.1 rfl);go_simp;exact⟨rfl,K⟩
   simp only [pu];refine Qag rfl ?_ _;intro w5 hT8;have Hw5:=Qh (hT8.2 rfl);clear hT8;have HI0:=Qh (HS5.out w5 Hw5.out);have HNW:Hid (8*c1+(h1+b)=8*c+h+Qaj (l.take (k+1))):=Qh (by rw [HBT.out];have:=HCH.out;omega)
   clear Hw4 Hw5 HS3 HS4 HS5 HST3 HST4 HA1 HA2 HA5 HB2 HB5 HXU HSH HOR HAD HLOW HLT1 HN1R HZ HW2 hmn HMN;go_wp2_with fail;go_loopg [39] (h1+b) (fun gk u wr=>∃(c2 h2:Nat) (v2:Value),gk=h2∧h2≤23∧c2≤103000000003∧Hid (8*c2+h2=8*c+h+Qaj (l.take (k+1)))∧Hid (BP g fx N1 c2 h2 v2 wr∧Gg g v w v2 wr∧RS 2 (some ap) m cap (l.map encP) wr))
   case atStart=>exact⟨c1,h1+b,v1,rfl,by have:=HKM.out;have:=HB16.out;omega,by have:=HC1.out;omega,HNW,HI0⟩
   case round=>
    obtain⟨c2,h2,v2,hgk,hh2,hc2,HCW,HI⟩:=hrel;clear HI0 HNW;have e2:=HI.out.1.blk.cell 2;have e2:wr.cell? ⟨g,2,none⟩=some (.int .i64 (h2:Int)):=e2;by_cases h8:8≤h2
    ·have h8i:(h2:Int)≥8:=by omega
     obtain⟨r,hr⟩:∃r,r=N1 /256^c2:=⟨_,rfl⟩;obtain⟨y,hy⟩:∃y,y=r%256:=⟨_,rfl⟩;have hrlt:r<2^h2:=by
      rw [hr,Nat.div_lt_iff_lt_mul (Nat.pow_pos (by decide)),Qfy,←Nat.pow_add,Nat.add_comm h2];exact HI.out.1.lt
     have hrl:r<16777216:=Nat.lt_of_lt_of_le hrlt (Nat.pow_le_pow_right (by decide) (by omega:h2≤24))
     have hcv:IntKind.u8.wrap (r:Int)=(y:Int):=by rw [IntKind.wrap_u8];omega
     have hcv2:(r:Int)%256=(y:Int):=by omega
     obtain⟨r',hr'⟩:∃r',r'=r /256:=⟨_,rfl⟩;have hsh:(r:Int) /256=(r':Int):=by omega
     have hsb:IntKind.i64.wrap ((h2:Int)-8)=((h2-8:Nat):Int):=by rw [IntWalk.i64_in _ (by omega)];omega
     have HRN:Hid (N1 /256^(c2+1)=r'):=Qh (by rw [Nat.pow_succ,←Nat.div_div_eq_div_mul,←hr,hr'])
     have HBM:Hid (byN N1 (c2+1)=byN N1 c2++[Value.int .u8 (y:Int)]):=Qh (by rw [Qqw,hy,hr])
     have HLT2:=Qh HI.out.1.lt;have HCQ:Hid (c2+1≤103000000003):=Qh (by have:=HCW.out;have:=HBL.out (k+1);have:=HCC.out;omega)
     obtain⟨wa,hwa⟩:∃wa,wa=wr.drew:=⟨_,rfl⟩;have hbw:Below wr.heap.size wr wa:=by rw [hwa];exact Qb.drew
     have kb:=HI.out.1.below hbw;have kg:Gg g v w v2 wa:=HI.out.2.1.trans (Gg.of hbw);have kr:=HI.out.2.2.below hbw;have HCV:=Qh hcv2;obtain⟨i0,hi,hz0,hz1,hz2⟩:=info_parts Q2g;have hbn:=Blk.new wa 5 #[.int .u8 (y:Int)];have hba:Below wa.heap.size wa (wa.alloc (.cells #[.int .u8 (y:Int)] 5)):=Qb.alloc Ql _;have ka:=kb.below hba;obtain⟨gq,cq,w2,hap,hown,hgr,hat,hlt2⟩:=run_append_lies (P:=Tryz.prog) (wa.alloc (.cells #[.int .u8 (y:Int)] 5)) 25 25 (g+1) 5 i0 (.int .u8 0) 1 1 Tryz.underlying25 hi hz0 hz1 hz2 rfl (by decide) v2 c2 _ ka.own ⟨wa.heap.size,0,none⟩ 1 1 [.int .u8 (y:Int)] rfl (World.news_of_block hbn) (by intro u hu;rw [List.mem_singleton.1 hu];rfl) (by decide) (by unfold maxLen;omega) (by omega) (by have:=ka.blk.lt;omega) _ rfl
     obtain⟨v',hv'⟩:∃v',v'=Value.slice (some ⟨gq,0,none⟩) (c2+1) cq:=⟨_,rfl⟩;have HVF:=Qh hv';rw [←hv']at hap hown;have hvo:v'.ownBlock=some gq:=by rw [hv'];rfl
     have HAP:=Qh hap;obtain⟨T7,hT7⟩:∃T:Bool→Bool→Bool→World→Prop,T=fun a b c wx=>(a=false→b=false→c=false→wx=wa)∧(a=true→b=false→c=false→wx=wa.alloc (.cells #[.int .u8 (y:Int)] 5))∧(b=true→c=false→a=true∧wx=w2)∧(c=true→wx=w2.setCell ⟨g,0,none⟩ v'):=⟨_,rfl⟩;have hgz:g<wa.heap.size:=kb.blk.lt;have hv2g:v2.ownBlock≠some g:=fun e=>by have:=(kb.ownB _ e).1;omega
     have w2g:w2.heap[g]? =wa.heap[g]? :=(hgr.block g (Nat.lt_of_lt_of_le hgz hba.size) (fun e=>hv2g e.symm)).trans (hba.block g hgz);have HT7:Hid (T7 false false false wa):=Qh (by rw [hT7];exact⟨fun _ _ _=>rfl,fun h=>(by cases h),fun h=>(by cases h),fun h=>(by cases h)⟩)
     have hkc0:wa.cell? ⟨g,0,none⟩=some v2:=kb.blk.cell 0;have hkc1:wa.cell? ⟨g,1,none⟩=some (.int .u64 (r:Int)):=by rw [hr];exact kb.blk.cell 1
     have hac0:(wa.alloc (.cells #[.int .u8 (y:Int)] 5)).cell? ⟨g,0,none⟩=some v2:=ka.blk.cell 0;have hac1:(wa.alloc (.cells #[.int .u8 (y:Int)] 5)).cell? ⟨g,1,none⟩=some (.int .u64 (r:Int)):=by rw [hr];exact ka.blk.cell 1
     have HC7:Hid (∀f1 wx,T7 f1 false false wx→wx.cell? ⟨g,0,none⟩=some v2∧wx.cell? ⟨g,1,none⟩=some (.int .u64 (r:Int))):=Qh fun f1 wx h=>by
      rw [hT7]at h;cases f1 with
      |false=>rw [h.1 rfl rfl rfl];exact⟨hkc0,hkc1⟩
      |true=>rw [h.2.1 rfl rfl rfl];exact⟨hac0,hac1⟩
     have HF7:Hid (∀wx,T7 false false false wx→wx=wa∧T7 true false false (wa.alloc (.cells #[.int .u8 (y:Int)] 5))):=Qh fun wx h=>by
      rw [hT7]at h⊢;exact⟨h.1 rfl rfl rfl,fun h=>(by cases h),fun _ _ _=>rfl,fun h=>(by cases h),fun h=>(by cases h)⟩
     have HG7:Hid (∀wx,T7 true false false wx→wx=wa.alloc (.cells #[.int .u8 (y:Int)] 5)∧T7 true true false w2):=Qh fun wx h=>by
      rw [hT7]at h⊢;exact⟨h.2.1 rfl rfl rfl,fun h=>(by cases h),fun _ h=>(by cases h),fun _ _=>⟨rfl,rfl⟩,fun h=>(by cases h)⟩
     have hkw2:Blk w2 g 59 #[v2,.int .u64 ((N1 /256^c2:Nat):Int),.int .i64 (h2:Int),fx]:=w2g.trans kb.blk;have HH7:Hid (∀f1 wx,T7 f1 true false wx→wx.cell? ⟨g,0,none⟩=some v2∧wx.frozen? ⟨g,0,none⟩=false∧T7 f1 true true (wx.setCell ⟨g,0,none⟩ v')):=Qh fun f1 wx h=>by
      rw [hT7]at h⊢;obtain⟨rfl,e⟩:=h.2.2.1 rfl rfl;rw [e];exact⟨hkw2.cell 0,hkw2.frozen 0,fun h=>(by cases h),fun _ h=>(by cases h),fun _ h=>(by cases h),fun _=>rfl⟩
     have hGa:Gg g v w v' w2:=kg.trans ((Gg.of hba).trans ⟨hgr.os,hgr.tape,hgr.output,hgr.size,fun i hi _ hv=>hgr.block i hi (fun e=>hv e.symm),fun i e=>by
      rw [hvo]at e;have e:gq=i:=by injection e
      rcases hat with h1|h1
      ·exact .inl (by rw [h1,e])
      ·right;omega⟩)
     have hnew:∀i,v'.ownBlock=some i→w.heap.size≤i∨v.ownBlock=some i:=fun i e=>(hGa.own i e).symm;have HE7:Hid (∀wx,T7 true true true wx→Blk wx g 59 #[v',.int .u64 (r:Int),.int .i64 (h2:Int),fx]∧wx.ownsRow (g+1) 5 1 v' (c2+1) (byN N1 (c2+1))∧Gg g v w v' wx∧RS 2 (some ap) m cap (l.map encP) wx):=Qh fun wx h=>by
      rw [hT7]at h;rw [h.2.2.2 rfl];refine⟨by rw [hr];exact hkw2.set_ 0 _,?_,hGa.set 0 _,?_⟩
      ·rw [HBM.out];exact ownsRow_setCell_below hown (a:=⟨g,0,none⟩) (Nat.lt_succ_self g) _
      ·have hX:Gg g v2 wa v' (w2.setCell ⟨g,0,none⟩ v'):=Gg.set ((Gg.of hba).trans ⟨hgr.os,hgr.tape,hgr.output,hgr.size,fun i hi _ hv=>hgr.block i hi (fun e=>hv e.symm),fun i e=>by
        rw [hvo]at e;have e:gq=i:=by injection e
        rcases hat with h1|h1
        ·exact .inl (by rw [h1,e])
        ·right;omega⟩) 0 _
       exact kr.gg hX (fun a ha=>by cases ha;exact⟨HAP0.out.1,HAP0.out.2 _ _ kg⟩)
     have HQ:Hid (∃q,q=wa.heap.size):=Qh ⟨_,rfl⟩;have HWA:=Qh hwa;have H8:=Qh h8;have HGK:=Qh hgk;clear hap hown hgr hat hlt2 hv' hT7 hgz hv2g w2g hkc0 hkc1 hac0 hac1 hkw2 hGa hnew kb kg kr hbn hba ka hi hz0 hz1 hz2 hwa hbw hr hy hrlt hr' hvo h8 hgk HI;go_wp2_with fail;refine Qad (Qiy 10 11 14 T7) (by kernel_rfl) ?_ ?_
     ·rw [←HWA.out];exact HT7.out
     refine Qaa (i:=0) (v:= ?_) rfl (Qbm (by decide) (by decide) (by decide) rfl (fun f1 f2 f3 wx hT=> ?_)) ?_;rotate_left
     ·refine Qab (w:=wx) ?_ hT;go_simp<;>rfl
     simp only [pu];refine Qaa (i:=1) (v:= ?_) rfl (Qbm (by decide) (by decide) (by decide) rfl (fun f1 f2 f3 wx hT=> ?_)) ?_;rotate_left
     ·refine Qab (w:=wx) ?_ hT;go_simp<;>rfl
     simp only [pu];refine Qaa (i:=2) (v:= ?_) rfl (Qbm (by decide) (by decide) (by decide) rfl (fun f1 f2 f3 wx hT=> ?_)) ?_;rotate_left
     ·refine Qab (w:=wx) ?_ hT;go_simp<;>rfl
     simp only [pu];refine Qaa (i:=3) (v:= ?_) rfl (Qbm (by decide) (by decide) (by decide) rfl (fun f1 f2 f3 wx hT=> ?_)) ?_;rotate_left
     ·refine Qab (w:=wx) ?_ hT;go_simp<;>rfl
     simp only [pu];refine Qaa (i:=4) (v:=v2) rfl (Qhw (n:=15) (by decide) (by decide) (by decide) (by kernel_rfl) (by kernel_rfl) rfl (fun f1 wx hT=> ?_)) ?_
     ·have cc:=(HC7.out f1 wx hT).1;refine Qab (w:=wx) ?_ hT;go_simp;skip
     simp only [pu];refine Qaa (i:=5) (v:= ?_) rfl (Qbm (by decide) (by decide) (by decide) rfl (fun f1 f2 f3 wx hT=> ?_)) ?_;rotate_left
     ·refine Qab (w:=wx) ?_ hT;go_simp<;>rfl
     simp only [pu];refine Qaa (i:=6) (v:= ?_) rfl (Qbm (by decide) (by decide) (by decide) rfl (fun f1 f2 f3 wx hT=> ?_)) ?_;rotate_left
     ·refine Qab (w:=wx) ?_ hT;go_simp<;>rfl
     simp only [pu];refine Qaa (i:=7) (v:= ?_) rfl (Qbm (by decide) (by decide) (by decide) rfl (fun f1 f2 f3 wx hT=> ?_)) ?_;rotate_left
     ·refine Qab (w:=wx) ?_ hT;go_simp<;>rfl
     simp only [pu];refine Qaa (i:=8) (v:= .int .u64 (r:Int)) rfl (Qhw (n:=15) (by decide) (by decide) (by decide) (by kernel_rfl) (by kernel_rfl) rfl (fun f1 wx hT=> ?_)) ?_
     ·have cc:=(HC7.out f1 wx hT).2;refine Qab (w:=wx) ?_ hT;go_simp;skip
     simp only [pu];refine Qaa (i:=9) (v:= .int .u8 (y:Int)) rfl (Qbm (by decide) (by decide) (by decide) rfl (fun f1 f2 f3 wx hT=> ?_)) ?_
     ·have cc:=HCV.out;refine Qab (w:=wx) ?_ hT;go_simp;skip
     simp only [pu];refine Qaa (i:=10) (v:= .slice (some ⟨wa.heap.size,0,none⟩) 1 1) rfl (Qsa (n:=15) (by decide) (by decide) (by kernel_rfl) (by kernel_rfl) rfl (fun wx hT=> ?_)) ?_
     ·obtain⟨e1,K⟩:=HF7.out wx hT;rw [e1];refine Qab (w:=wa.alloc (.cells #[.int .u8 (y:Int)] 5)) ?_ K;go_simp;skip
     simp only [pu];refine Qaa (i:=11) (v:=v') rfl (Qo3 (n:=15) (by decide) (by decide) rfl (by kernel_rfl) (by kernel_rfl) rfl (fun wx hT=> ?_)) ?_
     ·obtain⟨e1,K⟩:=HG7.out wx hT;subst e1;exact Qek (.tmp 52) (.tmp 58) 25 rfl rfl rfl HAP.out K
     simp only [pu];refine Qaa (i:=12) (v:= ?_) rfl (Qbm (by decide) (by decide) (by decide) rfl (fun f1 f2 f3 wx hT=> ?_)) ?_;rotate_left
     ·refine Qab (w:=wx) ?_ hT;go_simp<;>rfl
     simp only [pu];refine Qaa (i:=13) (v:= ?_) rfl (Qbm (by decide) (by decide) (by decide) rfl (fun f1 f2 f3 wx hT=> ?_)) ?_;rotate_left
     ·refine Qab (w:=wx) ?_ hT;go_simp<;>rfl
     simp only [pu];refine Qaa (i:=14) (v:=undef) rfl (Qsb (by decide) (by decide) rfl (by kernel_rfl) rfl (fun f1 wx hT=> ?_)) ?_
     ·obtain⟨c0,f0,K⟩:=HH7.out f1 wx hT;simp only [HVF.out]at K⊢;go_simp;exact⟨rfl,K⟩
     simp only [pu];refine Qag rfl ?_ _;intro w7 hT8;have H7:=Qh (HE7.out w7 hT8);clear hT8;have d1:=H7.out.1.cell 1;have d1:w7.cell? ⟨g,1,none⟩=some (.int .u64 (r:Int)):=d1;have d2:w7.cell? ⟨g,2,none⟩=some (.int .i64 (h2:Int)):=H7.out.1.cell 2;have g1:=H7.out.1.frozen 1;have g2:=H7.out.1.frozen 2;have HFIN:Hid (BP g fx N1 (c2+1) (h2-8) v' ((w7.setCell ⟨g,1,none⟩ (.int .u64 (r':Int))).setCell ⟨g,2,none⟩ (.int .i64 ((h2-8:Nat):Int)))∧Gg g v w v' ((w7.setCell ⟨g,1,none⟩ (.int .u64 (r':Int))).setCell ⟨g,2,none⟩ (.int .i64 ((h2-8:Nat):Int)))∧RS 2 (some ap) m cap (l.map encP) ((w7.setCell ⟨g,1,none⟩ (.int .u64 (r':Int))).setCell ⟨g,2,none⟩ (.int .i64 ((h2-8:Nat):Int)))):=Qh (by
      refine⟨⟨?_,?_,?_⟩,(H7.out.2.2.1.set 1 _).set 2 _,H7.out.2.2.2.gg (((Gg.refl g v' w7).set 1 _).set 2 _) (fun a ha=>by cases ha;exact⟨HAP0.out.1,HAP0.out.2 _ _ H7.out.2.2.1⟩)⟩
      ·rw [HRN.out];exact(H7.out.1.set_ 1 _).set_ 2 _
      ·exact ownsRow_setCell_below (ownsRow_setCell_below H7.out.2.1 (a:=⟨g,1,none⟩) (Nat.lt_succ_self g) _) (a:=⟨g,2,none⟩) (Nat.lt_succ_self g) _
      ·rw [show 8*(c2+1)+(h2-8)=8*c2+h2 by have:=H8.out;omega];exact HLT2.out)
     go_wp2_with fail;go_roundg (h2-8)
     case measure=>have:=HGK.out;have:=H8.out;omega
     case rel=>exact⟨c2+1,h2-8,v',rfl,by omega,by have:=HCQ.out;omega,Qh (by have:=HCW.out;have:=H8.out;omega),HFIN⟩
    ·have h8i:¬(h2:Int)≥8:=by omega
     have h8n:h2<8:=by omega
     go_wp2_with fail;exact⟨⟨k+1,c2,h2,v2,by go_num,by have:=HKM.out;omega,h8n,HCW,by rw [←HNX.out];exact HI⟩,by simp only [intOf];have:=HKM.out;omega⟩
  ·obtain rfl:k=m:=by omega
   have hlti:¬(k:Int)<(k:Int):=by omega
   have HE:Hid (l.take k=l):=Qh (List.take_of_length_le (by rw [HLN.out];exact Ql))
   go_wp2_with fail;go_end0;have h1':=HR.out;have h2':=HCH.out;rw [HE.out]at h1' h2';exact⟨rfl,v1,c1,h1,hh1,h2',h1'.1,h1'.2.1⟩
theorem Qx9 (n:Int):bits .and .i64 n 7=n%8:=by
 have h7:(BitVec.ofInt 64 7).toNat=2^3-1:=by decide
 have key:(BitVec.ofInt 64 n&&&BitVec.ofInt 64 7).toNat=(n%((2^64:Nat):Int)).toNat%2^3:=by
  rw [BitVec.toNat_and,BitVec.toNat_ofInt,h7,Nat.and_two_pow_sub_one_eq_mod]
 show IntKind.i64.wrap ((BitVec.ofInt 64 n&&&BitVec.ofInt 64 7).toNat:Nat)=n%8
 rw [key,IntKind.wrap_i64];omega
def Qdw (h:Nat):Nat:=(8-h%8)%8
theorem Qmi (g:Nat) (fx:Value) (N c h:Nat) (v:Value) (more:Nat) (w:World) (h0:BP g fx N c h v w) (hh:h<8) (hm:more≤100):
  Calls Tryz.prog 54 #[.pointer (some ⟨g,0,none⟩),.int .i64 (more:Int)] w fun e w'=>e= .returned (.int .i64 (Qdw (h+more):Int))∧w=w':=by
 have c2:w.cell? ⟨g,2,none⟩=some (.int .i64 (h:Int)):=h0.blk.cell 2;have hw:IntKind.i64.wrap ((h:Int)+(more:Int))=((h+more:Nat):Int):=by rw [IntWalk.i64_in _ (by omega)];rfl
 obtain⟨y,hy⟩:∃y,y=h+more:=⟨_,rfl⟩;rw [←hy]at hw⊢;have hw2:IntKind.i64.wrap (-(y:Int))= -(y:Int):=IntWalk.i64_in _ (by omega)
 have ha:=Qx9 (-(y:Int));have HE:Hid ((Qdw y:Int)= -(y:Int)%8):=Qh (by unfold Qdw;omega)
 clear h0 hy;go_enter Tryz.func54,Tryz.ntmps54;go_wp2_with fail;go_ret;rw [HE.out];rw [←ha];exact⟨rfl,rfl⟩
def txtN (N n:Nat):ByteArray:=Q1t ((n+7) /8) fun i=>N /256^i%256
theorem Qzp (N c:Nat):byN N c=((List.range c).map fun i=>BitVec.ofNat 8 (N /256^i%256)).map b8v:=by
 unfold byN;rw [List.map_map]
 apply List.map_congr_left
 intro i _;show Value.int .u8 _=b8v (BitVec.ofNat 8 (N /256^i%256));unfold b8v iw;rw [BitVec.toNat_ofNat,Nat.mod_eq_of_lt (show N /256^i%256<2^8 from Nat.mod_lt _ (by decide))]
theorem Qzd (g:Nat) (fx:Value) (N c h:Nat) (v:Value) (w:World) (h0:BP g fx N c h v w) (hh:h<8) (hc:c≤100000000000):
  Calls Tryz.prog 29 #[.pointer (some ⟨g,0,none⟩)] w fun e w'=>e= .returned (.string (txtN N (8*c+h)))∧∃v',Gg g v w v' w':=by
 have C:=Qmi g fx N c h v 0 w h0 hh (by decide)
 have H0:=Qh h0;clear h0;go_enter Tryz.func29,Tryz.ntmps29;go_wp2_with fail;refine C.mono ?_;rintro e w1 ⟨rfl,rfl⟩;obtain⟨y,hy⟩:∃y,y=Qdw (h+0):=⟨_,rfl⟩;rw [←hy];have hyv:y=(8-h%8)%8:=by rw [hy];unfold Qdw;rw [Nat.add_zero]
 have hb:=(Below.refl _ w).alloc Ql (.cells #[.int .i64 0,.int .i64 (y:Int)] 106);have hr:RS 2 (some ⟨w.heap.size,0,none⟩) 1 1 ([((0:Nat),y)].map encP) (w.alloc (.cells #[.int .i64 0,.int .i64 (y:Int)] 106)):=
  ⟨rfl,Qnx 0 (y:Int),(fun e=>by cases e),Ql,by decide,fun a ha i hi j u hu=>by
   cases ha
   obtain rfl:i=0:=by have:i<1:=hi;omega
   rw [Nat.zero_mul,Nat.zero_add];exact Qci w _ _ j u hu,fun a ha=>by cases ha;simp⟩
 have CW:=Qda g fx N c h v _ 1 1 [((0:Nat),y)] _ (H0.out.below hb) hh hr (fun a ha=>by cases ha;exact⟨by have:=H0.out.blk.lt;show w.heap.size≠g;omega,fun e=>by have:=(H0.out.ownB _ e).2;exact Nat.lt_irrefl _ this⟩) (fun x hx=>by
  rw [List.mem_singleton.1 hx];exact⟨Nat.pow_pos (by decide),by show y≤16;omega⟩) (by decide) hc
 have HGB:Hid (Gg g v w v (w.alloc (.cells #[.int .i64 0,.int .i64 (y:Int)] 106))):=Qh (Gg.of hb);have HY:=Qh hyv;clear C hr hb hy hyv;go_wp2_with fail;refine CW.mono ?_;rintro e w2 ⟨rfl,v',c',h',hh',he',hbp,hgg⟩;have hbt:Qaj [((0:Nat),y)]=y:=by show y+0=y;omega
 have hvt:N+2^(8*c+h)*valN [((0:Nat),y)]=N:=by show N+2^(8*c+h)*(0+2^y*0)=N;simp
 rw [hbt]at he';rw [hvt]at hbp;have hY:=HY.out;obtain rfl:h'=0:=by omega
 have hcc:c'=(8*c+h+7) /8:=by omega
 have c0:w2.cell? ⟨g,0,none⟩=some v':=hbp.blk.cell 0;have hown:=hbp.own;rw [Qzp]at hown;have hcv:=Qcm (P:=Tryz.prog) w2 25 9 5 (g+1) Tryz.underlying25 Tryz.underlying5 Tryz.underlying9 v' c' _ hown;have HE:Hid ((⟨(Qd3 ((List.range c').map fun i=>BitVec.ofNat 8 (N /256^i%256))).toArray⟩:ByteArray)=txtN N (8*c+h)):=Qh (by rw [hcc];rfl)
 have HG2:=Qh (HGB.out.trans hgg);generalize (⟨(Qd3 ((List.range c').map fun i=>BitVec.ofNat 8 (N /256^i%256))).toArray⟩:ByteArray)=Z at hcv HE;clear CW hbp hown hgg hcc he';go_wp2_with fail;go_ret;rw [HE.out];exact⟨rfl,v',HG2.out⟩
end Go.Proofs.YtbmcjdoiohcaaaaGreat
