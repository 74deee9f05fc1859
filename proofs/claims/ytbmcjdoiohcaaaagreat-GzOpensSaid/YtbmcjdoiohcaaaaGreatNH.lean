/- NH -/
import Derived.Test.YtbmcjdoiohcaaaaGreatNG
set_option maxRecDepth 100000
set_option maxHeartbeats 16000000
namespace Go.Proofs.YtbmcjdoiohcaaaaGreat
open Go.RowKit
def stoG (b:Nat→Nat) (n p k:Nat):List (Nat×Nat):=[(0,p),(n,16),(65535-n,16)]++(List.range k).map fun i=>(b i,8)
def stoV (s:ByteArray) (p:Nat):List (Nat×Nat):=stoG (Qac s) s.size p s.size
theorem Qwf (b:Nat→Nat) (n p k:Nat):(stoG b n p (k+1)).map encP=(stoG b n p k).map encP++[encN (b k:Int) 8]:=by
 unfold stoG;rw [List.range_succ,List.map_append,List.map_append,List.map_append,List.map_append,List.append_assoc];rfl
theorem Qjd (b:Nat→Nat) (n p k:Nat):(stoG b n p k).length=k+3:=by unfold stoG;simp
theorem Qxg {g n:Nat} {f:Nat→Value} {w w':World} {v v':Value} (h:∀j,j<n→w.cell? ⟨g,j,none⟩=some (f j)) (hl:g<w.heap.size) (hg:Gr v w v' w') (hne:v.ownBlock≠some g):∀j,j<n→w'.cell? ⟨g,j,none⟩=some (f j):=fun j hj=>by
 rw [World.cell?_of_block (a:=⟨g,j,none⟩) (w:=w) (hg.block g hl hne)];exact h j hj
theorem Qlu (s:ByteArray) (p:Nat) (w:World) (hs:s.size≤65535):
  Calls Tryz.prog 53 #[.string s,.int .i64 (p:Int)] w fun e w'=>∃v,e= .returned v∧LS 106 2 w.heap.size w ((stoV s p).map encP) v w':=by
 obtain⟨n,hn⟩:∃n,n=s.size:=⟨_,rfl⟩;have HST:Hid (stoV s p=stoG (Qac s) n p n):=Qh (by unfold stoV;rw [hn])
 obtain⟨M,hM⟩:∃M,M=3+n:=⟨_,rfl⟩;have hmk:=fun w=>Qjl M (by omega) w
 have hmul:IntKind.i64.wrap (3+(n:Int))=(M:Int):=by rw [IntWalk.i64_in _ (by omega),hM];omega
 obtain⟨R,hR⟩:∃R,R=65535-n:=⟨_,rfl⟩;have hrest:IntKind.i64.wrap (65535-(n:Int))=(R:Int):=by rw [IntWalk.i64_in _ (by omega),hR];omega
 have hsz:(s.size:Int)=(n:Int):=by rw [hn]
 have HSZ:=Qh hn.symm;have HR:=Qh hR;have HN:=Qh hs;have H0:=Qh (LS.room (Below.refl w.heap.size w) Ql M (by omega))
 have HNC:Hid (∀j u,([encN 0 (p:Int),encN (n:Int) 16,encN (R:Int) 16]:List (List Value)).flatten[j]? =some u→((w.alloc (.cells (rI (M*2) fun _=>0) 106)).alloc (.cells #[.int .i64 0,.int .i64 (p:Int),.int .i64 (n:Int),.int .i64 16,.int .i64 (R:Int),.int .i64 16] 106)).cell? ((⟨w.heap.size+1,0,none⟩:Addr).add j)=some u):=Qh fun j u hu=>by
  have h:=Qci (w.alloc (.cells (rI (M*2) fun _=>0) 106)) #[.int .i64 0,.int .i64 (p:Int),.int .i64 (n:Int),.int .i64 16,.int .i64 (R:Int),.int .i64 16] 106 j u (by simpa [encN]using hu)
  rwa [show (w.alloc (.cells (rI (M*2) fun _=>0) 106)).heap.size=w.heap.size+1 by simp]at h
 clear hM hR hs hn;go_enter Tryz.func53,Tryz.ntmps53;go_wp2_with (at_builtin;refine Qc9 rfl (.tmp 12) (.tmp 22) 52 rfl rfl rfl (H0.out.below (Qb.alloc Ql _)) ⟨w.heap.size+1,0,none⟩ 3 3 [encN 0 (p:Int),encN (n:Int) 16,encN (R:Int) 16] rfl rfl (fun x hx=>by simp only [List.mem_cons,List.not_mem_nil,or_false]at hx;rcases hx with rfl|rfl|rfl<;>exact Qnx _ _ _ (.head _)) HNC.out (by decide) (by decide) ?_;intro v2 w2 h2 g2;have H2:=Qh h2;obtain⟨capb,W1,hcv,hcl,bW⟩:=Qno s w2 HSZ.out;obtain⟨z,hz⟩:∃z,z=w2.heap.size:=⟨_,rfl⟩;rw [←hz]at hcv hcl;have HV2:Hid (LS 106 2 w.heap.size w ((stoG (Qac s) n p 0).map encP) v2 W1∧(∀j,j<n→W1.cell? ⟨z,j,none⟩=some (.int .u8 (Qac s j:Int)))∧z<W1.heap.size∧v2.ownBlock≠some z):=Qh ⟨by have:=H2.out.below bW;unfold stoG;rw [←HR.out];exact this,hcl.c,hcl.lt,fun e=>by have:=(H2.out.ownB _ e).2;omega⟩;clear hcl bW hz h2 g2)
 clear H0 hmk hmul hrest H2;go_loopw [5,27] (fun x u wr=>∃(k:Nat) (x1:Value),x1=x∧u= .int .i64 (k:Int)∧k≤n∧Hid (LS 106 2 w.heap.size w ((stoG (Qac s) n p k).map encP) x1 wr∧(∀j,j<n→wr.cell? ⟨z,j,none⟩=some (.int .u8 (Qac s j:Int)))∧z<wr.heap.size∧x1.ownBlock≠some z)) (fun _ u _=>n-(intOf u).toNat)
 case atStart=>exact⟨0,_,rfl,rfl,Nat.zero_le _,HV2⟩
 case round=>
  obtain⟨k,x1,rfl,rfl,hk,HL⟩:=hrel;clear HV2;by_cases hlt:k<n
  ·have hlti:(k:Int)<(n:Int):=by omega
   have c0:=HL.out.2.1 k hlt;have hb:=Qaz s k;have HMO:=Qh (Qwf (Qac s) n p k);generalize Qac s k=B at c0 hb HMO;have hBw:IntKind.i64.wrap (B:Int)=(B:Int):=IntWalk.i64_in _ (by omega)
   have hkw:IntKind.i64.wrap ((k:Int)+1)=((k+1:Nat):Int):=by have:=HN.out;have:=HSZ.out;rw [IntWalk.i64_in _ (by omega)];rfl
   have HLN:Hid (((stoG (Qac s) n p k).map encP).length≤999999999999):=Qh (by rw [List.length_map,Qjd];have:=HN.out;have:=HSZ.out;omega)
   have HKN:=Qh hlt;clear hb hlt;go_wp2_with (at_builtin;refine Qix rfl (.tmp 31) (.tmp 35) 52 rfl rfl rfl HL.out.1 (B:Int) 8 rfl HLN.out ?_;intro v9 w9 h9 g9;have H9:Hid (LS 106 2 w.heap.size w ((stoG (Qac s) n p (k+1)).map encP) v9 w9∧(∀j,j<n→w9.cell? ⟨z,j,none⟩=some (.int .u8 (Qac s j:Int)))∧z<w9.heap.size∧v9.ownBlock≠some z):=Qh ⟨by rw [HMO.out];exact h9,Qxg HL.out.2.1 HL.out.2.2.1 g9 HL.out.2.2.2,Nat.lt_of_lt_of_le HL.out.2.2.1 g9.size,fun e=>(g9.own _ e).elim HL.out.2.2.2 (fun h=>by have:=HL.out.2.2.1;omega)⟩;clear h9 g9)
   exact⟨⟨k+1,_,rfl,by go_num,by have:=HKN.out;omega,H9⟩,by simp only [intOf];have:=HKN.out;omega⟩
  ·obtain rfl:k=n:=by omega
   have hlti:¬(k:Int)<(k:Int):=by omega
   go_wp2_with fail;go_ret;rw [HST.out];exact⟨_,rfl,HL.out.1⟩
def upN (f:Nat→Int) (lo:Nat):Nat→Nat
 |0=>0
 |n+1=>if lo<n+1∧f n=0 then upN f lo n else n+1
theorem Qdr (f:Nat→Int) (lo:Nat):∀n,upN f lo n≤n
 |0=>Ql
 |n+1=>by
  unfold upN;split
  ·exact Nat.le_succ_of_le (Qdr f lo n)
  ·exact Ql
theorem Qkq (f:Nat→Int) (lo:Nat):∀n,lo≤n→lo≤upN f lo n
 |0,h=>h
 |n+1,h=>by
  unfold upN;split
  ·next hh=>exact Qkq f lo n (by omega)
  ·exact h
theorem IS.shorter {p:Option Addr} {n m cap:Nat} {f:Nat→Int} {w:World} (h:IS p n cap f w) (hm:m≤n):IS p m cap f w:=
 ⟨fun e=>⟨by have:=(h.nil_ e).1;omega,(h.nil_ e).2⟩,fun a ha i hi=>h.cell a ha i (by omega),h.lt,fun i hi=>h.lo i (by omega),fun i hi=>h.hi i (by omega)⟩
theorem Qnd (p:Option Addr) (n cap:Nat) (f:Nat→Int) (lo:Nat) (w:World) (h:IS p n cap f w) (hc:n≤cap) (hn:n≤1000000):
  Calls Tryz.prog 86 #[.slice p n cap,.int .i64 (lo:Int)] w fun e w'=>e= .returned (.slice p (upN f lo n) cap)∧w=w':=by
 have HI:=Qh h;have HN:=Qh (⟨hc,hn⟩:n≤cap∧n≤1000000);clear h hc hn;go_enter Tryz.func86,Tryz.ntmps86;go_wp2_with fail;go_loopw [0] (fun x wr=>∃k:Nat,x= .slice p k cap∧k≤n∧Hid (upN f lo n=upN f lo k)∧w=wr) (fun x _=>match x with| .slice _ k _=>k|_=>0)
 case atStart=>exact⟨n,rfl,Ql,Qh rfl,rfl⟩
 case round=>
  obtain⟨k,rfl,hk,HU,rfl⟩:=hrel;by_cases hlo:lo<k
  ·have hloi:(k:Int)>(lo:Int):=by omega
   obtain⟨j,rfl⟩:∃j,k=j+1:=⟨k-1,by omega⟩
   obtain⟨K,hK⟩:∃K,K=j+1:=⟨_,rfl⟩;have hw:IntKind.i64.wrap ((K:Int)-1)=(j:Int):=by have:=HN.out;rw [IntWalk.i64_in _ (by omega)];omega
   obtain⟨a,rfl⟩:∃a,p=some a:=by
    cases p with
    |none=>have:=(HI.out.nil_ rfl).1;omega
    |some a=>exact⟨a,rfl⟩
   have c0:=HI.out.cell a rfl j (by omega)
   have hjK:(j:Int)<(K:Int):=by omega
   have hjc:(j:Int)≤(cap:Int):=by have:=HN.out;omega
   have HKJ:=Qh hK;have HLO:=Qh hlo;rw [←hK]at hloi hk⊢;by_cases hf:f j=0
   ·have hfb:(f j==0)=true:=by rw [hf];rfl
    have HU2:Hid (upN f lo n=upN f lo j):=Qh (by rw [HU.out];show(if lo<j+1∧f j=0 then upN f lo j else j+1)=_;rw [if_pos ⟨HLO.out,hf⟩])
    rw [hf]at c0;clear hK hlo HU hf hfb;go_wp2_with fail;exact⟨⟨j,rfl,by have:=HKJ.out;omega,HU2,by trivial⟩,by have:=HKJ.out;simp only;omega⟩
   ·have hfb:(f j==0)=false:=Bool.eq_false_iff.2 fun h=>hf (eq_of_beq h);have HU2:Hid (upN f lo n=K):=Qh (by rw [HU.out,HKJ.out];show(if lo<j+1∧f j=0 then upN f lo j else j+1)=_;rw [if_neg (fun h=>hf h.2)])
    clear hK hlo HU;generalize f j=F at c0 hf hfb;go_wp2_with fail;go_ret;rw [HU2.out];exact⟨rfl,rfl⟩
  ·have hloi:¬(k:Int)>(lo:Int):=by omega
   have HU2:Hid (upN f lo n=k):=Qh (by
    rw [HU.out];cases k with
    |zero=>rfl
    |succ j=>show(if lo<j+1∧f j=0 then upN f lo j else j+1)=_;rw [if_neg (fun h=>hlo h.1)])
   clear hlo HU;go_wp2_with fail;go_ret;rw [HU2.out];exact⟨rfl,rfl⟩
def cntV:List (Int×Nat×Nat)→Nat→Nat
 |[],_=>0
 |x::r,i=>(if x.1=(i:Int)then 1 else 0)+cntV r i
theorem Qqz (a b:List (Int×Nat×Nat)) (i:Nat):cntV (a++b) i=cntV a i+cntV b i:=by
 induction a with
 |nil=>show cntV b i=0+cntV b i;omega
 |cons x a ih=>show(if x.1=(i:Int)then 1 else 0)+cntV (a++b) i=(if x.1=(i:Int)then 1 else 0)+cntV a i+cntV b i;rw [ih];omega
theorem Qcf:∀(a:List (Int×Nat×Nat)) (i:Nat),cntV a i≤a.length
 |[],_=>Ql
 |x::r,i=>by
  have:=Qcf r i;show(if x.1=(i:Int)then 1 else 0)+cntV r i≤r.length+1;split<;>omega
theorem Qld (p:Option Addr) (n cap:Nat) (ws:List (Int×Nat×Nat)) (m:Nat) (w:World) (hw:RS 3 p n cap (ws.map encR) w) (hin:∀x∈ws,0≤x.1∧x.1<(m:Int)) (hn:n≤1000000) (hm:m≤1000):
  Calls Tryz.prog 83 #[.slice p n cap,.int .i64 (m:Int)] w fun e w'=>∃z,e= .returned (.slice (some ⟨z,0,none⟩) m m)∧Blk w' z 3 (rI m fun i=>(cntV ws i:Int))∧Below w.heap.size w w'∧w.heap.size≤z:=by
 have hlen:ws.length=n:=by have:=hw.len;rwa [List.length_map]at this
 have HRW:Hid (∀wx,Below w.heap.size w wx→RS 3 p n cap (ws.map encR) wx):=Qh fun wx hb=>hw.below hb;have HIN:=Qh hin;have HLN:=Qh hlen;have HNN:=Qh (⟨hn,hm⟩:n≤1000000∧m≤1000);have hmk:=fun w=>Qdo m (by omega) w
 obtain⟨z,hz⟩:∃z,z=w.heap.size:=⟨_,rfl⟩;have H0:Hid (Blk (w.alloc (.cells (rI m fun _=>0) 3)) z 3 (rI m fun i=>(cntV (ws.take 0) i:Int))∧Below w.heap.size w (w.alloc (.cells (rI m fun _=>0) 3))):=Qh ⟨by rw [hz];exact Blk.new w _ _,Qb.alloc Ql _⟩
 have HZ:=Qh hz;clear hw hin hlen hn hm hz;go_enter Tryz.func83,Tryz.ntmps83;go_wp2_with fail;rw [←HZ.out];clear hmk;generalize w.alloc (.cells (rI m fun _=>0) 3)=wa at H0⊢;go_loopw [12] (fun u wr=>∃k:Nat,u= .int .i64 (k:Int)∧k≤n∧Hid (Blk wr z 3 (rI m fun i=>(cntV (ws.take k) i:Int))∧Below w.heap.size w wr)) (fun u _=>n-(intOf u).toNat)
 case atStart=>exact⟨0,rfl,Nat.zero_le _,H0⟩
 case round=>
  obtain⟨k,rfl,hk,HR⟩:=hrel;clear H0;by_cases hlt:k<n
  ·have hlti:(k:Int)<(n:Int):=by omega
   obtain⟨a,rfl⟩:=(HRW.out w Qb).some_ (by omega)
   have hkl:k<ws.length:=by rw [HLN.out];exact hlt
   obtain⟨⟨s,y,b⟩,hx⟩:∃x,x=ws[k]'hkl:=⟨_,rfl⟩;have hget:(ws.map encR)[k]? =some [.int .i64 s,.int .i64 (y:Int),.int .i64 (b:Int)]:=by
    rw [List.getElem?_map,List.getElem?_eq_getElem hkl,←hx];rfl
   have hs:=HIN.out (s,y,b) (by rw [hx];exact List.getElem_mem hkl)
   obtain⟨S,rfl⟩:=Int.eq_ofNat_of_zero_le hs.1;have hSn:S<m:=by have:=hs.2;simp only at this;omega
   have hSi:(S:Int)<(m:Int):=by omega
   obtain⟨C,hC⟩:∃C,C=cntV (ws.take k) S:=⟨_,rfl⟩;have hCb:C≤1000000:=by
    have h1:=Qcf (ws.take k) S;rw [List.length_take]at h1;have:=HNN.out;omega
   obtain⟨c0,c1,c2⟩:=(HRW.out wr HR.out.2).at3 hget;have hkw:IntKind.i64.wrap ((k:Int)+1)=((k+1:Nat):Int):=by have:=HNN.out;rw [IntWalk.i64_in _ (by omega)];rfl
   have hCw:IntKind.i64.wrap ((C:Int)+1)=((C+1:Nat):Int):=by rw [IntWalk.i64_in _ (by omega)];rfl
   have HTK:Hid (∀i,cntV (ws.take (k+1)) i=cntV (ws.take k) i+(if(S:Int)=(i:Int)then 1 else 0)):=Qh fun i=>by
    rw [List.take_succ_eq_append_getElem hkl,←hx,Qqz];rfl
   have HB1:=Qh (Blk.new wr 138 #[.int .i64 0,.int .i64 0,.int .i64 0]);have HZ2:=HB1.out.row_ #[.int .i64 (S:Int),.int .i64 (y:Int),.int .i64 (b:Int)];have hb2:=Qai ((Below.refl _ wr).alloc Ql (.cells #[.int .i64 0,.int .i64 0,.int .i64 0] 138)) Ql #[.int .i64 (S:Int),.int .i64 (y:Int),.int .i64 (b:Int)];obtain⟨W2,hW2⟩:∃W2,W2=(wr.alloc (.cells #[.int .i64 0,.int .i64 0,.int .i64 0] 138)).setRow wr.heap.size #[.int .i64 (S:Int),.int .i64 (y:Int),.int .i64 (b:Int)]:=⟨_,rfl⟩;rw [←hW2]at HZ2 hb2;have HWE:=Qh hW2;obtain⟨q5,hq5⟩:∃q5,q5=wr.heap.size:=⟨_,rfl⟩;have HQ5:=Qh hq5;rw [←hq5]at HZ2;have d0:W2.cell? ⟨q5,0,none⟩=some (.int .i64 (S:Int)):=HZ2.cell 0;have hbz:=HR.out.1.below hb2 HR.out.1.lt;have d1:W2.cell? ⟨z,S,none⟩=some (.int .i64 (C:Int)):=by rw [hbz.at_ hSn,hC]
   have d2:W2.frozen? ⟨z,S,none⟩=false:=hbz.frozen _;have HFIN:Hid (Blk (W2.setCell ⟨z,S,none⟩ (.int .i64 ((C+1:Nat):Int))) z 3 (rI m fun i=>(cntV (ws.take (k+1)) i:Int))∧Below w.heap.size w (W2.setCell ⟨z,S,none⟩ (.int .i64 ((C+1:Nat):Int)))):=Qh ⟨(hbz.put hSn (.int .i64 ((C+1:Nat):Int))).cast_ (Qa3 fun j hj=>by
    by_cases e:j=S
    ·subst e;rw [if_pos rfl];show _=Value.int .i64 ((cntV (ws.take (k+1)) j:Nat):Int);rw [HTK.out,if_pos rfl,←hC]
    ·rw [if_neg e];show Value.int .i64 ((cntV (ws.take k) j:Nat):Int)=Value.int .i64 ((cntV (ws.take (k+1)) j:Nat):Int);rw [HTK.out,if_neg (by omega),Nat.add_zero]),(HR.out.2.trans (hb2.mono HR.out.2.size)).setCell (by rw [HZ.out];exact Ql) _⟩
   have HKN:=Qh hlt;clear hx hget hkl hlt hW2 hq5 hs hSn HZ2 hb2 hbz hC hCb HR HTK;go_wp2_with (refine wpList_store_row rfl 138 _ _ rfl wr.heap.size #[.int .i64 (S:Int),.int .i64 (y:Int),.int .i64 (b:Int)] rfl rfl 138 _ HB1.out Qc8 rfl (Qc7 _ _ _) ?_;rw [←HWE.out,←HQ5.out]);exact⟨⟨k+1,by go_num,by have:=HKN.out;omega,HFIN⟩,by simp only [intOf];have:=HKN.out;omega⟩
  ·obtain rfl:k=n:=by omega
   have hlti:¬(k:Int)<(k:Int):=by omega
   have HE:Hid (ws.take k=ws):=Qh (List.take_of_length_le (by rw [HLN.out];exact Ql))
   go_wp2_with fail;go_ret;have h:=HR.out;rw [HE.out]at h;exact⟨z,rfl,h.1,h.2,by rw [HZ.out];exact Ql⟩
def Qbh (b:Nat→Nat) (n:Nat):Nat→Nat
 |0=>0
 |k+1=>if b k≤n then k+1 else Qbh b n k
theorem Qc6 (b:Nat→Nat) (n:Nat):∀k,Qbh b n k≤k
 |0=>Ql
 |k+1=>by
  unfold Qbh;split
  ·exact Ql
  ·exact Nat.le_succ_of_le (Qc6 b n k)
theorem Qb3 (b:Nat→Nat) (n:Nat):∀k i,Qbh b n k≤i→i<k→n<b i
 |0,i,_,h=>by omega
 |k+1,i,h1,h2=>by
  unfold Qbh at h1;split at h1
  ·omega
  ·next h=>
   by_cases e:i=k
   ·subst e;omega
   ·exact Qb3 b n k i h1 (by omega)
theorem Qcy {b:Nat→Nat} (hm:∀i,b i≤b (i+1)) (n:Nat):∀k i,i<Qbh b n k→b i≤n
 |0,i,h=>by unfold Qbh at h;omega
 |k+1,i,h=>by
  unfold Qbh at h;split at h
  ·next hh=>
   have mono:∀d,b i≤b (i+d):=fun d=>by
    induction d with
    |zero=>exact Ql
    |succ d ih=>exact Nat.le_trans ih (hm (i+d))
   have:=mono (k-i);rw [show i+(k-i)=k by omega]at this
   omega
  ·exact Qcy hm n k i h
theorem Qlt (N:Nat) (hN:N≤1000) (b5 b3:Nat) (b:Nat→Nat) (n:Nat) (hm:∀i,b i≤b (i+1)) (w:World) (hf:∀i,i<N→Calls Tryz.prog 140 #[.int .i64 (i:Int),.pointer (some ⟨b5,0,none⟩),.pointer (some ⟨b3,0,none⟩)] w fun e w'=>e= .returned (.bool (decide (n<b i)))∧w'=w):
  Calls Tryz.prog 139 #[.int .i64 (N:Int),.func (.func 140) #[] #[.pointer (some ⟨b5,0,none⟩),.pointer (some ⟨b3,0,none⟩)]] w fun e w'=>e= .returned (.int .i64 (Qbh b n N:Int))∧w=w':=by
 have HF:=Qh hf;have HSL:=Qh (Qc6 b n N);have HSA:=Qh (Qb3 b n N);have HSB:=Qh (Qcy hm n N);have HN:=Qh hN;clear hf hN hm;go_enter Tryz.func139,Tryz.ntmps139;go_wp2_with fail;go_loopw [5,6] (fun x y wr=>∃i j:Nat,x= .int .i64 (i:Int)∧y= .int .i64 (j:Int)∧i≤Qbh b n N∧Qbh b n N≤j∧j≤N∧w=wr) (fun x y _=>(intOf y-intOf x).toNat)
 case atStart=>exact⟨0,N,rfl,rfl,Nat.zero_le _,HSL.out,Ql,rfl⟩
 case round=>
  obtain⟨i,j,rfl,rfl,hi,hj,hjN,rfl⟩:=hrel;by_cases hlt:i<j
  ·have hlti:(i:Int)<(j:Int):=by omega
   have hNb:=HN.out;obtain⟨h,hh⟩:∃h,h=(i+j) /2:=⟨_,rfl⟩;have hw1:IntKind.i64.wrap ((i:Int)+(j:Int))=((i+j:Nat):Int):=by rw [IntWalk.i64_in _ (by omega)];rfl
   have hw2:IntKind.u64.wrap ((i+j:Nat):Int)=((i+j:Nat):Int):=by rw [IntKind.wrap_u64];omega
   have hw3:((i+j:Nat):Int) /2=(h:Int):=by omega
   have hw4:IntKind.i64.wrap (h:Int)=(h:Int):=IntWalk.i64_in _ (by omega)
   have hw5:IntKind.i64.wrap ((h:Int)+1)=((h+1:Nat):Int):=by rw [IntWalk.i64_in _ (by omega)];rfl
   have hhj:h<j:=by omega
   have hhi:i≤h:=by omega
   have C:=HF.out h (by omega)
   have HH:=Qh (⟨hhj,hhi⟩:h<j∧i≤h);generalize hS:i+j=S at hw1 hw2 hw3;clear hS hh hNb hhj hhi;by_cases hb:b h≤n
   ·have hd:decide (n<b h)=false:=decide_eq_false (by omega)
    rw [hd]at C;have HIS:Hid (h+1≤Qbh b n N):=Qh (by
     rcases Nat.lt_or_ge h (Qbh b n N)with h1|h1
     ·exact h1
     ·have:=HSA.out h h1 (by have:=HH.out;omega);omega)
    clear hd hb;go_wp2_with (refine C.mono ?_;rintro e w8 ⟨rfl,rfl⟩);go_roundw
    case rel=>exact⟨h+1,j,rfl,rfl,HIS.out,hj,hjN,by trivial⟩
    case measure=>simp only [intOf];have:=HH.out;omega
   ·have hd:decide (n<b h)=true:=decide_eq_true (by omega)
    rw [hd]at C;have HIS:Hid (Qbh b n N≤h):=Qh (by
     rcases Nat.lt_or_ge h (Qbh b n N)with h1|h1
     ·have:=HSB.out h h1;omega
     ·exact h1)
    clear hd hb;go_wp2_with (refine C.mono ?_;rintro e w8 ⟨rfl,rfl⟩);go_roundw
    case rel=>exact⟨i,h,rfl,rfl,hi,HIS.out,by have:=HH.out;omega,by trivial⟩
    case measure=>simp only [intOf];have:=HH.out;omega
  ·obtain rfl:i=j:=by omega
   have hlti:¬(i:Int)<(i:Int):=by omega
   have HE:Hid (i=Qbh b n N):=Qh (by omega)
   go_wp2_with fail;go_ret;rw [←HE.out];exact⟨rfl,rfl⟩
end Go.Proofs.YtbmcjdoiohcaaaaGreat
