/- Chapter 12 in numbers, no walk: what is packed with its sum; what stands ahead; what is opened. -/
import Derived.Test.YtmhoejmgjbgddaaGreatNP
import Derived.Test.YtmhoejmgjbgddaaGreatMW
import Derived.Test.YtmhoejmgjbgddaaGreatOA
import Derived.Lib.Bytealg
namespace Go.Proofs.YtmhoejmgjbgddaaGreat
open Go.RowKit
def fourB (n:Nat):ByteArray:=txtL [n%256,n /256%256,n /65536%256,n /16777216%256]
def sealT (s:ByteArray):ByteArray:=fourB (moreT 0#32 s).toNat++fourB s.size
def startT:ByteArray:=⟨#[31,139,8]⟩
def plainT:ByteArray:=⟨#[31,139,8,0,0,0,0,0,0,255]⟩
def gzT (s:ByteArray):ByteArray:=plainT++packT s++sealT s
def nameS (s:ByteArray):Nat→Nat→Option Nat
 |0,_=>none
 |f+1,a=>if byteS s a=0 then some (a+1)else nameS s f (a+1)
def extraS (s:ByteArray) (a:Nat):Nat×Nat:=if s.size<a+2∨s.size<a+2+byteS s a+256*byteS s (a+1)then (a,2)else (a+2+byteS s a+256*byteS s (a+1),0)
def textS (s:ByteArray) (a:Nat):Nat×Nat:=match nameS s (s.size-a) a with
 |some b=>(b,0)
 |none=>(a,2)
def sumS (s:ByteArray) (a:Nat):Nat×Nat:=if s.size<a+2 then(a,2)else if s.extract a (a+2)=(fourB (moreT 0#32 (s.extract 0 a)).toNat).extract 0 2 then(a+2,0)else (a,8)
def stepS (c:Bool) (f:Nat→Nat×Nat) (x:Nat×Nat):Nat×Nat:=if x.2≠0∨c=false then x else f x.1
def flagS (s:ByteArray) (k:Nat):Bool:=decide (byteS s 3 /2^k%2=1)
def badS (s:ByteArray):Prop:=s.size<10∨s.extract 0 3≠startT∨32≤byteS s 3
instance (s:ByteArray):Decidable (badS s):=by unfold badS;exact inferInstance
def partsS (s:ByteArray):Nat×Nat:=stepS (flagS s 1) (sumS s) (stepS (flagS s 4) (textS s) (stepS (flagS s 3) (textS s) (stepS (flagS s 2) (extraS s) (10,0))))
def bodyS (s:ByteArray):Nat×Nat:=if badS s then(0,2)else partsS s
def gzOpen (s:ByteArray) (most:Int):ByteArray×Nat:=
 if most<0∨most>1048576 then(⟨#[]⟩,1)else
 if(bodyS s).2≠0 then(⟨#[]⟩,(bodyS s).2)else
 let r:=openS (s.extract (bodyS s).1 s.size) most
 if r.2.2≠0 then(⟨#[]⟩,r.2.2)else
 if s.size-((bodyS s).1+r.2.1)≠8 then(⟨#[]⟩,2)else
 if s.extract ((bodyS s).1+r.2.1) s.size=sealT (txtL r.1)then (txtL r.1,0)else (⟨#[]⟩,8)
theorem nameS_le {s:ByteArray}:∀{f a b:Nat},nameS s f a=some b→a<b∧b≤a+f
 |0,_,_,h=>by cases h
 |f+1,a,b,h=>by
  unfold nameS at h;split at h
  ·cases h;omega
  ·have:=nameS_le h;omega
theorem extraS_le {s:ByteArray} {a:Nat} (h:(extraS s a).2=0):a≤(extraS s a).1∧(extraS s a).1≤s.size:=by
 unfold extraS at h⊢;split at h
 ·cases h
 ·next hn=>rw [if_neg hn];dsimp only;omega
theorem textS_le {s:ByteArray} {a:Nat} (h:(textS s a).2=0) (ha:a≤s.size):a≤(textS s a).1∧(textS s a).1≤s.size:=by
 unfold textS at h⊢;split at h
 ·next b hb=>have:=nameS_le hb;dsimp only;omega
 ·cases h
theorem sumS_le {s:ByteArray} {a:Nat} (h:(sumS s a).2=0):a≤(sumS s a).1∧(sumS s a).1≤s.size:=by
 unfold sumS at h⊢;split at h
 ·cases h
 ·split at h
  ·next h1 h2=>rw [if_neg h1,if_pos h2];dsimp only;omega
  ·cases h
theorem stepS_le {s:ByteArray} {c:Bool} {f:Nat→Nat×Nat} {x:Nat×Nat} (hf:∀a,a≤s.size→(f a).2=0→(f a).1≤s.size) (hx:x.2=0→x.1≤s.size) (h:(stepS c f x).2=0):(stepS c f x).1≤s.size:=by
 unfold stepS at h⊢;split at h
 ·next k=>rw [if_pos k];exact hx h
 ·next k=>rw [if_neg k];exact hf _ (hx (by omega)) h
theorem partsS_le {s:ByteArray} (h0:10≤s.size) (h:(partsS s).2=0):(partsS s).1≤s.size:=
 stepS_le (fun _ _ k=>(sumS_le k).2) (stepS_le (fun _ ha k=>(textS_le k ha).2) (stepS_le (fun _ ha k=>(textS_le k ha).2) (stepS_le (fun _ _ k=>(extraS_le k).2) fun _=>h0))) h
theorem bodyS_le {s:ByteArray} (h:(bodyS s).2=0):(bodyS s).1≤s.size:=by
 unfold bodyS at h⊢;split at h
 ·cases h
 ·next k=>rw [if_neg k];exact partsS_le (by unfold badS at k;omega) h
theorem index_name (s:ByteArray):∀(f a:Nat),a+f=s.size→Go.Lib.indexByte (s.data.toList.drop a) 0=(match nameS s f a with|some b=>((b-1-a:Nat):Int)|none=> -1)
 |0,a,h=>by
  have hl:s.data.toList.length=s.size:=Array.length_toList;rw [List.drop_of_length_le (by omega)]
  rfl
 |f+1,a,h=>by
  have hl:s.data.toList.length=s.size:=Array.length_toList;rw [List.drop_eq_getElem_cons (by omega)]
  have hb:byteS s a=(s.data.toList[a]'(by omega)).toNat:=by
   unfold byteS;rw [dif_pos (by omega)];rfl
  unfold Go.Lib.indexByte nameS;rw [hb];by_cases h0:(s.data.toList[a]'(by omega))=0
  ·rw [if_pos (by rw [h0];rfl),if_pos (by rw [h0];rfl)]
   show(0:Int)=((a+1-1-a:Nat):Int)
   omega
  ·have h1:¬(s.data.toList[a]'(by omega)).toNat=0:=fun e=>h0 (UInt8.toNat_inj.1 e)
   rw [if_neg (by simpa using h0),if_neg h1,index_name s f (a+1) (by omega)]
   cases hn:nameS s f (a+1)with
   |none=>rfl
   |some b=>
    have:=nameS_le hn;have h2:(((b-1-(a+1):Nat):Int)== -1)=false:=by
     rw [beq_eq_false_iff_ne];omega
    dsimp only;rw [h2,if_neg (by decide)]
    show((b-1-(a+1):Nat):Int)+1=((b-1-a:Nat):Int)
    omega
theorem frs_txt (s:ByteArray):txtL (frsB (byteS s) s.size)=s:=by
 unfold txtL;rw [frsB_len];exact textN_is rfl fun j hj=>frsB_get _ hj
theorem gz_open (H s tail:ByteArray) (M:Nat) (hM:s.size≤M) (hm:M≤1048576) (hb:bodyS (H++(packT s++tail))=(H.size,0)):
  gzOpen (H++(packT s++tail)) (M:Int)=if tail.size≠8 then(⟨#[]⟩,2)else if tail=sealT s then(s,0)else (⟨#[]⟩,8):=by
 have e1:(H++(packT s++tail)).extract H.size (H++(packT s++tail)).size=packT s++tail:=by
  rw [size_app];exact ByteArray.extract_append_eq_right rfl rfl
 have e2:(H++(packT s++tail)).extract (H.size+(packT s).size) (H++(packT s++tail)).size=tail:=by
  rw [show H++(packT s++tail)=(H++packT s)++tail by rw [ByteArray.append_assoc],size_app (H++packT s) tail]
  exact ByteArray.extract_append_eq_right (by rw [size_app]) (by rw [size_app])
 have e3:(H++(packT s++tail)).size-(H.size+(packT s).size)=tail.size:=by rw [size_app,size_app];omega
 unfold gzOpen;rw [if_neg (by omega),hb]
 dsimp only;rw [if_neg (fun h=>h rfl),e1,open_packM s tail M hM hm];dsimp only;rw [if_neg (fun h=>h rfl),e2,e3,frs_txt]
theorem body_plain (X:ByteArray):bodyS (plainT++X)=(plainT.size,0):=by
 have hz:plainT.size=10:=rfl;have hb:∀j,j<10→byteS (plainT++X) j=byteS plainT j:=fun j hj=>by rw [byteS_app,if_pos (by rw [hz];exact hj)]
 have h3:byteS (plainT++X) 3=0:=by rw [hb 3 (by decide)];rfl
 have h0:(plainT++X).extract 0 3=startT:=text_same (by rw [ByteArray.size_extract,size_app,hz];show min 3 _-0=3;omega) fun j hj=>by
  rw [ByteArray.size_extract]at hj;rw [byteS_ext _ 0 3 j (by rw [size_app,hz];omega) (by omega),Nat.zero_add,hb j (by omega)]
  have:j=0∨j=1∨j=2:=by omega
  rcases this with rfl|rfl|rfl<;>rfl
 have hf:∀k,flagS (plainT++X) k=false:=fun k=>by unfold flagS;rw [h3,Nat.zero_div];rfl
 have hs:∀f x,stepS false f x=x:=fun f x=>if_pos (.inr rfl);unfold bodyS;rw [if_neg (by unfold badS;rw [size_app,hz,h0,h3];intro h;rcases h with h|h|h;omega;exact h rfl;omega)]
 unfold partsS;rw [hf,hf,hf,hf,hs,hs,hs,hs];rfl
theorem gz_plain (s tail:ByteArray) (M:Nat) (hM:s.size≤M) (hm:M≤1048576):
  gzOpen (plainT++(packT s++tail)) (M:Int)=if tail.size≠8 then(⟨#[]⟩,2)else if tail=sealT s then(s,0)else (⟨#[]⟩,8):=
 gz_open plainT s tail M hM hm (body_plain _)
theorem sealT_size (s:ByteArray):(sealT s).size=8:=by
 unfold sealT fourB txtL;rw [size_app,textN_size,textN_size];rfl
theorem gzT_eq (s:ByteArray):gzT s=plainT++(packT s++sealT s):=ByteArray.append_assoc
theorem gz_self (s:ByteArray) (M:Nat) (hM:s.size≤M) (hm:M≤1048576):gzOpen (gzT s) (M:Int)=(s,0):=by
 rw [gzT_eq,gz_plain s _ M hM hm,if_neg (by rw [sealT_size];decide),if_pos rfl]
theorem gz_bad {s:ByteArray} (h:badS s) (most:Int) (h0:¬(most<0∨most>1048576)):gzOpen s most=(⟨#[]⟩,2):=by
 unfold gzOpen;rw [if_neg h0,show bodyS s=(0,2)from if_pos h];exact if_pos (by decide)
section
variable {B:Nat→Nat} {T M N:Nat}
end
theorem blockS_Rn {B:Nat→Nat} {p0 t M:Nat} {x:Fl} (h:Rn p0 (8*t) M x):Rn p0 (8*t) M (blockS B (8*t) M x).2:=by
 have h2:Rn p0 (8*t) M (bitsS B (8*t) 2 (bitsS B (8*t) 1 x).2).2:=bitsS_Rn (bitsS_Rn h);unfold blockS;dsimp only;generalize bitsS B (8*t) 2 (bitsS B (8*t) 1 x).2=k at h2⊢;split
 ·exact h2
 ·split
  ·exact storedS_Rn h2
  ·split
   ·exact codedS_Rn h2
   ·split
    ·exact codedS_Rn (toldS_Rn h2)
    ·exact h2.err (by decide)
theorem blocksS_Rn {B:Nat→Nat} {p0 t M:Nat}:∀(f:Nat) (b:Bool) {x:Fl},Rn p0 (8*t) M x→Rn p0 (8*t) M (blocksS B (8*t) M f b x)
 |0,_,_,h=>h
 |f+1,b,x,h=>by
  unfold blocksS;split
  ·exact h
  ·exact blocksS_Rn f _ (blockS_Rn h)
theorem openS_used (s:ByteArray) (most:Int):(openS s most).2.1≤s.size∧(openS s most).1.length≤1048576:=by
 unfold openS;split
 ·exact⟨Nat.zero_le _,Nat.zero_le _⟩
 ·have r:=blocksS_Rn (B:=bitH s) (p0:=0) (t:=s.size) (M:=most.toNat) (8*s.size+1) false (x:=⟨0,0,[]⟩) ⟨fun _=>⟨Nat.zero_le _,Nat.zero_le _⟩,Nat.zero_le _⟩
  dsimp only;generalize blocksS (bitH s) (8*s.size) most.toNat (8*s.size+1) false ⟨0,0,[]⟩=X at r⊢;split
  ·exact⟨Nat.zero_le _,Nat.zero_le _⟩
  ·next he=>
   have h1:=r.1 (by omega)
   have h2:=r.2;dsimp only;omega
structure Ho (g:Nat) (w w':World):Prop where
 os:w'.os=w.os
 tape:w'.tape=w.tape
 output:w'.output=w.output
 size:w.heap.size≤w'.heap.size
 block:∀i,i<w.heap.size→i≠g→w'.heap[i]? =w.heap[i]?
structure HW (g:Nat) (s:ByteArray) (a:Nat) (w:World):Prop where
 blk:Blk w g 42 #[.string s,.int .i64 (a:Int)]
 le:a≤s.size
section
variable {g a:Nat} {s:ByteArray} {w w1 w2:World}
theorem Ho.refl (g:Nat) (w:World):Ho g w w:=⟨rfl,rfl,rfl,Nat.le_refl _,fun _ _ _=>rfl⟩
theorem Ho.of (h:Below w.heap.size w w1):Ho g w w1:=⟨h.os,h.tape,h.output,h.size,fun i hi _=>h.block i hi⟩
theorem Ho.trans (h:Ho g w w1) (k:Ho g w1 w2):Ho g w w2:=⟨k.os.trans h.os,k.tape.trans h.tape,k.output.trans h.output,Nat.le_trans h.size k.size,fun i hi hg=>(k.block i (Nat.lt_of_lt_of_le hi h.size) hg).trans (h.block i hi hg)⟩
theorem Ho.set (h:Ho g w w1) (j:Nat) (u:Value):Ho g w (w1.setCell ⟨g,j,none⟩ u):=
 ⟨h.os,h.tape,h.output,by simp [World.setCell];exact h.size,fun i hi hg=>(Below.heap_setCell w1 ⟨g,j,none⟩ u i (show i≠g from hg)).trans (h.block i hi hg)⟩
theorem Ho.drewN (h:Ho g w w1) (n:Nat):Ho g w (w1.drewN n):=⟨h.os,h.tape,h.output,h.size,h.block⟩
theorem Ho.drew (h:Ho g w w1):Ho g w w1.drew:=⟨h.os,h.tape,h.output,h.size,h.block⟩
theorem Ho.blk {q:Nat} {t:TypeId} {cs:Array Value} (h:Ho g w w1) (hb:Blk w q t cs) (hq:q≠g):Blk w1 q t cs:=(h.block q hb.lt hq).trans hb
theorem Ho.below {B:Nat} (h:Ho g w w1) (hB:B≤g) (hg:B≤w.heap.size):Below B w w1:=⟨h.os,h.tape,h.output,h.size,fun i hi=>h.block i (by omega) (by omega)⟩
theorem HW.c0 (h:HW g s a w):w.cell? ⟨g,0,none⟩=some (.string s):=h.blk.cell 0
theorem HW.c1 (h:HW g s a w):w.cell? ⟨g,1,none⟩=some (.int .i64 (a:Int)):=h.blk.cell 1
theorem HW.fz (h:HW g s a w) (j:Nat):w.frozen? ⟨g,j,none⟩=false:=h.blk.frozen j
theorem HW.drewN (h:HW g s a w) (n:Nat):HW g s a (w.drewN n):=⟨h.blk.drewN n,h.le⟩
theorem HW.drew (h:HW g s a w):HW g s a w.drew:=⟨h.blk.drew,h.le⟩
theorem HW.below (h:HW g s a w) (hb:Below w.heap.size w w1):HW g s a w1:=⟨h.blk.below hb h.blk.lt,h.le⟩
theorem HW.to (h:HW g s a w) (b:Nat) (hb:b≤s.size):HW g s b (w.setCell ⟨g,1,none⟩ (.int .i64 (b:Int))):=⟨h.blk.set_ 1 _,hb⟩
end
theorem run_4b (a b c d:Nat) (ha:a<256) (hb:b<256) (hc:c<256) (hd:d<256) (w:World):
  (convert 25 9 (.slice (some ⟨w.heap.size,0,none⟩) 4 4)).run Tryz.prog (w.alloc (.cells #[.int .u8 (a:Int),.int .u8 (b:Int),.int .u8 (c:Int),.int .u8 (d:Int)] 5))= .ok (.string (txtL [a,b,c,d])) (w.alloc (.cells #[.int .u8 (a:Int),.int .u8 (b:Int),.int .u8 (c:Int),.int .u8 (d:Int)] 5)):=by
 have hk:=Blk.new w 5 #[.int .u8 (a:Int),.int .u8 (b:Int),.int .u8 (c:Int),.int .u8 (d:Int)];have e:#[Value.int .u8 (a:Int),.int .u8 (b:Int),.int .u8 (c:Int),.int .u8 (d:Int)]=r8 4 fun i=>BitVec.ofNat 8 ([a,b,c,d].getD i 0):=by
  have k:∀x:Nat,x<256→iw (BitVec.ofNat 8 x)=(x:Int):=fun x hx=>by unfold iw;rw [BitVec.toNat_ofNat,Nat.mod_eq_of_lt (by omega)]
  show _=#[Value.int .u8 (iw (BitVec.ofNat 8 a)),.int .u8 (iw (BitVec.ofNat 8 b)),.int .u8 (iw (BitVec.ofNat 8 c)),.int .u8 (iw (BitVec.ofNat 8 d))]
  rw [k a ha,k b hb,k c hc,k d hd]
 rw [e]at hk;have:=run_string_of_blk (P:=Tryz.prog) (w.alloc (.cells (r8 4 fun i=>BitVec.ofNat 8 ([a,b,c,d].getD i 0)) 5)) 25 9 5 Tryz.underlying25 Tryz.underlying5 Tryz.underlying9 w.heap.size 4 4 5 (fun i=>BitVec.ofNat 8 ([a,b,c,d].getD i 0)) hk;rw [e,this];rfl
set_option maxRecDepth 100000 in
theorem lowestFirst_any (n:Nat) (w:World):
  Calls Tryz.prog 30 #[.int .u32 (n:Int)] w fun e w'=>e= .returned (.string (fourB n))∧Below w.heap.size w w':=by
 have h0:IntKind.u8.wrap (n:Int)=((n%256:Nat):Int):=by rw [IntKind.wrap_u8'];omega
 have h1:IntKind.u8.wrap ((n:Int) /256)=((n /256%256:Nat):Int):=by rw [IntKind.wrap_u8'];omega
 have h2:IntKind.u8.wrap ((n:Int) /65536)=((n /65536%256:Nat):Int):=by rw [IntKind.wrap_u8'];omega
 have h3:IntKind.u8.wrap ((n:Int) /16777216)=((n /16777216%256:Nat):Int):=by rw [IntKind.wrap_u8'];omega
 have R:=run_4b (n%256) (n /256%256) (n /65536%256) (n /16777216%256) (Nat.mod_lt _ (by decide)) (Nat.mod_lt _ (by decide)) (Nat.mod_lt _ (by decide)) (Nat.mod_lt _ (by decide)) w
 have hT:fourB n=txtL [n%256,n /256%256,n /65536%256,n /16777216%256]:=rfl;rw [←hT]at R;clear hT;have hal:=(Below.refl _ w).alloc (Nat.le_refl _) (.cells #[.int .u8 ((n%256:Nat):Int),.int .u8 ((n /256%256:Nat):Int),.int .u8 ((n /65536%256:Nat):Int),.int .u8 ((n /16777216%256:Nat):Int)] 5);generalize n%256=a at*;generalize n /256%256=b at*;generalize n /65536%256=c at*;generalize n /16777216%256=d at*;go_enter Tryz.func30,Tryz.ntmps30;go_wp2_with fail;go_ret;exact⟨rfl,hal⟩
set_option maxRecDepth 100000 in
theorem seal_any (s:ByteArray) (hs:s.size≤1048576) (w:World):
  Calls Tryz.prog 17 #[.string s] w fun e w'=>e= .returned (.string (sealT s))∧Below w.heap.size w w':=by
 have C1:=fun wx=>sum_crc s (by omega) _ rfl wx
 have C2:=fun wx=>lowestFirst_any (moreT 0#32 s).toNat wx;have C3:=fun wx=>lowestFirst_any s.size wx;have hu:IntKind.u32.wrap (s.size:Int)=(s.size:Int):=by rw [IntKind.wrap_u32'];omega
 have hT:sealT s=fourB (moreT 0#32 s).toNat++fourB s.size:=rfl;have hz:¬(((fourB (moreT 0#32 s).toNat).size+(fourB s.size).size:Nat):Int)>9223372036854775807:=by
  have k:∀n,(fourB n).size=4:=fun n=>by unfold fourB txtL;rw [textN_size];rfl
  rw [k,k];decide
 have hi:iw (moreT 0#32 s)=((moreT 0#32 s).toNat:Int):=by unfold iw;rfl
 rw [hi]at C1;rw [hT];generalize fourB (moreT 0#32 s).toNat=A at*;generalize fourB s.size=B at*;generalize (moreT 0#32 s).toNat=c at*;clear hi hT;go_enter Tryz.func17,Tryz.ntmps17;go_wp2_with fail;refine(C1 _).mono ?_;rintro e w1 ⟨rfl,b1⟩;go_wp2_with fail;refine(C2 _).mono ?_;rintro e w2 ⟨rfl,b2⟩;have b2:=b1.trans (b2.mono b1.size);clear b1;go_wp2_with fail;refine(C3 _).mono ?_;rintro e w3 ⟨rfl,b3⟩;have b3:=b2.trans (b3.mono b2.size);clear b2;go_wp2_with fail;go_ret;exact⟨rfl,b3⟩
set_option maxRecDepth 100000 in
theorem take12_any (g a n:Nat) (s:ByteArray) (w:World) (h:HW g s a w) (hs:s.size≤281474976710656) (hn:n≤100000):
  Calls Tryz.prog 63 #[.pointer (some ⟨g,0,none⟩),.int .i64 (n:Int)] w fun e w'=>Ho g w w'∧
   if a+n≤s.size then e= .returned (.tuple #[.string (s.extract a (a+n)),.bool true])∧HW g s (a+n) w' else e= .returned (.tuple #[.string ⟨#[]⟩,.bool false]):=by
 have c0:=h.c0;have c1:=h.c1;have hle:=h.le;have hw1:IntKind.i64.wrap ((s.size:Int)-(a:Int))=(s.size:Int)-(a:Int):=IntWalk.i64_in _ (by omega)
 have hw2:IntKind.i64.wrap ((a:Int)+(n:Int))=((a+n:Nat):Int):=by rw [IntWalk.i64_in _ (by omega)];rfl
 by_cases hin:a+n≤s.size
 ·simp only [if_pos hin]
  have hgt:¬(n:Int)>(s.size:Int)-(a:Int):=by omega
  have hb1:(a:Int)≤((a+n:Nat):Int):=by omega
  have hb2:((a+n:Nat):Int)≤(s.size:Int):=by omega
  have HIN:=Lib.hid hin;clear hin;generalize hA:a+n=b at*;clear hA;go_enter Tryz.func63,Tryz.ntmps63;go_wp2_with fail;go_quiet (fail);have h2:=h.drewN nq;have m2:=(Ho.refl g w).drewN nq;clear h c0 c1;generalize w.drewN nq=w0 at h2 m2⊢;have c0:=h2.c0;have c1:=h2.c1;go_wp2_with fail;go_quiet (fail);have h3:=h2.drewN nq;have m3:=m2.drewN nq;clear h2 m2 c0 c1;generalize w0.drewN nq=w1 at h3 m3⊢;have c0:=h3.c0;have c1:=h3.c1;have f1:=h3.fz 1;go_wp2_with fail;go_ret2;exact⟨m3.set 1 _,rfl,h3.to b HIN.out⟩
 ·simp only [if_neg hin]
  have hgt:(n:Int)>(s.size:Int)-(a:Int):=by omega
  clear hin;go_enter Tryz.func63,Tryz.ntmps63;go_wp2_with fail;go_quiet (fail);have m2:=(Ho.refl g w).drewN nq;clear h c0 c1;generalize w.drewN nq=w0 at m2⊢;go_wp2_with fail;go_ret2;exact⟨m2,rfl⟩
end Go.Proofs.YtmhoejmgjbgddaaGreat
