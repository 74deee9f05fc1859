/- MA -/
import Derived.WalkKit
import Derived.WalkSpells
import Derived.WalkLawsBesides
import Derived.Lib.Hide
import Derived.Below
import Derived.Laws.OwnMore
import Derived.Laws.Rows
import Derived.Deep.Draws
import Derived.Laws.CopyRow
import Derived.Deep.MidRow
import Derived.StillTailTactics
import Derived.Deep.RegionLaw
import Derived.Laws.AppendOwn
import Derived.IntWalk
import Derived.Test.YtbmcjdoiohcaaaaGreatRows
import Derived.Laws.Externs
import Derived.Lib.Mul64
import Derived.BigQuiet
import Derived.Deep.QuietTactic
import Derived.Orders
import Derived.Test.YtbmcjdoiohcaaaaGreatChecked
import Derived.Laws.MakeOwn
import Derived.Lib.ConvBytes
set_option maxRecDepth 100000
set_option maxHeartbeats 400000
namespace Go.Proofs.YtbmcjdoiohcaaaaGreat
open Go.RowKit
theorem Qh {p:Prop} (h:p):Hid p:=Lib.hid h
theorem Ql {n:Nat}:n≤n:=Nat.le_refl n
theorem Qb {B:Nat} {w:World}:Below B w w:=Below.refl B w
def iw {n:Nat} (x:BitVec n):Int:=(x.toNat:Int)
def addw {n:Nat} (x y:BitVec n):BitVec n:=x+y
def subw {n:Nat} (x y:BitVec n):BitVec n:=x-y
def mulw {n:Nat} (x y:BitVec n):BitVec n:=x*y
def andw {n:Nat} (x y:BitVec n):BitVec n:=x&&&y
def orw {n:Nat} (x y:BitVec n):BitVec n:=x|||y
def xorw {n:Nat} (x y:BitVec n):BitVec n:=x^^^y
def notw {n:Nat} (x:BitVec n):BitVec n:= ~~~x
def shlw {n:Nat} (x:BitVec n) (s:Nat):BitVec n:=x<<<s
def shrw {n:Nat} (x:BitVec n) (s:Nat):BitVec n:=x>>>s
def Qkw {n:Nat} (m:Nat) (x:BitVec n):BitVec m:=BitVec.ofNat m x.toNat
def litw (n k:Nat):BitVec n:=BitVec.ofNat n k
theorem Q2j {n:Nat} (x:BitVec n):0≤iw x:=by unfold iw;omega
@[go_sem] theorem Q1y (x y:BitVec 64):IntKind.u64.wrap (iw x+iw y)=iw (addw x y):=by
 simp only [iw,addw,IntKind.wrap_u64,BitVec.toNat_add];omega
@[go_sem] theorem Q1z (x y:BitVec 64):IntKind.u64.wrap (iw x*iw y)=iw (mulw x y):=by
 simp only [iw,mulw,IntKind.wrap_u64,BitVec.toNat_mul];rw [Int.natCast_emod,Int.natCast_mul];rfl
@[go_sem] theorem Q3f (x y:BitVec 32):bits .and .u32 (iw x) (iw y)=iw (andw x y):=by
 simp only [iw,andw,BitVec.toNat_and];exact u32_and_nat _ _ x.isLt y.isLt
@[go_sem] theorem or32 (x y:BitVec 32):bits .or .u32 (iw x) (iw y)=iw (orw x y):=by
 simp only [iw,orw,BitVec.toNat_or];exact u32_or_nat _ _ x.isLt y.isLt
@[go_sem] theorem Q29 (x y:BitVec 32):bits .xor .u32 (iw x) (iw y)=iw (xorw x y):=by
 simp only [iw,xorw,BitVec.toNat_xor];exact u32_xor_nat _ _ x.isLt y.isLt
@[go_sem] theorem Q3g (x y:BitVec 64):bits .and .u64 (iw x) (iw y)=iw (andw x y):=by
 simp only [iw,andw,BitVec.toNat_and];exact u64_and_nat _ _ x.isLt y.isLt
@[go_sem] theorem or64 (x y:BitVec 64):bits .or .u64 (iw x) (iw y)=iw (orw x y):=by
 simp only [iw,orw,BitVec.toNat_or];exact u64_or_nat _ _ x.isLt y.isLt
@[go_sem] theorem xor64 (x y:BitVec 64):bits .xor .u64 (iw x) (iw y)=iw (xorw x y):=by
 simp only [iw,xorw,BitVec.toNat_xor];exact u64_xor_nat _ _ x.isLt y.isLt
@[go_sem] theorem Quv {n:Nat} (x:BitVec n) (s:Nat):iw x /2^s=iw (shrw x s):=by
 simp only [iw,shrw,BitVec.toNat_ushiftRight,Nat.shiftRight_eq_div_pow];rw [Int.natCast_ediv,Int.natCast_pow];rfl
@[go_sem] theorem Q3a {n:Nat} (x:BitVec n):iw x /2=iw (shrw x 1):=Quv x 1
@[go_sem] theorem Q3b {n:Nat} (x:BitVec n):iw x /256=iw (shrw x 8):=Quv x 8
@[go_sem] theorem Q2k {n:Nat} (x:BitVec n):iw x /4294967296=iw (shrw x 32):=Quv x 32
theorem Qj0 (k n:Nat):BitVec.ofInt k (@OfNat.ofNat Int n instOfNat)=BitVec.ofNat k n:=BitVec.ofInt_natCast k n
theorem Qmn {n:Nat} (x:BitVec n):BitVec.ofInt n (iw x)=x:=by
 unfold iw;rw [BitVec.ofInt_natCast,BitVec.ofNat_toNat,BitVec.setWidth_eq]
theorem Qzw {n:Nat} (m:Nat):iw (litw n m)=(m:Int)%((2^n:Nat):Int):=by
 unfold iw litw;rw [BitVec.toNat_ofNat,Int.natCast_emod]
theorem Qjj (x:BitVec 32) (m:Nat):bits .and .u32 (iw x) (@OfNat.ofNat Int m instOfNat)=iw (andw x (litw 32 m)):=by
 rw [←Q3f];unfold bits;simp only [IntKind.bits,Qj0,Qmn,litw]
theorem Qw4 (x:BitVec 32) (m:Nat):bits .xor .u32 (iw x) (@OfNat.ofNat Int m instOfNat)=iw (xorw x (litw 32 m)):=by
 rw [←Q29];unfold bits;simp only [IntKind.bits,Qj0,Qmn,litw]
theorem Qtj (x:BitVec 64) (m:Nat):bits .and .u64 (iw x) (@OfNat.ofNat Int m instOfNat)=iw (andw x (litw 64 m)):=by
 rw [←Q3g];unfold bits;simp only [IntKind.bits,Qj0,Qmn,litw]
@[go_sem] theorem Q3c {n:Nat} (x:BitVec n):IntKind.u8.wrap (iw x)=iw (Qkw 8 x):=by
 simp only [iw,Qkw,IntKind.wrap_u8',BitVec.toNat_ofNat];rw [Int.natCast_emod];rfl
theorem Qvb (x:BitVec 32):bits .xor .u32 4294967295 (iw x)=iw (notw x):=by
 have h:(4294967295:Int)=iw (litw 32 4294967295):=by unfold iw litw;rfl
 rw [h,Q29];unfold xorw notw litw;rw [BitVec.xor_comm];exact congrArg iw BitVec.xor_allOnes
theorem not64 (x:BitVec 64):bits .xor .u64 18446744073709551615 (iw x)=iw (notw x):=by
 have h:(18446744073709551615:Int)=iw (litw 64 18446744073709551615):=by unfold iw litw;rfl
 rw [h,xor64];unfold xorw notw litw;rw [BitVec.xor_comm];exact congrArg iw BitVec.xor_allOnes
@[go_sem] theorem not32' (x:BitVec 32):bits .xor .u32 (if IntKind.u32.signed=true then-1 else IntKind.u32.max) (iw x)=iw (notw x):=Qvb x
attribute [irreducible] iw addw subw mulw andw orw xorw notw shlw shrw Qkw
def row (n:Nat) (f:Nat→Value):Array Value:=((List.range n).map f).toArray
theorem Qbb (n:Nat) (f:Nat→Value):(row n f).size=n:=by simp [row]
theorem Qeu {n:Nat} (f:Nat→Value) {i:Nat} (h:i<n):(row n f)[i]? =some (f i):=by
 simp [row,h]
theorem Qa3 {n:Nat} {f g:Nat→Value} (h:∀i,i<n→f i=g i):row n f=row n g:=by
 unfold row;congr 1;apply List.map_congr_left;intro i hi;exact h i (List.mem_range.1 hi)
theorem Qv3 {n:Nat} (f:Nat→Value) {i:Nat} (h:i<n) (v:Value):(row n f).setIfInBounds i v=row n (fun j=>if j=i then v else f j):=by
 apply Array.ext'
 apply List.ext_getElem?
 intro j;simp only [row,Array.toList_setIfInBounds,List.getElem?_set,List.length_map,List.length_range,List.getElem?_map];by_cases hj:i=j
 ·subst hj;simp [h]
 ·have:¬j=i:=fun e=>hj e.symm;by_cases hn:j<n<;>simp [hj,this,hn]
theorem Qv2 {n:Nat} {f:Nat→Value} (h:∀i,(f i).oneCell'=true):(row n f).all (·.oneCell')=true:=by
 simp [row,h]
def Blk (w:World) (g:Nat) (t:TypeId) (cs:Array Value):Prop:=w.heap[g]? =some (.cells cs t (0,0))
section
variable {w w':World} {g:Nat} {t:TypeId} {cs:Array Value}
theorem Blk.lt (h:Blk w g t cs):g<w.heap.size:=by
 rcases Nat.lt_or_ge g w.heap.size with hlt|hge
 ·exact hlt
 ·unfold Blk at h;rw [Array.getElem?_eq_none hge]at h;cases h
theorem Blk.cell (h:Blk w g t cs) (i:Nat):w.cell? ⟨g,i,none⟩=cs[i]? :=cell_of_row w g i cs t (0,0) h
theorem Blk.at_ {n:Nat} {f:Nat→Value} (h:Blk w g t (row n f)) {i:Nat} (hi:i<n):w.cell? ⟨g,i,none⟩=some (f i):=(h.cell i).trans (Qeu f hi)
theorem Blk.cast_ {cs':Array Value} (h:Blk w g t cs) (e:cs=cs'):Blk w g t cs':=e▸h
theorem Blk.cast' {g':Nat} {cs':Array Value} (h:Blk w g t cs) (e:g=g'∧cs=cs'):Blk w g' t cs':=by obtain⟨rfl,rfl⟩:=e;exact h
theorem Blk.frozen (h:Blk w g t cs) (i:Nat):w.frozen? ⟨g,i,none⟩=false:=by
 unfold Blk at h;simp [World.frozen?,h]
theorem Blk.new (w:World) (t:TypeId) (cs:Array Value):Blk (w.alloc (.cells cs t)) w.heap.size t cs:=heap_alloc_new w _
theorem Blk.drew (h:Blk w g t cs):Blk w.drew g t cs:=h
theorem Blk.drewN (h:Blk w g t cs) (n:Nat):Blk (w.drewN n) g t cs:=h
theorem Blk.alloc (h:Blk w g t cs) (o:Obj):Blk (w.alloc o) g t cs:=(Below.heap_alloc w o g h.lt).trans h
theorem Blk.set_ (h:Blk w g t cs) (i:Nat) (u:Value):Blk (w.setCell ⟨g,i,none⟩ u) g t (cs.setIfInBounds i u):=by
 unfold Blk at h⊢;simp [World.setCell,Array.getElem?_modify,h]
theorem Blk.put {n:Nat} {f:Nat→Value} (h:Blk w g t (row n f)) {i:Nat} (hi:i<n) (u:Value):Blk (w.setCell ⟨g,i,none⟩ u) g t (row n (fun j=>if j=i then u else f j)):=by
 rw [←Qv3 f hi];exact h.set_ i u
theorem Blk.far (h:Blk w g t cs) {p:Addr} (hp:g≠p.block) (u:Value):Blk (w.setCell p u) g t cs:=(Below.heap_setCell w p u g hp).trans h
theorem Blk.below {B:Nat} (h:Blk w g t cs) (hb:Below B w w') (hg:g<B):Blk w' g t cs:=(hb.block g hg).trans h
theorem Blk.row_ (h:Blk w g t cs) (cs':Array Value):Blk (w.setRow g cs') g t cs':=setRow_heap w g cs cs' t _ h
theorem Blk.row_far (h:Blk w g t cs) {k:Nat} (hk:g≠k) (cs':Array Value):Blk (w.setRow k cs') g t cs:=(setRow_other w k g cs' hk).trans h
theorem Qai {B k:Nat} {w0:World} (hb:Below B w0 w) (hBg:B≤k) (cs:Array Value):Below B w0 (w.setRow k cs):=
 hb.trans ⟨rfl,rfl,rfl,by simp,fun i hi=>setRow_other w k i cs (by omega)⟩
end
theorem Qay (g o l:Nat):(⟨g,o,none⟩:Addr).add l=⟨g,o+l,none⟩:=by
 unfold Addr.add;split<;>simp_all
def over (F:Nat→Value) (o n:Nat) (f:Nat→Value) (i:Nat):Value:=if o≤i∧i<o+n then f (i-o)else F i
section
variable {P:Program} {w:World} {g o n N:Nat} {t ty:TypeId} {F f:Nat→Value} {d:TypeDesc}
end
def b8v (b:BitVec 8):Value:= .int .u8 (iw b)
def Qd3 (l:List (BitVec 8)):List UInt8:=l.map UInt8.ofBitVec
theorem Qlj (l:List (BitVec 8)):∀r:ByteArray,(l.map iw).foldl (fun r n=>r.push (UInt8.ofNat n.toNat)) r=⟨(r.data.toList++Qd3 l).toArray⟩:=by
 induction l with
 |nil=>intro r;simp [Qd3]
 |cons b l ih=>
  intro r;rw [List.map_cons,List.foldl_cons,ih];have:UInt8.ofNat (iw b).toNat=UInt8.ofBitVec b:=by
   unfold iw;rw [Int.toNat_natCast];exact UInt8.toBitVec_inj.1 (by simp [UInt8.ofNat])
  simp [Qd3,this,ByteArray.push]
theorem Qcm {P:Program} (w:World) (src dst e base:Nat) (hs:P.underlying src=some (.slice e)) (he:P.underlying e=some (.int .u8)) (hd:P.underlying dst=some .string)
  (v:Value) (n:Nat) (l:List (BitVec 8)) (h:w.ownsRow base e 1 v n (l.map b8v)):(convert src dst v).run P w= .ok (.string ⟨(Qd3 l).toArray⟩) w:=by
 have hlen:l.length=n:=by have:=h.1;simpa using this
 rcases h.2 with⟨rfl,h0⟩|⟨g,cap,cur,rfl,_⟩
 ·subst h0;obtain rfl:l=[]:=List.eq_nil_of_length_eq_zero hlen;rw [run_convert_bytes_string w src dst e _ _ _ hs he hd];rfl
 ·rw [run_convert_bytes_string w src dst e _ _ _ hs he hd];rw [run_bytesToString w ⟨g,0,none⟩ n cap (l.map iw)]
  ·rw [Qlj];simp
  ·have:=run_loadCells_list (P:=P) w ⟨g,0,none⟩ (l.map b8v) (fun j u hu=>h.cells (g:=g) (by simp [Value.ownBlock]) j u hu)
   rw [List.length_map,hlen]at this;rw [this]
   congr 2
   simp [b8v,Function.comp_def]
theorem Qrq {w:World} {base e size n:Nat} {v:Value} {xs:List Value} (h:w.ownsRow base e size v n xs) (q:Nat) (hq:v.ownBlock=some q):base≤q:=by
 rcases h.2 with⟨rfl,_⟩|⟨g',cap,cur,rfl,hg',_⟩
 ·simp [Value.ownBlock]at hq
 ·have:g'=q:=by simpa [Value.ownBlock]using hq
  omega
section
variable {P:Program} {w:World} {g o n N:Nat} {t:TypeId} {F:Nat→Value}
end
end Go.Proofs.YtbmcjdoiohcaaaaGreat
/- Numbers as lists of bytes: doubled, less another one; modulo L. -/
namespace Go.Proofs.YtbmcjdoiohcaaaaGreat
def dc (R c k:Nat):Nat:=(2*(R%2^(8*k))+c) /2^(8*k)
end Go.Proofs.YtbmcjdoiohcaaaaGreat
/- Numbers of 256 bits as digits and words. -/
namespace Go.Proofs.YtbmcjdoiohcaaaaGreat
open Go.RowKit
abbrev r32 (n:Nat) (f:Nat→BitVec 32):Array Value:=row n fun i=>Value.int .u32 (iw (f i))
def N8 (a i:Nat):BitVec 32:=BitVec.ofNat 32 (a /2^(32*i))
def bw (a b k:Nat):BitVec 64:=BitVec.ofNat 64 (if a%2^(32*k)<b%2^(32*k)then 1 else 0)
def mx (a b k:Nat):BitVec 64:=subw (subw (addw (Qkw 64 (N8 a k)) (litw 64 4294967296)) (Qkw 64 (N8 b k))) (bw a b k)
def W64:Nat:=18446744073709551616
def cn (x y k:Nat):Nat:=(x%2^(64*k)+y%2^(64*k)) /2^(64*k)
def nw (n:Nat):BitVec 64:=BitVec.ofNat 64 n
def mulM:BitVec 64:=litw 64 4294967295
def mulT (x y:BitVec 64):BitVec 64:=
 addw (mulw (shrw x 32) (andw y mulM)) (shrw (mulw (andw x mulM) (andw y mulM)) 32)
def Qyj (x y:BitVec 64):BitVec 64:=
 addw (addw (mulw (shrw x 32) (shrw y 32)) (shrw (mulT x y) 32)) (shrw (addw (andw (mulT x y) mulM) (mulw (andw x mulM) (shrw y 32))) 32)
theorem Qu5 (x y:BitVec 64) (w:World):
  Calls Tryz.prog 138 #[.int .u64 (iw x),.int .u64 (iw y)] w fun e w'=>e= .returned (.tuple #[.int .u64 (iw (Qyj x y)),.int .u64 (iw (mulw x y))])∧w=w':=by
 have hm:∀x:BitVec 64,bits .and .u64 (iw x) 4294967295=iw (andw x mulM):=fun x=>Qtj x _;go_enter Tryz.func138,Tryz.ntmps138;go_wp2;go_ret2;exact⟨rfl,rfl⟩
theorem Q2t (x y:BitVec 64):(mulw x y).toNat=x.toNat*y.toNat%W64:=by unfold mulw;rw [BitVec.toNat_mul];rfl
theorem Q2s (x y:BitVec 64):(Qyj x y).toNat=x.toNat*y.toNat /W64:=by
 obtain⟨h1,h2,h3,h4⟩:=Lib.mul64_hi x.toNat y.toNat x.isLt y.isLt;have hx:=x.isLt;have hy:=y.isLt;have ba:=Lib.half_mul_le (a:=x.toNat /4294967296) (b:=y.toNat /4294967296) (by omega) (by omega)
 have bb:=Lib.half_mul_le (a:=x.toNat /4294967296) (b:=y.toNat%4294967296) (by omega) (by omega)
 have bc:=Lib.half_mul_le (a:=x.toNat%4294967296) (b:=y.toNat /4294967296) (by omega) (by omega)
 have bd:=Lib.half_mul_le (a:=x.toNat%4294967296) (b:=y.toNat%4294967296) (by omega) (by omega)
 have em:∀z:BitVec 64,(andw z mulM).toNat=z.toNat%4294967296:=fun z=>by
  unfold andw mulM litw;rw [BitVec.toNat_and,show(BitVec.ofNat 64 4294967295).toNat=2^32-1 by rfl,Nat.and_two_pow_sub_one_eq_mod]
 have es:∀z:BitVec 64,(shrw z 32).toNat=z.toNat /4294967296:=fun z=>by
  unfold shrw;rw [BitVec.toNat_ushiftRight,Nat.shiftRight_eq_div_pow]
 have hT:(mulT x y).toNat=x.toNat /4294967296*(y.toNat%4294967296)+x.toNat%4294967296*(y.toNat%4294967296) /4294967296:=by
  unfold mulT addw mulw;rw [BitVec.toNat_add,es,BitVec.toNat_mul,BitVec.toNat_mul,em,em,es];generalize x.toNat /4294967296*(y.toNat%4294967296)=b at*;generalize x.toNat%4294967296*(y.toNat%4294967296)=d at*;omega
 unfold Qyj;rw [show∀a b c:BitVec 64,(addw (addw a b) c).toNat=(a.toNat+b.toNat+c.toNat)%18446744073709551616 from fun a b c=>by unfold addw;rw [BitVec.toNat_add,BitVec.toNat_add];omega]
 rw [es,es,hT,show(addw (andw (mulT x y) mulM) (mulw (andw x mulM) (shrw y 32))).toNat=((x.toNat /4294967296*(y.toNat%4294967296)+x.toNat%4294967296*(y.toNat%4294967296) /4294967296)%4294967296+x.toNat%4294967296*(y.toNat /4294967296))by
  unfold addw mulw;rw [BitVec.toNat_add,em,hT,BitVec.toNat_mul,em,es];generalize x.toNat%4294967296*(y.toNat /4294967296)=c at*;omega]
 rw [show (mulw (shrw x 32) (shrw y 32)).toNat=x.toNat /4294967296*(y.toNat /4294967296)by unfold mulw;rw [BitVec.toNat_mul,es,es];omega]
 unfold W64;rw [←h4];generalize x.toNat /4294967296*(y.toNat /4294967296)=a at*;generalize x.toNat /4294967296*(y.toNat%4294967296)=b at*;generalize x.toNat%4294967296*(y.toNat /4294967296)=c at*;generalize x.toNat%4294967296*(y.toNat%4294967296)=d at*;omega
theorem Qak {P:Program} {fn:Func} {p q:Tmp} {ty:TypeId} (h:fn.results=#[.cell p ty,.tmp q]) (tmps:Array Value) (w:World) (g:Nat) (t:TypeId) (cs:Array Value) (fr:Nat×Nat) (d:TypeDesc) (v:Value)
  (hp:tmps.getD p undef= .pointer (some ⟨g,0,none⟩)) (hg:w.heap[g]? =some (.cells cs t fr))
  (hu:P.underlying ty=some d) (hd:(match d with| .struct _| .array _ _=>true|_=>false)=true) (hi:(P.info? ty).map (·.size)=some cs.size) (hq:tmps.getD q undef=v):
  (results fn tmps).run P w= .ok (.tuple #[.agg cs,v]) w:=by
 have hp':tmps[p]?.getD undef= .pointer (some ⟨g,0,none⟩):=by simpa using hp
 have hq':tmps[q]?.getD undef=v:=by simpa using hq
 simp [results,h,hp',hq',asAddr,run_loadVar_row w g t ty cs fr d hg hu hd hi]
def Qac (s:ByteArray) (j:Nat):Nat:=if h:j<s.size then(s[j]).toNat else 0
theorem Qaz (s:ByteArray) (j:Nat):Qac s j<256:=by
 unfold Qac;split
 ·exact UInt8.toNat_lt _
 ·decide
theorem Qa2 (s:ByteArray) (j:Nat) (h:j<s.size):(s[j]).toNat=Qac s j:=by unfold Qac;rw [dif_pos h]
abbrev r8 (n:Nat) (f:Nat→BitVec 8):Array Value:=row n fun i=>Value.int .u8 (iw (f i))
theorem Qe6 {P:Program} (w:World) (src dst e:Nat) (hs:P.underlying src=some (.slice e)) (he:P.underlying e=some (.int .u8)) (hd:P.underlying dst=some .string)
  (g n cap:Nat) (t:TypeId) (f:Nat→BitVec 8) (h:Blk w g t (r8 n f)):(convert src dst (.slice (some ⟨g,0,none⟩) n cap)).run P w= .ok (.string ⟨(Qd3 ((List.range n).map f)).toArray⟩) w:=by
 rw [run_convert_bytes_string w src dst e _ _ _ hs he hd];rw [run_bytesToString w ⟨g,0,none⟩ n cap (((List.range n).map f).map iw)]
 ·rw [Qlj];simp
 ·have:=run_loadCells_list (P:=P) w ⟨g,0,none⟩ ((List.range n).map fun i=>Value.int .u8 (iw (f i))) (fun j u hu=>by
   have hadd:(⟨g,0,none⟩:Addr).add j=⟨g,j,none⟩:=by unfold Addr.add;split<;>simp_all
   rw [hadd];simp only [List.getElem?_map,Option.map_eq_some_iff]at hu;obtain⟨i,hi,rfl⟩:=hu;obtain⟨hlt,rfl⟩:j<n∧i=j:=by
    by_cases hj:j<n
    ·rw [List.getElem?_range hj]at hi;exact⟨hj,(Option.some.inj hi).symm⟩
    ·rw [List.getElem?_eq_none (by simp;omega)]at hi
     cases hi
   exact h.at_ hlt)
  rw [List.length_map,List.length_range]at this;rw [this]
  congr 2
  simp [Function.comp_def]
section
variable {P:Program} {ops:Array Oper} {Q:Exit→Act→World→Prop} {md:Region.Mode} {S:Array Bool→World→Prop}
def Qbv (P:Program) (R:World→Prop) (v:Value):Result Next→Prop
 | .ok (.value u) w'=>u=v∧R w'
 | .ok .skip w'=>v=undef∧R w'
 | .ok (.enter f args) w'=>Calls P f args w' fun e w''=>e= .returned v∧R w''
 |_=>False
theorem Qbv.upon {R:World→Prop} {o:Oper} {a:Act} {v:Value} {r:Result Next} {K:Act→World→Prop} (h:Qbv P R v r) (hK:∀w',R w'→K (a.put o.dst v) w'):o.upon P a K Q r:=by
 cases r with
 |ok n w'=>
  cases n with
  |value u=>obtain⟨rfl,hS⟩:=h;exact hK _ hS
  |skip=>obtain⟨rfl,hS⟩:=h;exact hK _ hS
  |enter f args=>
   refine Calls.mono h ?_;rintro e w'' ⟨rfl,hS⟩;exact hK _ hS
  |_=>exact h.elim
 |halt x w'=>exact h.elim
def Qfl (md:Region.Mode) (ops:Array Oper) (listed:Array Bool):Prop:=
 ∀(j:Nat) (o:Oper),ops[j]? =some o→listed.getD j false=true→∀e∈o.after,Region.binds md e=true→listed.getD e.on false=true
structure May (md:Region.Mode) (ops:Array Oper) (i:Nat) (L:Array Bool):Prop where
 size:L.size=ops.size
 closed:Qfl md ops L
 ready:i∈Region.ready md ops L
def Qbo (P:Program) (md:Region.Mode) (ops:Array Oper) (S:Array Bool→World→Prop) (i:Nat) (o:Oper) (v:Value) (a:Act):Prop:=
 (Region.wanted o (yielded ops a.tmps)=true∧∀L w,May md ops i L→S L w→Qbv P (S (L.setIfInBounds i true)) v ((execOp a.eval o).run P w))∨
 (Region.wanted o (yielded ops a.tmps)=false∧v=undef∧∀L w,May md ops i L→S L w→S (L.setIfInBounds i true) w)
theorem Qbo.of_same {i:Nat} {o:Oper} {v:Value} {a a':Act} (hy:Qbo P md ops S i o v a) (he:execOp a'.eval o=execOp a.eval o)
  (hw:Region.wanted o (yielded ops a'.tmps)=Region.wanted o (yielded ops a.tmps)):Qbo P md ops S i o v a':=by
 unfold Qbo at*;rw [he,hw];exact hy
theorem Qbo.wpOp {i:Nat} {o:Oper} {v:Value} {a:Act} (hi:ops[i]? =some o) (hy:Qbo P md ops S i o v a) {L:Array Bool} (hm:May md ops i L)
  {K:Act→World→Prop} {w:World} (hS:S L w) (h:∀w',S (L.setIfInBounds i true) w'→K (a.put o.dst v) w'):wpOp P ops Q i K a w:=by
 unfold Go.wpOp;simp only [hi];rcases hy with⟨hw,hv⟩|⟨hw,rfl,hv⟩
 ·simp only [hw,if_true,Oper.wp];exact .inl ((hv L w hm hS).upon h)
 ·simp only [hw,Bool.false_eq_true,if_false];exact h _ (hv L w hm hS)
def anyL (P:Program) (md:Region.Mode) (ops:Array Oper) (Q:Exit→Act→World→Prop) (S:Array Bool→World→Prop):Nat→Array Bool→Act→Prop
 |0,listed,a=>Region.ready md ops listed=[]∧∀w,S listed w→Q .normal a w
 |fuel+1,listed,a=>
  (Region.ready md ops listed=[]→∀w,S listed w→Q .normal a w)∧
  ∀i∈Region.ready md ops listed,∃o v,ops[i]? =some o∧Qbo P md ops S i o v a∧anyL P md ops Q S fuel (listed.setIfInBounds i true) (a.put o.dst v)
theorem Qbo.put {i:Nat} {oi oj:Oper} {v u:Value} {a:Act} (hap:oi.apart ops oj=true) (hsi:∀cs b,oi.op≠ .select cs b) (hy:Qbo P md ops S i oi v a):Qbo P md ops S i oi v (a.put oj.dst u):=by
 obtain⟨_,_,h3⟩:=Oper.apart_spec hap;exact hy.of_same (execOp_put oi hsi a oj.dst u h3) (wanted_put oi a oj.dst u h3)
theorem Qbo.unput {j:Nat} {oi oj:Oper} {v u:Value} {a:Act} (hap:oi.apart ops oj=true) (hsj:∀cs b,oj.op≠ .select cs b) (hy:Qbo P md ops S j oj u (a.put oi.dst v)):Qbo P md ops S j oj u a:=by
 obtain⟨h1,_,_⟩:=Oper.apart_spec hap;exact hy.of_same (execOp_put oj hsj a oi.dst v h1).symm (wanted_put oj a oi.dst v h1).symm
theorem Qse {i:Nat} {oi:Oper} {v:Value} (hi:ops[i]? =some oi) (hsel:∀(j:Nat) (o:Oper) cs b,ops[j]? =some o→o.op≠ .select cs b):
  ∀(fuel:Nat) (listed:Array Bool) (a:Act),
   (∀j oj,ops[j]? =some oj→j≠i→listed.getD j true=false→(∀e∈oj.after,Region.binds md e=true→e.on≠i)→oi.apart ops oj=true)→
   i∈Region.ready md ops listed→Qbo P md ops S i oi v a→
   anyL P md ops Q S fuel (listed.setIfInBounds i true) (a.put oi.dst v)→anyL P md ops Q S (fuel+1) listed a:=by
 intro fuel
 induction fuel with
 |zero=>
  intro listed a _ hr hy H;refine⟨fun h=>(by rw [h]at hr;cases hr),fun j hj=> ?_⟩
  by_cases hji:j=i
  ·subst hji;exact⟨oi,v,hi,hy,H⟩
  ·have:=ready_mono hj hji;rw [H.1]at this;cases this
 |succ fuel ih=>
  intro listed a hfree hr hy H;refine⟨fun h=>(by rw [h]at hr;cases hr),fun j hj=> ?_⟩
  by_cases hji:j=i
  ·subst hji;exact⟨oi,v,hi,hy,H⟩
  ·obtain⟨oj,u,hoj,h1,h2⟩:=H.2 j (ready_mono hj hji);obtain⟨hjun,oj',hoj',hall⟩:=mem_ready.1 hj;obtain rfl:oj=oj':=by rw [hoj]at hoj';cases hoj';rfl
   have hnot:∀e∈oj.after,Region.binds md e=true→e.on≠i:=fun e he hb heq=>by
    have h1:=hall e he hb;have h0:=(mem_ready.1 hr).1;rw [heq]at h1;rcases Nat.lt_or_ge i listed.size with h'|h'
    ·simp [h']at h0 h1;rw [h0]at h1;cases h1
    ·simp [Array.getElem?_eq_none h']at h1
   have hap:=hfree j oj hoj hji hjun hnot;have hfree':∀k ok,ops[k]? =some ok→k≠i→(listed.setIfInBounds j true).getD k true=false→
     (∀e∈ok.after,Region.binds md e=true→e.on≠i)→oi.apart ops ok=true:=fun k ok hk hki hun hno=>by
    refine hfree k ok hk hki ?_ hno;by_cases hjk:j=k
    ·subst hjk;exact hjun
    ·rw [getD_set_ne true hjk]at hun;exact hun
   refine⟨oj,u,hoj,h1.unput hap (fun cs b=>hsel j oj cs b hoj),?_⟩;refine ih (listed.setIfInBounds j true) _ hfree' (ready_mono hr (Ne.symm hji)) (hy.put hap (fun cs b=>hsel i oi cs b hi)) ?_;rw [Array.setIfInBounds_comm _ _ hji,←Act.put_comm a v u (Oper.apart_spec hap).2.1];exact h2
theorem Qfl.start {n:Nat}:Qfl md ops (Array.replicate n false):=fun j o _ h=>by
 exfalso
 simp [Array.getElem?_replicate]at h
 split at h<;>simp_all
theorem Qpn {listed:Array Bool} {i j:Nat} (h:(listed.setIfInBounds i true).getD j false=true):j=i∨listed.getD j false=true:=by
 by_cases hij:i=j
 ·exact .inl hij.symm
 ·rw [getD_set_ne false hij]at h;exact .inr h
theorem Qfl.set {listed:Array Bool} {i:Nat} (h:Qfl md ops listed) (hr:i∈Region.ready md ops listed):Qfl md ops (listed.setIfInBounds i true):=fun j o ho hj e he hb=>by
 rcases Qpn hj with rfl|hj
 ·obtain⟨_,o',ho',hall⟩:=mem_ready.1 hr;rw [ho]at ho';cases ho';exact getD_set_true (hall e he hb)
 ·exact getD_set_true (h j o ho hj e he hb)
def Qwz (md:Region.Mode) (ops:Array Oper) (l:List Nat):List Nat:=
 l.flatMap fun j=>((ops[j]?).map fun o=>(o.after.toList.filter (Region.binds md)).map (·.on)).getD []
theorem Qnc {listed:Array Bool} (hc:Qfl md ops listed) {l:List Nat} (h:∀j∈l,listed.getD j false=true):∀j∈Qwz md ops l,listed.getD j false=true:=fun j hj=>by
 unfold Qwz at hj;obtain⟨k,hk,hj⟩:=List.mem_flatMap.1 hj;cases ho:ops[k]? with
 |none=>simp [ho]at hj
 |some o=>
  simp only [ho,Option.map_some,Option.getD_some,List.mem_map,List.mem_filter]at hj;obtain⟨e,⟨he,hb⟩,rfl⟩:=hj;exact hc k o ho (h k hk) e (Array.mem_toList_iff.1 he) hb
def Qwy (md:Region.Mode) (ops:Array Oper):Nat→List Nat→List Nat
 |0,l=>l
 |n+1,l=>Qwy md ops n ((l++Qwz md ops l).eraseDups)
theorem Qky {l:List Nat} {x:Nat} (h:x∈l.eraseDups):x∈l:=by simpa using h
theorem Qhv {listed:Array Bool} (hc:Qfl md ops listed):∀(n:Nat) (l:List Nat),(∀j∈l,listed.getD j false=true)→∀j∈Qwy md ops n l,listed.getD j false=true
 |0,_,h=>h
 |n+1,l,h=>Qhv hc n _ fun j hj=>by
  rcases List.mem_append.1 (Qky hj)with hj|hj
  ·exact h j hj
  ·exact Qnc hc h j hj
def Qne (md:Region.Mode) (ops:Array Oper) (n t i:Nat):Bool:=(Qwy md ops n [t]).contains i
theorem Qes {L:Array Bool} {n t i:Nat} (hm:May md ops i L) (hw:Qne md ops n t i=true):L.getD t false=false:=by
 cases ht:L.getD t false with
 |false=>rfl
 |true=>
  have h3:∀j∈[t],L.getD j false=true:=fun j hj=>by
   rw [List.mem_singleton.1 hj];exact ht
  have h4:=Qhv hm.closed n _ h3 i (by simpa [Qne]using hw)
  obtain⟨hun,_⟩:=mem_ready.1 hm.ready;rcases Nat.lt_or_ge i L.size with h'|h'
  ·simp [h']at hun h4;rw [hun]at h4;cases h4
  ·simp [Array.getElem?_eq_none h']at h4
theorem Qk0:∀(fuel:Nat) (listed:Array Bool) (a:Act),listed.size=ops.size→Qfl md ops listed→anyL P md ops Q S fuel listed a→∀w,S listed w→wpAny P md ops Q fuel listed a w
 |0,_,_,_,_,h,w,hS=>⟨h.1,h.2 w hS⟩
 |fuel+1,listed,a,hs,hc,h,w,hS=>
  ⟨fun h0=>h.1 h0 w hS,fun j hj=>by
   obtain⟨o,v,ho,hy,H⟩:=h.2 j hj;exact hy.wpOp ho ⟨hs,hc,hj⟩ hS fun w' hS'=>Qk0 fuel _ _ (by simpa using hs) (hc.set hj) H w' hS'⟩
/-! The moves. -/
theorem Qdt {i:Nat} {oi:Oper} {r:List Oper} (h:ops.toList.drop i=oi::r):ops[i]? =some oi:=by
 have h1:(ops.toList.drop i)[0]? =some oi:=by rw [h];rfl
 rw [List.getElem?_drop]at h1
 simpa using h1
theorem Qaa {i:Nat} {oi:Oper} {r:List Oper} {v:Value} {fuel:Nat} {listed:Array Bool} {a:Act} (hi:ops.toList.drop i=oi::r)
  (hy:Qbo P md ops S i oi v a)
  (h:anyL P md ops Q S fuel (listed.setIfInBounds i true) (a.put oi.dst v)) (hs:Region.noSelect ops=true:=by kernel_rfl) (hf:Region.free md ops listed i=true:=by kernel_rfl) (hr:(Region.ready md ops listed).contains i=true:=by kernel_rfl):anyL P md ops Q S (fuel+1) listed a:=
 Qse (Qdt hi) (Region.noSelect_spec hs) fuel listed a (Region.free_spec (Qdt hi) hf) (by simpa using hr) hy h
theorem Qag {listed:Array Bool} {a:Act} (hr:Region.ready md ops listed=[]) (h:∀w,S listed w→Q .normal a w):∀fuel,anyL P md ops Q S fuel listed a
 |0=>⟨hr,h⟩
 |_+1=>⟨fun _=>h,by rw [hr];simp⟩
theorem Qad {id:Nat} {a:Act} {w:World} (S:Array Bool→World→Prop) (hm:P.follows .mixedOrders=true) (hS:S (Array.replicate ops.size false) w.drew)
  (h:anyL P .any ops Q S ops.size (Array.replicate ops.size false) a):(Code.region id ops true).wp P Q a w:=
 wp_region_any hm (Qk0 _ _ _ (by simp) Qfl.start h _ hS)
theorem Qab {R:World→Prop} {v:Value} {r:Result Next} {w:World} (h:r= .ok (.value v) w) (hS:R w):Qbv P R v r:=by subst h;exact⟨rfl,hS⟩
theorem Qao {R:World→Prop} {v:Value} {r:Result Next} {w:World} {f:FuncId} {args:Array Value} (hc:Calls P f args w fun e w'=>e= .returned v∧R w') (h:r= .ok (.enter f args) w):Qbv P R v r:=by subst h;exact hc
theorem Qia {R:World→Prop} {o:Oper} {a:Act} {w:World} (ty:TypeId) (x:Operand) (ho:o.op= .load ty x)
  (g:Nat) (hx:a.eval x= .pointer (some ⟨g,0,none⟩)) (t:TypeId) (cs:Array Value) (d:TypeDesc) (hg:Blk w g t cs)
  (hu:P.underlying ty=some d) (hd:(match d with| .struct _| .array _ _=>true|_=>false)=true) (hi:(P.info? ty).map (·.size)=some cs.size)
  (hR:R w):Qbv P R (.agg cs) ((execOp a.eval o).run P w):=by
 have:(execOp a.eval o).run P w= .ok (.value (.agg cs)) w:=by
  unfold execOp;simp only [ho,hx,Instr.loadAt,Instr.sureAddr,Sem.run_bind,Sem.run_pure,Result.andThen_ok,run_loadVar_row w g t ty cs (0,0) d hg hu hd hi]
 rw [this];exact⟨rfl,hR⟩
theorem Qpv {R:World→Prop} {o:Oper} {a:Act} {w:World} (ty:TypeId) (x y:Operand) (ho:o.op= .store ty x y)
  (g:Nat) (cells:Array Value) (hx:a.eval x= .pointer (some ⟨g,0,none⟩)) (hy:a.eval y= .agg cells)
  (t:TypeId) (old:Array Value) (hg:Blk w g t old) (hi:(P.info? ty).map (·.size)=some cells.size)
  (hold:old.size=cells.size) (h1:cells.all (·.oneCell')=true)
  (hR:R (w.setRow g cells)):Qbv P R undef ((execOp a.eval o).run P w):=by
 have:(execOp a.eval o).run P w= .ok .skip (w.setRow g cells):=by
  unfold execOp;simp only [ho,hx,hy,Instr.storeAt,Instr.sureAddr,Sem.run_bind,Sem.run_pure,Result.andThen_ok,run_storeVar_row w g t ty old cells hg hi hold h1]
 rw [this];exact⟨rfl,hR⟩
/-! The invariant hangs on whether two operations (stores) have come up. -/
def Two (s t:Nat) (T:Bool→Bool→World→Prop) (L:Array Bool) (w:World):Prop:=T (L.getD s false) (L.getD t false) w
variable {T:Bool→Bool→World→Prop} {s t:Nat}
theorem Qaf {i:Nat} {o:Oper} {v:Value} {a:Act} (hw:Region.wanted o (yielded ops a.tmps)=true)
  (h:∀b c w,T b c w→Qbv P (T b c) v ((execOp a.eval o).run P w)) (hs:i≠s:=by decide) (ht:i≠t:=by decide):Qbo P md ops (Two s t T) i o v a:=
 .inl ⟨hw,fun L w _ hS=>by unfold Two at*;rw [getD_set_ne false hs,getD_set_ne false ht];exact h _ _ w hS⟩
theorem tV {i:Nat} {oi:Oper} {r:List Oper} {v:Value} {fuel:Nat} {listed:Array Bool} {a:Act} (hi:ops.toList.drop i=oi::r) (hw:Region.wanted oi (yielded ops a.tmps)=true)
  (h:anyL P md ops Q (Two s t T) fuel (listed.setIfInBounds i true) (a.put oi.dst v)) (hy:∀w,(execOp a.eval oi).run P w= .ok (.value v) w:=by intro;go_simp;skip)
  (hs:Region.noSelect ops=true:=by kernel_rfl) (hf:Region.free md ops listed i=true:=by kernel_rfl) (hr:(Region.ready md ops listed).contains i=true:=by kernel_rfl) (h1:i≠s:=by decide) (h2:i≠t:=by decide):anyL P md ops Q (Two s t T) (fuel+1) listed a:=
 Qaa hi (Qaf hw (fun _ _ w hT=>Qab (hy w) hT) h1 h2) h hs hf hr
theorem tA {i:Nat} {oi:Oper} {r:List Oper} {v:Value} {fuel:Nat} {listed:Array Bool} {a:Act} (hi:ops.toList.drop i=oi::r) (hw:Region.wanted oi (yielded ops a.tmps)=true)
  (h:anyL P md ops Q (Two s t T) fuel (listed.setIfInBounds i true) (a.put oi.dst v)) (hy:∀w,(execOp a.eval oi).run P w= .ok (.value v) w:=by intro;go_simp<;>rfl)
  (hs:Region.noSelect ops=true:=by kernel_rfl) (hf:Region.free md ops listed i=true:=by kernel_rfl) (hr:(Region.ready md ops listed).contains i=true:=by kernel_rfl) (h1:i≠s:=by decide) (h2:i≠t:=by decide):anyL P md ops Q (Two s t T) (fuel+1) listed a:=
 Qaa hi (Qaf hw (fun _ _ w hT=>Qab (hy w) hT) h1 h2) h hs hf hr
theorem tL {i:Nat} {oi:Oper} {r:List Oper} {v:Value} {fuel:Nat} {listed:Array Bool} {a:Act} (hi:ops.toList.drop i=oi::r) (hw:Region.wanted oi (yielded ops a.tmps)=true) (hy:∀b c w,T b c w→(execOp a.eval oi).run P w= .ok (.value v) w)
  (h:anyL P md ops Q (Two s t T) fuel (listed.setIfInBounds i true) (a.put oi.dst v))
  (hs:Region.noSelect ops=true:=by kernel_rfl) (hf:Region.free md ops listed i=true:=by kernel_rfl) (hr:(Region.ready md ops listed).contains i=true:=by kernel_rfl) (h1:i≠s:=by decide) (h2:i≠t:=by decide):anyL P md ops Q (Two s t T) (fuel+1) listed a:=
 Qaa hi (Qaf hw (fun b c w hT=>Qab (hy b c w hT) hT) h1 h2) h hs hf hr
theorem tW {i:Nat} {oi:Oper} {r:List Oper} {v:Value} {fuel:Nat} {listed:Array Bool} {a:Act} (hi:ops.toList.drop i=oi::r) (hw:Region.wanted oi (yielded ops a.tmps)=true)
  (h:anyL P md ops Q (Two s t T) fuel (listed.setIfInBounds i true) (a.put oi.dst v)) (hy:∀b c w,T b c w→(execOp a.eval oi).run P w= .ok (.value v) w:=by intro _ _ w hT;cases hT;go_simp<;>rfl)
  (hs:Region.noSelect ops=true:=by kernel_rfl) (hf:Region.free md ops listed i=true:=by kernel_rfl) (hr:(Region.ready md ops listed).contains i=true:=by kernel_rfl) (h1:i≠s:=by decide) (h2:i≠t:=by decide):anyL P md ops Q (Two s t T) (fuel+1) listed a:=
 Qaa hi (Qaf hw (fun b c w hT=>Qab (hy b c w hT) hT) h1 h2) h hs hf hr
theorem tN {i:Nat} {oi:Oper} {r:List Oper} {v:Value} {fuel:Nat} {listed:Array Bool} {a:Act} (hi:ops.toList.drop i=oi::r) (hw:Region.wanted oi (yielded ops a.tmps)=true)
  (h:anyL P md ops Q (Two s t T) fuel (listed.setIfInBounds i true) (a.put oi.dst v)) (hy:∀b c w,T b c w→(execOp a.eval oi).run P w= .ok (.value v) w:=by intro _ _ w hT;obtain⟨_,hx⟩:=hT;subst hx;go_simp<;>rfl)
  (hs:Region.noSelect ops=true:=by kernel_rfl) (hf:Region.free md ops listed i=true:=by kernel_rfl) (hr:(Region.ready md ops listed).contains i=true:=by kernel_rfl) (h1:i≠s:=by decide) (h2:i≠t:=by decide):anyL P md ops Q (Two s t T) (fuel+1) listed a:=
 Qaa hi (Qaf hw (fun b c w hT=>Qab (hy b c w hT) hT) h1 h2) h hs hf hr
theorem tM {i:Nat} {oi:Oper} {r:List Oper} {v:Value} {fuel:Nat} {listed:Array Bool} {a:Act} (hi:ops.toList.drop i=oi::r) (hw:Region.wanted oi (yielded ops a.tmps)=true)
  (h:anyL P md ops Q (Two s t T) fuel (listed.setIfInBounds i true) (a.put oi.dst v)) (hy:∀b c w,T b c w→(execOp a.eval oi).run P w= .ok (.value v) w:=by intro _ _ w hT;obtain⟨_,hx⟩:=hT;subst hx;go_simp;skip)
  (hs:Region.noSelect ops=true:=by kernel_rfl) (hf:Region.free md ops listed i=true:=by kernel_rfl) (hr:(Region.ready md ops listed).contains i=true:=by kernel_rfl) (h1:i≠s:=by decide) (h2:i≠t:=by decide):anyL P md ops Q (Two s t T) (fuel+1) listed a:=
 Qaa hi (Qaf hw (fun b c w hT=>Qab (hy b c w hT) hT) h1 h2) h hs hf hr
theorem tT {i:Nat} {oi:Oper} {r:List Oper} {v:Value} {fuel:Nat} {listed:Array Bool} {a:Act} (hi:ops.toList.drop i=oi::r) (hw:Region.wanted oi (yielded ops a.tmps)=true)
  (h:anyL P md ops Q (Two s t T) fuel (listed.setIfInBounds i true) (a.put oi.dst v)) (hy:∀b c w,T b c w→(execOp a.eval oi).run P w= .ok (.value v) w:=by intro _ _ _ _;go_simp;try rfl)
  (hs:Region.noSelect ops=true:=by kernel_rfl) (hf:Region.free md ops listed i=true:=by kernel_rfl) (hr:(Region.ready md ops listed).contains i=true:=by kernel_rfl) (h1:i≠s:=by decide) (h2:i≠t:=by decide):anyL P md ops Q (Two s t T) (fuel+1) listed a:=
 Qaa hi (Qaf hw (fun b c w hT=>Qab (hy b c w hT) hT) h1 h2) h hs hf hr
theorem Qae {i:Nat} {o:Oper} {a:Act} (hw:Region.wanted o (yielded ops a.tmps)=false) (hs:i≠s:=by decide) (ht:i≠t:=by decide):Qbo P md ops (Two s t T) i o undef a:=
 .inr ⟨hw,rfl,fun L w _ hS=>by unfold Two at*;rw [getD_set_ne false hs,getD_set_ne false ht];exact hS⟩
theorem Qah {i n:Nat} {o:Oper} {v:Value} {a:Act} (hw:Region.wanted o (yielded ops a.tmps)=true)
  (h:∀c w,T false c w→Qbv P (T false c) v ((execOp a.eval o).run P w)) (hs:i≠s:=by decide) (ht:i≠t:=by decide) (hb:Qne md ops n s i=true:=by kernel_rfl):Qbo P md ops (Two s t T) i o v a:=
 .inl ⟨hw,fun L w hm hS=>by unfold Two at*;rw [getD_set_ne false hs,getD_set_ne false ht];rw [Qes hm hb]at hS⊢;exact h _ w hS⟩
theorem May.unlisted {i:Nat} {L:Array Bool} (hm:May md ops i L):L.getD i false=false∧(L.setIfInBounds i true).getD i false=true:=by
 obtain⟨hun,o,ho,_⟩:=mem_ready.1 hm.ready;have hlt:i<L.size:=by rw [hm.size];exact(Array.getElem?_eq_some_iff.1 ho).1
 simp [hlt]at hun⊢
 exact hun
theorem Qa5 {o:Oper} {v:Value} {a:Act} (hne:s≠t) (hw:Region.wanted o (yielded ops a.tmps)=true)
  (h:∀c w,T false c w→Qbv P (T true c) v ((execOp a.eval o).run P w)):Qbo P md ops (Two s t T) s o v a:=
 .inl ⟨hw,fun L w hm hS=>by unfold Two at*;rw [hm.unlisted.2,getD_set_ne false hne];rw [hm.unlisted.1]at hS;exact h _ w hS⟩
theorem Qo4 {o:Oper} {v:Value} {a:Act} (hne:t≠s) (hw:Region.wanted o (yielded ops a.tmps)=true)
  (h:∀b w,T b false w→Qbv P (T b true) v ((execOp a.eval o).run P w)):Qbo P md ops (Two s t T) t o v a:=
 .inl ⟨hw,fun L w hm hS=>by unfold Two at*;rw [hm.unlisted.2,getD_set_ne false hne];rw [hm.unlisted.1]at hS;exact h _ w hS⟩
end
structure Qbk (B:Nat) (w0:World) (l:List (Nat×TypeId×Array Value)) (w:World):Prop where
 b:Below B w0 w
 lo:B≤w.heap.size
 blk:∀x∈l,Blk w x.1 x.2.1 x.2.2
theorem Qbk.below {B:Nat} {w0 w w':World} {l:List (Nat×TypeId×Array Value)} (h:Qbk B w0 l w) (hb:Below w.heap.size w w'):Qbk B w0 l w':=
 ⟨h.b.trans (hb.mono h.lo),Nat.le_trans h.lo hb.size,fun x hx=>(h.blk x hx).below hb (h.blk x hx).lt⟩
theorem Qbk.drew {B:Nat} {w0 w:World} {l:List (Nat×TypeId×Array Value)} (h:Qbk B w0 l w):Qbk B w0 l w.drew:=⟨h.b.drew,h.lo,fun x hx=>(h.blk x hx).drew⟩
theorem Qbk.alloc {B:Nat} {w0 w:World} {l:List (Nat×TypeId×Array Value)} (h:Qbk B w0 l w) (o:Obj):Qbk B w0 l (w.alloc o):=
 ⟨h.b.alloc h.lo _,Nat.le_trans h.lo (by simp),fun x hx=>(h.blk x hx).alloc o⟩

section
variable {B:Nat} {w0 w w':World} {l:List (Nat×TypeId×Array Value)}
theorem Qbk.lt (h:Qbk B w0 l w):∀x∈l,x.1<w.heap.size:=fun x hx=>(h.blk x hx).lt
theorem Qbk.add (h:Qbk B w0 l w) (cs:Array Value) (T:TypeId):Qbk B w0 ((w.heap.size,T,cs)::l) (w.alloc (.cells cs T)):=
 ⟨h.b.alloc h.lo _,by simp;have:=h.lo;omega,fun x hx=>by
  rcases List.mem_cons.1 hx with rfl|hx
  ·exact Blk.new w _ _
  ·exact(h.blk x hx).alloc _⟩
theorem Qbk.new (h:Qbk B w0 l w) (cs cs':Array Value) (T:TypeId):Qbk B w0 ((w.heap.size,T,cs')::l) ((w.alloc (.cells cs T)).setRow w.heap.size cs'):=
 ⟨Qai (h.b.alloc h.lo _) h.lo _,by simp;have:=h.lo;omega,fun x hx=>by
  rcases List.mem_cons.1 hx with rfl|hx
  ·exact(Blk.new w _ _).row_ _
  ·exact((h.blk x hx).alloc _).row_far (Nat.ne_of_lt (h.lt x hx)) _⟩
theorem Qbk.begin (w:World):Qbk w.heap.size w [] w:=⟨Below.refl _ _,Ql,fun x hx=>by cases hx⟩
theorem Qbk.sub (h:Qbk B w0 l w) {l':List (Nat×TypeId×Array Value)} (hl:∀x∈l',x∈l):Qbk B w0 l' w:=⟨h.b,h.lo,fun x hx=>h.blk x (hl x hx)⟩
theorem Qbk.cast (h:Qbk B w0 l w) {l':List (Nat×TypeId×Array Value)} (hl:l=l'):Qbk B w0 l' w:=hl▸h
theorem Qbk.cell (h:Qbk B w0 l w) {g i n:Nat} {T:TypeId} {f:Nat→Value} (hg:Blk w g T (row n f)) (hi:i<n) (hB:B≤g) (u:Value) (l':List (Nat×TypeId×Array Value)) (hl:∀x∈l',(x=(g,T,row n fun j=>if j=i then u else f j))∨(x∈l∧x.1≠g)):Qbk B w0 l' (w.setCell ⟨g,i,none⟩ u):=
 ⟨h.b.setCell hB _,by simp;exact h.lo,fun x hx=>by
  rcases hl x hx with rfl|⟨hx,hne⟩
  ·exact hg.put hi u
  ·exact(h.blk x hx).far (by simpa using hne) _⟩
theorem m0 {α:Type _} {a:α} {l:List α}:a∈a::l:= .head _
theorem m1 {α:Type _} {a b:α} {l:List α}:a∈b::a::l:= .tail _ m0
theorem m2 {α:Type _} {a b c:α} {l:List α}:a∈b::c::a::l:= .tail _ m1
theorem m3 {α:Type _} {a b c d:α} {l:List α}:a∈b::c::d::a::l:= .tail _ m2
theorem m4 {α:Type _} {a b c d e:α} {l:List α}:a∈b::c::d::e::a::l:= .tail _ m3
theorem m5 {α:Type _} {a b c d e f:α} {l:List α}:a∈b::c::d::e::f::a::l:= .tail _ m4
theorem m6 {α:Type _} {a b c d e f g:α} {l:List α}:a∈b::c::d::e::f::g::a::l:= .tail _ m5
end
theorem Qav {ops:Array Oper} {Q:Exit→Act→World→Prop} {R:World→Prop} {o:Oper} {rest:List Oper} {a:Act} {w:World} (v:Value) (hg:o.guard=none) (h:Qbv Tryz.prog R v ((execOp a.eval o).run Tryz.prog w)) (k:∀w',R w'→wpList Tryz.prog ops Q rest (a.put o.dst v) w'):wpList Tryz.prog ops Q (o::rest) a w:=
 wpList_plain hg fun _ hK=>h.upon fun w' hR=>hK _ _ (k w' hR)
theorem Qjy {o:Oper} {a:Act} {w:World} (x:Operand) (n k:Nat) (ho:o.op= .call {callee:= .builtin .min,args:=#[x,.const (.int .i64 (k:Int))],argTypes:=#[3,3]}) (ht:o.type=3) (hx:a.eval x= .int .i64 (n:Int)):
  Qbv Tryz.prog (fun w'=>w'=w) (.int .i64 ((min n k:Nat):Int)) ((execOp a.eval o).run Tryz.prog w):=by
 refine Qab (w:=w) ?_ rfl;have hc:a.eval (.const (.int .i64 (k:Int)))= .int .i64 (k:Int):=rfl;simp [execOp,ho,ht,hx,hc,resolve,invoke,builtin];by_cases h:n≤k
 ·rw [show min n k=n by omega]
  have h2:(n:Int)≤k:=by omega
  go_simp
  intro;omega
 ·rw [show min n k=k by omega]
  have h':(k:Int)<n:=by omega
  go_simp
theorem pu:(∀(a:Act) (d:Nat) (v:Value),a.put (some d) v={a with tmps:=a.tmps.setIfInBounds d v})∧(∀(a:Act) (v:Value),a.put none v=a)∧
  (∀(l:List Value) (i:Nat) (x:Value),l.toArray.setIfInBounds i x=(l.set i x).toArray)∧(∀(x:Value) (l:List Value) (v:Value),(x::l).set 0 v=v::l)∧
  (∀(x:Value) (l:List Value) (n:Nat) (v:Value),(x::l).set (n+1) v=x::l.set n v):=
 ⟨fun _ _ _=>rfl,fun _ _=>rfl,fun l i x=>List.setIfInBounds_toArray l i x,fun _ _ _=>rfl,fun _ _ _ _=>rfl⟩
def Q1t (n:Nat) (f:Nat→Nat):ByteArray:=⟨(Qd3 ((List.range n).map fun i=>BitVec.ofNat 8 (f i))).toArray⟩
theorem Qb1 (n:Nat) (f:Nat→Nat):(Q1t n f).size=n:=by
 show Array.size _=n
 simp [Qd3]
theorem Qey (s:ByteArray) (a b j:Nat) (hb:b≤s.size) (hj:a+j<b):Qac (s.extract a b) j=Qac s (a+j):=by
 unfold Qac;have h1:j<(s.extract a b).size:=by rw [ByteArray.size_extract];omega
 rw [dif_pos h1,dif_pos (by omega),ByteArray.getElem_extract]
theorem Qwp {a b:ByteArray} (hs:a.size=b.size) (h:∀j,j<a.size→Qac a j=Qac b j):a=b:=by
 have hd:a.data=b.data:=by
  apply Array.ext
  ·exact hs
  ·intro i h1 h2;have e:=h i h1;have h1':i<a.size:=h1;have h2':i<b.size:=h2;unfold Qac at e;rw [dif_pos h1',dif_pos h2']at e;exact UInt8.toNat_inj.1 e
 cases a;cases b
 exact congrArg ByteArray.mk hd
theorem Qc5 (a b:ByteArray):(a++b).size=a.size+b.size:=by simp
end Go.Proofs.YtbmcjdoiohcaaaaGreat
/- The bytes of a text as cells of a slice ([]byte of it), and back. -/
namespace Go.Proofs.YtbmcjdoiohcaaaaGreat
open Go.RowKit
structure ClY (N:Nat) (f:Nat→Nat) (g:Nat) (wr:World):Prop where
 c:∀j,j<N→wr.cell? ⟨g,j,none⟩=some (.int .u8 (f j:Int))
 fz:∀j,j<N→wr.frozen? ⟨g,j,none⟩=false
 lt:g<wr.heap.size
theorem Qno {N:Nat} (s:ByteArray) (w:World) (h:s.size=N):∃cap W1,(convert 9 25 (.string s)).run Tryz.prog w= .ok (.slice (some ⟨w.heap.size,0,none⟩) N cap) W1∧ClY N (Qac s) w.heap.size W1∧Below w.heap.size w W1:=by
 refine⟨_,_,(Lib.run_convert_string_bytes w _ _ 5 s Tryz.underlying9 Tryz.underlying25 Tryz.underlying5).trans (by rw [h]),?_⟩
 have hsz:∀j,j<N→j<(Lib.bytesCells w 5 s).size:=fun j hj=>by
  unfold Lib.bytesCells;rw [Array.size_append,Array.size_map];have:s.data.size=N:=h;omega
 refine⟨⟨fun j hj=> ?_,fun j hj=> ?_,by rw [Lib.bytesWorld_size];omega⟩,⟨rfl,rfl,rfl,by rw [Lib.bytesWorld_size];omega,fun k hk=>Lib.bytesWorld_at_old _ _ _ _ hk⟩⟩
 ·rw [Lib.bytesWorld_cell _ _ _ _ (by omega)]
  rw [←Qa2 s j (by omega)]
  congr 3
  rw [List.getD_eq_getElem?_getD,List.getElem?_eq_getElem (by simpa using (show j<s.size by omega))]
  rfl
 ·have:=hsz j hj;simp [World.frozen?,Lib.bytesWorld_at_new];omega
end Go.Proofs.YtbmcjdoiohcaaaaGreat
