/- NI -/
import Derived.Test.YtbmcjdoiohcaaaaGreatNH
import Derived.Test.YtbmcjdoiohcaaaaGreatND
set_option maxRecDepth 100000
set_option maxHeartbeats 16000000
namespace Go.Proofs.YtbmcjdoiohcaaaaGreat
open Go.RowKit
theorem Qfn {P:Program} {fn:Func} {p q:Tmp} {ty:TypeId} (h:fn.results=#[.tmp q,.cell p ty]) (tmps:Array Value) (w:World) (g:Nat) (t:TypeId) (cs:Array Value) (fr:Nat×Nat) (d:TypeDesc) (v:Value)
  (hp:tmps.getD p undef= .pointer (some ⟨g,0,none⟩)) (hg:w.heap[g]? =some (.cells cs t fr))
  (hu:P.underlying ty=some d) (hd:(match d with| .struct _| .array _ _=>true|_=>false)=true) (hi:(P.info? ty).map (·.size)=some cs.size) (hq:tmps.getD q undef=v):
  (results fn tmps).run P w= .ok (.tuple #[v,.agg cs]) w:=by
 have hp':tmps[p]?.getD undef= .pointer (some ⟨g,0,none⟩):=by simpa using hp
 have hq':tmps[q]?.getD undef=v:=by simpa using hq
 simp [results,h,hp',hq',asAddr,run_loadVar_row w g t ty cs fr d hg hu hd hi]
theorem Qf1 {P:Program} {fn:Func} {p:Tmp} {ty:TypeId} (h:fn.results=#[.cell p ty]) (tmps:Array Value) (w:World) (g:Nat) (t:TypeId) (cs:Array Value) (d:TypeDesc)
  (hp:tmps.getD p undef= .pointer (some ⟨g,0,none⟩)) (hg:Blk w g t cs) (hu:P.underlying ty=some d) (hd:(match d with| .struct _| .array _ _=>true|_=>false)=true) (hi:(P.info? ty).map (·.size)=some cs.size):
  (results fn tmps).run P w= .ok (.agg cs) w:=by
 have hp':tmps[p]?.getD undef= .pointer (some ⟨g,0,none⟩):=by simpa using hp
 simp [results,h,hp',asAddr,run_loadVar_row w g t ty cs (0,0) d hg hu hd hi]
theorem Qtd (b5 b3:Nat) (n i B X:Nat) (T:Bool) (w:World) (h5:w.cell? ⟨b5,0,none⟩=some (.func (.func 115) #[] #[])) (h3:w.cell? ⟨b3,0,none⟩=some (.int .i64 (n:Int))) (hs:Calls Tryz.prog 115 #[.int .i64 (i:Int)] w fun e w'=>e= .returned (.tuple #[.int .i64 (B:Int),.int .i64 (X:Int),.bool T])∧w'=w):
  Calls Tryz.prog 140 #[.int .i64 (i:Int),.pointer (some ⟨b5,0,none⟩),.pointer (some ⟨b3,0,none⟩)] w fun e w'=>e= .returned (.bool (decide (n<B)))∧w'=w:=by
 go_enter Tryz.func140,Tryz.ntmps140
 go_wp2_with (refine hs.mono ?_;rintro e w8 ⟨rfl,rfl⟩)
 go_ret;exact⟨rfl,rfl⟩
theorem Qs4 (n N:Nat) (hN:1≤N∧N≤1000) (b x:Nat→Nat) (t:Nat→Bool) (hm:∀i,b i≤b (i+1)) (h0:b 0≤n) (hn:n≤100000) (w:World) (hs:∀i,i<N→∀wx,Calls Tryz.prog 115 #[.int .i64 (i:Int)] wx fun e w'=>e= .returned (.tuple #[.int .i64 (b i:Int),.int .i64 (x i:Int),.bool (t i)])∧w'=wx):
  Calls Tryz.prog 114 #[.int .i64 (n:Int),.int .i64 (N:Int),.func (.func 115) #[] #[]] w fun e w'=>∃k,k+1=Qbh b n N∧e= .returned (.tuple #[.int .i64 (k:Int),.agg #[.int .i64 ((n-b k:Nat):Int),.int .i64 (x k:Int)]])∧Below w.heap.size w w':=by
 obtain⟨k,hk⟩:∃k,Qbh b n N=k+1:=by
  have h1:=Qb3 b n N 0;cases e:Qbh b n N with
  |zero=>rw [e]at h1;have:=h1 Ql (by omega);omega
  |succ k=>exact⟨k,rfl⟩
 have hkN:k<N:=by have:=Qc6 b n N;omega
 have hbk:b k≤n:=Qcy hm n N k (by omega)
 obtain⟨z,hz⟩:∃z,z=w.heap.size:=⟨_,rfl⟩;obtain⟨W0,hW0⟩:∃W0,W0=((w.alloc (.cells #[.int .i64 (n:Int)] 3)).alloc (.cells #[.func (.func 115) #[] #[]] 164)).alloc (.cells #[.int .i64 0,.int .i64 0] 106):=⟨_,rfl⟩;have hb3:Blk W0 z 3 #[.int .i64 (n:Int)]:=by rw [hW0,hz];exact((Blk.new w _ _).alloc _).alloc _
 have hb5:Blk W0 (z+1) 164 #[.func (.func 115) #[] #[]]:=by rw [hW0,hz];exact Blk.cast' ((Blk.new (w.alloc _) 164 #[.func (.func 115) #[] #[]]).alloc _) ⟨by simp,rfl⟩
 have hb7:Blk W0 (z+1+1) 106 #[.int .i64 0,.int .i64 0]:=by rw [hW0,hz];exact Blk.cast' (Blk.new ((w.alloc _).alloc _) 106 #[.int .i64 0,.int .i64 0]) ⟨by simp,rfl⟩
 have hbl:Below w.heap.size w W0:=by rw [hW0];exact(((Below.refl _ w).alloc Ql _).alloc (by simp) _).alloc (by simp;omega) _
 have hs0:=fun i hi=>hs i hi W0;have hc:=fun i (hi:i<N)=>Qtd (z+1) z n i (b i) (x i) (t i) W0 (hb5.cell 0) (hb3.cell 0) (hs0 i hi);have C:=Qlt N hN.2 (z+1) z b n hm W0 hc;have CK:=hs0 k hkN;have d3:W0.cell? ⟨z,0,none⟩=some (.int .i64 (n:Int)):=hb3.cell 0;have d5:W0.cell? ⟨z+1,0,none⟩=some (.func (.func 115) #[] #[]):=hb5.cell 0;obtain⟨K,hK⟩:∃K,K=k+1:=⟨_,rfl⟩;rw [hk,←hK]at C;have hKw:IntKind.i64.wrap ((K:Int)-1)=(k:Int):=by rw [IntWalk.i64_in _ (by omega)];omega
 obtain⟨D,hD⟩:∃D,D=n-b k:=⟨_,rfl⟩;have hDw:IntKind.i64.wrap ((n:Int)-(b k:Int))=(D:Int):=by rw [IntWalk.i64_in _ (by omega)];omega
 have HP:Hid (∃k,k+1=Qbh b n N∧K=k+1):=Qh ⟨k,hk.symm,hK⟩;have HKK:=Qh (⟨hk.symm,hD⟩:k+1=Qbh b n N∧D=n-b k);obtain⟨Bk,hBk⟩:∃B,B=b k:=⟨_,rfl⟩;rw [←hBk]at CK hDw;obtain⟨Xk,hX⟩:∃X,X=x k:=⟨_,rfl⟩;have HX:=Qh hX;rw [←hX]at CK;generalize t k=Tk at CK;have HZE:=Qh hz;have HWE:=Qh hW0;have HBL:=Qh hbl;have H7:=Qh hb7;have hf3:W0.cell? ⟨z,0,none⟩=some (.int .i64 (n:Int)):=d3;have c70:W0.cell? ⟨z+1+1,0,none⟩=some (.int .i64 0):=hb7.cell 0;have c71:W0.cell? ⟨z+1+1,1,none⟩=some (.int .i64 0):=hb7.cell 1;have f70:W0.frozen? ⟨z+1+1,0,none⟩=false:=hb7.frozen 0;have f71:W0.frozen? ⟨z+1+1,1,none⟩=false:=hb7.frozen 1;clear hz hW0 hbl hb3 hb5 hb7 hs hs0 hc hK hD hX hBk hm h0 hk hkN hbk hn hN;go_enter Tryz.func114,Tryz.ntmps114;go_upto_region 1 with fail;rw [←HWE.out,←HZE.out];go_wp2_with (first|(refine C.mono ?_;rintro e w8 ⟨rfl,rfl⟩)|(refine CK.mono ?_;rintro e w8 ⟨rfl,rfl⟩))
 go_region
 go_wp2_with fail;have hfin:Blk ((w8.setCell ⟨z+1+1,0,none⟩ (.int .i64 (D:Int))).setCell ⟨z+1+1,1,none⟩ (.int .i64 (Xk:Int))).drew (z+1+1) 106 #[.int .i64 (D:Int),.int .i64 (Xk:Int)]:=((H7.out.set_ 0 _).set_ 1 _).drew;have hlo:w.heap.size≤z+1+1:=by rw [HZE.out];omega
 refine bodyPost_ret (Qfn rfl _ _ (z+1+1) 106 #[.int .i64 (D:Int),.int .i64 (Xk:Int)] (0,0) _ _ rfl hfin Tryz.underlying106 rfl Qdc rfl) rfl ⟨k,HKK.out.1,by rw [HKK.out.2,HX.out];rfl,((HBL.out.setCell hlo _).setCell hlo _).drew⟩
theorem Qtc (b5 b3:Nat) (n i B X:Nat) (T:Bool) (w:World) (h5:w.cell? ⟨b5,0,none⟩=some (.func (.func 117) #[] #[])) (h3:w.cell? ⟨b3,0,none⟩=some (.int .i64 (n:Int))) (hs:Calls Tryz.prog 117 #[.int .i64 (i:Int)] w fun e w'=>e= .returned (.tuple #[.int .i64 (B:Int),.int .i64 (X:Int),.bool T])∧w'=w):
  Calls Tryz.prog 140 #[.int .i64 (i:Int),.pointer (some ⟨b5,0,none⟩),.pointer (some ⟨b3,0,none⟩)] w fun e w'=>e= .returned (.bool (decide (n<B)))∧w'=w:=by
 go_enter Tryz.func140,Tryz.ntmps140
 go_wp2_with (refine hs.mono ?_;rintro e w8 ⟨rfl,rfl⟩)
 go_ret;exact⟨rfl,rfl⟩
theorem Qs3 (n N:Nat) (hN:1≤N∧N≤1000) (b x:Nat→Nat) (t:Nat→Bool) (hm:∀i,b i≤b (i+1)) (h0:b 0≤n) (hn:n≤100000) (w:World) (hs:∀i,i<N→∀wx,Calls Tryz.prog 117 #[.int .i64 (i:Int)] wx fun e w'=>e= .returned (.tuple #[.int .i64 (b i:Int),.int .i64 (x i:Int),.bool (t i)])∧w'=wx):
  Calls Tryz.prog 114 #[.int .i64 (n:Int),.int .i64 (N:Int),.func (.func 117) #[] #[]] w fun e w'=>∃k,k+1=Qbh b n N∧e= .returned (.tuple #[.int .i64 (k:Int),.agg #[.int .i64 ((n-b k:Nat):Int),.int .i64 (x k:Int)]])∧Below w.heap.size w w':=by
 obtain⟨k,hk⟩:∃k,Qbh b n N=k+1:=by
  have h1:=Qb3 b n N 0;cases e:Qbh b n N with
  |zero=>rw [e]at h1;have:=h1 Ql (by omega);omega
  |succ k=>exact⟨k,rfl⟩
 have hkN:k<N:=by have:=Qc6 b n N;omega
 have hbk:b k≤n:=Qcy hm n N k (by omega)
 obtain⟨z,hz⟩:∃z,z=w.heap.size:=⟨_,rfl⟩;obtain⟨W0,hW0⟩:∃W0,W0=((w.alloc (.cells #[.int .i64 (n:Int)] 3)).alloc (.cells #[.func (.func 117) #[] #[]] 164)).alloc (.cells #[.int .i64 0,.int .i64 0] 106):=⟨_,rfl⟩;have hb3:Blk W0 z 3 #[.int .i64 (n:Int)]:=by rw [hW0,hz];exact((Blk.new w _ _).alloc _).alloc _
 have hb5:Blk W0 (z+1) 164 #[.func (.func 117) #[] #[]]:=by rw [hW0,hz];exact Blk.cast' ((Blk.new (w.alloc _) 164 #[.func (.func 117) #[] #[]]).alloc _) ⟨by simp,rfl⟩
 have hb7:Blk W0 (z+1+1) 106 #[.int .i64 0,.int .i64 0]:=by rw [hW0,hz];exact Blk.cast' (Blk.new ((w.alloc _).alloc _) 106 #[.int .i64 0,.int .i64 0]) ⟨by simp,rfl⟩
 have hbl:Below w.heap.size w W0:=by rw [hW0];exact(((Below.refl _ w).alloc Ql _).alloc (by simp) _).alloc (by simp;omega) _
 have hs0:=fun i hi=>hs i hi W0;have hc:=fun i (hi:i<N)=>Qtc (z+1) z n i (b i) (x i) (t i) W0 (hb5.cell 0) (hb3.cell 0) (hs0 i hi);have C:=Qlt N hN.2 (z+1) z b n hm W0 hc;have CK:=hs0 k hkN;have d3:W0.cell? ⟨z,0,none⟩=some (.int .i64 (n:Int)):=hb3.cell 0;have d5:W0.cell? ⟨z+1,0,none⟩=some (.func (.func 117) #[] #[]):=hb5.cell 0;obtain⟨K,hK⟩:∃K,K=k+1:=⟨_,rfl⟩;rw [hk,←hK]at C;have hKw:IntKind.i64.wrap ((K:Int)-1)=(k:Int):=by rw [IntWalk.i64_in _ (by omega)];omega
 obtain⟨D,hD⟩:∃D,D=n-b k:=⟨_,rfl⟩;have hDw:IntKind.i64.wrap ((n:Int)-(b k:Int))=(D:Int):=by rw [IntWalk.i64_in _ (by omega)];omega
 have HP:Hid (∃k,k+1=Qbh b n N∧K=k+1):=Qh ⟨k,hk.symm,hK⟩;have HKK:=Qh (⟨hk.symm,hD⟩:k+1=Qbh b n N∧D=n-b k);obtain⟨Bk,hBk⟩:∃B,B=b k:=⟨_,rfl⟩;rw [←hBk]at CK hDw;obtain⟨Xk,hX⟩:∃X,X=x k:=⟨_,rfl⟩;have HX:=Qh hX;rw [←hX]at CK;generalize t k=Tk at CK;have HZE:=Qh hz;have HWE:=Qh hW0;have HBL:=Qh hbl;have H7:=Qh hb7;have hf3:W0.cell? ⟨z,0,none⟩=some (.int .i64 (n:Int)):=d3;have c70:W0.cell? ⟨z+1+1,0,none⟩=some (.int .i64 0):=hb7.cell 0;have c71:W0.cell? ⟨z+1+1,1,none⟩=some (.int .i64 0):=hb7.cell 1;have f70:W0.frozen? ⟨z+1+1,0,none⟩=false:=hb7.frozen 0;have f71:W0.frozen? ⟨z+1+1,1,none⟩=false:=hb7.frozen 1;clear hz hW0 hbl hb3 hb5 hb7 hs hs0 hc hK hD hX hBk hm h0 hk hkN hbk hn hN;go_enter Tryz.func114,Tryz.ntmps114;go_upto_region 1 with fail;rw [←HWE.out,←HZE.out];go_wp2_with (first|(refine C.mono ?_;rintro e w8 ⟨rfl,rfl⟩)|(refine CK.mono ?_;rintro e w8 ⟨rfl,rfl⟩))
 go_region
 go_wp2_with fail;have hfin:Blk ((w8.setCell ⟨z+1+1,0,none⟩ (.int .i64 (D:Int))).setCell ⟨z+1+1,1,none⟩ (.int .i64 (Xk:Int))).drew (z+1+1) 106 #[.int .i64 (D:Int),.int .i64 (Xk:Int)]:=((H7.out.set_ 0 _).set_ 1 _).drew;have hlo:w.heap.size≤z+1+1:=by rw [HZE.out];omega
 refine bodyPost_ret (Qfn rfl _ _ (z+1+1) 106 #[.int .i64 (D:Int),.int .i64 (Xk:Int)] (0,0) _ _ rfl hfin Tryz.underlying106 rfl Qdc rfl) rfl ⟨k,HKK.out.1,by rw [HKK.out.2,HX.out];rfl,((HBL.out.setCell hlo _).setCell hlo _).drew⟩
def lenB (i:Nat):Nat:=if i<28 then Qiz i else 258
def lenX (i:Nat):Nat:=if i<28 then Qgt i else 0
theorem Qmj:∀i,lenB i≤lenB (i+1):=fun i=>by
 by_cases h:i+1<28
 ·unfold lenB;rw [if_pos h,if_pos (by omega)]
  exact Nat.le_add_right _ _
 ·by_cases h2:i=27
  ·subst h2;decide+kernel
  ·unfold lenB;rw [if_neg h,if_neg (by omega)];exact Ql
theorem Ql4:∀i,Qbe i≤Qbe (i+1):=fun _=>Nat.le_add_right _ _
theorem Qln (i:Nat) (h:i<29):Qan ((257+i:Nat):Int)=(lenB i,lenX i,true):=by
 have:∀i,i<29→Qan ((257+i:Nat):Int)=(lenB i,lenX i,true):=by decide+kernel
 exact this i h
theorem Qq4 (i:Nat) (h:i<30):Qa9 (i:Int)=(Qbe i,Qb2 i,true):=by
 unfold Qa9;rw [if_pos (by omega),Int.toNat_natCast]
def lenW (n:Nat):Nat×Nat×Nat:=(257+(Qbh lenB n 29-1),n-lenB (Qbh lenB n 29-1),lenX (Qbh lenB n 29-1))
def disW (n:Nat):Nat×Nat×Nat:=(286+(Qbh Qbe n 30-1),n-Qbe (Qbh Qbe n 30-1),Qb2 (Qbh Qbe n 30-1))
theorem Qyf (i:Nat) (hi:i<29) (w:World):Calls Tryz.prog 115 #[.int .i64 (i:Int)] w fun e w'=>e= .returned (.tuple #[.int .i64 (lenB i:Int),.int .i64 (lenX i:Int),.bool true])∧w'=w:=by
 have C:=Qjr ((257+i:Nat):Int) w;rw [Qln i hi]at C;obtain⟨K,hK⟩:∃K,K=257+i:=⟨_,rfl⟩;have hw:IntKind.i64.wrap (257+(i:Int))=(K:Int):=by rw [IntWalk.i64_in _ (by omega)];omega
 rw [←hK]at C;clear hK;go_enter Tryz.func115,Tryz.ntmps115;go_wp2_with (refine C.mono ?_;rintro e w8 ⟨rfl,rfl⟩);go_ret3;exact⟨rfl,rfl⟩
theorem Qxq (i:Nat) (hi:i<30) (w:World):Calls Tryz.prog 117 #[.int .i64 (i:Int)] w fun e w'=>e= .returned (.tuple #[.int .i64 (Qbe i:Int),.int .i64 (Qb2 i:Int),.bool true])∧w'=w:=by
 have C:=Qnu (i:Int) w;rw [Qq4 i hi]at C;exact C
theorem Qyg (n:Nat) (h1:3≤n) (h2:n≤258) (w:World):
  Calls Tryz.prog 81 #[.int .i64 (n:Int)] w fun e w'=>e= .returned (.agg #[.int .i64 ((lenW n).1:Int),.int .i64 ((lenW n).2.1:Int),.int .i64 ((lenW n).2.2:Int)])∧Below w.heap.size w w':=by
 obtain⟨z,hz⟩:∃z,z=w.heap.size:=⟨_,rfl⟩;obtain⟨W0,hW0⟩:∃W0,W0=w.alloc (.cells #[.int .i64 0,.int .i64 0,.int .i64 0] 138):=⟨_,rfl⟩;have hb0:Blk W0 z 138 #[.int .i64 0,.int .i64 0,.int .i64 0]:=by rw [hW0,hz];exact Blk.new w _ _
 have hbl:Below w.heap.size w W0:=by rw [hW0];exact(Below.refl _ w).alloc Ql _
 have C:=Qs4 n 29 (by decide) lenB lenX (fun _=>true) Qmj h1 (by omega) W0 (fun i hi wx=>Qyf i hi wx)
 have HZE:=Qh hz;have HWE:=Qh hW0;have H0:=Qh (⟨hb0,hbl⟩:Blk W0 z 138 #[.int .i64 0,.int .i64 0,.int .i64 0]∧Below w.heap.size w W0);have HSL:=Qh (Qc6 lenB n 29);clear hz hW0 hb0 hbl h1 h2;go_enter Tryz.func81,Tryz.ntmps81;go_upto_region 1 with fail;rw [←HWE.out,←HZE.out];go_wp2_with fail;refine C.mono ?_;rintro e w1 ⟨k,hk,rfl,b1⟩;have hkb:k<29:=by have:=HSL.out;omega
 have HW:Hid (lenW n=(257+k,n-lenB k,lenX k)):=Qh (by unfold lenW;rw [←hk];rfl)
 obtain⟨S,hS⟩:∃S,S=257+k:=⟨_,rfl⟩;have hSw:IntKind.i64.wrap (257+(k:Int))=(S:Int):=by rw [IntWalk.i64_in _ (by omega)];omega
 obtain⟨D,hD⟩:∃D,D=n-lenB k:=⟨_,rfl⟩;obtain⟨X,hX⟩:∃X,X=lenX k:=⟨_,rfl⟩;rw [←hS,←hD,←hX]at HW;rw [←hD,←hX];obtain⟨y,hy⟩:∃y,y=w1.heap.size:=⟨_,rfl⟩;have hB1:=H0.out.1.below b1 H0.out.1.lt;have hbl1:=H0.out.2.trans (b1.mono H0.out.2.size);have hyz:z<y:=by rw [hy];exact hB1.lt
 have HN4:=Qh (Blk.new w1 106 #[.int .i64 0,.int .i64 0]);obtain⟨W2,hW2⟩:∃W2,W2=(w1.alloc (.cells #[.int .i64 0,.int .i64 0] 106)).setRow w1.heap.size #[.int .i64 (D:Int),.int .i64 (X:Int)]:=⟨_,rfl⟩;have hz2:=HN4.out.row_ #[.int .i64 (D:Int),.int .i64 (X:Int)];have hb2:=Qai ((Below.refl _ w1).alloc Ql (.cells #[.int .i64 0,.int .i64 0] 106)) Ql #[.int .i64 (D:Int),.int .i64 (X:Int)];rw [←hW2]at hz2 hb2;rw [←hy]at hz2;have d0:W2.cell? ⟨y,0,none⟩=some (.int .i64 (D:Int)):=hz2.cell 0;have d1:W2.cell? ⟨y,1,none⟩=some (.int .i64 (X:Int)):=hz2.cell 1;have H2:=Qh (hB1.below hb2 hB1.lt);have HBL:=Qh (hbl1.trans (hb2.mono hbl1.size));have HWE2:=Qh hW2;have HY:=Qh hy;clear C hk hkb hS hD hX hB1 hbl1 hyz hW2 hz2 hb2 hy b1;go_wp2_with (first|(refine wpList_store_row rfl 106 _ _ rfl w1.heap.size #[.int .i64 (D:Int),.int .i64 (X:Int)] rfl rfl 106 _ HN4.out Qdc rfl (Qgk _ _) ?_;rw [←HWE2.out,←HY.out])|refine wpList_store_row rfl 138 _ _ rfl z #[.int .i64 (S:Int),.int .i64 (D:Int),.int .i64 (X:Int)] rfl rfl 138 _ H2.out Qc8 rfl (Qc7 _ _ _) ?_)
 refine bodyPost_ret (Qf1 rfl _ _ z 138 #[.int .i64 (S:Int),.int .i64 (D:Int),.int .i64 (X:Int)] _ rfl (H2.out.row_ _) Tryz.underlying138 rfl Qc8) rfl ⟨by rw [HW.out],Qai HBL.out (by rw [HZE.out];exact Ql) _⟩
theorem Qxr (n:Nat) (h1:1≤n) (h2:n≤32768) (w:World):
  Calls Tryz.prog 82 #[.int .i64 (n:Int)] w fun e w'=>e= .returned (.agg #[.int .i64 ((disW n).1:Int),.int .i64 ((disW n).2.1:Int),.int .i64 ((disW n).2.2:Int)])∧Below w.heap.size w w':=by
 obtain⟨z,hz⟩:∃z,z=w.heap.size:=⟨_,rfl⟩;obtain⟨W0,hW0⟩:∃W0,W0=w.alloc (.cells #[.int .i64 0,.int .i64 0,.int .i64 0] 138):=⟨_,rfl⟩;have hb0:Blk W0 z 138 #[.int .i64 0,.int .i64 0,.int .i64 0]:=by rw [hW0,hz];exact Blk.new w _ _
 have hbl:Below w.heap.size w W0:=by rw [hW0];exact(Below.refl _ w).alloc Ql _
 have C:=Qs3 n 30 (by decide) Qbe Qb2 (fun _=>true) Ql4 h1 (by omega) W0 (fun i hi wx=>Qxq i hi wx)
 have HZE:=Qh hz;have HWE:=Qh hW0;have H0:=Qh (⟨hb0,hbl⟩:Blk W0 z 138 #[.int .i64 0,.int .i64 0,.int .i64 0]∧Below w.heap.size w W0);have HSL:=Qh (Qc6 Qbe n 30);clear hz hW0 hb0 hbl h1 h2;go_enter Tryz.func82,Tryz.ntmps82;go_upto_region 1 with fail;rw [←HWE.out,←HZE.out];go_wp2_with fail;refine C.mono ?_;rintro e w1 ⟨k,hk,rfl,b1⟩;have hkb:k<30:=by have:=HSL.out;omega
 have HW:Hid (disW n=(286+k,n-Qbe k,Qb2 k)):=Qh (by unfold disW;rw [←hk];rfl)
 obtain⟨S,hS⟩:∃S,S=286+k:=⟨_,rfl⟩;have hSw:IntKind.i64.wrap (286+(k:Int))=(S:Int):=by rw [IntWalk.i64_in _ (by omega)];omega
 obtain⟨D,hD⟩:∃D,D=n-Qbe k:=⟨_,rfl⟩;obtain⟨X,hX⟩:∃X,X=Qb2 k:=⟨_,rfl⟩;rw [←hS,←hD,←hX]at HW;rw [←hD,←hX];obtain⟨y,hy⟩:∃y,y=w1.heap.size:=⟨_,rfl⟩;have hB1:=H0.out.1.below b1 H0.out.1.lt;have hbl1:=H0.out.2.trans (b1.mono H0.out.2.size);have hyz:z<y:=by rw [hy];exact hB1.lt
 have HN4:=Qh (Blk.new w1 106 #[.int .i64 0,.int .i64 0]);obtain⟨W2,hW2⟩:∃W2,W2=(w1.alloc (.cells #[.int .i64 0,.int .i64 0] 106)).setRow w1.heap.size #[.int .i64 (D:Int),.int .i64 (X:Int)]:=⟨_,rfl⟩;have hz2:=HN4.out.row_ #[.int .i64 (D:Int),.int .i64 (X:Int)];have hb2:=Qai ((Below.refl _ w1).alloc Ql (.cells #[.int .i64 0,.int .i64 0] 106)) Ql #[.int .i64 (D:Int),.int .i64 (X:Int)];rw [←hW2]at hz2 hb2;rw [←hy]at hz2;have d0:W2.cell? ⟨y,0,none⟩=some (.int .i64 (D:Int)):=hz2.cell 0;have d1:W2.cell? ⟨y,1,none⟩=some (.int .i64 (X:Int)):=hz2.cell 1;have H2:=Qh (hB1.below hb2 hB1.lt);have HBL:=Qh (hbl1.trans (hb2.mono hbl1.size));have HWE2:=Qh hW2;have HY:=Qh hy;clear C hk hkb hS hD hX hB1 hbl1 hyz hW2 hz2 hb2 hy b1;go_wp2_with (first|(refine wpList_store_row rfl 106 _ _ rfl w1.heap.size #[.int .i64 (D:Int),.int .i64 (X:Int)] rfl rfl 106 _ HN4.out Qdc rfl (Qgk _ _) ?_;rw [←HWE2.out,←HY.out])|refine wpList_store_row rfl 138 _ _ rfl z #[.int .i64 (S:Int),.int .i64 (D:Int),.int .i64 (X:Int)] rfl rfl 138 _ H2.out Qc8 rfl (Qc7 _ _ _) ?_)
 refine bodyPost_ret (Qf1 rfl _ _ z 138 #[.int .i64 (S:Int),.int .i64 (D:Int),.int .i64 (X:Int)] _ rfl (H2.out.row_ _) Tryz.underlying138 rfl Qc8) rfl ⟨by rw [HW.out],Qai HBL.out (by rw [HZE.out];exact Ql) _⟩
section
variable {P:Program} {ops:Array Oper} {Q:Exit→Act→World→Prop} {md:Region.Mode} {J:World→Prop}
theorem Qgs {id:Nat} {a:Act} {w:World} (J:World→Prop) (hm:P.follows .mixedOrders=true) (h:wpAnyH P .any ops Q J ops.size (Array.replicate ops.size false) a w.drew):(Code.region id ops true).wp P Q a w:=wp_region_held hm h
theorem Qar {i:Nat} {oi:Oper} {r:List Oper} {v:Value} {fuel:Nat} {listed:Array Bool} {a:Act} {w:World} (hi:ops.toList.drop i=oi::r)
  (hw:Region.wanted oi (yielded ops a.tmps)=true) (hy:∀w,J w→(execOp a.eval oi).run P w= .ok (.value v) w) (hJ:J w)
  (h:wpAnyH P md ops Q J fuel (listed.setIfInBounds i true) (a.put oi.dst v) w) (hs:Region.noSelect ops=true:=by kernel_rfl) (hf:Region.free md ops listed i=true:=by kernel_rfl) (hr:(Region.ready md ops listed).contains i=true:=by kernel_rfl)
  (hQ:∀c a w,Q (.panic c) (a.put oi.dst v) w→Q (.panic c) a w:=by exact fun _ _ _ h=>h):wpAnyH P md ops Q J (fuel+1) listed a w:=
 wpAnyH_take (Qdt hi) hs hf hr hQ (.inl ⟨hw,hy⟩) hJ h
theorem Qe1 {i:Nat} {o:Oper} {r:List Oper} {fuel:Nat} {listed:Array Bool} {a:Act} {w:World} {f:FuncId} {args:Array Value} (hr:Region.ready md ops listed=[i]) (hi:ops.toList.drop i=o::r) (hw:Region.wanted o (yielded ops a.tmps)=true)
  (he:(execOp a.eval o).run P w= .ok (.enter f args) w) (hc:Calls P f args w fun e w'=>∃v,e= .returned v∧J w'∧wpAnyH P md ops Q J fuel (listed.setIfInBounds i true) (a.put o.dst v) w'):wpAnyH P md ops Q J (fuel+1) listed a w:=
 wpAnyH_all hr (by simp) fun j hj=>by
  obtain rfl:=List.mem_singleton.1 hj;exact Qin (Qdt hi) hw he (hc.mono fun e w' ⟨v,h1,h2,h3⟩=>⟨v,h1,h2,h3⟩)
theorem Qjv {i:Nat} {o:Oper} {r:List Oper} {fuel:Nat} {listed:Array Bool} {a:Act} {w:World} {R:World→Prop} {v:Value} (hr:Region.ready md ops listed=[i]) (hi:ops.toList.drop i=o::r) (hw:Region.wanted o (yielded ops a.tmps)=true)
  (hl:Qbv P R v ((execOp a.eval o).run P w)) (hk:∀w',R w'→J w'∧wpAnyH P md ops Q J fuel (listed.setIfInBounds i true) (a.put o.dst v) w'):wpAnyH P md ops Q J (fuel+1) listed a w:=
 wpAnyH_all hr (by simp) fun j hj=>by
  obtain rfl:=List.mem_singleton.1 hj;exact Qio (Qdt hi) hw hl fun w' h=>hk w' h
end
theorem appW {B:Nat} {w0 w:World} {l:List (List Value)} {v:Value} (h:LS 138 3 B w0 l v w) (T ty:TypeId) (hT:Tryz.prog.underlying T=Tryz.prog.underlying 99) (ad:Addr) (m c:Nat) (xs:List (List Value)) (hm:xs.length=m) (hz:Each 3 xs) (hc:∀j u,xs.flatten[j]? =some u→w.cell? (ad.add j)=some u) (hm0:0<m) (hn:l.length+m≤1000000000000):
  ∃v' w',(Builtin.append_ #[T,T] ty #[v,.slice (some ad) m c]).run Tryz.prog w= .ok v' w'∧LS 138 3 B w0 (l++xs) v' w'∧Gr v w v' w':=by
 obtain⟨i0,hi,hz0,hz1,hz2⟩:=info_parts Q0y;obtain⟨q,cap,w2,hap,hown,hg,hat,hlt⟩:=run_append_lies (P:=Tryz.prog) w T ty B 138 i0 (.agg #[.int .i64 0,.int .i64 0,.int .i64 0]) 3 24 (hT.trans Tryz.underlying99) hi hz0 hz1 hz2 rfl (by decide) v l.length _ h.own ad m c xs.flatten (by rw [hz.len,hm]) hc hz.one hm0 (by unfold maxLen;omega) (by omega) h.lo _ rfl
 have hG:Gr v w (.slice (some ⟨q,0,none⟩) (l.length+m) cap) w2:=⟨hg.os,hg.tape,hg.output,hg.size,fun i hi hv=>hg.block i hi (fun e=>hv e.symm),fun i e=>by
  have e:q=i:=by injection e
  rcases hat with h1|h1
  ·exact .inl (by rw [h1,e])
  ·right;omega⟩
 refine⟨_,w2,hap,⟨?_,h.each.app hz,Qdz h.b hG (fun i e=>(h.ownB i e).1) h.lo,Nat.le_trans h.lo hg.size⟩,hG⟩;rw [List.length_append,List.flatten_append,hm];exact hown
theorem Qtv (n:Nat) (hn:n≤1000000000) (w:World):(Instr.makeSlice 99 (.int .i64 0) (.int .i64 (n:Int))).run Tryz.prog w= .ok (.slice (some ⟨w.heap.size,0,none⟩) 0 n) (w.alloc (.cells (rI (n*3) fun _=>0) 138)):=by
 obtain⟨i0,hi,hz0,hz1,hz2⟩:=info_parts Q0y;have h:=run_make (P:=Tryz.prog) w 99 138 i0 (.agg #[.int .i64 0,.int .i64 0,.int .i64 0]) Tryz.underlying99 hi hz0 .i64 .i64 0 n (by omega) (by omega) (by rw [hz2];omega) (by omega)
 rw [hz1,Int.toNat_natCast]at h;have e:madeCells (Value.cells (.agg #[.int .i64 0,.int .i64 0,.int .i64 0])) (n*3)=rI (n*3) fun _=>0:=by
  apply Array.ext
  ·rw [size_madeCells,Qbb]
  ·intro i h1 h2;have h:i<n*3:=by rw [size_madeCells]at h1;exact h1
   have e:=Qeu (fun i=>Value.int .i64 ((fun _=>(0:Int)) i)) h;rw [Array.getElem?_eq_getElem h2]at e;rw [Option.some.inj e];simp only [madeCells];rcases(show i%3=0∨i%3=1∨i%3=2 by omega)with e2|e2|e2<;>simp [Value.cells,e2]
 rw [e]at h;exact h
theorem LS.roomW {w0 w:World} {B:Nat} (h:Below B w0 w) (hB:B≤w.heap.size) (n:Nat) (hn:n≤1000000000):LS 138 3 B w0 [] (.slice (some ⟨w.heap.size,0,none⟩) 0 n) (w.alloc (.cells (rI (n*3) fun _=>0) 138)):=
 ⟨⟨rfl,.inr ⟨w.heap.size,n,rI (n*3) fun _=>0,rfl,hB,Blk.new w _ _,Nat.zero_le _,by unfold maxLen;omega,by rw [Qbb],rfl⟩⟩,fun _ h=>(by cases h),h.alloc hB _,Nat.le_trans hB ((Below.refl _ w).alloc Ql _).size⟩
def Qeh (b:Nat→Nat) (a:Nat) (t:Nat×Nat):List (Int×Nat×Nat):=if t.1=1 then [((b a:Nat),0,0)]else [(((lenW t.1).1:Nat),(lenW t.1).2),(((disW t.2).1:Nat),(disW t.2).2)]
def Qap (b:Nat→Nat):List (Nat×Nat)→Nat→List (Int×Nat×Nat)
 |[],_=>[]
 |t::r,a=>Qeh b a t++Qap b r (a+t.1)
def Qas (b:Nat→Nat) (l:List (Nat×Nat)):List (Int×Nat×Nat):=Qap b l 0++[(256,0,0)]
def sumT:List (Nat×Nat)→Nat
 |[]=>0
 |t::r=>t.1+sumT r
theorem Qr3 (l m:List (Nat×Nat)):sumT (l++m)=sumT l+sumT m:=by
 induction l with
 |nil=>show sumT m=0+sumT m;omega
 |cons t l ih=>show t.1+sumT (l++m)=t.1+sumT l+sumT m;rw [ih];omega
theorem Qim (b:Nat→Nat) (l m:List (Nat×Nat)):∀a,Qap b (l++m) a=Qap b l a++Qap b m (a+sumT l):=by
 induction l with
 |nil=>intro a;rfl
 |cons t l ih=>intro a;show Qeh b a t++Qap b (l++m) (a+t.1)=_;rw [ih,←List.append_assoc,Nat.add_assoc];rfl
theorem Qw3 (b:Nat→Nat) (a:Nat) (t:Nat×Nat):(Qeh b a t).length≤2:=by
 unfold Qeh;split
 ·exact Nat.le_succ 1
 ·exact Nat.le_refl 2
theorem Qdh (b:Nat→Nat):∀(l:List (Nat×Nat)) (a:Nat),(Qap b l a).length≤2*l.length
 |[],_=>Ql
 |t::r,a=>by
  have h1:=Qw3 b a t;have h2:=Qdh b r (a+t.1);show(Qeh b a t++Qap b r (a+t.1)).length≤2*(r.length+1);rw [List.length_append];omega
theorem Qm6 (s:ByteArray) (p:Option Addr) (n cap:Nat) (l:List (Nat×Nat)) (w:World) (h:RS 2 p n cap (l.map encT) w) (hn:n≤100000) (hs:s.size≤1000000) (hok:∀k (h:k<l.length),sumT (l.take k)≤1000000∧((l[k].1=1∧sumT (l.take k)<s.size)∨(3≤l[k].1∧l[k].1≤258∧1≤l[k].2∧l[k].2≤32768))):
  Calls Tryz.prog 49 #[.string s,.slice p n cap] w fun e w'=>∃v,e= .returned v∧LS 138 3 w.heap.size w ((Qas (Qac s) l).map encR) v w':=by
 have hlen:l.length=n:=by have:=h.len;rwa [List.length_map]at this
 have HRT:Hid (∀wx,Below w.heap.size w wx→RS 2 p n cap (l.map encT) wx):=Qh fun wx hb=>h.below hb;have HOK:=Qh hok;have HLN:=Qh hlen;have HNN:=Qh (⟨hn,hs⟩:n≤100000∧s.size≤1000000);obtain⟨M,hM⟩:∃M,M=2*n+1:=⟨_,rfl⟩;obtain⟨M2,hM2⟩:∃M,M=2*n:=⟨_,rfl⟩;have hmk:=fun w=>Qtv M (by omega) w
 have hmul:IntKind.i64.wrap (2*(n:Int))=(M2:Int):=by rw [IntWalk.i64_in _ (by omega),hM2];rfl
 have hadd:IntKind.i64.wrap ((M2:Int)+1)=(M:Int):=by rw [IntWalk.i64_in _ (by omega)];omega
 have H0:=Qh (LS.roomW (Below.refl w.heap.size w) Ql M (by omega))
 clear h hok hlen hn hs hM hM2;go_enter Tryz.func49,Tryz.ntmps49;go_wp2_with fail;clear hmk hmul hadd;go_loopw [5,6,16] (fun x y u wr=>∃(k A:Nat) (x1:Value),x1=x∧y= .int .i64 (A:Int)∧u= .int .i64 (k:Int)∧k≤n∧Hid (A=sumT (l.take k))∧Hid (LS 138 3 w.heap.size w ((Qap (Qac s) (l.take k) 0).map encR) x1 wr)) (fun _ _ u _=>n-(intOf u).toNat)
 case atStart=>exact⟨0,0,_,rfl,rfl,rfl,Nat.zero_le _,Qh rfl,H0⟩
 case round=>
  obtain⟨k,A,x1,rfl,rfl,rfl,hk,HA,HL⟩:=hrel;clear H0;by_cases hlt:k<n
  ·have hlti:(k:Int)<(n:Int):=by omega
   obtain⟨ap,rfl⟩:=(HRT.out w Qb).some_ (by omega)
   have hkl:k<l.length:=by rw [HLN.out];exact hlt
   obtain⟨⟨t,d⟩,hx⟩:∃x,x=l[k]'hkl:=⟨_,rfl⟩;have hget:(l.map encT)[k]? =some [.int .i64 (t:Int),.int .i64 (d:Int)]:=by
    rw [List.getElem?_map,List.getElem?_eq_getElem hkl,←hx];rfl
   have hok:=HOK.out k hkl;rw [←hx,←HA.out]at hok;have HS2:Hid (sumT (l.take (k+1))=A+t):=Qh (by rw [List.take_succ_eq_append_getElem hkl,←hx,Qr3,←HA.out];rfl)
   have HW2:Hid (Qap (Qac s) (l.take (k+1)) 0=Qap (Qac s) (l.take k) 0++Qeh (Qac s) A (t,d)):=Qh (by
    rw [List.take_succ_eq_append_getElem hkl,←hx,Qim,←HA.out,Nat.zero_add];show _++(Qeh (Qac s) A (t,d)++[])=_;rw [List.append_nil])
   have HLE:Hid ((Qap (Qac s) (l.take k) 0).length≤200000):=Qh (by
    have:=Qdh (Qac s) (l.take k) 0;rw [List.length_take]at this;have:=HNN.out;omega)
   obtain⟨c0,c1⟩:=(HRT.out wr HL.out.b).at2 hget;have hkw:IntKind.i64.wrap ((k:Int)+1)=((k+1:Nat):Int):=by have:=HNN.out;rw [IntWalk.i64_in _ (by omega)];rfl
   have hAw:IntKind.i64.wrap ((A:Int)+(t:Int))=((A+t:Nat):Int):=by rw [IntWalk.i64_in _ (by omega)];rfl
   have HB1:=Qh (Blk.new wr 110 #[.int .i64 0,.int .i64 0]);have HZ2:=HB1.out.row_ #[.int .i64 (t:Int),.int .i64 (d:Int)];have hb2:=Qai ((Below.refl _ wr).alloc Ql (.cells #[.int .i64 0,.int .i64 0] 110)) Ql #[.int .i64 (t:Int),.int .i64 (d:Int)];obtain⟨W2,hW2⟩:∃W2,W2=(wr.alloc (.cells #[.int .i64 0,.int .i64 0] 110)).setRow wr.heap.size #[.int .i64 (t:Int),.int .i64 (d:Int)]:=⟨_,rfl⟩;rw [←hW2]at HZ2 hb2;have HWE:=Qh hW2;obtain⟨q5,hq5⟩:∃q5,q5=wr.heap.size:=⟨_,rfl⟩;have HQ5:=Qh hq5;rw [←hq5]at HZ2;have d0:W2.cell? ⟨q5,0,none⟩=some (.int .i64 (t:Int)):=HZ2.cell 0;have HL2:=Qh (HL.out.below hb2);have HZ3:Hid (Blk W2 q5 110 #[.int .i64 (t:Int),.int .i64 (d:Int)]∧x1.ownBlock≠some q5):=Qh ⟨HZ2,fun e=>by have:=(HL.out.ownB _ e).2;omega⟩
   have HKN:=Qh hlt;have HTS:=Qh Qik;have hA6:=hok.1;by_cases ht:t=1
   ·have hAs:A<s.size:=by rcases hok.2 with h|h;exact h.2;omega
    have hAi:(A:Int)<(s.size:Int):=by omega
    have hteq:((t:Int)==1)=true:=by rw [ht];rfl
    obtain⟨B,hB⟩:∃B,B=Qac s A:=⟨_,rfl⟩;have hBl:B<256:=by rw [hB];exact Qaz s A
    have hBw:IntKind.i64.wrap (B:Int)=(B:Int):=IntWalk.i64_in _ (by omega)
    have hsA:(s[A]'hAs).toNat=B:=by rw [hB];exact Qa2 s A hAs
    have HX:Hid (Qeh (Qac s) A (t,d)=[((B:Int),0,0)]):=Qh (by unfold Qeh;rw [if_pos ht,hB])
    clear hx hget hkl hlt hW2 hq5 HZ2 hb2 hok HL HA hB hBl ht hA6;go_wp2_with (first|(refine wpList_store_row rfl 110 _ _ rfl wr.heap.size #[.int .i64 (t:Int),.int .i64 (d:Int)] rfl rfl 110 _ HB1.out HTS.out rfl (Qgk _ _) ?_;rw [←HWE.out,←HQ5.out])|(at_builtin;refine Qg1 rfl (.tmp 23) (.tmp 29) 99 rfl rfl rfl HL2.out (B:Int) 0 0 rfl (by rw [List.length_map];have:=HLE.out;omega) ?_;intro v9 w9 h9 g9;have H9:Hid (LS 138 3 w.heap.size w ((Qap (Qac s) (l.take (k+1)) 0).map encR) v9 w9):=Qh (by rw [HW2.out,HX.out,List.map_append];exact h9);have e0:w9.cell? ⟨q5,0,none⟩=some (.int .i64 (t:Int)):=(HZ3.out.1.gr g9 HZ3.out.2).cell 0;clear h9 g9))
    exact⟨⟨k+1,A+t,_,rfl,rfl,by go_num,by have:=HKN.out;omega,Qh HS2.out.symm,H9⟩,by simp only [intOf];have:=HKN.out;omega⟩
   ·have hteq:((t:Int)==1)=false:=Bool.eq_false_iff.2 fun h=>by have:=eq_of_beq h;omega
    have htd:3≤t∧t≤258∧1≤d∧d≤32768:=by rcases hok.2 with h|h;exact absurd h.1 ht;exact h
    have CL:Hid (∀wx,Calls Tryz.prog 81 #[.int .i64 (t:Int)] wx fun e w'=>e= .returned (.agg #[.int .i64 ((lenW t).1:Int),.int .i64 ((lenW t).2.1:Int),.int .i64 ((lenW t).2.2:Int)])∧Below wx.heap.size wx w'):=Qh fun wx=>Qyg t htd.1 htd.2.1 wx;have CD:Hid (∀wx,Calls Tryz.prog 82 #[.int .i64 (d:Int)] wx fun e w'=>e= .returned (.agg #[.int .i64 ((disW d).1:Int),.int .i64 ((disW d).2.1:Int),.int .i64 ((disW d).2.2:Int)])∧Below wx.heap.size wx w'):=Qh fun wx=>Qxr d htd.2.2.1 htd.2.2.2 wx;have HX:Hid (Qeh (Qac s) A (t,d)=[(((lenW t).1:Int),(lenW t).2),(((disW d).1:Int),(disW d).2)]):=Qh (by unfold Qeh;rw [if_neg ht])
    clear hx hget hkl hlt hW2 hq5 HZ2 hb2 hok HL HA ht htd hA6;generalize lenW t=lw at CL HX;generalize disW d=dw at CD HX;obtain⟨l0,l1,l2⟩:=lw;obtain⟨r0,r1,r2⟩:=dw;go_wp2_with (refine wpList_store_row rfl 110 _ _ rfl wr.heap.size #[.int .i64 (t:Int),.int .i64 (d:Int)] rfl rfl 110 _ HB1.out HTS.out rfl (Qgk _ _) ?_;rw [←HWE.out,←HQ5.out]);obtain⟨J,hJd⟩:∃J:World→Prop,J=fun wx=>wx.cell? ⟨q5,0,none⟩=some (.int .i64 (t:Int))∧wx.cell? ⟨q5,1,none⟩=some (.int .i64 (d:Int)):=⟨_,rfl⟩;have HJF:Hid (∀wx,J wx→wx.cell? ⟨q5,0,none⟩=some (.int .i64 (t:Int))∧wx.cell? ⟨q5,1,none⟩=some (.int .i64 (d:Int))):=Qh fun wx h=>by rw [hJd]at h;exact h
    have HJB:Hid (∀wx wy,J wx→q5<wx.heap.size→Below wx.heap.size wx wy→J wy):=Qh fun wx wy h hl hb=>by
     rw [hJd]at h⊢;exact⟨(hb.cell (p:=⟨q5,0,none⟩) hl).trans h.1,(hb.cell (p:=⟨q5,1,none⟩) hl).trans h.2⟩
    have HJG:Hid (∀wx wy vx vy,J wx→q5<wx.heap.size→Gr vx wx vy wy→vx.ownBlock≠some q5→J wy):=Qh fun wx wy vx vy h hl hg hv=>by
     rw [hJd]at h⊢;have hc:=fun j=>World.cell?_of_block (a:=⟨q5,j,none⟩) (w:=wx) (w':=wy) (hg.block q5 hl hv);exact⟨(hc 0).trans h.1,(hc 1).trans h.2⟩
    refine Qgs J (by kernel_rfl) ?_
    change wpAnyH _ _ _ _ _ _ _ _ W2.drew;have HJ:Hid (J W2.drew):=Qh (by rw [hJd];exact⟨HZ3.out.1.drew.cell 0,HZ3.out.1.drew.cell 1⟩)
    have HLa:=Qh HL2.out.drew;have HQL:Hid (q5<W2.drew.heap.size∧x1.ownBlock≠some q5):=Qh ⟨HZ3.out.1.lt,HZ3.out.2⟩;clear hJd d0;generalize W2.drew=wa at HJ HLa HQL⊢;refine Qar (i:=0) (v:=x1) rfl rfl (fun wx hJ=> ?_) HJ.out ?_
    ·go_simp;skip
    simp only [pu];refine Qar (i:=1) (v:= .pointer (some ⟨q5,0,none⟩)) rfl rfl (fun wx hJ=> ?_) HJ.out ?_
    ·go_simp;skip
    simp only [pu];refine Qar (i:=2) (v:= .int .i64 (t:Int)) rfl rfl (fun wx hJ=> ?_) HJ.out ?_
    ·have cc:=(HJF.out wx hJ).1;go_simp;skip
    simp only [pu];refine Qar (i:=4) (v:= .pointer (some ⟨q5,1,none⟩)) rfl rfl (fun wx hJ=> ?_) HJ.out ?_
    ·go_simp;skip
    simp only [pu];refine Qar (i:=5) (v:= .int .i64 (d:Int)) rfl rfl (fun wx hJ=> ?_) HJ.out ?_
    ·have cc:=(HJF.out wx hJ).2;go_simp;skip
    simp only [pu];refine Qe1 (i:=3) (f:=81) (by kernel_rfl) rfl rfl (by go_simp;skip) ((CL.out _).mono ?_)
    rintro e w5 ⟨rfl,b5⟩;have HJ5:=HJB.out _ _ HJ.out HQL.out.1 b5;refine⟨_,rfl,HJ5,?_⟩;simp only [pu];have HL5:=HLa.out.below b5;have hq5':q5<w5.heap.size:=Nat.lt_of_lt_of_le HQL.out.1 b5.size;refine Qe1 (i:=6) (f:=82) (by kernel_rfl) rfl rfl (by go_simp;skip) ((CD.out _).mono ?_)
    rintro e w6 ⟨rfl,b6⟩;have HJ6:=HJB.out _ _ HJ5 hq5' b6;refine⟨_,rfl,HJ6,?_⟩;simp only [pu];have HL6:=HL5.below b6;have hq6:q5<w6.heap.size:=Nat.lt_of_lt_of_le hq5' b6.size;obtain⟨NB,hNB⟩:∃NB:Obj,NB= .cells #[.int .i64 (l0:Int),.int .i64 (l1:Int),.int .i64 (l2:Int),.int .i64 (r0:Int),.int .i64 (r1:Int),.int .i64 (r2:Int)] 138:=⟨_,rfl⟩;have hal:=(Below.refl _ w6).alloc Ql NB;have HLb:=HL6.below hal;have HJb:=HJB.out _ _ HJ6 hq6 hal;obtain⟨v',w7,hap,hl7,hgr⟩:=appW HLb 99 99 rfl ⟨w6.heap.size,0,none⟩ 2 2 [encR ((l0:Int),l1,l2),encR ((r0:Int),r1,r2)] rfl (fun x hx=>by
     rcases List.mem_cons.1 hx with rfl|hx
     ·exact Q0m _ _ _ _ (.head _)
     ·rw [List.mem_singleton.1 hx];exact Q0m _ _ _ _ (.head _)) (fun j u hu=>by rw [hNB];exact Qci w6 #[.int .i64 (l0:Int),.int .i64 (l1:Int),.int .i64 (l2:Int),.int .i64 (r0:Int),.int .i64 (r1:Int),.int .i64 (r2:Int)] 138 j u (by simpa [encR,encW]using hu)) (by decide) (by rw [List.length_map];have:=HLE.out;omega)
    have HJ7:Hid (J w7):=Qh (HJG.out _ _ _ _ HJb (Nat.lt_of_lt_of_le hq6 hal.size) hgr HQL.out.2);have H9:Hid (LS 138 3 w.heap.size w ((Qap (Qac s) (l.take (k+1)) 0).map encR) v' w7):=Qh (by rw [HW2.out,HX.out,List.map_append];exact hl7)
    refine Qjv (i:=7) (v:= .slice (some ⟨w6.heap.size,0,none⟩) 2 2) (R:=fun wx=>wx=w6.alloc NB) (by kernel_rfl) rfl rfl (by rw [hNB];go_simp;exact⟨rfl,rfl⟩) ?_
    rintro _ rfl;refine⟨HJb,?_⟩;simp only [pu];refine Qjv (i:=8) (v:=v') (R:=fun wx=>wx=w7) (by kernel_rfl) rfl rfl (Qek (.tmp 31) (.tmp 38) 99 rfl rfl rfl hap rfl) ?_
    rintro _ rfl;refine⟨HJ7.out,?_⟩;simp only [pu];clear hap hgr hl7 HLb HJb hal hNB HL6 HJ6 HL5 HJ5 hq6 hq5' b5 b6;refine Qar (i:=9) (v:=v') rfl rfl (fun wx hJ=> ?_) HJ7.out ?_
    ·go_simp;skip
    simp only [pu];refine wpAnyH_done (by kernel_rfl) ?_ _
    have e0:=(HJF.out _ HJ7.out).1;clear HJ7 HJF HJB HJG;go_wp2_with fail;exact⟨⟨k+1,A+t,_,rfl,rfl,by go_num,by have:=HKN.out;omega,Qh HS2.out.symm,H9⟩,by simp only [intOf];have:=HKN.out;omega⟩
  ·obtain rfl:k=n:=by omega
   have hlti:¬(k:Int)<(k:Int):=by omega
   have HE:Hid (l.take k=l):=Qh (List.take_of_length_le (by rw [HLN.out];exact Ql))
   go_wp2_with (at_builtin;refine Qg1 rfl (.tmp 45) (.tmp 47) 99 rfl rfl rfl HL.out 256 0 0 rfl (by rw [List.length_map];have:=Qdh (Qac s) (l.take k) 0;rw [List.length_take]at this;have:=HNN.out;omega) ?_;intro v9 w9 h9 _;have H9:=Qh h9;clear h9)
   go_ret;have h:=H9.out;rw [HE.out]at h;exact⟨_,rfl,by unfold Qas;rw [List.map_append];exact h⟩
end Go.Proofs.YtbmcjdoiohcaaaaGreat
