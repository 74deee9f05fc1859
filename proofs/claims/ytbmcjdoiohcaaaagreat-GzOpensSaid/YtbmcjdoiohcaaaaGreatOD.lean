/- OD -/
import Derived.Test.YtbmcjdoiohcaaaaGreatOC
set_option maxRecDepth 100000
set_option maxHeartbeats 4000000
namespace Go.Proofs.YtbmcjdoiohcaaaaGreat
open Go.RowKit
def Q2z (s:ByteArray) (i:Nat):Nat→Nat×Nat:=if i=0 then Qd4 s else if i≤2 then Qfi s else sumS s
def Q1d (i:Nat):Nat:=if i=3 then 1 else i+2
def preS (s:ByteArray):Nat→Nat×Nat
 |0=>(10,0)
 |i+1=>Qke (Qgr s (Q1d i)) (Q2z s i) (preS s i)
theorem Qfd {s:ByteArray} {i:Nat} (h:(preS s i).2≠0):∀d,preS s (i+d)=preS s i
 |0=>rfl
 |d+1=>by
  have e:=Qfd h d;show Qke _ _ (preS s (i+d))=_;rw [e];exact if_pos (.inl h)
theorem Qfz {s:ByteArray} {i:Nat} (h:Qgr s (Q1d i)=false):preS s (i+1)=preS s i:=by
 show Qke _ _ _=_
 rw [h];exact if_pos (.inr rfl)
theorem Qiq {s:ByteArray} {i:Nat} (h:Qgr s (Q1d i)=true) (h0:(preS s i).2=0):preS s (i+1)=Q2z s i (preS s i).1:=by
 show Qke _ _ _=_
 rw [h];exact if_neg (by rintro(k|k);exact k h0;cases k)
theorem Qxx (x k:Nat) (hx:x<256) (hk:k<8):bits .and .u8 (x:Int) ((2^k:Nat):Int)=if x /2^k%2=1 then((2^k:Nat):Int)else 0:=by
 have h8:2^k<256:=Nat.pow_lt_pow_right (a:=2) (m:=k) (n:=8) (by decide) hk
 rw [u8_and_nat x (2^k) hx h8];have:∀i:Fin 256,∀j:Fin 8,(i.val&&&2^j.val)=if i.val /2^j.val%2=1 then 2^j.val else 0:=by decide+kernel
 have e:=this ⟨x,hx⟩ ⟨k,hk⟩;dsimp only at e;rw [e];split<;>rfl
theorem Qdn:(Tryz.prog.info? 75).map (·.size)=some 2:=by kernel_rfl
theorem Qel {v:Int} {f:Fn} {a b:Array Value}:(#[Value.int .u8 v,.func f a b]:Array Value).all (·.oneCell')=true:=by kernel_rfl
theorem Q3j (g:Nat) (w:World):(Instr.index 76 (.agg #[.int .u8 4,.func (.func 35) #[.pointer (some ⟨g,0,none⟩)] #[],.int .u8 8,.func (.func 36) #[.pointer (some ⟨g,0,none⟩)] #[],.int .u8 16,.func (.func 36) #[.pointer (some ⟨g,0,none⟩)] #[],.int .u8 2,.func (.func 37) #[.pointer (some ⟨g,0,none⟩)] #[]]) (.int .i64 0)).run Tryz.prog w= .ok (.agg #[.int .u8 4,.func (.func 35) #[.pointer (some ⟨g,0,none⟩)] #[]]) w:=by kernel_rfl
theorem Q3k (g:Nat) (w:World):(Instr.index 76 (.agg #[.int .u8 4,.func (.func 35) #[.pointer (some ⟨g,0,none⟩)] #[],.int .u8 8,.func (.func 36) #[.pointer (some ⟨g,0,none⟩)] #[],.int .u8 16,.func (.func 36) #[.pointer (some ⟨g,0,none⟩)] #[],.int .u8 2,.func (.func 37) #[.pointer (some ⟨g,0,none⟩)] #[]]) (.int .i64 1)).run Tryz.prog w= .ok (.agg #[.int .u8 8,.func (.func 36) #[.pointer (some ⟨g,0,none⟩)] #[]]) w:=by kernel_rfl
theorem Q3l (g:Nat) (w:World):(Instr.index 76 (.agg #[.int .u8 4,.func (.func 35) #[.pointer (some ⟨g,0,none⟩)] #[],.int .u8 8,.func (.func 36) #[.pointer (some ⟨g,0,none⟩)] #[],.int .u8 16,.func (.func 36) #[.pointer (some ⟨g,0,none⟩)] #[],.int .u8 2,.func (.func 37) #[.pointer (some ⟨g,0,none⟩)] #[]]) (.int .i64 2)).run Tryz.prog w= .ok (.agg #[.int .u8 16,.func (.func 36) #[.pointer (some ⟨g,0,none⟩)] #[]]) w:=by kernel_rfl
theorem Q3m (g:Nat) (w:World):(Instr.index 76 (.agg #[.int .u8 4,.func (.func 35) #[.pointer (some ⟨g,0,none⟩)] #[],.int .u8 8,.func (.func 36) #[.pointer (some ⟨g,0,none⟩)] #[],.int .u8 16,.func (.func 36) #[.pointer (some ⟨g,0,none⟩)] #[],.int .u8 2,.func (.func 37) #[.pointer (some ⟨g,0,none⟩)] #[]]) (.int .i64 3)).run Tryz.prog w= .ok (.agg #[.int .u8 2,.func (.func 37) #[.pointer (some ⟨g,0,none⟩)] #[]]) w:=by kernel_rfl
theorem Qyr (g:Nat) (s:ByteArray) (w:World) (h:HW g s 0 w) (hs:s.size≤281474976710656):
  Calls Tryz.prog 21 #[.pointer (some ⟨g,0,none⟩)] w (Qtb g s (Qbq s) w):=by
 have C:=Qmr g s w h (by omega)
 have CE:=Qh fun a wx (hx:HW g s a wx)=>Qms g a s wx hx (by omega)
 have CX:=Qh fun a wx (hx:HW g s a wx)=>Qoa g a s wx hx (by omega)
 have CS:=Qh fun a wx (hx:HW g s a wx)=>Qp1 g a s wx hx hs;obtain⟨F,hF⟩:∃F,F=Qac s 3:=⟨_,rfl⟩;have hF8:F<256:=by rw [hF];exact Qaz _ _
 have HFB:=Qh fun k (hk:k<8)=>Qxx F k hF8 hk;have HFS:Hid (∀k,Qgr s k=decide (F /2^k%2=1)):=Qh fun k=>by unfold Qgr;rw [hF]
 rw [←hF]at C;clear h hF hF8;go_enter Tryz.func21,Tryz.ntmps21;go_wp2_with fail;refine C.mono ?_;rintro e w1 ⟨m1,⟨hb,v,rfl⟩|⟨hb,rfl,k1⟩⟩
 ·go_wp2_with fail;go_ret;have e:Qbq s=(0,2):=if_pos hb;rw [e];exact⟨rfl,m1,fun k=>by cases k⟩
 ·have HBS:Hid (Qbq s=preS s 4):=Qh (if_neg hb);have HP:Hid ((preS s 0).2=0∧HW g s (preS s 0).1 w1∧Ho g w w1):=Qh ⟨rfl,k1,m1⟩;clear hb k1 m1 C;go_wp2_with fail;go_loopw [29] (fun u wr=>∃i:Nat,i≤4∧u= .int .i64 (i:Int)∧Hid ((preS s i).2=0∧HW g s (preS s i).1 wr∧Ho g w wr)) (fun u _=>4-(intOf u).toNat)
  case atStart=>exact⟨0,by decide,rfl,HP⟩
  case round=>
   obtain⟨i,hi,rfl,HR⟩:=hrel;clear HP;have h5:i=0∨i=1∨i=2∨i=3∨i=4:=by omega
   rcases h5 with rfl|rfl|rfl|rfl|rfl
   ·have hix:=Q3j g wr;obtain⟨q,hq⟩:∃q,q=wr.heap.size:=⟨_,rfl⟩;obtain⟨w2,hw2⟩:∃w2,w2=(wr.alloc (.cells #[.int .u8 0,.nilFunc] 75)).setRow wr.heap.size #[.int .u8 4,.func (.func 35) #[.pointer (some ⟨g,0,none⟩)] #[]]:=⟨_,rfl⟩;have HZ:=Qh (Blk.new wr 75 #[.int .u8 0,.nilFunc]);have HPB:Hid (Blk w2 q 75 #[.int .u8 4,.func (.func 35) #[.pointer (some ⟨g,0,none⟩)] #[]]):=Qh (by rw [hw2,hq];exact(Blk.new wr 75 #[.int .u8 0,.nilFunc]).row_ _)
    have hbl:Below wr.heap.size wr w2:=by rw [hw2];exact Qai ((Below.refl _ wr).alloc Ql _) Ql _
    have HR2:Hid (HW g s (preS s 0).1 w2∧Ho g w w2):=Qh ⟨HR.out.2.1.below hbl,HR.out.2.2.trans (Ho.of hbl)⟩;have HWE:=Qh (⟨hw2,hq⟩:w2=(wr.alloc (.cells #[.int .u8 0,.nilFunc] 75)).setRow wr.heap.size #[.int .u8 4,.func (.func 35) #[.pointer (some ⟨g,0,none⟩)] #[]]∧q=wr.heap.size);have HR0:=Qh HR.out.1;clear hw2 hq hbl HR;have fb:=HFB.out 2 (by decide)
    have c0:=HPB.out.cell 0;have c1:=HPB.out.cell 1;by_cases hf:F /2^2%2=1
    ·rw [if_pos hf]at fb;have HON:=Qh (Qiq (s:=s) (i:=0) ((HFS.out 2).trans (decide_eq_true hf)) HR0.out);have fb:bits .and .u8 (F:Int) 4=4:=fb;clear hf;go_wp2_with (refine wpList_store_row rfl 75 _ _ rfl wr.heap.size #[.int .u8 4,.func (.func 35) #[.pointer (some ⟨g,0,none⟩)] #[]] rfl rfl 75 _ HZ.out Qdn rfl Qel ?_;rw [←HWE.out.1,←HWE.out.2]);refine(CE.out _ _ HR2.out.1).mono ?_;rintro e w3 ⟨rfl,m3,k3⟩;have HP3:Hid (Ho g w w3∧((preS s (0+1)).2=0→HW g s (preS s (0+1)).1 w3)):=Qh ⟨HR2.out.2.trans m3,fun k=>by rw [HON.out]at k⊢;exact k3 k⟩
     have HER:Hid ((Qd4 s (preS s 0).1).2=(preS s (0+1)).2):=Qh (by rw [HON.out];rfl)
     rw [HER.out];clear m3 k3 HON HER HZ HPB HWE HR2 c0 c1 hix;generalize hX:(preS s (0+1)).2=X at*;by_cases hX0:X=0
     ·subst hX0;go_wp2_with fail;exact⟨⟨1,by decide,rfl,Qh ⟨hX,HP3.out.2 trivial,HP3.out.1⟩⟩,by decide⟩
     ·have hXi:¬(X:Int)=0:=by omega
      go_wp2_with fail;go_ret;rw [HBS.out,show(4:Nat)=1+3 from rfl,Qfd (i:=1) (by rw [hX];exact hX0)]
      exact⟨by rw [hX];rfl,HP3.out.1,fun k=>absurd (hX.symm.trans k) hX0⟩
    ·rw [if_neg hf]at fb;have HOF:=Qh (Qfz (s:=s) (i:=0) ((HFS.out 2).trans (decide_eq_false hf)));have fb:bits .and .u8 (F:Int) 4=0:=fb;clear hf;go_wp2_with (refine wpList_store_row rfl 75 _ _ rfl wr.heap.size #[.int .u8 4,.func (.func 35) #[.pointer (some ⟨g,0,none⟩)] #[]] rfl rfl 75 _ HZ.out Qdn rfl Qel ?_;rw [←HWE.out.1,←HWE.out.2]);exact⟨⟨1,by decide,rfl,Qh (by rw [show (1:Nat)=0+1 from rfl,HOF.out];exact⟨HR0.out,HR2.out⟩)⟩,by decide⟩
   ·have hix:=Q3k g wr;obtain⟨q,hq⟩:∃q,q=wr.heap.size:=⟨_,rfl⟩;obtain⟨w2,hw2⟩:∃w2,w2=(wr.alloc (.cells #[.int .u8 0,.nilFunc] 75)).setRow wr.heap.size #[.int .u8 8,.func (.func 36) #[.pointer (some ⟨g,0,none⟩)] #[]]:=⟨_,rfl⟩;have HZ:=Qh (Blk.new wr 75 #[.int .u8 0,.nilFunc]);have HPB:Hid (Blk w2 q 75 #[.int .u8 8,.func (.func 36) #[.pointer (some ⟨g,0,none⟩)] #[]]):=Qh (by rw [hw2,hq];exact(Blk.new wr 75 #[.int .u8 0,.nilFunc]).row_ _)
    have hbl:Below wr.heap.size wr w2:=by rw [hw2];exact Qai ((Below.refl _ wr).alloc Ql _) Ql _
    have HR2:Hid (HW g s (preS s 1).1 w2∧Ho g w w2):=Qh ⟨HR.out.2.1.below hbl,HR.out.2.2.trans (Ho.of hbl)⟩;have HWE:=Qh (⟨hw2,hq⟩:w2=(wr.alloc (.cells #[.int .u8 0,.nilFunc] 75)).setRow wr.heap.size #[.int .u8 8,.func (.func 36) #[.pointer (some ⟨g,0,none⟩)] #[]]∧q=wr.heap.size);have HR0:=Qh HR.out.1;clear hw2 hq hbl HR;have fb:=HFB.out 3 (by decide)
    have c0:=HPB.out.cell 0;have c1:=HPB.out.cell 1;by_cases hf:F /2^3%2=1
    ·rw [if_pos hf]at fb;have HON:=Qh (Qiq (s:=s) (i:=1) ((HFS.out 3).trans (decide_eq_true hf)) HR0.out);have fb:bits .and .u8 (F:Int) 8=8:=fb;clear hf;go_wp2_with (refine wpList_store_row rfl 75 _ _ rfl wr.heap.size #[.int .u8 8,.func (.func 36) #[.pointer (some ⟨g,0,none⟩)] #[]] rfl rfl 75 _ HZ.out Qdn rfl Qel ?_;rw [←HWE.out.1,←HWE.out.2]);refine(CX.out _ _ HR2.out.1).mono ?_;rintro e w3 ⟨rfl,m3,k3⟩;have HP3:Hid (Ho g w w3∧((preS s (1+1)).2=0→HW g s (preS s (1+1)).1 w3)):=Qh ⟨HR2.out.2.trans m3,fun k=>by rw [HON.out]at k⊢;exact k3 k⟩
     have HER:Hid ((Qfi s (preS s 1).1).2=(preS s (1+1)).2):=Qh (by rw [HON.out];rfl)
     rw [HER.out];clear m3 k3 HON HER HZ HPB HWE HR2 c0 c1 hix;generalize hX:(preS s (1+1)).2=X at*;by_cases hX0:X=0
     ·subst hX0;go_wp2_with fail;exact⟨⟨2,by decide,rfl,Qh ⟨hX,HP3.out.2 trivial,HP3.out.1⟩⟩,by decide⟩
     ·have hXi:¬(X:Int)=0:=by omega
      go_wp2_with fail;go_ret;rw [HBS.out,show(4:Nat)=2+2 from rfl,Qfd (i:=2) (by rw [hX];exact hX0)]
      exact⟨by rw [hX];rfl,HP3.out.1,fun k=>absurd (hX.symm.trans k) hX0⟩
    ·rw [if_neg hf]at fb;have HOF:=Qh (Qfz (s:=s) (i:=1) ((HFS.out 3).trans (decide_eq_false hf)));have fb:bits .and .u8 (F:Int) 8=0:=fb;clear hf;go_wp2_with (refine wpList_store_row rfl 75 _ _ rfl wr.heap.size #[.int .u8 8,.func (.func 36) #[.pointer (some ⟨g,0,none⟩)] #[]] rfl rfl 75 _ HZ.out Qdn rfl Qel ?_;rw [←HWE.out.1,←HWE.out.2]);exact⟨⟨2,by decide,rfl,Qh (by rw [show (2:Nat)=1+1 from rfl,HOF.out];exact⟨HR0.out,HR2.out⟩)⟩,by decide⟩
   ·have hix:=Q3l g wr;obtain⟨q,hq⟩:∃q,q=wr.heap.size:=⟨_,rfl⟩;obtain⟨w2,hw2⟩:∃w2,w2=(wr.alloc (.cells #[.int .u8 0,.nilFunc] 75)).setRow wr.heap.size #[.int .u8 16,.func (.func 36) #[.pointer (some ⟨g,0,none⟩)] #[]]:=⟨_,rfl⟩;have HZ:=Qh (Blk.new wr 75 #[.int .u8 0,.nilFunc]);have HPB:Hid (Blk w2 q 75 #[.int .u8 16,.func (.func 36) #[.pointer (some ⟨g,0,none⟩)] #[]]):=Qh (by rw [hw2,hq];exact(Blk.new wr 75 #[.int .u8 0,.nilFunc]).row_ _)
    have hbl:Below wr.heap.size wr w2:=by rw [hw2];exact Qai ((Below.refl _ wr).alloc Ql _) Ql _
    have HR2:Hid (HW g s (preS s 2).1 w2∧Ho g w w2):=Qh ⟨HR.out.2.1.below hbl,HR.out.2.2.trans (Ho.of hbl)⟩;have HWE:=Qh (⟨hw2,hq⟩:w2=(wr.alloc (.cells #[.int .u8 0,.nilFunc] 75)).setRow wr.heap.size #[.int .u8 16,.func (.func 36) #[.pointer (some ⟨g,0,none⟩)] #[]]∧q=wr.heap.size);have HR0:=Qh HR.out.1;clear hw2 hq hbl HR;have fb:=HFB.out 4 (by decide)
    have c0:=HPB.out.cell 0;have c1:=HPB.out.cell 1;by_cases hf:F /2^4%2=1
    ·rw [if_pos hf]at fb;have HON:=Qh (Qiq (s:=s) (i:=2) ((HFS.out 4).trans (decide_eq_true hf)) HR0.out);have fb:bits .and .u8 (F:Int) 16=16:=fb;clear hf;go_wp2_with (refine wpList_store_row rfl 75 _ _ rfl wr.heap.size #[.int .u8 16,.func (.func 36) #[.pointer (some ⟨g,0,none⟩)] #[]] rfl rfl 75 _ HZ.out Qdn rfl Qel ?_;rw [←HWE.out.1,←HWE.out.2]);refine(CX.out _ _ HR2.out.1).mono ?_;rintro e w3 ⟨rfl,m3,k3⟩;have HP3:Hid (Ho g w w3∧((preS s (2+1)).2=0→HW g s (preS s (2+1)).1 w3)):=Qh ⟨HR2.out.2.trans m3,fun k=>by rw [HON.out]at k⊢;exact k3 k⟩
     have HER:Hid ((Qfi s (preS s 2).1).2=(preS s (2+1)).2):=Qh (by rw [HON.out];rfl)
     rw [HER.out];clear m3 k3 HON HER HZ HPB HWE HR2 c0 c1 hix;generalize hX:(preS s (2+1)).2=X at*;by_cases hX0:X=0
     ·subst hX0;go_wp2_with fail;exact⟨⟨3,by decide,rfl,Qh ⟨hX,HP3.out.2 trivial,HP3.out.1⟩⟩,by decide⟩
     ·have hXi:¬(X:Int)=0:=by omega
      go_wp2_with fail;go_ret;rw [HBS.out,show(4:Nat)=3+1 from rfl,Qfd (i:=3) (by rw [hX];exact hX0)]
      exact⟨by rw [hX];rfl,HP3.out.1,fun k=>absurd (hX.symm.trans k) hX0⟩
    ·rw [if_neg hf]at fb;have HOF:=Qh (Qfz (s:=s) (i:=2) ((HFS.out 4).trans (decide_eq_false hf)));have fb:bits .and .u8 (F:Int) 16=0:=fb;clear hf;go_wp2_with (refine wpList_store_row rfl 75 _ _ rfl wr.heap.size #[.int .u8 16,.func (.func 36) #[.pointer (some ⟨g,0,none⟩)] #[]] rfl rfl 75 _ HZ.out Qdn rfl Qel ?_;rw [←HWE.out.1,←HWE.out.2]);exact⟨⟨3,by decide,rfl,Qh (by rw [show (3:Nat)=2+1 from rfl,HOF.out];exact⟨HR0.out,HR2.out⟩)⟩,by decide⟩
   ·have hix:=Q3m g wr;obtain⟨q,hq⟩:∃q,q=wr.heap.size:=⟨_,rfl⟩;obtain⟨w2,hw2⟩:∃w2,w2=(wr.alloc (.cells #[.int .u8 0,.nilFunc] 75)).setRow wr.heap.size #[.int .u8 2,.func (.func 37) #[.pointer (some ⟨g,0,none⟩)] #[]]:=⟨_,rfl⟩;have HZ:=Qh (Blk.new wr 75 #[.int .u8 0,.nilFunc]);have HPB:Hid (Blk w2 q 75 #[.int .u8 2,.func (.func 37) #[.pointer (some ⟨g,0,none⟩)] #[]]):=Qh (by rw [hw2,hq];exact(Blk.new wr 75 #[.int .u8 0,.nilFunc]).row_ _)
    have hbl:Below wr.heap.size wr w2:=by rw [hw2];exact Qai ((Below.refl _ wr).alloc Ql _) Ql _
    have HR2:Hid (HW g s (preS s 3).1 w2∧Ho g w w2):=Qh ⟨HR.out.2.1.below hbl,HR.out.2.2.trans (Ho.of hbl)⟩;have HWE:=Qh (⟨hw2,hq⟩:w2=(wr.alloc (.cells #[.int .u8 0,.nilFunc] 75)).setRow wr.heap.size #[.int .u8 2,.func (.func 37) #[.pointer (some ⟨g,0,none⟩)] #[]]∧q=wr.heap.size);have HR0:=Qh HR.out.1;clear hw2 hq hbl HR;have fb:=HFB.out 1 (by decide)
    have c0:=HPB.out.cell 0;have c1:=HPB.out.cell 1;by_cases hf:F /2^1%2=1
    ·rw [if_pos hf]at fb;have HON:=Qh (Qiq (s:=s) (i:=3) ((HFS.out 1).trans (decide_eq_true hf)) HR0.out);have fb:bits .and .u8 (F:Int) 2=2:=fb;clear hf;go_wp2_with (refine wpList_store_row rfl 75 _ _ rfl wr.heap.size #[.int .u8 2,.func (.func 37) #[.pointer (some ⟨g,0,none⟩)] #[]] rfl rfl 75 _ HZ.out Qdn rfl Qel ?_;rw [←HWE.out.1,←HWE.out.2]);refine(CS.out _ _ HR2.out.1).mono ?_;rintro e w3 ⟨rfl,m3,k3⟩;have HP3:Hid (Ho g w w3∧((preS s (3+1)).2=0→HW g s (preS s (3+1)).1 w3)):=Qh ⟨HR2.out.2.trans m3,fun k=>by rw [HON.out]at k⊢;exact k3 k⟩
     have HER:Hid ((sumS s (preS s 3).1).2=(preS s (3+1)).2):=Qh (by rw [HON.out];rfl)
     rw [HER.out];clear m3 k3 HON HER HZ HPB HWE HR2 c0 c1 hix;generalize hX:(preS s (3+1)).2=X at*;by_cases hX0:X=0
     ·subst hX0;go_wp2_with fail;exact⟨⟨4,by decide,rfl,Qh ⟨hX,HP3.out.2 trivial,HP3.out.1⟩⟩,by decide⟩
     ·have hXi:¬(X:Int)=0:=by omega
      go_wp2_with fail;go_ret;rw [HBS.out,show(4:Nat)=4+0 from rfl,Qfd (i:=4) (by rw [hX];exact hX0)]
      exact⟨by rw [hX];rfl,HP3.out.1,fun k=>absurd (hX.symm.trans k) hX0⟩
    ·rw [if_neg hf]at fb;have HOF:=Qh (Qfz (s:=s) (i:=3) ((HFS.out 1).trans (decide_eq_false hf)));have fb:bits .and .u8 (F:Int) 2=0:=fb;clear hf;go_wp2_with (refine wpList_store_row rfl 75 _ _ rfl wr.heap.size #[.int .u8 2,.func (.func 37) #[.pointer (some ⟨g,0,none⟩)] #[]] rfl rfl 75 _ HZ.out Qdn rfl Qel ?_;rw [←HWE.out.1,←HWE.out.2]);exact⟨⟨4,by decide,rfl,Qh (by rw [show (4:Nat)=3+1 from rfl,HOF.out];exact⟨HR0.out,HR2.out⟩)⟩,by decide⟩
   ·go_wp2_with fail;go_ret;rw [HBS.out];exact⟨by rw [HR.out.1];rfl,HR.out.2.2,fun _=>HR.out.2.1⟩
end Go.Proofs.YtbmcjdoiohcaaaaGreat
