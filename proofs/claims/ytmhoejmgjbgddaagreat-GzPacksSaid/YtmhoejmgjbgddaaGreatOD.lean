/- The developers' head of chapter 12: all that stands ahead. -/
import Derived.Test.YtmhoejmgjbgddaaGreatOC
namespace Go.Proofs.YtmhoejmgjbgddaaGreat
open Go.RowKit
def partF (s:ByteArray) (i:Nat):Nat→Nat×Nat:=if i=0 then extraS s else if i≤2 then textS s else sumS s
def partK (i:Nat):Nat:=if i=3 then 1 else i+2
def preS (s:ByteArray):Nat→Nat×Nat
 |0=>(10,0)
 |i+1=>stepS (flagS s (partK i)) (partF s i) (preS s i)
theorem pre_err {s:ByteArray} {i:Nat} (h:(preS s i).2≠0):∀d,preS s (i+d)=preS s i
 |0=>rfl
 |d+1=>by
  have e:=pre_err h d;show stepS _ _ (preS s (i+d))=_;rw [e];exact if_pos (.inl h)
theorem pre_off {s:ByteArray} {i:Nat} (h:flagS s (partK i)=false):preS s (i+1)=preS s i:=by
 show stepS _ _ _=_
 rw [h];exact if_pos (.inr rfl)
theorem pre_on {s:ByteArray} {i:Nat} (h:flagS s (partK i)=true) (h0:(preS s i).2=0):preS s (i+1)=partF s i (preS s i).1:=by
 show stepS _ _ _=_
 rw [h];exact if_neg (by rintro(k|k);exact k h0;cases k)
theorem flag_bit (x k:Nat) (hx:x<256) (hk:k<8):bits .and .u8 (x:Int) ((2^k:Nat):Int)=if x /2^k%2=1 then((2^k:Nat):Int)else 0:=by
 have h8:2^k<256:=Nat.pow_lt_pow_right (a:=2) (m:=k) (n:=8) (by decide) hk
 rw [u8_and_nat x (2^k) hx h8];have:∀i:Fin 256,∀j:Fin 8,(i.val&&&2^j.val)=if i.val /2^j.val%2=1 then 2^j.val else 0:=by decide+kernel
 have e:=this ⟨x,hx⟩ ⟨k,hk⟩;dsimp only at e;rw [e];split<;>rfl
theorem part_size:(Tryz.prog.info? 75).map (·.size)=some 2:=by kernel_rfl
theorem part_one {v:Int} {f:Fn} {a b:Array Value}:(#[Value.int .u8 v,.func f a b]:Array Value).all (·.oneCell')=true:=by kernel_rfl
theorem idx_0 (g:Nat) (w:World):(Instr.index 76 (.agg #[.int .u8 4,.func (.func 35) #[.pointer (some ⟨g,0,none⟩)] #[],.int .u8 8,.func (.func 36) #[.pointer (some ⟨g,0,none⟩)] #[],.int .u8 16,.func (.func 36) #[.pointer (some ⟨g,0,none⟩)] #[],.int .u8 2,.func (.func 37) #[.pointer (some ⟨g,0,none⟩)] #[]]) (.int .i64 0)).run Tryz.prog w= .ok (.agg #[.int .u8 4,.func (.func 35) #[.pointer (some ⟨g,0,none⟩)] #[]]) w:=by kernel_rfl
theorem idx_1 (g:Nat) (w:World):(Instr.index 76 (.agg #[.int .u8 4,.func (.func 35) #[.pointer (some ⟨g,0,none⟩)] #[],.int .u8 8,.func (.func 36) #[.pointer (some ⟨g,0,none⟩)] #[],.int .u8 16,.func (.func 36) #[.pointer (some ⟨g,0,none⟩)] #[],.int .u8 2,.func (.func 37) #[.pointer (some ⟨g,0,none⟩)] #[]]) (.int .i64 1)).run Tryz.prog w= .ok (.agg #[.int .u8 8,.func (.func 36) #[.pointer (some ⟨g,0,none⟩)] #[]]) w:=by kernel_rfl
theorem idx_2 (g:Nat) (w:World):(Instr.index 76 (.agg #[.int .u8 4,.func (.func 35) #[.pointer (some ⟨g,0,none⟩)] #[],.int .u8 8,.func (.func 36) #[.pointer (some ⟨g,0,none⟩)] #[],.int .u8 16,.func (.func 36) #[.pointer (some ⟨g,0,none⟩)] #[],.int .u8 2,.func (.func 37) #[.pointer (some ⟨g,0,none⟩)] #[]]) (.int .i64 2)).run Tryz.prog w= .ok (.agg #[.int .u8 16,.func (.func 36) #[.pointer (some ⟨g,0,none⟩)] #[]]) w:=by kernel_rfl
theorem idx_3 (g:Nat) (w:World):(Instr.index 76 (.agg #[.int .u8 4,.func (.func 35) #[.pointer (some ⟨g,0,none⟩)] #[],.int .u8 8,.func (.func 36) #[.pointer (some ⟨g,0,none⟩)] #[],.int .u8 16,.func (.func 36) #[.pointer (some ⟨g,0,none⟩)] #[],.int .u8 2,.func (.func 37) #[.pointer (some ⟨g,0,none⟩)] #[]]) (.int .i64 3)).run Tryz.prog w= .ok (.agg #[.int .u8 2,.func (.func 37) #[.pointer (some ⟨g,0,none⟩)] #[]]) w:=by kernel_rfl
set_option maxRecDepth 100000 in
set_option maxHeartbeats 4000000 in
theorem pass_any (g:Nat) (s:ByteArray) (w:World) (h:HW g s 0 w) (hs:s.size≤281474976710656):
  Calls Tryz.prog 21 #[.pointer (some ⟨g,0,none⟩)] w (PassV g s (bodyS s) w):=by
 have C:=passBegin_any g s w h (by omega)
 have CE:=Lib.hid fun a wx (hx:HW g s a wx)=>passExtra_any g a s wx hx (by omega)
 have CX:=Lib.hid fun a wx (hx:HW g s a wx)=>passText_any g a s wx hx (by omega)
 have CS:=Lib.hid fun a wx (hx:HW g s a wx)=>passSum_any g a s wx hx hs;obtain⟨F,hF⟩:∃F,F=byteS s 3:=⟨_,rfl⟩;have hF8:F<256:=by rw [hF];exact byteS_lt _ _
 have HFB:=Lib.hid fun k (hk:k<8)=>flag_bit F k hF8 hk;have HFS:Hid (∀k,flagS s k=decide (F /2^k%2=1)):=Lib.hid fun k=>by unfold flagS;rw [hF]
 rw [←hF]at C;clear h hF hF8;go_enter Tryz.func21,Tryz.ntmps21;go_wp2_with fail;refine C.mono ?_;rintro e w1 ⟨m1,⟨hb,v,rfl⟩|⟨hb,rfl,k1⟩⟩
 ·go_wp2_with fail
  go_ret;have e:bodyS s=(0,2):=if_pos hb;rw [e];exact⟨rfl,m1,fun k=>by cases k⟩
 ·have HBS:Hid (bodyS s=preS s 4):=Lib.hid (if_neg hb)
  have HP:Hid ((preS s 0).2=0∧HW g s (preS s 0).1 w1∧Ho g w w1):=Lib.hid ⟨rfl,k1,m1⟩;clear hb k1 m1 C;go_wp2_with fail;go_loopw [29] (fun u wr=>∃i:Nat,i≤4∧u= .int .i64 (i:Int)∧Hid ((preS s i).2=0∧HW g s (preS s i).1 wr∧Ho g w wr)) (fun u _=>4-(intOf u).toNat)
  case atStart=>exact⟨0,by decide,rfl,HP⟩
  case round=>
   obtain⟨i,hi,rfl,HR⟩:=hrel;clear HP;have h5:i=0∨i=1∨i=2∨i=3∨i=4:=by omega
   rcases h5 with rfl|rfl|rfl|rfl|rfl
   ·have hix:=idx_0 g wr
    obtain⟨q,hq⟩:∃q,q=wr.heap.size:=⟨_,rfl⟩;obtain⟨w2,hw2⟩:∃w2,w2=(wr.alloc (.cells #[.int .u8 0,.nilFunc] 75)).setRow wr.heap.size #[.int .u8 4,.func (.func 35) #[.pointer (some ⟨g,0,none⟩)] #[]]:=⟨_,rfl⟩;have HZ:=Lib.hid (Blk.new wr 75 #[.int .u8 0,.nilFunc]);have HPB:Hid (Blk w2 q 75 #[.int .u8 4,.func (.func 35) #[.pointer (some ⟨g,0,none⟩)] #[]]):=Lib.hid (by rw [hw2,hq];exact(Blk.new wr 75 #[.int .u8 0,.nilFunc]).row_ _)
    have hbl:Below wr.heap.size wr w2:=by rw [hw2];exact below_setRow' ((Below.refl _ wr).alloc (Nat.le_refl _) _) (Nat.le_refl _) _
    have HR2:Hid (HW g s (preS s 0).1 w2∧Ho g w w2):=Lib.hid ⟨HR.out.2.1.below hbl,HR.out.2.2.trans (Ho.of hbl)⟩;have HWE:=Lib.hid (⟨hw2,hq⟩:w2=(wr.alloc (.cells #[.int .u8 0,.nilFunc] 75)).setRow wr.heap.size #[.int .u8 4,.func (.func 35) #[.pointer (some ⟨g,0,none⟩)] #[]]∧q=wr.heap.size);have HR0:=Lib.hid HR.out.1;clear hw2 hq hbl HR;have fb:=HFB.out 2 (by decide)
    have c0:=HPB.out.cell 0;have c1:=HPB.out.cell 1;by_cases hf:F /2^2%2=1
    ·rw [if_pos hf]at fb
     have HON:=Lib.hid (pre_on (s:=s) (i:=0) ((HFS.out 2).trans (decide_eq_true hf)) HR0.out);have fb:bits .and .u8 (F:Int) 4=4:=fb;clear hf;go_wp2_with (refine wpList_store_row rfl 75 _ _ rfl wr.heap.size #[.int .u8 4,.func (.func 35) #[.pointer (some ⟨g,0,none⟩)] #[]] rfl rfl 75 _ HZ.out part_size rfl part_one ?_;rw [←HWE.out.1,←HWE.out.2]);refine(CE.out _ _ HR2.out.1).mono ?_;rintro e w3 ⟨rfl,m3,k3⟩;have HP3:Hid (Ho g w w3∧((preS s (0+1)).2=0→HW g s (preS s (0+1)).1 w3)):=Lib.hid ⟨HR2.out.2.trans m3,fun k=>by rw [HON.out]at k⊢;exact k3 k⟩
     have HER:Hid ((extraS s (preS s 0).1).2=(preS s (0+1)).2):=Lib.hid (by rw [HON.out];rfl)
     rw [HER.out];clear m3 k3 HON HER HZ HPB HWE HR2 c0 c1 hix;generalize hX:(preS s (0+1)).2=X at*;by_cases hX0:X=0
     ·subst hX0
      go_wp2_with fail;exact⟨⟨1,by decide,rfl,Lib.hid ⟨hX,HP3.out.2 trivial,HP3.out.1⟩⟩,by decide⟩
     ·have hXi:¬(X:Int)=0:=by omega
      go_wp2_with fail;go_ret;rw [HBS.out,show(4:Nat)=1+3 from rfl,pre_err (i:=1) (by rw [hX];exact hX0)]
      exact⟨by rw [hX];rfl,HP3.out.1,fun k=>absurd (hX.symm.trans k) hX0⟩
    ·rw [if_neg hf]at fb
     have HOF:=Lib.hid (pre_off (s:=s) (i:=0) ((HFS.out 2).trans (decide_eq_false hf)));have fb:bits .and .u8 (F:Int) 4=0:=fb;clear hf;go_wp2_with (refine wpList_store_row rfl 75 _ _ rfl wr.heap.size #[.int .u8 4,.func (.func 35) #[.pointer (some ⟨g,0,none⟩)] #[]] rfl rfl 75 _ HZ.out part_size rfl part_one ?_;rw [←HWE.out.1,←HWE.out.2]);exact⟨⟨1,by decide,rfl,Lib.hid (by rw [show (1:Nat)=0+1 from rfl,HOF.out];exact⟨HR0.out,HR2.out⟩)⟩,by decide⟩
   ·have hix:=idx_1 g wr
    obtain⟨q,hq⟩:∃q,q=wr.heap.size:=⟨_,rfl⟩;obtain⟨w2,hw2⟩:∃w2,w2=(wr.alloc (.cells #[.int .u8 0,.nilFunc] 75)).setRow wr.heap.size #[.int .u8 8,.func (.func 36) #[.pointer (some ⟨g,0,none⟩)] #[]]:=⟨_,rfl⟩;have HZ:=Lib.hid (Blk.new wr 75 #[.int .u8 0,.nilFunc]);have HPB:Hid (Blk w2 q 75 #[.int .u8 8,.func (.func 36) #[.pointer (some ⟨g,0,none⟩)] #[]]):=Lib.hid (by rw [hw2,hq];exact(Blk.new wr 75 #[.int .u8 0,.nilFunc]).row_ _)
    have hbl:Below wr.heap.size wr w2:=by rw [hw2];exact below_setRow' ((Below.refl _ wr).alloc (Nat.le_refl _) _) (Nat.le_refl _) _
    have HR2:Hid (HW g s (preS s 1).1 w2∧Ho g w w2):=Lib.hid ⟨HR.out.2.1.below hbl,HR.out.2.2.trans (Ho.of hbl)⟩;have HWE:=Lib.hid (⟨hw2,hq⟩:w2=(wr.alloc (.cells #[.int .u8 0,.nilFunc] 75)).setRow wr.heap.size #[.int .u8 8,.func (.func 36) #[.pointer (some ⟨g,0,none⟩)] #[]]∧q=wr.heap.size);have HR0:=Lib.hid HR.out.1;clear hw2 hq hbl HR;have fb:=HFB.out 3 (by decide)
    have c0:=HPB.out.cell 0;have c1:=HPB.out.cell 1;by_cases hf:F /2^3%2=1
    ·rw [if_pos hf]at fb
     have HON:=Lib.hid (pre_on (s:=s) (i:=1) ((HFS.out 3).trans (decide_eq_true hf)) HR0.out);have fb:bits .and .u8 (F:Int) 8=8:=fb;clear hf;go_wp2_with (refine wpList_store_row rfl 75 _ _ rfl wr.heap.size #[.int .u8 8,.func (.func 36) #[.pointer (some ⟨g,0,none⟩)] #[]] rfl rfl 75 _ HZ.out part_size rfl part_one ?_;rw [←HWE.out.1,←HWE.out.2]);refine(CX.out _ _ HR2.out.1).mono ?_;rintro e w3 ⟨rfl,m3,k3⟩;have HP3:Hid (Ho g w w3∧((preS s (1+1)).2=0→HW g s (preS s (1+1)).1 w3)):=Lib.hid ⟨HR2.out.2.trans m3,fun k=>by rw [HON.out]at k⊢;exact k3 k⟩
     have HER:Hid ((textS s (preS s 1).1).2=(preS s (1+1)).2):=Lib.hid (by rw [HON.out];rfl)
     rw [HER.out];clear m3 k3 HON HER HZ HPB HWE HR2 c0 c1 hix;generalize hX:(preS s (1+1)).2=X at*;by_cases hX0:X=0
     ·subst hX0
      go_wp2_with fail;exact⟨⟨2,by decide,rfl,Lib.hid ⟨hX,HP3.out.2 trivial,HP3.out.1⟩⟩,by decide⟩
     ·have hXi:¬(X:Int)=0:=by omega
      go_wp2_with fail;go_ret;rw [HBS.out,show(4:Nat)=2+2 from rfl,pre_err (i:=2) (by rw [hX];exact hX0)]
      exact⟨by rw [hX];rfl,HP3.out.1,fun k=>absurd (hX.symm.trans k) hX0⟩
    ·rw [if_neg hf]at fb
     have HOF:=Lib.hid (pre_off (s:=s) (i:=1) ((HFS.out 3).trans (decide_eq_false hf)));have fb:bits .and .u8 (F:Int) 8=0:=fb;clear hf;go_wp2_with (refine wpList_store_row rfl 75 _ _ rfl wr.heap.size #[.int .u8 8,.func (.func 36) #[.pointer (some ⟨g,0,none⟩)] #[]] rfl rfl 75 _ HZ.out part_size rfl part_one ?_;rw [←HWE.out.1,←HWE.out.2]);exact⟨⟨2,by decide,rfl,Lib.hid (by rw [show (2:Nat)=1+1 from rfl,HOF.out];exact⟨HR0.out,HR2.out⟩)⟩,by decide⟩
   ·have hix:=idx_2 g wr
    obtain⟨q,hq⟩:∃q,q=wr.heap.size:=⟨_,rfl⟩;obtain⟨w2,hw2⟩:∃w2,w2=(wr.alloc (.cells #[.int .u8 0,.nilFunc] 75)).setRow wr.heap.size #[.int .u8 16,.func (.func 36) #[.pointer (some ⟨g,0,none⟩)] #[]]:=⟨_,rfl⟩;have HZ:=Lib.hid (Blk.new wr 75 #[.int .u8 0,.nilFunc]);have HPB:Hid (Blk w2 q 75 #[.int .u8 16,.func (.func 36) #[.pointer (some ⟨g,0,none⟩)] #[]]):=Lib.hid (by rw [hw2,hq];exact(Blk.new wr 75 #[.int .u8 0,.nilFunc]).row_ _)
    have hbl:Below wr.heap.size wr w2:=by rw [hw2];exact below_setRow' ((Below.refl _ wr).alloc (Nat.le_refl _) _) (Nat.le_refl _) _
    have HR2:Hid (HW g s (preS s 2).1 w2∧Ho g w w2):=Lib.hid ⟨HR.out.2.1.below hbl,HR.out.2.2.trans (Ho.of hbl)⟩;have HWE:=Lib.hid (⟨hw2,hq⟩:w2=(wr.alloc (.cells #[.int .u8 0,.nilFunc] 75)).setRow wr.heap.size #[.int .u8 16,.func (.func 36) #[.pointer (some ⟨g,0,none⟩)] #[]]∧q=wr.heap.size);have HR0:=Lib.hid HR.out.1;clear hw2 hq hbl HR;have fb:=HFB.out 4 (by decide)
    have c0:=HPB.out.cell 0;have c1:=HPB.out.cell 1;by_cases hf:F /2^4%2=1
    ·rw [if_pos hf]at fb
     have HON:=Lib.hid (pre_on (s:=s) (i:=2) ((HFS.out 4).trans (decide_eq_true hf)) HR0.out);have fb:bits .and .u8 (F:Int) 16=16:=fb;clear hf;go_wp2_with (refine wpList_store_row rfl 75 _ _ rfl wr.heap.size #[.int .u8 16,.func (.func 36) #[.pointer (some ⟨g,0,none⟩)] #[]] rfl rfl 75 _ HZ.out part_size rfl part_one ?_;rw [←HWE.out.1,←HWE.out.2]);refine(CX.out _ _ HR2.out.1).mono ?_;rintro e w3 ⟨rfl,m3,k3⟩;have HP3:Hid (Ho g w w3∧((preS s (2+1)).2=0→HW g s (preS s (2+1)).1 w3)):=Lib.hid ⟨HR2.out.2.trans m3,fun k=>by rw [HON.out]at k⊢;exact k3 k⟩
     have HER:Hid ((textS s (preS s 2).1).2=(preS s (2+1)).2):=Lib.hid (by rw [HON.out];rfl)
     rw [HER.out];clear m3 k3 HON HER HZ HPB HWE HR2 c0 c1 hix;generalize hX:(preS s (2+1)).2=X at*;by_cases hX0:X=0
     ·subst hX0
      go_wp2_with fail;exact⟨⟨3,by decide,rfl,Lib.hid ⟨hX,HP3.out.2 trivial,HP3.out.1⟩⟩,by decide⟩
     ·have hXi:¬(X:Int)=0:=by omega
      go_wp2_with fail;go_ret;rw [HBS.out,show(4:Nat)=3+1 from rfl,pre_err (i:=3) (by rw [hX];exact hX0)]
      exact⟨by rw [hX];rfl,HP3.out.1,fun k=>absurd (hX.symm.trans k) hX0⟩
    ·rw [if_neg hf]at fb
     have HOF:=Lib.hid (pre_off (s:=s) (i:=2) ((HFS.out 4).trans (decide_eq_false hf)));have fb:bits .and .u8 (F:Int) 16=0:=fb;clear hf;go_wp2_with (refine wpList_store_row rfl 75 _ _ rfl wr.heap.size #[.int .u8 16,.func (.func 36) #[.pointer (some ⟨g,0,none⟩)] #[]] rfl rfl 75 _ HZ.out part_size rfl part_one ?_;rw [←HWE.out.1,←HWE.out.2]);exact⟨⟨3,by decide,rfl,Lib.hid (by rw [show (3:Nat)=2+1 from rfl,HOF.out];exact⟨HR0.out,HR2.out⟩)⟩,by decide⟩
   ·have hix:=idx_3 g wr
    obtain⟨q,hq⟩:∃q,q=wr.heap.size:=⟨_,rfl⟩;obtain⟨w2,hw2⟩:∃w2,w2=(wr.alloc (.cells #[.int .u8 0,.nilFunc] 75)).setRow wr.heap.size #[.int .u8 2,.func (.func 37) #[.pointer (some ⟨g,0,none⟩)] #[]]:=⟨_,rfl⟩;have HZ:=Lib.hid (Blk.new wr 75 #[.int .u8 0,.nilFunc]);have HPB:Hid (Blk w2 q 75 #[.int .u8 2,.func (.func 37) #[.pointer (some ⟨g,0,none⟩)] #[]]):=Lib.hid (by rw [hw2,hq];exact(Blk.new wr 75 #[.int .u8 0,.nilFunc]).row_ _)
    have hbl:Below wr.heap.size wr w2:=by rw [hw2];exact below_setRow' ((Below.refl _ wr).alloc (Nat.le_refl _) _) (Nat.le_refl _) _
    have HR2:Hid (HW g s (preS s 3).1 w2∧Ho g w w2):=Lib.hid ⟨HR.out.2.1.below hbl,HR.out.2.2.trans (Ho.of hbl)⟩;have HWE:=Lib.hid (⟨hw2,hq⟩:w2=(wr.alloc (.cells #[.int .u8 0,.nilFunc] 75)).setRow wr.heap.size #[.int .u8 2,.func (.func 37) #[.pointer (some ⟨g,0,none⟩)] #[]]∧q=wr.heap.size);have HR0:=Lib.hid HR.out.1;clear hw2 hq hbl HR;have fb:=HFB.out 1 (by decide)
    have c0:=HPB.out.cell 0;have c1:=HPB.out.cell 1;by_cases hf:F /2^1%2=1
    ·rw [if_pos hf]at fb
     have HON:=Lib.hid (pre_on (s:=s) (i:=3) ((HFS.out 1).trans (decide_eq_true hf)) HR0.out);have fb:bits .and .u8 (F:Int) 2=2:=fb;clear hf;go_wp2_with (refine wpList_store_row rfl 75 _ _ rfl wr.heap.size #[.int .u8 2,.func (.func 37) #[.pointer (some ⟨g,0,none⟩)] #[]] rfl rfl 75 _ HZ.out part_size rfl part_one ?_;rw [←HWE.out.1,←HWE.out.2]);refine(CS.out _ _ HR2.out.1).mono ?_;rintro e w3 ⟨rfl,m3,k3⟩;have HP3:Hid (Ho g w w3∧((preS s (3+1)).2=0→HW g s (preS s (3+1)).1 w3)):=Lib.hid ⟨HR2.out.2.trans m3,fun k=>by rw [HON.out]at k⊢;exact k3 k⟩
     have HER:Hid ((sumS s (preS s 3).1).2=(preS s (3+1)).2):=Lib.hid (by rw [HON.out];rfl)
     rw [HER.out];clear m3 k3 HON HER HZ HPB HWE HR2 c0 c1 hix;generalize hX:(preS s (3+1)).2=X at*;by_cases hX0:X=0
     ·subst hX0
      go_wp2_with fail;exact⟨⟨4,by decide,rfl,Lib.hid ⟨hX,HP3.out.2 trivial,HP3.out.1⟩⟩,by decide⟩
     ·have hXi:¬(X:Int)=0:=by omega
      go_wp2_with fail;go_ret;rw [HBS.out,show(4:Nat)=4+0 from rfl,pre_err (i:=4) (by rw [hX];exact hX0)]
      exact⟨by rw [hX];rfl,HP3.out.1,fun k=>absurd (hX.symm.trans k) hX0⟩
    ·rw [if_neg hf]at fb
     have HOF:=Lib.hid (pre_off (s:=s) (i:=3) ((HFS.out 1).trans (decide_eq_false hf)));have fb:bits .and .u8 (F:Int) 2=0:=fb;clear hf;go_wp2_with (refine wpList_store_row rfl 75 _ _ rfl wr.heap.size #[.int .u8 2,.func (.func 37) #[.pointer (some ⟨g,0,none⟩)] #[]] rfl rfl 75 _ HZ.out part_size rfl part_one ?_;rw [←HWE.out.1,←HWE.out.2]);exact⟨⟨4,by decide,rfl,Lib.hid (by rw [show (4:Nat)=3+1 from rfl,HOF.out];exact⟨HR0.out,HR2.out⟩)⟩,by decide⟩
   ·go_wp2_with fail
    go_ret;rw [HBS.out];exact⟨by rw [HR.out.1];rfl,HR.out.2.2,fun _=>HR.out.2.1⟩
end Go.Proofs.YtmhoejmgjbgddaaGreat
