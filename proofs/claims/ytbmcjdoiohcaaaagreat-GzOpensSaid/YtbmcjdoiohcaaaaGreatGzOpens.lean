/- GzOpens: any bytes are opened as the chapter says, or refused; those of a text, too, with whatever flags and more stands ahead. -/
import Derived.Test.YtbmcjdoiohcaaaaGreatOH
set_option maxRecDepth 100000
set_option maxHeartbeats 8000000
namespace Go.Proofs.YtbmcjdoiohcaaaaGreat
open Go.RowKit
theorem Q20 (a:Nat) (ha:a<256) (w:World):
  (convert 25 9 (.slice (some ⟨w.heap.size,0,none⟩) 1 1)).run Tryz.prog (w.alloc (.cells #[.int .u8 (a:Int)] 5))= .ok (.string (txtL [a])) (w.alloc (.cells #[.int .u8 (a:Int)] 5)):=by
 have hk:=Blk.new w 5 #[.int .u8 (a:Int)];have e:#[Value.int .u8 (a:Int)]=r8 1 fun i=>BitVec.ofNat 8 ([a].getD i 0):=by
  have k:∀x:Nat,x<256→iw (BitVec.ofNat 8 x)=(x:Int):=fun x hx=>by unfold iw;rw [BitVec.toNat_ofNat,Nat.mod_eq_of_lt (by omega)]
  show _=#[Value.int .u8 (iw (BitVec.ofNat 8 a))]
  rw [k a ha]
 rw [e]at hk;have:=Qe6 (P:=Tryz.prog) (w.alloc (.cells (r8 1 fun i=>BitVec.ofNat 8 ([a].getD i 0)) 5)) 25 9 5 Tryz.underlying25 Tryz.underlying5 Tryz.underlying9 w.heap.size 1 1 5 (fun i=>BitVec.ofNat 8 ([a].getD i 0)) hk;rw [e,this];rfl
theorem Qpp (b:ByteArray) (most:Int) (tx:ByteArray) (f:Nat) (ah:ByteArray) (own:Bool) (hf:f<256) (hb:b.size≤140737488351232) (ht:tx.size≤140737488351232) (hah:ah.size≤140737488351232) (w:World):
  Calls Tryz.prog 4 #[.string b,.int .i64 most,.string tx,.int .u8 (f:Int),.string ah,.bool own] w fun e w'=>e= .returned (.bool true)∧Below w.heap.size w w':=by
 obtain⟨M,hM⟩:∃M,M=min tx.size 500:=⟨_,rfl⟩;obtain⟨U,hU⟩:∃U,U=tx.extract 0 M:=⟨_,rfl⟩;have hUz:U.size≤500:=by rw [hU,ByteArray.size_extract];omega
 have HM:=Qh hM;have HU:=Qh hU;have hM1:(M:Int)≤(tx.size:Int):=by omega
 have hM2:(0:Int)≤(M:Int):=by omega
 have hM3:M≤tx.size:=by omega
 clear hM hU;have hg:=Qx5 U;have hpz:=Qj2 U (by omega)
 have CP:=Qh fun wx=>Qp6 U (by omega) wx
 obtain⟨P,hP⟩:∃P,gzT U=P:=⟨_,rfl⟩;rw [hP]at CP hg;have hP1:P.size≤600:=by omega
 have hP18:18≤P.size:=by omega
 clear hP hg hpz;have CO:=Qh fun(x:ByteArray) (m:Int) (hx:x.size≤281474976710656) wx=>Qh6 x m hx wx;have CR:=Qh fun(x:ByteArray) (m:Int) (hx:x.size≤281474976710656) wx=>Qp5 x m hx wx;have hh:(most>2000∧most≤1048576)∨(most>2000∧¬most≤1048576)∨¬most>2000:=by omega
 cases own with
 |false=>
  rcases hh with⟨h1,h2⟩|⟨h1,h2⟩|h1
  all_goals
   go_enter Tryz.func4,Tryz.ntmps4
   go_wp2_with fail;refine(Qha w).mono ?_;rintro e w1 ⟨rfl,b1⟩;have HB1:=Qh b1;clear b1;go_wp2_with fail;refine(CO.out b _ (by omega) w1).mono ?_
   rintro e w8 ⟨rfl,b8⟩;have HB8:=Qh (HB1.out.trans (b8.mono HB1.out.size));clear b8;go_wp2_with fail;refine(CR.out b _ (by omega) w8).mono ?_
   rintro e w9 ⟨rfl,b9⟩;have HB9:=Qh (HB8.out.trans (b9.mono HB8.out.size));clear b9;go_wp2_with fail;go_ret;exact⟨rfl,HB9.out⟩
 |true=>
  obtain⟨B0,hB0⟩:∃x,P.extract 0 3=x:=⟨_,rfl⟩;obtain⟨B1,hB1⟩:∃x,B0++txtL [f]=x:=⟨_,rfl⟩;obtain⟨B2,hB2⟩:∃x,P.extract 4 10=x:=⟨_,rfl⟩;obtain⟨B3,hB3⟩:∃x,B1++B2=x:=⟨_,rfl⟩;obtain⟨B4,hB4⟩:∃x,B3++ah=x:=⟨_,rfl⟩;obtain⟨B5,hB5⟩:∃x,P.extract 10 P.size=x:=⟨_,rfl⟩;obtain⟨B6,hB6⟩:∃x,B4++B5=x:=⟨_,rfl⟩;have ht1:(txtL [f]).size=1:=Qb1 _ _;have z0:B0.size≤3:=by rw [←hB0,ByteArray.size_extract];omega
  have z1:B1.size≤4:=by rw [←hB1,Qc5,ht1];omega
  have z2:B2.size≤6:=by rw [←hB2,ByteArray.size_extract];omega
  have z3:B3.size≤10:=by rw [←hB3,Qc5];omega
  have z4:B4.size≤140737488351242:=by rw [←hB4,Qc5];omega
  have z5:B5.size≤600:=by rw [←hB5,ByteArray.size_extract];omega
  have z6:B6.size≤140737488352242:=by rw [←hB6,Qc5];omega
  have zt:(txtL [f]).size≤1:=Nat.le_of_eq ht1;have HZ6:=Qh z6;clear ht1 z6;have p3:(3:Int)≤(P.size:Int):=by omega
  have p10:(10:Int)≤(P.size:Int):=by omega
  rcases hh with⟨h1,h2⟩|⟨h1,h2⟩|h1
  all_goals
   go_enter Tryz.func4,Tryz.ntmps4
   go_wp2_with fail;refine(Qha w).mono ?_;rintro e w1 ⟨rfl,b1⟩;have HB1:=Qh b1;clear b1;go_wp2_with (refine Qav (.int .i64 ((min tx.size 500:Nat):Int)) rfl (Qjy (.tmp 31) tx.size 500 rfl rfl rfl) ?_;intro w8 h8;obtain rfl:w1=w8:=h8.symm;rw [←HM.out]);rw [←HU.out];refine(CP.out w1).mono ?_;rintro e w2 ⟨rfl,b2⟩;have HB2:=Qh (HB1.out.trans (b2.mono HB1.out.size));clear b2;go_wp2_with fail;refine Qbc (by kernel_rfl) ?_
   change wpAnyH _ _ _ _ _ _ _ _ w2.drew;have HB3:=Qh HB2.out.drew;generalize w2.drew=w3 at HB3⊢;have HCV:=Qh (Q20 f hf w3);refine tH (i:=0) (v:= .string P) rfl rfl ?_;simp only [pu];refine tH (i:=1) (v:= .string B0) rfl rfl ?_;simp only [pu];refine tH (i:=2) (v:= .int .u8 (f:Int)) rfl rfl ?_;simp only [pu];refine tH (i:=6) (v:= .string P) rfl rfl ?_;simp only [pu];refine tH (i:=7) (v:= .string B2) rfl rfl ?_;simp only [pu];refine tH (i:=9) (v:= .string ah) rfl rfl ?_;simp only [pu];refine tH (i:=11) (v:= .string P) rfl rfl ?_;simp only [pu];refine tH (i:=12) (v:= .string B5) rfl rfl ?_;simp only [pu];refine Qd6 (i:=3) (v:= .slice (some ⟨w3.heap.size,0,none⟩) 1 1) (R:=fun wx=>wx=w3.alloc (.cells #[.int .u8 (f:Int)] 5)) (by kernel_rfl) rfl rfl (by go_simp;exact⟨rfl,rfl⟩) ?_
   rintro wy rfl;simp only [pu];refine Qd6 (i:=4) (v:= .string (txtL [f])) (R:=fun wx=>wx=w3.alloc (.cells #[.int .u8 (f:Int)] 5)) (by kernel_rfl) rfl rfl (by refine Qab (w:=w3.alloc (.cells #[.int .u8 (f:Int)] 5)) ?_ rfl;have cc:=HCV.out;go_simp;skip) ?_
   rintro wy rfl;simp only [pu];refine Qa4 (i:=5) (v:= .string B1) rfl rfl (fun wx=> ?_) ?_
   ·go_simp;omega
   simp only [pu];refine Qa4 (i:=8) (v:= .string B3) rfl rfl (fun wx=> ?_) ?_
   ·go_simp;omega
   simp only [pu];refine Qa4 (i:=10) (v:= .string B4) rfl rfl (fun wx=> ?_) ?_
   ·go_simp;omega
   simp only [pu];refine Qa4 (i:=13) (v:= .string B6) rfl rfl (fun wx=> ?_) ?_
   ·go_simp;omega
   simp only [pu];refine tH (i:=14) (v:= .string B6) rfl rfl ?_;simp only [pu];refine wpAnyH_done (by kernel_rfl) ?_ _
   have HB4:Hid (Below w.heap.size w (w3.alloc (.cells #[.int .u8 (f:Int)] 5))):=Qh (HB3.out.trans (((Below.refl _ w3).alloc Ql _).mono HB3.out.size));generalize w3.alloc (.cells #[.int .u8 (f:Int)] 5)=w4 at HB4⊢;clear HCV hB0 hB1 hB2 hB3 hB4 hB5 hB6;go_wp2_with fail;refine(CO.out B6 _ (by have:=HZ6.out;omega) w4).mono ?_
   rintro e w8 ⟨rfl,b8⟩;have HB8:=Qh (HB4.out.trans (b8.mono HB4.out.size));clear b8;go_wp2_with fail;refine(CR.out B6 _ (by have:=HZ6.out;omega) w8).mono ?_
   rintro e w9 ⟨rfl,b9⟩;have HB9:=Qh (HB8.out.trans (b9.mono HB8.out.size));clear b9;go_wp2_with fail;go_ret;exact⟨rfl,HB9.out⟩
theorem Qpq (b:ByteArray) (most:Int) (tx:ByteArray) (f:Int) (ah:ByteArray) (own:Bool) (h0:0≤f) (h1:f<256) (hb:b.size≤140737488351232) (ht:tx.size≤140737488351232) (hah:ah.size≤140737488351232) (w:World):
  Calls Tryz.prog 4 #[.string b,.int .i64 most,.string tx,.int .u8 f,.string ah,.bool own] w fun e w'=>e= .returned (.bool true)∧Below w.heap.size w w':=by
 obtain⟨n,rfl⟩:∃n:Nat,f=(n:Int):=⟨f.toNat,by omega⟩
 exact Qpp b most tx n ah own (by omega) hb ht hah w
end Go.Proofs.YtbmcjdoiohcaaaaGreat
