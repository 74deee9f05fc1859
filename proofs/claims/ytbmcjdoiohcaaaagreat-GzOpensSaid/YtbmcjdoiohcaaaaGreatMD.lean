/- MD -/
import Derived.Test.YtbmcjdoiohcaaaaGreatMC
import Derived.Deep.LoopGhost
set_option maxRecDepth 100000
set_option maxHeartbeats 8000000
namespace Go.Proofs.YtbmcjdoiohcaaaaGreat
open Go.RowKit
structure NB (g n:Nat) (K:Nat→Kd) (S:Nat→Value) (w:World):Prop where
 c0:∀i,i<n→w.cell? ⟨g,i*3,none⟩=some (.int .i64 ((K i).1:Int))
 c1:∀i,i<n→w.cell? ⟨g,i*3+1,none⟩=some (.int .i64 ((K i).2:Int))
 c2:∀i,i<n→w.cell? ⟨g,i*3+2,none⟩=some (S i)
 lt:g<w.heap.size
theorem NB.below {g n:Nat} {K:Nat→Kd} {S:Nat→Value} {w w':World} (h:NB g n K S w) (hb:Below w.heap.size w w'):NB g n K S w':=
 ⟨fun i hi=>(hb.cell (p:=⟨g,i*3,none⟩) h.lt).trans (h.c0 i hi),fun i hi=>(hb.cell (p:=⟨g,i*3+1,none⟩) h.lt).trans (h.c1 i hi),fun i hi=>(hb.cell (p:=⟨g,i*3+2,none⟩) h.lt).trans (h.c2 i hi),Nat.lt_of_lt_of_le h.lt hb.size⟩
def lsI (K:Nat→Kd):Nat→Nat
 |0=>0
 |m+1=>if klt (K m) (K (lsI K m))then m else lsI K m
theorem Qzz (K:Nat→Kd) {m:Nat} (h:0<m):lsI K m<m:=by
 induction m with
 |zero=>omega
 |succ m ih=>
  unfold lsI;split
  ·omega
  ·rcases Nat.eq_zero_or_pos m with rfl|h0
   ·exact Nat.one_pos
   ·have:=ih h0;omega
theorem Qj4 (g n cap:Nat) (K:Nat→Kd) (S:Nat→Value) (w:World) (h:NB g n K S w) (hn:n≤1000) (h1:1≤n):
  Calls Tryz.prog 149 #[.slice (some ⟨g,0,none⟩) n cap] w fun e w'=>e= .returned (.int .i64 (lsI K n:Int))∧Below w.heap.size w w':=by
 go_enter Tryz.func149,Tryz.ntmps149
 go_wp2_with fail;go_loopw [3,4] (fun a i wr=>∃m:Nat,1≤m∧m≤n∧i= .int .i64 (m:Int)∧a= .int .i64 (lsI K m:Int)∧Below w.heap.size w wr) (fun _ i _=>n-(intOf i).toNat)
 case atStart=>exact⟨1,Ql,h1,rfl,by show _=Value.int .i64 (((if klt (K 0) (K 0)then 0 else 0:Nat)):Int);rw [if_neg (Qh9 _)];rfl,Below.refl _ _⟩
 case round=>
  obtain⟨m,hm1,hm,rfl,rfl,hr⟩:=hrel;have hl:=Qzz K (show 0<m by omega)
  by_cases hlt:m<n
  ·have hb:=h.below hr;have HN:Hid (lsI K (m+1)=if klt (K m) (K (lsI K m))then m else lsI K m):=Qh rfl;obtain⟨q,hq⟩:∃q,q=lsI K m:=⟨_,rfl⟩;rw [←hq]at hl HN⊢;have hqn:q<n:=by omega
   clear hq;by_cases hlt1:(K m).1<(K q).1
   ·have hi1:((K m).1:Int)<((K q).1:Int):=by omega
    have HR:Hid (lsI K (m+1)=m):=Qh (by rw [HN.out,if_pos (.inl hlt1)])
    go_wp2_with fail;refine Qad (Two 1000 1001 fun _ _ wx=>Below w.heap.size w wx) (by kernel_rfl) hr.drew ?_
    refine tA (i:=0) rfl rfl ?_;simp only [pu];refine tA (i:=1) rfl rfl ?_;simp only [pu];refine tT (i:=2) (v:= .pointer (some ⟨g,m*3,none⟩)) rfl rfl ?_;simp only [pu];refine tT (i:=3) (v:= .pointer (some ⟨g,m*3,none⟩)) rfl rfl ?_;simp only [pu];refine Qaa (i:=4) (v:= .int .i64 ((K m).1:Int)) rfl (Qaf rfl (fun f1 f2 wx hT=> ?_)) ?_
    ·refine Qab (w:=wx) ?_ hT;have k:=(h.below hT).c0 m hlt;go_simp
    simp only [pu];refine tA (i:=5) rfl rfl ?_;simp only [pu];refine tA (i:=6) rfl rfl ?_;simp only [pu];refine tT (i:=7) (v:= .pointer (some ⟨g,q*3,none⟩)) rfl rfl ?_;simp only [pu];refine tT (i:=8) (v:= .pointer (some ⟨g,q*3,none⟩)) rfl rfl ?_;simp only [pu];refine Qaa (i:=9) (v:= .int .i64 ((K q).1:Int)) rfl (Qaf rfl (fun f1 f2 wx hT=> ?_)) ?_
    ·refine Qab (w:=wx) ?_ hT;have k:=(h.below hT).c0 q hqn;go_simp
    simp only [pu];refine tT (i:=10) (v:= .bool true) rfl rfl ?_;simp only [pu];refine tT (i:=11) (v:= .bool true) rfl rfl ?_;simp only [pu];refine Qaa (i:=12) rfl (Qae rfl) ?_;simp only [pu];refine Qaa (i:=13) rfl (Qae rfl) ?_;simp only [pu];refine Qaa (i:=14) rfl (Qae rfl) ?_;simp only [pu];refine Qaa (i:=15) rfl (Qae rfl) ?_;simp only [pu];refine Qaa (i:=16) rfl (Qae rfl) ?_;simp only [pu];refine Qaa (i:=17) rfl (Qae rfl) ?_;simp only [pu];refine Qaa (i:=18) rfl (Qae rfl) ?_;simp only [pu];refine Qaa (i:=19) rfl (Qae rfl) ?_;simp only [pu];refine Qaa (i:=20) rfl (Qae rfl) ?_;simp only [pu];refine Qaa (i:=21) rfl (Qae rfl) ?_;simp only [pu];refine Qaa (i:=22) rfl (Qae rfl) ?_;simp only [pu];refine Qaa (i:=23) rfl (Qae rfl) ?_;simp only [pu];refine Qaa (i:=24) rfl (Qae rfl) ?_;simp only [pu];refine Qaa (i:=25) rfl (Qae rfl) ?_;simp only [pu];refine Qaa (i:=26) rfl (Qae rfl) ?_;simp only [pu];refine Qaa (i:=27) rfl (Qae rfl) ?_;simp only [pu];refine Qaa (i:=28) rfl (Qae rfl) ?_;simp only [pu];refine Qaa (i:=29) rfl (Qae rfl) ?_;simp only [pu];refine Qaa (i:=30) rfl (Qae rfl) ?_;simp only [pu];refine Qaa (i:=31) rfl (Qae rfl) ?_;simp only [pu];refine Qaa (i:=32) rfl (Qae rfl) ?_;simp only [pu];refine Qaa (i:=33) rfl (Qae rfl) ?_;simp only [pu];refine Qaa (i:=34) rfl (Qae rfl) ?_;simp only [pu];refine Qaa (i:=35) rfl (Qae rfl) ?_;simp only [pu];refine tT (i:=36) (v:= .bool true) rfl rfl ?_;simp only [pu];refine Qag (by kernel_rfl) (fun w3 (hr3:Below w.heap.size w w3)=> ?_) _
    clear hr hb HN;go_wp2_with fail;go_roundw
    case rel=>exact⟨m+1,by omega,by omega,by go_num,by rw [HR.out],hr3⟩
    case measure=>simp [intOf];omega
   ·by_cases heq1:(K m).1=(K q).1
    ·by_cases hlt2:(K m).2<(K q).2
     ·have hi1:¬((K m).1:Int)<((K q).1:Int):=by omega
      have hi2:((K m).1:Int)=((K q).1:Int):=by omega
      have hi3:((K m).2:Int)<((K q).2:Int):=by omega
      have HR:Hid (lsI K (m+1)=m):=Qh (by rw [HN.out,if_pos (.inr ⟨heq1,hlt2⟩)])
      go_wp2_with fail;refine Qad (Two 1000 1001 fun _ _ wx=>Below w.heap.size w wx) (by kernel_rfl) hr.drew ?_
      refine tA (i:=0) rfl rfl ?_;simp only [pu];refine tA (i:=1) rfl rfl ?_;simp only [pu];refine tT (i:=2) (v:= .pointer (some ⟨g,m*3,none⟩)) rfl rfl ?_;simp only [pu];refine tT (i:=3) (v:= .pointer (some ⟨g,m*3,none⟩)) rfl rfl ?_;simp only [pu];refine Qaa (i:=4) (v:= .int .i64 ((K m).1:Int)) rfl (Qaf rfl (fun f1 f2 wx hT=> ?_)) ?_
      ·refine Qab (w:=wx) ?_ hT;have k:=(h.below hT).c0 m hlt;go_simp
      simp only [pu];refine tA (i:=5) rfl rfl ?_;simp only [pu];refine tA (i:=6) rfl rfl ?_;simp only [pu];refine tT (i:=7) (v:= .pointer (some ⟨g,q*3,none⟩)) rfl rfl ?_;simp only [pu];refine tT (i:=8) (v:= .pointer (some ⟨g,q*3,none⟩)) rfl rfl ?_;simp only [pu];refine Qaa (i:=9) (v:= .int .i64 ((K q).1:Int)) rfl (Qaf rfl (fun f1 f2 wx hT=> ?_)) ?_
      ·refine Qab (w:=wx) ?_ hT;have k:=(h.below hT).c0 q hqn;go_simp
      simp only [pu];refine tT (i:=10) (v:= .bool false) rfl rfl ?_;simp only [pu];refine tT (i:=11) (v:= .bool false) rfl rfl ?_;simp only [pu];refine tA (i:=12) rfl rfl ?_;simp only [pu];refine tA (i:=13) rfl rfl ?_;simp only [pu];refine tT (i:=14) (v:= .pointer (some ⟨g,m*3,none⟩)) rfl rfl ?_;simp only [pu];refine tT (i:=15) (v:= .pointer (some ⟨g,m*3,none⟩)) rfl rfl ?_;simp only [pu];refine Qaa (i:=16) (v:= .int .i64 ((K m).1:Int)) rfl (Qaf rfl (fun f1 f2 wx hT=> ?_)) ?_
      ·refine Qab (w:=wx) ?_ hT;have k:=(h.below hT).c0 m hlt;go_simp
      simp only [pu];refine tA (i:=17) rfl rfl ?_;simp only [pu];refine tA (i:=18) rfl rfl ?_;simp only [pu];refine tT (i:=19) (v:= .pointer (some ⟨g,q*3,none⟩)) rfl rfl ?_;simp only [pu];refine tT (i:=20) (v:= .pointer (some ⟨g,q*3,none⟩)) rfl rfl ?_;simp only [pu];refine Qaa (i:=21) (v:= .int .i64 ((K q).1:Int)) rfl (Qaf rfl (fun f1 f2 wx hT=> ?_)) ?_
      ·refine Qab (w:=wx) ?_ hT;have k:=(h.below hT).c0 q hqn;go_simp
      simp only [pu];refine tT (i:=22) (v:= .bool true) rfl rfl ?_;simp only [pu];refine tT (i:=23) (v:= .bool true) rfl rfl ?_;simp only [pu];refine tA (i:=24) rfl rfl ?_;simp only [pu];refine tA (i:=25) rfl rfl ?_;simp only [pu];refine tT (i:=26) (v:= .pointer (some ⟨g,m*3,none⟩)) rfl rfl ?_;simp only [pu];refine tT (i:=27) (v:= .pointer (some ⟨g,m*3+1,none⟩)) rfl rfl ?_;simp only [pu];refine Qaa (i:=28) (v:= .int .i64 ((K m).2:Int)) rfl (Qaf rfl (fun f1 f2 wx hT=> ?_)) ?_
      ·refine Qab (w:=wx) ?_ hT;have k:=(h.below hT).c1 m hlt;go_simp
      simp only [pu];refine tA (i:=29) rfl rfl ?_;simp only [pu];refine tA (i:=30) rfl rfl ?_;simp only [pu];refine tT (i:=31) (v:= .pointer (some ⟨g,q*3,none⟩)) rfl rfl ?_;simp only [pu];refine tT (i:=32) (v:= .pointer (some ⟨g,q*3+1,none⟩)) rfl rfl ?_;simp only [pu];refine Qaa (i:=33) (v:= .int .i64 ((K q).2:Int)) rfl (Qaf rfl (fun f1 f2 wx hT=> ?_)) ?_
      ·refine Qab (w:=wx) ?_ hT;have k:=(h.below hT).c1 q hqn;go_simp
      simp only [pu];refine tT (i:=34) (v:= .bool true) rfl rfl ?_;simp only [pu];refine tT (i:=35) (v:= .bool true) rfl rfl ?_;simp only [pu];refine tT (i:=36) (v:= .bool true) rfl rfl ?_;simp only [pu];refine Qag (by kernel_rfl) (fun w3 (hr3:Below w.heap.size w w3)=> ?_) _
      clear hr hb HN;go_wp2_with fail;go_roundw
      case rel=>exact⟨m+1,by omega,by omega,by go_num,by rw [HR.out],hr3⟩
      case measure=>simp [intOf];omega
     ·have hi1:¬((K m).1:Int)<((K q).1:Int):=by omega
      have hi2:((K m).1:Int)=((K q).1:Int):=by omega
      have hi3:¬((K m).2:Int)<((K q).2:Int):=by omega
      have HR:Hid (lsI K (m+1)=q):=Qh (by rw [HN.out,if_neg (by unfold klt;omega)])
      go_wp2_with fail;refine Qad (Two 1000 1001 fun _ _ wx=>Below w.heap.size w wx) (by kernel_rfl) hr.drew ?_
      refine tA (i:=0) rfl rfl ?_;simp only [pu];refine tA (i:=1) rfl rfl ?_;simp only [pu];refine tT (i:=2) (v:= .pointer (some ⟨g,m*3,none⟩)) rfl rfl ?_;simp only [pu];refine tT (i:=3) (v:= .pointer (some ⟨g,m*3,none⟩)) rfl rfl ?_;simp only [pu];refine Qaa (i:=4) (v:= .int .i64 ((K m).1:Int)) rfl (Qaf rfl (fun f1 f2 wx hT=> ?_)) ?_
      ·refine Qab (w:=wx) ?_ hT;have k:=(h.below hT).c0 m hlt;go_simp
      simp only [pu];refine tA (i:=5) rfl rfl ?_;simp only [pu];refine tA (i:=6) rfl rfl ?_;simp only [pu];refine tT (i:=7) (v:= .pointer (some ⟨g,q*3,none⟩)) rfl rfl ?_;simp only [pu];refine tT (i:=8) (v:= .pointer (some ⟨g,q*3,none⟩)) rfl rfl ?_;simp only [pu];refine Qaa (i:=9) (v:= .int .i64 ((K q).1:Int)) rfl (Qaf rfl (fun f1 f2 wx hT=> ?_)) ?_
      ·refine Qab (w:=wx) ?_ hT;have k:=(h.below hT).c0 q hqn;go_simp
      simp only [pu];refine tT (i:=10) (v:= .bool false) rfl rfl ?_;simp only [pu];refine tT (i:=11) (v:= .bool false) rfl rfl ?_;simp only [pu];refine tA (i:=12) rfl rfl ?_;simp only [pu];refine tA (i:=13) rfl rfl ?_;simp only [pu];refine tT (i:=14) (v:= .pointer (some ⟨g,m*3,none⟩)) rfl rfl ?_;simp only [pu];refine tT (i:=15) (v:= .pointer (some ⟨g,m*3,none⟩)) rfl rfl ?_;simp only [pu];refine Qaa (i:=16) (v:= .int .i64 ((K m).1:Int)) rfl (Qaf rfl (fun f1 f2 wx hT=> ?_)) ?_
      ·refine Qab (w:=wx) ?_ hT;have k:=(h.below hT).c0 m hlt;go_simp
      simp only [pu];refine tA (i:=17) rfl rfl ?_;simp only [pu];refine tA (i:=18) rfl rfl ?_;simp only [pu];refine tT (i:=19) (v:= .pointer (some ⟨g,q*3,none⟩)) rfl rfl ?_;simp only [pu];refine tT (i:=20) (v:= .pointer (some ⟨g,q*3,none⟩)) rfl rfl ?_;simp only [pu];refine Qaa (i:=21) (v:= .int .i64 ((K q).1:Int)) rfl (Qaf rfl (fun f1 f2 wx hT=> ?_)) ?_
      ·refine Qab (w:=wx) ?_ hT;have k:=(h.below hT).c0 q hqn;go_simp
      simp only [pu];refine tT (i:=22) (v:= .bool true) rfl rfl ?_;simp only [pu];refine tT (i:=23) (v:= .bool true) rfl rfl ?_;simp only [pu];refine tA (i:=24) rfl rfl ?_;simp only [pu];refine tA (i:=25) rfl rfl ?_;simp only [pu];refine tT (i:=26) (v:= .pointer (some ⟨g,m*3,none⟩)) rfl rfl ?_;simp only [pu];refine tT (i:=27) (v:= .pointer (some ⟨g,m*3+1,none⟩)) rfl rfl ?_;simp only [pu];refine Qaa (i:=28) (v:= .int .i64 ((K m).2:Int)) rfl (Qaf rfl (fun f1 f2 wx hT=> ?_)) ?_
      ·refine Qab (w:=wx) ?_ hT;have k:=(h.below hT).c1 m hlt;go_simp
      simp only [pu];refine tA (i:=29) rfl rfl ?_;simp only [pu];refine tA (i:=30) rfl rfl ?_;simp only [pu];refine tT (i:=31) (v:= .pointer (some ⟨g,q*3,none⟩)) rfl rfl ?_;simp only [pu];refine tT (i:=32) (v:= .pointer (some ⟨g,q*3+1,none⟩)) rfl rfl ?_;simp only [pu];refine Qaa (i:=33) (v:= .int .i64 ((K q).2:Int)) rfl (Qaf rfl (fun f1 f2 wx hT=> ?_)) ?_
      ·refine Qab (w:=wx) ?_ hT;have k:=(h.below hT).c1 q hqn;go_simp
      simp only [pu];refine tT (i:=34) (v:= .bool false) rfl rfl ?_;simp only [pu];refine tT (i:=35) (v:= .bool false) rfl rfl ?_;simp only [pu];refine tT (i:=36) (v:= .bool false) rfl rfl ?_;simp only [pu];refine Qag (by kernel_rfl) (fun w3 (hr3:Below w.heap.size w w3)=> ?_) _
      clear hr hb HN;go_wp2_with fail;go_roundw
      case rel=>exact⟨m+1,by omega,by omega,by go_num,by rw [HR.out],hr3⟩
      case measure=>simp [intOf];omega
    ·have hi1:¬((K m).1:Int)<((K q).1:Int):=by omega
     have hi2:¬((K m).1:Int)=((K q).1:Int):=by omega
     have HR:Hid (lsI K (m+1)=q):=Qh (by rw [HN.out,if_neg (by unfold klt;omega)])
     go_wp2_with fail;refine Qad (Two 1000 1001 fun _ _ wx=>Below w.heap.size w wx) (by kernel_rfl) hr.drew ?_
     refine tA (i:=0) rfl rfl ?_;simp only [pu];refine tA (i:=1) rfl rfl ?_;simp only [pu];refine tT (i:=2) (v:= .pointer (some ⟨g,m*3,none⟩)) rfl rfl ?_;simp only [pu];refine tT (i:=3) (v:= .pointer (some ⟨g,m*3,none⟩)) rfl rfl ?_;simp only [pu];refine Qaa (i:=4) (v:= .int .i64 ((K m).1:Int)) rfl (Qaf rfl (fun f1 f2 wx hT=> ?_)) ?_
     ·refine Qab (w:=wx) ?_ hT;have k:=(h.below hT).c0 m hlt;go_simp
     simp only [pu];refine tA (i:=5) rfl rfl ?_;simp only [pu];refine tA (i:=6) rfl rfl ?_;simp only [pu];refine tT (i:=7) (v:= .pointer (some ⟨g,q*3,none⟩)) rfl rfl ?_;simp only [pu];refine tT (i:=8) (v:= .pointer (some ⟨g,q*3,none⟩)) rfl rfl ?_;simp only [pu];refine Qaa (i:=9) (v:= .int .i64 ((K q).1:Int)) rfl (Qaf rfl (fun f1 f2 wx hT=> ?_)) ?_
     ·refine Qab (w:=wx) ?_ hT;have k:=(h.below hT).c0 q hqn;go_simp
     simp only [pu];refine tT (i:=10) (v:= .bool false) rfl rfl ?_;simp only [pu];refine tT (i:=11) (v:= .bool false) rfl rfl ?_;simp only [pu];refine tA (i:=12) rfl rfl ?_;simp only [pu];refine tA (i:=13) rfl rfl ?_;simp only [pu];refine tT (i:=14) (v:= .pointer (some ⟨g,m*3,none⟩)) rfl rfl ?_;simp only [pu];refine tT (i:=15) (v:= .pointer (some ⟨g,m*3,none⟩)) rfl rfl ?_;simp only [pu];refine Qaa (i:=16) (v:= .int .i64 ((K m).1:Int)) rfl (Qaf rfl (fun f1 f2 wx hT=> ?_)) ?_
     ·refine Qab (w:=wx) ?_ hT;have k:=(h.below hT).c0 m hlt;go_simp
     simp only [pu];refine tA (i:=17) rfl rfl ?_;simp only [pu];refine tA (i:=18) rfl rfl ?_;simp only [pu];refine tT (i:=19) (v:= .pointer (some ⟨g,q*3,none⟩)) rfl rfl ?_;simp only [pu];refine tT (i:=20) (v:= .pointer (some ⟨g,q*3,none⟩)) rfl rfl ?_;simp only [pu];refine Qaa (i:=21) (v:= .int .i64 ((K q).1:Int)) rfl (Qaf rfl (fun f1 f2 wx hT=> ?_)) ?_
     ·refine Qab (w:=wx) ?_ hT;have k:=(h.below hT).c0 q hqn;go_simp
     simp only [pu];refine tT (i:=22) (v:= .bool false) rfl rfl ?_;simp only [pu];refine tT (i:=23) (v:= .bool false) rfl rfl ?_;simp only [pu];refine Qaa (i:=24) rfl (Qae rfl) ?_;simp only [pu];refine Qaa (i:=25) rfl (Qae rfl) ?_;simp only [pu];refine Qaa (i:=26) rfl (Qae rfl) ?_;simp only [pu];refine Qaa (i:=27) rfl (Qae rfl) ?_;simp only [pu];refine Qaa (i:=28) rfl (Qae rfl) ?_;simp only [pu];refine Qaa (i:=29) rfl (Qae rfl) ?_;simp only [pu];refine Qaa (i:=30) rfl (Qae rfl) ?_;simp only [pu];refine Qaa (i:=31) rfl (Qae rfl) ?_;simp only [pu];refine Qaa (i:=32) rfl (Qae rfl) ?_;simp only [pu];refine Qaa (i:=33) rfl (Qae rfl) ?_;simp only [pu];refine Qaa (i:=34) rfl (Qae rfl) ?_;simp only [pu];refine tT (i:=35) (v:= .bool false) rfl rfl ?_;simp only [pu];refine tT (i:=36) (v:= .bool false) rfl rfl ?_;simp only [pu];refine Qag (by kernel_rfl) (fun w3 (hr3:Below w.heap.size w w3)=> ?_) _
     clear hr hb HN;go_wp2_with fail;go_roundw
     case rel=>exact⟨m+1,by omega,by omega,by go_num,by rw [HR.out],hr3⟩
     case measure=>simp [intOf];omega
  ·obtain rfl:m=n:=by omega
   go_wp2_with fail;go_ret;exact⟨rfl,hr⟩
abbrev Nx:=Kd×Value
def Qb0 (l:List Nx):List Value:=l.flatMap fun x=>[.int .i64 (x.1.1:Int),.int .i64 (x.1.2:Int),x.2]
theorem Qga (l:List Nx):(Qb0 l).length=l.length*3:=by
 induction l with
 |nil=>rfl
 |cons x l ih=>show(_++Qb0 l).length=_;rw [List.length_append,ih];simp;omega
theorem Qh0 (l m:List Nx):Qb0 (l++m)=Qb0 l++Qb0 m:=by simp [Qb0]
theorem Qfq (l:List Nx) (i:Nat) (x:Nx) (h:l[i]? =some x):(Qb0 l)[i*3]? =some (.int .i64 (x.1.1:Int))∧(Qb0 l)[i*3+1]? =some (.int .i64 (x.1.2:Int))∧(Qb0 l)[i*3+2]? =some x.2:=by
 induction l generalizing i with
 |nil=>simp at h
 |cons y l ih=>
  have e:Qb0 (y::l)=[.int .i64 (y.1.1:Int),.int .i64 (y.1.2:Int),y.2]++Qb0 l:=rfl;rw [e]
  match i,h with
  |0,h=>simp at h;subst h;exact⟨rfl,rfl,rfl⟩
  |i+1,h=>
   have h2:l[i]? =some x:=by simpa using h
   obtain⟨a,b,c⟩:=ih i h2;refine⟨?_,?_,?_⟩
   ·rw [List.getElem?_append_right (by simp;omega)];simpa [show (i+1)*3-3=i*3 by omega]using a
   ·rw [List.getElem?_append_right (by simp;omega)];simpa [show (i+1)*3+1-3=i*3+1 by omega]using b
   ·rw [List.getElem?_append_right (by simp;omega)];simpa [show (i+1)*3+2-3=i*3+2 by omega]using c
structure RB (g:Nat) (l:List Nx) (w:World):Prop where
 c:∀j,j<l.length*3→w.cell? ⟨g,j,none⟩=(Qb0 l)[j]?
 lt:g<w.heap.size
theorem RB.below {g:Nat} {l:List Nx} {w w':World} (h:RB g l w) (hb:Below w.heap.size w w'):RB g l w':=
 ⟨fun j hj=>(hb.cell (p:=⟨g,j,none⟩) h.lt).trans (h.c j hj),Nat.lt_of_lt_of_le h.lt hb.size⟩
def keyL (l:List Nx) (i:Nat):Kd:=(l[i]?.getD ((0,0),.slice none 0 0)).1
def symL (l:List Nx) (i:Nat):Value:=(l[i]?.getD ((0,0),.slice none 0 0)).2
theorem RB.nb {g:Nat} {l:List Nx} {w:World} (h:RB g l w):NB g l.length (keyL l) (symL l) w:=by
 have key:∀i,i<l.length→l[i]? =some (l[i]?.getD ((0,0),.slice none 0 0)):=fun i hi=>by rw [List.getElem?_eq_getElem hi];rfl
 exact⟨fun i hi=>(h.c _ (by omega)).trans (Qfq l i _ (key i hi)).1,fun i hi=>(h.c _ (by omega)).trans (Qfq l i _ (key i hi)).2.1,fun i hi=>(h.c _ (by omega)).trans (Qfq l i _ (key i hi)).2.2,h.lt⟩
structure ON (B:Nat) (w0:World) (l:List Nx) (v:Value) (wr:World):Prop where
 own:wr.ownsRow B 217 3 v l.length (Qb0 l)
 b:Below B w0 wr
 lo:B≤wr.heap.size
theorem ON.nil {B:Nat} {w0 w:World} (h:Below B w0 w) (hB:B≤w.heap.size):ON B w0 [] (.slice none 0 0) w:=⟨⟨rfl,.inl ⟨rfl,rfl⟩⟩,h,hB⟩
theorem ON.cast {B:Nat} {w0 w:World} {l m:List Nx} {v:Value} (h:ON B w0 l v w) (e:l=m):ON B w0 m v w:=e▸h
theorem ON.below {B:Nat} {w0 w w':World} {l:List Nx} {v:Value} (h:ON B w0 l v w) (hb:Below w.heap.size w w'):ON B w0 l v w':=by
 refine⟨⟨h.own.1,?_⟩,h.b.trans (hb.mono h.lo),Nat.le_trans h.lo hb.size⟩;rcases h.own.2 with h1|⟨g,cap,cur,h1,h2,h3,h4⟩
 ·exact .inl h1
 ·refine .inr ⟨g,cap,cur,h1,h2,?_,h4⟩;rw [hb.block g (by
   rcases Nat.lt_or_ge g w.heap.size with hlt|hge
   ·exact hlt
   ·rw [Array.getElem?_eq_none hge]at h3;cases h3)]
  exact h3
theorem ON.rb {B:Nat} {w0 w:World} {l:List Nx} {v:Value} (h:ON B w0 l v w) (hl:l≠[]):∃g cap,v= .slice (some ⟨g,0,none⟩) l.length cap∧B≤g∧l.length≤cap∧cap≤maxLen∧RB g l w:=by
 rcases h.own.2 with⟨_,h2⟩|⟨g,cap,cur,h1,h2,h3,h4,h5,h6,h7⟩
 ·exact absurd (List.eq_nil_of_length_eq_zero h2) hl
 ·refine⟨g,cap,h1,h2,h4,h5,fun j hj=> ?_,?_⟩
  ·rw [cell_of_row w g j cur _ (0,0) h3,←h7,List.getElem?_take,if_pos hj];simp
  ·rcases Nat.lt_or_ge g w.heap.size with hlt|hge
   ·exact hlt
   ·rw [Array.getElem?_eq_none hge]at h3;cases h3
theorem Qva:(Tryz.prog.info? 217).map (fun i=>(i.zero,i.size,i.bytes))=some (some (.agg #[.int .i64 0,.int .i64 0,.slice none 0 0]),3,40):=by kernel_rfl
theorem Qds {ops:Array Oper} {rest:List Oper} {o:Oper} {a:Act} {Q:Exit→Act→World→Prop} {B:Nat} {w0 w:World} {l m:List Nx} {v:Value} (hgd:o.guard=none) (s x:Operand)
  (ho:o.op= .call {callee:= .builtin .append,args:=#[s,x],argTypes:=#[215,215]}) (hs:a.eval s=v) (h:ON B w0 l v w) (ad:Addr) (c:Nat) (hx:a.eval x= .slice (some ad) m.length c)
  (hc:∀j,j<m.length*3→w.cell? (ad.add j)=(Qb0 m)[j]?) (h1:∀y∈m,y.2.oneCell'=true) (hn:l.length+m.length≤1000000)
  (k:∀v' w',ON B w0 (l++m) v' w'→w.grownBy w' v.ownBlock→wpList Tryz.prog ops Q rest (a.put o.dst v') w'):wpList Tryz.prog ops Q (o::rest) a w:=by
 obtain⟨i0,hi,hz0,hz1,hz2⟩:=info_parts Qva;refine wpList_append_own _ hgd s x 215 ho B 217 i0 (.agg #[.int .i64 0,.int .i64 0,.slice none 0 0]) 3 40 Tryz.underlying215 hi hz0 hz1 hz2 rfl (by decide) v l.length _ hs h.own ad m.length c (Qb0 m) hx (Qga m) ?_ ?_ ?_ ?_ h.lo ?_
 ·intro j u hu;have hj:j<m.length*3:=by
   rcases Nat.lt_or_ge j (m.length*3)with h1|h1
   ·exact h1
   ·rw [List.getElem?_eq_none (by rw [Qga];exact h1)]at hu;cases hu
  rw [hc j hj,hu]
 ·intro u hu;obtain⟨y,hy,hu2⟩:=List.mem_flatMap.1 hu;simp only [List.mem_cons,List.not_mem_nil,or_false]at hu2;rcases hu2 with rfl|rfl|rfl
  ·rfl
  ·rfl
  ·exact h1 y hy
 ·unfold maxLen;omega
 ·omega
 ·intro v' w2 hown hg _;have hb:=h.b.grown hg h.lo (Qrq h.own);exact k v' w2 ⟨by rw [List.length_append,Qh0];exact hown,hb,Nat.le_trans h.lo hg.size⟩ hg
theorem Qpb (l:List Nx) (i j:Nat) (hj:j<(l.take i).length*3):(Qb0 l)[j]? =(Qb0 (l.take i))[j]? :=by
 have e:Qb0 l=Qb0 (l.take i)++Qb0 (l.drop i):=by rw [←Qh0,List.take_append_drop]
 rw [e,List.getElem?_append_left (by rw [Qga];exact hj)]
theorem Qpa (l:List Nx) (i j:Nat) (hi:i≤l.length):(Qb0 l)[i*3+j]? =(Qb0 (l.drop i))[j]? :=by
 have e:Qb0 l=Qb0 (l.take i)++Qb0 (l.drop i):=by rw [←Qh0,List.take_append_drop]
 have hl:(Qb0 (l.take i)).length=i*3:=by rw [Qga,List.length_take,Nat.min_eq_left hi]
 rw [e,List.getElem?_append_right (by omega),hl,Nat.add_sub_cancel_left]
theorem Qhn (g cap i:Nat) (l:List Nx) (w:World) (h:RB g l w) (hc:l.length≤cap) (hcm:cap≤9223372036854775807) (h1:∀y∈l,y.2.oneCell'=true) (hn:l.length≤1000) (hi:i<l.length):
  Calls Tryz.prog 150 #[.slice (some ⟨g,0,none⟩) l.length cap,.int .i64 (i:Int)] w fun e w'=>∃v,e= .returned v∧ON w.heap.size w (l.eraseIdx i) v w':=by
 have ht:(l.take i).length=i:=by rw [List.length_take];omega
 have hd:(l.drop (i+1)).length=l.length-(i+1):=List.length_drop ..;have H0:Hid (ON w.heap.size w [] (.slice none 0 0) w):=Qh (ON.nil Qb Ql);have HC:=Qh (fun j (hj:j<(l.take i).length*3)=>(show w.cell? ((⟨g,0,none⟩:Addr).add j)=(Qb0 (l.take i))[j]? by
  rw [Qay,Nat.zero_add,h.c j (by omega)];exact Qpb l i j hj))
 have HT:Hid (∀y∈l.take i,y.2.oneCell'=true):=Qh fun y hy=>h1 y (List.mem_of_mem_take hy);have HD:Hid (∀y∈l.drop (i+1),y.2.oneCell'=true):=Qh fun y hy=>h1 y (List.mem_of_mem_drop hy);have HTL:Hid ((l.take i).length=i):=Qh ht;have hiw:IntKind.i64.wrap ((i:Int)+1)=((i+1:Nat):Int):=by rw [IntWalk.i64_in _ (by omega)];omega
 have hi1:i+1≤l.length:=by omega
 clear h1;have HEQ:Hid ([]++l.take i++l.drop (i+1)=l.eraseIdx i):=Qh (by rw [List.nil_append,List.eraseIdx_eq_take_drop_succ])
 by_cases hcap:cap=i+1
 ·subst hcap;have HE2:Hid ([]++l.take i++[]=l.eraseIdx i):=Qh (by rw [←HEQ.out,show l.drop (i+1)=[]from List.drop_eq_nil_of_le (by omega)])
  go_enter Tryz.func150,Tryz.ntmps150
  go_wp2_with (first|(refine Qds (m:=l.take i) rfl (.tmp 6) (.tmp 9) rfl rfl H0.out ⟨g,0,none⟩ _ (by rw [HTL.out];rfl) HC.out HT.out (by rw [HTL.out];simp;omega) ?_;intro v1 w1 hv1 hg1)|(refine Qds (m:=[]) rfl (.tmp 11) (.tmp 15) rfl rfl hv1 ⟨g,0,none⟩ 0 rfl (fun j hj=>by simp at hj) (fun y hy=>by cases hy) (by simp;omega) ?_;intro v2 w2 hv2 hg2))
  go_ret;exact⟨_,rfl,hv2.cast HE2.out⟩
 ·have hlt:i+1<cap:=by omega
  go_enter Tryz.func150,Tryz.ntmps150
  go_wp2_with (first|(refine Qds (m:=l.take i) rfl (.tmp 6) (.tmp 9) rfl rfl H0.out ⟨g,0,none⟩ _ (by rw [HTL.out];rfl) HC.out HT.out (by rw [HTL.out];simp;omega) ?_;intro v1 w1 hv1 hg1)|(refine Qds (m:=l.drop (i+1)) rfl (.tmp 11) (.tmp 15) rfl rfl hv1 ⟨g,(i+1)*3,none⟩ (cap-(i+1)) (by show Value.slice _ _ _=_;rw [List.length_drop]) (fun j hj=>by rw [List.length_drop]at hj;rw [Qay,(h.below hv1.b).c _ (by omega)];exact Qpa l (i+1) j hi1) HD.out (by simp;omega) ?_;intro v2 w2 hv2 hg2))
  go_ret;exact⟨_,rfl,hv2.cast HEQ.out⟩
abbrev Ny:=Kd×Value×List Nat
def nxs (l:List Ny):List Nx:=l.map fun x=>(x.1,x.2.1)
def kys (l:List Ny):List Kd:=l.map (·.1)
def RL (w:World) (v:Value) (L:List Nat):Prop:=w.ownsRow 0 3 1 v L.length (L.map fun(i:Nat)=>Value.int .i64 (i:Int))
theorem RL.lt {w:World} {v:Value} {L:List Nat} (h:RL w v L) {g:Nat} (hg:v.ownBlock=some g):∃cur,w.heap[g]? =some (.cells cur 3 (0,0))∧g<w.heap.size:=by
 rcases h.2 with⟨rfl,_⟩|⟨g',cap,cur,rfl,_,hc,_⟩
 ·simp [Value.ownBlock]at hg
 ·have:g'=g:=by simpa [Value.ownBlock]using hg
  subst this;refine⟨cur,hc,?_⟩;rcases Nat.lt_or_ge g' w.heap.size with hlt|hge
  ·exact hlt
  ·rw [Array.getElem?_eq_none hge]at hc;cases hc
theorem RL.block {w w':World} {v:Value} {L:List Nat} (h:RL w v L) (hb:∀g,v.ownBlock=some g→w'.heap[g]? =w.heap[g]?):RL w' v L:=by
 refine⟨h.1,?_⟩;rcases h.2 with h1|⟨g,cap,cur,h1,h2,h3,h4⟩
 ·exact .inl h1
 ·exact .inr ⟨g,cap,cur,h1,h2,(hb g (by rw [h1];rfl)).trans h3,h4⟩
theorem RL.below {w w':World} {v:Value} {L:List Nat} (h:RL w v L) (hb:Below w.heap.size w w'):RL w' v L:=
 h.block fun g hg=>hb.block g (h.lt hg).choose_spec.2
theorem Qre:(3:Nat)≠217:=by decide
theorem ON.type {B:Nat} {w0 w:World} {l:List Nx} {v:Value} (h:ON B w0 l v w) {g:Nat} (hg:v.ownBlock=some g):∃cur,w.heap[g]? =some (.cells cur 217 (0,0)):=by
 rcases h.own.2 with⟨rfl,_⟩|⟨g',cap,cur,rfl,_,hc,_⟩
 ·simp [Value.ownBlock]at hg
 ·have:g'=g:=by simpa [Value.ownBlock]using hg
  subst this;exact⟨cur,hc⟩
theorem RL.grown {B:Nat} {w0 w w':World} {l:List Nx} {u v:Value} {L:List Nat} (h:RL w v L) (hn:ON B w0 l u w) (hg:w.grownBy w' u.ownBlock):RL w' v L:=
 h.block fun g hv=>by
  obtain⟨cur,h1,h2⟩:=h.lt hv;refine hg.block g h2 fun e=> ?_;obtain⟨cur2,h3⟩:=hn.type e.symm;rw [h1]at h3;simp only [Option.some.injEq,Obj.cells.injEq]at h3;exact Qre h3.2.1
theorem Q07 (l m:List Ny):nxs (l++m)=nxs l++nxs m:=List.map_append ..
theorem Qdd (l:List Ny):(nxs l).length=l.length:=List.length_map ..
theorem RL.cellOk {w:World} {v:Value} {L:List Nat} (h:RL w v L):v.oneCell'=true:=by
 rcases h.2 with⟨rfl,_⟩|⟨g,cap,cur,rfl,_⟩<;>rfl
structure PN (B:Nat) (w0:World) (l:List Ny) (v:Value) (wr:World):Prop where
 on:ON B w0 (nxs l) v wr
 rl:∀x∈l,RL wr x.2.1 x.2.2
theorem PN.below {B:Nat} {w0 w w':World} {l:List Ny} {v:Value} (h:PN B w0 l v w) (hb:Below w.heap.size w w'):PN B w0 l v w':=⟨h.on.below hb,fun x hx=>(h.rl x hx).below hb⟩
theorem Qku {ops:Array Oper} {rest:List Oper} {o:Oper} {a:Act} {Q:Exit→Act→World→Prop} {B:Nat} {w0 w:World} {l:List Ny} {v:Value} (hgd:o.guard=none) (s x:Operand)
  (ho:o.op= .call {callee:= .builtin .append,args:=#[s,x],argTypes:=#[215,215]}) (hs:a.eval s=v) (h:PN B w0 l v w) (y:Ny) (hy:RL w y.2.1 y.2.2)
  (hx:a.eval x= .slice (some ⟨w.heap.size,0,none⟩) 1 1) (hn:l.length≤1000)
  (k:∀v' w',PN B w0 (l++[y]) v' w'→w.grownBy w' v.ownBlock→wpList Tryz.prog ops Q rest (a.put o.dst v') w'):
  wpList Tryz.prog ops Q (o::rest) a (w.alloc (.cells #[.int .i64 (y.1.1:Int),.int .i64 (y.1.2:Int),y.2.1] 217)):=by
 have hb:Below w.heap.size w (w.alloc (.cells #[.int .i64 (y.1.1:Int),.int .i64 (y.1.2:Int),y.2.1] 217)):=Qb.alloc Ql _;have h2:=h.below hb;refine Qds (m:=[(y.1,y.2.1)]) hgd s x ho hs h2.on ⟨w.heap.size,0,none⟩ 1 hx (fun j hj=> ?_) (fun z hz=> ?_) (by rw [Qdd];show l.length+1≤_;omega) fun v' w2 hon hg=> ?_
 ·rw [Qay,Nat.zero_add,cell_of_row _ _ j _ _ (0,0) (heap_alloc_new w _)];simp [Qb0]
 ·rw [List.mem_singleton.1 hz];exact hy.cellOk
 ·refine k v' w2 ⟨hon.cast (by rw [Q07];rfl),fun z hz=> ?_⟩ ?_
  ·rcases List.mem_append.1 hz with h3|h3
   ·exact(h2.rl z h3).grown h2.on hg
   ·rw [List.mem_singleton.1 h3];exact(hy.below hb).grown h2.on hg
  ·exact(World.grownBy_alloc w _ v.ownBlock).trans hg
structure P1 (c:Nat→Nat) (k:Nat) (w:World) (l:List Ny) (v:Value) (wr:World):Prop where
 pn:PN w.heap.size w l v wr
 ks:kys l=nds c k
 sy:∀x∈l,x.2.2=[x.1.2]
theorem Q01 (l m:List Ny):kys (l++m)=kys l++kys m:=List.map_append ..
theorem Qpu (l:List Ny):(kys l).length=l.length:=List.length_map ..
theorem P1.skip {c:Nat→Nat} {k:Nat} {w wr:World} {l:List Ny} {v:Value} (h:P1 c k w l v wr) (h0:c k=0):P1 c (k+1) w l v wr:=
 ⟨h.pn,by rw [h.ks];show _=nds c k++_;rw [if_neg (by omega),List.append_nil],h.sy⟩
theorem P1.len {c:Nat→Nat} {k:Nat} {w wr:World} {l:List Ny} {v:Value} (h:P1 c k w l v wr):l.length≤k:=by
 rw [←Qpu,h.ks];exact Qfw c k
theorem Q10 (w:World) (k:Nat):RL (w.alloc (.cells #[.int .i64 (k:Int)] 3)) (.slice (some ⟨w.heap.size,0,none⟩) 1 1) [k]:=
 ⟨rfl,.inr ⟨w.heap.size,1,#[.int .i64 (k:Int)],rfl,Nat.zero_le _,heap_alloc_new w _,Ql,by unfold maxLen;omega,rfl,rfl⟩⟩
theorem P1.more {c:Nat→Nat} {k:Nat} {w w1 w2:World} {l:List Ny} {v v' sv:Value} (h:P1 c k w l v w1) (h0:0<c k) (h2:PN w.heap.size w (l++[((c k,k),sv,[k])]) v' w2):P1 c (k+1) w (l++[((c k,k),sv,[k])]) v' w2:=
 ⟨h2,by rw [Q01,h.ks];show _=nds c k++_;rw [if_pos h0];rfl,fun x hx=>by
  rcases List.mem_append.1 hx with h3|h3
  ·exact h.sy x h3
  ·rw [List.mem_singleton.1 h3]⟩
def sumW:List Kd→Nat
 |[]=>0
 |x::l=>x.1+sumW l
theorem Qkh {l m:List Kd} (h:l.Perm m):sumW l=sumW m:=by
 induction h with
 |nil=>rfl
 |cons x _ ih=>show _+_=_+_;rw [ih]
 |swap x y l=>show _+(_+_)=_+(_+_);omega
 |trans _ _ h1 h2=>rw [h1,h2]
structure LP (c:Nat→Nat) (n:Nat) (l:List Ny) (nx:Nat) (F:Nat→Nat):Prop where
 ok:okK (kys l) nx
 nd:(l.flatMap (·.2.2)).Nodup
 lt:∀x∈l,∀s∈x.2.2,s<n∧0<c s
 cov:∀s,s<n→0<c s→∃x∈l,s∈x.2.2
 fd:∀x∈l,∀s∈x.2.2,F s+hD (kys l) nx x.1.2=dep c n s
 z:∀s,c s=0→F s=0
 nb:nx+l.length≤2*n
 wt:sumW (kys l)≤n*1099511627776
 ne:∀x∈l,x.2.2≠[]
theorem Quz {l:List Ny} {x:Ny} (h:x∈l):x.1∈kys l:=List.mem_map.2 ⟨x,h,rfl⟩
def addH (F:Nat→Nat) (L:List Nat) (s:Nat):Nat:=if s∈L then F s+1 else F s
theorem LP.step {c:Nat→Nat} {n nx:Nat} {l r:List Ny} {a b:Ny} {F:Nat→Nat} (h:LP c n l nx F) (hp:l.Perm (a::b::r)) (ha:∀x∈b.1::kys r,klt a.1 x) (hb:∀x∈kys r,klt b.1 x) (sv:Value):
  LP c n (r++[((a.1.1+b.1.1,nx),sv,a.2.2++b.2.2)]) (nx+1) (addH F (a.2.2++b.2.2)):=by
 have hk:(kys l).Perm (a.1::b.1::kys r):=hp.map _;have st:=Qju h.ok hk ha hb;have hq:(r++[(((a.1.1+b.1.1,nx),sv,a.2.2++b.2.2):Ny)]).Perm ((((a.1.1+b.1.1,nx),sv,a.2.2++b.2.2):Ny)::r):=List.perm_append_singleton _ _;have hkq:(kys (r++[(((a.1.1+b.1.1,nx),sv,a.2.2++b.2.2):Ny)])).Perm ((a.1.1+b.1.1,nx)::kys r):=hq.map _;have ok2:okK ((a.1.1+b.1.1,nx)::kys r) (nx+1):=Qfc (Qbj hk h.ok);have ok3:okK (kys (r++[(((a.1.1+b.1.1,nx),sv,a.2.2++b.2.2):Ny)])) (nx+1):=Qbj hkq.symm ok2;have mem:∀x,x∈l↔x=a∨x=b∨x∈r:=fun x=>by rw [hp.mem_iff];simp
 have nd2:((a::b::r).flatMap (·.2.2)).Nodup:=(hp.flatMap_right _).nodup_iff.1 h.nd;have nd3:(a.2.2++(b.2.2++r.flatMap (·.2.2))).Nodup:=by simpa using nd2
 have rnot:∀x∈r,∀s∈x.2.2,s∉a.2.2++b.2.2:=fun x hx s hs hm=>by
  rw [←List.append_assoc]at nd3;exact(List.nodup_append.1 nd3).2.2 s hm s (List.mem_flatMap.2 ⟨x,hx,hs⟩) rfl
 refine⟨ok3,?_,?_,?_,?_,?_,?_,?_,?_⟩
 ·rw [List.flatMap_append];have e:[(((a.1.1+b.1.1,nx),sv,a.2.2++b.2.2):Ny)].flatMap (·.2.2)=a.2.2++b.2.2:=by simp
  rw [e];refine(List.perm_append_comm.nodup_iff).1 ?_;rw [List.append_assoc];exact nd3
 ·intro x hx s hs;rcases List.mem_append.1 hx with h1|h1
  ·exact h.lt x ((mem x).2 (.inr (.inr h1))) s hs
  ·rw [List.mem_singleton.1 h1]at hs;rcases List.mem_append.1 hs with h2|h2
   ·exact h.lt a ((mem a).2 (.inl rfl)) s h2
   ·exact h.lt b ((mem b).2 (.inr (.inl rfl))) s h2
 ·intro s hs hc;obtain⟨x,hx,hsx⟩:=h.cov s hs hc;rcases(mem x).1 hx with rfl|rfl|h1
  ·exact⟨_,List.mem_append.2 (.inr (List.mem_singleton.2 rfl)),List.mem_append.2 (.inl hsx)⟩
  ·exact⟨_,List.mem_append.2 (.inr (List.mem_singleton.2 rfl)),List.mem_append.2 (.inr hsx)⟩
  ·exact⟨x,List.mem_append.2 (.inl h1),hsx⟩
 ·intro x hx s hs;rw [Qh7 hkq ok3];rcases List.mem_append.1 hx with h1|h1
  ·have h2:=h.fd x ((mem x).2 (.inr (.inr h1))) s hs;rw [st,if_neg (Qro h.ok hk (Quz h1))]at h2;unfold addH;rw [if_neg (rnot x h1 s hs)];exact h2
  ·rw [List.mem_singleton.1 h1]at hs⊢;show addH F (a.2.2++b.2.2) s+hD _ (nx+1) nx=_;unfold addH;rw [if_pos hs];rcases List.mem_append.1 hs with h2|h2
   ·have h3:=h.fd a ((mem a).2 (.inl rfl)) s h2;rw [st,if_pos (.inl rfl)]at h3;omega
   ·have h3:=h.fd b ((mem b).2 (.inr (.inl rfl))) s h2;rw [st,if_pos (.inr rfl)]at h3;omega
 ·intro s hc;unfold addH;rw [if_neg,h.z s hc];intro hm;rcases List.mem_append.1 hm with h2|h2
  ·have:=(h.lt a ((mem a).2 (.inl rfl)) s h2).2;omega
  ·have:=(h.lt b ((mem b).2 (.inr (.inl rfl))) s h2).2;omega
 ·have h1:=h.nb;have h2:=hp.length_eq;simp only [List.length_append,List.length_cons,List.length_nil]at h2⊢;omega
 ·have h1:=h.wt;rw [Qkh hk]at h1;rw [Qkh hkq];show a.1.1+b.1.1+sumW (kys r)≤_;have h2:sumW (a.1::b.1::kys r)=a.1.1+(b.1.1+sumW (kys r)):=rfl;omega
 ·intro x hx;rcases List.mem_append.1 hx with h1|h1
  ·exact h.ne x ((mem x).2 (.inr (.inr h1)))
  ·rw [List.mem_singleton.1 h1];intro e;exact h.ne a ((mem a).2 (.inl rfl)) (List.append_eq_nil_iff.1 e).1
theorem Q04 (K:Nat→Kd) (m:Nat):∀j,j<m→¬klt (K j) (K (lsI K m)):=by
 induction m with
 |zero=>intro j hj;omega
 |succ m ih=>
  intro j hj;unfold lsI;by_cases h:klt (K m) (K (lsI K m))
  ·rw [if_pos h];rcases(show j<m∨j=m by omega)with h1|rfl
   ·exact fun h2=>ih j h1 (Qhf h2 h)
   ·exact Qh9 _
  ·rw [if_neg h];rcases(show j<m∨j=m by omega)with h1|rfl
   ·exact ih j h1
   ·exact h
theorem Quw {l:List Ny} {i:Nat} (h:i<l.length):keyL (nxs l) i=(l[i]).1:=by
 unfold keyL nxs;rw [List.getElem?_map,List.getElem?_eq_getElem h];rfl
theorem Qvd (l:List Ny) (i:Nat):nxs (l.eraseIdx i)=(nxs l).eraseIdx i:=by
 simp only [nxs,List.eraseIdx_eq_take_drop_succ,List.map_append,List.map_take,List.map_drop]
theorem Qlh {α:Type} {l:List α} {i:Nat} (h:i<l.length):l.Perm (l[i]::l.eraseIdx i):=by
 rw [List.eraseIdx_eq_take_drop_succ];have e:l=l.take i++l[i]::l.drop (i+1):=by rw [List.getElem_cons_drop,List.take_append_drop]
 have h2:(l.take i++l[i]::l.drop (i+1)).Perm (l[i]::(l.take i++l.drop (i+1))):=List.perm_middle;exact(List.Perm.of_eq e).trans h2
theorem Qrj {l:List Ny} {nx:Nat} (hk:okK (kys l) nx) (h0:0<l.length):∃h:lsI (keyL (nxs l)) l.length<l.length,
  l.Perm (l[lsI (keyL (nxs l)) l.length]::l.eraseIdx (lsI (keyL (nxs l)) l.length))∧∀x∈kys (l.eraseIdx (lsI (keyL (nxs l)) l.length)),klt (l[lsI (keyL (nxs l)) l.length]).1 x:=by
 have h:=Qzz (keyL (nxs l)) h0;have hmin:=Q04 (keyL (nxs l)) l.length;generalize lsI (keyL (nxs l)) l.length=i at*;refine⟨h,Qlh h,fun x hx=> ?_⟩;have hp:(kys l).Perm ((l[i]).1::kys (l.eraseIdx i)):=(Qlh h).map _;have hn:=(Qbj hp hk).1;rw [List.map_cons]at hn;have hne:(l[i]).1.2≠x.2:=fun e=>(List.nodup_cons.1 hn).1 (List.mem_map.2 ⟨x,hx,e.symm⟩);obtain⟨y,hy,rfl⟩:=List.mem_map.1 (hp.mem_iff.2 (List.mem_cons_of_mem _ hx));obtain⟨j,hj,rfl⟩:=List.mem_iff_getElem.1 hy;have h1:=hmin j hj;rw [Quw hj,Quw h]at h1;exact Qjw (fun e=>hne e.symm) h1
section
variable {P:Program} {md:Region.Mode} {ops:Array Oper} {T:Bool→Bool→World→Prop} {s t:Nat}
theorem Qc4 {L:Array Bool} {o:Oper} (hm:May md ops t L) (ho:ops[t]? =some o) (hb:(o.after.toList.any fun e=>Region.binds md e&&e.on==s)=true):L.getD s false=true:=by
 obtain⟨_,o',ho',hall⟩:=mem_ready.1 hm.ready;obtain rfl:o=o':=by rw [ho]at ho';cases ho';rfl
 obtain⟨e,he,h2⟩:=List.any_eq_true.1 hb;rw [Bool.and_eq_true,beq_iff_eq]at h2;have:=hall e (by simpa using he) h2.1
 rw [h2.2]at this;exact this
theorem Qqo {o o2:Oper} {v:Value} {a:Act} (hne:t≠s) (ho:ops[t]? =some o2) (hb:(o2.after.toList.any fun e=>Region.binds md e&&e.on==s)=true) (hw:Region.wanted o (yielded ops a.tmps)=true)
  (h:∀w,T true false w→Qbv P (T true true) v ((execOp a.eval o).run P w)):Qbo P md ops (Two s t T) t o v a:=
 .inl ⟨hw,fun L w hm hS=>by
  unfold Two at*;rw [hm.unlisted.2,getD_set_ne false hne];rw [hm.unlisted.1]at hS;rw [Qc4 hm ho hb]at hS⊢;exact h w hS⟩
end
theorem Qhg {P:Program} {R:World→Prop} {o:Oper} {a:Act} {w w':World} {v:Value} (s x:Operand) (t:TypeId) (ho:o.op=Op.call {callee:=Callee.builtin Builtin.append,args:=#[s,x],argTypes:=#[t,t]})
  {vs vx:Value} (hs:a.eval s=vs) (hx:a.eval x=vx) (hr:(Builtin.append_ #[t,t] o.type #[vs,vx]).run P w= .ok v w') (hR:R w'):Qbv P R v ((execOp a.eval o).run P w):=by
 refine Qab (w:=w') ?_ hR;simp [execOp,ho,resolve,invoke,builtin,hs,hx,hr,Result.andThen]
theorem Qok (w:World) (B:Nat) (v x:Value) (L M:List Nat) (hv:w.ownsRow B 3 1 v L.length (L.map fun(i:Nat)=>Value.int .i64 (i:Int))) (hx:RL w x M) (hM:M≠[]) (hB:B≤w.heap.size) (hn:L.length+M.length≤1000000) (ty:TypeId):
  ∃v' w',(Builtin.append_ #[92,92] ty #[v,x]).run Tryz.prog w= .ok v' w'∧w'.ownsRow B 3 1 v' (L++M).length ((L++M).map fun(i:Nat)=>Value.int .i64 (i:Int))∧w.grownBy w' v.ownBlock:=by
 obtain⟨i0,hi,hz0,hz1,hz2⟩:=info_parts Qca;rcases hx.2 with⟨_,h2⟩|⟨g,cap,cur,rfl,_,hc,h4,h5,h6,h7⟩
 ·exact absurd (List.eq_nil_of_length_eq_zero h2) hM
 ·obtain⟨v',w',h1,h2,h3,_⟩:=run_append_own (P:=Tryz.prog) w B 92 ty 3 i0 (.int .i64 0) 1 8 Tryz.underlying92 hi hz0 hz1 hz2 rfl (by decide) v L.length _ hv ⟨g,0,none⟩ M.length cap (M.map fun(i:Nat)=>Value.int .i64 (i:Int)) (by rw [List.length_map,Nat.mul_one]) (fun j u hu=>by
    have hj:j<M.length:=by
     rcases Nat.lt_or_ge j M.length with h1|h1
     ·exact h1
     ·rw [List.getElem?_eq_none (by rw [List.length_map];exact h1)]at hu;cases hu
    rw [Qay,Nat.zero_add,cell_of_row w g j cur _ (0,0) hc,←hu,←h7,List.getElem?_take,if_pos (by omega)];simp)
   (fun u hu=>by obtain⟨y,_,rfl⟩:=List.mem_map.1 hu;rfl) (by unfold maxLen;omega) (by omega) hB
  exact⟨v',w',h1,by rw [List.length_append,List.map_append];exact h2,h3⟩
def mxN (F:Nat→Nat):Nat→Nat
 |0=>0
 |m+1=>max (mxN F m) (F m)
structure LW (n g:Nat) (w:World) (l:List Ny) (F:Nat→Nat) (v:Value) (wr:World):Prop where
 on:ON w.heap.size w (nxs l) v wr
 rl:∀x∈l,RL wr x.2.1 x.2.2∧x.2.1.ownBlock≠some g
 o:Blk wr g 3 (rI n fun i=>(F i:Int))
 gl:w.heap.size≤g
theorem LW.below {n g:Nat} {w w1 w2:World} {l:List Ny} {F:Nat→Nat} {v:Value} (h:LW n g w l F v w1) (hb:Below w1.heap.size w1 w2):LW n g w l F v w2:=
 ⟨h.on.below hb,fun x hx=>⟨(h.rl x hx).1.below hb,(h.rl x hx).2⟩,h.o.below hb h.o.lt,h.gl⟩
theorem RL.form {w:World} {v:Value} {L:List Nat} (h:RL w v L):∃p c,v= .slice p L.length c:=by
 rcases h.2 with⟨rfl,h2⟩|⟨g,cap,cur,rfl,_⟩
 ·exact⟨none,0,by rw [h2]⟩
 ·exact⟨_,_,rfl⟩
theorem ON.up {B:Nat} {w0 w1 w:World} {l:List Nx} {v:Value} (h:ON w1.heap.size w1 l v w) (hb:Below B w0 w1) (hB:B≤w1.heap.size):ON B w0 l v w:=by
 refine⟨⟨h.own.1,?_⟩,hb.trans (h.b.mono hB),Nat.le_trans hB h.lo⟩;rcases h.own.2 with h1|⟨g,cap,cur,h1,h2,h3⟩
 ·exact .inl h1
 ·exact .inr ⟨g,cap,cur,h1,Nat.le_trans hB h2,h3⟩
theorem Qn4 {α:Type} {l:List α} {i:Nat} {x:α} (h:x∈l.eraseIdx i):x∈l:=by
 rw [List.eraseIdx_eq_take_drop_succ]at h;rcases List.mem_append.1 h with h|h
 ·exact List.mem_of_mem_take h
 ·exact List.mem_of_mem_drop h
theorem Qyp {x:Kd} {l:List Kd} {n:Nat} (h:okK (x::l) n):okK l n:=
 ⟨(List.nodup_cons.1 (by simpa only [List.map_cons]using h.1)).2,fun y hy=>h.2 y (List.mem_cons_of_mem _ hy)⟩
theorem LW.without {n g:Nat} {w w1 w2:World} {l:List Ny} {F:Nat→Nat} {v v':Value} {i:Nat} (h:LW n g w l F v w1) (hN:ON w1.heap.size w1 ((nxs l).eraseIdx i) v' w2):LW n g w (l.eraseIdx i) F v' w2:=
 ⟨by rw [Qvd];exact hN.up h.on.b h.on.lo,fun x hx=>⟨(h.rl x (Qn4 hx)).1.below hN.b,(h.rl x (Qn4 hx)).2⟩,h.o.below hN.b h.o.lt,h.gl⟩
theorem Qyl (m:Nat):mxN (fun _=>0) m=0:=by
 induction m with
 |zero=>rfl
 |succ m ih=>show max (mxN _ m) 0=0;rw [ih];rfl
theorem Qyk {c F:Nat→Nat} {n m:Nat} (h:∀s,s<m→F s=if 0<c s then dep c n s else 0):mxN F m=depM c n m:=by
 induction m with
 |zero=>rfl
 |succ m ih=>show max _ _=max _ _;rw [ih fun s hs=>h s (by omega),h m (by omega)]
theorem LP.done {c:Nat→Nat} {n nx:Nat} {l:List Ny} {F:Nat→Nat} (h:LP c n l nx F) (hl:l.length≤1):∀s,s<n→F s=if c s=0 then 0 else dep c n s:=fun s hs=>by
 by_cases h0:c s=0
 ·rw [if_pos h0,h.z s h0]
 ·rw [if_neg h0];obtain⟨x,hx,hsx⟩:=h.cov s hs (by omega)
  have:=h.fd x hx s hsx;rw [Qhd (by rw [Qpu];exact hl)]at this
  omega
theorem LP.two {c:Nat→Nat} {n nx:Nat} {l r:List Ny} {F:Nat→Nat} {a b:Ny} (h:LP c n l nx F) (hp:l.Perm (a::b::r)):a.2.2.length+b.2.2.length≤n:=by
 have nd2:((a::b::r).flatMap (·.2.2)).Nodup:=(hp.flatMap_right _).nodup_iff.1 h.nd;have nd3:((a.2.2++b.2.2)++r.flatMap (·.2.2)).Nodup:=by simpa [List.append_assoc]using nd2
 have nd4:=(List.nodup_append.1 nd3).1;have hs:∀s∈a.2.2++b.2.2,s∈List.range n:=fun s hs=>by
  rcases List.mem_append.1 hs with h1|h1
  ·exact List.mem_range.2 (h.lt a (hp.mem_iff.2 (List.mem_cons_self ..)) s h1).1
  ·exact List.mem_range.2 (h.lt b (hp.mem_iff.2 (List.mem_cons_of_mem _ (List.mem_cons_self ..))) s h1).1
 have h5:=List.Nodup.length_le_of_subset nd4 hs;rw [List.length_range,List.length_append]at h5;exact h5
theorem Qp0 {w:World} {B e size n:Nat} {v:Value} {xs:List Value} {g:Nat} (h:w.ownsRow B e size v n xs) (hg:v.ownBlock≠some g) (s:Nat) (u:Value):(w.setCell ⟨g,s,none⟩ u).ownsRow B e size v n xs:=by
 refine⟨h.1,?_⟩;rcases h.2 with h1|⟨q,cap,cur,h1,h2,h3,h4⟩
 ·exact .inl h1
 ·refine .inr ⟨q,cap,cur,h1,h2,?_,h4⟩;rw [Below.heap_setCell w ⟨g,s,none⟩ u q (fun e=>hg (by rw [h1];exact congrArg some e))]
  exact h3
structure CLW (n g:Nat) (w:World) (l:List Ny) (F:Nat→Nat) (v vB:Value) (M:List Nat) (ba bb:Nat) (Ca Cb:Array Value) (wr:World):Prop where
 lw:LW n g w l F v wr
 rb:RL wr vB M
 b1:Blk wr ba 217 Ca
 b2:Blk wr bb 217 Cb
theorem Qg6 {w:World} {g q:Nat} {Cs Ds:Array Value} (h:Blk w g 3 Cs) (h2:Blk w q 217 Ds):q≠g:=fun e=>by
 subst e;unfold Blk at h h2;rw [h]at h2;simp only [Option.some.injEq,Obj.cells.injEq]at h2;exact Qre h2.2.1
theorem CLW.put {n g:Nat} {w wr:World} {l:List Ny} {F G:Nat→Nat} {v vB:Value} {M:List Nat} {ba bb:Nat} {Ca Cb:Array Value} (h:CLW n g w l F v vB M ba bb Ca Cb wr) (hB:vB.ownBlock≠some g) {s:Nat} (hs:s<n)
  (hG:∀j,(if j=s then F s+1 else F j)=G j):CLW n g w l G v vB M ba bb Ca Cb (wr.setCell ⟨g,s,none⟩ (.int .i64 ((F s+1:Nat):Int))):=by
 have hv:v.ownBlock≠some g:=fun e=>by
  obtain⟨cur,h1⟩:=h.lw.on.type e;exact Qg6 h.lw.o h1 rfl
 refine⟨⟨⟨Qp0 h.lw.on.own hv s _,h.lw.on.b.setCell h.lw.gl _,?_⟩,fun x hx=>⟨Qp0 (h.lw.rl x hx).1 (h.lw.rl x hx).2 s _,(h.lw.rl x hx).2⟩,?_,h.lw.gl⟩,Qp0 h.rb hB s _,h.b1.far (Qg6 h.lw.o h.b1) _,h.b2.far (Qg6 h.lw.o h.b2) _⟩
 ·simp [World.setCell];exact h.lw.on.lo
 ·refine(h.lw.o.put hs _).cast_ (Qa3 fun i _=> ?_);show(if i=s then Value.int .i64 ((F s+1:Nat):Int)else Value.int .i64 ((F i:Nat):Int))=Value.int .i64 ((G i:Nat):Int);rw [←hG i];split<;>rfl
theorem Q05 {H G:Nat→Nat} {s m:Nat} (hG:∀j,(if j=s then H s+1 else H j)=G j) (hs:s<m):mxN G m=max (mxN H m) (H s+1):=by
 have lo:∀i,i≤s→mxN G i=mxN H i:=fun i=>by
  induction i with
  |zero=>intro _;rfl
  |succ i ih=>intro hi;show max _ _=max _ _;rw [ih (by omega),←hG i,if_neg (by omega)]
 induction m with
 |zero=>omega
 |succ m ih=>
  show max _ _=max (max _ _) _
  by_cases h:m=s
  ·subst h;rw [lo m Ql,←hG m,if_pos rfl];omega
  ·rw [ih (by omega),←hG m,if_neg h]
   omega
theorem Qni (F:Nat→Nat) (M:List Nat):addH F (M.take 0)=F:=funext fun s=>by unfold addH;rw [if_neg (by simp)]
theorem Qte (F:Nat→Nat) (M:List Nat) (hM:M.Nodup) (t:Nat) (ht:t<M.length):∀j,(if j=M[t]then addH F (M.take t) M[t]+1 else addH F (M.take t) j)=addH F (M.take (t+1)) j:=fun j=>by
 have e:M.take (t+1)=M.take t++[M[t]]:=by rw [List.take_succ_eq_append_getElem ht]
 have hn:M[t]∉M.take t:=fun hm=>by
  have h1:(M.take (t+1)).Nodup:=hM.sublist (List.take_sublist _ _);rw [e]at h1;exact(List.nodup_append.1 h1).2.2 _ hm _ (List.mem_singleton.2 rfl) rfl
 rw [e];unfold addH;by_cases h:j=M[t]
 ·subst h;rw [if_pos rfl,if_neg hn,if_pos (List.mem_append.2 (.inr (List.mem_singleton.2 rfl)))]
 ·rw [if_neg h];by_cases h2:j∈M.take t
  ·rw [if_pos h2,if_pos (List.mem_append.2 (.inl h2))]
  ·rw [if_neg h2,if_neg];intro h3;rcases List.mem_append.1 h3 with h4|h4
   ·exact h2 h4
   ·exact h (List.mem_singleton.1 h4)
theorem Qz7 (F:Nat→Nat) (M:List Nat) (hM:M.Nodup) (t:Nat) (ht:t<M.length):addH F (M.take t) M[t]=F M[t]:=by
 have e:M.take (t+1)=M.take t++[M[t]]:=by rw [List.take_succ_eq_append_getElem ht]
 have h1:(M.take (t+1)).Nodup:=hM.sublist (List.take_sublist _ _);rw [e]at h1;unfold addH;rw [if_neg fun hm=>(List.nodup_append.1 h1).2.2 _ hm _ (List.mem_singleton.2 rfl) rfl]
theorem Qss {o:Oper} {a:Act} {w:World} (x y:Operand) (n m r:Nat) (hr:r=max n m) (ho:o.op= .call {callee:= .builtin .max,args:=#[x,y],argTypes:=#[3,3]}) (ht:o.type=3) (hx:a.eval x= .int .i64 (n:Int)) (hy:a.eval y= .int .i64 (m:Int)):
  Qbv Tryz.prog (fun w'=>w'=w) (.int .i64 (r:Int)) ((execOp a.eval o).run Tryz.prog w):=by
 refine Qab (w:=w) ?_ rfl;simp [execOp,ho,ht,hx,hy,resolve,invoke,builtin];have e:∀at_ ty,(Builtin.max_ at_ ty #[Value.int .i64 (n:Int),.int .i64 (m:Int)]).run Tryz.prog w= .ok (.int .i64 (r:Int)) w:=fun at_ ty=>by
  simp only [Builtin.max_,Builtin.max2,List.foldlM,Sem.run_bind,Sem.run_pure,Result.andThen];subst hr
  congr 2
  split<;>omega
 rw [e];rfl
theorem LP.pair {c:Nat→Nat} {n nx:Nat} {l r:List Ny} {F:Nat→Nat} {a b:Ny} (h:LP c n l nx F) (hp:l.Perm (a::b::r)):a.1.1+b.1.1≤n*1099511627776:=by
 have h1:=h.wt;have hk:(kys l).Perm (a.1::b.1::kys r):=hp.map _;rw [Qkh hk]at h1;have h2:sumW (a.1::b.1::kys r)=a.1.1+(b.1.1+sumW (kys r)):=rfl;generalize n*1099511627776=K at*;omega
theorem PN.form {B:Nat} {w0 w:World} {l:List Ny} {v:Value} (h:PN B w0 l v w):∃p c,v= .slice p l.length c:=by
 rcases h.on.own.2 with⟨h1,h2⟩|⟨gl,cap,cur,h1,_⟩
 ·exact⟨none,0,by rw [Qdd]at h2;rw [h2];exact h1⟩
 ·exact⟨_,_,by rw [Qdd]at h1;exact h1⟩
def Q2q:Value→Nat
 | .slice _ n _=>n
 |_=>0
theorem Qy8 (a b:List Kd):sumW (a++b)=sumW a+sumW b:=by
 induction a with
 |nil=>exact(Nat.zero_add _).symm
 |cons x a ih=>show x.1+sumW (a++b)=x.1+sumW a+sumW b;rw [ih,Nat.add_assoc]
theorem Qy9 (c:Nat→Nat) (n K:Nat) (hc:∀i,i<n→c i≤K):∀m,m≤n→sumW (nds c m)≤m*K:=by
 intro m hm
 induction m with
 |zero=>exact Nat.zero_le _
 |succ m ih=>
  have h1:=ih (by omega)
  have h2:=hc m (by omega)
  show sumW (nds c m++_)≤_
  rw [Qy8,Nat.succ_mul];split
  ·exact Nat.add_le_add h1 h2
  ·exact Nat.le_trans h1 (Nat.le_add_right _ _)
theorem P1.lp {c:Nat→Nat} {n:Nat} {w wr:World} {l:List Ny} {v:Value} (h:P1 c n w l v wr) (hc:∀i,i<n→c i≤1099511627776):LP c n l n (fun _=>0):=by
 have hm:∀x∈l,x.1.2<n∧0<c x.1.2:=fun x hx=>by
  have:=Quz hx;rw [h.ks]at this;exact⟨(Qbw.1 this).1,(Qbw.1 this).2.1⟩
 have hs:=Qy9 c n 1099511627776 hc;refine⟨by rw [h.ks];exact Qhi c n,?_,?_,?_,?_,fun _ _=>rfl,?_,by rw [h.ks];exact hs n Ql,fun x hx=>by rw [h.sy x hx];exact List.cons_ne_nil _ _⟩
 ·have e:l.flatMap (·.2.2)=(kys l).map (·.2):=by
   have:∀m:List Ny,(∀x∈m,x.2.2=[x.1.2])→m.flatMap (·.2.2)=(kys m).map (·.2):=fun m=>by
    induction m with
    |nil=>intro _;rfl
    |cons x m ih=>
     intro hx;show x.2.2++m.flatMap (·.2.2)=x.1.2::(kys m).map (·.2);rw [hx x (List.mem_cons_self ..),ih fun y hy=>hx y (List.mem_cons_of_mem _ hy)];rfl
   exact this l h.sy
  rw [e,h.ks];exact(Qhi c n).1
 ·intro x hx s hs2;rw [h.sy x hx]at hs2;rw [List.mem_singleton.1 hs2];exact hm x hx
 ·intro s hs2 hcs;have:(c s,s)∈kys l:=by rw [h.ks];exact Qbw.2 ⟨hs2,hcs,rfl⟩
  obtain⟨x,hx,e⟩:=List.mem_map.1 this;refine⟨x,hx,?_⟩;rw [h.sy x hx,e];exact List.mem_singleton.2 rfl
 ·intro x hx s hs2;rw [h.sy x hx]at hs2;rw [List.mem_singleton.1 hs2,h.ks,Nat.zero_add];rfl
 ·have:=h.len;omega
theorem Qmv (p:Option Addr) (n cap:Nat) (f:Nat→Int) (w:World) (h:IS p n cap f w) (hn:n≤300) (hc:∀i,i<n→0≤f i∧f i≤1099511627776):
  Calls Tryz.prog 125 #[.slice p n cap] w fun e w'=>∃g,e= .returned (.tuple #[.slice (some ⟨g,0,none⟩) n n,.int .i64 (depM (toL f) n n:Int)])∧Blk w' g 3 (rI n fun i=>(lenO (toL f) n i:Int))∧w.heap.size≤g∧Below w.heap.size w w':=by
 have HC:=Qh hc;obtain⟨c,hc0⟩:∃c,c=toL f:=⟨_,rfl⟩;rw [←hc0];have HCF:=Qh hc0;clear hc hc0;go_enter Tryz.func125,Tryz.ntmps125;go_wp2_with fail;go_loopw [4,5] (fun v i wr=>∃(k:Nat) (l:List Ny),k≤n∧i= .int .i64 (k:Int)∧P1 c k w l v wr) (fun _ i _=>n-(intOf i).toNat)
 case atStart=>exact⟨0,[],by omega,rfl,⟨⟨ON.nil Qb Ql,fun x hx=>by cases hx⟩,rfl,fun x hx=>by cases hx⟩⟩
 case round=>
  obtain⟨k,l,hk,rfl,hr⟩:=hrel;by_cases hlt:k<n
  ·cases p with
   |none=>have:=(h.nil_ rfl).1;omega
   |some a=>
    have c0:=(h.below hr.pn.on.b).cell a rfl k hlt;have hv:=HC.out k hlt;obtain⟨W,hW⟩:=Int.eq_ofNat_of_zero_le hv.1;have hcw:c k=W:=by rw [HCF.out];unfold toL;omega
    rw [hW]at c0;by_cases hz:W=0
    ·have hs:=hr.skip (by omega)
     subst hz;clear hv hW hcw hr;go_wp2_with fail;go_roundw
     case rel=>exact⟨k+1,l,by omega,by go_num,hs⟩
     case measure=>simp [intOf];omega
    ·have hpos:(0:Int)<(W:Int):=by omega
     have hp1:=hr.pn.below ((Below.refl _ wr).alloc Ql (.cells #[.int .i64 (k:Int)] 3));have hR1:=Q10 wr k;have hll:l.length≤1000:=by have:=hr.len;omega
     have HM:=Qh (fun sv v' w2=>hr.more (v':=v') (sv:=sv) (w2:=w2) (by omega))
     rw [hcw]at HM;clear hv hW hcw hr hz;go_wp2_with (refine Qku rfl (.tmp 25) (.tmp 34) rfl rfl hp1 ((W,k),.slice (some ⟨wr.heap.size,0,none⟩) 1 1,[k]) hR1 (by show Value.slice (some ⟨wr.heap.size+1,0,none⟩) 1 1=_;simp) hll ?_;intro v2 w2 hP hG)
     go_roundw
     case rel=>exact⟨k+1,_,by omega,by go_num,HM.out _ _ _ hP⟩
     case measure=>simp [intOf];omega
  ·obtain rfl:k=n:=by omega
   have hmk:=Qge k (by omega) wr
   have hll:=hr.len;obtain⟨g,hg⟩:∃g,g=wr.heap.size:=⟨_,rfl⟩;have HGE:=Qh hg;have hal:Below wr.heap.size wr (wr.alloc (.cells (rI k fun _=>0) 3)):=Qb.alloc Ql _;have hpn:=hr.pn.below hal;have HO0:Hid (Blk (wr.alloc (.cells (rI k fun _=>0) 3)) g 3 (rI k fun i=>((fun _=>0:Nat→Nat) i:Int))):=Qh (by rw [hg];exact Blk.new wr _ _)
   have HGL:Hid (w.heap.size≤g):=Qh (by rw [hg];exact hr.pn.on.lo)
   have hR0:∀x∈l,RL (wr.alloc (.cells (rI k fun _=>0) 3)) x.2.1 x.2.2∧x.2.1.ownBlock≠some g:=fun x hx=>⟨hpn.rl x hx,fun e=>by
    obtain⟨_,_,h2⟩:=(hr.pn.rl x hx).lt e;omega⟩
   have HLP:=Qh (hr.lp fun i hi=>by have:=HC.out i hi;rw [HCF.out];unfold toL;omega)
   have HKS:=Qh hr.ks;have hW0:LW k g w l (fun _=>0) u4 (wr.alloc (.cells (rI k fun _=>0) 3)):=⟨hpn.on,hR0,HO0.out,HGL.out⟩;by_cases hl1:l.length=1
   ·obtain⟨y,rfl⟩:∃y,l=[y]:=by
     match l,hl1 with
     |[y],_=>exact⟨y,rfl⟩
    obtain⟨gl,cl,hv,_,_,_,hrb⟩:=hW0.on.rb (by simp [nxs])
    have hv2:u4= .slice (some ⟨gl,0,none⟩) 1 cl:=hv;subst hv2;obtain⟨⟨W,s⟩,sv,L⟩:=y;have hks:nds c k=[(W,s)]:=HKS.out.symm;have hmem:(W,s)∈nds c k:=by rw [hks];exact List.mem_singleton.2 rfl
    obtain⟨hsk,hsc,_⟩:=Qbw.1 hmem;have c1:(wr.alloc (.cells (rI k fun _=>0) 3)).cell? ⟨gl,1,none⟩=some (.int .i64 (s:Int)):=hrb.c 1 (by simp [nxs])
    have hsk2:s<k:=hsk;have hski:(s:Int)<(k:Int):=by omega
    have HX:Hid (depM c k k=0):=Qh (Nat.le_zero.1 (Qh3.2 fun i _ _=>by show hD (nds c k) k i≤0;rw [Qhd (by rw [hks];exact Ql)];exact Ql))
    have e1:=HO0.out.at_ hsk2;have f1:=HO0.out.frozen s;have HB9:Hid (Blk ((wr.alloc (.cells (rI k fun _=>0) 3)).setCell ⟨g,s,none⟩ (.int .i64 1)) g 3 (rI k fun i=>(lenO c k i:Int))):=Qh ((HO0.out.put hsk2 (.int .i64 1)).cast_ (Qa3 fun i hi=>by
     show(if i=s then Value.int .i64 1 else Value.int .i64 ((0:Nat):Int))=Value.int .i64 ((lenO c k i:Nat):Int)
     unfold lenO;by_cases h0:c i=0
     ·have h3:i≠s:=fun e=>by subst e;exact absurd hsc (by show¬0<c i;omega)
      rw [if_neg h3,if_pos h0]
     ·have h3:i=s:=by
       have:(c i,i)∈nds c k:=Qbw.2 ⟨hi,by show 0<c i;omega,rfl⟩
       rw [hks]at this;have:=List.mem_singleton.1 this;exact congrArg Prod.snd this
      rw [if_pos h3,if_neg h0,if_pos (by rw [hks];rfl)];rfl))
    have HL9:Hid (Below w.heap.size w ((wr.alloc (.cells (rI k fun _=>0) 3)).setCell ⟨g,s,none⟩ (.int .i64 1))):=Qh (hW0.on.b.setCell HGL.out _);rw [←hg]at hmk;clear hal hpn hR0 HC hr hW0 hrb hv hl1 hll hmem hsk hsc hks HO0 HLP HKS HGE hg;go_wp2_with fail;go_loopw [4,7,8] (fun v nx m wq=>v= .slice (some ⟨gl,0,none⟩) 1 cl∧nx= .int .i64 (k:Int)∧m= .int .i64 0∧Hid (Blk wq g 3 (rI k fun i=>(lenO c k i:Int)))∧Hid (Below w.heap.size w wq)) (fun _ _ _ _=>0)
    case atStart=>exact⟨rfl,rfl,rfl,HB9,HL9⟩
    case round=>
     obtain⟨rfl,rfl,rfl,HB,HL⟩:=hrel;go_wp2_with fail;go_ret2;rw [HX.out];exact⟨g,rfl,HB.out,HGL.out,HL.out⟩
   ·rw [←hg]at hmk;clear hal hpn hR0 HC;have hv:u4= .slice none 0 0∧l.length=0∨∃gl cap,u4= .slice (some ⟨gl,0,none⟩) l.length cap:=by
     rcases hW0.on.own.2 with⟨h1,h2⟩|⟨gl,cap,cur,h1,_⟩
     ·exact .inl ⟨h1,by rw [Qdd]at h2;exact h2⟩
     ·exact .inr ⟨gl,cap,by rw [Qdd]at h1;exact h1⟩
    have hv2:∃pl cl,u4= .slice pl l.length cl:=by
     rcases hv with⟨h1,h2⟩|⟨gl,cl,h1⟩
     ·exact⟨none,0,by rw [h2];exact h1⟩
     ·exact⟨_,cl,h1⟩
    obtain⟨pl,cl,rfl⟩:=hv2;have hl1i:¬(l.length:Int)=1:=by omega
    clear hv hr hg;go_wp2_with fail;have HN1:Hid ((nds c k).length≠1):=Qh (by rw [←HKS.out,Qpu];exact hl1)
    clear hl1i hl1 hmk HO0 hll HKS HGE;go_loopw [4,7,8] (fun v nx m wr=>∃(l:List Ny) (N:Nat) (F:Nat→Nat),nx= .int .i64 (N:Int)∧m= .int .i64 (mxN F k:Int)∧Hid (LP c k l N F)∧Hid (LW k g w l F v wr)∧∃pl cl,v= .slice pl l.length cl) (fun v _ _ _=>Q2q v)
    case atStart=>exact⟨l,k,fun _=>0,rfl,by rw [Qyl];rfl,HLP,Qh hW0,pl,cl,rfl⟩
    case round=>
     obtain⟨l,N,F,rfl,rfl,HP,HW,pl,cl,rfl⟩:=hrel;by_cases hlt:1<l.length
     ·have hli:(1:Int)<(l.length:Int):=by omega
      have hnea:nxs l≠[]:=fun e=>by have:=Qdd l;rw [e]at this;simp at this;omega
      obtain⟨gl,cl2,hva,_,hcapa,hcma,hrba⟩:=HW.out.on.rb hnea;have hza:=Qdd l;rw [hza]at hva hcapa;cases hva;obtain⟨hia,hpaa,hlaa⟩:=Qrj HP.out.ok (show 0<l.length by omega)
      have CLa:=Qh (Qj4 gl l.length cl (keyL (nxs l)) (symL (nxs l)) wr (hza▸hrba.nb) (by have:=HP.out.nb;omega) (by omega))
      obtain⟨i,hi0a⟩:∃i,i=lsI (keyL (nxs l)) l.length:=⟨_,rfl⟩;rw [←hi0a]at CLa;simp only [←hi0a]at hia hpaa hlaa;have HPAa:=Qh hpaa;have HLAa:=Qh hlaa;have hixa:(nxs l)[i]? =some ((l[i]).1,(l[i]).2.1):=by unfold nxs;rw [List.getElem?_map,List.getElem?_eq_getElem hia];rfl
      have HIXa:=Qh (Qfq (nxs l) i _ hixa);obtain⟨a,hae⟩:∃a,a=l[i]:=⟨_,rfl⟩;rw [←hae]at HPAa HLAa HIXa;have hmema:a∈l:=by rw [hae];exact List.getElem_mem hia
      have HRa:=Qh (HW.out.rl a hmema);have hl3a:l.length≤1000:=by have:=HP.out.nb;omega
      have H1Ca:Hid (∀y∈nxs l,y.2.oneCell'=true):=Qh fun y hy=>by
       obtain⟨z,hz2,rfl⟩:=List.mem_map.1 hy;exact(HW.out.rl z hz2).1.cellOk
      clear hi0a hpaa hlaa hixa hae hnea;obtain⟨⟨Wa,Na⟩,sva,La⟩:=a;obtain⟨pa,ca,rfl⟩:∃pa ca,sva= .slice pa La.length ca:=HRa.out.1.form;go_wp2_with fail;refine(CLa.out).mono ?_;rintro e w1 ⟨rfl,b1a⟩;have hrb1a:=hrba.below b1a;have HW1a:=Qh (HW.out.below b1a);have q0a:w1.cell? ⟨gl,i*3,none⟩=some (.int .i64 (Wa:Int)):=(hrb1a.c _ (by omega)).trans HIXa.out.1
      have q1a:w1.cell? ⟨gl,i*3+1,none⟩=some (.int .i64 (Na:Int)):=(hrb1a.c _ (by omega)).trans HIXa.out.2.1
      have q2a:w1.cell? ⟨gl,i*3+2,none⟩=some (.slice pa La.length ca):=(hrb1a.c _ (by omega)).trans HIXa.out.2.2
      obtain⟨ba,hba0⟩:∃ba,ba=w1.heap.size:=⟨_,rfl⟩;have HbaE:=Qh hba0;have hbl1a:Below w1.heap.size w1 (w1.alloc (.cells #[.int .i64 (Wa:Int),.int .i64 (Na:Int),.slice pa La.length ca] 217)):=Qb.alloc Ql _;have HBa:Hid (Blk (w1.alloc (.cells #[.int .i64 (Wa:Int),.int .i64 (Na:Int),.slice pa La.length ca] 217)) ba 217 #[.int .i64 (Wa:Int),.int .i64 (Na:Int),.slice pa La.length ca]):=Qh (by rw [hba0];exact Blk.new w1 _ _)
      have HW2a:=Qh (HW1a.out.below hbl1a);have CWa:=Qh (fun w' hrb hcm=>Qhn gl cl i (nxs l) w' hrb (by rw [hza];exact hcapa) hcm H1Ca.out (by rw [hza];exact hl3a) (by rw [hza];exact hia))
      rw [hza]at CWa;have HRB2a:=Qh (hrb1a.below hbl1a);have HCMa:Hid (cl≤9223372036854775807):=Qh (by unfold maxLen at hcma;omega)
      have HBBa:Hid (Below wr.heap.size wr (w1.alloc (.cells #[.int .i64 (Wa:Int),.int .i64 (Na:Int),.slice pa La.length ca] 217))):=Qh (b1a.trans (hbl1a.mono b1a.size));clear CLa hrba b1a HW HW1a hbl1a hcma hba0;go_wp2_with fail;refine(CWa.out _ HRB2a.out HCMa.out).mono ?_;rintro e w3 ⟨v1,rfl,hNa⟩;rw [←HbaE.out];obtain⟨l1,hl1⟩:∃l1,l1=l.eraseIdx i:=⟨_,rfl⟩;have HW3a:Hid (LW k g w l1 F v1 w3):=Qh (by rw [hl1];exact HW2a.out.without hNa)
      have HBB3a:Hid (Below wr.heap.size wr w3):=Qh (HBBa.out.trans (hNa.b.mono HBBa.out.size));have HB3a:Hid (Blk w3 ba 217 #[.int .i64 (Wa:Int),.int .i64 (Na:Int),.slice pa La.length ca]):=Qh (HBa.out.below hNa.b HBa.out.lt);rw [←hl1]at HPAa HLAa;have hlenl1:l1.length+1=l.length:=by have:=HPAa.out.length_eq;simp at this;omega
      clear CWa HRB2a HCMa HBBa HBa HW2a hNa q0a q1a q2a hrb1a HIXa H1Ca hcapa hl1 hia hl3a hza;have HOK1:Hid (okK (kys l1) N):=Qh (Qyp (Qbj (HPAa.out.map _) HP.out.ok));have HR1a:Hid (RL w3 (.slice pa La.length ca) La∧(Value.slice pa La.length ca).ownBlock≠some g):=Qh ⟨HRa.out.1.below HBB3a.out,HRa.out.2⟩;obtain⟨pm,cm,hvm⟩:∃pm cm,v1= .slice pm l1.length cm:=by
       rcases HW3a.out.on.own.2 with⟨h1,h2⟩|⟨gl,cap,cur,h1,_⟩
       ·exact⟨none,0,by rw [Qdd]at h2;rw [h2];exact h1⟩
       ·exact⟨_,_,by rw [Qdd]at h1;exact h1⟩
      subst hvm;clear HRa HBB3a;have hneb:nxs l1≠[]:=fun e=>by have:=Qdd l1;rw [e]at this;simp at this;omega
      obtain⟨gm,cm2,hvb,_,hcapb,hcmb,hrbb⟩:=HW3a.out.on.rb hneb;have hzb:=Qdd l1;rw [hzb]at hvb hcapb;cases hvb;obtain⟨hib,hpab,hlab⟩:=Qrj HOK1.out (show 0<l1.length by omega)
      have CLb:=Qh (Qj4 gm l1.length cm (keyL (nxs l1)) (symL (nxs l1)) w3 (hzb▸hrbb.nb) (by have:=HP.out.nb;omega) (by omega))
      obtain⟨j,hi0b⟩:∃j,j=lsI (keyL (nxs l1)) l1.length:=⟨_,rfl⟩;rw [←hi0b]at CLb;simp only [←hi0b]at hib hpab hlab;have HPAb:=Qh hpab;have HLAb:=Qh hlab;have hixb:(nxs l1)[j]? =some ((l1[j]).1,(l1[j]).2.1):=by unfold nxs;rw [List.getElem?_map,List.getElem?_eq_getElem hib];rfl
      have HIXb:=Qh (Qfq (nxs l1) j _ hixb);obtain⟨b,hbe⟩:∃b,b=l1[j]:=⟨_,rfl⟩;rw [←hbe]at HPAb HLAb HIXb;have hmemb:b∈l1:=by rw [hbe];exact List.getElem_mem hib
      have HRb:=Qh (HW3a.out.rl b hmemb);have hl3b:l1.length≤1000:=by have:=HP.out.nb;omega
      have H1Cb:Hid (∀y∈nxs l1,y.2.oneCell'=true):=Qh fun y hy=>by
       obtain⟨z,hz2,rfl⟩:=List.mem_map.1 hy;exact(HW3a.out.rl z hz2).1.cellOk
      clear hi0b hpab hlab hixb hbe hneb;obtain⟨⟨Wb,Nb⟩,svb,Lb⟩:=b;obtain⟨pb,cb,rfl⟩:∃pb cb,svb= .slice pb Lb.length cb:=HRb.out.1.form;go_wp2_with fail;refine(CLb.out).mono ?_;rintro e w4 ⟨rfl,b1b⟩;have hrb1b:=hrbb.below b1b;have HW1b:=Qh (HW3a.out.below b1b);have q0b:w4.cell? ⟨gm,j*3,none⟩=some (.int .i64 (Wb:Int)):=(hrb1b.c _ (by omega)).trans HIXb.out.1
      have q1b:w4.cell? ⟨gm,j*3+1,none⟩=some (.int .i64 (Nb:Int)):=(hrb1b.c _ (by omega)).trans HIXb.out.2.1
      have q2b:w4.cell? ⟨gm,j*3+2,none⟩=some (.slice pb Lb.length cb):=(hrb1b.c _ (by omega)).trans HIXb.out.2.2
      obtain⟨bb,hbb0⟩:∃bb,bb=w4.heap.size:=⟨_,rfl⟩;have HbbE:=Qh hbb0;have hbl1b:Below w4.heap.size w4 (w4.alloc (.cells #[.int .i64 (Wb:Int),.int .i64 (Nb:Int),.slice pb Lb.length cb] 217)):=Qb.alloc Ql _;have HBb:Hid (Blk (w4.alloc (.cells #[.int .i64 (Wb:Int),.int .i64 (Nb:Int),.slice pb Lb.length cb] 217)) bb 217 #[.int .i64 (Wb:Int),.int .i64 (Nb:Int),.slice pb Lb.length cb]):=Qh (by rw [hbb0];exact Blk.new w4 _ _)
      have HW2b:=Qh (HW1b.out.below hbl1b);have CWb:=Qh (fun w' hrb hcm=>Qhn gm cm j (nxs l1) w' hrb (by rw [hzb];exact hcapb) hcm H1Cb.out (by rw [hzb];exact hl3b) (by rw [hzb];exact hib))
      rw [hzb]at CWb;have HRB2b:=Qh (hrb1b.below hbl1b);have HCMb:Hid (cm≤9223372036854775807):=Qh (by unfold maxLen at hcmb;omega)
      have HBBb:Hid (Below w3.heap.size w3 (w4.alloc (.cells #[.int .i64 (Wb:Int),.int .i64 (Nb:Int),.slice pb Lb.length cb] 217))):=Qh (b1b.trans (hbl1b.mono b1b.size));clear CLb hrbb b1b HW3a HW1b hbl1b hcmb hbb0;go_wp2_with fail;refine(CWb.out _ HRB2b.out HCMb.out).mono ?_;rintro e w6 ⟨v2,rfl,hNb⟩;rw [←HbbE.out];obtain⟨l2,hl2⟩:∃l2,l2=l1.eraseIdx j:=⟨_,rfl⟩;have HW3b:Hid (LW k g w l2 F v2 w6):=Qh (by rw [hl2];exact HW2b.out.without hNb)
      have HBB3b:Hid (Below w3.heap.size w3 w6):=Qh (HBBb.out.trans (hNb.b.mono HBBb.out.size));have HB3b:Hid (Blk w6 bb 217 #[.int .i64 (Wb:Int),.int .i64 (Nb:Int),.slice pb Lb.length cb]):=Qh (HBb.out.below hNb.b HBb.out.lt);rw [←hl2]at HPAb HLAb;have hlenl2:l2.length+1=l1.length:=by have:=HPAb.out.length_eq;simp at this;omega
      have HB6a:Hid (Blk w6 ba 217 #[.int .i64 (Wa:Int),.int .i64 (Na:Int),.slice pa La.length ca]):=Qh (HB3a.out.below HBB3b.out HB3a.out.lt);have HR6a:Hid (RL w6 (.slice pa La.length ca) La):=Qh (HR1a.out.1.below HBB3b.out);have HR6b:Hid (RL w6 (.slice pb Lb.length cb) Lb):=Qh (HRb.out.1.below HBB3b.out);clear CWb HRB2b HCMb HBBb HBb HW2b hNb q0b q1b q2b hrb1b HIXb H1Cb hcapb hl2 hib hl3b hzb;go_wp2_with fail;have HNA:Hid (La≠[]):=Qh (HP.out.ne _ hmema);have HNB:Hid (Lb≠[]):=Qh (HP.out.ne _ (HPAa.out.mem_iff.2 (List.mem_cons_of_mem _ hmemb)));have HLN:Hid (La.length+Lb.length≤k):=Qh (HP.out.two (HPAa.out.trans (HPAb.out.cons _)));obtain⟨vA,wA,rA,oA,gA⟩:=Qok w6.drew w6.heap.size (.slice none 0 0) (.slice pa La.length ca) [] La ⟨rfl,.inl ⟨rfl,rfl⟩⟩ (HR6a.out.block fun _ _=>rfl) HNA.out Ql (by have:=HLN.out;simp;omega) 92
      rw [List.nil_append]at oA;have bA:Below w6.heap.size w6 wA:=(Below.refl _ w6).drew.grown gA Ql (fun k e=>by cases e)
      obtain⟨vB,wB,rB,oB,gB⟩:=Qok wA w6.heap.size vA (.slice pb Lb.length cb) La Lb oA (HR6b.out.below bA) HNB.out bA.size (by have:=HLN.out;omega) 92
      have bB:Below w6.heap.size w6 wB:=bA.grown gB bA.size (Qrq oA);have HrA:=Qh rA;have HrB:=Qh rB;obtain⟨T,hT0⟩:∃T:Bool→Bool→World→Prop,T=fun f1 f2 wx=>(f1=false∧f2=false∧wx=w6.drew)∨(f1=true∧f2=false∧wx=wA)∨(f1=true∧f2=true∧wx=wB):=⟨_,rfl⟩;have HTA:Hid (∀f1 f2 wx,T f1 f2 wx→wx.cell? ⟨ba,2,none⟩=some (.slice pa La.length ca)):=Qh (by
       rw [hT0];rintro f1 f2 wx (⟨_,_,rfl⟩|⟨_,_,rfl⟩|⟨_,_,rfl⟩)
       ·exact HB6a.out.cell 2
       ·exact(HB6a.out.below bA HB6a.out.lt).cell 2
       ·exact(HB6a.out.below bB HB6a.out.lt).cell 2)
      have HTB:Hid (∀f1 f2 wx,T f1 f2 wx→wx.cell? ⟨bb,2,none⟩=some (.slice pb Lb.length cb)):=Qh (by
       rw [hT0];rintro f1 f2 wx (⟨_,_,rfl⟩|⟨_,_,rfl⟩|⟨_,_,rfl⟩)
       ·exact HB3b.out.cell 2
       ·exact(HB3b.out.below bA HB3b.out.lt).cell 2
       ·exact(HB3b.out.below bB HB3b.out.lt).cell 2)
      have HT0:Hid (T false false w6.drew):=Qh (by rw [hT0];exact .inl ⟨rfl,rfl,rfl⟩)
      have HTS:Hid (∀f2 wx,T false f2 wx→wx=w6.drew):=Qh (by
       rw [hT0];rintro f2 wx (⟨_,_,h⟩|⟨h,_⟩|⟨h,_⟩)
       ·exact h
       ·cases h
       ·cases h)
      have HTS2:Hid (∀f2 wx,T false f2 wx→T true f2 wA):=Qh (by
       rw [hT0];rintro f2 wx (⟨_,h2,h⟩|⟨h,_⟩|⟨h,_⟩)
       ·exact .inr (.inl ⟨rfl,h2,rfl⟩)
       ·cases h
       ·cases h)
      have HTU:Hid (∀wx,T true false wx→wx=wA):=Qh (by
       rw [hT0];rintro wx (⟨h,_⟩|⟨_,_,h⟩|⟨_,h,_⟩)
       ·cases h
       ·exact h
       ·cases h)
      have HTV:Hid (T true true wB):=Qh (by rw [hT0];exact .inr (.inr ⟨rfl,rfl,rfl⟩))
      have HTW:Hid (∀wx,T true true wx→wx=wB):=Qh (by
       rw [hT0];rintro wx (⟨h,_⟩|⟨_,h,_⟩|⟨_,_,h⟩)
       ·cases h
       ·cases h
       ·exact h)
      clear hT0 rA rB;refine Qad (Two 2 5 T) (by kernel_rfl) HT0.out ?_
      refine tT (i:=0) (v:= .pointer (some ⟨ba,2,none⟩)) rfl rfl ?_;simp only [pu];refine tL (i:=1) (v:= .slice pa La.length ca) rfl rfl (fun f1 f2 wx hT=> ?_) ?_
      ·have k:=HTA.out f1 f2 wx hT;go_simp
      simp only [pu];refine Qaa (i:=2) (v:=vA) rfl (Qa5 (by decide) rfl (fun f2 wx hT=> ?_)) ?_
      ·exact Qhg (.const (.slice none 0 0)) (.tmp 72) 92 rfl rfl rfl (show(Builtin.append_ #[92,92] 92 #[.slice none 0 0,.slice pa La.length ca]).run Tryz.prog wx= .ok vA wA by rw [HTS.out f2 wx hT];exact HrA.out) (HTS2.out f2 wx hT)
      simp only [pu];refine tT (i:=3) (v:= .pointer (some ⟨bb,2,none⟩)) rfl rfl ?_;simp only [pu];refine tL (i:=4) (v:= .slice pb Lb.length cb) rfl rfl (fun f1 f2 wx hT=> ?_) ?_
      ·have k:=HTB.out f1 f2 wx hT;go_simp
      simp only [pu];refine Qaa (i:=5) (v:=vB) rfl (Qqo (by decide) rfl (by kernel_rfl) rfl (fun wx hT=> ?_)) ?_
      ·exact Qhg (.tmp 73) (.tmp 75) 92 rfl rfl rfl (show(Builtin.append_ #[92,92] 92 #[vA,.slice pb Lb.length cb]).run Tryz.prog wx= .ok vB wB by rw [HTU.out wx hT];exact HrB.out) HTV.out
      simp only [pu];refine tA (i:=6) rfl rfl ?_;simp only [pu];refine Qag (by kernel_rfl) (fun w7 (hw7:T true true w7)=> ?_) _
      obtain rfl:=(HTW.out w7 hw7).symm;go_wp2_with fail;obtain⟨M,hM⟩:∃M,M=La++Lb:=⟨_,rfl⟩;rw [←hM]at oB;have HMM:=Qh hM;have hMn:M.Nodup:=by
       have nd2:=((HPAa.out.trans (HPAb.out.cons _)).flatMap_right (·.2.2)).nodup_iff.1 HP.out.nd;have nd3:((La++Lb)++l2.flatMap (·.2.2)).Nodup:=by simpa [List.append_assoc]using nd2
       rw [hM];exact(List.nodup_append.1 nd3).1
      have hMm:∀s∈M,s<k∧F s≤300:=fun s hs=>by
       have hx:∃x∈l,s∈x.2.2:=by
        rw [hM]at hs;rcases List.mem_append.1 hs with h1|h1
        ·exact⟨_,hmema,h1⟩
        ·exact⟨_,HPAa.out.mem_iff.2 (List.mem_cons_of_mem _ hmemb),h1⟩
       obtain⟨x,hx,hsx⟩:=hx;have h1:=HP.out.lt x hx s hsx;have h2:=HP.out.fd x hx s hsx;have h3:=Q3i k (nds c k) k s (by have:=Qfw c k;omega) (Qhi c k)
       exact⟨h1.1,by show F s≤300;have:dep c k s≤k:=h3;omega⟩
      have hMl:M.length≤k:=by rw [hM,List.length_append];exact HLN.out
      have HMN:=Qh hMn;have HMH:=Qh hMm;have hgB:vB.ownBlock≠some g:=fun e=>by
       have h1:=Qrq oB g e;have h2:=HW3b.out.o.lt;omega
      obtain⟨pB,cB,hvB⟩:∃pB cB,vB= .slice pB M.length cB:=by
       rcases oB.2 with⟨h1,h2⟩|⟨gl,cap,cur,h1,_⟩
       ·exact⟨none,0,by rw [h2];exact h1⟩
       ·exact⟨_,_,h1⟩
      have HGB:=Qh hgB;have HRM:Hid (RL wB vB M):=Qh ⟨oB.1,by
       rcases oB.2 with h1|⟨q,cap,cur,h1,_,h3⟩
       ·exact .inl h1
       ·exact .inr ⟨q,cap,cur,h1,Nat.zero_le _,h3⟩⟩
      subst hvB;have HCL:Hid (CLW k g w l2 (addH F (M.take 0)) v2 (.slice pB M.length cB) M ba bb #[.int .i64 (Wa:Int),.int .i64 (Na:Int),.slice pa La.length ca] #[.int .i64 (Wb:Int),.int .i64 (Nb:Int),.slice pb Lb.length cb] wB):=
       Qh (by rw [Qni];exact⟨HW3b.out.below bB,HRM.out,HB6a.out.below bB HB6a.out.lt,HB3b.out.below bB HB3b.out.lt⟩)
      have HLW6:=Qh HW3b.out.on.lo;obtain⟨pc,cc,hvc⟩:∃pc cc,v2= .slice pc l2.length cc:=by
       rcases HW3b.out.on.own.2 with⟨h1,h2⟩|⟨gl,cap,cur,h1,_⟩
       ·exact⟨none,0,by rw [Qdd]at h2;rw [h2];exact h1⟩
       ·exact⟨_,_,by rw [Qdd]at h1;exact h1⟩
      subst hvc;clear hM hMn hMm hgB oA oB gA gB bA bB HrA HrB HTA HTB HT0 HTS HTS2 HTU HTV HTW hw7 HRM HW3b HB6a HB3b HNA HNB;go_loopw [8,13] (fun m i wr=>∃t:Nat,t≤M.length∧i= .int .i64 (t:Int)∧m= .int .i64 (mxN (addH F (M.take t)) k:Int)∧Hid (CLW k g w l2 (addH F (M.take t)) (.slice pc l2.length cc) (.slice pB M.length cB) M ba bb #[.int .i64 (Wa:Int),.int .i64 (Na:Int),.slice pa La.length ca] #[.int .i64 (Wb:Int),.int .i64 (Nb:Int),.slice pb Lb.length cb] wr)) (fun _ i _=>M.length-(intOf i).toNat)
      case atStart=>exact⟨0,by omega,rfl,by rw [Qni],HCL⟩
      case round=>
       obtain⟨t,ht,rfl,rfl,HC⟩:=hrel;by_cases hlt2:t<M.length
       ·obtain⟨q,cq,cur,hvq,hcur,hct⟩:∃q cq cur,(Value.slice pB M.length cB)= .slice (some ⟨q,0,none⟩) M.length cq∧wr.heap[q]? =some (.cells cur 3 (0,0))∧cur.toList.take (M.length*1)=M.map fun(i:Nat)=>Value.int .i64 (i:Int):=by
         rcases HC.out.rb.2 with⟨_,h2⟩|⟨q,cap,cur,h1,_,h3,_,_,_,h7⟩
         ·omega
         ·exact⟨q,cap,cur,h1,h3,h7⟩
        cases hvq
        obtain⟨s,hs⟩:∃s,s=M[t]:=⟨_,rfl⟩;have hsM:s∈M:=by rw [hs];exact List.getElem_mem hlt2
        obtain⟨hsk,hs3⟩:=HMH.out s hsM;have hat:=Qz7 F M HMN.out t hlt2;have HNX:=Qh (Qte F M HMN.out t hlt2);rw [←hs]at hat HNX;obtain⟨H,hH⟩:∃H,H=addH F (M.take t):=⟨_,rfl⟩;rw [←hH]at hat HNX HC⊢;obtain⟨G,hG⟩:∃G,G=addH F (M.take (t+1)):=⟨_,rfl⟩;rw [←hG]at HNX;have HGE2:=Qh hG;have HK:=Qh (HC.out.put HGB.out hsk HNX.out);have HX:=Qh (Q05 HNX.out hsk);have d0:∀w2:World,w2.heap[q]? =some (.cells cur 3 (0,0))→w2.cell? ⟨q,t,none⟩=some (.int .i64 (s:Int)):=fun w2 h2=>by
         rw [cell_of_row w2 q t cur _ (0,0) h2];have:(cur.toList.take (M.length*1))[t]? =some (.int .i64 (s:Int)):=by rw [hct,List.getElem?_map,List.getElem?_eq_getElem hlt2,hs];rfl
         rw [List.getElem?_take,if_pos (by omega)]at this
         simpa using this
        have e0:=d0 wr hcur;have e1:wr.cell? ⟨g,s,none⟩=some (.int .i64 ((H s:Nat):Int)):=HC.out.lw.o.at_ hsk;have e2:=HC.out.lw.o.frozen s;obtain⟨x,hx⟩:∃x,x=H s:=⟨_,rfl⟩;have hx3:x≤300:=by rw [hx,hat];exact hs3
        rw [←hx]at e1 HK HX;have hne:q≠g:=fun e=>HGB.out (by rw [e];rfl)
        have e3:(wr.setCell ⟨g,s,none⟩ (.int .i64 ((x:Int)+1))).cell? ⟨q,t,none⟩=some (.int .i64 (s:Int)):=d0 _ (by rw [Below.heap_setCell wr ⟨g,s,none⟩ _ q hne];exact hcur)
        have e4:(wr.setCell ⟨g,s,none⟩ (.int .i64 ((x:Int)+1))).cell? ⟨g,s,none⟩=some (.int .i64 ((x:Int)+1)):=World.cell?_setCell_same _ _ _ e1;have hski:(s:Int)<(k:Int):=by omega
        have hwx:IntKind.i64.wrap ((x:Int)+1)=(x:Int)+1:=IntWalk.i64_in _ (by omega)
        obtain⟨m,hm⟩:∃m,m=mxN H k:=⟨_,rfl⟩;rw [←hm]at HX⊢;clear hs hsM hs3 hat hH hG d0 hx hm hcur hct hsk;go_wp2_with (refine Qav (.int .i64 ((max m (x+1):Nat):Int)) rfl (Qss (.tmp 92) (.tmp 99) m (x+1) _ rfl rfl rfl rfl rfl) ?_;rintro _ rfl);rw [←HX.out];go_roundw
        case rel=>exact⟨t+1,by omega,by go_num,by rw [HGE2.out],Qh (by rw [←HGE2.out];exact HK.out)⟩
        case measure=>simp [intOf];omega
       ·obtain rfl:t=M.length:=by omega
        have hpp:l.Perm (((Wa,Na),Value.slice pa La.length ca,La)::((Wb,Nb),Value.slice pb Lb.length cb,Lb)::l2):=HPAa.out.trans (HPAb.out.cons _);have hWb:Wa+Wb≤k*1099511627776:=HP.out.pair hpp;have hWc:Wa+Wb≤329853488332800:=Nat.le_trans hWb (Nat.mul_le_mul_right 1099511627776 hn);have hNb:N≤1000:=by have:=HP.out.nb;omega
        rw [List.take_length]at HC⊢;have hstep:=HP.out.step hpp (fun x hx=>HLAa.out x ((HPAb.out.map (·.1)).mem_iff.2 hx)) HLAb.out;have HSTEP:Hid (LP c k (l2++[((Wa+Wb,N),Value.slice pB M.length cB,M)]) (N+1) (addH F M)):=Qh (by
         have h3:LP c k (l2++[((Wa+Wb,N),Value.slice pB M.length cB,La++Lb)]) (N+1) (addH F (La++Lb)):=hstep _;rw [←HMM.out]at h3;exact h3)
        have e0:=HC.out.b1.cell 0;have e1:=HC.out.b2.cell 0;have e2:wr.cell? ⟨ba,0,none⟩=some (.int .i64 (Wa:Int)):=e0;have e3:wr.cell? ⟨bb,0,none⟩=some (.int .i64 (Wb:Int)):=e1;have hww:IntKind.i64.wrap ((Wa:Int)+(Wb:Int))=((Wa+Wb:Nat):Int):=by rw [IntWalk.i64_in _ (by omega)];omega
        have hNw:IntKind.i64.wrap ((N:Int)+1)=((N+1:Nat):Int):=by rw [IntWalk.i64_in _ (by omega)];omega
        have hPN:Hid (PN w.heap.size w l2 (.slice pc l2.length cc) wr):=Qh ⟨HC.out.lw.on,fun x hx=>(HC.out.lw.rl x hx).1⟩;have hl2:l2.length≤1000:=by have:=HP.out.nb;omega
        have HRB:=Qh HC.out.rb;obtain⟨S,hS⟩:∃S,S=Wa+Wb:=⟨_,rfl⟩;rw [←hS]at hww HSTEP;clear hstep e0 e1 hpp hWb hWc hS;go_wp2_with (refine Qku rfl (.tmp 101) (.tmp 110) rfl rfl hPN.out ((S,N),.slice pB M.length cB,M) HRB.out rfl hl2 ?_;intro v8 w8 hP8 hG8;obtain⟨p8,c8,hv8⟩:=hP8.form;subst hv8);have e8:(l2++[(((S,N),Value.slice pB M.length cB,M):Ny)]).length=l1.length:=by simp;omega
        rw [e8]at hP8;have HW8:Hid (LW k g w (l2++[((S,N),Value.slice pB M.length cB,M)]) (addH F M) (.slice p8 l1.length c8) w8):=Qh ⟨hP8.on,fun x hx=>⟨hP8.rl x hx,by
          rcases List.mem_append.1 hx with h1|h1
          ·exact(HC.out.lw.rl x h1).2
          ·rw [List.mem_singleton.1 h1];exact HGB.out⟩,(hG8.block g HC.out.lw.o.lt (fun e=>by
           obtain⟨cur,h1⟩:=HC.out.lw.on.type e.symm;exact Qg6 HC.out.lw.o h1 rfl)).trans HC.out.lw.o,HC.out.lw.gl⟩
        go_roundw
        case rel=>exact⟨_,N+1,addH F M,by go_num,rfl,HSTEP,HW8,p8,c8,by rw [e8]⟩
        case measure=>simp [Q2q];omega
     ·have hli:¬(1:Int)<(l.length:Int):=by omega
      have hd:=HP.out.done (by omega)
      have HO:=HW.out.o;have hb:=HW.out.on.b;have HX:Hid (mxN F k=depM c k k):=Qh (Qyk fun s hs=>by
       rw [hd s hs];by_cases h0:c s=0
       ·rw [if_pos h0,if_neg (by omega)]
       ·rw [if_neg h0,if_pos (by omega)])
      have HL:Hid (rI k (fun i=>(F i:Int))=rI k fun i=>(lenO c k i:Int)):=Qh (Qa3 fun i hi=>by
       show Value.int .i64 ((F i:Nat):Int)=Value.int .i64 ((lenO c k i:Nat):Int)
       rw [hd i hi];unfold lenO;by_cases h0:c i=0
       ·rw [if_pos h0,if_pos h0]
       ·rw [if_neg h0,if_neg h0,if_neg HN1.out])
      clear hd;go_wp2_with fail;go_ret2;rw [←HX.out,←HL.out];exact⟨g,rfl,HO,HGL.out,hb⟩
def okC (f:Nat→Int):Nat→Bool
 |0=>true
 |k+1=>okC f k&&decide (0≤f k∧f k≤1099511627776)
theorem Qhm {f:Nat→Int} {n:Nat}:okC f n=true↔∀i,i<n→0≤f i∧f i≤1099511627776:=by
 induction n with
 |zero=>exact⟨fun _ i hi=>by omega,fun _=>rfl⟩
 |succ n ih=>
  unfold okC;rw [Bool.and_eq_true,ih,decide_eq_true_eq]
  constructor
  ·rintro⟨h1,h2⟩ i hi;rcases(show i<n∨i=n by omega)with h|rfl
   ·exact h1 i h
   ·exact h2
  ·intro h;exact⟨fun i hi=>h i (by omega),h n (by omega)⟩
def okM (most:Int) (n:Nat):Prop:=(9≤most∧most≤15)∨(most=7∧n≤19)
theorem Qvi {most:Int} {n:Nat} (h:okM most n) (hn:n≤300):¬(n:Int)>300∧((¬most<9∧¬most>15)∨(most=7∧¬(n:Int)>19)):=by
 unfold okM at h;omega
structure OI (B:Nat) (w0:World) (p:Option Addr) (n cap:Nat) (f:Nat→Int) (w:World):Prop where
 is_:IS p n cap f w
 form:∀a,p=some a→a=⟨a.block,0,none⟩∧B≤a.block
 fz:∀g,p=some ⟨g,0,none⟩→∀i,i<n→w.frozen? ⟨g,i,none⟩=false
 b:Below B w0 w
theorem LI.oi {B:Nat} {w0 w:World} {f:Nat→Int} {n:Nat} {v:Value} (h:LI B w0 (Qam f n) v w) (lo:∀i,i<n→-9223372036854775808≤f i) (hi:∀i,i<n→f i<9223372036854775808):
  ∃p cap,v= .slice p n cap∧OI B w0 p n cap f w:=by
 obtain⟨p,cap,h1,h2,h3⟩:=h.is lo hi;have hown:=h.own;rw [Qaq]at hown;refine⟨p,cap,h1,h2,fun a ha=> ?_,fun g hg i hi2=> ?_,h.b⟩
 ·refine⟨?_,h3 a ha⟩;rcases hown.2 with⟨h4,_⟩|⟨g,cap2,cur,h4,_⟩
  ·rw [h1,ha]at h4;cases h4
  ·rw [h1,ha]at h4;cases h4;rfl
 ·rcases hown.2 with⟨h4,_⟩|⟨g2,cap2,cur,h4,_,h5,_⟩
  ·rw [h1,hg]at h4;cases h4
  ·rw [h1,hg]at h4;cases h4;exact Blk.frozen (t:=3) (cs:=cur) h5 i
theorem OI.below {B:Nat} {w0 w w':World} {p:Option Addr} {n cap:Nat} {f:Nat→Int} (h:OI B w0 p n cap f w) (hb:Below w.heap.size w w') (hB:B≤w.heap.size):OI B w0 p n cap f w':=
 ⟨h.is_.below hb,h.form,fun g hg i hi=>(hb.frozen (p:=⟨g,i,none⟩) (show g<_ from h.is_.lt _ hg)).trans (h.fz g hg i hi),h.b.trans (hb.mono hB)⟩
theorem OI.drew {B:Nat} {w0 w:World} {p:Option Addr} {n cap:Nat} {f:Nat→Int} (h:OI B w0 p n cap f w):OI B w0 p n cap f w.drew:=
 ⟨⟨h.is_.nil_,h.is_.cell,h.is_.lt,h.is_.lo,h.is_.hi⟩,h.form,h.fz,h.b.drew⟩
theorem OI.at_ {B:Nat} {w0 w:World} {g n cap:Nat} {f:Nat→Int} (h:OI B w0 (some ⟨g,0,none⟩) n cap f w) {i:Nat} (hi:i<n):w.cell? ⟨g,i,none⟩=some (.int .i64 (f i)):=by
 have:=h.is_.cell _ rfl i hi
 rwa [Qay,Nat.zero_add]at this
theorem OI.cast {B:Nat} {w0 w:World} {p:Option Addr} {n cap:Nat} {f f':Nat→Int} (h:OI B w0 p n cap f w) (e:∀i,i<n→f i=f' i):OI B w0 p n cap f' w:=
 ⟨⟨h.is_.nil_,fun a ha i hi=>by rw [←e i hi];exact h.is_.cell a ha i hi,h.is_.lt,fun i hi=>by rw [←e i hi];exact h.is_.lo i hi,fun i hi=>by rw [←e i hi];exact h.is_.hi i hi⟩,h.form,h.fz,h.b⟩
theorem OI.put {B:Nat} {w0 w:World} {g n cap:Nat} {f f':Nat→Int} (h:OI B w0 (some ⟨g,0,none⟩) n cap f w) (k:Nat) (x:Int) (lo: -9223372036854775808≤x) (hi:x<9223372036854775808) (e:∀i,i<n→(if i=k then x else f i)=f' i) (hk:k<n):
  OI B w0 (some ⟨g,0,none⟩) n cap f' (w.setCell ⟨g,k,none⟩ (.int .i64 x)):=by
 refine⟨⟨(fun e=>by cases e),fun a ha i hi2=> ?_,fun a ha=> ?_,fun i hi2=> ?_,fun i hi2=> ?_⟩,h.form,fun g2 hg2 i hi2=> ?_,h.b.setCell (p:=⟨g,k,none⟩) (show B≤g from(h.form _ rfl).2) _⟩
 ·cases ha
  rw [Qay,Nat.zero_add,←e i hi2];by_cases h1:i=k
  ·subst h1;rw [if_pos rfl];exact World.cell?_setCell_same _ _ _ (h.at_ hi2)
  ·rw [if_neg h1,World.cell?_setCell_other _ _ _ _ (fun hh=>by injection hh with _ h2;exact h1 h2.symm)];exact h.at_ hi2
 ·cases ha
  simp [World.setCell];exact h.is_.lt _ rfl
 ·rw [←e i hi2];split;exact lo;exact h.is_.lo i hi2
 ·rw [←e i hi2];split;exact hi;exact h.is_.hi i hi2
 ·cases hg2
  exact(World.frozen?_setCell _ _ _ _).trans (h.fz g rfl i hi2)
def haI (c:Nat→Nat) (f:Nat→Int) (k j:Nat):Int:=if j<k then((Qdu c j:Nat):Int)else f j
theorem Q0w (c:Nat→Nat) (f:Nat→Int) (k j:Nat):(if j=k then((Qdu c k:Nat):Int)else haI c f k j)=haI c f (k+1) j:=by
 unfold haI;by_cases h:j=k
 ·subst h;rw [if_pos rfl,if_pos (by omega)]
 ·rw [if_neg h];by_cases h2:j<k
  ·rw [if_pos h2,if_pos (by omega)]
  ·rw [if_neg h2,if_neg (by omega)]
theorem Qoc (p:Option Addr) (n cap:Nat) (f:Nat→Int) (most:Int) (w:World) (h:IS p n cap f w) (hM:okM most n) (hn:n≤300) (hc:okC f n=true) (l':Nat→Nat) (hl:lenV 42 (toL f) n most.toNat=some l'):
  Calls Tryz.prog 91 #[.slice p n cap,.int .i64 most] w fun e w'=>∃g,e= .returned (.tuple #[.slice (some ⟨g,0,none⟩) n n,.bool true])∧Blk w' g 3 (rI n fun i=>(l' i:Int))∧w.heap.size≤g∧Below w.heap.size w w':=by
 obtain⟨h1,h2⟩:=Qvi hM hn;have HC:=Qh (Qhm.1 hc);have hlo:=h.lo;have hhi:=h.hi;have HL:=Qh hl;obtain⟨mo,hmo⟩:=Int.eq_ofNat_of_zero_le (show 0≤most by unfold okM at hM;omega)
 rw [show most.toNat=mo by omega]at HL
 have hmo15:7≤mo∧mo≤15:=by unfold okM at hM;omega
 subst hmo;clear hM hc hl;rcases h2 with⟨h2,h3⟩|⟨h2,h3⟩
 all_goals
  go_enter Tryz.func91,Tryz.ntmps91
  go_wp2_with (refine Qen rfl (.tmp 31) rfl rfl h (by omega) ?_;intro vc w3 hL;obtain⟨p3,c3,rfl,o3⟩:=hL.oi hlo hhi;have hlw:=hL.lo;clear hL hlo hhi h)
  go_loopw [7] (fun i wr=>∃k:Nat,k≤n∧i= .int .i64 (k:Int)∧w3=wr) (fun i _=>n-(intOf i).toNat)
  case atStart=>exact⟨0,by omega,rfl,rfl⟩
  case round=>
   obtain⟨k,hk,rfl,rfl⟩:=hrel;by_cases hlt:k<n
   ·cases p3 with
    |none=>have:=(o3.is_.nil_ rfl).1;omega
    |some a=>
     have c0:=o3.is_.cell a rfl k hlt;obtain⟨hx1,hx2⟩:=HC.out k hlt;have hx3:¬f k<0:=by omega
     have hx4:¬f k>1099511627776:=by omega
     generalize f k=x at*;go_wp2_with fail;go_roundw
     case rel=>exact⟨k+1,by omega,by go_num,by trivial⟩
     case measure=>simp [intOf];omega
   ·obtain rfl:k=n:=by omega
    go_wp2_with fail;go_loopg [9] 42 (fun gk _ wr=>∃(t:Nat) (F:Nat→Int),gk=t∧Hid (lenV t (toL F) k mo=some l')∧Hid (∀i,i<k→0≤F i∧F i≤1099511627776)∧Hid (OI w.heap.size w p3 k c3 F wr)∧Hid (w.heap.size≤wr.heap.size))
    case atStart=>exact⟨42,f,rfl,HL,HC,Qh o3,Qh hlw⟩
    case round=>
     obtain⟨t,F,hgk,HV,HB,HO,HS⟩:=hrel;have HG:=Qh hgk;clear hgk o3;cases t with
     |zero=>have:=HV.out;simp [lenV]at this
     |succ t=>
      have CL:=Qh (Qmv p3 k c3 F wr HO.out.is_ hn HB.out);go_wp2_with fail;refine(CL.out).mono ?_;rintro e w5 ⟨g5,rfl,hb5,hg5,b5⟩;clear CL;have HO5:=Qh (HO.out.below b5 HS.out);have HS5:Hid (w.heap.size≤w5.heap.size):=Qh (Nat.le_trans HS.out b5.size);by_cases hle:depM (toL F) k k≤mo
      ·have hlei:(depM (toL F) k k:Int)≤(mo:Int):=by omega
       have HE:Hid (lenO (toL F) k=l'):=Qh (by have:=HV.out;unfold lenV at this;rw [if_pos hle]at this;exact Option.some.inj this)
       generalize depM (toL F) k k=dm at*;have HG5:Hid (w.heap.size≤g5):=Qh (Nat.le_trans HS.out hg5);clear HV hle hg5 b5;go_wp2_with fail;go_ret2;rw [←HE.out];exact⟨g5,rfl,hb5,HG5.out,HO5.out.b⟩
      ·have hlei:¬(depM (toL F) k k:Int)≤(mo:Int):=by omega
       have HV2:Hid (lenV t (Qdu (toL F)) k mo=some l'):=Qh (by have:=HV.out;unfold lenV at this;rw [if_neg hle]at this;exact this)
       generalize depM (toL F) k k=dm at*;clear HV hle hg5 hb5 b5;go_wp2_with fail;have HO6:Hid (OI w.heap.size w p3 k c3 (haI (toL F) F 0) w5):=Qh (HO5.out.cast fun i _=>by unfold haI;rw [if_neg (by omega)])
       clear HO5 HO HS hlei HL HC;go_loopw [10] (fun i wr=>∃j:Nat,j≤k∧i= .int .i64 (j:Int)∧Hid (OI w.heap.size w p3 k c3 (haI (toL F) F j) wr)∧Hid (w.heap.size≤wr.heap.size)) (fun i _=>k-(intOf i).toNat)
       case atStart=>exact⟨0,by omega,rfl,HO6,HS5⟩
       case round=>
        obtain⟨j,hj,rfl,HO7,HS7⟩:=hrel;by_cases hlt2:j<k
        ·obtain⟨g,rfl⟩:∃g,p3=some ⟨g,0,none⟩:=by
          cases p3 with
          |none=>have:=(HO7.out.is_.nil_ rfl).1;omega
          |some a=>exact⟨a.block,by rw [←(HO7.out.form a rfl).1]⟩
         have hF:=HB.out j hlt2;obtain⟨d,hd⟩:=Int.eq_ofNat_of_zero_le hF.1;have HVD:Hid (haI (toL F) F j j=(d:Int)):=Qh (by unfold haI;rw [if_neg (by omega)];exact hd)
         obtain⟨q,hq⟩:∃q,q=d /2:=⟨_,rfl⟩;obtain⟨r,hr⟩:∃r,r=d%2:=⟨_,rfl⟩;obtain⟨u,hu⟩:∃u,u=q+r:=⟨_,rfl⟩;have hdb:d≤1099511627776:=by omega
         have hqi:(d:Int).tdiv 2=(q:Int):=by rw [Int.tdiv_eq_ediv_of_nonneg (by omega)];omega
         have hri:(d:Int).tmod 2=(r:Int):=by rw [Int.tmod_eq_emod_of_nonneg (by omega)];omega
         have hqw:IntKind.i64.wrap (q:Int)=(q:Int):=IntWalk.i64_in _ (by omega)
         have huw:IntKind.i64.wrap ((q:Int)+(r:Int))=(u:Int):=by rw [IntWalk.i64_in _ (by omega)];omega
         have hhv:Qdu (toL F) j=u:=by unfold Qdu toL;omega
         have HPUT:Hid (∀wx,OI w.heap.size w (some ⟨g,0,none⟩) k c3 (haI (toL F) F j) wx→OI w.heap.size w (some ⟨g,0,none⟩) k c3 (haI (toL F) F (j+1)) (wx.setCell ⟨g,j,none⟩ (.int .i64 (u:Int)))):=
          Qh fun wx hO=>hO.put j _ (by omega) (by omega) (fun i _=>by rw [←hhv];exact Q0w (toL F) F j i) hlt2
         have hjk:(j:Int)<(k:Int):=by omega
         clear hF hd hq hr hu hdb hhv;go_wp2_with fail;refine Qad (Two 14 1000 fun f1 _ wx=>OI w.heap.size w (some ⟨g,0,none⟩) k c3 (haI (toL F) F (if f1 then j+1 else j)) wx∧w.heap.size≤wx.heap.size) (by kernel_rfl) ⟨HO7.out.drew,HS7.out⟩ ?_
         refine tA (i:=0) rfl rfl ?_;simp only [pu];refine tA (i:=1) rfl rfl ?_;simp only [pu];refine tA (i:=2) rfl rfl ?_;simp only [pu];refine tA (i:=3) rfl rfl ?_;simp only [pu];refine tT (i:=4) (v:= .pointer (some ⟨g,j,none⟩)) rfl rfl ?_;simp only [pu];refine Qaa (i:=5) (v:= .int .i64 (d:Int)) rfl (Qah (n:=9) rfl (fun f2 wx hT=> ?_)) ?_
         ·have k0:wx.cell? ⟨g,j,none⟩=some (.int .i64 (haI (toL F) F j j)):=hT.1.at_ hlt2;rw [HVD.out]at k0;refine Qab (w:=wx) ?_ hT;go_simp
         simp only [pu];refine tT (i:=6) (v:= .int .i64 (q:Int)) rfl rfl ?_;simp only [pu];refine tA (i:=7) rfl rfl ?_;simp only [pu];refine tA (i:=8) rfl rfl ?_;simp only [pu];refine tT (i:=9) (v:= .pointer (some ⟨g,j,none⟩)) rfl rfl ?_;simp only [pu];refine Qaa (i:=10) (v:= .int .i64 (d:Int)) rfl (Qah (n:=9) rfl (fun f2 wx hT=> ?_)) ?_
         ·have k0:wx.cell? ⟨g,j,none⟩=some (.int .i64 (haI (toL F) F j j)):=hT.1.at_ hlt2;rw [HVD.out]at k0;refine Qab (w:=wx) ?_ hT;go_simp
         simp only [pu];refine tT (i:=11) (v:= .int .i64 (r:Int)) rfl rfl ?_;simp only [pu];refine tT (i:=12) (v:= .int .i64 (u:Int)) rfl rfl ?_;simp only [pu];refine tT (i:=13) (v:= .pointer (some ⟨g,j,none⟩)) rfl rfl ?_;simp only [pu];refine Qaa (i:=14) (v:=undef) rfl (Qa5 (by decide) rfl (fun f2 wx hT=> ?_)) ?_
         ·have k0:wx.cell? ⟨g,j,none⟩=some (.int .i64 (haI (toL F) F j j)):=hT.1.at_ hlt2;have f0:=hT.1.fz _ rfl j hlt2;have K:=HPUT.out wx hT.1;go_simp;exact⟨rfl,K,by have:=hT.2;simp [World.setCell];exact this⟩
         simp only [Act.put];refine Qag (by kernel_rfl) (fun w8 (hw8:OI w.heap.size w (some ⟨g,0,none⟩) k c3 (haI (toL F) F (j+1)) w8∧w.heap.size≤w8.heap.size)=> ?_) _
         have HO8:=Qh hw8.1;have HS8:=Qh hw8.2;clear hw8;go_wp2_with fail;go_roundw
         case rel=>exact⟨j+1,by omega,by go_num,HO8,HS8⟩
         case measure=>simp [intOf];omega
        ·obtain rfl:j=k:=by omega
         have HO8:Hid (OI w.heap.size w p3 j c3 (fun i=>((Qdu (toL F) i:Nat):Int)) wr):=Qh (HO7.out.cast fun i hi=>by unfold haI;rw [if_pos hi])
         have HB8:Hid (∀i,i<j→0≤((Qdu (toL F) i:Nat):Int)∧((Qdu (toL F) i:Nat):Int)≤1099511627776):=Qh fun i hi=>by
          have:=HB.out i hi;unfold Qdu toL;omega
         have HV8:Hid (lenV t (toL fun i=>((Qdu (toL F) i:Nat):Int)) j mo=some l'):=Qh HV2.out;clear HO7;go_wp2_with fail;go_roundg t
         case measure=>have:=HG.out;omega
         case rel=>exact⟨t,_,rfl,HV8,HB8,HO8,HS7⟩
def Qfs (f:Nat→Int) (n:Nat):Nat:=if Qba f n=0 then n else 0
theorem IS.nil0 (f:Nat→Int) (w:World):IS none 0 0 f w:=⟨fun _=>⟨rfl,rfl⟩,(fun a e=>by cases e),(fun a e=>by cases e),(fun i hi=>by omega),(fun i hi=>by omega)⟩
theorem Qsz (p:Option Addr) (n cap:Nat) (f:Nat→Int) (w:World) (h:IS p n cap f w) (hn:n≤17592186044416):
  Calls Tryz.prog 104 #[.slice p n cap] w fun e w'=>∃p1 c1 p2 c2 m,e= .returned (.tuple #[.agg #[.slice p1 m c1,.slice p2 m c2],.int .i64 (newE f n:Int)])∧Below w.heap.size w w'∧
   (newE f n=0→m=n∧n≤300∧okB f n=true∧IS p1 n c1 f w'∧IS p2 n c2 (fun i=>(Qa0 (toL f) n i:Int)) w'∧(∀a,p1=some a→w.heap.size≤a.block)∧∀a,p2=some a→w.heap.size≤a.block):=by
 by_cases he:Qba f n=0
 ·obtain⟨⟨hok,hn3⟩,hk⟩:=Qby he;have good:∀{e:Ending} {w':World},(∃p1 c1 p2 c2,e= .returned (.tuple #[.agg #[.slice p1 n c1,.slice p2 n c2],.int .i64 0])∧IS p1 n c1 f w'∧IS p2 n c2 (fun i=>(Qa0 (toL f) n i:Int)) w'∧Below w.heap.size w w'∧(∀a,p1=some a→w.heap.size≤a.block)∧∀a,p2=some a→w.heap.size≤a.block)→newE f n=0→
    ∃p1 c1 p2 c2 m,e= .returned (.tuple #[.agg #[.slice p1 m c1,.slice p2 m c2],.int .i64 (newE f n:Int)])∧Below w.heap.size w w'∧
     (newE f n=0→m=n∧n≤300∧okB f n=true∧IS p1 n c1 f w'∧IS p2 n c2 (fun i=>(Qa0 (toL f) n i:Int)) w'∧(∀a,p1=some a→w.heap.size≤a.block)∧∀a,p2=some a→w.heap.size≤a.block):=fun ⟨p1,c1,p2,c2,h1,h2,h3,h4,h5,h6⟩ h0=>
   ⟨p1,c1,p2,c2,n,by rw [h0];exact h1,h4,fun _=>⟨rfl,hn3,hok,h2,h3,h5,h6⟩⟩
  by_cases h1:kr (toL f) n=32768
  ·have h0:newE f n=0:=by unfold newE;rw [if_pos he,if_pos (.inl h1)]
   exact(Qp7 p n cap f w h he h1).mono fun e w' hq=>good hq h0
  ·by_cases h2:kr (toL f) n=0
   ·have h0:newE f n=0:=by unfold newE;rw [if_pos he,if_pos (.inr (.inl h2))]
    exact(Qs0 p n cap f w h he h2).mono fun e w' hq=>good hq h0
   ·by_cases h3:sgl (toL f) n=1
    ·have h0:newE f n=0:=by unfold newE;rw [if_pos he,if_pos (.inr (.inr h3))]
     exact(Qoh p n cap f w h he h1 h2 h3).mono fun e w' hq=>good hq h0
    ·have h0:newE f n=2:=by unfold newE;rw [if_pos he,if_neg (by rintro(h|h|h);exact h1 h;exact h2 h;exact h3 h)]
     exact(Qsy p n cap f w h he h1 h2 h3).mono fun e w' ⟨hq,hb⟩=>⟨none,0,none,0,0,by rw [h0];exact hq,hb,fun hh=>by rw [h0]at hh;cases hh⟩
 ·have h0:newE f n=Qba f n:=by unfold newE;rw [if_neg he]
  exact(Qv1 p n cap f w h hn he).mono fun e w' ⟨hq,hb⟩=>⟨none,0,none,0,0,by rw [h0];exact hq,hb,fun hh=>by rw [h0]at hh;exact absurd hh he⟩
def Qu2 (f:Nat→Int) (n:Nat) (most:Int):Option (Nat→Nat):=if okC f n=true∧n≤300∧((9≤most∧most≤15)∨(most=7∧n≤19))then lenV 42 (toL f) n most.toNat else none
theorem Qn0 {f:Nat→Int} {n:Nat} {most:Int} (hc:okC f n=true) (hn:n≤300) (hM:okM most n):∃l,lenV 42 (toL f) n most.toNat=some l:=by
 refine Qu1 42 (toL f) n most.toNat 40 (by omega) (fun i hi=> ?_) ?_
 ·have:=Qhm.1 hc i hi;unfold toL;have e:(2:Nat)^40=1099511627776:=by decide
  omega
 ·rcases hM with⟨h1,h2⟩|⟨h1,h2⟩
  ·have:2^10≤2^(most.toNat+1):=Nat.pow_le_pow_right (by decide) (by omega)
   omega
  ·subst h1;show 2*n<2^8;omega
end Go.Proofs.YtbmcjdoiohcaaaaGreat
