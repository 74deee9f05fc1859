/- MW -/
import Derived.Test.YtbmcjdoiohcaaaaGreatMZ
set_option maxRecDepth 100000
set_option maxHeartbeats 8000000
namespace Go.Proofs.YtbmcjdoiohcaaaaGreat
open Go.RowKit
def Rn (p0 T M:Nat) (x:Fl):Prop:=(x.e=0→p0≤x.p∧x.p≤T)∧x.o.length≤M
section
variable {B:Nat→Nat} {p0 T M:Nat} {x:Fl}
theorem Rn.err (h:Rn p0 T M x) {p e:Nat} (he:e≠0):Rn p0 T M ⟨p,e,x.o⟩:=⟨fun h0=>absurd h0 he,h.2⟩
theorem Qbi (h:Rn p0 T M x) {n:Nat}:Rn p0 T M (Qal B T n x).2:=by
 unfold Qal;split
 ·exact h
 ·next he=>
  have:=h.1 (by omega)
  split
  ·next hn=>exact⟨fun _=>⟨by show p0≤x.p+n;omega,hn⟩,h.2⟩
  ·exact h.err (by decide)
theorem Qij (h:Rn p0 T M x) {l:Nat→Nat} {n:Nat}:Rn p0 T M (symS B T l n x).2:=by
 unfold symS;split
 ·exact h
 ·next he=>
  have:=h.1 (by omega)
  split
  ·next k q e=>
   have:=Qi9 15 0 e;exact⟨fun _=>⟨by show p0≤q;omega,this.2⟩,h.2⟩
  ·exact h.err (by decide)
theorem Qka (h:Rn p0 T M x) {b:Nat}:Rn p0 T M (sayS M b x):=by
 refine⟨fun he=> ?_,Qrz h.2⟩;rw [Qv8];refine h.1 ?_;unfold sayS at he;split at he
 ·exact he
 ·next hx=>omega
theorem Qq2:∀(n:Nat) {x:Fl},Rn p0 T M x→Rn p0 T M (Qdl B T M n x)
 |0,_,h=>h
 |n+1,x,h=>by
  by_cases he:x.e≠0
  ·rw [Qdm he];exact h
  ·rw [Qg9 (by omega)];exact Qq2 n (Qka (Qbi h))
theorem Qqs {d:Nat}:∀(n:Nat) {x:Fl},Rn p0 T M x→Rn p0 T M (Qcp M d n x)
 |0,_,h=>h
 |n+1,x,h=>by
  by_cases he:x.e≠0
  ·rw [Qc3 he];exact h
  ·have e:Qcp M d (n+1) x=Qcp M d n (sayS M (x.o.getD (x.o.length-d) 0) x):=if_neg he;rw [e];exact Qqs n (Qka h)
theorem Qh2 (h:Rn p0 T M x) {k:Nat} {l:Nat→Nat} {n:Nat}:Rn p0 T M (Qa7 B T M k l n x):=by
 unfold Qa7;split
 ·exact h.err (by decide)
 ·dsimp only;have h2:Rn p0 T M (symS B T l n (Qal B T (Qan (k:Int)).2.1 x).2).2:=Qij (Qbi h);split
  ·exact h2.err (by decide)
  ·refine Qqs _ ?_;split
   ·exact(Qbi h2).err (by decide)
   ·exact Qbi h2
theorem Qgz {l:Nat→Nat} {n:Nat} {g:Nat→Nat} {m:Nat}:∀(t:Nat) {x:Fl},Rn p0 T M x→Rn p0 T M (Qat B T M l n g m t x)
 |0,_,h=>h
 |t+1,x,h=>by
  unfold Qat;split
  ·exact h
  ·dsimp only;have h2:Rn p0 T M (symS B T l n x).2:=Qij h;split
   ·exact h2
   ·split
    ·exact Qgz t (Qka h2)
    ·exact Qgz t (Qh2 h2)
theorem Ql2 (h:Rn p0 T M x) {l:List Nat}:Rn p0 T M (Qdb l x):=by
 unfold Qdb;split
 ·exact h
 ·split
  ·exact h
  ·exact h.err (by decide)
theorem Qdk (h:Rn p0 T M x) {a b:List Nat}:Rn p0 T M (Qcw B T M a b x):=Qgz _ (Ql2 (Ql2 h))
theorem Quh:∀(n i:Nat) (f:Nat→Nat) {x:Fl},Rn p0 T M x→Rn p0 T M (fewS B T n i f x).2
 |0,_,_,_,h=>h
 |n+1,i,_,_,h=>Quh n (i+1) _ (Qbi h)
theorem Qhs {g:Nat→Nat} {all:Nat}:∀(f:Nat) (L:List Nat) {x:Fl},Rn p0 T M x→Rn p0 T M (Qbf B T g all f L x).2
 |0,_,_,h=>h
 |f+1,L,x,h=>by
  have h1:Rn p0 T M (symS B T g 19 x).2:=Qij h;unfold Qbf;split
  ·exact h
  ·dsimp only;split
   ·exact h1
   ·split
    ·exact Qhs f _ h1
    ·split
     ·exact h1.err (by decide)
     ·split
      ·exact Qhs f _ (Qbi h1)
      ·split
       ·exact Qhs f _ (Qbi h1)
       ·exact Qhs f _ (Qbi h1)
theorem Qzc (h:Rn p0 T M x) {many far few:Nat}:Rn p0 T M (Qgm B T many far few x).2:=by
 unfold Qgm;have h0:Rn p0 T M (if x.e=0∧(many>286∨far>30)then ⟨x.p,2,x.o⟩else x):=by
  split
  ·exact h.err (by decide)
  ·exact h
 generalize (if x.e=0∧(many>286∨far>30)then (⟨x.p,2,x.o⟩:Fl)else x)=z at h0;dsimp only;have h1:Rn p0 T M (Qbf B T (fewS B T few 0 (fun _=>0) z).1 (many+far) (many+far+1) [] (Qdb ((List.range 19).map (fewS B T few 0 (fun _=>0) z).1) (fewS B T few 0 (fun _=>0) z).2)).2:=Qhs _ _ (Ql2 (Quh _ _ _ h0));generalize Qbf B T (fewS B T few 0 (fun _=>0) z).1 (many+far) (many+far+1) [] (Qdb ((List.range 19).map (fewS B T few 0 (fun _=>0) z).1) (fewS B T few 0 (fun _=>0) z).2)=t at h1;have h2:Rn p0 T M (if t.2.e=0∧(t.1.length>many+far∨t.1.getD 256 0=0)then ⟨t.2.p,2,t.2.o⟩else t.2):=by
  split
  ·exact h1.err (by decide)
  ·exact h1
 generalize (if t.2.e=0∧(t.1.length>many+far∨t.1.getD 256 0=0)then (⟨t.2.p,2,t.2.o⟩:Fl)else t.2)=y at h2;split
 ·exact h2
 ·exact h2
theorem Qhu (h:Rn p0 T M x):Rn p0 T M (Qbp B T x).2:=by rw [Qgj];exact Qzc (Qbi (Qbi (Qbi h)))
end
theorem Qgh {B:Nat→Nat} {p0 t M:Nat} {x:Fl} (h:Rn p0 (8*t) M x):Rn p0 (8*t) M (Qb8 B (8*t) M x):=by
 have h0:Rn p0 (8*t) M ⟨(x.p+7) /8*8,x.e,x.o⟩:=⟨fun he=>by have:=h.1 he;show p0≤(x.p+7) /8*8∧(x.p+7) /8*8≤8*t;omega,h.2⟩
 have h1:Rn p0 (8*t) M (Qal B (8*t) 16 (Qal B (8*t) 16 ⟨(x.p+7) /8*8,x.e,x.o⟩).2).2:=Qbi (Qbi h0);unfold Qb8;dsimp only;refine Qq2 _ ?_;split
 ·exact h1.err (by decide)
 ·exact h1
theorem Qsg (B:Nat→Nat) (T M p:Nat) (o:List Nat) (r1 r2:Nat×Bool×Nat) (h1:r1=numS B T p 0 1) (h2:r2=numS B T r1.2.2 0 2):
  ((r1.2.1=false∨r2.2.1=false∨r2.1=3)→r2.1<4→(Qch B T M ⟨p,0,o⟩).2.e=2)∧
  (r1.2.1=true→r2.2.1=true→(Qch B T M ⟨p,0,o⟩).1=decide (r1.1=1)∧(r2.1=0→(Qch B T M ⟨p,0,o⟩).2=Qb8 B T M ⟨r2.2.2,0,o⟩)∧(r2.1=1→(Qch B T M ⟨p,0,o⟩).2=Qcw B T M fixA fixB ⟨r2.2.2,0,o⟩)∧
   (r2.1=2→(Qch B T M ⟨p,0,o⟩).2=Qcw B T M (Qbp B T ⟨r2.2.2,0,o⟩).1.1 (Qbp B T ⟨r2.2.2,0,o⟩).1.2 (Qbp B T ⟨r2.2.2,0,o⟩).2)):=by
 have X:=Qdi B T p 1 o;rw [←h1]at X;have Y:=Qdi B T r1.2.2 2 o;rw [←h2]at Y;clear h1 h2;obtain⟨a,b1,p1⟩:=r1;obtain⟨d,b2,p2⟩:=r2;unfold Qch;rcases X with⟨e,xb⟩|⟨e,_,xb⟩
 ·have e:b1=true:=e;subst e;rcases Y with⟨e,yb⟩|⟨e,_,yb⟩
  ·have e:b2=true:=e;subst e;dsimp only at xb yb;simp only [xb,yb];refine⟨fun h _=> ?_,fun _ _=>⟨by trivial,fun h0=> ?_,fun h0=> ?_,fun h0=> ?_⟩⟩
   ·have h3:d=3:=by
     rcases h with h|h|h
     ·cases h
     ·cases h
     ·exact h
    rw [if_neg (fun h=>h rfl),if_neg (by omega),if_neg (by omega),if_neg (by omega)]
   ·rw [if_neg (fun h=>h rfl),if_pos h0]
   ·rw [if_neg (fun h=>h rfl),if_neg (by omega),if_pos h0]
   ·rw [if_neg (fun h=>h rfl),if_neg (by omega),if_neg (by omega),if_pos h0]
  ·have e:b2=false:=e;subst e
   try dsimp only at xb yb
   simp only [xb,yb];refine⟨fun _ _=> ?_,fun _ h=>by cases h⟩
   rw [if_pos (show(2:Nat)≠0 by decide)]
 ·have e:b1=false:=e;subst e;refine⟨fun _ _=> ?_,fun h=>by cases h⟩
  simp only [xb];rw [Qew (show(2:Nat)≠0 by decide),if_pos (show(2:Nat)≠0 by decide)]
theorem Qjk (B:Nat→Nat) (T M t:Nat) (p:Nat) (o:List Nat):Qbt B T M (t+1) false ⟨p,0,o⟩=Qbt B T M t (Qch B T M ⟨p,0,o⟩).1 (Qch B T M ⟨p,0,o⟩).2:=if_neg (by rintro(h|h);cases h;exact h rfl)
theorem Qip {B:Nat→Nat} {T M t:Nat} {x:Fl}:Qbt B T M t true x=x:=by
 cases t with
 |zero=>rfl
 |succ t=>exact if_pos (.inl rfl)
theorem Qgp {B:Nat→Nat} {T M t:Nat} {b:Bool} {x:Fl} (h:x.e≠0):Qbt B T M t b x=x:=by
 cases t with
 |zero=>rfl
 |succ t=>exact if_pos (.inr h)
theorem Qpf (g:Nat) (s:ByteArray) (M:Nat) (v k1 k2:Value) (w:World) (h:UW g s M 0 [] v k1 k2 w) (hx:FX k1 k2 w) (hT:TB w) (hs:s.size≤281474976710656) (hM:M≤1048576):
  Calls Tryz.prog 38 #[.pointer (some ⟨g,0,none⟩)] w fun e w'=>e= .returned (.int .i64 ((Qbt (bitH s) (8*s.size) M (8*s.size+1) false ⟨0,0,[]⟩).e:Int))∧Dx g s M (Qbt (bitH s) (8*s.size) M (8*s.size+1) false ⟨0,0,[]⟩) v w w':=by
 obtain⟨S,hS⟩:∃S,S=Qbt (bitH s) (8*s.size) M (8*s.size+1) false ⟨0,0,[]⟩:=⟨_,rfl⟩;rw [←hS];have HS:=Qh hS;have H0:=Qh (⟨h,Mv.refl g v w,hx,hT⟩:UW g s M 0 [] v k1 k2 w∧Mv g v w v w∧FX k1 k2 w∧TB w);have HSZ:=Qh hs;have HM:=Qh hM;clear h hx hT hS hs hM;go_enter Tryz.func38,Tryz.ntmps38;go_wp2_with fail;go_step3;go_wp2_with fail;go_step3;go_wp2_with fail;go_loopg [2] (8*s.size+1) (fun gk r wr=>∃(t q:Nat) (O:List Nat) (u c1 c2:Value),gk=t∧r= .int .i64 0∧Hid (S=Qbt (bitH s) (8*s.size) M t false ⟨q,0,O⟩)∧q≤8*s.size∧8*s.size-q<t∧Hid (O.length≤M)∧Hid (UW g s M q O u c1 c2 wr∧Mv g v w u wr∧FX c1 c2 wr∧TB wr))
 case atStart=>exact⟨_,0,[],v,k1,k2,rfl,rfl,HS,by omega,by omega,Qh (Nat.zero_le _),H0⟩
 case round=>
  obtain⟨t,q,O,u,c1,c2,hgk,rfl,HK,hq,hqt,HO,HR⟩:=hrel;clear H0 HS;cases t with
  |zero=>omega
  |succ t=>
   obtain⟨r1,hr1⟩:∃r,r=numS (bitH s) (8*s.size) q 0 1:=⟨_,rfl⟩;obtain⟨r2,hr2⟩:∃r,r=numS (bitH s) (8*s.size) r1.2.2 0 2:=⟨_,rfl⟩;have HD:=Qh (Qsg (bitH s) (8*s.size) M q O r1 r2 hr1 hr2);have C1:=Qcl g s M q O u c1 c2 0 1 wr HR.out.1 HSZ.out hq (by omega) (by omega)
   have hp1:r1.2.2≤8*s.size:=by rw [hr1];exact Qd8 hq
   have hl1:r1.1<0+2^1:=by rw [hr1];exact Qd9 s _ _ _ _
   have hp2:r2.2.2≤8*s.size:=by rw [hr2];exact Qd8 hp1
   have hl2:r2.1<0+2^2:=by rw [hr2];exact Qd9 s _ _ _ _
   have HPR:Hid (r1.2.1=true→q<r1.2.2):=Qh (by
    rw [hr1];unfold numS;split
    ·intro _;show q<q+1;omega
    ·intro h;cases h)
   have HPR2:Hid (r1.2.2≤r2.2.2):=Qh (by rw [hr2];unfold numS;split;exact Nat.le_add_right _ _;exact Ql)
   rw [←hr1]at C1;have HGK:=Qh hgk;have HQT:=Qh hqt;clear hgk hqt;go_wp2_with fail;refine C1.mono ?_;rintro e w1 ⟨rfl,h1,m1⟩;have hfx:∀{w1:World},Mv g u wr u w1→FX c1 c2 w1:=fun m=>by
    rcases HR.out.2.2.1 with h|⟨h1,h2⟩
    ·exact .inl h
    ·exact .inr ⟨h1.mv HR.out.1 m,h2.mv HR.out.1 m⟩
   have C2:=Qcl g s M r1.2.2 O u c1 c2 0 2 w1 h1 HSZ.out hp1 (by omega) (by omega)
   rw [←hr2]at C2;clear hr1 hr2 C1 h1;go_wp2_with fail;refine C2.mono ?_;rintro e w2 ⟨rfl,h2,m2⟩;have H2:=Qh (⟨h2,HR.out.2.1.trans (m1.trans m2),hfx (m1.trans m2),HR.out.2.2.2.mv HR.out.1 (m1.trans m2)⟩:UW g s M r2.2.2 O u c1 c2 w2∧Mv g v w u w2∧FX c1 c2 w2∧TB w2);clear C2 m1 m2 h2 hfx HR;obtain⟨a,b1,p1⟩:=r1;obtain⟨d,b2,p2⟩:=r2;dsimp only at hp1 hp2 hl1 hl2;have HX:Hid (∃X,X=(Qch (bitH s) (8*s.size) M ⟨q,0,O⟩).2):=Qh ⟨_,rfl⟩;obtain⟨X,hX⟩:=HX.out;clear HX;have hRn:Rn p2 (8*s.size) M ⟨p2,0,O⟩:=⟨fun _=>⟨Ql,hp2⟩,HO.out⟩;by_cases hbad:b1=false∨b2=false∨d=3
   ·have h2:X.e=2:=by rw [hX];exact HD.out.1 hbad (by show d<4;omega)
    have HE:Hid (S.e=2):=Qh (by rw [HK.out,Qjk,←hX,Qgp (by rw [h2];decide),h2])
    have hor:b1=false∨(b1=true∧b2=false)∨(b1=true∧b2=true∧d=3):=by
     cases b1 with
     |false=>exact .inl rfl
     |true=>
      cases b2 with
      |false=>exact .inr (.inl ⟨rfl,rfl⟩)
      |true=>
       rcases hbad with h|h|h
       ·cases h
       ·cases h
       ·exact .inr (.inr ⟨rfl,rfl,h⟩)
    clear hbad h2 hX HD hRn;rcases hor with rfl|⟨rfl,rfl⟩|⟨rfl,rfl,rfl⟩
    all_goals
     go_wp2_with fail
     try rw [Exit.noGoto_ret]
     go_ret;rw [HE.out];exact⟨rfl,u,c1,c2,H2.out.2.1,fun h=>by rw [HE.out]at h;cases h⟩
   ·have hb1:b1=true:=by cases b1;exact absurd (.inl rfl) hbad;rfl
    have hb2:b2=true:=by cases b2;exact absurd (.inr (.inl rfl)) hbad;rfl
    subst hb1 hb2;have hd3:d=0∨d=1∨d=2:=by
     have:¬d=3:=fun h=>hbad (.inr (.inr h));omega
    obtain⟨e1,D0,D1,D2⟩:=HD.out.2 (by trivial) (by trivial)
    have HL:Hid (S=Qbt (bitH s) (8*s.size) M t (decide (a=1)) X):=Qh (by rw [HK.out,Qjk,e1,←hX])
    rw [←hX]at D0 D1 D2;dsimp only at D0 D1 D2;have hpr:=HPR.out (by trivial)
    have hpr2:=HPR2.out;dsimp only at hpr hpr2;have HPQ:Hid (q<p2):=Qh (by omega)
    have ha2:a=0∨a=1:=by omega
    have CX:Hid (X.e=0→p2≤X.p∧X.p≤8*s.size∧X.o.length≤M):=Qh fun h=>by
     have:Rn p2 (8*s.size) M X:=by
      rcases hd3 with h|h|h
      ·rw [D0 h];exact Qgh hRn
      ·rw [D1 h];exact Qdk hRn
      ·rw [D2 h];exact Qdk (Qhu hRn)
     exact⟨(this.1 h).1,(this.1 h).2,this.2⟩
    have CC:Hid ((d=0→Calls Tryz.prog 66 #[.pointer (some ⟨g,0,none⟩)] w2 fun e w'=>e= .returned (.int .i64 (X.e:Int))∧Dx g s M X u w2 w')∧
      (d=1→Calls Tryz.prog 67 #[.pointer (some ⟨g,0,none⟩)] w2 fun e w'=>e= .returned (.int .i64 (X.e:Int))∧Dx g s M X u w2 w')∧
      (d=2→Calls Tryz.prog 68 #[.pointer (some ⟨g,0,none⟩)] w2 fun e w'=>e= .returned (.int .i64 (X.e:Int))∧Dx g s M X u w2 w')):=Qh (by
     have keep:∀{w'},Dn g s M X u c1 c2 w2 w'→Dx g s M X u w2 w':=fun {w'} ⟨v',m,hk⟩=>⟨v',c1,c2,m,fun h0=>⟨hk h0,by
      rcases H2.out.2.2.1 with h|⟨h1,h2⟩
      ·exact .inl h
      ·exact .inr ⟨h1.mv H2.out.1 m,h2.mv H2.out.1 m⟩⟩⟩
     refine⟨fun h=> ?_,fun h=> ?_,fun h=> ?_⟩
     ·rw [D0 h]at keep⊢;exact(Qpi g s M p2 O u c1 c2 w2 H2.out.1 HSZ.out hp2 HM.out HO.out).mono fun e w' ⟨h1,h2⟩=>⟨h1,keep h2⟩
     ·rw [D1 h];exact Ql6 g s M p2 O u c1 c2 w2 H2.out.1 H2.out.2.2.1 HSZ.out hp2 HM.out HO.out
     ·rw [D2 h]at keep⊢;exact(Qnw g s M p2 O u c1 c2 w2 H2.out.1 H2.out.2.2.2 HSZ.out hp2 HM.out HO.out).mono fun e w' ⟨h1,h2⟩=>⟨h1,keep h2⟩)
    clear hbad HD HK D0 D1 D2 e1 hX hRn hpr hpr2 hl2 hl1;obtain⟨Xp,Xe,Xo⟩:=X;have hF:Hid (∀w3,Dx g s M ⟨Xp,Xe,Xo⟩ u w2 w3→Dx g s M ⟨Xp,Xe,Xo⟩ v w w3):=Qh fun w3 ⟨v',d1,d2,m,hk⟩=>⟨v',d1,d2,H2.out.2.1.trans m,hk⟩;by_cases he:Xe=0
    ·subst he;rcases ha2 with rfl|rfl
     ·have HS0:Hid (S=Qbt (bitH s) (8*s.size) M t false ⟨Xp,0,Xo⟩):=HL;rcases hd3 with rfl|rfl|rfl
      ·have C:=CC.out.1 rfl;clear CC HL;go_wp2_with fail;refine C.mono ?_;rintro e w3 ⟨rfl,hdx⟩;obtain⟨u3,d1,d2,m3,hk⟩:=hdx;obtain⟨h3,hf3⟩:=hk rfl;have H3:=Qh (⟨h3,H2.out.2.1.trans m3,hf3,H2.out.2.2.2.mv H2.out.1 m3⟩:UW g s M Xp Xo u3 d1 d2 w3∧Mv g v w u3 w3∧FX d1 d2 w3∧TB w3);clear C m3 hk h3 hf3 hF;go_wp2_with fail;go_roundg t
       case measure=>have:=HGK.out;omega
       case rel=>exact⟨t,Xp,Xo,u3,d1,d2,rfl,rfl,HS0,(CX.out (by trivial)).2.1,by have:=(CX.out (by trivial)).1;have:=HPQ.out;have:=HQT.out;omega,Qh (CX.out (by trivial)).2.2,H3⟩
      ·have C:=CC.out.2.1 rfl;clear CC HL;go_wp2_with fail;refine C.mono ?_;rintro e w3 ⟨rfl,hdx⟩;obtain⟨u3,d1,d2,m3,hk⟩:=hdx;obtain⟨h3,hf3⟩:=hk rfl;have H3:=Qh (⟨h3,H2.out.2.1.trans m3,hf3,H2.out.2.2.2.mv H2.out.1 m3⟩:UW g s M Xp Xo u3 d1 d2 w3∧Mv g v w u3 w3∧FX d1 d2 w3∧TB w3);clear C m3 hk h3 hf3 hF;go_wp2_with fail;go_roundg t
       case measure=>have:=HGK.out;omega
       case rel=>exact⟨t,Xp,Xo,u3,d1,d2,rfl,rfl,HS0,(CX.out (by trivial)).2.1,by have:=(CX.out (by trivial)).1;have:=HPQ.out;have:=HQT.out;omega,Qh (CX.out (by trivial)).2.2,H3⟩
      ·have C:=CC.out.2.2 rfl;clear CC HL;go_wp2_with fail;refine C.mono ?_;rintro e w3 ⟨rfl,hdx⟩;obtain⟨u3,d1,d2,m3,hk⟩:=hdx;obtain⟨h3,hf3⟩:=hk rfl;have H3:=Qh (⟨h3,H2.out.2.1.trans m3,hf3,H2.out.2.2.2.mv H2.out.1 m3⟩:UW g s M Xp Xo u3 d1 d2 w3∧Mv g v w u3 w3∧FX d1 d2 w3∧TB w3);clear C m3 hk h3 hf3 hF;go_wp2_with fail;go_roundg t
       case measure=>have:=HGK.out;omega
       case rel=>exact⟨t,Xp,Xo,u3,d1,d2,rfl,rfl,HS0,(CX.out (by trivial)).2.1,by have:=(CX.out (by trivial)).1;have:=HPQ.out;have:=HQT.out;omega,Qh (CX.out (by trivial)).2.2,H3⟩
     ·have HE:Hid (S=⟨Xp,0,Xo⟩):=Qh (by rw [HL.out];exact Qip)
      rcases hd3 with rfl|rfl|rfl
      ·have C:=CC.out.1 rfl;clear CC HL;go_wp2_with fail;refine C.mono ?_;rintro e w3 ⟨rfl,hdx⟩;have HDX:=Qh (hF.out w3 hdx);clear C hdx;go_wp2_with fail
       try rw [Exit.noGoto_ret]
       go_ret;rw [HE.out];exact⟨rfl,HDX.out⟩
      ·have C:=CC.out.2.1 rfl;clear CC HL;go_wp2_with fail;refine C.mono ?_;rintro e w3 ⟨rfl,hdx⟩;have HDX:=Qh (hF.out w3 hdx);clear C hdx;go_wp2_with fail
       try rw [Exit.noGoto_ret]
       go_ret;rw [HE.out];exact⟨rfl,HDX.out⟩
      ·have C:=CC.out.2.2 rfl;clear CC HL;go_wp2_with fail;refine C.mono ?_;rintro e w3 ⟨rfl,hdx⟩;have HDX:=Qh (hF.out w3 hdx);clear C hdx;go_wp2_with fail
       try rw [Exit.noGoto_ret]
       go_ret;rw [HE.out];exact⟨rfl,HDX.out⟩
    ·have HE:Hid (S=⟨Xp,Xe,Xo⟩):=Qh (by rw [HL.out];exact Qgp he)
     have hei:¬(Xe:Int)=0:=by omega
     have hneb:((Xe:Int) !=0)=true:=by simp;omega
     clear he;rcases hd3 with rfl|rfl|rfl
     ·have C:=CC.out.1 rfl;clear CC HL;go_wp2_with fail;refine C.mono ?_;rintro e w3 ⟨rfl,hdx⟩;have HDX:=Qh (hF.out w3 hdx);clear C hdx;go_wp2_with fail
      try rw [Exit.noGoto_ret]
      go_ret;rw [HE.out];exact⟨rfl,HDX.out⟩
     ·have C:=CC.out.2.1 rfl;clear CC HL;go_wp2_with fail;refine C.mono ?_;rintro e w3 ⟨rfl,hdx⟩;have HDX:=Qh (hF.out w3 hdx);clear C hdx;go_wp2_with fail
      try rw [Exit.noGoto_ret]
      go_ret;rw [HE.out];exact⟨rfl,HDX.out⟩
     ·have C:=CC.out.2.2 rfl;clear CC HL;go_wp2_with fail;refine C.mono ?_;rintro e w3 ⟨rfl,hdx⟩;have HDX:=Qh (hF.out w3 hdx);clear C hdx;go_wp2_with fail
      try rw [Exit.noGoto_ret]
      go_ret;rw [HE.out];exact⟨rfl,HDX.out⟩
def B8 (x:Fl):Prop:=∀i,x.o.getD i 0<256
theorem B8.one {o:List Nat} (h:∀i,o.getD i 0<256) {b:Nat} (hb:b<256):∀i,(o++[b]).getD i 0<256:=fun i=>by
 by_cases hi:i<o.length
 ·have:=h i;simp only [List.getD,List.getElem?_append_left hi]at this⊢;exact this
 ·simp only [List.getD,List.getElem?_append_right (Nat.le_of_not_lt hi)];cases h0:i-o.length with
  |zero=>exact hb
  |succ n=>show(0:Nat)<256;decide
theorem Qej {B:Nat→Nat} {T n:Nat} {x:Fl} (h:B8 x):B8 (Qal B T n x).2:=by unfold B8;rw [Qlx];exact h
theorem Qki (B:Nat→Nat) (T:Nat) (l:Nat→Nat) (n:Nat) (x:Fl):(symS B T l n x).2.o=x.o:=by unfold symS;split;rfl;split<;>rfl
theorem Qwi {B:Nat→Nat} {T n:Nat} {l:Nat→Nat} {x:Fl} (h:B8 x):B8 (symS B T l n x).2:=by unfold B8;rw [Qki];exact h
theorem Qqd {M b:Nat} {x:Fl} (h:B8 x) (hb:b<256):B8 (sayS M b x):=by
 unfold sayS;split
 ·exact h
 ·split
  ·exact h
  ·exact B8.one h hb
theorem Qq1 {s:ByteArray} {T M:Nat}:∀(n:Nat) {x:Fl},B8 x→B8 (Qdl (bitH s) T M n x)
 |0,_,h=>h
 |n+1,x,h=>by
  by_cases he:x.e≠0
  ·rw [Qdm he];exact h
  ·rw [Qg9 (by omega)];exact Qq1 n (Qqd (Qej h) (Qck s T 8 x))
theorem Qqr {M d:Nat}:∀(n:Nat) {x:Fl},B8 x→B8 (Qcp M d n x)
 |0,_,h=>h
 |n+1,x,h=>by
  by_cases he:x.e≠0
  ·rw [Qc3 he];exact h
  ·have e:Qcp M d (n+1) x=Qcp M d n (sayS M (x.o.getD (x.o.length-d) 0) x):=if_neg he;rw [e];exact Qqr n (Qqd h (h _))
theorem Qsk {B:Nat→Nat} {T M k:Nat} {l:Nat→Nat} {n:Nat} {x:Fl} (h:B8 x):B8 (Qa7 B T M k l n x):=by
 unfold Qa7;split
 ·exact h
 ·dsimp only;have h2:B8 (symS B T l n (Qal B T (Qan (k:Int)).2.1 x).2).2:=Qwi (Qej h);split
  ·exact h2
  ·refine Qqr _ ?_;split
   ·exact Qej h2
   ·exact Qej h2
theorem Qgy {B:Nat→Nat} {T M:Nat} {l:Nat→Nat} {n:Nat} {g:Nat→Nat} {m:Nat}:∀(t:Nat) {x:Fl},B8 x→B8 (Qat B T M l n g m t x)
 |0,_,h=>h
 |t+1,x,h=>by
  unfold Qat;split
  ·exact h
  ·dsimp only;have h2:B8 (symS B T l n x).2:=Qwi h;split
   ·exact h2
   ·split
    ·next hb=>exact Qgy t (Qqd h2 hb)
    ·exact Qgy t (Qsk h2)
theorem Qpd (l:List Nat) (x:Fl):(Qdb l x).o=x.o:=by unfold Qdb;split;rfl;split<;>rfl
theorem Qns {B:Nat→Nat} {T M:Nat} {a b:List Nat} {x:Fl} (h:B8 x):B8 (Qcw B T M a b x):=Qgy _ (by unfold B8;rw [Qpd,Qpd];exact h)
theorem Q1v (B:Nat→Nat) (T:Nat) (x:Fl):(Qbp B T x).2.o=x.o:=by
 have hb:∀n (x:Fl),(Qal B T n x).2.o=x.o:=fun n x=>Qlx B T n x;have hf:∀n i f (x:Fl),(fewS B T n i f x).2.o=x.o:=fun n=>by
  induction n with
  |zero=>intro i f x;rfl
  |succ n ih=>intro i f x;exact(ih (i+1) _ _).trans (hb 3 x)
 have ht:∀f g all L (x:Fl),(Qbf B T g all f L x).2.o=x.o:=fun f=>by
  induction f with
  |zero=>intro g all L x;rfl
  |succ f ih=>
   intro g all L x;unfold Qbf;split
   ·rfl
   ·dsimp only;split
    ·exact Qki ..
    ·split
     ·rw [ih,Qki]
     ·split
      ·exact Qki ..
      ·split
       ·rw [ih,hb,Qki]
       ·split
        ·rw [ih,hb,Qki]
        ·rw [ih,hb,Qki]
 rw [Qgj];have h0:∀(c:Prop) [Decidable c] (y:Fl),(if c then(⟨y.p,2,y.o⟩:Fl)else y).o=y.o:=fun c _ y=>by split<;>rfl
 have key:∀many far few (z:Fl),(Qgm B T many far few z).2.o=z.o:=fun many far few z=>by
  unfold Qgm;have e0:=h0 (z.e=0∧(many>286∨far>30)) z;generalize (if z.e=0∧(many>286∨far>30)then (⟨z.p,2,z.o⟩:Fl)else z)=y at e0;dsimp only;have e1:=ht (many+far+1) (fewS B T few 0 (fun _=>0) y).1 (many+far) [] (Qdb ((List.range 19).map (fewS B T few 0 (fun _=>0) y).1) (fewS B T few 0 (fun _=>0) y).2);generalize Qbf B T (fewS B T few 0 (fun _=>0) y).1 (many+far) (many+far+1) [] (Qdb ((List.range 19).map (fewS B T few 0 (fun _=>0) y).1) (fewS B T few 0 (fun _=>0) y).2)=t at e1;have e2:=h0 (t.2.e=0∧(t.1.length>many+far∨t.1.getD 256 0=0)) t.2;generalize (if t.2.e=0∧(t.1.length>many+far∨t.1.getD 256 0=0)then (⟨t.2.p,2,t.2.o⟩:Fl)else t.2)=u at e2;have e3:u.o=z.o:=by rw [e2,e1,Qpd,hf,e0]
  split
  ·exact e3
  ·exact e3
 rw [key,hb,hb,hb]
theorem Qs8 {s:ByteArray} {T M:Nat} {x:Fl} (h:B8 x):B8 (Qb8 (bitH s) T M x):=by
 have h1:B8 (Qal (bitH s) T 16 (Qal (bitH s) T 16 ⟨(x.p+7) /8*8,x.e,x.o⟩).2).2:=Qej (Qej h);unfold Qb8;dsimp only;refine Qq1 _ ?_;split
 ·exact h1
 ·exact h1
theorem Qnn {s:ByteArray} {T M:Nat} {x:Fl} (h:B8 x):B8 (Qch (bitH s) T M x).2:=by
 have h1:B8 (Qal (bitH s) T 2 (Qal (bitH s) T 1 x).2).2:=Qej (Qej h);unfold Qch;dsimp only;split
 ·exact h1
 ·split
  ·exact Qs8 h1
  ·split
   ·exact Qns h1
   ·split
    ·refine Qns ?_;unfold B8;rw [Q1v];exact h1
    ·exact h1
theorem Qk6 {s:ByteArray} {T M:Nat}:∀(t:Nat) (b:Bool) {x:Fl},B8 x→B8 (Qbt (bitH s) T M t b x)
 |0,_,_,h=>h
 |t+1,b,x,h=>by
  unfold Qbt;split
  ·exact h
  ·exact Qk6 t _ (Qnn h)
def txtL (l:List Nat):ByteArray:=Q1t l.length fun i=>l.getD i 0
theorem UW.text {g:Nat} {s:ByteArray} {M p:Nat} {o:List Nat} {v k1 k2:Value} {w:World} (h:UW g s M p o v k1 k2 w) (hf:∀i,o.getD i 0<256):(convert 25 9 v).run Tryz.prog w= .ok (.string (txtL o)) w:=by
 refine Qcm w 25 9 5 (g+1) Tryz.underlying25 Tryz.underlying5 Tryz.underlying9 v o.length ((List.range o.length).map fun i=>BitVec.ofNat 8 (o.getD i 0)) ?_;have e:((List.range o.length).map fun i=>BitVec.ofNat 8 (o.getD i 0)).map b8v=bys o:=by
  rw [List.map_map];unfold bys
  apply List.ext_getElem (by simp)
  intro i h1 h2;simp only [List.getElem_map,List.getElem_range];have hi:i<o.length:=by simpa using h2
  show Value.int .u8 (iw (BitVec.ofNat 8 (o.getD i 0)))=Value.int .u8 ((o[i]:Nat):Int)
  have e3:o.getD i 0=o[i]:=by simp [List.getD,List.getElem?_eq_getElem hi]
  rw [e3];unfold iw;rw [BitVec.toNat_ofNat,Nat.mod_eq_of_lt (show o[i]<2^8 by rw [←e3];exact hf i)]
 rw [e];exact h.own
theorem Qub (s:ByteArray) (most:Int) (w:World) (hT:TB w) (hs:s.size≤281474976710656):
  Calls Tryz.prog 22 #[.string s,.int .i64 most] w fun e w'=>e= .returned (.tuple #[.string (txtL (Qct s most).1),.int .i64 ((Qct s most).2.1:Int),.int .i64 ((Qct s most).2.2:Int)])∧Below w.heap.size w w':=by
 have et:txtL []=ByteArray.empty:=by decide+kernel
 by_cases hbad:most<0∨most>1048576
 ·have e:Qct s most=([],0,1):=if_pos hbad;rw [e];dsimp only;rw [et];have hor:most<0∨(¬most<0∧most>1048576):=by omega
  have HB:Hid (Below w.heap.size w w):=Qh Qb;clear hbad e;rcases hor with h1|⟨h1,h2⟩
  all_goals
   go_enter Tryz.func22,Tryz.ntmps22
   go_wp2_with fail;go_ret3;exact⟨rfl,HB.out⟩
 ·obtain⟨M,rfl⟩:∃M:Nat,most=M:=⟨most.toNat,by omega⟩
  have hM:M≤1048576:=by omega
  obtain⟨S,hS⟩:∃S,S=Qbt (bitH s) (8*s.size) M (8*s.size+1) false ⟨0,0,[]⟩:=⟨_,rfl⟩;have e:Qct s (M:Int)=if S.e≠0 then([],0,S.e)else (S.o,(S.p+7) /8,0):=by
   unfold Qct;rw [if_neg hbad,hS];rfl
  have hB8:B8 S:=by rw [hS];exact Qk6 _ _ fun i=>by simp
  have hRn:Rn 0 (8*s.size) M S:=by
   rw [hS];have key:∀(t:Nat) (b:Bool) {x:Fl},Rn 0 (8*s.size) M x→Rn 0 (8*s.size) M (Qbt (bitH s) (8*s.size) M t b x):=fun t=>by
    induction t with
    |zero=>intro b x h;exact h
    |succ t ih=>
     intro b x h;unfold Qbt;split
     ·exact h
     ·refine ih _ ?_;have h1:Rn 0 (8*s.size) M (Qal (bitH s) (8*s.size) 2 (Qal (bitH s) (8*s.size) 1 x).2).2:=Qbi (Qbi h);unfold Qch;dsimp only;split
      ·exact h1
      ·split
       ·exact Qgh h1
       ·split
        ·exact Qdk h1
        ·split
         ·exact Qdk (Qhu h1)
         ·exact h1.err (by decide)
   exact key _ _ ⟨fun _=>⟨Nat.le_refl 0,Nat.zero_le _⟩,Nat.zero_le _⟩
  have hb0:=(Below.refl _ w).alloc Ql (.cells #[.string s,.int .i64 0,.int .i64 (M:Int),.slice none 0 0,.pointer none,.pointer none] 84);have U0:UW w.heap.size s M 0 [] (.slice none 0 0) (.pointer none) (.pointer none) (w.alloc (.cells #[.string s,.int .i64 0,.int .i64 (M:Int),.slice none 0 0,.pointer none,.pointer none] 84)):=⟨Blk.new w _ _,rfl,.inl ⟨rfl,rfl⟩⟩;have C:=Qpf w.heap.size s M _ _ _ _ U0 (.inl ⟨rfl,rfl⟩) (hT.below hb0) hs hM;rw [←hS]at C;have hlo:¬(M:Int)<0:=by omega
  have hhi:¬(M:Int)>1048576:=by omega
  have HB0:=Qh hb0;have HB8:=Qh hB8;have HRN:=Qh hRn;have HET:=Qh et;have HSZ:=Qh hs;clear hS hB8 hRn hb0 U0 hbad hM hs;by_cases he:S.e=0
  ·rw [e,if_neg (fun h=>h he)];clear e et;go_enter Tryz.func22,Tryz.ntmps22;go_wp2_with fail;refine C.mono ?_;rintro e w1 ⟨rfl,v2,c1,c2,m,hk⟩;have HM:Hid (Below w.heap.size w w1):=Qh ⟨m.os.trans HB0.out.os,m.tape.trans HB0.out.tape,m.output.trans HB0.out.output,Nat.le_trans HB0.out.size m.size,fun k hk=>(m.block k (Nat.lt_of_lt_of_le hk HB0.out.size) (by omega) (fun e=>by cases e)).trans (HB0.out.block k hk)⟩
   obtain⟨h1,_⟩:=hk he;have hT2:=h1.text HB8.out;have hp:=HRN.out.1 he;have HW:Hid (Below w.heap.size w w1.drew):=Qh HM.out.drew;have h2:=h1.drew;have HU:Hid (∀wx,wx=w1.drew→wx.cell? ⟨w.heap.size,3,none⟩=some v2∧(convert 25 9 v2).run Tryz.prog wx= .ok (.string (txtL S.o)) wx∧Calls Tryz.prog 39 #[.pointer (some ⟨w.heap.size,0,none⟩)] wx fun e w'=>e= .returned (.int .i64 (((S.p+7) /8:Nat):Int))∧wx=w'):=Qh fun wx e=>by
    rw [e];exact⟨h2.c3,h2.text HB8.out,Qle w.heap.size s M S.p S.o v2 c1 c2 w1.drew h2 (by have:=HSZ.out;omega)⟩
   rw [he];clear h1 hk m hT2 hp C h2 he;go_wp2_with fail;refine Qad (Two 1000 1001 fun _ _ wx=>wx=w1.drew) (by kernel_rfl) rfl ?_
   refine tA (i:=0) rfl rfl ?_;simp only [pu];refine tA (i:=1) rfl rfl ?_;simp only [pu];refine tA (i:=2) rfl rfl ?_;simp only [pu];refine Qaa (i:=3) (v:=v2) rfl (Qaf rfl (fun f1 f2 wx hT=> ?_)) ?_
   ·have cc:=(HU.out w1.drew rfl).1;rw [hT];refine Qab (w:=w1.drew) ?_ rfl;go_simp;skip
   simp only [pu];refine Qaa (i:=4) (v:= .string (txtL S.o)) rfl (Qaf rfl (fun f1 f2 wx hT=> ?_)) ?_
   ·have cc:=(HU.out w1.drew rfl).2.1;rw [hT];refine Qab (w:=w1.drew) ?_ rfl;go_simp;skip
   simp only [pu];refine tA (i:=5) rfl rfl ?_;simp only [pu];refine tA (i:=6) rfl rfl ?_;simp only [pu];refine tA (i:=7) rfl rfl ?_;simp only [pu];refine Qaa (i:=8) (v:= .int .i64 (((S.p+7) /8:Nat):Int)) rfl (Qaf rfl (fun f1 f2 wx hT=> ?_)) ?_
   ·refine Qao (f:=39) ((HU.out wx hT).2.2.mono fun e w' ⟨he,hb⟩=>⟨he,hb▸hT⟩) ?_;go_simp;skip
   simp only [pu];refine tA (i:=9) rfl rfl ?_;simp only [pu];refine tA (i:=10) rfl rfl ?_;simp only [pu];refine tA (i:=11) rfl rfl ?_;simp only [pu];refine Qag rfl ?_ _;intro wx hT;have hT:wx=w1.drew:=hT;subst hT;go_wp2_with fail;go_ret3;exact⟨rfl,HW.out⟩
  ·rw [e,if_pos he];dsimp only;rw [et];clear e et;go_enter Tryz.func22,Tryz.ntmps22;go_wp2_with fail;refine C.mono ?_;rintro e w1 ⟨rfl,v2,c1,c2,m,hk⟩;have HM:Hid (Below w.heap.size w w1):=Qh ⟨m.os.trans HB0.out.os,m.tape.trans HB0.out.tape,m.output.trans HB0.out.output,Nat.le_trans HB0.out.size m.size,fun k hk=>(m.block k (Nat.lt_of_lt_of_le hk HB0.out.size) (by omega) (fun e=>by cases e)).trans (HB0.out.block k hk)⟩
   have hei:¬(S.e:Int)=0:=by omega
   have hneb:((S.e:Int) !=0)=true:=by simp;omega
   clear hk m C he;go_wp2_with fail;go_ret3;exact⟨rfl,HM.out⟩
end Go.Proofs.YtbmcjdoiohcaaaaGreat
