/- Where the next bit stands behind a block, in numbers; a block in the developers' steps. -/
import Derived.Test.YtmhoejmgjbgddaaGreatMZ
namespace Go.Proofs.YtmhoejmgjbgddaaGreat
open Go.RowKit
def Rn (p0 T M:Nat) (x:Fl):Prop:=(x.e=0→p0≤x.p∧x.p≤T)∧x.o.length≤M
section
variable {B:Nat→Nat} {p0 T M:Nat} {x:Fl}
theorem Rn.err (h:Rn p0 T M x) {p e:Nat} (he:e≠0):Rn p0 T M ⟨p,e,x.o⟩:=⟨fun h0=>absurd h0 he,h.2⟩
theorem bitsS_Rn (h:Rn p0 T M x) {n:Nat}:Rn p0 T M (bitsS B T n x).2:=by
 unfold bitsS;split
 ·exact h
 ·next he=>
  have:=h.1 (by omega)
  split
  ·next hn=>exact⟨fun _=>⟨by show p0≤x.p+n;omega,hn⟩,h.2⟩
  ·exact h.err (by decide)
theorem symS_Rn (h:Rn p0 T M x) {l:Nat→Nat} {n:Nat}:Rn p0 T M (symS B T l n x).2:=by
 unfold symS;split
 ·exact h
 ·next he=>
  have:=h.1 (by omega)
  split
  ·next k q e=>
   have:=nextV_in 15 0 e;exact⟨fun _=>⟨by show p0≤q;omega,this.2⟩,h.2⟩
  ·exact h.err (by decide)
theorem sayS_Rn (h:Rn p0 T M x) {b:Nat}:Rn p0 T M (sayS M b x):=by
 refine⟨fun he=> ?_,sayS_len h.2⟩;rw [sayS_p];refine h.1 ?_;unfold sayS at he;split at he
 ·exact he
 ·next hx=>omega
theorem copyS_Rn:∀(n:Nat) {x:Fl},Rn p0 T M x→Rn p0 T M (copyS B T M n x)
 |0,_,h=>h
 |n+1,x,h=>by
  by_cases he:x.e≠0
  ·rw [copyS_err he];exact h
  ·rw [copyS_one (by omega)];exact copyS_Rn n (sayS_Rn (bitsS_Rn h))
theorem backS_Rn {d:Nat}:∀(n:Nat) {x:Fl},Rn p0 T M x→Rn p0 T M (backS M d n x)
 |0,_,h=>h
 |n+1,x,h=>by
  by_cases he:x.e≠0
  ·rw [backS_err he];exact h
  ·have e:backS M d (n+1) x=backS M d n (sayS M (x.o.getD (x.o.length-d) 0) x):=if_neg he
   rw [e];exact backS_Rn n (sayS_Rn h)
theorem copiedS_Rn (h:Rn p0 T M x) {k:Nat} {l:Nat→Nat} {n:Nat}:Rn p0 T M (copiedS B T M k l n x):=by
 unfold copiedS;split
 ·exact h.err (by decide)
 ·dsimp only
  have h2:Rn p0 T M (symS B T l n (bitsS B T (lengthV (k:Int)).2.1 x).2).2:=symS_Rn (bitsS_Rn h);split
  ·exact h2.err (by decide)
  ·refine backS_Rn _ ?_
   split
   ·exact(bitsS_Rn h2).err (by decide)
   ·exact bitsS_Rn h2
theorem symbolsS_Rn {l:Nat→Nat} {n:Nat} {g:Nat→Nat} {m:Nat}:∀(t:Nat) {x:Fl},Rn p0 T M x→Rn p0 T M (symbolsS B T M l n g m t x)
 |0,_,h=>h
 |t+1,x,h=>by
  unfold symbolsS;split
  ·exact h
  ·dsimp only
   have h2:Rn p0 T M (symS B T l n x).2:=symS_Rn h;split
   ·exact h2
   ·split
    ·exact symbolsS_Rn t (sayS_Rn h2)
    ·exact symbolsS_Rn t (copiedS_Rn h2)
theorem codeS_Rn (h:Rn p0 T M x) {l:List Nat}:Rn p0 T M (codeS l x):=by
 unfold codeS;split
 ·exact h
 ·split
  ·exact h
  ·exact h.err (by decide)
theorem codedS_Rn (h:Rn p0 T M x) {a b:List Nat}:Rn p0 T M (codedS B T M a b x):=symbolsS_Rn _ (codeS_Rn (codeS_Rn h))
theorem fewS_Rn:∀(n i:Nat) (f:Nat→Nat) {x:Fl},Rn p0 T M x→Rn p0 T M (fewS B T n i f x).2
 |0,_,_,_,h=>h
 |n+1,i,_,_,h=>fewS_Rn n (i+1) _ (bitsS_Rn h)
theorem tellS_Rn {g:Nat→Nat} {all:Nat}:∀(f:Nat) (L:List Nat) {x:Fl},Rn p0 T M x→Rn p0 T M (tellS B T g all f L x).2
 |0,_,_,h=>h
 |f+1,L,x,h=>by
  have h1:Rn p0 T M (symS B T g 19 x).2:=symS_Rn h;unfold tellS;split
  ·exact h
  ·dsimp only
   split
   ·exact h1
   ·split
    ·exact tellS_Rn f _ h1
    ·split
     ·exact h1.err (by decide)
     ·split
      ·exact tellS_Rn f _ (bitsS_Rn h1)
      ·split
       ·exact tellS_Rn f _ (bitsS_Rn h1)
       ·exact tellS_Rn f _ (bitsS_Rn h1)
theorem tailT_Rn (h:Rn p0 T M x) {many far few:Nat}:Rn p0 T M (tailT B T many far few x).2:=by
 unfold tailT;have h0:Rn p0 T M (if x.e=0∧(many>286∨far>30)then ⟨x.p,2,x.o⟩else x):=by
  split
  ·exact h.err (by decide)
  ·exact h
 generalize (if x.e=0∧(many>286∨far>30)then (⟨x.p,2,x.o⟩:Fl)else x)=z at h0;dsimp only;have h1:Rn p0 T M (tellS B T (fewS B T few 0 (fun _=>0) z).1 (many+far) (many+far+1) [] (codeS ((List.range 19).map (fewS B T few 0 (fun _=>0) z).1) (fewS B T few 0 (fun _=>0) z).2)).2:=tellS_Rn _ _ (codeS_Rn (fewS_Rn _ _ _ h0));generalize tellS B T (fewS B T few 0 (fun _=>0) z).1 (many+far) (many+far+1) [] (codeS ((List.range 19).map (fewS B T few 0 (fun _=>0) z).1) (fewS B T few 0 (fun _=>0) z).2)=t at h1;have h2:Rn p0 T M (if t.2.e=0∧(t.1.length>many+far∨t.1.getD 256 0=0)then ⟨t.2.p,2,t.2.o⟩else t.2):=by
  split
  ·exact h1.err (by decide)
  ·exact h1
 generalize (if t.2.e=0∧(t.1.length>many+far∨t.1.getD 256 0=0)then (⟨t.2.p,2,t.2.o⟩:Fl)else t.2)=y at h2;split
 ·exact h2
 ·exact h2
theorem toldS_Rn (h:Rn p0 T M x):Rn p0 T M (toldS B T x).2:=by rw [toldS_tail];exact tailT_Rn (bitsS_Rn (bitsS_Rn (bitsS_Rn h)))
end
theorem storedS_Rn {B:Nat→Nat} {p0 t M:Nat} {x:Fl} (h:Rn p0 (8*t) M x):Rn p0 (8*t) M (storedS B (8*t) M x):=by
 have h0:Rn p0 (8*t) M ⟨(x.p+7) /8*8,x.e,x.o⟩:=⟨fun he=>by have:=h.1 he;show p0≤(x.p+7) /8*8∧(x.p+7) /8*8≤8*t;omega,h.2⟩
 have h1:Rn p0 (8*t) M (bitsS B (8*t) 16 (bitsS B (8*t) 16 ⟨(x.p+7) /8*8,x.e,x.o⟩).2).2:=bitsS_Rn (bitsS_Rn h0);unfold storedS;dsimp only;refine copyS_Rn _ ?_;split
 ·exact h1.err (by decide)
 ·exact h1
theorem blockS_dev (B:Nat→Nat) (T M p:Nat) (o:List Nat) (r1 r2:Nat×Bool×Nat) (h1:r1=numS B T p 0 1) (h2:r2=numS B T r1.2.2 0 2):
  ((r1.2.1=false∨r2.2.1=false∨r2.1=3)→r2.1<4→(blockS B T M ⟨p,0,o⟩).2.e=2)∧
  (r1.2.1=true→r2.2.1=true→(blockS B T M ⟨p,0,o⟩).1=decide (r1.1=1)∧(r2.1=0→(blockS B T M ⟨p,0,o⟩).2=storedS B T M ⟨r2.2.2,0,o⟩)∧(r2.1=1→(blockS B T M ⟨p,0,o⟩).2=codedS B T M fixA fixB ⟨r2.2.2,0,o⟩)∧
   (r2.1=2→(blockS B T M ⟨p,0,o⟩).2=codedS B T M (toldS B T ⟨r2.2.2,0,o⟩).1.1 (toldS B T ⟨r2.2.2,0,o⟩).1.2 (toldS B T ⟨r2.2.2,0,o⟩).2)):=by
 have X:=bitsS_num B T p 1 o;rw [←h1]at X;have Y:=bitsS_num B T r1.2.2 2 o;rw [←h2]at Y;clear h1 h2;obtain⟨a,b1,p1⟩:=r1;obtain⟨d,b2,p2⟩:=r2;unfold blockS;rcases X with⟨e,xb⟩|⟨e,_,xb⟩
 ·have e:b1=true:=e
  subst e;rcases Y with⟨e,yb⟩|⟨e,_,yb⟩
  ·have e:b2=true:=e
   subst e;dsimp only at xb yb;simp only [xb,yb];refine⟨fun h _=> ?_,fun _ _=>⟨by trivial,fun h0=> ?_,fun h0=> ?_,fun h0=> ?_⟩⟩
   ·have h3:d=3:=by
     rcases h with h|h|h
     ·cases h
     ·cases h
     ·exact h
    rw [if_neg (fun h=>h rfl),if_neg (by omega),if_neg (by omega),if_neg (by omega)]
   ·rw [if_neg (fun h=>h rfl),if_pos h0]
   ·rw [if_neg (fun h=>h rfl),if_neg (by omega),if_pos h0]
   ·rw [if_neg (fun h=>h rfl),if_neg (by omega),if_neg (by omega),if_pos h0]
  ·have e:b2=false:=e
   subst e
   try dsimp only at xb yb
   simp only [xb,yb];refine⟨fun _ _=> ?_,fun _ h=>by cases h⟩
   rw [if_pos (show(2:Nat)≠0 by decide)]
 ·have e:b1=false:=e
  subst e;refine⟨fun _ _=> ?_,fun h=>by cases h⟩
  simp only [xb];rw [bitsS_err (show(2:Nat)≠0 by decide),if_pos (show(2:Nat)≠0 by decide)]
theorem blocksS_one (B:Nat→Nat) (T M t:Nat) (p:Nat) (o:List Nat):blocksS B T M (t+1) false ⟨p,0,o⟩=blocksS B T M t (blockS B T M ⟨p,0,o⟩).1 (blockS B T M ⟨p,0,o⟩).2:=if_neg (by rintro(h|h);cases h;exact h rfl)
theorem blocksS_last {B:Nat→Nat} {T M t:Nat} {x:Fl}:blocksS B T M t true x=x:=by
 cases t with
 |zero=>rfl
 |succ t=>exact if_pos (.inl rfl)
theorem blocksS_err {B:Nat→Nat} {T M t:Nat} {b:Bool} {x:Fl} (h:x.e≠0):blocksS B T M t b x=x:=by
 cases t with
 |zero=>rfl
 |succ t=>exact if_pos (.inr h)
set_option maxRecDepth 100000 in
set_option maxHeartbeats 8000000 in
theorem dblocks_any (g:Nat) (s:ByteArray) (M:Nat) (v k1 k2:Value) (w:World) (h:UW g s M 0 [] v k1 k2 w) (hx:FX k1 k2 w) (hT:TB w) (hs:s.size≤281474976710656) (hM:M≤1048576):
  Calls Tryz.prog 38 #[.pointer (some ⟨g,0,none⟩)] w fun e w'=>e= .returned (.int .i64 ((blocksS (bitH s) (8*s.size) M (8*s.size+1) false ⟨0,0,[]⟩).e:Int))∧Dx g s M (blocksS (bitH s) (8*s.size) M (8*s.size+1) false ⟨0,0,[]⟩) v w w':=by
 obtain⟨S,hS⟩:∃S,S=blocksS (bitH s) (8*s.size) M (8*s.size+1) false ⟨0,0,[]⟩:=⟨_,rfl⟩;rw [←hS];have HS:=Lib.hid hS;have H0:=Lib.hid (⟨h,Mv.refl g v w,hx,hT⟩:UW g s M 0 [] v k1 k2 w∧Mv g v w v w∧FX k1 k2 w∧TB w);have HSZ:=Lib.hid hs;have HM:=Lib.hid hM;clear h hx hT hS hs hM;go_enter Tryz.func38,Tryz.ntmps38;go_wp2_with fail;go_step3;go_wp2_with fail;go_step3;go_wp2_with fail;go_loopg [2] (8*s.size+1) (fun gk r wr=>∃(t q:Nat) (O:List Nat) (u c1 c2:Value),gk=t∧r= .int .i64 0∧Hid (S=blocksS (bitH s) (8*s.size) M t false ⟨q,0,O⟩)∧q≤8*s.size∧8*s.size-q<t∧Hid (O.length≤M)∧Hid (UW g s M q O u c1 c2 wr∧Mv g v w u wr∧FX c1 c2 wr∧TB wr))
 case atStart=>exact⟨_,0,[],v,k1,k2,rfl,rfl,HS,by omega,by omega,Lib.hid (Nat.zero_le _),H0⟩
 case round=>
  obtain⟨t,q,O,u,c1,c2,hgk,rfl,HK,hq,hqt,HO,HR⟩:=hrel;clear H0 HS;cases t with
  |zero=>omega
  |succ t=>
   obtain⟨r1,hr1⟩:∃r,r=numS (bitH s) (8*s.size) q 0 1:=⟨_,rfl⟩;obtain⟨r2,hr2⟩:∃r,r=numS (bitH s) (8*s.size) r1.2.2 0 2:=⟨_,rfl⟩;have HD:=Lib.hid (blockS_dev (bitH s) (8*s.size) M q O r1 r2 hr1 hr2);have C1:=dnum_any g s M q O u c1 c2 0 1 wr HR.out.1 HSZ.out hq (by omega) (by omega)
   have hp1:r1.2.2≤8*s.size:=by rw [hr1];exact numS_le hq
   have hl1:r1.1<0+2^1:=by rw [hr1];exact numS_lt s _ _ _ _
   have hp2:r2.2.2≤8*s.size:=by rw [hr2];exact numS_le hp1
   have hl2:r2.1<0+2^2:=by rw [hr2];exact numS_lt s _ _ _ _
   have HPR:Hid (r1.2.1=true→q<r1.2.2):=Lib.hid (by
    rw [hr1];unfold numS;split
    ·intro _;show q<q+1;omega
    ·intro h;cases h)
   have HPR2:Hid (r1.2.2≤r2.2.2):=Lib.hid (by rw [hr2];unfold numS;split;exact Nat.le_add_right _ _;exact Nat.le_refl _)
   rw [←hr1]at C1;have HGK:=Lib.hid hgk;have HQT:=Lib.hid hqt;clear hgk hqt;go_wp2_with fail;refine C1.mono ?_;rintro e w1 ⟨rfl,h1,m1⟩;have hfx:∀{w1:World},Mv g u wr u w1→FX c1 c2 w1:=fun m=>by
    rcases HR.out.2.2.1 with h|⟨h1,h2⟩
    ·exact .inl h
    ·exact .inr ⟨h1.mv HR.out.1 m,h2.mv HR.out.1 m⟩
   have C2:=dnum_any g s M r1.2.2 O u c1 c2 0 2 w1 h1 HSZ.out hp1 (by omega) (by omega)
   rw [←hr2]at C2;clear hr1 hr2 C1 h1;go_wp2_with fail;refine C2.mono ?_;rintro e w2 ⟨rfl,h2,m2⟩;have H2:=Lib.hid (⟨h2,HR.out.2.1.trans (m1.trans m2),hfx (m1.trans m2),HR.out.2.2.2.mv HR.out.1 (m1.trans m2)⟩:UW g s M r2.2.2 O u c1 c2 w2∧Mv g v w u w2∧FX c1 c2 w2∧TB w2);clear C2 m1 m2 h2 hfx HR;obtain⟨a,b1,p1⟩:=r1;obtain⟨d,b2,p2⟩:=r2;dsimp only at hp1 hp2 hl1 hl2;have HX:Hid (∃X,X=(blockS (bitH s) (8*s.size) M ⟨q,0,O⟩).2):=Lib.hid ⟨_,rfl⟩;obtain⟨X,hX⟩:=HX.out;clear HX;have hRn:Rn p2 (8*s.size) M ⟨p2,0,O⟩:=⟨fun _=>⟨Nat.le_refl _,hp2⟩,HO.out⟩;by_cases hbad:b1=false∨b2=false∨d=3
   ·have h2:X.e=2:=by rw [hX];exact HD.out.1 hbad (by show d<4;omega)
    have HE:Hid (S.e=2):=Lib.hid (by rw [HK.out,blocksS_one,←hX,blocksS_err (by rw [h2];decide),h2])
    have hor:b1=false∨(b1=true∧b2=false)∨(b1=true∧b2=true∧d=3):=by
     cases b1 with
     |false=>exact .inl rfl
     |true=>
      cases b2 with
      |false=>exact .inr (.inl ⟨rfl,rfl⟩)
      |true=>
       rcases hbad with h|h|h
       ·cases h
       ·cases h
       ·exact .inr (.inr ⟨rfl,rfl,h⟩)
    clear hbad h2 hX HD hRn;rcases hor with rfl|⟨rfl,rfl⟩|⟨rfl,rfl,rfl⟩
    all_goals
     go_wp2_with fail
     try rw [Exit.noGoto_ret]
     go_ret;rw [HE.out];exact⟨rfl,u,c1,c2,H2.out.2.1,fun h=>by rw [HE.out]at h;cases h⟩
   ·have hb1:b1=true:=by cases b1;exact absurd (.inl rfl) hbad;rfl
    have hb2:b2=true:=by cases b2;exact absurd (.inr (.inl rfl)) hbad;rfl
    subst hb1 hb2;have hd3:d=0∨d=1∨d=2:=by
     have:¬d=3:=fun h=>hbad (.inr (.inr h));omega
    obtain⟨e1,D0,D1,D2⟩:=HD.out.2 (by trivial) (by trivial)
    have HL:Hid (S=blocksS (bitH s) (8*s.size) M t (decide (a=1)) X):=Lib.hid (by rw [HK.out,blocksS_one,e1,←hX])
    rw [←hX]at D0 D1 D2;dsimp only at D0 D1 D2;have hpr:=HPR.out (by trivial)
    have hpr2:=HPR2.out;dsimp only at hpr hpr2;have HPQ:Hid (q<p2):=Lib.hid (by omega)
    have ha2:a=0∨a=1:=by omega
    have CX:Hid (X.e=0→p2≤X.p∧X.p≤8*s.size∧X.o.length≤M):=Lib.hid fun h=>by
     have:Rn p2 (8*s.size) M X:=by
      rcases hd3 with h|h|h
      ·rw [D0 h];exact storedS_Rn hRn
      ·rw [D1 h];exact codedS_Rn hRn
      ·rw [D2 h];exact codedS_Rn (toldS_Rn hRn)
     exact⟨(this.1 h).1,(this.1 h).2,this.2⟩
    have CC:Hid ((d=0→Calls Tryz.prog 66 #[.pointer (some ⟨g,0,none⟩)] w2 fun e w'=>e= .returned (.int .i64 (X.e:Int))∧Dx g s M X u w2 w')∧
      (d=1→Calls Tryz.prog 67 #[.pointer (some ⟨g,0,none⟩)] w2 fun e w'=>e= .returned (.int .i64 (X.e:Int))∧Dx g s M X u w2 w')∧
      (d=2→Calls Tryz.prog 68 #[.pointer (some ⟨g,0,none⟩)] w2 fun e w'=>e= .returned (.int .i64 (X.e:Int))∧Dx g s M X u w2 w')):=Lib.hid (by
     have keep:∀{w'},Dn g s M X u c1 c2 w2 w'→Dx g s M X u w2 w':=fun {w'} ⟨v',m,hk⟩=>⟨v',c1,c2,m,fun h0=>⟨hk h0,by
      rcases H2.out.2.2.1 with h|⟨h1,h2⟩
      ·exact .inl h
      ·exact .inr ⟨h1.mv H2.out.1 m,h2.mv H2.out.1 m⟩⟩⟩
     refine⟨fun h=> ?_,fun h=> ?_,fun h=> ?_⟩
     ·rw [D0 h]at keep⊢
      exact(dstored_any g s M p2 O u c1 c2 w2 H2.out.1 HSZ.out hp2 HM.out HO.out).mono fun e w' ⟨h1,h2⟩=>⟨h1,keep h2⟩
     ·rw [D1 h]
      exact dsayFixed_any g s M p2 O u c1 c2 w2 H2.out.1 H2.out.2.2.1 HSZ.out hp2 HM.out HO.out
     ·rw [D2 h]at keep⊢
      exact(dsayTold_any g s M p2 O u c1 c2 w2 H2.out.1 H2.out.2.2.2 HSZ.out hp2 HM.out HO.out).mono fun e w' ⟨h1,h2⟩=>⟨h1,keep h2⟩)
    clear hbad HD HK D0 D1 D2 e1 hX hRn hpr hpr2 hl2 hl1;obtain⟨Xp,Xe,Xo⟩:=X;have hF:Hid (∀w3,Dx g s M ⟨Xp,Xe,Xo⟩ u w2 w3→Dx g s M ⟨Xp,Xe,Xo⟩ v w w3):=Lib.hid fun w3 ⟨v',d1,d2,m,hk⟩=>⟨v',d1,d2,H2.out.2.1.trans m,hk⟩;by_cases he:Xe=0
    ·subst he
     rcases ha2 with rfl|rfl
     ·have HS0:Hid (S=blocksS (bitH s) (8*s.size) M t false ⟨Xp,0,Xo⟩):=HL
      rcases hd3 with rfl|rfl|rfl
      ·have C:=CC.out.1 rfl
       clear CC HL;go_wp2_with fail;refine C.mono ?_;rintro e w3 ⟨rfl,hdx⟩;obtain⟨u3,d1,d2,m3,hk⟩:=hdx;obtain⟨h3,hf3⟩:=hk rfl;have H3:=Lib.hid (⟨h3,H2.out.2.1.trans m3,hf3,H2.out.2.2.2.mv H2.out.1 m3⟩:UW g s M Xp Xo u3 d1 d2 w3∧Mv g v w u3 w3∧FX d1 d2 w3∧TB w3);clear C m3 hk h3 hf3 hF;go_wp2_with fail;go_roundg t
       case measure=>have:=HGK.out;omega
       case rel=>exact⟨t,Xp,Xo,u3,d1,d2,rfl,rfl,HS0,(CX.out (by trivial)).2.1,by have:=(CX.out (by trivial)).1;have:=HPQ.out;have:=HQT.out;omega,Lib.hid (CX.out (by trivial)).2.2,H3⟩
      ·have C:=CC.out.2.1 rfl
       clear CC HL;go_wp2_with fail;refine C.mono ?_;rintro e w3 ⟨rfl,hdx⟩;obtain⟨u3,d1,d2,m3,hk⟩:=hdx;obtain⟨h3,hf3⟩:=hk rfl;have H3:=Lib.hid (⟨h3,H2.out.2.1.trans m3,hf3,H2.out.2.2.2.mv H2.out.1 m3⟩:UW g s M Xp Xo u3 d1 d2 w3∧Mv g v w u3 w3∧FX d1 d2 w3∧TB w3);clear C m3 hk h3 hf3 hF;go_wp2_with fail;go_roundg t
       case measure=>have:=HGK.out;omega
       case rel=>exact⟨t,Xp,Xo,u3,d1,d2,rfl,rfl,HS0,(CX.out (by trivial)).2.1,by have:=(CX.out (by trivial)).1;have:=HPQ.out;have:=HQT.out;omega,Lib.hid (CX.out (by trivial)).2.2,H3⟩
      ·have C:=CC.out.2.2 rfl
       clear CC HL;go_wp2_with fail;refine C.mono ?_;rintro e w3 ⟨rfl,hdx⟩;obtain⟨u3,d1,d2,m3,hk⟩:=hdx;obtain⟨h3,hf3⟩:=hk rfl;have H3:=Lib.hid (⟨h3,H2.out.2.1.trans m3,hf3,H2.out.2.2.2.mv H2.out.1 m3⟩:UW g s M Xp Xo u3 d1 d2 w3∧Mv g v w u3 w3∧FX d1 d2 w3∧TB w3);clear C m3 hk h3 hf3 hF;go_wp2_with fail;go_roundg t
       case measure=>have:=HGK.out;omega
       case rel=>exact⟨t,Xp,Xo,u3,d1,d2,rfl,rfl,HS0,(CX.out (by trivial)).2.1,by have:=(CX.out (by trivial)).1;have:=HPQ.out;have:=HQT.out;omega,Lib.hid (CX.out (by trivial)).2.2,H3⟩
     ·have HE:Hid (S=⟨Xp,0,Xo⟩):=Lib.hid (by rw [HL.out];exact blocksS_last)
      rcases hd3 with rfl|rfl|rfl
      ·have C:=CC.out.1 rfl
       clear CC HL;go_wp2_with fail;refine C.mono ?_;rintro e w3 ⟨rfl,hdx⟩;have HDX:=Lib.hid (hF.out w3 hdx);clear C hdx;go_wp2_with fail
       try rw [Exit.noGoto_ret]
       go_ret;rw [HE.out];exact⟨rfl,HDX.out⟩
      ·have C:=CC.out.2.1 rfl
       clear CC HL;go_wp2_with fail;refine C.mono ?_;rintro e w3 ⟨rfl,hdx⟩;have HDX:=Lib.hid (hF.out w3 hdx);clear C hdx;go_wp2_with fail
       try rw [Exit.noGoto_ret]
       go_ret;rw [HE.out];exact⟨rfl,HDX.out⟩
      ·have C:=CC.out.2.2 rfl
       clear CC HL;go_wp2_with fail;refine C.mono ?_;rintro e w3 ⟨rfl,hdx⟩;have HDX:=Lib.hid (hF.out w3 hdx);clear C hdx;go_wp2_with fail
       try rw [Exit.noGoto_ret]
       go_ret;rw [HE.out];exact⟨rfl,HDX.out⟩
    ·have HE:Hid (S=⟨Xp,Xe,Xo⟩):=Lib.hid (by rw [HL.out];exact blocksS_err he)
     have hei:¬(Xe:Int)=0:=by omega
     have hneb:((Xe:Int) !=0)=true:=by simp;omega
     clear he;rcases hd3 with rfl|rfl|rfl
     ·have C:=CC.out.1 rfl
      clear CC HL;go_wp2_with fail;refine C.mono ?_;rintro e w3 ⟨rfl,hdx⟩;have HDX:=Lib.hid (hF.out w3 hdx);clear C hdx;go_wp2_with fail
      try rw [Exit.noGoto_ret]
      go_ret;rw [HE.out];exact⟨rfl,HDX.out⟩
     ·have C:=CC.out.2.1 rfl
      clear CC HL;go_wp2_with fail;refine C.mono ?_;rintro e w3 ⟨rfl,hdx⟩;have HDX:=Lib.hid (hF.out w3 hdx);clear C hdx;go_wp2_with fail
      try rw [Exit.noGoto_ret]
      go_ret;rw [HE.out];exact⟨rfl,HDX.out⟩
     ·have C:=CC.out.2.2 rfl
      clear CC HL;go_wp2_with fail;refine C.mono ?_;rintro e w3 ⟨rfl,hdx⟩;have HDX:=Lib.hid (hF.out w3 hdx);clear C hdx;go_wp2_with fail
      try rw [Exit.noGoto_ret]
      go_ret;rw [HE.out];exact⟨rfl,HDX.out⟩
def B8 (x:Fl):Prop:=∀i,x.o.getD i 0<256
theorem B8.one {o:List Nat} (h:∀i,o.getD i 0<256) {b:Nat} (hb:b<256):∀i,(o++[b]).getD i 0<256:=fun i=>by
 by_cases hi:i<o.length
 ·have:=h i
  simp only [List.getD,List.getElem?_append_left hi]at this⊢;exact this
 ·simp only [List.getD,List.getElem?_append_right (Nat.le_of_not_lt hi)]
  cases h0:i-o.length with
  |zero=>exact hb
  |succ n=>show(0:Nat)<256;decide
theorem bitsS_B8 {B:Nat→Nat} {T n:Nat} {x:Fl} (h:B8 x):B8 (bitsS B T n x).2:=by unfold B8;rw [bitsS_o];exact h
theorem symS_o (B:Nat→Nat) (T:Nat) (l:Nat→Nat) (n:Nat) (x:Fl):(symS B T l n x).2.o=x.o:=by unfold symS;split;rfl;split<;>rfl
theorem symS_B8 {B:Nat→Nat} {T n:Nat} {l:Nat→Nat} {x:Fl} (h:B8 x):B8 (symS B T l n x).2:=by unfold B8;rw [symS_o];exact h
theorem sayS_B8 {M b:Nat} {x:Fl} (h:B8 x) (hb:b<256):B8 (sayS M b x):=by
 unfold sayS;split
 ·exact h
 ·split
  ·exact h
  ·exact B8.one h hb
theorem copyS_B8 {s:ByteArray} {T M:Nat}:∀(n:Nat) {x:Fl},B8 x→B8 (copyS (bitH s) T M n x)
 |0,_,h=>h
 |n+1,x,h=>by
  by_cases he:x.e≠0
  ·rw [copyS_err he];exact h
  ·rw [copyS_one (by omega)];exact copyS_B8 n (sayS_B8 (bitsS_B8 h) (bitsS_lt s T 8 x))
theorem backS_B8 {M d:Nat}:∀(n:Nat) {x:Fl},B8 x→B8 (backS M d n x)
 |0,_,h=>h
 |n+1,x,h=>by
  by_cases he:x.e≠0
  ·rw [backS_err he];exact h
  ·have e:backS M d (n+1) x=backS M d n (sayS M (x.o.getD (x.o.length-d) 0) x):=if_neg he
   rw [e];exact backS_B8 n (sayS_B8 h (h _))
theorem copiedS_B8 {B:Nat→Nat} {T M k:Nat} {l:Nat→Nat} {n:Nat} {x:Fl} (h:B8 x):B8 (copiedS B T M k l n x):=by
 unfold copiedS;split
 ·exact h
 ·dsimp only
  have h2:B8 (symS B T l n (bitsS B T (lengthV (k:Int)).2.1 x).2).2:=symS_B8 (bitsS_B8 h);split
  ·exact h2
  ·refine backS_B8 _ ?_
   split
   ·exact bitsS_B8 h2
   ·exact bitsS_B8 h2
theorem symbolsS_B8 {B:Nat→Nat} {T M:Nat} {l:Nat→Nat} {n:Nat} {g:Nat→Nat} {m:Nat}:∀(t:Nat) {x:Fl},B8 x→B8 (symbolsS B T M l n g m t x)
 |0,_,h=>h
 |t+1,x,h=>by
  unfold symbolsS;split
  ·exact h
  ·dsimp only
   have h2:B8 (symS B T l n x).2:=symS_B8 h;split
   ·exact h2
   ·split
    ·next hb=>exact symbolsS_B8 t (sayS_B8 h2 hb)
    ·exact symbolsS_B8 t (copiedS_B8 h2)
theorem codeS_o (l:List Nat) (x:Fl):(codeS l x).o=x.o:=by unfold codeS;split;rfl;split<;>rfl
theorem codedS_B8 {B:Nat→Nat} {T M:Nat} {a b:List Nat} {x:Fl} (h:B8 x):B8 (codedS B T M a b x):=symbolsS_B8 _ (by unfold B8;rw [codeS_o,codeS_o];exact h)
theorem toldS_o (B:Nat→Nat) (T:Nat) (x:Fl):(toldS B T x).2.o=x.o:=by
 have hb:∀n (x:Fl),(bitsS B T n x).2.o=x.o:=fun n x=>bitsS_o B T n x;have hf:∀n i f (x:Fl),(fewS B T n i f x).2.o=x.o:=fun n=>by
  induction n with
  |zero=>intro i f x;rfl
  |succ n ih=>intro i f x;exact(ih (i+1) _ _).trans (hb 3 x)
 have ht:∀f g all L (x:Fl),(tellS B T g all f L x).2.o=x.o:=fun f=>by
  induction f with
  |zero=>intro g all L x;rfl
  |succ f ih=>
   intro g all L x;unfold tellS;split
   ·rfl
   ·dsimp only
    split
    ·exact symS_o ..
    ·split
     ·rw [ih,symS_o]
     ·split
      ·exact symS_o ..
      ·split
       ·rw [ih,hb,symS_o]
       ·split
        ·rw [ih,hb,symS_o]
        ·rw [ih,hb,symS_o]
 rw [toldS_tail];have h0:∀(c:Prop) [Decidable c] (y:Fl),(if c then(⟨y.p,2,y.o⟩:Fl)else y).o=y.o:=fun c _ y=>by split<;>rfl
 have key:∀many far few (z:Fl),(tailT B T many far few z).2.o=z.o:=fun many far few z=>by
  unfold tailT;have e0:=h0 (z.e=0∧(many>286∨far>30)) z;generalize (if z.e=0∧(many>286∨far>30)then (⟨z.p,2,z.o⟩:Fl)else z)=y at e0;dsimp only;have e1:=ht (many+far+1) (fewS B T few 0 (fun _=>0) y).1 (many+far) [] (codeS ((List.range 19).map (fewS B T few 0 (fun _=>0) y).1) (fewS B T few 0 (fun _=>0) y).2);generalize tellS B T (fewS B T few 0 (fun _=>0) y).1 (many+far) (many+far+1) [] (codeS ((List.range 19).map (fewS B T few 0 (fun _=>0) y).1) (fewS B T few 0 (fun _=>0) y).2)=t at e1;have e2:=h0 (t.2.e=0∧(t.1.length>many+far∨t.1.getD 256 0=0)) t.2;generalize (if t.2.e=0∧(t.1.length>many+far∨t.1.getD 256 0=0)then (⟨t.2.p,2,t.2.o⟩:Fl)else t.2)=u at e2;have e3:u.o=z.o:=by rw [e2,e1,codeS_o,hf,e0]
  split
  ·exact e3
  ·exact e3
 rw [key,hb,hb,hb]
theorem storedS_B8 {s:ByteArray} {T M:Nat} {x:Fl} (h:B8 x):B8 (storedS (bitH s) T M x):=by
 have h1:B8 (bitsS (bitH s) T 16 (bitsS (bitH s) T 16 ⟨(x.p+7) /8*8,x.e,x.o⟩).2).2:=bitsS_B8 (bitsS_B8 h);unfold storedS;dsimp only;refine copyS_B8 _ ?_;split
 ·exact h1
 ·exact h1
theorem blockS_B8 {s:ByteArray} {T M:Nat} {x:Fl} (h:B8 x):B8 (blockS (bitH s) T M x).2:=by
 have h1:B8 (bitsS (bitH s) T 2 (bitsS (bitH s) T 1 x).2).2:=bitsS_B8 (bitsS_B8 h);unfold blockS;dsimp only;split
 ·exact h1
 ·split
  ·exact storedS_B8 h1
  ·split
   ·exact codedS_B8 h1
   ·split
    ·refine codedS_B8 ?_
     unfold B8;rw [toldS_o];exact h1
    ·exact h1
theorem blocksS_B8 {s:ByteArray} {T M:Nat}:∀(t:Nat) (b:Bool) {x:Fl},B8 x→B8 (blocksS (bitH s) T M t b x)
 |0,_,_,h=>h
 |t+1,b,x,h=>by
  unfold blocksS;split
  ·exact h
  ·exact blocksS_B8 t _ (blockS_B8 h)
def txtL (l:List Nat):ByteArray:=textN l.length fun i=>l.getD i 0
theorem UW.text {g:Nat} {s:ByteArray} {M p:Nat} {o:List Nat} {v k1 k2:Value} {w:World} (h:UW g s M p o v k1 k2 w) (hf:∀i,o.getD i 0<256):(convert 25 9 v).run Tryz.prog w= .ok (.string (txtL o)) w:=by
 refine run_string_of_own w 25 9 5 (g+1) Tryz.underlying25 Tryz.underlying5 Tryz.underlying9 v o.length ((List.range o.length).map fun i=>BitVec.ofNat 8 (o.getD i 0)) ?_;have e:((List.range o.length).map fun i=>BitVec.ofNat 8 (o.getD i 0)).map b8v=bys o:=by
  rw [List.map_map];unfold bys
  apply List.ext_getElem (by simp)
  intro i h1 h2;simp only [List.getElem_map,List.getElem_range];have hi:i<o.length:=by simpa using h2
  show Value.int .u8 (iw (BitVec.ofNat 8 (o.getD i 0)))=Value.int .u8 ((o[i]:Nat):Int)
  have e3:o.getD i 0=o[i]:=by simp [List.getD,List.getElem?_eq_getElem hi]
  rw [e3];unfold iw;rw [BitVec.toNat_ofNat,Nat.mod_eq_of_lt (show o[i]<2^8 by rw [←e3];exact hf i)]
 rw [e];exact h.own
set_option maxRecDepth 100000 in
set_option maxHeartbeats 8000000 in
theorem dopen_any (s:ByteArray) (most:Int) (w:World) (hT:TB w) (hs:s.size≤281474976710656):
  Calls Tryz.prog 22 #[.string s,.int .i64 most] w fun e w'=>e= .returned (.tuple #[.string (txtL (openS s most).1),.int .i64 ((openS s most).2.1:Int),.int .i64 ((openS s most).2.2:Int)])∧Below w.heap.size w w':=by
 have et:txtL []=ByteArray.empty:=by decide+kernel
 by_cases hbad:most<0∨most>1048576
 ·have e:openS s most=([],0,1):=if_pos hbad
  rw [e];dsimp only;rw [et];have hor:most<0∨(¬most<0∧most>1048576):=by omega
  have HB:Hid (Below w.heap.size w w):=Lib.hid (Below.refl _ _);clear hbad e;rcases hor with h1|⟨h1,h2⟩
  all_goals
   go_enter Tryz.func22,Tryz.ntmps22
   go_wp2_with fail;go_ret3;exact⟨rfl,HB.out⟩
 ·obtain⟨M,rfl⟩:∃M:Nat,most=M:=⟨most.toNat,by omega⟩
  have hM:M≤1048576:=by omega
  obtain⟨S,hS⟩:∃S,S=blocksS (bitH s) (8*s.size) M (8*s.size+1) false ⟨0,0,[]⟩:=⟨_,rfl⟩;have e:openS s (M:Int)=if S.e≠0 then([],0,S.e)else (S.o,(S.p+7) /8,0):=by
   unfold openS;rw [if_neg hbad,hS];rfl
  have hB8:B8 S:=by rw [hS];exact blocksS_B8 _ _ fun i=>by simp
  have hRn:Rn 0 (8*s.size) M S:=by
   rw [hS];have key:∀(t:Nat) (b:Bool) {x:Fl},Rn 0 (8*s.size) M x→Rn 0 (8*s.size) M (blocksS (bitH s) (8*s.size) M t b x):=fun t=>by
    induction t with
    |zero=>intro b x h;exact h
    |succ t ih=>
     intro b x h;unfold blocksS;split
     ·exact h
     ·refine ih _ ?_
      have h1:Rn 0 (8*s.size) M (bitsS (bitH s) (8*s.size) 2 (bitsS (bitH s) (8*s.size) 1 x).2).2:=bitsS_Rn (bitsS_Rn h);unfold blockS;dsimp only;split
      ·exact h1
      ·split
       ·exact storedS_Rn h1
       ·split
        ·exact codedS_Rn h1
        ·split
         ·exact codedS_Rn (toldS_Rn h1)
         ·exact h1.err (by decide)
   exact key _ _ ⟨fun _=>⟨Nat.le_refl 0,Nat.zero_le _⟩,Nat.zero_le _⟩
  have hb0:=(Below.refl _ w).alloc (Nat.le_refl _) (.cells #[.string s,.int .i64 0,.int .i64 (M:Int),.slice none 0 0,.pointer none,.pointer none] 84);have U0:UW w.heap.size s M 0 [] (.slice none 0 0) (.pointer none) (.pointer none) (w.alloc (.cells #[.string s,.int .i64 0,.int .i64 (M:Int),.slice none 0 0,.pointer none,.pointer none] 84)):=⟨Blk.new w _ _,rfl,.inl ⟨rfl,rfl⟩⟩;have C:=dblocks_any w.heap.size s M _ _ _ _ U0 (.inl ⟨rfl,rfl⟩) (hT.below hb0) hs hM;rw [←hS]at C;have hlo:¬(M:Int)<0:=by omega
  have hhi:¬(M:Int)>1048576:=by omega
  have HB0:=Lib.hid hb0;have HB8:=Lib.hid hB8;have HRN:=Lib.hid hRn;have HET:=Lib.hid et;have HSZ:=Lib.hid hs;clear hS hB8 hRn hb0 U0 hbad hM hs;by_cases he:S.e=0
  ·rw [e,if_neg (fun h=>h he)]
   clear e et;go_enter Tryz.func22,Tryz.ntmps22;go_wp2_with fail;refine C.mono ?_;rintro e w1 ⟨rfl,v2,c1,c2,m,hk⟩;have HM:Hid (Below w.heap.size w w1):=Lib.hid ⟨m.os.trans HB0.out.os,m.tape.trans HB0.out.tape,m.output.trans HB0.out.output,Nat.le_trans HB0.out.size m.size,fun k hk=>(m.block k (Nat.lt_of_lt_of_le hk HB0.out.size) (by omega) (fun e=>by cases e)).trans (HB0.out.block k hk)⟩
   obtain⟨h1,_⟩:=hk he;have hT2:=h1.text HB8.out;have hp:=HRN.out.1 he;have HW:Hid (Below w.heap.size w w1.drew):=Lib.hid HM.out.drew;have h2:=h1.drew;have HU:Hid (∀wx,wx=w1.drew→wx.cell? ⟨w.heap.size,3,none⟩=some v2∧(convert 25 9 v2).run Tryz.prog wx= .ok (.string (txtL S.o)) wx∧Calls Tryz.prog 39 #[.pointer (some ⟨w.heap.size,0,none⟩)] wx fun e w'=>e= .returned (.int .i64 (((S.p+7) /8:Nat):Int))∧wx=w'):=Lib.hid fun wx e=>by
    rw [e];exact⟨h2.c3,h2.text HB8.out,dbytes_any w.heap.size s M S.p S.o v2 c1 c2 w1.drew h2 (by have:=HSZ.out;omega)⟩
   rw [he];clear h1 hk m hT2 hp C h2 he;go_wp2_with fail;refine wp_region_anyL (Two 1000 1001 fun _ _ wx=>wx=w1.drew) (by kernel_rfl) rfl ?_
   refine tA (i:=0) rfl rfl ?_;simp only [pu];refine tA (i:=1) rfl rfl ?_;simp only [pu];refine tA (i:=2) rfl rfl ?_;simp only [pu];refine anyL_take (i:=3) (v:=v2) rfl (yl_other rfl (fun f1 f2 wx hT=> ?_)) ?_
   ·have cc:=(HU.out w1.drew rfl).1;rw [hT];refine lands_value (w:=w1.drew) ?_ rfl;go_simp;skip
   simp only [pu];refine anyL_take (i:=4) (v:= .string (txtL S.o)) rfl (yl_other rfl (fun f1 f2 wx hT=> ?_)) ?_
   ·have cc:=(HU.out w1.drew rfl).2.1;rw [hT];refine lands_value (w:=w1.drew) ?_ rfl;go_simp;skip
   simp only [pu];refine tA (i:=5) rfl rfl ?_;simp only [pu];refine tA (i:=6) rfl rfl ?_;simp only [pu];refine tA (i:=7) rfl rfl ?_;simp only [pu];refine anyL_take (i:=8) (v:= .int .i64 (((S.p+7) /8:Nat):Int)) rfl (yl_other rfl (fun f1 f2 wx hT=> ?_)) ?_
   ·refine lands_calls (f:=39) ((HU.out wx hT).2.2.mono fun e w' ⟨he,hb⟩=>⟨he,hb▸hT⟩) ?_;go_simp;skip
   simp only [pu];refine tA (i:=9) rfl rfl ?_;simp only [pu];refine tA (i:=10) rfl rfl ?_;simp only [pu];refine tA (i:=11) rfl rfl ?_;simp only [pu];refine anyL_done rfl ?_ _;intro wx hT;have hT:wx=w1.drew:=hT;subst hT;go_wp2_with fail;go_ret3;exact⟨rfl,HW.out⟩
  ·rw [e,if_pos he]
   dsimp only;rw [et];clear e et;go_enter Tryz.func22,Tryz.ntmps22;go_wp2_with fail;refine C.mono ?_;rintro e w1 ⟨rfl,v2,c1,c2,m,hk⟩;have HM:Hid (Below w.heap.size w w1):=Lib.hid ⟨m.os.trans HB0.out.os,m.tape.trans HB0.out.tape,m.output.trans HB0.out.output,Nat.le_trans HB0.out.size m.size,fun k hk=>(m.block k (Nat.lt_of_lt_of_le hk HB0.out.size) (by omega) (fun e=>by cases e)).trans (HB0.out.block k hk)⟩
   have hei:¬(S.e:Int)=0:=by omega
   have hneb:((S.e:Int) !=0)=true:=by simp;omega
   clear hk m C he;go_wp2_with fail;go_ret3;exact⟨rfl,HM.out⟩
end Go.Proofs.YtmhoejmgjbgddaaGreat
