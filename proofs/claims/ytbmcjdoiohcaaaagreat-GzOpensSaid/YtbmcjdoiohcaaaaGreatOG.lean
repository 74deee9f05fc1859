/- OG -/
import Derived.Test.YtbmcjdoiohcaaaaGreatOE
import Derived.Test.YtbmcjdoiohcaaaaGreatNV
set_option maxRecDepth 100000
namespace Go.Proofs.YtbmcjdoiohcaaaaGreat
open Go.RowKit
theorem Qhc (n:Nat) (w:World):
  Calls Tryz.prog 19 #[.int .u32 (n:Int)] w fun e w'=>e= .returned (.string (Qcg n))∧Below w.heap.size w w':=by
 have h0:IntKind.u8.wrap (n:Int)=((n%256:Nat):Int):=by rw [IntKind.wrap_u8'];omega
 have h1:IntKind.u8.wrap ((n:Int) /256)=((n /256%256:Nat):Int):=by rw [IntKind.wrap_u8'];omega
 have h2:IntKind.u8.wrap ((n:Int) /65536)=((n /65536%256:Nat):Int):=by rw [IntKind.wrap_u8'];omega
 have h3:IntKind.u8.wrap ((n:Int) /16777216)=((n /16777216%256:Nat):Int):=by rw [IntKind.wrap_u8'];omega
 have R:=Qz0 (n%256) (n /256%256) (n /65536%256) (n /16777216%256) (Nat.mod_lt _ (by decide)) (Nat.mod_lt _ (by decide)) (Nat.mod_lt _ (by decide)) (Nat.mod_lt _ (by decide)) w
 have hT:Qcg n=txtL [n%256,n /256%256,n /65536%256,n /16777216%256]:=rfl;rw [←hT]at R;clear hT;have hal:=(Below.refl _ w).alloc Ql (.cells #[.int .u8 ((n%256:Nat):Int),.int .u8 ((n /256%256:Nat):Int),.int .u8 ((n /65536%256:Nat):Int),.int .u8 ((n /16777216%256:Nat):Int)] 5);generalize n%256=a at*;generalize n /256%256=b at*;generalize n /65536%256=c at*;generalize n /16777216%256=d at*;go_enter Tryz.func19,Tryz.ntmps19;go_wp2_with fail;go_ret;exact⟨rfl,hal⟩
theorem Qp6 (s:ByteArray) (hs:s.size≤10000) (w:World):
  Calls Tryz.prog 11 #[.string s] w fun e w'=>e= .returned (.string (gzT s))∧Below w.heap.size w w':=by
 have C1:=fun wx=>Qvu s wx (by omega)
 have C2:=fun wx=>Qj6 s wx (by omega)
 have C3:=fun wx=>Qhc (Qb7 0#32 s).toNat wx;have C4:=fun wx=>Qhc s.size wx;have hu:IntKind.u32.wrap (s.size:Int)=(s.size:Int):=by rw [IntKind.wrap_u32'];omega
 have hP:=Qj2 s (by omega)
 have hi:iw (Qb7 0#32 s)=((Qb7 0#32 s).toNat:Int):=by unfold iw;rfl
 rw [hi]at C2;have k4:∀n,(Qcg n).size=4:=fun n=>Qb1 _ _;have HT:Hid (gzT s=⟨#[31,139,8,0,0,0,0,0,0,255]⟩++Qgl s++Qcg (Qb7 0#32 s).toNat++Qcg s.size):=Qh (by
  show Qob++Qgl s++(Qcg (Qb7 0#32 s).toNat++Qcg s.size)=_
  rw [←ByteArray.append_assoc];rfl)
 have s1:=k4 (Qb7 0#32 s).toNat;have s2:=k4 s.size;generalize Qgl s=A at*;generalize Qcg (Qb7 0#32 s).toNat=B at*;generalize Qcg s.size=C at*;generalize (Qb7 0#32 s).toNat=c at*;have h10:(⟨#[31,139,8,0,0,0,0,0,0,255]⟩:ByteArray).size=10:=rfl;have hz1:¬((((⟨#[31,139,8,0,0,0,0,0,0,255]⟩:ByteArray).size+A.size:Nat):Int))>9223372036854775807:=by rw [h10];omega
 have hz2:¬((((⟨#[31,139,8,0,0,0,0,0,0,255]⟩:ByteArray)++A).size+B.size:Nat):Int)>9223372036854775807:=by rw [Qc5,h10];omega
 have hz3:¬((((⟨#[31,139,8,0,0,0,0,0,0,255]⟩:ByteArray)++A++B).size+C.size:Nat):Int)>9223372036854775807:=by rw [Qc5,Qc5,h10];omega
 clear hi k4 h10 s1 s2;go_enter Tryz.func11,Tryz.ntmps11;go_wp2_with fail;refine(C1 _).mono ?_;rintro e w1 ⟨rfl,b1⟩;go_wp2_with fail;refine(C2 _).mono ?_;rintro e w2 ⟨rfl,rfl⟩;go_wp2_with fail;refine(C3 _).mono ?_;rintro e w3 ⟨rfl,b3⟩;have b3:=b1.trans (b3.mono b1.size);clear b1;go_wp2_with fail;refine(C4 _).mono ?_;rintro e w4 ⟨rfl,b4⟩;have b4:=b3.trans (b4.mono b3.size);clear b3;go_wp2_with fail;go_ret;rw [HT.out];exact⟨rfl,b4⟩
end Go.Proofs.YtbmcjdoiohcaaaaGreat
