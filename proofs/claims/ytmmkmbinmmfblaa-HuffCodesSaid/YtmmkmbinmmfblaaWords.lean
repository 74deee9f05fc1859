/- Words of 8, 32 and 64 bits as the walk meets them: a word x is the integer iw x; each operation on iw's is an iw again. -/
import Derived.WalkKit
import Derived.WalkSpells
import Derived.WalkLawsBesides
import Derived.Lib.Hide
namespace Go.Proofs.Ytmmkmbinmmfblaa
open Go.RowKit
def iw {n : Nat} (x : BitVec n) : Int := (x.toNat : Int)
def addw {n : Nat} (x y : BitVec n) : BitVec n := x + y
def subw {n : Nat} (x y : BitVec n) : BitVec n := x - y
def mulw {n : Nat} (x y : BitVec n) : BitVec n := x * y
def andw {n : Nat} (x y : BitVec n) : BitVec n := x &&& y
def orw {n : Nat} (x y : BitVec n) : BitVec n := x ||| y
def xorw {n : Nat} (x y : BitVec n) : BitVec n := x ^^^ y
def notw {n : Nat} (x : BitVec n) : BitVec n := ~~~ x
def shlw {n : Nat} (x : BitVec n) (s : Nat) : BitVec n := x <<< s
def shrw {n : Nat} (x : BitVec n) (s : Nat) : BitVec n := x >>> s
def castw {n : Nat} (m : Nat) (x : BitVec n) : BitVec m := BitVec.ofNat m x.toNat
def litw (n k : Nat) : BitVec n := BitVec.ofNat n k
theorem iw_lo {n : Nat} (x : BitVec n) : 0 ≤ iw x := by unfold iw; omega
theorem iw_lt {n : Nat} (x : BitVec n) : iw x < 2 ^ n := by unfold iw; have := x.isLt; exact_mod_cast this
theorem wrap_of_nat32 (m : Nat) : IntKind.u32.wrap (m : Int) = iw (BitVec.ofNat 32 m) := by
  simp [IntKind.wrap_u32', iw]
theorem wrap_of_nat64 (m : Nat) : IntKind.u64.wrap (m : Int) = iw (BitVec.ofNat 64 m) := by
  simp [IntKind.wrap_u64, iw]
theorem wrap_of_nat8 (m : Nat) : IntKind.u8.wrap (m : Int) = iw (BitVec.ofNat 8 m) := by
  simp [IntKind.wrap_u8', iw]
@[go_sem] theorem wrap32_add (x y : BitVec 32) : IntKind.u32.wrap (iw x + iw y) = iw (addw x y) := by
  simp only [iw, addw, IntKind.wrap_u32', BitVec.toNat_add]; omega
@[go_sem] theorem wrap32_sub (x y : BitVec 32) : IntKind.u32.wrap (iw x - iw y) = iw (subw x y) := by
  have := x.isLt; have := y.isLt
  simp only [iw, subw, IntKind.wrap_u32', BitVec.toNat_sub]; omega
@[go_sem] theorem wrap32_mul (x y : BitVec 32) : IntKind.u32.wrap (iw x * iw y) = iw (mulw x y) := by
  simp only [iw, mulw, IntKind.wrap_u32', BitVec.toNat_mul]; rw [Int.natCast_emod, Int.natCast_mul]; rfl
@[go_sem] theorem wrap64_add (x y : BitVec 64) : IntKind.u64.wrap (iw x + iw y) = iw (addw x y) := by
  simp only [iw, addw, IntKind.wrap_u64, BitVec.toNat_add]; omega
@[go_sem] theorem wrap64_sub (x y : BitVec 64) : IntKind.u64.wrap (iw x - iw y) = iw (subw x y) := by
  have := x.isLt; have := y.isLt
  simp only [iw, subw, IntKind.wrap_u64, BitVec.toNat_sub]; omega
@[go_sem] theorem wrap64_mul (x y : BitVec 64) : IntKind.u64.wrap (iw x * iw y) = iw (mulw x y) := by
  simp only [iw, mulw, IntKind.wrap_u64, BitVec.toNat_mul]; rw [Int.natCast_emod, Int.natCast_mul]; rfl
@[go_sem] theorem and32 (x y : BitVec 32) : bits .and .u32 (iw x) (iw y) = iw (andw x y) := by
  simp only [iw, andw, BitVec.toNat_and]; exact u32_and_nat _ _ x.isLt y.isLt
@[go_sem] theorem or32 (x y : BitVec 32) : bits .or .u32 (iw x) (iw y) = iw (orw x y) := by
  simp only [iw, orw, BitVec.toNat_or]; exact u32_or_nat _ _ x.isLt y.isLt
@[go_sem] theorem xor32 (x y : BitVec 32) : bits .xor .u32 (iw x) (iw y) = iw (xorw x y) := by
  simp only [iw, xorw, BitVec.toNat_xor]; exact u32_xor_nat _ _ x.isLt y.isLt
@[go_sem] theorem and64 (x y : BitVec 64) : bits .and .u64 (iw x) (iw y) = iw (andw x y) := by
  simp only [iw, andw, BitVec.toNat_and]; exact u64_and_nat _ _ x.isLt y.isLt
@[go_sem] theorem or64 (x y : BitVec 64) : bits .or .u64 (iw x) (iw y) = iw (orw x y) := by
  simp only [iw, orw, BitVec.toNat_or]; exact u64_or_nat _ _ x.isLt y.isLt
@[go_sem] theorem xor64 (x y : BitVec 64) : bits .xor .u64 (iw x) (iw y) = iw (xorw x y) := by
  simp only [iw, xorw, BitVec.toNat_xor]; exact u64_xor_nat _ _ x.isLt y.isLt
@[go_sem] theorem iw_shr {n : Nat} (x : BitVec n) (s : Nat) : iw x / 2 ^ s = iw (shrw x s) := by
  simp only [iw, shrw, BitVec.toNat_ushiftRight, Nat.shiftRight_eq_div_pow]
  rw [Int.natCast_ediv, Int.natCast_pow]; rfl
@[go_sem] theorem iw_shl32 (x : BitVec 32) (s : Nat) : iw x * 2 ^ s % 4294967296 = iw (shlw x s) := by
  simp only [iw, shlw, BitVec.toNat_shiftLeft, Nat.shiftLeft_eq]
  rw [Int.natCast_emod, Int.natCast_mul, Int.natCast_pow]; rfl
@[go_sem] theorem iw_shl64 (x : BitVec 64) (s : Nat) : iw x * 2 ^ s % 18446744073709551616 = iw (shlw x s) := by
  simp only [iw, shlw, BitVec.toNat_shiftLeft, Nat.shiftLeft_eq]
  rw [Int.natCast_emod, Int.natCast_mul, Int.natCast_pow]; rfl
@[go_sem] theorem iw_shl32_1 (x : BitVec 32) : iw x * 2 % 4294967296 = iw (shlw x 1) := iw_shl32 x 1
@[go_sem] theorem iw_shl32_2 (x : BitVec 32) : iw x * 4 % 4294967296 = iw (shlw x 2) := iw_shl32 x 2
@[go_sem] theorem iw_shl32_3 (x : BitVec 32) : iw x * 8 % 4294967296 = iw (shlw x 3) := iw_shl32 x 3
@[go_sem] theorem iw_shl32_4 (x : BitVec 32) : iw x * 16 % 4294967296 = iw (shlw x 4) := iw_shl32 x 4
@[go_sem] theorem iw_shl32_5 (x : BitVec 32) : iw x * 32 % 4294967296 = iw (shlw x 5) := iw_shl32 x 5
@[go_sem] theorem iw_shl32_6 (x : BitVec 32) : iw x * 64 % 4294967296 = iw (shlw x 6) := iw_shl32 x 6
@[go_sem] theorem iw_shl32_7 (x : BitVec 32) : iw x * 128 % 4294967296 = iw (shlw x 7) := iw_shl32 x 7
@[go_sem] theorem iw_shl32_8 (x : BitVec 32) : iw x * 256 % 4294967296 = iw (shlw x 8) := iw_shl32 x 8
@[go_sem] theorem iw_shl32_9 (x : BitVec 32) : iw x * 512 % 4294967296 = iw (shlw x 9) := iw_shl32 x 9
@[go_sem] theorem iw_shl32_10 (x : BitVec 32) : iw x * 1024 % 4294967296 = iw (shlw x 10) := iw_shl32 x 10
@[go_sem] theorem iw_shl32_11 (x : BitVec 32) : iw x * 2048 % 4294967296 = iw (shlw x 11) := iw_shl32 x 11
@[go_sem] theorem iw_shl32_12 (x : BitVec 32) : iw x * 4096 % 4294967296 = iw (shlw x 12) := iw_shl32 x 12
@[go_sem] theorem iw_shl32_13 (x : BitVec 32) : iw x * 8192 % 4294967296 = iw (shlw x 13) := iw_shl32 x 13
@[go_sem] theorem iw_shl32_14 (x : BitVec 32) : iw x * 16384 % 4294967296 = iw (shlw x 14) := iw_shl32 x 14
@[go_sem] theorem iw_shl32_15 (x : BitVec 32) : iw x * 32768 % 4294967296 = iw (shlw x 15) := iw_shl32 x 15
@[go_sem] theorem iw_shl32_16 (x : BitVec 32) : iw x * 65536 % 4294967296 = iw (shlw x 16) := iw_shl32 x 16
@[go_sem] theorem iw_shl32_17 (x : BitVec 32) : iw x * 131072 % 4294967296 = iw (shlw x 17) := iw_shl32 x 17
@[go_sem] theorem iw_shl32_18 (x : BitVec 32) : iw x * 262144 % 4294967296 = iw (shlw x 18) := iw_shl32 x 18
@[go_sem] theorem iw_shl32_19 (x : BitVec 32) : iw x * 524288 % 4294967296 = iw (shlw x 19) := iw_shl32 x 19
@[go_sem] theorem iw_shl32_20 (x : BitVec 32) : iw x * 1048576 % 4294967296 = iw (shlw x 20) := iw_shl32 x 20
@[go_sem] theorem iw_shl32_21 (x : BitVec 32) : iw x * 2097152 % 4294967296 = iw (shlw x 21) := iw_shl32 x 21
@[go_sem] theorem iw_shl32_22 (x : BitVec 32) : iw x * 4194304 % 4294967296 = iw (shlw x 22) := iw_shl32 x 22
@[go_sem] theorem iw_shl32_23 (x : BitVec 32) : iw x * 8388608 % 4294967296 = iw (shlw x 23) := iw_shl32 x 23
@[go_sem] theorem iw_shl32_24 (x : BitVec 32) : iw x * 16777216 % 4294967296 = iw (shlw x 24) := iw_shl32 x 24
@[go_sem] theorem iw_shl32_25 (x : BitVec 32) : iw x * 33554432 % 4294967296 = iw (shlw x 25) := iw_shl32 x 25
@[go_sem] theorem iw_shl32_26 (x : BitVec 32) : iw x * 67108864 % 4294967296 = iw (shlw x 26) := iw_shl32 x 26
@[go_sem] theorem iw_shl32_27 (x : BitVec 32) : iw x * 134217728 % 4294967296 = iw (shlw x 27) := iw_shl32 x 27
@[go_sem] theorem iw_shl32_28 (x : BitVec 32) : iw x * 268435456 % 4294967296 = iw (shlw x 28) := iw_shl32 x 28
@[go_sem] theorem iw_shl32_29 (x : BitVec 32) : iw x * 536870912 % 4294967296 = iw (shlw x 29) := iw_shl32 x 29
@[go_sem] theorem iw_shl32_30 (x : BitVec 32) : iw x * 1073741824 % 4294967296 = iw (shlw x 30) := iw_shl32 x 30
@[go_sem] theorem iw_shl32_31 (x : BitVec 32) : iw x * 2147483648 % 4294967296 = iw (shlw x 31) := iw_shl32 x 31
@[go_sem] theorem iw_shl64_1 (x : BitVec 64) : iw x * 2 % 18446744073709551616 = iw (shlw x 1) := iw_shl64 x 1
@[go_sem] theorem iw_shl64_2 (x : BitVec 64) : iw x * 4 % 18446744073709551616 = iw (shlw x 2) := iw_shl64 x 2
@[go_sem] theorem iw_shl64_3 (x : BitVec 64) : iw x * 8 % 18446744073709551616 = iw (shlw x 3) := iw_shl64 x 3
@[go_sem] theorem iw_shl64_4 (x : BitVec 64) : iw x * 16 % 18446744073709551616 = iw (shlw x 4) := iw_shl64 x 4
@[go_sem] theorem iw_shl64_5 (x : BitVec 64) : iw x * 32 % 18446744073709551616 = iw (shlw x 5) := iw_shl64 x 5
@[go_sem] theorem iw_shl64_6 (x : BitVec 64) : iw x * 64 % 18446744073709551616 = iw (shlw x 6) := iw_shl64 x 6
@[go_sem] theorem iw_shl64_7 (x : BitVec 64) : iw x * 128 % 18446744073709551616 = iw (shlw x 7) := iw_shl64 x 7
@[go_sem] theorem iw_shl64_8 (x : BitVec 64) : iw x * 256 % 18446744073709551616 = iw (shlw x 8) := iw_shl64 x 8
@[go_sem] theorem iw_shl64_9 (x : BitVec 64) : iw x * 512 % 18446744073709551616 = iw (shlw x 9) := iw_shl64 x 9
@[go_sem] theorem iw_shl64_10 (x : BitVec 64) : iw x * 1024 % 18446744073709551616 = iw (shlw x 10) := iw_shl64 x 10
@[go_sem] theorem iw_shl64_11 (x : BitVec 64) : iw x * 2048 % 18446744073709551616 = iw (shlw x 11) := iw_shl64 x 11
@[go_sem] theorem iw_shl64_12 (x : BitVec 64) : iw x * 4096 % 18446744073709551616 = iw (shlw x 12) := iw_shl64 x 12
@[go_sem] theorem iw_shl64_13 (x : BitVec 64) : iw x * 8192 % 18446744073709551616 = iw (shlw x 13) := iw_shl64 x 13
@[go_sem] theorem iw_shl64_14 (x : BitVec 64) : iw x * 16384 % 18446744073709551616 = iw (shlw x 14) := iw_shl64 x 14
@[go_sem] theorem iw_shl64_15 (x : BitVec 64) : iw x * 32768 % 18446744073709551616 = iw (shlw x 15) := iw_shl64 x 15
@[go_sem] theorem iw_shl64_16 (x : BitVec 64) : iw x * 65536 % 18446744073709551616 = iw (shlw x 16) := iw_shl64 x 16
@[go_sem] theorem iw_shl64_17 (x : BitVec 64) : iw x * 131072 % 18446744073709551616 = iw (shlw x 17) := iw_shl64 x 17
@[go_sem] theorem iw_shl64_18 (x : BitVec 64) : iw x * 262144 % 18446744073709551616 = iw (shlw x 18) := iw_shl64 x 18
@[go_sem] theorem iw_shl64_19 (x : BitVec 64) : iw x * 524288 % 18446744073709551616 = iw (shlw x 19) := iw_shl64 x 19
@[go_sem] theorem iw_shl64_20 (x : BitVec 64) : iw x * 1048576 % 18446744073709551616 = iw (shlw x 20) := iw_shl64 x 20
@[go_sem] theorem iw_shl64_21 (x : BitVec 64) : iw x * 2097152 % 18446744073709551616 = iw (shlw x 21) := iw_shl64 x 21
@[go_sem] theorem iw_shl64_22 (x : BitVec 64) : iw x * 4194304 % 18446744073709551616 = iw (shlw x 22) := iw_shl64 x 22
@[go_sem] theorem iw_shl64_23 (x : BitVec 64) : iw x * 8388608 % 18446744073709551616 = iw (shlw x 23) := iw_shl64 x 23
@[go_sem] theorem iw_shl64_24 (x : BitVec 64) : iw x * 16777216 % 18446744073709551616 = iw (shlw x 24) := iw_shl64 x 24
@[go_sem] theorem iw_shl64_25 (x : BitVec 64) : iw x * 33554432 % 18446744073709551616 = iw (shlw x 25) := iw_shl64 x 25
@[go_sem] theorem iw_shl64_26 (x : BitVec 64) : iw x * 67108864 % 18446744073709551616 = iw (shlw x 26) := iw_shl64 x 26
@[go_sem] theorem iw_shl64_27 (x : BitVec 64) : iw x * 134217728 % 18446744073709551616 = iw (shlw x 27) := iw_shl64 x 27
@[go_sem] theorem iw_shl64_28 (x : BitVec 64) : iw x * 268435456 % 18446744073709551616 = iw (shlw x 28) := iw_shl64 x 28
@[go_sem] theorem iw_shl64_29 (x : BitVec 64) : iw x * 536870912 % 18446744073709551616 = iw (shlw x 29) := iw_shl64 x 29
@[go_sem] theorem iw_shl64_30 (x : BitVec 64) : iw x * 1073741824 % 18446744073709551616 = iw (shlw x 30) := iw_shl64 x 30
@[go_sem] theorem iw_shl64_31 (x : BitVec 64) : iw x * 2147483648 % 18446744073709551616 = iw (shlw x 31) := iw_shl64 x 31
@[go_sem] theorem iw_shl64_32 (x : BitVec 64) : iw x * 4294967296 % 18446744073709551616 = iw (shlw x 32) := iw_shl64 x 32
@[go_sem] theorem iw_shl64_33 (x : BitVec 64) : iw x * 8589934592 % 18446744073709551616 = iw (shlw x 33) := iw_shl64 x 33
@[go_sem] theorem iw_shl64_34 (x : BitVec 64) : iw x * 17179869184 % 18446744073709551616 = iw (shlw x 34) := iw_shl64 x 34
@[go_sem] theorem iw_shl64_35 (x : BitVec 64) : iw x * 34359738368 % 18446744073709551616 = iw (shlw x 35) := iw_shl64 x 35
@[go_sem] theorem iw_shl64_36 (x : BitVec 64) : iw x * 68719476736 % 18446744073709551616 = iw (shlw x 36) := iw_shl64 x 36
@[go_sem] theorem iw_shl64_37 (x : BitVec 64) : iw x * 137438953472 % 18446744073709551616 = iw (shlw x 37) := iw_shl64 x 37
@[go_sem] theorem iw_shl64_38 (x : BitVec 64) : iw x * 274877906944 % 18446744073709551616 = iw (shlw x 38) := iw_shl64 x 38
@[go_sem] theorem iw_shl64_39 (x : BitVec 64) : iw x * 549755813888 % 18446744073709551616 = iw (shlw x 39) := iw_shl64 x 39
@[go_sem] theorem iw_shl64_40 (x : BitVec 64) : iw x * 1099511627776 % 18446744073709551616 = iw (shlw x 40) := iw_shl64 x 40
@[go_sem] theorem iw_shl64_41 (x : BitVec 64) : iw x * 2199023255552 % 18446744073709551616 = iw (shlw x 41) := iw_shl64 x 41
@[go_sem] theorem iw_shl64_42 (x : BitVec 64) : iw x * 4398046511104 % 18446744073709551616 = iw (shlw x 42) := iw_shl64 x 42
@[go_sem] theorem iw_shl64_43 (x : BitVec 64) : iw x * 8796093022208 % 18446744073709551616 = iw (shlw x 43) := iw_shl64 x 43
@[go_sem] theorem iw_shl64_44 (x : BitVec 64) : iw x * 17592186044416 % 18446744073709551616 = iw (shlw x 44) := iw_shl64 x 44
@[go_sem] theorem iw_shl64_45 (x : BitVec 64) : iw x * 35184372088832 % 18446744073709551616 = iw (shlw x 45) := iw_shl64 x 45
@[go_sem] theorem iw_shl64_46 (x : BitVec 64) : iw x * 70368744177664 % 18446744073709551616 = iw (shlw x 46) := iw_shl64 x 46
@[go_sem] theorem iw_shl64_47 (x : BitVec 64) : iw x * 140737488355328 % 18446744073709551616 = iw (shlw x 47) := iw_shl64 x 47
@[go_sem] theorem iw_shl64_48 (x : BitVec 64) : iw x * 281474976710656 % 18446744073709551616 = iw (shlw x 48) := iw_shl64 x 48
@[go_sem] theorem iw_shl64_49 (x : BitVec 64) : iw x * 562949953421312 % 18446744073709551616 = iw (shlw x 49) := iw_shl64 x 49
@[go_sem] theorem iw_shl64_50 (x : BitVec 64) : iw x * 1125899906842624 % 18446744073709551616 = iw (shlw x 50) := iw_shl64 x 50
@[go_sem] theorem iw_shl64_51 (x : BitVec 64) : iw x * 2251799813685248 % 18446744073709551616 = iw (shlw x 51) := iw_shl64 x 51
@[go_sem] theorem iw_shl64_52 (x : BitVec 64) : iw x * 4503599627370496 % 18446744073709551616 = iw (shlw x 52) := iw_shl64 x 52
@[go_sem] theorem iw_shl64_53 (x : BitVec 64) : iw x * 9007199254740992 % 18446744073709551616 = iw (shlw x 53) := iw_shl64 x 53
@[go_sem] theorem iw_shl64_54 (x : BitVec 64) : iw x * 18014398509481984 % 18446744073709551616 = iw (shlw x 54) := iw_shl64 x 54
@[go_sem] theorem iw_shl64_55 (x : BitVec 64) : iw x * 36028797018963968 % 18446744073709551616 = iw (shlw x 55) := iw_shl64 x 55
@[go_sem] theorem iw_shl64_56 (x : BitVec 64) : iw x * 72057594037927936 % 18446744073709551616 = iw (shlw x 56) := iw_shl64 x 56
@[go_sem] theorem iw_shl64_57 (x : BitVec 64) : iw x * 144115188075855872 % 18446744073709551616 = iw (shlw x 57) := iw_shl64 x 57
@[go_sem] theorem iw_shl64_58 (x : BitVec 64) : iw x * 288230376151711744 % 18446744073709551616 = iw (shlw x 58) := iw_shl64 x 58
@[go_sem] theorem iw_shl64_59 (x : BitVec 64) : iw x * 576460752303423488 % 18446744073709551616 = iw (shlw x 59) := iw_shl64 x 59
@[go_sem] theorem iw_shl64_60 (x : BitVec 64) : iw x * 1152921504606846976 % 18446744073709551616 = iw (shlw x 60) := iw_shl64 x 60
@[go_sem] theorem iw_shl64_61 (x : BitVec 64) : iw x * 2305843009213693952 % 18446744073709551616 = iw (shlw x 61) := iw_shl64 x 61
@[go_sem] theorem iw_shl64_62 (x : BitVec 64) : iw x * 4611686018427387904 % 18446744073709551616 = iw (shlw x 62) := iw_shl64 x 62
@[go_sem] theorem iw_shl64_63 (x : BitVec 64) : iw x * 9223372036854775808 % 18446744073709551616 = iw (shlw x 63) := iw_shl64 x 63
@[go_sem] theorem iw_shr_1 {n : Nat} (x : BitVec n) : iw x / 2 = iw (shrw x 1) := iw_shr x 1
@[go_sem] theorem iw_shr_2 {n : Nat} (x : BitVec n) : iw x / 4 = iw (shrw x 2) := iw_shr x 2
@[go_sem] theorem iw_shr_3 {n : Nat} (x : BitVec n) : iw x / 8 = iw (shrw x 3) := iw_shr x 3
@[go_sem] theorem iw_shr_4 {n : Nat} (x : BitVec n) : iw x / 16 = iw (shrw x 4) := iw_shr x 4
@[go_sem] theorem iw_shr_5 {n : Nat} (x : BitVec n) : iw x / 32 = iw (shrw x 5) := iw_shr x 5
@[go_sem] theorem iw_shr_6 {n : Nat} (x : BitVec n) : iw x / 64 = iw (shrw x 6) := iw_shr x 6
@[go_sem] theorem iw_shr_7 {n : Nat} (x : BitVec n) : iw x / 128 = iw (shrw x 7) := iw_shr x 7
@[go_sem] theorem iw_shr_8 {n : Nat} (x : BitVec n) : iw x / 256 = iw (shrw x 8) := iw_shr x 8
@[go_sem] theorem iw_shr_9 {n : Nat} (x : BitVec n) : iw x / 512 = iw (shrw x 9) := iw_shr x 9
@[go_sem] theorem iw_shr_10 {n : Nat} (x : BitVec n) : iw x / 1024 = iw (shrw x 10) := iw_shr x 10
@[go_sem] theorem iw_shr_11 {n : Nat} (x : BitVec n) : iw x / 2048 = iw (shrw x 11) := iw_shr x 11
@[go_sem] theorem iw_shr_12 {n : Nat} (x : BitVec n) : iw x / 4096 = iw (shrw x 12) := iw_shr x 12
@[go_sem] theorem iw_shr_13 {n : Nat} (x : BitVec n) : iw x / 8192 = iw (shrw x 13) := iw_shr x 13
@[go_sem] theorem iw_shr_14 {n : Nat} (x : BitVec n) : iw x / 16384 = iw (shrw x 14) := iw_shr x 14
@[go_sem] theorem iw_shr_15 {n : Nat} (x : BitVec n) : iw x / 32768 = iw (shrw x 15) := iw_shr x 15
@[go_sem] theorem iw_shr_16 {n : Nat} (x : BitVec n) : iw x / 65536 = iw (shrw x 16) := iw_shr x 16
@[go_sem] theorem iw_shr_17 {n : Nat} (x : BitVec n) : iw x / 131072 = iw (shrw x 17) := iw_shr x 17
@[go_sem] theorem iw_shr_18 {n : Nat} (x : BitVec n) : iw x / 262144 = iw (shrw x 18) := iw_shr x 18
@[go_sem] theorem iw_shr_19 {n : Nat} (x : BitVec n) : iw x / 524288 = iw (shrw x 19) := iw_shr x 19
@[go_sem] theorem iw_shr_20 {n : Nat} (x : BitVec n) : iw x / 1048576 = iw (shrw x 20) := iw_shr x 20
@[go_sem] theorem iw_shr_21 {n : Nat} (x : BitVec n) : iw x / 2097152 = iw (shrw x 21) := iw_shr x 21
@[go_sem] theorem iw_shr_22 {n : Nat} (x : BitVec n) : iw x / 4194304 = iw (shrw x 22) := iw_shr x 22
@[go_sem] theorem iw_shr_23 {n : Nat} (x : BitVec n) : iw x / 8388608 = iw (shrw x 23) := iw_shr x 23
@[go_sem] theorem iw_shr_24 {n : Nat} (x : BitVec n) : iw x / 16777216 = iw (shrw x 24) := iw_shr x 24
@[go_sem] theorem iw_shr_25 {n : Nat} (x : BitVec n) : iw x / 33554432 = iw (shrw x 25) := iw_shr x 25
@[go_sem] theorem iw_shr_26 {n : Nat} (x : BitVec n) : iw x / 67108864 = iw (shrw x 26) := iw_shr x 26
@[go_sem] theorem iw_shr_27 {n : Nat} (x : BitVec n) : iw x / 134217728 = iw (shrw x 27) := iw_shr x 27
@[go_sem] theorem iw_shr_28 {n : Nat} (x : BitVec n) : iw x / 268435456 = iw (shrw x 28) := iw_shr x 28
@[go_sem] theorem iw_shr_29 {n : Nat} (x : BitVec n) : iw x / 536870912 = iw (shrw x 29) := iw_shr x 29
@[go_sem] theorem iw_shr_30 {n : Nat} (x : BitVec n) : iw x / 1073741824 = iw (shrw x 30) := iw_shr x 30
@[go_sem] theorem iw_shr_31 {n : Nat} (x : BitVec n) : iw x / 2147483648 = iw (shrw x 31) := iw_shr x 31
@[go_sem] theorem iw_shr_32 {n : Nat} (x : BitVec n) : iw x / 4294967296 = iw (shrw x 32) := iw_shr x 32
@[go_sem] theorem iw_shr_33 {n : Nat} (x : BitVec n) : iw x / 8589934592 = iw (shrw x 33) := iw_shr x 33
@[go_sem] theorem iw_shr_34 {n : Nat} (x : BitVec n) : iw x / 17179869184 = iw (shrw x 34) := iw_shr x 34
@[go_sem] theorem iw_shr_35 {n : Nat} (x : BitVec n) : iw x / 34359738368 = iw (shrw x 35) := iw_shr x 35
@[go_sem] theorem iw_shr_36 {n : Nat} (x : BitVec n) : iw x / 68719476736 = iw (shrw x 36) := iw_shr x 36
@[go_sem] theorem iw_shr_37 {n : Nat} (x : BitVec n) : iw x / 137438953472 = iw (shrw x 37) := iw_shr x 37
@[go_sem] theorem iw_shr_38 {n : Nat} (x : BitVec n) : iw x / 274877906944 = iw (shrw x 38) := iw_shr x 38
@[go_sem] theorem iw_shr_39 {n : Nat} (x : BitVec n) : iw x / 549755813888 = iw (shrw x 39) := iw_shr x 39
@[go_sem] theorem iw_shr_40 {n : Nat} (x : BitVec n) : iw x / 1099511627776 = iw (shrw x 40) := iw_shr x 40
@[go_sem] theorem iw_shr_41 {n : Nat} (x : BitVec n) : iw x / 2199023255552 = iw (shrw x 41) := iw_shr x 41
@[go_sem] theorem iw_shr_42 {n : Nat} (x : BitVec n) : iw x / 4398046511104 = iw (shrw x 42) := iw_shr x 42
@[go_sem] theorem iw_shr_43 {n : Nat} (x : BitVec n) : iw x / 8796093022208 = iw (shrw x 43) := iw_shr x 43
@[go_sem] theorem iw_shr_44 {n : Nat} (x : BitVec n) : iw x / 17592186044416 = iw (shrw x 44) := iw_shr x 44
@[go_sem] theorem iw_shr_45 {n : Nat} (x : BitVec n) : iw x / 35184372088832 = iw (shrw x 45) := iw_shr x 45
@[go_sem] theorem iw_shr_46 {n : Nat} (x : BitVec n) : iw x / 70368744177664 = iw (shrw x 46) := iw_shr x 46
@[go_sem] theorem iw_shr_47 {n : Nat} (x : BitVec n) : iw x / 140737488355328 = iw (shrw x 47) := iw_shr x 47
@[go_sem] theorem iw_shr_48 {n : Nat} (x : BitVec n) : iw x / 281474976710656 = iw (shrw x 48) := iw_shr x 48
@[go_sem] theorem iw_shr_49 {n : Nat} (x : BitVec n) : iw x / 562949953421312 = iw (shrw x 49) := iw_shr x 49
@[go_sem] theorem iw_shr_50 {n : Nat} (x : BitVec n) : iw x / 1125899906842624 = iw (shrw x 50) := iw_shr x 50
@[go_sem] theorem iw_shr_51 {n : Nat} (x : BitVec n) : iw x / 2251799813685248 = iw (shrw x 51) := iw_shr x 51
@[go_sem] theorem iw_shr_52 {n : Nat} (x : BitVec n) : iw x / 4503599627370496 = iw (shrw x 52) := iw_shr x 52
@[go_sem] theorem iw_shr_53 {n : Nat} (x : BitVec n) : iw x / 9007199254740992 = iw (shrw x 53) := iw_shr x 53
@[go_sem] theorem iw_shr_54 {n : Nat} (x : BitVec n) : iw x / 18014398509481984 = iw (shrw x 54) := iw_shr x 54
@[go_sem] theorem iw_shr_55 {n : Nat} (x : BitVec n) : iw x / 36028797018963968 = iw (shrw x 55) := iw_shr x 55
@[go_sem] theorem iw_shr_56 {n : Nat} (x : BitVec n) : iw x / 72057594037927936 = iw (shrw x 56) := iw_shr x 56
@[go_sem] theorem iw_shr_57 {n : Nat} (x : BitVec n) : iw x / 144115188075855872 = iw (shrw x 57) := iw_shr x 57
@[go_sem] theorem iw_shr_58 {n : Nat} (x : BitVec n) : iw x / 288230376151711744 = iw (shrw x 58) := iw_shr x 58
@[go_sem] theorem iw_shr_59 {n : Nat} (x : BitVec n) : iw x / 576460752303423488 = iw (shrw x 59) := iw_shr x 59
@[go_sem] theorem iw_shr_60 {n : Nat} (x : BitVec n) : iw x / 1152921504606846976 = iw (shrw x 60) := iw_shr x 60
@[go_sem] theorem iw_shr_61 {n : Nat} (x : BitVec n) : iw x / 2305843009213693952 = iw (shrw x 61) := iw_shr x 61
@[go_sem] theorem iw_shr_62 {n : Nat} (x : BitVec n) : iw x / 4611686018427387904 = iw (shrw x 62) := iw_shr x 62
@[go_sem] theorem iw_shr_63 {n : Nat} (x : BitVec n) : iw x / 9223372036854775808 = iw (shrw x 63) := iw_shr x 63
theorem ofInt_lit (k n : Nat) : BitVec.ofInt k (@OfNat.ofNat Int n instOfNat) = BitVec.ofNat k n := BitVec.ofInt_natCast k n
theorem ofInt_iw {n : Nat} (x : BitVec n) : BitVec.ofInt n (iw x) = x := by
  unfold iw; rw [BitVec.ofInt_natCast, BitVec.ofNat_toNat, BitVec.setWidth_eq]
theorem iw_lit {n : Nat} (m : Nat) : iw (litw n m) = (m : Int) % ((2 ^ n : Nat) : Int) := by
  unfold iw litw; rw [BitVec.toNat_ofNat, Int.natCast_emod]
theorem mul_emod_emod' (a b n : Int) : a * (b % n) % n = a * b % n := by rw [Int.mul_emod, Int.emod_emod, ← Int.mul_emod]
theorem and32_lit (x : BitVec 32) (m : Nat) : bits .and .u32 (iw x) (@OfNat.ofNat Int m instOfNat) = iw (andw x (litw 32 m)) := by
  rw [← and32]; unfold bits; simp only [IntKind.bits, ofInt_lit, ofInt_iw, litw]
theorem and32_lit' (x : BitVec 32) (m : Nat) : bits .and .u32 (@OfNat.ofNat Int m instOfNat) (iw x) = iw (andw (litw 32 m) x) := by
  rw [← and32]; unfold bits; simp only [IntKind.bits, ofInt_lit, ofInt_iw, litw]
theorem or32_lit (x : BitVec 32) (m : Nat) : bits .or .u32 (iw x) (@OfNat.ofNat Int m instOfNat) = iw (orw x (litw 32 m)) := by
  rw [← or32]; unfold bits; simp only [IntKind.bits, ofInt_lit, ofInt_iw, litw]
theorem or32_lit' (x : BitVec 32) (m : Nat) : bits .or .u32 (@OfNat.ofNat Int m instOfNat) (iw x) = iw (orw (litw 32 m) x) := by
  rw [← or32]; unfold bits; simp only [IntKind.bits, ofInt_lit, ofInt_iw, litw]
theorem xor32_lit (x : BitVec 32) (m : Nat) : bits .xor .u32 (iw x) (@OfNat.ofNat Int m instOfNat) = iw (xorw x (litw 32 m)) := by
  rw [← xor32]; unfold bits; simp only [IntKind.bits, ofInt_lit, ofInt_iw, litw]
theorem xor32_lit' (x : BitVec 32) (m : Nat) : bits .xor .u32 (@OfNat.ofNat Int m instOfNat) (iw x) = iw (xorw (litw 32 m) x) := by
  rw [← xor32]; unfold bits; simp only [IntKind.bits, ofInt_lit, ofInt_iw, litw]
theorem wrap32_add_lit (x : BitVec 32) (m : Nat) : IntKind.u32.wrap (iw x + @OfNat.ofNat Int m instOfNat) = iw (addw x (litw 32 m)) := by
  rw [← wrap32_add, iw_lit, IntKind.wrap_u32', IntKind.wrap_u32']; exact (Int.add_emod_emod _ _ _).symm
theorem wrap32_sub_lit (x : BitVec 32) (m : Nat) : IntKind.u32.wrap (iw x - @OfNat.ofNat Int m instOfNat) = iw (subw x (litw 32 m)) := by
  rw [← wrap32_sub, iw_lit, IntKind.wrap_u32', IntKind.wrap_u32']; exact (Int.sub_emod_emod _ _ _).symm
theorem wrap32_mul_lit (x : BitVec 32) (m : Nat) : IntKind.u32.wrap (iw x * @OfNat.ofNat Int m instOfNat) = iw (mulw x (litw 32 m)) := by
  rw [← wrap32_mul, iw_lit, IntKind.wrap_u32', IntKind.wrap_u32']; exact (mul_emod_emod' _ _ _).symm
theorem and64_lit (x : BitVec 64) (m : Nat) : bits .and .u64 (iw x) (@OfNat.ofNat Int m instOfNat) = iw (andw x (litw 64 m)) := by
  rw [← and64]; unfold bits; simp only [IntKind.bits, ofInt_lit, ofInt_iw, litw]
theorem and64_lit' (x : BitVec 64) (m : Nat) : bits .and .u64 (@OfNat.ofNat Int m instOfNat) (iw x) = iw (andw (litw 64 m) x) := by
  rw [← and64]; unfold bits; simp only [IntKind.bits, ofInt_lit, ofInt_iw, litw]
theorem or64_lit (x : BitVec 64) (m : Nat) : bits .or .u64 (iw x) (@OfNat.ofNat Int m instOfNat) = iw (orw x (litw 64 m)) := by
  rw [← or64]; unfold bits; simp only [IntKind.bits, ofInt_lit, ofInt_iw, litw]
theorem or64_lit' (x : BitVec 64) (m : Nat) : bits .or .u64 (@OfNat.ofNat Int m instOfNat) (iw x) = iw (orw (litw 64 m) x) := by
  rw [← or64]; unfold bits; simp only [IntKind.bits, ofInt_lit, ofInt_iw, litw]
theorem xor64_lit (x : BitVec 64) (m : Nat) : bits .xor .u64 (iw x) (@OfNat.ofNat Int m instOfNat) = iw (xorw x (litw 64 m)) := by
  rw [← xor64]; unfold bits; simp only [IntKind.bits, ofInt_lit, ofInt_iw, litw]
theorem xor64_lit' (x : BitVec 64) (m : Nat) : bits .xor .u64 (@OfNat.ofNat Int m instOfNat) (iw x) = iw (xorw (litw 64 m) x) := by
  rw [← xor64]; unfold bits; simp only [IntKind.bits, ofInt_lit, ofInt_iw, litw]
theorem wrap64_add_lit (x : BitVec 64) (m : Nat) : IntKind.u64.wrap (iw x + @OfNat.ofNat Int m instOfNat) = iw (addw x (litw 64 m)) := by
  rw [← wrap64_add, iw_lit, IntKind.wrap_u64, IntKind.wrap_u64]; exact (Int.add_emod_emod _ _ _).symm
theorem wrap64_sub_lit (x : BitVec 64) (m : Nat) : IntKind.u64.wrap (iw x - @OfNat.ofNat Int m instOfNat) = iw (subw x (litw 64 m)) := by
  rw [← wrap64_sub, iw_lit, IntKind.wrap_u64, IntKind.wrap_u64]; exact (Int.sub_emod_emod _ _ _).symm
theorem wrap64_mul_lit (x : BitVec 64) (m : Nat) : IntKind.u64.wrap (iw x * @OfNat.ofNat Int m instOfNat) = iw (mulw x (litw 64 m)) := by
  rw [← wrap64_mul, iw_lit, IntKind.wrap_u64, IntKind.wrap_u64]; exact (mul_emod_emod' _ _ _).symm
theorem run_shl64 {P : Program} (w : World) (x : BitVec 64) (c : Int) (k : IntKind) (s : Nat) (hc : c = iw x) (i : Int) (hs : i = (s : Int)) (h : s ≤ 64) :
    (Op.shift .shl .u64 c k i).run P w = .ok (.int .u64 (iw (shlw x s))) w := by
  subst hs hc
  simp only [Op.shift, IntKind.bits, Int.toNat_natCast]
  rw [if_neg (by omega)]
  simp only [Sem.run_pure, IntKind.wrap_u64]
  rw [Nat.min_eq_left h, iw_shl64]
theorem run_shl32 {P : Program} (w : World) (x : BitVec 32) (c : Int) (k : IntKind) (s : Nat) (hc : c = iw x) (i : Int) (hs : i = (s : Int)) (h : s ≤ 32) :
    (Op.shift .shl .u32 c k i).run P w = .ok (.int .u32 (iw (shlw x s))) w := by
  subst hs hc
  simp only [Op.shift, IntKind.bits, Int.toNat_natCast]
  rw [if_neg (by omega)]
  simp only [Sem.run_pure, IntKind.wrap_u32']
  rw [Nat.min_eq_left h, iw_shl32]
theorem run_shr64 {P : Program} (w : World) (x : BitVec 64) (c : Int) (k : IntKind) (s : Nat) (hc : c = iw x) (i : Int) (hs : i = (s : Int)) (h : s ≤ 64) :
    (Op.shift .shr .u64 c k i).run P w = .ok (.int .u64 (iw (shrw x s))) w := by
  subst hs hc
  simp only [Op.shift, IntKind.bits, Int.toNat_natCast]
  rw [if_neg (by omega)]
  simp only [Sem.run_pure]
  rw [Nat.min_eq_left h, Int.fdiv_eq_ediv_of_nonneg _ (Int.pow_nonneg (by decide)), iw_shr]
theorem wrap64_pow (s : Nat) : IntKind.u64.wrap (2 ^ s) = iw (shlw (litw 64 1) s) := by
  rw [← iw_shl64, IntKind.wrap_u64, show iw (litw 64 1) = 1 from rfl, Int.one_mul]
theorem wrap32_pow (s : Nat) : IntKind.u32.wrap (2 ^ s) = iw (shlw (litw 32 1) s) := by
  rw [← iw_shl32, IntKind.wrap_u32', show iw (litw 32 1) = 1 from rfl, Int.one_mul]
@[go_sem] theorem iw_shlw32 (x : BitVec 32) (s : Nat) : IntKind.u32.wrap (iw x * 2 ^ s) = iw (shlw x s) := by rw [IntKind.wrap_u32', iw_shl32]
@[go_sem] theorem iw_shlw64 (x : BitVec 64) (s : Nat) : IntKind.u64.wrap (iw x * 2 ^ s) = iw (shlw x s) := by rw [IntKind.wrap_u64, iw_shl64]
@[go_sem] theorem iw_shlw32_1 (x : BitVec 32) : IntKind.u32.wrap (iw x * 2) = iw (shlw x 1) := iw_shlw32 x 1
@[go_sem] theorem iw_shlw32_2 (x : BitVec 32) : IntKind.u32.wrap (iw x * 4) = iw (shlw x 2) := iw_shlw32 x 2
@[go_sem] theorem iw_shlw32_3 (x : BitVec 32) : IntKind.u32.wrap (iw x * 8) = iw (shlw x 3) := iw_shlw32 x 3
@[go_sem] theorem iw_shlw32_4 (x : BitVec 32) : IntKind.u32.wrap (iw x * 16) = iw (shlw x 4) := iw_shlw32 x 4
@[go_sem] theorem iw_shlw32_5 (x : BitVec 32) : IntKind.u32.wrap (iw x * 32) = iw (shlw x 5) := iw_shlw32 x 5
@[go_sem] theorem iw_shlw32_6 (x : BitVec 32) : IntKind.u32.wrap (iw x * 64) = iw (shlw x 6) := iw_shlw32 x 6
@[go_sem] theorem iw_shlw32_7 (x : BitVec 32) : IntKind.u32.wrap (iw x * 128) = iw (shlw x 7) := iw_shlw32 x 7
@[go_sem] theorem iw_shlw32_8 (x : BitVec 32) : IntKind.u32.wrap (iw x * 256) = iw (shlw x 8) := iw_shlw32 x 8
@[go_sem] theorem iw_shlw32_9 (x : BitVec 32) : IntKind.u32.wrap (iw x * 512) = iw (shlw x 9) := iw_shlw32 x 9
@[go_sem] theorem iw_shlw32_10 (x : BitVec 32) : IntKind.u32.wrap (iw x * 1024) = iw (shlw x 10) := iw_shlw32 x 10
@[go_sem] theorem iw_shlw32_11 (x : BitVec 32) : IntKind.u32.wrap (iw x * 2048) = iw (shlw x 11) := iw_shlw32 x 11
@[go_sem] theorem iw_shlw32_12 (x : BitVec 32) : IntKind.u32.wrap (iw x * 4096) = iw (shlw x 12) := iw_shlw32 x 12
@[go_sem] theorem iw_shlw32_13 (x : BitVec 32) : IntKind.u32.wrap (iw x * 8192) = iw (shlw x 13) := iw_shlw32 x 13
@[go_sem] theorem iw_shlw32_14 (x : BitVec 32) : IntKind.u32.wrap (iw x * 16384) = iw (shlw x 14) := iw_shlw32 x 14
@[go_sem] theorem iw_shlw32_15 (x : BitVec 32) : IntKind.u32.wrap (iw x * 32768) = iw (shlw x 15) := iw_shlw32 x 15
@[go_sem] theorem iw_shlw32_16 (x : BitVec 32) : IntKind.u32.wrap (iw x * 65536) = iw (shlw x 16) := iw_shlw32 x 16
@[go_sem] theorem iw_shlw32_17 (x : BitVec 32) : IntKind.u32.wrap (iw x * 131072) = iw (shlw x 17) := iw_shlw32 x 17
@[go_sem] theorem iw_shlw32_18 (x : BitVec 32) : IntKind.u32.wrap (iw x * 262144) = iw (shlw x 18) := iw_shlw32 x 18
@[go_sem] theorem iw_shlw32_19 (x : BitVec 32) : IntKind.u32.wrap (iw x * 524288) = iw (shlw x 19) := iw_shlw32 x 19
@[go_sem] theorem iw_shlw32_20 (x : BitVec 32) : IntKind.u32.wrap (iw x * 1048576) = iw (shlw x 20) := iw_shlw32 x 20
@[go_sem] theorem iw_shlw32_21 (x : BitVec 32) : IntKind.u32.wrap (iw x * 2097152) = iw (shlw x 21) := iw_shlw32 x 21
@[go_sem] theorem iw_shlw32_22 (x : BitVec 32) : IntKind.u32.wrap (iw x * 4194304) = iw (shlw x 22) := iw_shlw32 x 22
@[go_sem] theorem iw_shlw32_23 (x : BitVec 32) : IntKind.u32.wrap (iw x * 8388608) = iw (shlw x 23) := iw_shlw32 x 23
@[go_sem] theorem iw_shlw32_24 (x : BitVec 32) : IntKind.u32.wrap (iw x * 16777216) = iw (shlw x 24) := iw_shlw32 x 24
@[go_sem] theorem iw_shlw32_25 (x : BitVec 32) : IntKind.u32.wrap (iw x * 33554432) = iw (shlw x 25) := iw_shlw32 x 25
@[go_sem] theorem iw_shlw32_26 (x : BitVec 32) : IntKind.u32.wrap (iw x * 67108864) = iw (shlw x 26) := iw_shlw32 x 26
@[go_sem] theorem iw_shlw32_27 (x : BitVec 32) : IntKind.u32.wrap (iw x * 134217728) = iw (shlw x 27) := iw_shlw32 x 27
@[go_sem] theorem iw_shlw32_28 (x : BitVec 32) : IntKind.u32.wrap (iw x * 268435456) = iw (shlw x 28) := iw_shlw32 x 28
@[go_sem] theorem iw_shlw32_29 (x : BitVec 32) : IntKind.u32.wrap (iw x * 536870912) = iw (shlw x 29) := iw_shlw32 x 29
@[go_sem] theorem iw_shlw32_30 (x : BitVec 32) : IntKind.u32.wrap (iw x * 1073741824) = iw (shlw x 30) := iw_shlw32 x 30
@[go_sem] theorem iw_shlw32_31 (x : BitVec 32) : IntKind.u32.wrap (iw x * 2147483648) = iw (shlw x 31) := iw_shlw32 x 31
@[go_sem] theorem iw_shlw64_1 (x : BitVec 64) : IntKind.u64.wrap (iw x * 2) = iw (shlw x 1) := iw_shlw64 x 1
@[go_sem] theorem iw_shlw64_2 (x : BitVec 64) : IntKind.u64.wrap (iw x * 4) = iw (shlw x 2) := iw_shlw64 x 2
@[go_sem] theorem iw_shlw64_3 (x : BitVec 64) : IntKind.u64.wrap (iw x * 8) = iw (shlw x 3) := iw_shlw64 x 3
@[go_sem] theorem iw_shlw64_4 (x : BitVec 64) : IntKind.u64.wrap (iw x * 16) = iw (shlw x 4) := iw_shlw64 x 4
@[go_sem] theorem iw_shlw64_5 (x : BitVec 64) : IntKind.u64.wrap (iw x * 32) = iw (shlw x 5) := iw_shlw64 x 5
@[go_sem] theorem iw_shlw64_6 (x : BitVec 64) : IntKind.u64.wrap (iw x * 64) = iw (shlw x 6) := iw_shlw64 x 6
@[go_sem] theorem iw_shlw64_7 (x : BitVec 64) : IntKind.u64.wrap (iw x * 128) = iw (shlw x 7) := iw_shlw64 x 7
@[go_sem] theorem iw_shlw64_8 (x : BitVec 64) : IntKind.u64.wrap (iw x * 256) = iw (shlw x 8) := iw_shlw64 x 8
@[go_sem] theorem iw_shlw64_9 (x : BitVec 64) : IntKind.u64.wrap (iw x * 512) = iw (shlw x 9) := iw_shlw64 x 9
@[go_sem] theorem iw_shlw64_10 (x : BitVec 64) : IntKind.u64.wrap (iw x * 1024) = iw (shlw x 10) := iw_shlw64 x 10
@[go_sem] theorem iw_shlw64_11 (x : BitVec 64) : IntKind.u64.wrap (iw x * 2048) = iw (shlw x 11) := iw_shlw64 x 11
@[go_sem] theorem iw_shlw64_12 (x : BitVec 64) : IntKind.u64.wrap (iw x * 4096) = iw (shlw x 12) := iw_shlw64 x 12
@[go_sem] theorem iw_shlw64_13 (x : BitVec 64) : IntKind.u64.wrap (iw x * 8192) = iw (shlw x 13) := iw_shlw64 x 13
@[go_sem] theorem iw_shlw64_14 (x : BitVec 64) : IntKind.u64.wrap (iw x * 16384) = iw (shlw x 14) := iw_shlw64 x 14
@[go_sem] theorem iw_shlw64_15 (x : BitVec 64) : IntKind.u64.wrap (iw x * 32768) = iw (shlw x 15) := iw_shlw64 x 15
@[go_sem] theorem iw_shlw64_16 (x : BitVec 64) : IntKind.u64.wrap (iw x * 65536) = iw (shlw x 16) := iw_shlw64 x 16
@[go_sem] theorem iw_shlw64_17 (x : BitVec 64) : IntKind.u64.wrap (iw x * 131072) = iw (shlw x 17) := iw_shlw64 x 17
@[go_sem] theorem iw_shlw64_18 (x : BitVec 64) : IntKind.u64.wrap (iw x * 262144) = iw (shlw x 18) := iw_shlw64 x 18
@[go_sem] theorem iw_shlw64_19 (x : BitVec 64) : IntKind.u64.wrap (iw x * 524288) = iw (shlw x 19) := iw_shlw64 x 19
@[go_sem] theorem iw_shlw64_20 (x : BitVec 64) : IntKind.u64.wrap (iw x * 1048576) = iw (shlw x 20) := iw_shlw64 x 20
@[go_sem] theorem iw_shlw64_21 (x : BitVec 64) : IntKind.u64.wrap (iw x * 2097152) = iw (shlw x 21) := iw_shlw64 x 21
@[go_sem] theorem iw_shlw64_22 (x : BitVec 64) : IntKind.u64.wrap (iw x * 4194304) = iw (shlw x 22) := iw_shlw64 x 22
@[go_sem] theorem iw_shlw64_23 (x : BitVec 64) : IntKind.u64.wrap (iw x * 8388608) = iw (shlw x 23) := iw_shlw64 x 23
@[go_sem] theorem iw_shlw64_24 (x : BitVec 64) : IntKind.u64.wrap (iw x * 16777216) = iw (shlw x 24) := iw_shlw64 x 24
@[go_sem] theorem iw_shlw64_25 (x : BitVec 64) : IntKind.u64.wrap (iw x * 33554432) = iw (shlw x 25) := iw_shlw64 x 25
@[go_sem] theorem iw_shlw64_26 (x : BitVec 64) : IntKind.u64.wrap (iw x * 67108864) = iw (shlw x 26) := iw_shlw64 x 26
@[go_sem] theorem iw_shlw64_27 (x : BitVec 64) : IntKind.u64.wrap (iw x * 134217728) = iw (shlw x 27) := iw_shlw64 x 27
@[go_sem] theorem iw_shlw64_28 (x : BitVec 64) : IntKind.u64.wrap (iw x * 268435456) = iw (shlw x 28) := iw_shlw64 x 28
@[go_sem] theorem iw_shlw64_29 (x : BitVec 64) : IntKind.u64.wrap (iw x * 536870912) = iw (shlw x 29) := iw_shlw64 x 29
@[go_sem] theorem iw_shlw64_30 (x : BitVec 64) : IntKind.u64.wrap (iw x * 1073741824) = iw (shlw x 30) := iw_shlw64 x 30
@[go_sem] theorem iw_shlw64_31 (x : BitVec 64) : IntKind.u64.wrap (iw x * 2147483648) = iw (shlw x 31) := iw_shlw64 x 31
@[go_sem] theorem iw_shlw64_32 (x : BitVec 64) : IntKind.u64.wrap (iw x * 4294967296) = iw (shlw x 32) := iw_shlw64 x 32
@[go_sem] theorem iw_shlw64_33 (x : BitVec 64) : IntKind.u64.wrap (iw x * 8589934592) = iw (shlw x 33) := iw_shlw64 x 33
@[go_sem] theorem iw_shlw64_34 (x : BitVec 64) : IntKind.u64.wrap (iw x * 17179869184) = iw (shlw x 34) := iw_shlw64 x 34
@[go_sem] theorem iw_shlw64_35 (x : BitVec 64) : IntKind.u64.wrap (iw x * 34359738368) = iw (shlw x 35) := iw_shlw64 x 35
@[go_sem] theorem iw_shlw64_36 (x : BitVec 64) : IntKind.u64.wrap (iw x * 68719476736) = iw (shlw x 36) := iw_shlw64 x 36
@[go_sem] theorem iw_shlw64_37 (x : BitVec 64) : IntKind.u64.wrap (iw x * 137438953472) = iw (shlw x 37) := iw_shlw64 x 37
@[go_sem] theorem iw_shlw64_38 (x : BitVec 64) : IntKind.u64.wrap (iw x * 274877906944) = iw (shlw x 38) := iw_shlw64 x 38
@[go_sem] theorem iw_shlw64_39 (x : BitVec 64) : IntKind.u64.wrap (iw x * 549755813888) = iw (shlw x 39) := iw_shlw64 x 39
@[go_sem] theorem iw_shlw64_40 (x : BitVec 64) : IntKind.u64.wrap (iw x * 1099511627776) = iw (shlw x 40) := iw_shlw64 x 40
@[go_sem] theorem iw_shlw64_41 (x : BitVec 64) : IntKind.u64.wrap (iw x * 2199023255552) = iw (shlw x 41) := iw_shlw64 x 41
@[go_sem] theorem iw_shlw64_42 (x : BitVec 64) : IntKind.u64.wrap (iw x * 4398046511104) = iw (shlw x 42) := iw_shlw64 x 42
@[go_sem] theorem iw_shlw64_43 (x : BitVec 64) : IntKind.u64.wrap (iw x * 8796093022208) = iw (shlw x 43) := iw_shlw64 x 43
@[go_sem] theorem iw_shlw64_44 (x : BitVec 64) : IntKind.u64.wrap (iw x * 17592186044416) = iw (shlw x 44) := iw_shlw64 x 44
@[go_sem] theorem iw_shlw64_45 (x : BitVec 64) : IntKind.u64.wrap (iw x * 35184372088832) = iw (shlw x 45) := iw_shlw64 x 45
@[go_sem] theorem iw_shlw64_46 (x : BitVec 64) : IntKind.u64.wrap (iw x * 70368744177664) = iw (shlw x 46) := iw_shlw64 x 46
@[go_sem] theorem iw_shlw64_47 (x : BitVec 64) : IntKind.u64.wrap (iw x * 140737488355328) = iw (shlw x 47) := iw_shlw64 x 47
@[go_sem] theorem iw_shlw64_48 (x : BitVec 64) : IntKind.u64.wrap (iw x * 281474976710656) = iw (shlw x 48) := iw_shlw64 x 48
@[go_sem] theorem iw_shlw64_49 (x : BitVec 64) : IntKind.u64.wrap (iw x * 562949953421312) = iw (shlw x 49) := iw_shlw64 x 49
@[go_sem] theorem iw_shlw64_50 (x : BitVec 64) : IntKind.u64.wrap (iw x * 1125899906842624) = iw (shlw x 50) := iw_shlw64 x 50
@[go_sem] theorem iw_shlw64_51 (x : BitVec 64) : IntKind.u64.wrap (iw x * 2251799813685248) = iw (shlw x 51) := iw_shlw64 x 51
@[go_sem] theorem iw_shlw64_52 (x : BitVec 64) : IntKind.u64.wrap (iw x * 4503599627370496) = iw (shlw x 52) := iw_shlw64 x 52
@[go_sem] theorem iw_shlw64_53 (x : BitVec 64) : IntKind.u64.wrap (iw x * 9007199254740992) = iw (shlw x 53) := iw_shlw64 x 53
@[go_sem] theorem iw_shlw64_54 (x : BitVec 64) : IntKind.u64.wrap (iw x * 18014398509481984) = iw (shlw x 54) := iw_shlw64 x 54
@[go_sem] theorem iw_shlw64_55 (x : BitVec 64) : IntKind.u64.wrap (iw x * 36028797018963968) = iw (shlw x 55) := iw_shlw64 x 55
@[go_sem] theorem iw_shlw64_56 (x : BitVec 64) : IntKind.u64.wrap (iw x * 72057594037927936) = iw (shlw x 56) := iw_shlw64 x 56
@[go_sem] theorem iw_shlw64_57 (x : BitVec 64) : IntKind.u64.wrap (iw x * 144115188075855872) = iw (shlw x 57) := iw_shlw64 x 57
@[go_sem] theorem iw_shlw64_58 (x : BitVec 64) : IntKind.u64.wrap (iw x * 288230376151711744) = iw (shlw x 58) := iw_shlw64 x 58
@[go_sem] theorem iw_shlw64_59 (x : BitVec 64) : IntKind.u64.wrap (iw x * 576460752303423488) = iw (shlw x 59) := iw_shlw64 x 59
@[go_sem] theorem iw_shlw64_60 (x : BitVec 64) : IntKind.u64.wrap (iw x * 1152921504606846976) = iw (shlw x 60) := iw_shlw64 x 60
@[go_sem] theorem iw_shlw64_61 (x : BitVec 64) : IntKind.u64.wrap (iw x * 2305843009213693952) = iw (shlw x 61) := iw_shlw64 x 61
@[go_sem] theorem iw_shlw64_62 (x : BitVec 64) : IntKind.u64.wrap (iw x * 4611686018427387904) = iw (shlw x 62) := iw_shlw64 x 62
@[go_sem] theorem iw_shlw64_63 (x : BitVec 64) : IntKind.u64.wrap (iw x * 9223372036854775808) = iw (shlw x 63) := iw_shlw64 x 63
@[go_sem] theorem wrap32_iw {n : Nat} (x : BitVec n) : IntKind.u32.wrap (iw x) = iw (castw 32 x) := by
  simp only [iw, castw, IntKind.wrap_u32', BitVec.toNat_ofNat]; rw [Int.natCast_emod]; rfl
@[go_sem] theorem wrap64_iw {n : Nat} (x : BitVec n) : IntKind.u64.wrap (iw x) = iw (castw 64 x) := by
  simp only [iw, castw, IntKind.wrap_u64, BitVec.toNat_ofNat]; rw [Int.natCast_emod]; rfl
@[go_sem] theorem wrap8_iw {n : Nat} (x : BitVec n) : IntKind.u8.wrap (iw x) = iw (castw 8 x) := by
  simp only [iw, castw, IntKind.wrap_u8', BitVec.toNat_ofNat]; rw [Int.natCast_emod]; rfl
theorem not32 (x : BitVec 32) : bits .xor .u32 4294967295 (iw x) = iw (notw x) := by
  have h : (4294967295 : Int) = iw (litw 32 4294967295) := by unfold iw litw; rfl
  rw [h, xor32]; unfold xorw notw litw; rw [BitVec.xor_comm]; exact congrArg iw BitVec.xor_allOnes
theorem not64 (x : BitVec 64) : bits .xor .u64 18446744073709551615 (iw x) = iw (notw x) := by
  have h : (18446744073709551615 : Int) = iw (litw 64 18446744073709551615) := by unfold iw litw; rfl
  rw [h, xor64]; unfold xorw notw litw; rw [BitVec.xor_comm]; exact congrArg iw BitVec.xor_allOnes
@[go_sem] theorem not32' (x : BitVec 32) : bits .xor .u32 (if IntKind.u32.signed = true then -1 else IntKind.u32.max) (iw x) = iw (notw x) := not32 x
@[go_sem] theorem not64' (x : BitVec 64) : bits .xor .u64 (if IntKind.u64.signed = true then -1 else IntKind.u64.max) (iw x) = iw (notw x) := not64 x
theorem iw_zero (n : Nat) : iw (litw n 0) = 0 := by simp [iw, litw]
theorem iw64_one : iw (litw 64 1) = 1 := rfl
attribute [irreducible] iw addw subw mulw andw orw xorw notw shlw shrw castw
end Go.Proofs.Ytmmkmbinmmfblaa
