/- Words of 8, 32 and 64 bits as the walk meets them: a word x is the integer iw x; each operation on iw's is an iw again. -/
import Derived.WalkKit
import Derived.WalkSpells
import Derived.WalkLawsBesides
import Derived.Lib.Hide
import Derived.Below
import Derived.Laws.OwnMore
import Derived.Laws.Rows
import Derived.Deep.Draws
import Derived.Laws.CopyRow
import Derived.Deep.MidRow
import Derived.StillTailTactics
import Derived.Deep.RegionLaw
import Derived.Laws.AppendOwn
import Derived.IntWalk
import Derived.Test.YtkbjgaobhbiieaaRows
import Derived.Laws.Externs
import Derived.Lib.Mul64
import Derived.BigQuiet
import Derived.Deep.QuietTactic
import Derived.Orders
import Derived.Test.YtkbjgaobhbiieaaChecked
import Derived.Lib.ConvBytes
import Derived.OrdersHeld
namespace Go.Proofs.Ytkbjgaobhbiieaa
open Go.RowKit
def iw {n : Nat} (x : BitVec n) : Int := (x.toNat : Int)
def addw {n : Nat} (x y : BitVec n) : BitVec n := x + y
def subw {n : Nat} (x y : BitVec n) : BitVec n := x - y
def mulw {n : Nat} (x y : BitVec n) : BitVec n := x * y
def andw {n : Nat} (x y : BitVec n) : BitVec n := x &&& y
def orw {n : Nat} (x y : BitVec n) : BitVec n := x ||| y
def xorw {n : Nat} (x y : BitVec n) : BitVec n := x ^^^ y
def notw {n : Nat} (x : BitVec n) : BitVec n := ~~~ x
def shlw {n : Nat} (x : BitVec n) (s : Nat) : BitVec n := x <<< s
def shrw {n : Nat} (x : BitVec n) (s : Nat) : BitVec n := x >>> s
def castw {n : Nat} (m : Nat) (x : BitVec n) : BitVec m := BitVec.ofNat m x.toNat
def litw (n k : Nat) : BitVec n := BitVec.ofNat n k
theorem iw_lo {n : Nat} (x : BitVec n) : 0 ≤ iw x := by unfold iw; omega
theorem iw_lt {n : Nat} (x : BitVec n) : iw x < 2 ^ n := by unfold iw; have := x.isLt; exact_mod_cast this
theorem wrap_of_nat32 (m : Nat) : IntKind.u32.wrap (m : Int) = iw (BitVec.ofNat 32 m) := by
  simp [IntKind.wrap_u32', iw]
theorem wrap_of_nat64 (m : Nat) : IntKind.u64.wrap (m : Int) = iw (BitVec.ofNat 64 m) := by
  simp [IntKind.wrap_u64, iw]
theorem wrap_of_nat8 (m : Nat) : IntKind.u8.wrap (m : Int) = iw (BitVec.ofNat 8 m) := by
  simp [IntKind.wrap_u8', iw]
@[go_sem] theorem wrap32_add (x y : BitVec 32) : IntKind.u32.wrap (iw x + iw y) = iw (addw x y) := by
  simp only [iw, addw, IntKind.wrap_u32', BitVec.toNat_add]; omega
@[go_sem] theorem wrap32_sub (x y : BitVec 32) : IntKind.u32.wrap (iw x - iw y) = iw (subw x y) := by
  have := x.isLt; have := y.isLt
  simp only [iw, subw, IntKind.wrap_u32', BitVec.toNat_sub]; omega
@[go_sem] theorem wrap32_mul (x y : BitVec 32) : IntKind.u32.wrap (iw x * iw y) = iw (mulw x y) := by
  simp only [iw, mulw, IntKind.wrap_u32', BitVec.toNat_mul]; rw [Int.natCast_emod, Int.natCast_mul]; rfl
@[go_sem] theorem wrap64_add (x y : BitVec 64) : IntKind.u64.wrap (iw x + iw y) = iw (addw x y) := by
  simp only [iw, addw, IntKind.wrap_u64, BitVec.toNat_add]; omega
@[go_sem] theorem wrap64_sub (x y : BitVec 64) : IntKind.u64.wrap (iw x - iw y) = iw (subw x y) := by
  have := x.isLt; have := y.isLt
  simp only [iw, subw, IntKind.wrap_u64, BitVec.toNat_sub]; omega
@[go_sem] theorem wrap64_mul (x y : BitVec 64) : IntKind.u64.wrap (iw x * iw y) = iw (mulw x y) := by
  simp only [iw, mulw, IntKind.wrap_u64, BitVec.toNat_mul]; rw [Int.natCast_emod, Int.natCast_mul]; rfl
@[go_sem] theorem and32 (x y : BitVec 32) : bits .and .u32 (iw x) (iw y) = iw (andw x y) := by
  simp only [iw, andw, BitVec.toNat_and]; exact u32_and_nat _ _ x.isLt y.isLt
@[go_sem] theorem or32 (x y : BitVec 32) : bits .or .u32 (iw x) (iw y) = iw (orw x y) := by
  simp only [iw, orw, BitVec.toNat_or]; exact u32_or_nat _ _ x.isLt y.isLt
@[go_sem] theorem xor32 (x y : BitVec 32) : bits .xor .u32 (iw x) (iw y) = iw (xorw x y) := by
  simp only [iw, xorw, BitVec.toNat_xor]; exact u32_xor_nat _ _ x.isLt y.isLt
@[go_sem] theorem and64 (x y : BitVec 64) : bits .and .u64 (iw x) (iw y) = iw (andw x y) := by
  simp only [iw, andw, BitVec.toNat_and]; exact u64_and_nat _ _ x.isLt y.isLt
@[go_sem] theorem or64 (x y : BitVec 64) : bits .or .u64 (iw x) (iw y) = iw (orw x y) := by
  simp only [iw, orw, BitVec.toNat_or]; exact u64_or_nat _ _ x.isLt y.isLt
@[go_sem] theorem xor64 (x y : BitVec 64) : bits .xor .u64 (iw x) (iw y) = iw (xorw x y) := by
  simp only [iw, xorw, BitVec.toNat_xor]; exact u64_xor_nat _ _ x.isLt y.isLt
@[go_sem] theorem iw_shr {n : Nat} (x : BitVec n) (s : Nat) : iw x / 2 ^ s = iw (shrw x s) := by
  simp only [iw, shrw, BitVec.toNat_ushiftRight, Nat.shiftRight_eq_div_pow]
  rw [Int.natCast_ediv, Int.natCast_pow]; rfl
@[go_sem] theorem iw_shl32 (x : BitVec 32) (s : Nat) : iw x * 2 ^ s % 4294967296 = iw (shlw x s) := by
  simp only [iw, shlw, BitVec.toNat_shiftLeft, Nat.shiftLeft_eq]
  rw [Int.natCast_emod, Int.natCast_mul, Int.natCast_pow]; rfl
@[go_sem] theorem iw_shl64 (x : BitVec 64) (s : Nat) : iw x * 2 ^ s % 18446744073709551616 = iw (shlw x s) := by
  simp only [iw, shlw, BitVec.toNat_shiftLeft, Nat.shiftLeft_eq]
  rw [Int.natCast_emod, Int.natCast_mul, Int.natCast_pow]; rfl
@[go_sem] theorem iw_shl32_1 (x : BitVec 32) : iw x * 2 % 4294967296 = iw (shlw x 1) := iw_shl32 x 1
@[go_sem] theorem iw_shl32_2 (x : BitVec 32) : iw x * 4 % 4294967296 = iw (shlw x 2) := iw_shl32 x 2
@[go_sem] theorem iw_shl32_3 (x : BitVec 32) : iw x * 8 % 4294967296 = iw (shlw x 3) := iw_shl32 x 3
@[go_sem] theorem iw_shl32_4 (x : BitVec 32) : iw x * 16 % 4294967296 = iw (shlw x 4) := iw_shl32 x 4
@[go_sem] theorem iw_shl32_5 (x : BitVec 32) : iw x * 32 % 4294967296 = iw (shlw x 5) := iw_shl32 x 5
@[go_sem] theorem iw_shl32_6 (x : BitVec 32) : iw x * 64 % 4294967296 = iw (shlw x 6) := iw_shl32 x 6
@[go_sem] theorem iw_shl32_7 (x : BitVec 32) : iw x * 128 % 4294967296 = iw (shlw x 7) := iw_shl32 x 7
@[go_sem] theorem iw_shl32_8 (x : BitVec 32) : iw x * 256 % 4294967296 = iw (shlw x 8) := iw_shl32 x 8
@[go_sem] theorem iw_shl32_9 (x : BitVec 32) : iw x * 512 % 4294967296 = iw (shlw x 9) := iw_shl32 x 9
@[go_sem] theorem iw_shl32_10 (x : BitVec 32) : iw x * 1024 % 4294967296 = iw (shlw x 10) := iw_shl32 x 10
@[go_sem] theorem iw_shl32_11 (x : BitVec 32) : iw x * 2048 % 4294967296 = iw (shlw x 11) := iw_shl32 x 11
@[go_sem] theorem iw_shl32_12 (x : BitVec 32) : iw x * 4096 % 4294967296 = iw (shlw x 12) := iw_shl32 x 12
@[go_sem] theorem iw_shl32_13 (x : BitVec 32) : iw x * 8192 % 4294967296 = iw (shlw x 13) := iw_shl32 x 13
@[go_sem] theorem iw_shl32_14 (x : BitVec 32) : iw x * 16384 % 4294967296 = iw (shlw x 14) := iw_shl32 x 14
@[go_sem] theorem iw_shl32_15 (x : BitVec 32) : iw x * 32768 % 4294967296 = iw (shlw x 15) := iw_shl32 x 15
@[go_sem] theorem iw_shl32_16 (x : BitVec 32) : iw x * 65536 % 4294967296 = iw (shlw x 16) := iw_shl32 x 16
@[go_sem] theorem iw_shl32_17 (x : BitVec 32) : iw x * 131072 % 4294967296 = iw (shlw x 17) := iw_shl32 x 17
@[go_sem] theorem iw_shl32_18 (x : BitVec 32) : iw x * 262144 % 4294967296 = iw (shlw x 18) := iw_shl32 x 18
@[go_sem] theorem iw_shl32_19 (x : BitVec 32) : iw x * 524288 % 4294967296 = iw (shlw x 19) := iw_shl32 x 19
@[go_sem] theorem iw_shl32_20 (x : BitVec 32) : iw x * 1048576 % 4294967296 = iw (shlw x 20) := iw_shl32 x 20
@[go_sem] theorem iw_shl32_21 (x : BitVec 32) : iw x * 2097152 % 4294967296 = iw (shlw x 21) := iw_shl32 x 21
@[go_sem] theorem iw_shl32_22 (x : BitVec 32) : iw x * 4194304 % 4294967296 = iw (shlw x 22) := iw_shl32 x 22
@[go_sem] theorem iw_shl32_23 (x : BitVec 32) : iw x * 8388608 % 4294967296 = iw (shlw x 23) := iw_shl32 x 23
@[go_sem] theorem iw_shl32_24 (x : BitVec 32) : iw x * 16777216 % 4294967296 = iw (shlw x 24) := iw_shl32 x 24
@[go_sem] theorem iw_shl32_25 (x : BitVec 32) : iw x * 33554432 % 4294967296 = iw (shlw x 25) := iw_shl32 x 25
@[go_sem] theorem iw_shl32_26 (x : BitVec 32) : iw x * 67108864 % 4294967296 = iw (shlw x 26) := iw_shl32 x 26
@[go_sem] theorem iw_shl32_27 (x : BitVec 32) : iw x * 134217728 % 4294967296 = iw (shlw x 27) := iw_shl32 x 27
@[go_sem] theorem iw_shl32_28 (x : BitVec 32) : iw x * 268435456 % 4294967296 = iw (shlw x 28) := iw_shl32 x 28
@[go_sem] theorem iw_shl32_29 (x : BitVec 32) : iw x * 536870912 % 4294967296 = iw (shlw x 29) := iw_shl32 x 29
@[go_sem] theorem iw_shl32_30 (x : BitVec 32) : iw x * 1073741824 % 4294967296 = iw (shlw x 30) := iw_shl32 x 30
@[go_sem] theorem iw_shl32_31 (x : BitVec 32) : iw x * 2147483648 % 4294967296 = iw (shlw x 31) := iw_shl32 x 31
@[go_sem] theorem iw_shl64_1 (x : BitVec 64) : iw x * 2 % 18446744073709551616 = iw (shlw x 1) := iw_shl64 x 1
@[go_sem] theorem iw_shl64_2 (x : BitVec 64) : iw x * 4 % 18446744073709551616 = iw (shlw x 2) := iw_shl64 x 2
@[go_sem] theorem iw_shl64_3 (x : BitVec 64) : iw x * 8 % 18446744073709551616 = iw (shlw x 3) := iw_shl64 x 3
@[go_sem] theorem iw_shl64_4 (x : BitVec 64) : iw x * 16 % 18446744073709551616 = iw (shlw x 4) := iw_shl64 x 4
@[go_sem] theorem iw_shl64_5 (x : BitVec 64) : iw x * 32 % 18446744073709551616 = iw (shlw x 5) := iw_shl64 x 5
@[go_sem] theorem iw_shl64_6 (x : BitVec 64) : iw x * 64 % 18446744073709551616 = iw (shlw x 6) := iw_shl64 x 6
@[go_sem] theorem iw_shl64_7 (x : BitVec 64) : iw x * 128 % 18446744073709551616 = iw (shlw x 7) := iw_shl64 x 7
@[go_sem] theorem iw_shl64_8 (x : BitVec 64) : iw x * 256 % 18446744073709551616 = iw (shlw x 8) := iw_shl64 x 8
@[go_sem] theorem iw_shl64_9 (x : BitVec 64) : iw x * 512 % 18446744073709551616 = iw (shlw x 9) := iw_shl64 x 9
@[go_sem] theorem iw_shl64_10 (x : BitVec 64) : iw x * 1024 % 18446744073709551616 = iw (shlw x 10) := iw_shl64 x 10
@[go_sem] theorem iw_shl64_11 (x : BitVec 64) : iw x * 2048 % 18446744073709551616 = iw (shlw x 11) := iw_shl64 x 11
@[go_sem] theorem iw_shl64_12 (x : BitVec 64) : iw x * 4096 % 18446744073709551616 = iw (shlw x 12) := iw_shl64 x 12
@[go_sem] theorem iw_shl64_13 (x : BitVec 64) : iw x * 8192 % 18446744073709551616 = iw (shlw x 13) := iw_shl64 x 13
@[go_sem] theorem iw_shl64_14 (x : BitVec 64) : iw x * 16384 % 18446744073709551616 = iw (shlw x 14) := iw_shl64 x 14
@[go_sem] theorem iw_shl64_15 (x : BitVec 64) : iw x * 32768 % 18446744073709551616 = iw (shlw x 15) := iw_shl64 x 15
@[go_sem] theorem iw_shl64_16 (x : BitVec 64) : iw x * 65536 % 18446744073709551616 = iw (shlw x 16) := iw_shl64 x 16
@[go_sem] theorem iw_shl64_17 (x : BitVec 64) : iw x * 131072 % 18446744073709551616 = iw (shlw x 17) := iw_shl64 x 17
@[go_sem] theorem iw_shl64_18 (x : BitVec 64) : iw x * 262144 % 18446744073709551616 = iw (shlw x 18) := iw_shl64 x 18
@[go_sem] theorem iw_shl64_19 (x : BitVec 64) : iw x * 524288 % 18446744073709551616 = iw (shlw x 19) := iw_shl64 x 19
@[go_sem] theorem iw_shl64_20 (x : BitVec 64) : iw x * 1048576 % 18446744073709551616 = iw (shlw x 20) := iw_shl64 x 20
@[go_sem] theorem iw_shl64_21 (x : BitVec 64) : iw x * 2097152 % 18446744073709551616 = iw (shlw x 21) := iw_shl64 x 21
@[go_sem] theorem iw_shl64_22 (x : BitVec 64) : iw x * 4194304 % 18446744073709551616 = iw (shlw x 22) := iw_shl64 x 22
@[go_sem] theorem iw_shl64_23 (x : BitVec 64) : iw x * 8388608 % 18446744073709551616 = iw (shlw x 23) := iw_shl64 x 23
@[go_sem] theorem iw_shl64_24 (x : BitVec 64) : iw x * 16777216 % 18446744073709551616 = iw (shlw x 24) := iw_shl64 x 24
@[go_sem] theorem iw_shl64_25 (x : BitVec 64) : iw x * 33554432 % 18446744073709551616 = iw (shlw x 25) := iw_shl64 x 25
@[go_sem] theorem iw_shl64_26 (x : BitVec 64) : iw x * 67108864 % 18446744073709551616 = iw (shlw x 26) := iw_shl64 x 26
@[go_sem] theorem iw_shl64_27 (x : BitVec 64) : iw x * 134217728 % 18446744073709551616 = iw (shlw x 27) := iw_shl64 x 27
@[go_sem] theorem iw_shl64_28 (x : BitVec 64) : iw x * 268435456 % 18446744073709551616 = iw (shlw x 28) := iw_shl64 x 28
@[go_sem] theorem iw_shl64_29 (x : BitVec 64) : iw x * 536870912 % 18446744073709551616 = iw (shlw x 29) := iw_shl64 x 29
@[go_sem] theorem iw_shl64_30 (x : BitVec 64) : iw x * 1073741824 % 18446744073709551616 = iw (shlw x 30) := iw_shl64 x 30
@[go_sem] theorem iw_shl64_31 (x : BitVec 64) : iw x * 2147483648 % 18446744073709551616 = iw (shlw x 31) := iw_shl64 x 31
@[go_sem] theorem iw_shl64_32 (x : BitVec 64) : iw x * 4294967296 % 18446744073709551616 = iw (shlw x 32) := iw_shl64 x 32
@[go_sem] theorem iw_shl64_33 (x : BitVec 64) : iw x * 8589934592 % 18446744073709551616 = iw (shlw x 33) := iw_shl64 x 33
@[go_sem] theorem iw_shl64_34 (x : BitVec 64) : iw x * 17179869184 % 18446744073709551616 = iw (shlw x 34) := iw_shl64 x 34
@[go_sem] theorem iw_shl64_35 (x : BitVec 64) : iw x * 34359738368 % 18446744073709551616 = iw (shlw x 35) := iw_shl64 x 35
@[go_sem] theorem iw_shl64_36 (x : BitVec 64) : iw x * 68719476736 % 18446744073709551616 = iw (shlw x 36) := iw_shl64 x 36
@[go_sem] theorem iw_shl64_37 (x : BitVec 64) : iw x * 137438953472 % 18446744073709551616 = iw (shlw x 37) := iw_shl64 x 37
@[go_sem] theorem iw_shl64_38 (x : BitVec 64) : iw x * 274877906944 % 18446744073709551616 = iw (shlw x 38) := iw_shl64 x 38
@[go_sem] theorem iw_shl64_39 (x : BitVec 64) : iw x * 549755813888 % 18446744073709551616 = iw (shlw x 39) := iw_shl64 x 39
@[go_sem] theorem iw_shl64_40 (x : BitVec 64) : iw x * 1099511627776 % 18446744073709551616 = iw (shlw x 40) := iw_shl64 x 40
@[go_sem] theorem iw_shl64_41 (x : BitVec 64) : iw x * 2199023255552 % 18446744073709551616 = iw (shlw x 41) := iw_shl64 x 41
@[go_sem] theorem iw_shl64_42 (x : BitVec 64) : iw x * 4398046511104 % 18446744073709551616 = iw (shlw x 42) := iw_shl64 x 42
@[go_sem] theorem iw_shl64_43 (x : BitVec 64) : iw x * 8796093022208 % 18446744073709551616 = iw (shlw x 43) := iw_shl64 x 43
@[go_sem] theorem iw_shl64_44 (x : BitVec 64) : iw x * 17592186044416 % 18446744073709551616 = iw (shlw x 44) := iw_shl64 x 44
@[go_sem] theorem iw_shl64_45 (x : BitVec 64) : iw x * 35184372088832 % 18446744073709551616 = iw (shlw x 45) := iw_shl64 x 45
@[go_sem] theorem iw_shl64_46 (x : BitVec 64) : iw x * 70368744177664 % 18446744073709551616 = iw (shlw x 46) := iw_shl64 x 46
@[go_sem] theorem iw_shl64_47 (x : BitVec 64) : iw x * 140737488355328 % 18446744073709551616 = iw (shlw x 47) := iw_shl64 x 47
@[go_sem] theorem iw_shl64_48 (x : BitVec 64) : iw x * 281474976710656 % 18446744073709551616 = iw (shlw x 48) := iw_shl64 x 48
@[go_sem] theorem iw_shl64_49 (x : BitVec 64) : iw x * 562949953421312 % 18446744073709551616 = iw (shlw x 49) := iw_shl64 x 49
@[go_sem] theorem iw_shl64_50 (x : BitVec 64) : iw x * 1125899906842624 % 18446744073709551616 = iw (shlw x 50) := iw_shl64 x 50
@[go_sem] theorem iw_shl64_51 (x : BitVec 64) : iw x * 2251799813685248 % 18446744073709551616 = iw (shlw x 51) := iw_shl64 x 51
@[go_sem] theorem iw_shl64_52 (x : BitVec 64) : iw x * 4503599627370496 % 18446744073709551616 = iw (shlw x 52) := iw_shl64 x 52
@[go_sem] theorem iw_shl64_53 (x : BitVec 64) : iw x * 9007199254740992 % 18446744073709551616 = iw (shlw x 53) := iw_shl64 x 53
@[go_sem] theorem iw_shl64_54 (x : BitVec 64) : iw x * 18014398509481984 % 18446744073709551616 = iw (shlw x 54) := iw_shl64 x 54
@[go_sem] theorem iw_shl64_55 (x : BitVec 64) : iw x * 36028797018963968 % 18446744073709551616 = iw (shlw x 55) := iw_shl64 x 55
@[go_sem] theorem iw_shl64_56 (x : BitVec 64) : iw x * 72057594037927936 % 18446744073709551616 = iw (shlw x 56) := iw_shl64 x 56
@[go_sem] theorem iw_shl64_57 (x : BitVec 64) : iw x * 144115188075855872 % 18446744073709551616 = iw (shlw x 57) := iw_shl64 x 57
@[go_sem] theorem iw_shl64_58 (x : BitVec 64) : iw x * 288230376151711744 % 18446744073709551616 = iw (shlw x 58) := iw_shl64 x 58
@[go_sem] theorem iw_shl64_59 (x : BitVec 64) : iw x * 576460752303423488 % 18446744073709551616 = iw (shlw x 59) := iw_shl64 x 59
@[go_sem] theorem iw_shl64_60 (x : BitVec 64) : iw x * 1152921504606846976 % 18446744073709551616 = iw (shlw x 60) := iw_shl64 x 60
@[go_sem] theorem iw_shl64_61 (x : BitVec 64) : iw x * 2305843009213693952 % 18446744073709551616 = iw (shlw x 61) := iw_shl64 x 61
@[go_sem] theorem iw_shl64_62 (x : BitVec 64) : iw x * 4611686018427387904 % 18446744073709551616 = iw (shlw x 62) := iw_shl64 x 62
@[go_sem] theorem iw_shl64_63 (x : BitVec 64) : iw x * 9223372036854775808 % 18446744073709551616 = iw (shlw x 63) := iw_shl64 x 63
@[go_sem] theorem iw_shr_1 {n : Nat} (x : BitVec n) : iw x / 2 = iw (shrw x 1) := iw_shr x 1
@[go_sem] theorem iw_shr_2 {n : Nat} (x : BitVec n) : iw x / 4 = iw (shrw x 2) := iw_shr x 2
@[go_sem] theorem iw_shr_3 {n : Nat} (x : BitVec n) : iw x / 8 = iw (shrw x 3) := iw_shr x 3
@[go_sem] theorem iw_shr_4 {n : Nat} (x : BitVec n) : iw x / 16 = iw (shrw x 4) := iw_shr x 4
@[go_sem] theorem iw_shr_5 {n : Nat} (x : BitVec n) : iw x / 32 = iw (shrw x 5) := iw_shr x 5
@[go_sem] theorem iw_shr_6 {n : Nat} (x : BitVec n) : iw x / 64 = iw (shrw x 6) := iw_shr x 6
@[go_sem] theorem iw_shr_7 {n : Nat} (x : BitVec n) : iw x / 128 = iw (shrw x 7) := iw_shr x 7
@[go_sem] theorem iw_shr_8 {n : Nat} (x : BitVec n) : iw x / 256 = iw (shrw x 8) := iw_shr x 8
@[go_sem] theorem iw_shr_9 {n : Nat} (x : BitVec n) : iw x / 512 = iw (shrw x 9) := iw_shr x 9
@[go_sem] theorem iw_shr_10 {n : Nat} (x : BitVec n) : iw x / 1024 = iw (shrw x 10) := iw_shr x 10
@[go_sem] theorem iw_shr_11 {n : Nat} (x : BitVec n) : iw x / 2048 = iw (shrw x 11) := iw_shr x 11
@[go_sem] theorem iw_shr_12 {n : Nat} (x : BitVec n) : iw x / 4096 = iw (shrw x 12) := iw_shr x 12
@[go_sem] theorem iw_shr_13 {n : Nat} (x : BitVec n) : iw x / 8192 = iw (shrw x 13) := iw_shr x 13
@[go_sem] theorem iw_shr_14 {n : Nat} (x : BitVec n) : iw x / 16384 = iw (shrw x 14) := iw_shr x 14
@[go_sem] theorem iw_shr_15 {n : Nat} (x : BitVec n) : iw x / 32768 = iw (shrw x 15) := iw_shr x 15
@[go_sem] theorem iw_shr_16 {n : Nat} (x : BitVec n) : iw x / 65536 = iw (shrw x 16) := iw_shr x 16
@[go_sem] theorem iw_shr_17 {n : Nat} (x : BitVec n) : iw x / 131072 = iw (shrw x 17) := iw_shr x 17
@[go_sem] theorem iw_shr_18 {n : Nat} (x : BitVec n) : iw x / 262144 = iw (shrw x 18) := iw_shr x 18
@[go_sem] theorem iw_shr_19 {n : Nat} (x : BitVec n) : iw x / 524288 = iw (shrw x 19) := iw_shr x 19
@[go_sem] theorem iw_shr_20 {n : Nat} (x : BitVec n) : iw x / 1048576 = iw (shrw x 20) := iw_shr x 20
@[go_sem] theorem iw_shr_21 {n : Nat} (x : BitVec n) : iw x / 2097152 = iw (shrw x 21) := iw_shr x 21
@[go_sem] theorem iw_shr_22 {n : Nat} (x : BitVec n) : iw x / 4194304 = iw (shrw x 22) := iw_shr x 22
@[go_sem] theorem iw_shr_23 {n : Nat} (x : BitVec n) : iw x / 8388608 = iw (shrw x 23) := iw_shr x 23
@[go_sem] theorem iw_shr_24 {n : Nat} (x : BitVec n) : iw x / 16777216 = iw (shrw x 24) := iw_shr x 24
@[go_sem] theorem iw_shr_25 {n : Nat} (x : BitVec n) : iw x / 33554432 = iw (shrw x 25) := iw_shr x 25
@[go_sem] theorem iw_shr_26 {n : Nat} (x : BitVec n) : iw x / 67108864 = iw (shrw x 26) := iw_shr x 26
@[go_sem] theorem iw_shr_27 {n : Nat} (x : BitVec n) : iw x / 134217728 = iw (shrw x 27) := iw_shr x 27
@[go_sem] theorem iw_shr_28 {n : Nat} (x : BitVec n) : iw x / 268435456 = iw (shrw x 28) := iw_shr x 28
@[go_sem] theorem iw_shr_29 {n : Nat} (x : BitVec n) : iw x / 536870912 = iw (shrw x 29) := iw_shr x 29
@[go_sem] theorem iw_shr_30 {n : Nat} (x : BitVec n) : iw x / 1073741824 = iw (shrw x 30) := iw_shr x 30
@[go_sem] theorem iw_shr_31 {n : Nat} (x : BitVec n) : iw x / 2147483648 = iw (shrw x 31) := iw_shr x 31
@[go_sem] theorem iw_shr_32 {n : Nat} (x : BitVec n) : iw x / 4294967296 = iw (shrw x 32) := iw_shr x 32
@[go_sem] theorem iw_shr_33 {n : Nat} (x : BitVec n) : iw x / 8589934592 = iw (shrw x 33) := iw_shr x 33
@[go_sem] theorem iw_shr_34 {n : Nat} (x : BitVec n) : iw x / 17179869184 = iw (shrw x 34) := iw_shr x 34
@[go_sem] theorem iw_shr_35 {n : Nat} (x : BitVec n) : iw x / 34359738368 = iw (shrw x 35) := iw_shr x 35
@[go_sem] theorem iw_shr_36 {n : Nat} (x : BitVec n) : iw x / 68719476736 = iw (shrw x 36) := iw_shr x 36
@[go_sem] theorem iw_shr_37 {n : Nat} (x : BitVec n) : iw x / 137438953472 = iw (shrw x 37) := iw_shr x 37
@[go_sem] theorem iw_shr_38 {n : Nat} (x : BitVec n) : iw x / 274877906944 = iw (shrw x 38) := iw_shr x 38
@[go_sem] theorem iw_shr_39 {n : Nat} (x : BitVec n) : iw x / 549755813888 = iw (shrw x 39) := iw_shr x 39
@[go_sem] theorem iw_shr_40 {n : Nat} (x : BitVec n) : iw x / 1099511627776 = iw (shrw x 40) := iw_shr x 40
@[go_sem] theorem iw_shr_41 {n : Nat} (x : BitVec n) : iw x / 2199023255552 = iw (shrw x 41) := iw_shr x 41
@[go_sem] theorem iw_shr_42 {n : Nat} (x : BitVec n) : iw x / 4398046511104 = iw (shrw x 42) := iw_shr x 42
@[go_sem] theorem iw_shr_43 {n : Nat} (x : BitVec n) : iw x / 8796093022208 = iw (shrw x 43) := iw_shr x 43
@[go_sem] theorem iw_shr_44 {n : Nat} (x : BitVec n) : iw x / 17592186044416 = iw (shrw x 44) := iw_shr x 44
@[go_sem] theorem iw_shr_45 {n : Nat} (x : BitVec n) : iw x / 35184372088832 = iw (shrw x 45) := iw_shr x 45
@[go_sem] theorem iw_shr_46 {n : Nat} (x : BitVec n) : iw x / 70368744177664 = iw (shrw x 46) := iw_shr x 46
@[go_sem] theorem iw_shr_47 {n : Nat} (x : BitVec n) : iw x / 140737488355328 = iw (shrw x 47) := iw_shr x 47
@[go_sem] theorem iw_shr_48 {n : Nat} (x : BitVec n) : iw x / 281474976710656 = iw (shrw x 48) := iw_shr x 48
@[go_sem] theorem iw_shr_49 {n : Nat} (x : BitVec n) : iw x / 562949953421312 = iw (shrw x 49) := iw_shr x 49
@[go_sem] theorem iw_shr_50 {n : Nat} (x : BitVec n) : iw x / 1125899906842624 = iw (shrw x 50) := iw_shr x 50
@[go_sem] theorem iw_shr_51 {n : Nat} (x : BitVec n) : iw x / 2251799813685248 = iw (shrw x 51) := iw_shr x 51
@[go_sem] theorem iw_shr_52 {n : Nat} (x : BitVec n) : iw x / 4503599627370496 = iw (shrw x 52) := iw_shr x 52
@[go_sem] theorem iw_shr_53 {n : Nat} (x : BitVec n) : iw x / 9007199254740992 = iw (shrw x 53) := iw_shr x 53
@[go_sem] theorem iw_shr_54 {n : Nat} (x : BitVec n) : iw x / 18014398509481984 = iw (shrw x 54) := iw_shr x 54
@[go_sem] theorem iw_shr_55 {n : Nat} (x : BitVec n) : iw x / 36028797018963968 = iw (shrw x 55) := iw_shr x 55
@[go_sem] theorem iw_shr_56 {n : Nat} (x : BitVec n) : iw x / 72057594037927936 = iw (shrw x 56) := iw_shr x 56
@[go_sem] theorem iw_shr_57 {n : Nat} (x : BitVec n) : iw x / 144115188075855872 = iw (shrw x 57) := iw_shr x 57
@[go_sem] theorem iw_shr_58 {n : Nat} (x : BitVec n) : iw x / 288230376151711744 = iw (shrw x 58) := iw_shr x 58
@[go_sem] theorem iw_shr_59 {n : Nat} (x : BitVec n) : iw x / 576460752303423488 = iw (shrw x 59) := iw_shr x 59
@[go_sem] theorem iw_shr_60 {n : Nat} (x : BitVec n) : iw x / 1152921504606846976 = iw (shrw x 60) := iw_shr x 60
@[go_sem] theorem iw_shr_61 {n : Nat} (x : BitVec n) : iw x / 2305843009213693952 = iw (shrw x 61) := iw_shr x 61
@[go_sem] theorem iw_shr_62 {n : Nat} (x : BitVec n) : iw x / 4611686018427387904 = iw (shrw x 62) := iw_shr x 62
@[go_sem] theorem iw_shr_63 {n : Nat} (x : BitVec n) : iw x / 9223372036854775808 = iw (shrw x 63) := iw_shr x 63
theorem ofInt_lit (k n : Nat) : BitVec.ofInt k (@OfNat.ofNat Int n instOfNat) = BitVec.ofNat k n := BitVec.ofInt_natCast k n
theorem ofInt_iw {n : Nat} (x : BitVec n) : BitVec.ofInt n (iw x) = x := by
  unfold iw; rw [BitVec.ofInt_natCast, BitVec.ofNat_toNat, BitVec.setWidth_eq]
theorem iw_lit {n : Nat} (m : Nat) : iw (litw n m) = (m : Int) % ((2 ^ n : Nat) : Int) := by
  unfold iw litw; rw [BitVec.toNat_ofNat, Int.natCast_emod]
theorem mul_emod_emod' (a b n : Int) : a * (b % n) % n = a * b % n := by rw [Int.mul_emod, Int.emod_emod, ← Int.mul_emod]
theorem and32_lit (x : BitVec 32) (m : Nat) : bits .and .u32 (iw x) (@OfNat.ofNat Int m instOfNat) = iw (andw x (litw 32 m)) := by
  rw [← and32]; unfold bits; simp only [IntKind.bits, ofInt_lit, ofInt_iw, litw]
theorem and32_lit' (x : BitVec 32) (m : Nat) : bits .and .u32 (@OfNat.ofNat Int m instOfNat) (iw x) = iw (andw (litw 32 m) x) := by
  rw [← and32]; unfold bits; simp only [IntKind.bits, ofInt_lit, ofInt_iw, litw]
theorem or32_lit (x : BitVec 32) (m : Nat) : bits .or .u32 (iw x) (@OfNat.ofNat Int m instOfNat) = iw (orw x (litw 32 m)) := by
  rw [← or32]; unfold bits; simp only [IntKind.bits, ofInt_lit, ofInt_iw, litw]
theorem or32_lit' (x : BitVec 32) (m : Nat) : bits .or .u32 (@OfNat.ofNat Int m instOfNat) (iw x) = iw (orw (litw 32 m) x) := by
  rw [← or32]; unfold bits; simp only [IntKind.bits, ofInt_lit, ofInt_iw, litw]
theorem xor32_lit (x : BitVec 32) (m : Nat) : bits .xor .u32 (iw x) (@OfNat.ofNat Int m instOfNat) = iw (xorw x (litw 32 m)) := by
  rw [← xor32]; unfold bits; simp only [IntKind.bits, ofInt_lit, ofInt_iw, litw]
theorem xor32_lit' (x : BitVec 32) (m : Nat) : bits .xor .u32 (@OfNat.ofNat Int m instOfNat) (iw x) = iw (xorw (litw 32 m) x) := by
  rw [← xor32]; unfold bits; simp only [IntKind.bits, ofInt_lit, ofInt_iw, litw]
theorem wrap32_add_lit (x : BitVec 32) (m : Nat) : IntKind.u32.wrap (iw x + @OfNat.ofNat Int m instOfNat) = iw (addw x (litw 32 m)) := by
  rw [← wrap32_add, iw_lit, IntKind.wrap_u32', IntKind.wrap_u32']; exact (Int.add_emod_emod _ _ _).symm
theorem wrap32_sub_lit (x : BitVec 32) (m : Nat) : IntKind.u32.wrap (iw x - @OfNat.ofNat Int m instOfNat) = iw (subw x (litw 32 m)) := by
  rw [← wrap32_sub, iw_lit, IntKind.wrap_u32', IntKind.wrap_u32']; exact (Int.sub_emod_emod _ _ _).symm
theorem wrap32_mul_lit (x : BitVec 32) (m : Nat) : IntKind.u32.wrap (iw x * @OfNat.ofNat Int m instOfNat) = iw (mulw x (litw 32 m)) := by
  rw [← wrap32_mul, iw_lit, IntKind.wrap_u32', IntKind.wrap_u32']; exact (mul_emod_emod' _ _ _).symm
theorem and64_lit (x : BitVec 64) (m : Nat) : bits .and .u64 (iw x) (@OfNat.ofNat Int m instOfNat) = iw (andw x (litw 64 m)) := by
  rw [← and64]; unfold bits; simp only [IntKind.bits, ofInt_lit, ofInt_iw, litw]
theorem and64_lit' (x : BitVec 64) (m : Nat) : bits .and .u64 (@OfNat.ofNat Int m instOfNat) (iw x) = iw (andw (litw 64 m) x) := by
  rw [← and64]; unfold bits; simp only [IntKind.bits, ofInt_lit, ofInt_iw, litw]
theorem or64_lit (x : BitVec 64) (m : Nat) : bits .or .u64 (iw x) (@OfNat.ofNat Int m instOfNat) = iw (orw x (litw 64 m)) := by
  rw [← or64]; unfold bits; simp only [IntKind.bits, ofInt_lit, ofInt_iw, litw]
theorem or64_lit' (x : BitVec 64) (m : Nat) : bits .or .u64 (@OfNat.ofNat Int m instOfNat) (iw x) = iw (orw (litw 64 m) x) := by
  rw [← or64]; unfold bits; simp only [IntKind.bits, ofInt_lit, ofInt_iw, litw]
theorem xor64_lit (x : BitVec 64) (m : Nat) : bits .xor .u64 (iw x) (@OfNat.ofNat Int m instOfNat) = iw (xorw x (litw 64 m)) := by
  rw [← xor64]; unfold bits; simp only [IntKind.bits, ofInt_lit, ofInt_iw, litw]
theorem xor64_lit' (x : BitVec 64) (m : Nat) : bits .xor .u64 (@OfNat.ofNat Int m instOfNat) (iw x) = iw (xorw (litw 64 m) x) := by
  rw [← xor64]; unfold bits; simp only [IntKind.bits, ofInt_lit, ofInt_iw, litw]
theorem wrap64_add_lit (x : BitVec 64) (m : Nat) : IntKind.u64.wrap (iw x + @OfNat.ofNat Int m instOfNat) = iw (addw x (litw 64 m)) := by
  rw [← wrap64_add, iw_lit, IntKind.wrap_u64, IntKind.wrap_u64]; exact (Int.add_emod_emod _ _ _).symm
theorem wrap64_sub_lit (x : BitVec 64) (m : Nat) : IntKind.u64.wrap (iw x - @OfNat.ofNat Int m instOfNat) = iw (subw x (litw 64 m)) := by
  rw [← wrap64_sub, iw_lit, IntKind.wrap_u64, IntKind.wrap_u64]; exact (Int.sub_emod_emod _ _ _).symm
theorem wrap64_mul_lit (x : BitVec 64) (m : Nat) : IntKind.u64.wrap (iw x * @OfNat.ofNat Int m instOfNat) = iw (mulw x (litw 64 m)) := by
  rw [← wrap64_mul, iw_lit, IntKind.wrap_u64, IntKind.wrap_u64]; exact (mul_emod_emod' _ _ _).symm
theorem run_shl64 {P : Program} (w : World) (x : BitVec 64) (c : Int) (k : IntKind) (s : Nat) (hc : c = iw x) (i : Int) (hs : i = (s : Int)) (h : s ≤ 64) :
    (Op.shift .shl .u64 c k i).run P w = .ok (.int .u64 (iw (shlw x s))) w := by
  subst hs hc
  simp only [Op.shift, IntKind.bits, Int.toNat_natCast]
  rw [if_neg (by omega)]
  simp only [Sem.run_pure, IntKind.wrap_u64]
  rw [Nat.min_eq_left h, iw_shl64]
theorem run_shl32 {P : Program} (w : World) (x : BitVec 32) (c : Int) (k : IntKind) (s : Nat) (hc : c = iw x) (i : Int) (hs : i = (s : Int)) (h : s ≤ 32) :
    (Op.shift .shl .u32 c k i).run P w = .ok (.int .u32 (iw (shlw x s))) w := by
  subst hs hc
  simp only [Op.shift, IntKind.bits, Int.toNat_natCast]
  rw [if_neg (by omega)]
  simp only [Sem.run_pure, IntKind.wrap_u32']
  rw [Nat.min_eq_left h, iw_shl32]
theorem run_shr64 {P : Program} (w : World) (x : BitVec 64) (c : Int) (k : IntKind) (s : Nat) (hc : c = iw x) (i : Int) (hs : i = (s : Int)) (h : s ≤ 64) :
    (Op.shift .shr .u64 c k i).run P w = .ok (.int .u64 (iw (shrw x s))) w := by
  subst hs hc
  simp only [Op.shift, IntKind.bits, Int.toNat_natCast]
  rw [if_neg (by omega)]
  simp only [Sem.run_pure]
  rw [Nat.min_eq_left h, Int.fdiv_eq_ediv_of_nonneg _ (Int.pow_nonneg (by decide)), iw_shr]
theorem wrap64_pow (s : Nat) : IntKind.u64.wrap (2 ^ s) = iw (shlw (litw 64 1) s) := by
  rw [← iw_shl64, IntKind.wrap_u64, show iw (litw 64 1) = 1 from rfl, Int.one_mul]
theorem wrap32_pow (s : Nat) : IntKind.u32.wrap (2 ^ s) = iw (shlw (litw 32 1) s) := by
  rw [← iw_shl32, IntKind.wrap_u32', show iw (litw 32 1) = 1 from rfl, Int.one_mul]
@[go_sem] theorem iw_shlw32 (x : BitVec 32) (s : Nat) : IntKind.u32.wrap (iw x * 2 ^ s) = iw (shlw x s) := by rw [IntKind.wrap_u32', iw_shl32]
@[go_sem] theorem iw_shlw64 (x : BitVec 64) (s : Nat) : IntKind.u64.wrap (iw x * 2 ^ s) = iw (shlw x s) := by rw [IntKind.wrap_u64, iw_shl64]
@[go_sem] theorem iw_shlw32_1 (x : BitVec 32) : IntKind.u32.wrap (iw x * 2) = iw (shlw x 1) := iw_shlw32 x 1
@[go_sem] theorem iw_shlw32_2 (x : BitVec 32) : IntKind.u32.wrap (iw x * 4) = iw (shlw x 2) := iw_shlw32 x 2
@[go_sem] theorem iw_shlw32_3 (x : BitVec 32) : IntKind.u32.wrap (iw x * 8) = iw (shlw x 3) := iw_shlw32 x 3
@[go_sem] theorem iw_shlw32_4 (x : BitVec 32) : IntKind.u32.wrap (iw x * 16) = iw (shlw x 4) := iw_shlw32 x 4
@[go_sem] theorem iw_shlw32_5 (x : BitVec 32) : IntKind.u32.wrap (iw x * 32) = iw (shlw x 5) := iw_shlw32 x 5
@[go_sem] theorem iw_shlw32_6 (x : BitVec 32) : IntKind.u32.wrap (iw x * 64) = iw (shlw x 6) := iw_shlw32 x 6
@[go_sem] theorem iw_shlw32_7 (x : BitVec 32) : IntKind.u32.wrap (iw x * 128) = iw (shlw x 7) := iw_shlw32 x 7
@[go_sem] theorem iw_shlw32_8 (x : BitVec 32) : IntKind.u32.wrap (iw x * 256) = iw (shlw x 8) := iw_shlw32 x 8
@[go_sem] theorem iw_shlw32_9 (x : BitVec 32) : IntKind.u32.wrap (iw x * 512) = iw (shlw x 9) := iw_shlw32 x 9
@[go_sem] theorem iw_shlw32_10 (x : BitVec 32) : IntKind.u32.wrap (iw x * 1024) = iw (shlw x 10) := iw_shlw32 x 10
@[go_sem] theorem iw_shlw32_11 (x : BitVec 32) : IntKind.u32.wrap (iw x * 2048) = iw (shlw x 11) := iw_shlw32 x 11
@[go_sem] theorem iw_shlw32_12 (x : BitVec 32) : IntKind.u32.wrap (iw x * 4096) = iw (shlw x 12) := iw_shlw32 x 12
@[go_sem] theorem iw_shlw32_13 (x : BitVec 32) : IntKind.u32.wrap (iw x * 8192) = iw (shlw x 13) := iw_shlw32 x 13
@[go_sem] theorem iw_shlw32_14 (x : BitVec 32) : IntKind.u32.wrap (iw x * 16384) = iw (shlw x 14) := iw_shlw32 x 14
@[go_sem] theorem iw_shlw32_15 (x : BitVec 32) : IntKind.u32.wrap (iw x * 32768) = iw (shlw x 15) := iw_shlw32 x 15
@[go_sem] theorem iw_shlw32_16 (x : BitVec 32) : IntKind.u32.wrap (iw x * 65536) = iw (shlw x 16) := iw_shlw32 x 16
@[go_sem] theorem iw_shlw32_17 (x : BitVec 32) : IntKind.u32.wrap (iw x * 131072) = iw (shlw x 17) := iw_shlw32 x 17
@[go_sem] theorem iw_shlw32_18 (x : BitVec 32) : IntKind.u32.wrap (iw x * 262144) = iw (shlw x 18) := iw_shlw32 x 18
@[go_sem] theorem iw_shlw32_19 (x : BitVec 32) : IntKind.u32.wrap (iw x * 524288) = iw (shlw x 19) := iw_shlw32 x 19
@[go_sem] theorem iw_shlw32_20 (x : BitVec 32) : IntKind.u32.wrap (iw x * 1048576) = iw (shlw x 20) := iw_shlw32 x 20
@[go_sem] theorem iw_shlw32_21 (x : BitVec 32) : IntKind.u32.wrap (iw x * 2097152) = iw (shlw x 21) := iw_shlw32 x 21
@[go_sem] theorem iw_shlw32_22 (x : BitVec 32) : IntKind.u32.wrap (iw x * 4194304) = iw (shlw x 22) := iw_shlw32 x 22
@[go_sem] theorem iw_shlw32_23 (x : BitVec 32) : IntKind.u32.wrap (iw x * 8388608) = iw (shlw x 23) := iw_shlw32 x 23
@[go_sem] theorem iw_shlw32_24 (x : BitVec 32) : IntKind.u32.wrap (iw x * 16777216) = iw (shlw x 24) := iw_shlw32 x 24
@[go_sem] theorem iw_shlw32_25 (x : BitVec 32) : IntKind.u32.wrap (iw x * 33554432) = iw (shlw x 25) := iw_shlw32 x 25
@[go_sem] theorem iw_shlw32_26 (x : BitVec 32) : IntKind.u32.wrap (iw x * 67108864) = iw (shlw x 26) := iw_shlw32 x 26
@[go_sem] theorem iw_shlw32_27 (x : BitVec 32) : IntKind.u32.wrap (iw x * 134217728) = iw (shlw x 27) := iw_shlw32 x 27
@[go_sem] theorem iw_shlw32_28 (x : BitVec 32) : IntKind.u32.wrap (iw x * 268435456) = iw (shlw x 28) := iw_shlw32 x 28
@[go_sem] theorem iw_shlw32_29 (x : BitVec 32) : IntKind.u32.wrap (iw x * 536870912) = iw (shlw x 29) := iw_shlw32 x 29
@[go_sem] theorem iw_shlw32_30 (x : BitVec 32) : IntKind.u32.wrap (iw x * 1073741824) = iw (shlw x 30) := iw_shlw32 x 30
@[go_sem] theorem iw_shlw32_31 (x : BitVec 32) : IntKind.u32.wrap (iw x * 2147483648) = iw (shlw x 31) := iw_shlw32 x 31
@[go_sem] theorem iw_shlw64_1 (x : BitVec 64) : IntKind.u64.wrap (iw x * 2) = iw (shlw x 1) := iw_shlw64 x 1
@[go_sem] theorem iw_shlw64_2 (x : BitVec 64) : IntKind.u64.wrap (iw x * 4) = iw (shlw x 2) := iw_shlw64 x 2
@[go_sem] theorem iw_shlw64_3 (x : BitVec 64) : IntKind.u64.wrap (iw x * 8) = iw (shlw x 3) := iw_shlw64 x 3
@[go_sem] theorem iw_shlw64_4 (x : BitVec 64) : IntKind.u64.wrap (iw x * 16) = iw (shlw x 4) := iw_shlw64 x 4
@[go_sem] theorem iw_shlw64_5 (x : BitVec 64) : IntKind.u64.wrap (iw x * 32) = iw (shlw x 5) := iw_shlw64 x 5
@[go_sem] theorem iw_shlw64_6 (x : BitVec 64) : IntKind.u64.wrap (iw x * 64) = iw (shlw x 6) := iw_shlw64 x 6
@[go_sem] theorem iw_shlw64_7 (x : BitVec 64) : IntKind.u64.wrap (iw x * 128) = iw (shlw x 7) := iw_shlw64 x 7
@[go_sem] theorem iw_shlw64_8 (x : BitVec 64) : IntKind.u64.wrap (iw x * 256) = iw (shlw x 8) := iw_shlw64 x 8
@[go_sem] theorem iw_shlw64_9 (x : BitVec 64) : IntKind.u64.wrap (iw x * 512) = iw (shlw x 9) := iw_shlw64 x 9
@[go_sem] theorem iw_shlw64_10 (x : BitVec 64) : IntKind.u64.wrap (iw x * 1024) = iw (shlw x 10) := iw_shlw64 x 10
@[go_sem] theorem iw_shlw64_11 (x : BitVec 64) : IntKind.u64.wrap (iw x * 2048) = iw (shlw x 11) := iw_shlw64 x 11
@[go_sem] theorem iw_shlw64_12 (x : BitVec 64) : IntKind.u64.wrap (iw x * 4096) = iw (shlw x 12) := iw_shlw64 x 12
@[go_sem] theorem iw_shlw64_13 (x : BitVec 64) : IntKind.u64.wrap (iw x * 8192) = iw (shlw x 13) := iw_shlw64 x 13
@[go_sem] theorem iw_shlw64_14 (x : BitVec 64) : IntKind.u64.wrap (iw x * 16384) = iw (shlw x 14) := iw_shlw64 x 14
@[go_sem] theorem iw_shlw64_15 (x : BitVec 64) : IntKind.u64.wrap (iw x * 32768) = iw (shlw x 15) := iw_shlw64 x 15
@[go_sem] theorem iw_shlw64_16 (x : BitVec 64) : IntKind.u64.wrap (iw x * 65536) = iw (shlw x 16) := iw_shlw64 x 16
@[go_sem] theorem iw_shlw64_17 (x : BitVec 64) : IntKind.u64.wrap (iw x * 131072) = iw (shlw x 17) := iw_shlw64 x 17
@[go_sem] theorem iw_shlw64_18 (x : BitVec 64) : IntKind.u64.wrap (iw x * 262144) = iw (shlw x 18) := iw_shlw64 x 18
@[go_sem] theorem iw_shlw64_19 (x : BitVec 64) : IntKind.u64.wrap (iw x * 524288) = iw (shlw x 19) := iw_shlw64 x 19
@[go_sem] theorem iw_shlw64_20 (x : BitVec 64) : IntKind.u64.wrap (iw x * 1048576) = iw (shlw x 20) := iw_shlw64 x 20
@[go_sem] theorem iw_shlw64_21 (x : BitVec 64) : IntKind.u64.wrap (iw x * 2097152) = iw (shlw x 21) := iw_shlw64 x 21
@[go_sem] theorem iw_shlw64_22 (x : BitVec 64) : IntKind.u64.wrap (iw x * 4194304) = iw (shlw x 22) := iw_shlw64 x 22
@[go_sem] theorem iw_shlw64_23 (x : BitVec 64) : IntKind.u64.wrap (iw x * 8388608) = iw (shlw x 23) := iw_shlw64 x 23
@[go_sem] theorem iw_shlw64_24 (x : BitVec 64) : IntKind.u64.wrap (iw x * 16777216) = iw (shlw x 24) := iw_shlw64 x 24
@[go_sem] theorem iw_shlw64_25 (x : BitVec 64) : IntKind.u64.wrap (iw x * 33554432) = iw (shlw x 25) := iw_shlw64 x 25
@[go_sem] theorem iw_shlw64_26 (x : BitVec 64) : IntKind.u64.wrap (iw x * 67108864) = iw (shlw x 26) := iw_shlw64 x 26
@[go_sem] theorem iw_shlw64_27 (x : BitVec 64) : IntKind.u64.wrap (iw x * 134217728) = iw (shlw x 27) := iw_shlw64 x 27
@[go_sem] theorem iw_shlw64_28 (x : BitVec 64) : IntKind.u64.wrap (iw x * 268435456) = iw (shlw x 28) := iw_shlw64 x 28
@[go_sem] theorem iw_shlw64_29 (x : BitVec 64) : IntKind.u64.wrap (iw x * 536870912) = iw (shlw x 29) := iw_shlw64 x 29
@[go_sem] theorem iw_shlw64_30 (x : BitVec 64) : IntKind.u64.wrap (iw x * 1073741824) = iw (shlw x 30) := iw_shlw64 x 30
@[go_sem] theorem iw_shlw64_31 (x : BitVec 64) : IntKind.u64.wrap (iw x * 2147483648) = iw (shlw x 31) := iw_shlw64 x 31
@[go_sem] theorem iw_shlw64_32 (x : BitVec 64) : IntKind.u64.wrap (iw x * 4294967296) = iw (shlw x 32) := iw_shlw64 x 32
@[go_sem] theorem iw_shlw64_33 (x : BitVec 64) : IntKind.u64.wrap (iw x * 8589934592) = iw (shlw x 33) := iw_shlw64 x 33
@[go_sem] theorem iw_shlw64_34 (x : BitVec 64) : IntKind.u64.wrap (iw x * 17179869184) = iw (shlw x 34) := iw_shlw64 x 34
@[go_sem] theorem iw_shlw64_35 (x : BitVec 64) : IntKind.u64.wrap (iw x * 34359738368) = iw (shlw x 35) := iw_shlw64 x 35
@[go_sem] theorem iw_shlw64_36 (x : BitVec 64) : IntKind.u64.wrap (iw x * 68719476736) = iw (shlw x 36) := iw_shlw64 x 36
@[go_sem] theorem iw_shlw64_37 (x : BitVec 64) : IntKind.u64.wrap (iw x * 137438953472) = iw (shlw x 37) := iw_shlw64 x 37
@[go_sem] theorem iw_shlw64_38 (x : BitVec 64) : IntKind.u64.wrap (iw x * 274877906944) = iw (shlw x 38) := iw_shlw64 x 38
@[go_sem] theorem iw_shlw64_39 (x : BitVec 64) : IntKind.u64.wrap (iw x * 549755813888) = iw (shlw x 39) := iw_shlw64 x 39
@[go_sem] theorem iw_shlw64_40 (x : BitVec 64) : IntKind.u64.wrap (iw x * 1099511627776) = iw (shlw x 40) := iw_shlw64 x 40
@[go_sem] theorem iw_shlw64_41 (x : BitVec 64) : IntKind.u64.wrap (iw x * 2199023255552) = iw (shlw x 41) := iw_shlw64 x 41
@[go_sem] theorem iw_shlw64_42 (x : BitVec 64) : IntKind.u64.wrap (iw x * 4398046511104) = iw (shlw x 42) := iw_shlw64 x 42
@[go_sem] theorem iw_shlw64_43 (x : BitVec 64) : IntKind.u64.wrap (iw x * 8796093022208) = iw (shlw x 43) := iw_shlw64 x 43
@[go_sem] theorem iw_shlw64_44 (x : BitVec 64) : IntKind.u64.wrap (iw x * 17592186044416) = iw (shlw x 44) := iw_shlw64 x 44
@[go_sem] theorem iw_shlw64_45 (x : BitVec 64) : IntKind.u64.wrap (iw x * 35184372088832) = iw (shlw x 45) := iw_shlw64 x 45
@[go_sem] theorem iw_shlw64_46 (x : BitVec 64) : IntKind.u64.wrap (iw x * 70368744177664) = iw (shlw x 46) := iw_shlw64 x 46
@[go_sem] theorem iw_shlw64_47 (x : BitVec 64) : IntKind.u64.wrap (iw x * 140737488355328) = iw (shlw x 47) := iw_shlw64 x 47
@[go_sem] theorem iw_shlw64_48 (x : BitVec 64) : IntKind.u64.wrap (iw x * 281474976710656) = iw (shlw x 48) := iw_shlw64 x 48
@[go_sem] theorem iw_shlw64_49 (x : BitVec 64) : IntKind.u64.wrap (iw x * 562949953421312) = iw (shlw x 49) := iw_shlw64 x 49
@[go_sem] theorem iw_shlw64_50 (x : BitVec 64) : IntKind.u64.wrap (iw x * 1125899906842624) = iw (shlw x 50) := iw_shlw64 x 50
@[go_sem] theorem iw_shlw64_51 (x : BitVec 64) : IntKind.u64.wrap (iw x * 2251799813685248) = iw (shlw x 51) := iw_shlw64 x 51
@[go_sem] theorem iw_shlw64_52 (x : BitVec 64) : IntKind.u64.wrap (iw x * 4503599627370496) = iw (shlw x 52) := iw_shlw64 x 52
@[go_sem] theorem iw_shlw64_53 (x : BitVec 64) : IntKind.u64.wrap (iw x * 9007199254740992) = iw (shlw x 53) := iw_shlw64 x 53
@[go_sem] theorem iw_shlw64_54 (x : BitVec 64) : IntKind.u64.wrap (iw x * 18014398509481984) = iw (shlw x 54) := iw_shlw64 x 54
@[go_sem] theorem iw_shlw64_55 (x : BitVec 64) : IntKind.u64.wrap (iw x * 36028797018963968) = iw (shlw x 55) := iw_shlw64 x 55
@[go_sem] theorem iw_shlw64_56 (x : BitVec 64) : IntKind.u64.wrap (iw x * 72057594037927936) = iw (shlw x 56) := iw_shlw64 x 56
@[go_sem] theorem iw_shlw64_57 (x : BitVec 64) : IntKind.u64.wrap (iw x * 144115188075855872) = iw (shlw x 57) := iw_shlw64 x 57
@[go_sem] theorem iw_shlw64_58 (x : BitVec 64) : IntKind.u64.wrap (iw x * 288230376151711744) = iw (shlw x 58) := iw_shlw64 x 58
@[go_sem] theorem iw_shlw64_59 (x : BitVec 64) : IntKind.u64.wrap (iw x * 576460752303423488) = iw (shlw x 59) := iw_shlw64 x 59
@[go_sem] theorem iw_shlw64_60 (x : BitVec 64) : IntKind.u64.wrap (iw x * 1152921504606846976) = iw (shlw x 60) := iw_shlw64 x 60
@[go_sem] theorem iw_shlw64_61 (x : BitVec 64) : IntKind.u64.wrap (iw x * 2305843009213693952) = iw (shlw x 61) := iw_shlw64 x 61
@[go_sem] theorem iw_shlw64_62 (x : BitVec 64) : IntKind.u64.wrap (iw x * 4611686018427387904) = iw (shlw x 62) := iw_shlw64 x 62
@[go_sem] theorem iw_shlw64_63 (x : BitVec 64) : IntKind.u64.wrap (iw x * 9223372036854775808) = iw (shlw x 63) := iw_shlw64 x 63
@[go_sem] theorem wrap32_iw {n : Nat} (x : BitVec n) : IntKind.u32.wrap (iw x) = iw (castw 32 x) := by
  simp only [iw, castw, IntKind.wrap_u32', BitVec.toNat_ofNat]; rw [Int.natCast_emod]; rfl
@[go_sem] theorem wrap64_iw {n : Nat} (x : BitVec n) : IntKind.u64.wrap (iw x) = iw (castw 64 x) := by
  simp only [iw, castw, IntKind.wrap_u64, BitVec.toNat_ofNat]; rw [Int.natCast_emod]; rfl
@[go_sem] theorem wrap8_iw {n : Nat} (x : BitVec n) : IntKind.u8.wrap (iw x) = iw (castw 8 x) := by
  simp only [iw, castw, IntKind.wrap_u8', BitVec.toNat_ofNat]; rw [Int.natCast_emod]; rfl
theorem not32 (x : BitVec 32) : bits .xor .u32 4294967295 (iw x) = iw (notw x) := by
  have h : (4294967295 : Int) = iw (litw 32 4294967295) := by unfold iw litw; rfl
  rw [h, xor32]; unfold xorw notw litw; rw [BitVec.xor_comm]; exact congrArg iw BitVec.xor_allOnes
theorem not64 (x : BitVec 64) : bits .xor .u64 18446744073709551615 (iw x) = iw (notw x) := by
  have h : (18446744073709551615 : Int) = iw (litw 64 18446744073709551615) := by unfold iw litw; rfl
  rw [h, xor64]; unfold xorw notw litw; rw [BitVec.xor_comm]; exact congrArg iw BitVec.xor_allOnes
@[go_sem] theorem not32' (x : BitVec 32) : bits .xor .u32 (if IntKind.u32.signed = true then -1 else IntKind.u32.max) (iw x) = iw (notw x) := not32 x
@[go_sem] theorem not64' (x : BitVec 64) : bits .xor .u64 (if IntKind.u64.signed = true then -1 else IntKind.u64.max) (iw x) = iw (notw x) := not64 x
theorem iw_zero (n : Nat) : iw (litw n 0) = 0 := by simp [iw, litw]
theorem iw64_one : iw (litw 64 1) = 1 := rfl
attribute [irreducible] iw addw subw mulw andw orw xorw notw shlw shrw castw
end Go.Proofs.Ytkbjgaobhbiieaa
/- Rows of cells as functions of the index; blocks known whole. -/
namespace Go.Proofs.Ytkbjgaobhbiieaa
open Go.RowKit
def row (n : Nat) (f : Nat → Value) : Array Value := ((List.range n).map f).toArray
theorem row_size (n : Nat) (f : Nat → Value) : (row n f).size = n := by simp [row]
theorem row_get {n : Nat} (f : Nat → Value) {i : Nat} (h : i < n) : (row n f)[i]? = some (f i) := by
  simp [row, h]
theorem row_ext {n : Nat} {f g : Nat → Value} (h : ∀ i, i < n → f i = g i) : row n f = row n g := by
  unfold row; congr 1; apply List.map_congr_left; intro i hi; exact h i (List.mem_range.1 hi)
theorem row_set {n : Nat} (f : Nat → Value) {i : Nat} (h : i < n) (v : Value) : (row n f).setIfInBounds i v = row n (fun j => if j = i then v else f j) := by
  apply Array.ext'
  apply List.ext_getElem?
  intro j
  simp only [row, Array.toList_setIfInBounds, List.getElem?_set, List.length_map, List.length_range, List.getElem?_map]
  by_cases hj : i = j
  · subst hj; simp [h]
  · have : ¬ j = i := fun e => hj e.symm
    by_cases hn : j < n <;> simp [hj, this, hn]
theorem row_of (a : Array Value) (d : Value) : a = row a.size (fun i => a[i]?.getD d) := by
  apply Array.ext'
  apply List.ext_getElem?
  intro j
  by_cases hj : j < a.size <;> simp [row, hj]
theorem row_one {n : Nat} {f : Nat → Value} (h : ∀ i, (f i).oneCell' = true) : (row n f).all (·.oneCell') = true := by
  simp [row, h]
def Blk (w : World) (g : Nat) (t : TypeId) (cs : Array Value) : Prop := w.heap[g]? = some (.cells cs t (0, 0))
section
variable {w w' : World} {g : Nat} {t : TypeId} {cs : Array Value}
theorem Blk.lt (h : Blk w g t cs) : g < w.heap.size := by
  rcases Nat.lt_or_ge g w.heap.size with hlt | hge
  · exact hlt
  · unfold Blk at h; rw [Array.getElem?_eq_none hge] at h; cases h
theorem Blk.cell (h : Blk w g t cs) (i : Nat) : w.cell? ⟨g, i, none⟩ = cs[i]? := cell_of_row w g i cs t (0, 0) h
theorem Blk.at_ {n : Nat} {f : Nat → Value} (h : Blk w g t (row n f)) {i : Nat} (hi : i < n) : w.cell? ⟨g, i, none⟩ = some (f i) := (h.cell i).trans (row_get f hi)
theorem Blk.cast_ {cs' : Array Value} (h : Blk w g t cs) (e : cs = cs') : Blk w g t cs' := e ▸ h
theorem Blk.cast' {g' : Nat} {cs' : Array Value} (h : Blk w g t cs) (e : g = g' ∧ cs = cs') : Blk w g' t cs' := by obtain ⟨rfl, rfl⟩ := e; exact h
theorem Blk.frozen (h : Blk w g t cs) (i : Nat) : w.frozen? ⟨g, i, none⟩ = false := by
  unfold Blk at h
  simp [World.frozen?, h]
theorem Blk.new (w : World) (t : TypeId) (cs : Array Value) : Blk (w.alloc (.cells cs t)) w.heap.size t cs := heap_alloc_new w _
theorem Blk.drew (h : Blk w g t cs) : Blk w.drew g t cs := h
theorem Blk.drewN (h : Blk w g t cs) (n : Nat) : Blk (w.drewN n) g t cs := h
theorem Blk.alloc (h : Blk w g t cs) (o : Obj) : Blk (w.alloc o) g t cs := (Below.heap_alloc w o g h.lt).trans h
theorem Blk.set_ (h : Blk w g t cs) (i : Nat) (u : Value) : Blk (w.setCell ⟨g, i, none⟩ u) g t (cs.setIfInBounds i u) := by
  unfold Blk at h ⊢
  simp [World.setCell, Array.getElem?_modify, h]
theorem Blk.put {n : Nat} {f : Nat → Value} (h : Blk w g t (row n f)) {i : Nat} (hi : i < n) (u : Value) : Blk (w.setCell ⟨g, i, none⟩ u) g t (row n (fun j => if j = i then u else f j)) := by
  rw [← row_set f hi]; exact h.set_ i u
theorem Blk.far (h : Blk w g t cs) {p : Addr} (hp : g ≠ p.block) (u : Value) : Blk (w.setCell p u) g t cs := (Below.heap_setCell w p u g hp).trans h
theorem Blk.below {B : Nat} (h : Blk w g t cs) (hb : Below B w w') (hg : g < B) : Blk w' g t cs := (hb.block g hg).trans h
theorem Blk.row_ (h : Blk w g t cs) (cs' : Array Value) : Blk (w.setRow g cs') g t cs' := setRow_heap w g cs cs' t _ h
theorem Blk.row_far (h : Blk w g t cs) {k : Nat} (hk : g ≠ k) (cs' : Array Value) : Blk (w.setRow k cs') g t cs := (setRow_other w k g cs' hk).trans h
theorem below_setRow' {B k : Nat} {w0 : World} (hb : Below B w0 w) (hBg : B ≤ k) (cs : Array Value) : Below B w0 (w.setRow k cs) :=
  hb.trans ⟨rfl, rfl, rfl, by simp, fun i hi => setRow_other w k i cs (by omega)⟩
end
/-- An array's element by its index, the elements of one cell each. -/
theorem run_index_cell {P : Program} (w : World) (T E n : Nat) (d : TypeDesc) (hT : P.underlying T = some (.array n E)) (hE : P.underlying E = some d)
    (hd : (match d with | .struct _ | .array _ _ => true | _ => false) = false) (hi : (P.info? E).map (·.size) = some 1)
    (cs : Array Value) (v : Value) (j : Nat) (hj : j < n) (hc : cs[j]? = some v) (k : IntKind) : (Instr.index T (.agg cs) (.int k (j : Int))).run P w = .ok v w := by
  cases hq : P.info? E with
  | none => simp [hq] at hi
  | some i =>
    have hs : i.size = 1 := by simpa [hq] using hi
    have hagg : (isAgg E).run P w = .ok false w := by
      unfold isAgg
      rw [Sem.run_bind, run_underlying hE w]
      cases d <;> simp_all
    have h0 : 0 ≤ (j : Int) ∧ (j : Int) < (n : Int) := by omega
    simp [Instr.index, run_underlying hT, asIntOf, h0, part, hagg, sizeOf, typeInfo, hq, hs, hc, Sem.run_bind]
    intro hh; omega
theorem addr_add (g o l : Nat) : (⟨g, o, none⟩ : Addr).add l = ⟨g, o + l, none⟩ := by
  unfold Addr.add; split <;> simp_all
/-- A part of an array that is a variable, the elements of one cell each. -/
theorem run_sliceAt_cell {P : Program} (w : World) (T E n : Nat) (hT : P.underlying T = some (.array n E)) (hi : (P.info? E).map (·.size) = some 1)
    (g o l h : Nat) (hl : l < n) (hlh : l ≤ h) (hn : h ≤ n) (k k' : IntKind) (il ih : Int) (el : il = (l : Int)) (eh : ih = (h : Int)) :
    (Instr.sliceAt T (.pointer (some ⟨g, o, none⟩)) (some (.int k il)) (some (.int k' ih)) none).run P w = .ok (.slice (some ⟨g, o + l, none⟩) (h - l) (n - l)) w := by
  subst el eh
  cases hq : P.info? E with
  | none => simp [hq] at hi
  | some i =>
    have hs : i.size = 1 := by simpa [hq] using hi
    simp [Instr.sliceAt, Instr.sureAddr, run_underlying hT, Instr.sliceBounds, Instr.sliceBound, asIntOf, Sem.run_bind, sizeOf, typeInfo, hq, hs, hlh, hn, addr_add, show ¬ n = l by omega]
/-- The address of an array's element, the elements of one cell each. -/
theorem run_indexAt_cell {P : Program} (w : World) (T E n : Nat) (hT : P.underlying T = some (.array n E)) (hi : (P.info? E).map (·.size) = some 1)
    (g o j : Nat) (hj : j < n) (k : IntKind) (i : Int) (ei : i = (j : Int)) :
    (Instr.indexAt T (.pointer (some ⟨g, o, none⟩)) (.int k i)).run P w = .ok (.pointer (some ⟨g, o + j, none⟩)) w := by
  subst ei
  cases hq : P.info? E with
  | none => simp [hq] at hi
  | some i =>
    have hs : i.size = 1 := by simpa [hq] using hi
    have h0 : 0 ≤ (j : Int) ∧ (j : Int) < (n : Int) := by omega
    simp [Instr.indexAt, Instr.sureAddr, run_underlying hT, asIntOf, Sem.run_bind, sizeOf, typeInfo, hq, hs, h0, addr_add]
    intro hh; omega
/-- A world in the goal under a name, with what is known of it. -/
theorem wp_gen {P : Program} {c : Code} {Q : Exit → Act → World → Prop} {a : Act} {w : World} (R : World → Prop) (h : R w) (k : ∀ w', R w' → c.wp P Q a w') : c.wp P Q a w := k w h
theorem wpList_gen {P : Program} {ops : Array Oper} {Q : Exit → Act → World → Prop} {r : List Oper} {a : Act} {w : World} (R : World → Prop) (h : R w) (k : ∀ w', R w' → wpList P ops Q r a w') : wpList P ops Q r a w := k w h
theorem any_gen {F : World → Prop} {w : World} (R : World → Prop) (h : R w) (k : ∀ w', R w' → F w') : F w := k w h
/-- An array's first elements. -/
theorem run_sliceAt_head {P : Program} (w : World) (T E n : Nat) (hT : P.underlying T = some (.array n E)) (hi : (P.info? E).map (·.size) = some 1)
    (g o h : Nat) (hn : h ≤ n) (k : IntKind) (ih : Int) (eh : ih = (h : Int)) :
    (Instr.sliceAt T (.pointer (some ⟨g, o, none⟩)) none (some (.int k ih)) none).run P w = .ok (.slice (some ⟨g, o, none⟩) h n) w := by
  subst eh
  cases hq : P.info? E with
  | none => simp [hq] at hi
  | some i =>
    simp [Instr.sliceAt, Instr.sureAddr, run_underlying hT, Instr.sliceBounds, Instr.sliceBound, asIntOf, Sem.run_bind, sizeOf, typeInfo, hq, hn, addr_add]
end Go.Proofs.Ytkbjgaobhbiieaa
/- A part of a block as an array: loaded, stored. -/
namespace Go.Proofs.Ytkbjgaobhbiieaa
open Go.RowKit
/-- F with f laid over the n places from o on. -/
def over (F : Nat → Value) (o n : Nat) (f : Nat → Value) (i : Nat) : Value := if o ≤ i ∧ i < o + n then f (i - o) else F i
section
variable {P : Program} {w : World} {g o n N : Nat} {t ty : TypeId} {F f : Nat → Value} {d : TypeDesc}
theorem Blk.range (h : Blk w g t (row N F)) (hn : o + n ≤ N) : w.rangeAt g o ((List.range n).map fun i => F (o + i)) := fun j v hv => by
  have hj : j < n := by
    rcases Nat.lt_or_ge j n with h1 | h1
    · exact h1
    · rw [List.getElem?_eq_none (by simpa using h1)] at hv; cases hv
  have : v = F (o + j) := by simp [hj] at hv; exact hv.symm
  rw [this]; exact h.at_ (by omega)
theorem run_loadAt_part (h : Blk w g t (row N F)) (hn : o + n ≤ N) (hu : P.underlying ty = some d) (hd : d.isRow = true) (hi : (P.info? ty).map (·.size) = some n) :
    (Instr.loadAt ty (.pointer (some ⟨g, o, none⟩))).run P w = .ok (.agg (row n fun i => F (o + i))) w := by
  have := run_loadAt_mid (P := P) w g o ty _ d (h.range hn) hu hd (by rw [hi]; simp)
  simpa [row] using this
theorem wpList_load_part {ops : Array Oper} {rest : List Oper} {op : Oper} {a : Act} {Q : Exit → Act → World → Prop} (hgd : op.guard = none) (ty : TypeId) (x : Operand) (ho : op.op = .load ty x)
    (g o n N : Nat) (F : Nat → Value) (hx : a.eval x = .pointer (some ⟨g, o, none⟩)) (t : TypeId) (hb : Blk w g t (row N F)) (hn : o + n ≤ N) (d : TypeDesc)
    (hu : P.underlying ty = some d) (hd : d.isRow = true) (hi : (P.info? ty).map (·.size) = some n)
    (h : wpList P ops Q rest (a.put op.dst (.agg (row n fun i => F (o + i)))) w) : wpList P ops Q (op :: rest) a w :=
  wpList_plain hgd fun _ hK => by
    unfold Oper.wp execOp
    simp only [ho, hx, Sem.run_bind, run_loadAt_part hb hn hu hd hi, Result.andThen_ok]
    exact hK _ _ h
theorem wpStill_load_part {ops : Array Oper} {rest : List Oper} {op : Oper} {a : Act} {Q : Act → Prop} (hgd : op.guard = none) (ty : TypeId) (x : Operand) (ho : op.op = .load ty x)
    (g o n N : Nat) (F : Nat → Value) (hx : a.eval x = .pointer (some ⟨g, o, none⟩)) (t : TypeId) (hb : Blk w g t (row N F)) (hn : o + n ≤ N) (d : TypeDesc)
    (hu : P.underlying ty = some d) (hd : d.isRow = true) (hi : (P.info? ty).map (·.size) = some n)
    (h : wpStill P ops w Q rest (a.put op.dst (.agg (row n fun i => F (o + i))))) : wpStill P ops w Q (op :: rest) a :=
  wpStill_step fun K hK => by
    rw [if_pos (by simp [Region.wanted, hgd])]
    unfold Oper.still execOp
    simp only [ho, hx, Sem.run_bind, run_loadAt_part hb hn hu hd hi, Result.andThen_ok]
    exact ⟨rfl, hK _ h⟩
theorem wpStill_build {ops : Array Oper} {rest : List Oper} {op : Oper} {a : Act} {Q : Act → Prop} (hgd : op.guard = none) (t : TypeId) (parts : Array (Nat × Operand)) (ho : op.op = .build t parts)
    (l : List (Nat × Value)) (hl : (parts.map fun (i, x) => (i, a.eval x)).toList = l) (cells : Array Value) (hc : P.built t l = some cells)
    (h : wpStill P ops w Q rest (a.put op.dst (.agg cells))) : wpStill P ops w Q (op :: rest) a :=
  wpStill_step fun K hK => by
    rw [if_pos (by simp [Region.wanted, hgd])]
    subst hl
    unfold Oper.still execOp
    simp only [ho, Sem.run_bind, run_build w t _ cells hc, Result.andThen_ok]
    exact ⟨rfl, hK _ h⟩
theorem row_getElem (n : Nat) (f : Nat → Value) (j : Nat) : (row n f).toList[j]? = if j < n then some (f j) else none := by
  by_cases h : j < n <;> simp [row, h]
theorem over_row (hn : o + n ≤ N) : ((row N F).toList.take (o + 0) ++ (row n f).toList ++ (row N F).toList.drop (o + 0 + (row n f).toList.length)).toArray = row N (over F o n f) := by
  apply Array.ext'
  apply List.ext_getElem?
  intro j
  have e1 : (row n f).toList.length = n := by simp [row]
  have e2 : ((row N F).toList.take (o + 0)).length = o := by simp [row]; omega
  have e3 : ((row N F).toList.take (o + 0) ++ (row n f).toList).length = o + n := by rw [List.length_append, e1, e2]
  show (((row N F).toList.take (o + 0) ++ (row n f).toList) ++ (row N F).toList.drop (o + 0 + (row n f).toList.length))[j]? = _
  rw [List.getElem?_append, List.getElem?_append, e3, e2, List.getElem?_take, List.getElem?_drop, row_getElem, row_getElem, row_getElem, row_getElem, e1]
  unfold over
  by_cases h1 : j < o
  · rw [if_pos (by omega), if_pos h1, if_pos (by omega), if_pos (by omega), if_pos (by omega), if_neg (by omega)]
  · by_cases h2 : j < o + n
    · rw [if_pos h2, if_neg h1, if_pos (by omega), if_pos (by omega), if_pos (by omega)]
    · by_cases h3 : j < N
      · rw [if_neg h2, if_pos (by omega), if_pos h3, if_neg (by omega), show o + 0 + n + (j - (o + n)) = j by omega]
      · rw [if_neg h2, if_neg (by omega), if_neg h3]
theorem wpList_store_part {ops : Array Oper} {rest : List Oper} {op : Oper} {a : Act} {Q : Exit → Act → World → Prop} (hgd : op.guard = none) (ty : TypeId) (x y : Operand) (ho : op.op = .store ty x y)
    (g o n N : Nat) (F f : Nat → Value) (hx : a.eval x = .pointer (some ⟨g, o, none⟩)) (hy : a.eval y = .agg (row n f)) (t : TypeId) (hb : Blk w g t (row N F)) (hn : o + n ≤ N)
    (hi : (P.info? ty).map (·.size) = some n) (h1 : ∀ i, (f i).oneCell' = true)
    (h : wpList P ops Q rest (a.put op.dst undef) (w.setRow g (row N (over F o n f)))) : wpList P ops Q (op :: rest) a w :=
  wpList_plain hgd fun _ hK => by
    have := run_storeCells_at (P := P) g o t (row n f).toList 0 (row N F) w hb (by simp [row]; omega) (fun v hv => by simp [row] at hv; obtain ⟨i, _, rfl⟩ := hv; exact h1 i)
    rw [over_row hn] at this
    have hs : (storeVar ty ⟨g, o, none⟩ (.agg (row n f))).run P w = .ok () (w.setRow g (row N (over F o n f))) := by
      cases hq : P.info? ty with
      | none => simp [hq] at hi
      | some i =>
        have hs : i.size = n := by simpa [hq] using hi
        simp [storeVar, sizeOf, typeInfo, hq, Value.cells, hs, this, row_size]
    unfold Oper.wp execOp
    simp only [ho, hx, hy, Instr.storeAt, Instr.sureAddr, Sem.run_bind, Sem.run_pure, Result.andThen_ok, hs]
    exact hK _ _ h
/-- A whole row loaded; a whole row stored as it is: as steps of a region that draws. -/
theorem step_load_row {P : Program} {ops : Array Oper} {o : Oper} {a : Act} {w : World} {K : Act → World → Prop} {Q : Exit → Act → World → Prop} {E : Prop} (hgd : o.guard = none) (ty : TypeId) (x : Operand) (ho : o.op = .load ty x)
    (g : Nat) (hx : a.eval x = .pointer (some ⟨g, 0, none⟩)) (t : TypeId) (cs : Array Value) (d : TypeDesc) (hg : Blk w g t cs)
    (hu : P.underlying ty = some d) (hd : (match d with | .struct _ | .array _ _ => true | _ => false) = true) (hi : (P.info? ty).map (·.size) = some cs.size)
    (h : K (a.put o.dst (.agg cs)) w) : if Region.wanted o (yielded ops a.tmps) = true then Oper.wp P o a w K Q else E := by
  rw [if_pos (by simp [Region.wanted, hgd])]
  exact wp_load_row ty x ho g hx t cs (0, 0) d hg hu hd hi h
theorem step_store_same {P : Program} {ops : Array Oper} {o : Oper} {a : Act} {w : World} {K : Act → World → Prop} {Q : Exit → Act → World → Prop} {E : Prop} (hgd : o.guard = none) (ty : TypeId) (x y : Operand) (ho : o.op = .store ty x y)
    (g : Nat) (cs : Array Value) (hx : a.eval x = .pointer (some ⟨g, 0, none⟩)) (hy : a.eval y = .agg cs) (t : TypeId) (hg : Blk w g t cs)
    (hi : (P.info? ty).map (·.size) = some cs.size) (h1 : cs.all (·.oneCell') = true)
    (h : K (a.put o.dst undef) w) : if Region.wanted o (yielded ops a.tmps) = true then Oper.wp P o a w K Q else E := by
  rw [if_pos (by simp [Region.wanted, hgd])]
  refine wp_store_row ty x y ho g cs hx hy t cs hg hi rfl h1 ?_
  rw [setRow_self w g cs t (0, 0) hg]
  exact h
end
end Go.Proofs.Ytkbjgaobhbiieaa
/- Slices of bytes that the call owns: as a string. -/
namespace Go.Proofs.Ytkbjgaobhbiieaa
open Go.RowKit
def b8v (b : BitVec 8) : Value := .int .u8 (iw b)
def asBytes (l : List (BitVec 8)) : List UInt8 := l.map UInt8.ofBitVec
theorem foldl_push (l : List (BitVec 8)) : ∀ r : ByteArray, (l.map iw).foldl (fun r n => r.push (UInt8.ofNat n.toNat)) r = ⟨(r.data.toList ++ asBytes l).toArray⟩ := by
  induction l with
  | nil => intro r; simp [asBytes]
  | cons b l ih =>
    intro r
    rw [List.map_cons, List.foldl_cons, ih]
    have : UInt8.ofNat (iw b).toNat = UInt8.ofBitVec b := by
      unfold iw; rw [Int.toNat_natCast]; exact UInt8.toBitVec_inj.1 (by simp [UInt8.ofNat])
    simp [asBytes, this, ByteArray.push]
theorem run_string_of_own {P : Program} (w : World) (src dst e base : Nat) (hs : P.underlying src = some (.slice e)) (he : P.underlying e = some (.int .u8)) (hd : P.underlying dst = some .string)
    (v : Value) (n : Nat) (l : List (BitVec 8)) (h : w.ownsRow base e 1 v n (l.map b8v)) : (convert src dst v).run P w = .ok (.string ⟨(asBytes l).toArray⟩) w := by
  have hlen : l.length = n := by have := h.1; simpa using this
  rcases h.2 with ⟨rfl, h0⟩ | ⟨g, cap, cur, rfl, _⟩
  · subst h0
    obtain rfl : l = [] := List.eq_nil_of_length_eq_zero hlen
    rw [run_convert_bytes_string w src dst e _ _ _ hs he hd]
    rfl
  · rw [run_convert_bytes_string w src dst e _ _ _ hs he hd]
    rw [run_bytesToString w ⟨g, 0, none⟩ n cap (l.map iw)]
    · rw [foldl_push]; simp
    · have := run_loadCells_list (P := P) w ⟨g, 0, none⟩ (l.map b8v) (fun j u hu => h.cells (g := g) (by simp [Value.ownBlock]) j u hu)
      rw [List.length_map, hlen] at this
      rw [this]
      congr 2
      simp [b8v, Function.comp_def]
theorem step_append_own {P : Program} (w : World) {ops : Array Oper} {o : Oper} {a : Act} {K : Act → World → Prop} {Q : Exit → Act → World → Prop} {E : Prop} (hgd : o.guard = none) (s x : Operand) (t : TypeId)
    (ho : o.op = .call { callee := .builtin .append, args := #[s, x], argTypes := #[t, t] })
    (base : Nat) (e : TypeId) (i : TypeInfo) (z : Value) (size bytes : Nat) (ht : P.underlying t = some (.slice e)) (hi : P.info? e = some i) (hz : i.zero = some z)
    (hsize : i.size = size) (hby : i.bytes = bytes) (hzs : z.cells.size = size) (hsz : 0 < size)
    (v : Value) (n : Nat) (xs : List Value) (hs : a.eval s = v) (hown : w.ownsRow base e size v n xs)
    (ad : Addr) (m c : Nat) (news : List Value) (hx : a.eval x = .slice (some ad) m c) (hl : news.length = m * size) (hnews : ∀ j u, news[j]? = some u → w.cell? (ad.add j) = some u) (h1 : ∀ u ∈ news, u.oneCell' = true)
    (h63 : n + m ≤ maxLen) (hbytes : (n + m) * bytes ≤ 140737488355328) (hbase : base ≤ w.heap.size)
    (h : ∀ v' w', w'.ownsRow base e size v' (n + m) (xs ++ news) → w.grownBy w' v.ownBlock → (v' = .slice none 0 0 ↔ v = .slice none 0 0 ∧ m = 0) → K (a.put o.dst v') w') :
    if Region.wanted o (yielded ops a.tmps) = true then Oper.wp P o a w K Q else E := by
  rw [if_pos (by simp [Region.wanted, hgd])]
  exact wp_append_own w s x t ho base e i z size bytes ht hi hz hsize hby hzs hsz v n xs hs hown ad m c news hx hl hnews h1 h63 hbytes hbase h
theorem own_le {w : World} {base e size n : Nat} {v : Value} {xs : List Value} (h : w.ownsRow base e size v n xs) (q : Nat) (hq : v.ownBlock = some q) : base ≤ q := by
  rcases h.2 with ⟨rfl, _⟩ | ⟨g', cap, cur, rfl, hg', _⟩
  · simp [Value.ownBlock] at hq
  · have : g' = q := by simpa [Value.ownBlock] using hq
    omega
end Go.Proofs.Ytkbjgaobhbiieaa
/- copy of a string's bytes into a part of a block. -/
namespace Go.Proofs.Ytkbjgaobhbiieaa
open Go.RowKit
/-- A string's byte j. -/
def bS (s : ByteArray) (j : Nat) : BitVec 8 := (s[j]?.getD 0).toBitVec
def bL (l : List UInt8) (i : Nat) : BitVec 8 := (l.getD i 0).toBitVec
theorem bS_bL (T : ByteArray) : bS T = bL T.data.toList := by
  funext i
  unfold bS bL
  rw [List.getD_eq_getElem?_getD]
  congr 1
  by_cases h : i < T.size
  · rw [getElem?_pos T i h]
    have : T.data.toList[i]? = some T.data[i] := by simp
    rw [this]; rfl
  · rw [getElem?_neg T i h, List.getElem?_eq_none (by simpa using h)]
section
variable {P : Program} {w : World} {g o n N : Nat} {t : TypeId} {F : Nat → Value}
theorem cells_of_string (s : ByteArray) (hn : n ≤ s.size) : ((s.extract 0 n).data.map fun b => Value.int .u8 b.toNat).toList = (row n fun i => Value.int .u8 (iw (bS s i))).toList := by
  apply List.ext_getElem?
  intro j
  rw [row_getElem]
  by_cases h : j < n
  · rw [if_pos h]
    have hj : j < s.size := by omega
    have e : s[j]? = some s[j] := by simp [hj]
    have : iw (bS s j) = ((s[j]).toNat : Int) := by unfold iw bS; rw [e]; rfl
    rw [this]
    simp [ByteArray.data_extract, h, hj]
    rfl
  · rw [if_neg h, List.getElem?_eq_none]
    simp [ByteArray.data_extract]
    omega
theorem run_copy_string (dT sT ty elem dLen dCap : Nat) (s : ByteArray) (hu : P.underlying dT = some (.slice elem)) (hs : (P.info? elem).map (·.size) = some 1)
    (hg : Blk w g t (row N F)) (hn : n = min s.size dLen) (hfit : o + n ≤ N) :
    (Builtin.copy_ #[dT, sT] ty #[.slice (some ⟨g, o, none⟩) dLen dCap, .string s]).run P w = .ok (.int .i64 (n : Int)) (w.setRow g (row N (over F o n fun i => .int .u8 (iw (bS s i))))) := by
  have h0 : (row n fun i => Value.int .u8 (iw (bS s i))).toList.length = n := by simp [row]
  have hst := run_storeCells_at (P := P) g o t (row n fun i => Value.int .u8 (iw (bS s i))).toList 0 (row N F) w hg (by rw [h0, row_size]; omega) (fun v hv => by simp [row] at hv; obtain ⟨i, _, rfl⟩ := hv; rfl)
  rw [over_row hfit, ← cells_of_string s (by rw [hn]; exact Nat.min_le_left _ _)] at hst
  have hmin : Nat.min s.size dLen = n := hn.symm
  cases hq : P.info? elem with
  | none => simp [hq] at hs
  | some i =>
    have hi : i.size = 1 := by simpa [hq] using hs
    simp only [Builtin.copy_]
    simp [run_underlying hu, Builtin.lenOf, Builtin.firstCells, sizeOf, typeInfo, hq, hmin, goInt]
    have e : List.take n (List.map (fun b : UInt8 => Value.int IntKind.u8 ↑b.toNat) s.data.toList) = ((s.extract 0 n).data.map fun b => Value.int .u8 b.toNat).toList := by simp
    rw [e, hst]
    rfl
theorem step_copy_string {ops : Array Oper} {op : Oper} {a : Act} {K : Act → World → Prop} {Q : Exit → Act → World → Prop} {E : Prop} (hgd : op.guard = none) (d s : Operand) (dT sT : TypeId)
    (ho : op.op = .call { callee := .builtin .copy, args := #[d, s], argTypes := #[dT, sT] }) (elem : TypeId) (hu : P.underlying dT = some (.slice elem)) (hsz : (P.info? elem).map (·.size) = some 1)
    (g o dLen dCap N : Nat) (F : Nat → Value) (x : ByteArray) (hd : a.eval d = .slice (some ⟨g, o, none⟩) dLen dCap) (hs : a.eval s = .string x)
    (hg : Blk w g t (row N F)) (n : Nat) (hn : n = min x.size dLen) (hfit : o + n ≤ N)
    (h : K (a.put op.dst (.int .i64 (n : Int))) (w.setRow g (row N (over F o n fun i => .int .u8 (iw (bS x i)))))) :
    if Region.wanted op (yielded ops a.tmps) = true then Oper.wp P op a w K Q else E := by
  rw [if_pos (by simp [Region.wanted, hgd])]
  have hrun := run_copy_string (P := P) dT sT op.type elem dLen dCap x hu hsz hg hn hfit
  unfold Oper.wp
  simp [execOp, ho, resolve, invoke, builtin, hd, hs, hrun, Result.andThen]
  exact h
end
end Go.Proofs.Ytkbjgaobhbiieaa
/- Numbers as lists of bytes: doubled, less another one; modulo L. -/
namespace Go.Proofs.Ytkbjgaobhbiieaa
/-- L of the chapter. -/
def qL : Nat := 7237005577332262213973186563042994240857116359379907606001950938285454250989
/-- Byte k of n. -/
def byteK (n k : Nat) : Nat := n / 2 ^ (8 * k) % 256
theorem byteK_lt (n k : Nat) : byteK n k < 256 := Nat.mod_lt _ (by decide)
theorem pow8 (k : Nat) : (2 : Nat) ^ (8 * (k + 1)) = 2 ^ (8 * k) * 256 := by rw [Nat.mul_succ, Nat.pow_add]
theorem mod8 (n k : Nat) : n % 2 ^ (8 * (k + 1)) = n % 2 ^ (8 * k) + 2 ^ (8 * k) * byteK n k := by
  unfold byteK; rw [pow8, Nat.mod_mul]
/-- The carry into place k when R is doubled and c is added. -/
def dc (R c k : Nat) : Nat := (2 * (R % 2 ^ (8 * k)) + c) / 2 ^ (8 * k)
theorem dc_zero (R c : Nat) : dc R c 0 = c := by
  unfold dc; rw [Nat.mul_zero, Nat.pow_zero, Nat.mod_one, Nat.div_one, Nat.mul_zero, Nat.zero_add]
theorem dc_byte (R c k : Nat) : (2 * byteK R k + dc R c k) % 256 = byteK (2 * R + c) k := by
  have hQ : 0 < 2 ^ (8 * k) := Nat.pow_pos (by decide)
  unfold byteK dc
  have h := Nat.mod_add_div R (2 ^ (8 * k))
  generalize 2 ^ (8 * k) = Q at *
  have e : 2 * R + c = (2 * (R % Q) + c) + Q * (2 * (R / Q)) := by
    rw [Nat.mul_left_comm]; omega
  rw [e, Nat.add_mul_div_left _ _ hQ]
  omega
theorem dc_next (R c k : Nat) : (2 * byteK R k + dc R c k) / 256 = dc R c (k + 1) := by
  have hQ : 0 < 2 ^ (8 * k) := Nat.pow_pos (by decide)
  unfold dc
  rw [mod8, pow8, ← Nat.div_div_eq_div_mul]
  generalize byteK R k = b
  generalize R % 2 ^ (8 * k) = m
  generalize 2 ^ (8 * k) = Q at *
  rw [show 2 * (m + Q * b) + c = (2 * m + c) + Q * (2 * b) by rw [Nat.mul_left_comm Q]; omega, Nat.add_mul_div_left _ _ hQ, Nat.add_comm]
theorem dc_le (R c k : Nat) (hc : c ≤ 1) : dc R c k ≤ 1 := by
  have hQ : 0 < 2 ^ (8 * k) := Nat.pow_pos (by decide)
  unfold dc
  have h := Nat.mod_lt R hQ
  generalize 2 ^ (8 * k) = Q at *
  exact Nat.le_of_lt_succ ((Nat.div_lt_iff_lt_mul hQ).2 (by omega))
/-- The borrow into place k of X less l. -/
def bo (X l k : Nat) : Nat := if X % 2 ^ (8 * k) < l % 2 ^ (8 * k) then 1 else 0
theorem bo_zero (X l : Nat) : bo X l 0 = 0 := by
  unfold bo; rw [Nat.mul_zero, Nat.pow_zero, Nat.mod_one, Nat.mod_one, if_neg (by omega)]
theorem bo_le (X l k : Nat) : bo X l k ≤ 1 := by unfold bo; split <;> omega
theorem bo_next (X l k : Nat) : 1 - (byteK X k + 256 - byteK l k - bo X l k) / 256 = bo X l (k + 1) := by
  have hQ : 0 < 2 ^ (8 * k) := Nat.pow_pos (by decide)
  have h1 := byteK_lt X k
  have h2 := byteK_lt l k
  unfold bo
  rw [mod8, mod8]
  generalize byteK X k = x at *
  generalize byteK l k = y at *
  have h3 := Nat.mod_lt X hQ
  have h4 := Nat.mod_lt l hQ
  generalize X % 2 ^ (8 * k) = m at *
  generalize l % 2 ^ (8 * k) = n at *
  generalize 2 ^ (8 * k) = Q at *
  rcases Nat.lt_trichotomy x y with h | h | h
  · have hm := Nat.mul_le_mul_left Q (show x + 1 ≤ y from h)
    rw [Nat.mul_succ] at hm
    rw [if_pos (show m + Q * x < n + Q * y by omega)]
    split <;> omega
  · subst h
    by_cases hmn : m < n
    · rw [if_pos hmn, if_pos (by omega)]; omega
    · rw [if_neg hmn, if_neg (by omega)]; omega
  · have hm := Nat.mul_le_mul_left Q (show y + 1 ≤ x from h)
    rw [Nat.mul_succ] at hm
    rw [if_neg (show ¬ m + Q * x < n + Q * y by omega)]
    split <;> omega
theorem bo_byte (X l k : Nat) (hl : l ≤ X) : (byteK X k + 256 - byteK l k - bo X l k) % 256 = byteK (X - l) k := by
  have hQ : 0 < 2 ^ (8 * k) := Nat.pow_pos (by decide)
  unfold bo byteK
  have hX := Nat.mod_add_div X (2 ^ (8 * k))
  have hL := Nat.mod_add_div l (2 ^ (8 * k))
  have h3 := Nat.mod_lt X hQ
  have h4 := Nat.mod_lt l hQ
  have hd : l / 2 ^ (8 * k) ≤ X / 2 ^ (8 * k) := Nat.div_le_div_right hl
  generalize X % 2 ^ (8 * k) = m at *
  generalize l % 2 ^ (8 * k) = n at *
  generalize X / 2 ^ (8 * k) = x at *
  generalize l / 2 ^ (8 * k) = y at *
  generalize 2 ^ (8 * k) = Q at *
  obtain ⟨d, rfl⟩ : ∃ d, x = y + d := ⟨x - y, by omega⟩
  rw [Nat.mul_add] at hX
  by_cases hmn : m < n
  · rw [if_pos hmn]
    have hd1 : 0 < d := by
      rcases Nat.eq_zero_or_pos d with h | h
      · subst h; rw [Nat.mul_zero] at hX; omega
      · exact h
    obtain ⟨f, rfl⟩ : ∃ f, d = f + 1 := ⟨d - 1, by omega⟩
    rw [Nat.mul_succ] at hX
    have e : X - l = (m + Q - n) + Q * f := by omega
    rw [e, Nat.add_mul_div_left _ _ hQ, Nat.div_eq_of_lt (show m + Q - n < Q by omega)]
    omega
  · rw [if_neg hmn]
    have e : X - l = (m - n) + Q * d := by omega
    rw [e, Nat.add_mul_div_left _ _ hQ, Nat.div_eq_of_lt (show m - n < Q by omega)]
    omega
theorem div8 (n k : Nat) : n / 2 ^ (8 * k) = n / 2 ^ (8 * (k + 1)) * 256 + byteK n k := by
  unfold byteK; rw [pow8, ← Nat.div_div_eq_div_mul]; omega
theorem cmp_same {X l k : Nat} (h : X / 2 ^ (8 * (k + 1)) = l / 2 ^ (8 * (k + 1))) (hb : byteK X k = byteK l k) : X / 2 ^ (8 * k) = l / 2 ^ (8 * k) := by
  rw [div8 X k, div8 l k, h, hb]
theorem cmp_next {X l k : Nat} (h : X / 2 ^ (8 * (k + 1)) = l / 2 ^ (8 * (k + 1))) (hb : ¬ byteK X k = byteK l k) : byteK X k < byteK l k ↔ X < l := by
  have hQ : 0 < 2 ^ (8 * k) := Nat.pow_pos (by decide)
  have h1 := div8 X k
  have h2 := div8 l k
  rw [h] at h1
  constructor
  · intro hlt
    refine Nat.lt_of_not_le fun hle => ?_
    have := Nat.div_le_div_right (c := 2 ^ (8 * k)) hle
    omega
  · intro hlt
    have := Nat.div_le_div_right (c := 2 ^ (8 * k)) (Nat.le_of_lt hlt)
    omega
theorem cmp_end {X l : Nat} (h : X / 2 ^ (8 * 0) = l / 2 ^ (8 * 0)) : X = l := by
  rwa [Nat.mul_zero, Nat.pow_zero, Nat.div_one, Nat.div_one] at h
theorem cmp_top {X : Nat} (hX : X < 2 ^ 256 * 256) (h : byteK X 32 = 0) : X / 2 ^ (8 * (31 + 1)) = 0 := by
  unfold byteK at h
  rw [show 8 * (31 + 1) = 256 by rfl]
  rw [show 8 * 32 = 256 by rfl] at h
  have : X / 2 ^ 256 < 256 := Nat.div_lt_of_lt_mul hX
  rwa [Nat.mod_eq_of_lt this] at h
theorem cmp_over {X : Nat} (h : ¬ byteK X 32 = 0) : ¬ X < qL := by
  intro hlt
  apply h
  unfold byteK
  rw [Nat.div_eq_of_lt (Nat.lt_of_lt_of_le hlt (by decide))]
/-- One bit more: the rest modulo L. -/
theorem rest_next (n i : Nat) : (2 * (n / 2 ^ (i + 1) % qL) + n / 2 ^ i % 2) % qL = n / 2 ^ i % qL := by
  have e : n / 2 ^ i = 2 * (n / 2 ^ (i + 1)) + n / 2 ^ i % 2 := by
    rw [Nat.pow_succ, ← Nat.div_div_eq_div_mul]; omega
  have h : n / 2 ^ i % qL = (2 * (n / 2 ^ (i + 1)) + n / 2 ^ i % 2) % qL := by rw [← e]
  rw [h, Nat.add_mod, Nat.mul_mod, Nat.mod_mod, ← Nat.mul_mod, ← Nat.add_mod]
theorem rest_lt (R c : Nat) (hR : R < qL) (hc : c ≤ 1) : 2 * R + c < 2 * qL := by omega
theorem rest_below {X : Nat} (h : X < qL) : X % qL = X := Nat.mod_eq_of_lt h
theorem rest_less {X : Nat} (h : ¬ X < qL) (h2 : X < 2 * qL) : X % qL = X - qL := by
  rw [Nat.mod_eq_sub_mod (by omega), Nat.mod_eq_of_lt (by omega)]
end Go.Proofs.Ytkbjgaobhbiieaa
/- Numbers of 256 bits as digits and words. -/
namespace Go.Proofs.Ytkbjgaobhbiieaa
open Go.RowKit
abbrev r32 (n : Nat) (f : Nat → BitVec 32) : Array Value := row n fun i => Value.int .u32 (iw (f i))
abbrev r64 (n : Nat) (f : Nat → BitVec 64) : Array Value := row n fun i => Value.int .u64 (iw (f i))
theorem below_draws {B : Nat} {w0 w : World} (h : Below B w0 w) (n : Nat) : Below B w0 (w.drewN n) := ⟨h.os, h.tape, h.output, h.size, h.block⟩
/-- The digits of 32 bits, the words of 64 bits of a number. -/
def N8 (a i : Nat) : BitVec 32 := BitVec.ofNat 32 (a / 2 ^ (32 * i))
def F4 (a i : Nat) : BitVec 64 := BitVec.ofNat 64 (a / 2 ^ (64 * i))
def M256 : Nat := 115792089237316195423570985008687907853269984665640564039457584007913129639936
def pP : Nat := 57896044618658097711785492504343953926634992332820282019728792003956564819949
theorem N8_nat (a i : Nat) : (N8 a i).toNat = a / 2 ^ (32 * i) % 4294967296 := by unfold N8; rw [BitVec.toNat_ofNat]
theorem F4_nat (a i : Nat) : (F4 a i).toNat = a / 2 ^ (64 * i) % 18446744073709551616 := by unfold F4; rw [BitVec.toNat_ofNat]
/-- Has a - b, of the first k digits, borrowed? -/
def bw (a b k : Nat) : BitVec 64 := BitVec.ofNat 64 (if a % 2 ^ (32 * k) < b % 2 ^ (32 * k) then 1 else 0)
def mx (a b k : Nat) : BitVec 64 := subw (subw (addw (castw 64 (N8 a k)) (litw 64 4294967296)) (castw 64 (N8 b k))) (bw a b k)
theorem mx_nat (a b k : Nat) : (mx a b k).toNat = a / 2 ^ (32 * k) % 4294967296 + 4294967296 - b / 2 ^ (32 * k) % 4294967296 - (if a % 2 ^ (32 * k) < b % 2 ^ (32 * k) then 1 else 0) := by
  have h1 : (castw 64 (N8 a k)).toNat = a / 2 ^ (32 * k) % 4294967296 := by
    unfold castw; rw [BitVec.toNat_ofNat, N8_nat]; omega
  have h2 : (castw 64 (N8 b k)).toNat = b / 2 ^ (32 * k) % 4294967296 := by
    unfold castw; rw [BitVec.toNat_ofNat, N8_nat]; omega
  have h3 : (bw a b k).toNat = (if a % 2 ^ (32 * k) < b % 2 ^ (32 * k) then 1 else 0) := by
    unfold bw; rw [BitVec.toNat_ofNat]; split <;> rfl
  have h4 : (litw 64 4294967296).toNat = 4294967296 := by unfold litw; rfl
  unfold mx subw addw
  rw [BitVec.toNat_sub, BitVec.toNat_sub, BitVec.toNat_add, h1, h2, h3, h4]
  split <;> omega
theorem mx_digit (a b k : Nat) (hk : k < 8) (ha : a < M256) (hb : b < M256) : castw 32 (mx a b k) = N8 (a + M256 - b) k := by
  apply BitVec.eq_of_toNat_eq
  unfold castw
  rw [BitVec.toNat_ofNat, mx_nat, N8_nat]
  unfold M256 at *
  match k, hk with
  | 0, _ => simp only [Nat.reduceMul, Nat.reducePow]; split <;> omega
  | 1, _ => simp only [Nat.reduceMul, Nat.reducePow]; split <;> omega
  | 2, _ => simp only [Nat.reduceMul, Nat.reducePow]; split <;> omega
  | 3, _ => simp only [Nat.reduceMul, Nat.reducePow]; split <;> omega
  | 4, _ => simp only [Nat.reduceMul, Nat.reducePow]; split <;> omega
  | 5, _ => simp only [Nat.reduceMul, Nat.reducePow]; split <;> omega
  | 6, _ => simp only [Nat.reduceMul, Nat.reducePow]; split <;> omega
  | 7, _ => simp only [Nat.reduceMul, Nat.reducePow]; split <;> omega
theorem mx_borrow (a b k : Nat) (hk : k < 8) : subw (litw 64 1) (shrw (mx a b k) 32) = bw a b (k + 1) := by
  apply BitVec.eq_of_toNat_eq
  have h4 : (litw 64 1).toNat = 1 := by unfold litw; rfl
  unfold subw shrw bw
  rw [BitVec.toNat_sub, BitVec.toNat_ushiftRight, Nat.shiftRight_eq_div_pow, mx_nat, h4, BitVec.toNat_ofNat]
  match k, hk with
  | 0, _ => simp only [Nat.mul_zero, Nat.pow_zero, Nat.div_one, Nat.mod_one, Nat.reduceAdd, Nat.reduceMul, Nat.reducePow]; split <;> split <;> omega
  | 1, _ => simp only [Nat.reduceMul, Nat.reduceAdd, Nat.reducePow]; split <;> split <;> omega
  | 2, _ => simp only [Nat.reduceMul, Nat.reduceAdd, Nat.reducePow]; split <;> split <;> omega
  | 3, _ => simp only [Nat.reduceMul, Nat.reduceAdd, Nat.reducePow]; split <;> split <;> omega
  | 4, _ => simp only [Nat.reduceMul, Nat.reduceAdd, Nat.reducePow]; split <;> split <;> omega
  | 5, _ => simp only [Nat.reduceMul, Nat.reduceAdd, Nat.reducePow]; split <;> split <;> omega
  | 6, _ => simp only [Nat.reduceMul, Nat.reduceAdd, Nat.reducePow]; split <;> split <;> omega
  | 7, _ => simp only [Nat.reduceMul, Nat.reduceAdd, Nat.reducePow]; split <;> split <;> omega
end Go.Proofs.Ytkbjgaobhbiieaa
/- Words of 64 bits: sums, rests, products with one word. -/
namespace Go.Proofs.Ytkbjgaobhbiieaa
open Go.RowKit
def W64 : Nat := 18446744073709551616
theorem W64_pow (k : Nat) : (2 : Nat) ^ (64 * (k + 1)) = 2 ^ (64 * k) * W64 := by
  rw [Nat.mul_succ, Nat.pow_add]; rfl
/-- What the sum of the first k words carries. -/
def cn (x y k : Nat) : Nat := (x % 2 ^ (64 * k) + y % 2 ^ (64 * k)) / 2 ^ (64 * k)
def c64 (x y k : Nat) : BitVec 64 := BitVec.ofNat 64 (cn x y k)
theorem cn_le (x y k : Nat) : cn x y k ≤ 1 := by
  have hq : 0 < 2 ^ (64 * k) := Nat.pow_pos (by decide)
  have h1 := Nat.mod_lt x hq
  have h2 := Nat.mod_lt y hq
  have : cn x y k < 2 := Nat.div_lt_of_lt_mul (by omega)
  omega
theorem c64_nat (x y k : Nat) : (c64 x y k).toNat = cn x y k := by
  have := cn_le x y k
  unfold c64; rw [BitVec.toNat_ofNat]; exact Nat.mod_eq_of_lt (by omega)
theorem cn_zero (x y : Nat) : cn x y 0 = 0 := by unfold cn; simp [Nat.mod_one]
theorem cn_sum (x y k : Nat) : (x + y) / 2 ^ (64 * k) = x / 2 ^ (64 * k) + y / 2 ^ (64 * k) + cn x y k := by
  have hq : 0 < 2 ^ (64 * k) := Nat.pow_pos (by decide)
  unfold cn
  generalize 2 ^ (64 * k) = q at hq ⊢
  have e : x + y = (x % q + y % q) + (x / q + y / q) * q := by
    have h1 := Nat.mod_add_div x q
    have h2 := Nat.mod_add_div y q
    rw [Nat.add_mul, Nat.mul_comm (x / q), Nat.mul_comm (y / q)]; omega
  have e1 : (x + y) / q = ((x % q + y % q) + (x / q + y / q) * q) / q := by rw [← e]
  rw [e1, Nat.add_mul_div_right _ _ hq]
  omega
theorem F4_lt (x k : Nat) : x / 2 ^ (64 * k) % W64 < W64 := Nat.mod_lt _ (by decide)
theorem F4_nat' (a i : Nat) : (F4 a i).toNat = a / 2 ^ (64 * i) % W64 := F4_nat a i
theorem cn_next (x y k : Nat) : (x / 2 ^ (64 * k) % W64 + y / 2 ^ (64 * k) % W64 + cn x y k) / W64 = cn x y (k + 1) := by
  have h0 := cn_sum x y k
  have h1 := cn_sum x y (k + 1)
  rw [W64_pow, ← Nat.div_div_eq_div_mul, ← Nat.div_div_eq_div_mul, ← Nat.div_div_eq_div_mul] at h1
  rw [h0] at h1
  generalize x / 2 ^ (64 * k) = a at *
  generalize y / 2 ^ (64 * k) = b at *
  generalize cn x y k = c at *
  generalize cn x y (k + 1) = d at *
  unfold W64 at *
  omega
theorem cn_digit (x y k : Nat) : (x / 2 ^ (64 * k) % W64 + y / 2 ^ (64 * k) % W64 + cn x y k) % W64 = (x + y) / 2 ^ (64 * k) % W64 := by
  have h0 := cn_sum x y k
  rw [h0]
  generalize x / 2 ^ (64 * k) = a at *
  generalize y / 2 ^ (64 * k) = b at *
  generalize cn x y k = c at *
  unfold W64 at *
  omega
/-- What is carried behind word k of X times b, and W. -/
def cr (X b W k : Nat) : Nat := (X * (b % 2 ^ (64 * k)) + W % 2 ^ (64 * k)) / 2 ^ (64 * k)
theorem cr_sum (X b W k : Nat) : (X * b + W) / 2 ^ (64 * k) = X * (b / 2 ^ (64 * k)) + W / 2 ^ (64 * k) + cr X b W k := by
  have hq : 0 < 2 ^ (64 * k) := Nat.pow_pos (by decide)
  unfold cr
  generalize 2 ^ (64 * k) = q at hq ⊢
  have e : X * b + W = (X * (b % q) + W % q) + (X * (b / q) + W / q) * q := by
    have h1 := Nat.mod_add_div b q
    have h2 := Nat.mod_add_div W q
    have e2 : X * b = X * (b % q) + X * (b / q) * q := by
      have : X * b = X * (b % q + q * (b / q)) := by rw [h1]
      rw [this, Nat.mul_add, ← Nat.mul_assoc, Nat.mul_right_comm]
    rw [Nat.add_mul, Nat.mul_comm (W / q)]
    omega
  have e1 : (X * b + W) / q = ((X * (b % q) + W % q) + (X * (b / q) + W / q) * q) / q := by rw [← e]
  rw [e1, Nat.add_mul_div_right _ _ hq]
  omega
theorem cr_lt (X b W k : Nat) (hX : X < W64) : cr X b W k < W64 := by
  have hq : 0 < 2 ^ (64 * k) := Nat.pow_pos (by decide)
  unfold cr
  generalize 2 ^ (64 * k) = q at hq ⊢
  refine Nat.div_lt_of_lt_mul ?_
  have h1 := Nat.mod_lt b hq
  have h2 := Nat.mod_lt W hq
  have h3 : X * (b % q) ≤ (W64 - 1) * (q - 1) := Nat.mul_le_mul (by omega) (by omega)
  have h4 : (W64 - 1) * (q - 1) + (W64 - 1) = (W64 - 1) * q := by
    obtain ⟨c, rfl⟩ : ∃ c, q = c + 1 := ⟨q - 1, by omega⟩
    rw [Nat.add_sub_cancel, Nat.mul_succ]
  have h5 : q * W64 = (W64 - 1) * q + q := by
    have : W64 = (W64 - 1) + 1 := by decide
    rw [this, Nat.mul_succ, Nat.mul_comm q]; rfl
  have h6 : 0 < W64 := by decide
  omega
theorem cr_next (X b W k : Nat) : (X * (b / 2 ^ (64 * k) % W64) + W / 2 ^ (64 * k) % W64 + cr X b W k) / W64 = cr X b W (k + 1) := by
  have h0 := cr_sum X b W k
  have h1 := cr_sum X b W (k + 1)
  rw [W64_pow, ← Nat.div_div_eq_div_mul, ← Nat.div_div_eq_div_mul, ← Nat.div_div_eq_div_mul] at h1
  rw [h0] at h1
  generalize b / 2 ^ (64 * k) = B at *
  have hB : X * B = X * (B % W64) + X * (B / W64) * W64 := by
    have : B = B % W64 + W64 * (B / W64) := (Nat.mod_add_div B W64).symm
    have e : X * B = X * (B % W64 + W64 * (B / W64)) := by rw [← this]
    rw [e, Nat.mul_add, Nat.mul_assoc, Nat.mul_comm W64]
  rw [hB] at h1
  generalize X * (B % W64) = a at *
  generalize X * (B / W64) = a2 at *
  generalize W / 2 ^ (64 * k) = V at *
  generalize cr X b W k = c at *
  generalize cr X b W (k + 1) = d at *
  unfold W64 at *
  omega
theorem cr_digit (X b W k : Nat) : (X * (b / 2 ^ (64 * k) % W64) + W / 2 ^ (64 * k) % W64 + cr X b W k) % W64 = (X * b + W) / 2 ^ (64 * k) % W64 := by
  have h0 := cr_sum X b W k
  rw [h0]
  generalize b / 2 ^ (64 * k) = B at *
  have hB : X * B = X * (B % W64) + X * (B / W64) * W64 := by
    have : B = B % W64 + W64 * (B / W64) := (Nat.mod_add_div B W64).symm
    have e : X * B = X * (B % W64 + W64 * (B / W64)) := by rw [← this]
    rw [e, Nat.mul_add, Nat.mul_assoc, Nat.mul_comm W64]
  rw [hB]
  generalize X * (B % W64) = a at *
  generalize X * (B / W64) = a2 at *
  generalize W / 2 ^ (64 * k) = V at *
  generalize cr X b W k = c at *
  unfold W64 at *
  omega
theorem cr_zero (X b W : Nat) : cr X b W 0 = 0 := by unfold cr; simp [Nat.mod_one]
theorem cr_four (X b W : Nat) (hb : b < M256) (hW : W < M256) : cr X b W 4 = (X * b + W) / M256 := by
  have e : (2 : Nat) ^ (64 * 4) = M256 := by decide
  unfold cr
  rw [e, Nat.mod_eq_of_lt hb, Nat.mod_eq_of_lt hW]
def cr64 (X b W k : Nat) : BitVec 64 := BitVec.ofNat 64 (cr X b W k)
theorem cr64_nat (X b W k : Nat) (hX : X < W64) : (cr64 X b W k).toNat = cr X b W k := by
  unfold cr64; rw [BitVec.toNat_ofNat]; exact Nat.mod_eq_of_lt (cr_lt X b W k hX)
end Go.Proofs.Ytkbjgaobhbiieaa
/- Words of 64 bits by the library's calls; numbers by words; a result in a variable of four words. -/
namespace Go.Proofs.Ytkbjgaobhbiieaa
open Go.RowKit
/-- A word that is a number. -/
def nw (n : Nat) : BitVec 64 := BitVec.ofNat 64 n
theorem nw_nat (n : Nat) (h : n < W64) : (nw n).toNat = n := by unfold nw; rw [BitVec.toNat_ofNat]; exact Nat.mod_eq_of_lt h
theorem nw_nat' (n : Nat) : (nw n).toNat = n % W64 := by unfold nw; rw [BitVec.toNat_ofNat]; rfl
theorem w_lt (x : BitVec 64) : x.toNat < W64 := x.isLt
theorem nw_eq {n : Nat} {x : BitVec 64} (h : n % W64 = x.toNat) : nw n = x := by
  apply BitVec.eq_of_toNat_eq; rw [nw_nat']; exact h
def mulM : BitVec 64 := litw 64 4294967295
def mulT (x y : BitVec 64) : BitVec 64 :=
  addw (mulw (shrw x 32) (andw y mulM)) (shrw (mulw (andw x mulM) (andw y mulM)) 32)
def mulHi (x y : BitVec 64) : BitVec 64 :=
  addw (addw (mulw (shrw x 32) (shrw y 32)) (shrw (mulT x y) 32)) (shrw (addw (andw (mulT x y) mulM) (mulw (andw x mulM) (shrw y 32))) 32)
theorem mul_lo (x y : BitVec 64) : (mulw x y).toNat = x.toNat * y.toNat % W64 := by unfold mulw; rw [BitVec.toNat_mul]; rfl
theorem mul_hi (x y : BitVec 64) : (mulHi x y).toNat = x.toNat * y.toNat / W64 := by
  obtain ⟨h1, h2, h3, h4⟩ := Lib.mul64_hi x.toNat y.toNat x.isLt y.isLt
  have hx := x.isLt
  have hy := y.isLt
  have ba := Lib.half_mul_le (a := x.toNat / 4294967296) (b := y.toNat / 4294967296) (by omega) (by omega)
  have bb := Lib.half_mul_le (a := x.toNat / 4294967296) (b := y.toNat % 4294967296) (by omega) (by omega)
  have bc := Lib.half_mul_le (a := x.toNat % 4294967296) (b := y.toNat / 4294967296) (by omega) (by omega)
  have bd := Lib.half_mul_le (a := x.toNat % 4294967296) (b := y.toNat % 4294967296) (by omega) (by omega)
  have em : ∀ z : BitVec 64, (andw z mulM).toNat = z.toNat % 4294967296 := fun z => by
    unfold andw mulM litw
    rw [BitVec.toNat_and, show (BitVec.ofNat 64 4294967295).toNat = 2 ^ 32 - 1 by rfl, Nat.and_two_pow_sub_one_eq_mod]
  have es : ∀ z : BitVec 64, (shrw z 32).toNat = z.toNat / 4294967296 := fun z => by
    unfold shrw; rw [BitVec.toNat_ushiftRight, Nat.shiftRight_eq_div_pow]
  have hT : (mulT x y).toNat = x.toNat / 4294967296 * (y.toNat % 4294967296) + x.toNat % 4294967296 * (y.toNat % 4294967296) / 4294967296 := by
    unfold mulT addw mulw
    rw [BitVec.toNat_add, es, BitVec.toNat_mul, BitVec.toNat_mul, em, em, es]
    generalize x.toNat / 4294967296 * (y.toNat % 4294967296) = b at *
    generalize x.toNat % 4294967296 * (y.toNat % 4294967296) = d at *
    omega
  unfold mulHi
  rw [show ∀ a b c : BitVec 64, (addw (addw a b) c).toNat = (a.toNat + b.toNat + c.toNat) % 18446744073709551616 from fun a b c => by unfold addw; rw [BitVec.toNat_add, BitVec.toNat_add]; omega]
  rw [es, es, hT, show (addw (andw (mulT x y) mulM) (mulw (andw x mulM) (shrw y 32))).toNat = ((x.toNat / 4294967296 * (y.toNat % 4294967296) + x.toNat % 4294967296 * (y.toNat % 4294967296) / 4294967296) % 4294967296 + x.toNat % 4294967296 * (y.toNat / 4294967296)) by
    unfold addw mulw
    rw [BitVec.toNat_add, em, hT, BitVec.toNat_mul, em, es]
    generalize x.toNat % 4294967296 * (y.toNat / 4294967296) = c at *
    omega]
  rw [show (mulw (shrw x 32) (shrw y 32)).toNat = x.toNat / 4294967296 * (y.toNat / 4294967296) by unfold mulw; rw [BitVec.toNat_mul, es, es]; omega]
  unfold W64
  rw [← h4]
  generalize x.toNat / 4294967296 * (y.toNat / 4294967296) = a at *
  generalize x.toNat / 4294967296 * (y.toNat % 4294967296) = b at *
  generalize x.toNat % 4294967296 * (y.toNat / 4294967296) = c at *
  generalize x.toNat % 4294967296 * (y.toNat % 4294967296) = d at *
  omega
/-- The model's entry for Sub64. -/
def sub64E : Array Value → Sem Value := fun args => do
  let (x, y, b) ← Extern.MathBitsCarry.three "Sub64" args
  pure (Extern.MathBitsCarry.pair ((x + Extern.MathBitsCarry.m64 - y - b) % Extern.MathBitsCarry.m64) (if x < y + b then 1 else 0))
theorem run_sub64E {P : Program} (x y b : Nat) (hb : b ≤ 1) (w : World) :
    (sub64E #[.int .u64 x, .int .u64 y, .int .u64 b]).run P w =
      .ok (.tuple #[.int .u64 (((x + 18446744073709551616 - y - b) % 18446744073709551616 : Nat) : Int), .int .u64 ((if x < y + b then 1 else 0 : Nat) : Int)]) w := by
  have : b = 0 ∨ b = 1 := by omega
  rcases this with rfl | rfl <;> rfl
/-- step: x times y, there and carry. -/
theorem lit0w : Value.int .u64 0 = .int .u64 (iw (litw 64 0)) := by kernel_rfl
theorem F4_zero (k : Nat) : F4 0 k = litw 64 0 := by unfold F4; rw [Nat.zero_div]; rfl
theorem F4_shift (n k : Nat) : F4 (n / W64) k = F4 n (k + 1) := by
  unfold F4; rw [Nat.div_div_eq_div_mul]
  rw [show 64 * (k + 1) = 64 + 64 * k by omega, Nat.pow_add]; rfl
theorem c64_zero (a n : Nat) : Value.int .u64 0 = .int .u64 (iw (c64 a n 0)) := by
  rw [lit0w]; unfold c64; rw [cn_zero]; rfl
theorem F4_word (v : BitVec 64) : F4 v.toNat 0 = v := by
  unfold F4; rw [Nat.mul_zero, Nat.pow_zero, Nat.div_one]; apply BitVec.eq_of_toNat_eq; rw [BitVec.toNat_ofNat]; exact Nat.mod_eq_of_lt v.isLt
theorem F4_word' (v : BitVec 64) (k : Nat) : F4 v.toNat (k + 1) = litw 64 0 := by
  have : v.toNat / 2 ^ (64 * (k + 1)) = 0 := Nat.div_eq_of_lt (Nat.lt_of_lt_of_le v.isLt (Nat.pow_le_pow_right (by decide) (by omega)))
  unfold F4; rw [this]; rfl
theorem row4 (a b c d : BitVec 64) (f : Nat → BitVec 64) (h0 : a = f 0) (h1 : b = f 1) (h2 : c = f 2) (h3 : d = f 3) : #[Value.int .u64 (iw a), .int .u64 (iw b), .int .u64 (iw c), .int .u64 (iw d)] = r64 4 f := by subst h0 h1 h2 h3; rfl
theorem zero4' : #[Value.int .u64 0, .int .u64 0, .int .u64 0, .int .u64 0] = r64 4 fun _ => litw 64 0 := by simp only [r64, iw_zero]; rfl
theorem results_cell_row_slot {P : Program} {fn : Func} {p q : Tmp} {ty : TypeId} (h : fn.results = #[.cell p ty, .tmp q]) (tmps : Array Value) (w : World) (g : Nat) (t : TypeId) (cs : Array Value) (fr : Nat × Nat) (d : TypeDesc) (v : Value)
    (hp : tmps.getD p undef = .pointer (some ⟨g, 0, none⟩)) (hg : w.heap[g]? = some (.cells cs t fr))
    (hu : P.underlying ty = some d) (hd : (match d with | .struct _ | .array _ _ => true | _ => false) = true) (hi : (P.info? ty).map (·.size) = some cs.size) (hq : tmps.getD q undef = v) :
    (results fn tmps).run P w = .ok (.tuple #[.agg cs, v]) w := by
  have hp' : tmps[p]?.getD undef = .pointer (some ⟨g, 0, none⟩) := by simpa using hp
  have hq' : tmps[q]?.getD undef = v := by simpa using hq
  simp [results, h, hp', hq', asAddr, run_loadVar_row w g t ty cs fr d hg hu hd hi]
def gF (n k i : Nat) : BitVec 64 := if i < k then F4 n i else litw 64 0
theorem gF_put (n k i : Nat) : (if i = k then Value.int .u64 (iw (F4 n k)) else Value.int .u64 (iw (gF n k i))) = Value.int .u64 (iw (gF n (k + 1) i)) := by
  unfold gF
  by_cases h : i = k
  · subst h; rw [if_pos rfl, if_pos (by omega)]
  · rw [if_neg h]
    by_cases h2 : i < k
    · rw [if_pos h2, if_pos (by omega)]
    · rw [if_neg h2, if_neg (by omega)]
theorem gF_all (n : Nat) : r64 4 (gF n 4) = r64 4 (F4 n) := row_ext fun i hi => by unfold gF; rw [if_pos hi]
theorem gF_none (n : Nat) : r64 4 (fun _ => litw 64 0) = r64 4 (gF n 0) := row_ext fun i _ => by unfold gF; rw [if_neg (by omega)]
end Go.Proofs.Ytkbjgaobhbiieaa
/- A number by its bytes, the least one first; a text's bytes; bytes and words. -/
namespace Go.Proofs.Ytkbjgaobhbiieaa
open Go.RowKit
def byteS (s : ByteArray) (j : Nat) : Nat := if h : j < s.size then (s[j]).toNat else 0
theorem byteS_lt (s : ByteArray) (j : Nat) : byteS s j < 256 := by
  unfold byteS; split
  · exact UInt8.toNat_lt _
  · decide
theorem byteS_at (s : ByteArray) (j : Nat) (h : j < s.size) : (s[j]).toNat = byteS s j := by unfold byteS; rw [dif_pos h]
theorem byteS_out (s : ByteArray) (j : Nat) (h : ¬ j < s.size) : byteS s j = 0 := by unfold byteS; rw [dif_neg h]
/-- The number of the first n bytes, the least one first. -/
def bv (f : Nat → Nat) : Nat → Nat
  | 0 => 0
  | i + 1 => bv f i + f i * 2 ^ (8 * i)
theorem bv_lt (f : Nat → Nat) (hf : ∀ j, f j < 256) : ∀ i, bv f i < 2 ^ (8 * i)
  | 0 => by show 0 < _; exact Nat.pow_pos (by decide)
  | i + 1 => by
    have h := bv_lt f hf i
    have h1 := hf i
    rw [pow8, Nat.mul_comm]
    show bv f i + f i * 2 ^ (8 * i) < _
    have h2 : f i * 2 ^ (8 * i) ≤ 255 * 2 ^ (8 * i) := Nat.mul_le_mul_right _ (by omega)
    omega
theorem bv_byte (f : Nat → Nat) (hf : ∀ j, f j < 256) (i : Nat) : ∀ k, i < k → byteK (bv f k) i = f i
  | 0, h => by omega
  | k + 1, h => by
    have hQ : 0 < 2 ^ (8 * i) := Nat.pow_pos (by decide)
    by_cases hk : i = k
    · subst hk
      show (bv f i + f i * 2 ^ (8 * i)) / 2 ^ (8 * i) % 256 = f i
      rw [Nat.add_mul_div_right _ _ hQ, Nat.div_eq_of_lt (bv_lt f hf i), Nat.zero_add, Nat.mod_eq_of_lt (hf i)]
    · have ih := bv_byte f hf i k (by omega)
      show (bv f k + f k * 2 ^ (8 * k)) / 2 ^ (8 * i) % 256 = f i
      obtain ⟨d, rfl⟩ : ∃ d, k = i + 1 + d := ⟨k - (i + 1), by omega⟩
      have e : (2 : Nat) ^ (8 * (i + 1 + d)) = 2 ^ (8 * i) * (256 * 2 ^ (8 * d)) := by
        rw [show (256 : Nat) = 2 ^ 8 by rfl, ← Nat.pow_add, ← Nat.pow_add]; congr 1; omega
      rw [e, Nat.mul_left_comm, Nat.add_mul_div_left _ _ hQ, Nat.mul_left_comm, Nat.add_mul_mod_self_left]
      exact ih
theorem bv_congr {f g : Nat → Nat} : ∀ n, (∀ j, j < n → f j = g j) → bv f n = bv g n
  | 0, _ => rfl
  | n + 1, h => by
    show bv f n + f n * _ = bv g n + g n * _
    rw [bv_congr n (fun j hj => h j (by omega)), h n (by omega)]
/-- The number of a text's first m bytes. -/
def numV (s : ByteArray) (m : Nat) : Nat := bv (byteS s) (min s.size m)
/-- Bytes as a number again. -/
theorem bv_bytes (n : Nat) : ∀ i, bv (byteK n) i = n % 2 ^ (8 * i)
  | 0 => by show 0 = _; rw [Nat.mul_zero, Nat.pow_zero, Nat.mod_one]
  | i + 1 => by
    show bv (byteK n) i + byteK n i * 2 ^ (8 * i) = _
    rw [bv_bytes n i, mod8, Nat.mul_comm (byteK n i)]
theorem pow_split (q r : Nat) : (2 : Nat) ^ (8 * (8 * q + r)) = 2 ^ (64 * q) * 2 ^ (8 * r) := by
  rw [← Nat.pow_add]; congr 1; omega
theorem bv_word (f : Nat → Nat) (hf : ∀ j, f j < 256) (q r : Nat) (hr : r < 8) : orw (F4 (bv f (8 * q + r)) q) (shlw (nw (f (8 * q + r))) (8 * r)) = F4 (bv f (8 * q + r + 1)) q := by
  apply BitVec.eq_of_toNat_eq
  have h0 := bv_lt f hf (8 * q + r)
  have h1 := hf (8 * q + r)
  have hQ : 0 < 2 ^ (64 * q) := Nat.pow_pos (by decide)
  have hlow : bv f (8 * q + r) / 2 ^ (64 * q) < 2 ^ (8 * r) := Nat.div_lt_of_lt_mul (by rw [← pow_split]; exact h0)
  have hsum : bv f (8 * q + r + 1) / 2 ^ (64 * q) = bv f (8 * q + r) / 2 ^ (64 * q) + 2 ^ (8 * r) * f (8 * q + r) := by
    show (bv f (8 * q + r) + f (8 * q + r) * 2 ^ (8 * (8 * q + r))) / _ = _
    rw [pow_split, Nat.mul_comm (f _), Nat.mul_assoc, Nat.add_mul_div_left _ _ hQ]
  unfold orw shlw
  rw [BitVec.toNat_or, BitVec.toNat_shiftLeft, Nat.shiftLeft_eq, F4_nat, F4_nat, hsum, nw_nat _ (by unfold W64; omega)]
  generalize bv f (8 * q + r) / 2 ^ (64 * q) = x at *
  generalize f (8 * q + r) = b at *
  have hs : 2 ^ (8 * r) * b + x < 18446744073709551616 := by
    have h5 : (2 : Nat) ^ (8 * r) * 256 ≤ 18446744073709551616 := by
      rw [show (256 : Nat) = 2 ^ 8 by rfl, ← Nat.pow_add, show (18446744073709551616 : Nat) = 2 ^ 64 by rfl]
      exact Nat.pow_le_pow_right (by decide) (by omega)
    have h6 := Nat.mul_le_mul_left (2 ^ (8 * r)) (show b ≤ 255 by omega)
    omega
  have h3 := Nat.two_pow_add_eq_or_of_lt hlow b
  have e1 : x % 18446744073709551616 = x := Nat.mod_eq_of_lt (by omega)
  have e2 : b * 2 ^ (8 * r) % 2 ^ 64 = 2 ^ (8 * r) * b := by rw [Nat.mul_comm]; exact Nat.mod_eq_of_lt (by omega)
  rw [e1, e2, Nat.or_comm, ← h3, Nat.add_comm x, Nat.mod_eq_of_lt hs]
theorem bv_other (f : Nat → Nat) (hf : ∀ j, f j < 256) (q r k : Nat) (hr : r < 8) (hk : k ≠ q) : F4 (bv f (8 * q + r)) k = F4 (bv f (8 * q + r + 1)) k := by
  apply BitVec.eq_of_toNat_eq
  have h0 := bv_lt f hf (8 * q + r)
  have h1 := bv_lt f hf (8 * q + r + 1)
  rw [F4_nat, F4_nat]
  rcases Nat.lt_or_ge k q with hlt | hge
  · obtain ⟨d, rfl⟩ : ∃ d, q = k + 1 + d := ⟨q - (k + 1), by omega⟩
    show _ = (bv f (8 * (k + 1 + d) + r) + f (8 * (k + 1 + d) + r) * 2 ^ (8 * (8 * (k + 1 + d) + r))) / _ % _
    have e : (2 : Nat) ^ (8 * (8 * (k + 1 + d) + r)) = 2 ^ (64 * k) * (18446744073709551616 * 2 ^ (64 * d + 8 * r)) := by
      rw [show (18446744073709551616 : Nat) = 2 ^ 64 by rfl, ← Nat.pow_add, ← Nat.pow_add]; congr 1; omega
    rw [e, Nat.mul_left_comm, Nat.add_mul_div_left _ _ (Nat.pow_pos (by decide)), Nat.mul_left_comm, Nat.add_mul_mod_self_left]
  · have hz : ∀ x, x < 2 ^ (8 * (8 * q + r + 1)) → x / 2 ^ (64 * k) = 0 := fun x hx =>
      Nat.div_eq_of_lt (Nat.lt_of_lt_of_le hx (Nat.pow_le_pow_right (by decide) (by omega)))
    have h2 : bv f (8 * q + r) < 2 ^ (8 * (8 * q + r + 1)) := Nat.lt_of_lt_of_le h0 (Nat.pow_le_pow_right (by decide) (by omega))
    rw [hz _ h1, hz _ h2]
theorem byte_word (n q r : Nat) (hr : r < 8) : castw 8 (shrw (F4 n q) (8 * r)) = BitVec.ofNat 8 (byteK n (8 * q + r)) := by
  apply BitVec.eq_of_toNat_eq
  unfold castw shrw byteK
  rw [BitVec.toNat_ofNat, BitVec.toNat_ofNat, BitVec.toNat_ushiftRight, Nat.shiftRight_eq_div_pow, F4_nat, pow_split, ← Nat.div_div_eq_div_mul]
  generalize n / 2 ^ (64 * q) = x
  have e : (18446744073709551616 : Nat) = 2 ^ (8 * r) * 2 ^ (64 - 8 * r) := by
    rw [← Nat.pow_add, show 8 * r + (64 - 8 * r) = 64 by omega]
  rw [e, Nat.mod_mul_right_div_self, show (2 : Nat) ^ 8 = 256 by rfl, Nat.mod_mod_of_dvd _ (show 256 ∣ 2 ^ (64 - 8 * r) by
    rw [show (256 : Nat) = 2 ^ 8 by rfl]; exact Nat.pow_dvd_pow 2 (by omega)), Nat.mod_mod]
/-- The steps. -/
abbrev r8 (n : Nat) (f : Nat → BitVec 8) : Array Value := row n fun i => Value.int .u8 (iw (f i))
/-- A block of bytes as a string. -/
theorem run_string_of_blk {P : Program} (w : World) (src dst e : Nat) (hs : P.underlying src = some (.slice e)) (he : P.underlying e = some (.int .u8)) (hd : P.underlying dst = some .string)
    (g n cap : Nat) (t : TypeId) (f : Nat → BitVec 8) (h : Blk w g t (r8 n f)) : (convert src dst (.slice (some ⟨g, 0, none⟩) n cap)).run P w = .ok (.string ⟨(asBytes ((List.range n).map f)).toArray⟩) w := by
  rw [run_convert_bytes_string w src dst e _ _ _ hs he hd]
  rw [run_bytesToString w ⟨g, 0, none⟩ n cap (((List.range n).map f).map iw)]
  · rw [foldl_push]; simp
  · have := run_loadCells_list (P := P) w ⟨g, 0, none⟩ ((List.range n).map fun i => Value.int .u8 (iw (f i))) (fun j u hu => by
      have hadd : (⟨g, 0, none⟩ : Addr).add j = ⟨g, j, none⟩ := by unfold Addr.add; split <;> simp_all
      rw [hadd]
      simp only [List.getElem?_map, Option.map_eq_some_iff] at hu
      obtain ⟨i, hi, rfl⟩ := hu
      obtain ⟨hlt, rfl⟩ : j < n ∧ i = j := by
        by_cases hj : j < n
        · rw [List.getElem?_range hj] at hi
          exact ⟨hj, (Option.some.inj hi).symm⟩
        · rw [List.getElem?_eq_none (by simp; omega)] at hi
          cases hi
      exact h.at_ hlt)
    rw [List.length_map, List.length_range] at this
    rw [this]
    congr 2
    simp [Function.comp_def]
/-- The 32 bytes of a number as a text. -/
def bytesV (n : Nat) : ByteArray := ⟨(asBytes ((List.range 32).map fun i => BitVec.ofNat 8 (byteK n i))).toArray⟩
def bF (n k i : Nat) : BitVec 8 := if i < k then BitVec.ofNat 8 (byteK n i) else litw 8 0
theorem bF_none (n : Nat) : r8 32 (bF n 0) = row 32 (fun _ => Value.int .u8 0) := row_ext fun i _ => by unfold bF; rw [if_neg (by omega), iw_zero]
theorem bF_put (n k j : Nat) : (if j = k then Value.int .u8 (iw (BitVec.ofNat 8 (byteK n k))) else Value.int .u8 (iw (bF n k j))) = Value.int .u8 (iw (bF n (k + 1) j)) := by
  unfold bF
  by_cases h1 : j = k
  · subst h1; rw [if_pos rfl, if_pos (by omega)]
  · rw [if_neg h1]
    by_cases h2 : j < k
    · rw [if_pos h2, if_pos (by omega)]
    · rw [if_neg h2, if_neg (by omega)]
theorem bF_all (n : Nat) : (⟨(asBytes ((List.range 32).map (bF n 32))).toArray⟩ : ByteArray) = bytesV n := by
  unfold bytesV
  rw [show (List.range 32).map (bF n 32) = (List.range 32).map fun i => BitVec.ofNat 8 (byteK n i) from List.map_congr_left fun i hi => by
    unfold bF; rw [if_pos (List.mem_range.1 hi)]]
theorem byte_iw (n k : Nat) : (byteK n k : Int) = iw (BitVec.ofNat 8 (byteK n k)) := by
  have := byteK_lt n k
  unfold iw; rw [BitVec.toNat_ofNat, Nat.mod_eq_of_lt (show byteK n k < 2 ^ 8 by omega)]
end Go.Proofs.Ytkbjgaobhbiieaa
/- A region that draws its order, whose operations each yield one value in every world that keeps an invariant (calls that make memory, stores among them; the invariant may hang on what has come up): it is walked in one order. -/
namespace Go.Proofs.Ytkbjgaobhbiieaa
open Go.RowKit
section
variable {P : Program} {ops : Array Oper} {Q : Exit → Act → World → Prop} {md : Region.Mode} {S : Array Bool → World → Prop}
/-- What an operation comes to: it yields v, and the world keeps R. -/
def Lands (P : Program) (R : World → Prop) (v : Value) : Result Next → Prop
  | .ok (.value u) w' => u = v ∧ R w'
  | .ok .skip w' => v = undef ∧ R w'
  | .ok (.enter f args) w' => Calls P f args w' fun e w'' => e = .returned v ∧ R w''
  | _ => False
theorem Lands.upon {R : World → Prop} {o : Oper} {a : Act} {v : Value} {r : Result Next} {K : Act → World → Prop} (h : Lands P R v r) (hK : ∀ w', R w' → K (a.put o.dst v) w') : o.upon P a K Q r := by
  cases r with
  | ok n w' =>
    cases n with
    | value u => obtain ⟨rfl, hS⟩ := h; exact hK _ hS
    | skip => obtain ⟨rfl, hS⟩ := h; exact hK _ hS
    | enter f args =>
      refine Calls.mono h ?_
      rintro e w'' ⟨rfl, hS⟩
      exact hK _ hS
    | _ => exact h.elim
  | halt x w' => exact h.elim
/-- Listed operations' forerunners are listed. -/
def Closed (md : Region.Mode) (ops : Array Oper) (listed : Array Bool) : Prop :=
  ∀ (j : Nat) (o : Oper), ops[j]? = some o → listed.getD j false = true → ∀ e ∈ o.after, Region.binds md e = true → listed.getD e.on false = true
/-- A state of the list in which number i may come up. -/
structure May (md : Region.Mode) (ops : Array Oper) (i : Nat) (L : Array Bool) : Prop where
  size : L.size = ops.size
  closed : Closed md ops L
  ready : i ∈ Region.ready md ops L
def YieldsL (P : Program) (md : Region.Mode) (ops : Array Oper) (S : Array Bool → World → Prop) (i : Nat) (o : Oper) (v : Value) (a : Act) : Prop :=
  (Region.wanted o (yielded ops a.tmps) = true ∧ ∀ L w, May md ops i L → S L w → Lands P (S (L.setIfInBounds i true)) v ((execOp a.eval o).run P w)) ∨
  (Region.wanted o (yielded ops a.tmps) = false ∧ v = undef ∧ ∀ L w, May md ops i L → S L w → S (L.setIfInBounds i true) w)
theorem YieldsL.of_same {i : Nat} {o : Oper} {v : Value} {a a' : Act} (hy : YieldsL P md ops S i o v a) (he : execOp a'.eval o = execOp a.eval o)
    (hw : Region.wanted o (yielded ops a'.tmps) = Region.wanted o (yielded ops a.tmps)) : YieldsL P md ops S i o v a' := by
  unfold YieldsL at *
  rw [he, hw]
  exact hy
theorem YieldsL.wpOp {i : Nat} {o : Oper} {v : Value} {a : Act} (hi : ops[i]? = some o) (hy : YieldsL P md ops S i o v a) {L : Array Bool} (hm : May md ops i L)
    {K : Act → World → Prop} {w : World} (hS : S L w) (h : ∀ w', S (L.setIfInBounds i true) w' → K (a.put o.dst v) w') : wpOp P ops Q i K a w := by
  unfold Go.wpOp
  simp only [hi]
  rcases hy with ⟨hw, hv⟩ | ⟨hw, rfl, hv⟩
  · simp only [hw, if_true, Oper.wp]; exact .inl ((hv L w hm hS).upon h)
  · simp only [hw, Bool.false_eq_true, if_false]; exact h _ (hv L w hm hS)
/-- Whatever order, with S kept. -/
def anyL (P : Program) (md : Region.Mode) (ops : Array Oper) (Q : Exit → Act → World → Prop) (S : Array Bool → World → Prop) : Nat → Array Bool → Act → Prop
  | 0, listed, a => Region.ready md ops listed = [] ∧ ∀ w, S listed w → Q .normal a w
  | fuel + 1, listed, a =>
    (Region.ready md ops listed = [] → ∀ w, S listed w → Q .normal a w) ∧
    ∀ i ∈ Region.ready md ops listed, ∃ o v, ops[i]? = some o ∧ YieldsL P md ops S i o v a ∧ anyL P md ops Q S fuel (listed.setIfInBounds i true) (a.put o.dst v)
theorem YieldsL.put {i : Nat} {oi oj : Oper} {v u : Value} {a : Act} (hap : oi.apart ops oj = true) (hsi : ∀ cs b, oi.op ≠ .select cs b) (hy : YieldsL P md ops S i oi v a) : YieldsL P md ops S i oi v (a.put oj.dst u) := by
  obtain ⟨_, _, h3⟩ := Oper.apart_spec hap
  exact hy.of_same (execOp_put oi hsi a oj.dst u h3) (wanted_put oi a oj.dst u h3)
theorem YieldsL.unput {j : Nat} {oi oj : Oper} {v u : Value} {a : Act} (hap : oi.apart ops oj = true) (hsj : ∀ cs b, oj.op ≠ .select cs b) (hy : YieldsL P md ops S j oj u (a.put oi.dst v)) : YieldsL P md ops S j oj u a := by
  obtain ⟨h1, _, _⟩ := Oper.apart_spec hap
  exact hy.of_same (execOp_put oj hsj a oi.dst v h1).symm (wanted_put oj a oi.dst v h1).symm
theorem anyL_first {i : Nat} {oi : Oper} {v : Value} (hi : ops[i]? = some oi) (hsel : ∀ (j : Nat) (o : Oper) cs b, ops[j]? = some o → o.op ≠ .select cs b) :
    ∀ (fuel : Nat) (listed : Array Bool) (a : Act),
      (∀ j oj, ops[j]? = some oj → j ≠ i → listed.getD j true = false → (∀ e ∈ oj.after, Region.binds md e = true → e.on ≠ i) → oi.apart ops oj = true) →
      i ∈ Region.ready md ops listed → YieldsL P md ops S i oi v a →
      anyL P md ops Q S fuel (listed.setIfInBounds i true) (a.put oi.dst v) → anyL P md ops Q S (fuel + 1) listed a := by
  intro fuel
  induction fuel with
  | zero =>
    intro listed a _ hr hy H
    refine ⟨fun h => (by rw [h] at hr; cases hr), fun j hj => ?_⟩
    by_cases hji : j = i
    · subst hji; exact ⟨oi, v, hi, hy, H⟩
    · have := ready_mono hj hji
      rw [H.1] at this
      cases this
  | succ fuel ih =>
    intro listed a hfree hr hy H
    refine ⟨fun h => (by rw [h] at hr; cases hr), fun j hj => ?_⟩
    by_cases hji : j = i
    · subst hji; exact ⟨oi, v, hi, hy, H⟩
    · obtain ⟨oj, u, hoj, h1, h2⟩ := H.2 j (ready_mono hj hji)
      obtain ⟨hjun, oj', hoj', hall⟩ := mem_ready.1 hj
      obtain rfl : oj = oj' := by rw [hoj] at hoj'; cases hoj'; rfl
      have hnot : ∀ e ∈ oj.after, Region.binds md e = true → e.on ≠ i := fun e he hb heq => by
        have h1 := hall e he hb
        have h0 := (mem_ready.1 hr).1
        rw [heq] at h1
        rcases Nat.lt_or_ge i listed.size with h' | h'
        · simp [h'] at h0 h1; rw [h0] at h1; cases h1
        · simp [Array.getElem?_eq_none h'] at h1
      have hap := hfree j oj hoj hji hjun hnot
      have hfree' : ∀ k ok, ops[k]? = some ok → k ≠ i → (listed.setIfInBounds j true).getD k true = false →
          (∀ e ∈ ok.after, Region.binds md e = true → e.on ≠ i) → oi.apart ops ok = true := fun k ok hk hki hun hno => by
        refine hfree k ok hk hki ?_ hno
        by_cases hjk : j = k
        · subst hjk; exact hjun
        · rw [getD_set_ne true hjk] at hun; exact hun
      refine ⟨oj, u, hoj, h1.unput hap (fun cs b => hsel j oj cs b hoj), ?_⟩
      refine ih (listed.setIfInBounds j true) _ hfree' (ready_mono hr (Ne.symm hji)) (hy.put hap (fun cs b => hsel i oi cs b hi)) ?_
      rw [Array.setIfInBounds_comm _ _ hji, ← Act.put_comm a v u (Oper.apart_spec hap).2.1]
      exact h2
theorem Closed.start {n : Nat} : Closed md ops (Array.replicate n false) := fun j o _ h => by
  exfalso
  simp [Array.getElem?_replicate] at h
  split at h <;> simp_all
theorem getD_set_of {listed : Array Bool} {i j : Nat} (h : (listed.setIfInBounds i true).getD j false = true) : j = i ∨ listed.getD j false = true := by
  by_cases hij : i = j
  · exact .inl hij.symm
  · rw [getD_set_ne false hij] at h; exact .inr h
theorem Closed.set {listed : Array Bool} {i : Nat} (h : Closed md ops listed) (hr : i ∈ Region.ready md ops listed) : Closed md ops (listed.setIfInBounds i true) := fun j o ho hj e he hb => by
  rcases getD_set_of hj with rfl | hj
  · obtain ⟨_, o', ho', hall⟩ := mem_ready.1 hr
    rw [ho] at ho'; cases ho'
    exact getD_set_true (hall e he hb)
  · exact getD_set_true (h j o ho hj e he hb)
/-- The forerunners of a list of operations, over again. -/
def upOnce (md : Region.Mode) (ops : Array Oper) (l : List Nat) : List Nat :=
  l.flatMap fun j => ((ops[j]?).map fun o => (o.after.toList.filter (Region.binds md)).map (·.on)).getD []
theorem upOnce_listed {listed : Array Bool} (hc : Closed md ops listed) {l : List Nat} (h : ∀ j ∈ l, listed.getD j false = true) : ∀ j ∈ upOnce md ops l, listed.getD j false = true := fun j hj => by
  unfold upOnce at hj
  obtain ⟨k, hk, hj⟩ := List.mem_flatMap.1 hj
  cases ho : ops[k]? with
  | none => simp [ho] at hj
  | some o =>
    simp only [ho, Option.map_some, Option.getD_some, List.mem_map, List.mem_filter] at hj
    obtain ⟨e, ⟨he, hb⟩, rfl⟩ := hj
    exact hc k o ho (h k hk) e (Array.mem_toList_iff.1 he) hb
def upMany (md : Region.Mode) (ops : Array Oper) : Nat → List Nat → List Nat
  | 0, l => l
  | n + 1, l => upMany md ops n ((l ++ upOnce md ops l).eraseDups)
theorem mem_eraseDups' {l : List Nat} {x : Nat} (h : x ∈ l.eraseDups) : x ∈ l := by simpa using h
theorem upMany_listed {listed : Array Bool} (hc : Closed md ops listed) : ∀ (n : Nat) (l : List Nat), (∀ j ∈ l, listed.getD j false = true) → ∀ j ∈ upMany md ops n l, listed.getD j false = true
  | 0, _, h => h
  | n + 1, l, h => upMany_listed hc n _ fun j hj => by
    rcases List.mem_append.1 (mem_eraseDups' hj) with hj | hj
    · exact h j hj
    · exact upOnce_listed hc h j hj
/-- Does t wait for i? -/
def waits (md : Region.Mode) (ops : Array Oper) (n t i : Nat) : Bool := (upMany md ops n [t]).contains i
theorem not_yet {L : Array Bool} {n t i : Nat} (hm : May md ops i L) (hw : waits md ops n t i = true) : L.getD t false = false := by
  cases ht : L.getD t false with
  | false => rfl
  | true =>
    have h3 : ∀ j ∈ [t], L.getD j false = true := fun j hj => by
      rw [List.mem_singleton.1 hj]; exact ht
    have h4 := upMany_listed hm.closed n _ h3 i (by simpa [waits] using hw)
    obtain ⟨hun, _⟩ := mem_ready.1 hm.ready
    rcases Nat.lt_or_ge i L.size with h' | h'
    · simp [h'] at hun h4; rw [hun] at h4; cases h4
    · simp [Array.getElem?_eq_none h'] at h4
theorem anyL_sound : ∀ (fuel : Nat) (listed : Array Bool) (a : Act), listed.size = ops.size → Closed md ops listed → anyL P md ops Q S fuel listed a → ∀ w, S listed w → wpAny P md ops Q fuel listed a w
  | 0, _, _, _, _, h, w, hS => ⟨h.1, h.2 w hS⟩
  | fuel + 1, listed, a, hs, hc, h, w, hS =>
    ⟨fun h0 => h.1 h0 w hS, fun j hj => by
      obtain ⟨o, v, ho, hy, H⟩ := h.2 j hj
      exact hy.wpOp ho ⟨hs, hc, hj⟩ hS fun w' hS' => anyL_sound fuel _ _ (by simpa using hs) (hc.set hj) H w' hS'⟩
/-! The moves. -/
theorem at_drop {i : Nat} {oi : Oper} {r : List Oper} (h : ops.toList.drop i = oi :: r) : ops[i]? = some oi := by
  have h1 : (ops.toList.drop i)[0]? = some oi := by rw [h]; rfl
  rw [List.getElem?_drop] at h1
  simpa using h1
theorem anyL_take {i : Nat} {oi : Oper} {r : List Oper} {v : Value} {fuel : Nat} {listed : Array Bool} {a : Act} (hi : ops.toList.drop i = oi :: r)
    (hs : Region.noSelect ops = true) (hf : Region.free md ops listed i = true) (hr : (Region.ready md ops listed).contains i = true)
    (hy : YieldsL P md ops S i oi v a)
    (h : anyL P md ops Q S fuel (listed.setIfInBounds i true) (a.put oi.dst v)) : anyL P md ops Q S (fuel + 1) listed a :=
  anyL_first (at_drop hi) (Region.noSelect_spec hs) fuel listed a (Region.free_spec (at_drop hi) hf) (by simpa using hr) hy h
theorem anyL_done {listed : Array Bool} {a : Act} (hr : Region.ready md ops listed = []) (h : ∀ w, S listed w → Q .normal a w) : ∀ fuel, anyL P md ops Q S fuel listed a
  | 0 => ⟨hr, h⟩
  | _ + 1 => ⟨fun _ => h, by rw [hr]; simp⟩
/-- The beginning. -/
theorem wp_region_anyL {id : Nat} {a : Act} {w : World} (S : Array Bool → World → Prop) (hm : P.follows .mixedOrders = true) (hS : S (Array.replicate ops.size false) w.drew)
    (h : anyL P .any ops Q S ops.size (Array.replicate ops.size false) a) : (Code.region id ops true).wp P Q a w :=
  wp_region_any hm (anyL_sound _ _ _ (by simp) Closed.start h _ hS)
theorem lands_value {R : World → Prop} {v : Value} {r : Result Next} {w : World} (h : r = .ok (.value v) w) (hS : R w) : Lands P R v r := by subst h; exact ⟨rfl, hS⟩
theorem lands_call {R : World → Prop} {v : Value} {r : Result Next} {w : World} {f : FuncId} {args : Array Value} (h : r = .ok (.enter f args) w) (hc : Calls P f args w fun e w' => e = .returned v ∧ R w') : Lands P R v r := by subst h; exact hc
theorem lands_calls {R : World → Prop} {v : Value} {r : Result Next} {w : World} {f : FuncId} {args : Array Value} (hc : Calls P f args w fun e w' => e = .returned v ∧ R w') (h : r = .ok (.enter f args) w) : Lands P R v r := by subst h; exact hc
theorem lands_load {R : World → Prop} {o : Oper} {a : Act} {w : World} (ty : TypeId) (x : Operand) (ho : o.op = .load ty x)
    (g : Nat) (hx : a.eval x = .pointer (some ⟨g, 0, none⟩)) (t : TypeId) (cs : Array Value) (d : TypeDesc) (hg : Blk w g t cs)
    (hu : P.underlying ty = some d) (hd : (match d with | .struct _ | .array _ _ => true | _ => false) = true) (hi : (P.info? ty).map (·.size) = some cs.size)
    (hR : R w) : Lands P R (.agg cs) ((execOp a.eval o).run P w) := by
  have : (execOp a.eval o).run P w = .ok (.value (.agg cs)) w := by
    unfold execOp
    simp only [ho, hx, Instr.loadAt, Instr.sureAddr, Sem.run_bind, Sem.run_pure, Result.andThen_ok, run_loadVar_row w g t ty cs (0, 0) d hg hu hd hi]
  rw [this]; exact ⟨rfl, hR⟩
theorem lands_store {R : World → Prop} {o : Oper} {a : Act} {w : World} (ty : TypeId) (x y : Operand) (ho : o.op = .store ty x y)
    (g : Nat) (cells : Array Value) (hx : a.eval x = .pointer (some ⟨g, 0, none⟩)) (hy : a.eval y = .agg cells)
    (t : TypeId) (old : Array Value) (hg : Blk w g t old) (hi : (P.info? ty).map (·.size) = some cells.size)
    (hold : old.size = cells.size) (h1 : cells.all (·.oneCell') = true)
    (hR : R (w.setRow g cells)) : Lands P R undef ((execOp a.eval o).run P w) := by
  have : (execOp a.eval o).run P w = .ok .skip (w.setRow g cells) := by
    unfold execOp
    simp only [ho, hx, hy, Instr.storeAt, Instr.sureAddr, Sem.run_bind, Sem.run_pure, Result.andThen_ok, run_storeVar_row w g t ty old cells hg hi hold h1]
  rw [this]; exact ⟨rfl, hR⟩
/-! The invariant hangs on whether two operations (stores) have come up. -/
def Two (s t : Nat) (T : Bool → Bool → World → Prop) (L : Array Bool) (w : World) : Prop := T (L.getD s false) (L.getD t false) w
variable {T : Bool → Bool → World → Prop} {s t : Nat}
theorem yl_other {i : Nat} {o : Oper} {v : Value} {a : Act} (hs : i ≠ s) (ht : i ≠ t) (hw : Region.wanted o (yielded ops a.tmps) = true)
    (h : ∀ b c w, T b c w → Lands P (T b c) v ((execOp a.eval o).run P w)) : YieldsL P md ops (Two s t T) i o v a :=
  .inl ⟨hw, fun L w _ hS => by unfold Two at *; rw [getD_set_ne false hs, getD_set_ne false ht]; exact h _ _ w hS⟩
theorem yl_skip {i : Nat} {o : Oper} {a : Act} (hs : i ≠ s) (ht : i ≠ t) (hw : Region.wanted o (yielded ops a.tmps) = false) : YieldsL P md ops (Two s t T) i o undef a :=
  .inr ⟨hw, rfl, fun L w _ hS => by unfold Two at *; rw [getD_set_ne false hs, getD_set_ne false ht]; exact hS⟩
/-- Number i comes ahead of s. -/
theorem yl_ahead {i n : Nat} {o : Oper} {v : Value} {a : Act} (hs : i ≠ s) (ht : i ≠ t) (hb : waits md ops n s i = true) (hw : Region.wanted o (yielded ops a.tmps) = true)
    (h : ∀ c w, T false c w → Lands P (T false c) v ((execOp a.eval o).run P w)) : YieldsL P md ops (Two s t T) i o v a :=
  .inl ⟨hw, fun L w hm hS => by unfold Two at *; rw [getD_set_ne false hs, getD_set_ne false ht]; rw [not_yet hm hb] at hS ⊢; exact h _ w hS⟩
/-- Number i comes ahead of s and of t. -/
theorem yl_ahead2 {i n : Nat} {o : Oper} {v : Value} {a : Act} (hs : i ≠ s) (ht : i ≠ t) (hb : waits md ops n s i = true) (hb2 : waits md ops n t i = true) (hw : Region.wanted o (yielded ops a.tmps) = true)
    (h : ∀ w, T false false w → Lands P (T false false) v ((execOp a.eval o).run P w)) : YieldsL P md ops (Two s t T) i o v a :=
  .inl ⟨hw, fun L w hm hS => by unfold Two at *; rw [getD_set_ne false hs, getD_set_ne false ht]; rw [not_yet hm hb, not_yet hm hb2] at hS ⊢; exact h w hS⟩
theorem May.unlisted {i : Nat} {L : Array Bool} (hm : May md ops i L) : L.getD i false = false ∧ (L.setIfInBounds i true).getD i false = true := by
  obtain ⟨hun, o, ho, _⟩ := mem_ready.1 hm.ready
  have hlt : i < L.size := by rw [hm.size]; exact (Array.getElem?_eq_some_iff.1 ho).1
  simp [hlt] at hun ⊢
  exact hun
theorem yl_first {o : Oper} {v : Value} {a : Act} (hne : s ≠ t) (hw : Region.wanted o (yielded ops a.tmps) = true)
    (h : ∀ c w, T false c w → Lands P (T true c) v ((execOp a.eval o).run P w)) : YieldsL P md ops (Two s t T) s o v a :=
  .inl ⟨hw, fun L w hm hS => by unfold Two at *; rw [hm.unlisted.2, getD_set_ne false hne]; rw [hm.unlisted.1] at hS; exact h _ w hS⟩
theorem yl_second {o : Oper} {v : Value} {a : Act} (hne : t ≠ s) (hw : Region.wanted o (yielded ops a.tmps) = true)
    (h : ∀ b w, T b false w → Lands P (T b true) v ((execOp a.eval o).run P w)) : YieldsL P md ops (Two s t T) t o v a :=
  .inl ⟨hw, fun L w hm hS => by unfold Two at *; rw [hm.unlisted.2, getD_set_ne false hne]; rw [hm.unlisted.1] at hS; exact h _ w hS⟩
end
/-- What is known of a world that grew: the blocks of a list, and that below B all is as it was in w0. -/
structure Known (B : Nat) (w0 : World) (l : List (Nat × TypeId × Array Value)) (w : World) : Prop where
  b : Below B w0 w
  lo : B ≤ w.heap.size
  blk : ∀ x ∈ l, Blk w x.1 x.2.1 x.2.2
theorem Known.below {B : Nat} {w0 w w' : World} {l : List (Nat × TypeId × Array Value)} (h : Known B w0 l w) (hb : Below w.heap.size w w') : Known B w0 l w' :=
  ⟨h.b.trans (hb.mono h.lo), Nat.le_trans h.lo hb.size, fun x hx => (h.blk x hx).below hb (h.blk x hx).lt⟩
theorem Known.drew {B : Nat} {w0 w : World} {l : List (Nat × TypeId × Array Value)} (h : Known B w0 l w) : Known B w0 l w.drew := ⟨h.b.drew, h.lo, fun x hx => (h.blk x hx).drew⟩
theorem Known.alloc {B : Nat} {w0 w : World} {l : List (Nat × TypeId × Array Value)} (h : Known B w0 l w) (o : Obj) : Known B w0 l (w.alloc o) :=
  ⟨h.b.alloc h.lo _, Nat.le_trans h.lo (by simp), fun x hx => (h.blk x hx).alloc o⟩
theorem lands_known {P : Program} {B : Nat} {w0 w : World} {l : List (Nat × TypeId × Array Value)} {v : Value} {r : Result Next} {f : FuncId} {args : Array Value} (hS : Known B w0 l w) (h : r = .ok (.enter f args) w)
    (hc : Calls P f args w fun e w' => e = .returned v ∧ Below w.heap.size w w') : Lands P (Known B w0 l) v r :=
  lands_call h (hc.mono fun _ _ ⟨he, hb⟩ => ⟨he, hS.below hb⟩)
end Go.Proofs.Ytkbjgaobhbiieaa
/- The builtin min, in one way. -/
namespace Go.Proofs.Ytkbjgaobhbiieaa
open Go.RowKit
theorem wpList_valK {ops : Array Oper} {Q : Exit → Act → World → Prop} {R : World → Prop} {o : Oper} {rest : List Oper} {a : Act} {w : World} (v : Value) (hg : o.guard = none) (h : Lands Try.prog R v ((execOp a.eval o).run Try.prog w)) (k : ∀ w', R w' → wpList Try.prog ops Q rest (a.put o.dst v) w') : wpList Try.prog ops Q (o :: rest) a w :=
  wpList_plain hg fun _ hK => h.upon fun w' hR => hK _ _ (k w' hR)
theorem lands_min {o : Oper} {a : Act} {w : World} (x : Operand) (n k : Nat) (ho : o.op = .call { callee := .builtin .min, args := #[x, .const (.int .i64 (k : Int))], argTypes := #[3, 3] }) (ht : o.type = 3) (hx : a.eval x = .int .i64 (n : Int)) :
    Lands Try.prog (fun w' => w' = w) (.int .i64 ((min n k : Nat) : Int)) ((execOp a.eval o).run Try.prog w) := by
  refine lands_value (w := w) ?_ rfl
  have hc : a.eval (.const (.int .i64 (k : Int))) = .int .i64 (k : Int) := rfl
  simp [execOp, ho, ht, hx, hc, resolve, invoke, builtin]
  by_cases h : n ≤ k
  · rw [show min n k = n by omega]
    have h2 : (n : Int) ≤ k := by omega
    go_simp
    intro; omega
  · rw [show min n k = k by omega]
    have h' : (k : Int) < n := by omega
    go_simp
end Go.Proofs.Ytkbjgaobhbiieaa
/- What a step puts into a slot. -/
namespace Go.Proofs.Ytkbjgaobhbiieaa
open Go.RowKit
/-- What a step puts into a slot. -/
theorem pu : (∀ (a : Act) (d : Nat) (v : Value), a.put (some d) v = { a with tmps := a.tmps.setIfInBounds d v }) ∧ (∀ (a : Act) (v : Value), a.put none v = a) ∧
    (∀ (l : List Value) (i : Nat) (x : Value), l.toArray.setIfInBounds i x = (l.set i x).toArray) ∧ (∀ (x : Value) (l : List Value) (v : Value), (x :: l).set 0 v = v :: l) ∧
    (∀ (x : Value) (l : List Value) (n : Nat) (v : Value), (x :: l).set (n + 1) v = x :: l.set n v) :=
  ⟨fun _ _ _ => rfl, fun _ _ => rfl, fun l i x => List.setIfInBounds_toArray l i x, fun _ _ _ => rfl, fun _ _ _ _ => rfl⟩
end Go.Proofs.Ytkbjgaobhbiieaa
/- Texts by the numbers of their bytes. -/
namespace Go.Proofs.Ytkbjgaobhbiieaa
open Go.RowKit
/-- n bytes by their numbers. -/
def textN (n : Nat) (f : Nat → Nat) : ByteArray := ⟨(asBytes ((List.range n).map fun i => BitVec.ofNat 8 (f i))).toArray⟩
theorem textN_size (n : Nat) (f : Nat → Nat) : (textN n f).size = n := by
  show Array.size _ = n
  simp [asBytes]
theorem byteS_textN (n : Nat) (f : Nat → Nat) (j : Nat) (hj : j < n) (hf : f j < 256) : byteS (textN n f) j = f j := by
  unfold byteS
  rw [dif_pos (by rw [textN_size]; exact hj)]
  have : (textN n f)[j]'(by rw [textN_size]; exact hj) = UInt8.ofBitVec (BitVec.ofNat 8 (f j)) := by
    have hl : j < (asBytes ((List.range n).map fun i => BitVec.ofNat 8 (f i))).toArray.size := by simp [asBytes]; exact hj
    show (asBytes ((List.range n).map fun i => BitVec.ofNat 8 (f i))).toArray[j]'hl = _
    simp [asBytes]
  rw [this]
  show (BitVec.ofNat 8 (f j)).toNat = _
  rw [BitVec.toNat_ofNat, Nat.mod_eq_of_lt (show f j < 2 ^ 8 by omega)]
theorem byteS_ext (s : ByteArray) (a b j : Nat) (hb : b ≤ s.size) (hj : a + j < b) : byteS (s.extract a b) j = byteS s (a + j) := by
  unfold byteS
  have h1 : j < (s.extract a b).size := by rw [ByteArray.size_extract]; omega
  rw [dif_pos h1, dif_pos (by omega), ByteArray.getElem_extract]
/-- Two texts of the same bytes are one. -/
theorem text_same {a b : ByteArray} (hs : a.size = b.size) (h : ∀ j, j < a.size → byteS a j = byteS b j) : a = b := by
  have hd : a.data = b.data := by
    apply Array.ext
    · exact hs
    · intro i h1 h2
      have e := h i h1
      have h1' : i < a.size := h1
      have h2' : i < b.size := h2
      unfold byteS at e
      rw [dif_pos h1', dif_pos h2'] at e
      exact UInt8.toNat_inj.1 e
  cases a; cases b
  exact congrArg ByteArray.mk hd
theorem textN_is {a : ByteArray} {n : Nat} {f : Nat → Nat} (hs : a.size = n) (h : ∀ j, j < n → f j = byteS a j) : textN n f = a :=
  text_same (by rw [textN_size, hs]) fun j hj => by
    rw [textN_size] at hj
    rw [byteS_textN n f j hj (by rw [h j hj]; exact byteS_lt _ _), h j hj]
theorem size_app (a b : ByteArray) : (a ++ b).size = a.size + b.size := by simp
theorem byteS_app (a b : ByteArray) (j : Nat) : byteS (a ++ b) j = if j < a.size then byteS a j else byteS b (j - a.size) := by
  unfold byteS
  have hs := size_app a b
  by_cases h1 : j < a.size
  · rw [if_pos h1, dif_pos (by omega), dif_pos h1]
    congr 1
    exact ByteArray.getElem_append_left h1
  · rw [if_neg h1]
    by_cases h2 : j - a.size < b.size
    · rw [dif_pos (by omega), dif_pos h2]
      congr 1
      exact ByteArray.getElem_append_right (by omega)
    · rw [dif_neg (by omega), dif_neg h2]
/-- One byte ahead. -/
theorem textN_ahead (n z : Nat) (f g : Nat → Nat) (hz : z < 256) (hf : ∀ j, f j < 256) (h0 : g 0 = z) (h : ∀ j, j < n → g (j + 1) = f j) : textN 1 (fun _ => z) ++ textN n f = textN (n + 1) g := by
  refine (textN_is (by rw [size_app, textN_size, textN_size]; omega) fun j hj => ?_).symm
  rw [byteS_app, textN_size]
  by_cases h1 : j < 1
  · rw [if_pos h1, byteS_textN _ _ _ h1 hz, show j = 0 by omega, h0]
  · rw [if_neg h1, byteS_textN _ _ _ (by omega) (hf _), ← h (j - 1) (by omega), show j - 1 + 1 = j by omega]
end Go.Proofs.Ytkbjgaobhbiieaa
/- The bytes of a text as cells of a slice ([]byte of it), and back. -/
namespace Go.Proofs.Ytkbjgaobhbiieaa
open Go.RowKit
theorem asBytes_len (l : List (BitVec 8)) : (asBytes l).length = l.length := by simp [asBytes]
/-- The first N cells. -/
structure ClY (N : Nat) (f : Nat → Nat) (g : Nat) (wr : World) : Prop where
  c : ∀ j, j < N → wr.cell? ⟨g, j, none⟩ = some (.int .u8 (f j : Int))
  fz : ∀ j, j < N → wr.frozen? ⟨g, j, none⟩ = false
  lt : g < wr.heap.size
theorem ClY.drew {N : Nat} {f : Nat → Nat} {g : Nat} {wr : World} (h : ClY N f g wr) : ClY N f g wr.drew := ⟨h.c, h.fz, h.lt⟩
theorem ClY.below {N : Nat} {f : Nat → Nat} {g : Nat} {wr w' : World} (h : ClY N f g wr) (hb : Below wr.heap.size wr w') : ClY N f g w' :=
  ⟨fun j hj => (hb.cell (p := ⟨g, j, none⟩) h.lt).trans (h.c j hj), fun j hj => (hb.frozen (p := ⟨g, j, none⟩) h.lt).trans (h.fz j hj), Nat.lt_of_lt_of_le h.lt hb.size⟩
theorem ClY.put {N : Nat} {f : Nat → Nat} {g : Nat} {wr : World} (h : ClY N f g wr) (k : Nat) (v : Nat) : ClY N (fun j => if j = k then v else f j) g (wr.setCell ⟨g, k, none⟩ (.int .u8 (v : Int))) :=
  ⟨fun j hj => by
    by_cases h1 : j = k
    · subst h1; simp only [if_true]; exact World.cell?_setCell_same _ _ _ (h.c j hj)
    · have hne : (⟨g, k, none⟩ : Addr) ≠ ⟨g, j, none⟩ := by intro hh; injection hh with _ h2; exact h1 h2.symm
      rw [if_neg h1, World.cell?_setCell_other _ _ _ _ hne]; exact h.c j hj,
   fun j hj => (World.frozen?_setCell _ _ _ _).trans (h.fz j hj), by simp [World.setCell]; exact h.lt⟩
theorem ClY.cast {N : Nat} {f f' : Nat → Nat} {g : Nat} {wr : World} (h : ClY N f g wr) (e : f = f') : ClY N f' g wr := e ▸ h
theorem bytesN_start {N : Nat} (s : ByteArray) (w : World) (h : s.size = N) : ∃ cap W1, (convert 9 43 (.string s)).run Try.prog w = .ok (.slice (some ⟨w.heap.size, 0, none⟩) N cap) W1 ∧ ClY N (byteS s) w.heap.size W1 ∧ Below w.heap.size w W1 := by
  refine ⟨_, _, (Lib.run_convert_string_bytes w _ _ 5 s Try.underlying9 Try.underlying43 Try.underlying5).trans (by rw [h]), ?_⟩
  have hsz : ∀ j, j < N → j < (Lib.bytesCells w 5 s).size := fun j hj => by
    unfold Lib.bytesCells; rw [Array.size_append, Array.size_map]
    have : s.data.size = N := h
    omega
  refine ⟨⟨fun j hj => ?_, fun j hj => ?_, by rw [Lib.bytesWorld_size]; omega⟩, ⟨rfl, rfl, rfl, by rw [Lib.bytesWorld_size]; omega, fun k hk => Lib.bytesWorld_at_old _ _ _ _ hk⟩⟩
  · rw [Lib.bytesWorld_cell _ _ _ _ (by omega)]
    rw [← byteS_at s j (by omega)]
    congr 3
    rw [List.getD_eq_getElem?_getD, List.getElem?_eq_getElem (by simpa using (show j < s.size by omega))]
    rfl
  · have := hsz j hj
    simp [World.frozen?, Lib.bytesWorld_at_new]
    omega
theorem bytesN_end {N : Nat} {f : Nat → Nat} {g : Nat} {wr : World} (h : ClY N f g wr) (hf : ∀ j, f j < 256) (cap : Nat) : (convert 43 9 (.slice (some ⟨g, 0, none⟩) N cap)).run Try.prog wr = .ok (.string (textN N f)) wr := by
  have hl : (asBytes ((List.range N).map fun i => BitVec.ofNat 8 (f i))).length = N := by rw [asBytes_len]; simp
  have := run_convert_bytes_back (P := Try.prog) wr 43 9 5 ⟨g, 0, none⟩ cap (asBytes ((List.range N).map fun i => BitVec.ofNat 8 (f i))) Try.underlying43 Try.underlying5 Try.underlying9 (fun j hj => by
    rw [hl] at hj
    rw [addr_add, Nat.zero_add, h.c j hj]
    congr 2
    have hb := hf j
    simp only [asBytes, List.getElem_map, List.getElem_range]
    show (f j : Int) = ((BitVec.ofNat 8 (f j)).toNat : Int)
    rw [BitVec.toNat_ofNat, Nat.mod_eq_of_lt (show f j < 2 ^ 8 by omega)])
  rwa [hl] at this
end Go.Proofs.Ytkbjgaobhbiieaa
/- A region that draws its order, walked by hand: operations that only reckon are taken first, one that calls or stores where it alone may come up. -/
namespace Go.Proofs.Ytkbjgaobhbiieaa
open Go.RowKit
section
variable {P : Program} {ops : Array Oper} {Q : Exit → Act → World → Prop} {md : Region.Mode}
theorem wpOp_calls {i : Nat} {o : Oper} {a : Act} {w : World} {K : Act → World → Prop} {f : FuncId} {args : Array Value} (hi : ops[i]? = some o) (hw : Region.wanted o (yielded ops a.tmps) = true)
    (hr : (execOp a.eval o).run P w = .ok (.enter f args) w) (hc : Calls P f args w fun e w' => ∃ v, e = .returned v ∧ K (a.put o.dst v) w') : wpOp P ops Q i K a w := by
  unfold Go.wpOp
  simp only [hi, hw, if_true, Oper.wp]
  left
  rw [hr]
  refine hc.mono ?_
  rintro e w' ⟨v, rfl, hk⟩
  exact hk
theorem wpOp_lands {i : Nat} {o : Oper} {a : Act} {w : World} {K : Act → World → Prop} {R : World → Prop} {v : Value} (hi : ops[i]? = some o) (hw : Region.wanted o (yielded ops a.tmps) = true)
    (hr : Lands P R v ((execOp a.eval o).run P w)) (hk : ∀ w', R w' → K (a.put o.dst v) w') : wpOp P ops Q i K a w := by
  unfold Go.wpOp
  simp only [hi, hw, if_true, Oper.wp]
  exact .inl (hr.upon hk)
theorem heldT_start {id : Nat} {a : Act} {w : World} (hm : P.follows .mixedOrders = true) (h : wpAnyH P .any ops Q (fun _ => True) ops.size (Array.replicate ops.size false) a w.drew) : (Code.region id ops true).wp P Q a w := wp_region_held hm h
theorem heldT_take {i : Nat} {oi : Oper} {r : List Oper} {v : Value} {fuel : Nat} {listed : Array Bool} {a : Act} {w : World} (hi : ops.toList.drop i = oi :: r)
    (hs : Region.noSelect ops = true) (hf : Region.free md ops listed i = true) (hr : (Region.ready md ops listed).contains i = true)
    (hQ : ∀ c a w, Q (.panic c) (a.put oi.dst v) w → Q (.panic c) a w) (hw : Region.wanted oi (yielded ops a.tmps) = true) (hy : ∀ w, (execOp a.eval oi).run P w = .ok (.value v) w)
    (h : wpAnyH P md ops Q (fun _ => True) fuel (listed.setIfInBounds i true) (a.put oi.dst v) w) : wpAnyH P md ops Q (fun _ => True) (fuel + 1) listed a w :=
  wpAnyH_take (at_drop hi) hs hf hr hQ (.inl ⟨hw, fun w _ => hy w⟩) trivial h
theorem heldT_call {i : Nat} {o : Oper} {r : List Oper} {fuel : Nat} {listed : Array Bool} {a : Act} {w : World} {f : FuncId} {args : Array Value} (hr : Region.ready md ops listed = [i]) (hi : ops.toList.drop i = o :: r) (hw : Region.wanted o (yielded ops a.tmps) = true)
    (he : (execOp a.eval o).run P w = .ok (.enter f args) w) (hc : Calls P f args w fun e w' => ∃ v, e = .returned v ∧ wpAnyH P md ops Q (fun _ => True) fuel (listed.setIfInBounds i true) (a.put o.dst v) w') : wpAnyH P md ops Q (fun _ => True) (fuel + 1) listed a w :=
  wpAnyH_all hr (by simp) fun j hj => by
    obtain rfl := List.mem_singleton.1 hj
    exact wpOp_calls (at_drop hi) hw he (hc.mono fun e w' ⟨v, h1, h2⟩ => ⟨v, h1, trivial, h2⟩)
theorem heldT_lands {i : Nat} {o : Oper} {r : List Oper} {fuel : Nat} {listed : Array Bool} {a : Act} {w : World} {R : World → Prop} {v : Value} (hr : Region.ready md ops listed = [i]) (hi : ops.toList.drop i = o :: r) (hw : Region.wanted o (yielded ops a.tmps) = true)
    (hl : Lands P R v ((execOp a.eval o).run P w)) (hk : ∀ w', R w' → wpAnyH P md ops Q (fun _ => True) fuel (listed.setIfInBounds i true) (a.put o.dst v) w') : wpAnyH P md ops Q (fun _ => True) (fuel + 1) listed a w :=
  wpAnyH_all hr (by simp) fun j hj => by
    obtain rfl := List.mem_singleton.1 hj
    exact wpOp_lands (at_drop hi) hw hl fun w' h => ⟨trivial, hk w' h⟩
end
end Go.Proofs.Ytkbjgaobhbiieaa
