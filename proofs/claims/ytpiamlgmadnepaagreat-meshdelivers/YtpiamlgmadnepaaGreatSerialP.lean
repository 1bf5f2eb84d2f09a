/-
 What the proof needs.
-/
import Derived.Test.YtpiamlgmadnepaaGreatRows
import Derived.WalkKit
import Derived.ProofKit
import Derived.OpenShut
import Derived.WalkSpells
import Derived.Laws.BitsLemmas
open Go.Proofs.Tryz
set_option maxHeartbeats 400000
namespace Go.Proofs.YtpiamlgmadnepaaGreat.Ser
open ChangeShapes WideShapes ChangeAt RowKit
theorem ξ3I(n:Int):bits .and .i64 n 65535=n%65536:=by
 have h:(BitVec.ofInt 64 65535).toNat=2^16-1:=by decide
 have key:(BitVec.ofInt 64 n&&&BitVec.ofInt 64 65535).toNat=(n%((2^64:Nat):Int)).toNat%2^16:=by
  rw[BitVec.toNat_and,BitVec.toNat_ofInt,h,Nat.and_two_pow_sub_one_eq_mod]
 show IntKind.i64.wrap ((BitVec.ofInt 64 n&&&BitVec.ofInt 64 65535).toNat:Nat)=n%65536;rw[key,IntKind.wrap_i64];omega
theorem ξ11{k:IntKind}{a b:Int}(h:a=b):Ending.returned (.int k a)=.returned (.int k b):=by rw[h]
theorem ξcn(n:Int):wrap64 n%65536=n%65536:=by
 unfold wrap64;omega
def bey(a b:Int):Int:=(a-b)%65536
theorem ξgf(a b:Int):0<=bey a b/\bey a b<=65535:=by unfold bey;omega
def A4v(n:Int):Bool:=decide (0<=n/\n<=1099511627776)
def unw(last seq:Int):Int:=
 if 65536<=last+bey seq last/\32768<=bey seq last then last+bey seq last-65536 else last+bey seq last
theorem ξ2l(a b:Int)(w:World) :
 Calls prog 65 #[.int .i64 a,.int .i64 b] w λe w'=>e=.returned (.int .i64 (bey a b))/\w'=w:=by
 go_enter func65,ntmps65
 go_wp2
 go_ret;exact⟨ξ11 (by rw[ξ3I,ξcn];rfl),rfl⟩
theorem ξ79(n:Int)(w:World) :
 Calls prog 64 #[.int .i64 n] w λe w'=>e=.returned (.bool (A4v n))/\w'=w:=by
 by_cases h1:0<=n
 ·by_cases h2:n<=1099511627776
  ·have hf:A4v n=true:=by simp[A4v,h1,h2]
   rw[hf];clear hf;go_enter func64,ntmps64
   go_wp2
   go_ret;exact⟨rfl,rfl⟩
  ·have hf:A4v n=false:=by simp[A4v,h2]
   rw[hf];clear hf;go_enter func64,ntmps64
   go_wp2
   go_ret;exact⟨rfl,rfl⟩
 ·have hf:A4v n=false:=by simp[A4v,h1]
  rw[hf];clear hf;go_enter func64,ntmps64
  go_wp2
  go_ret;exact⟨rfl,rfl⟩
theorem ξ36(n:Int)(w:World)(h:0<=n)(h':n<=1099511627776) :
 Calls prog 64 #[.int .i64 n] w λe w'=>e=.returned (.bool true)/\w'=w:=by
 have hf:A4v n=true:=by simp[A4v,h,h']
 rw[<-hf];exact ξ79 n w
theorem ξcs(last seq:Int)(h:65536<=last+bey seq last)(h':32768<=bey seq last):unw last seq=last+bey seq last-65536:=by
 unfold unw;rw[if_pos ⟨h,h'⟩]
theorem ξar(last seq:Int)(h:¬(65536<=last+bey seq last/\32768<=bey seq last)):unw last seq=last+bey seq last:=by
 unfold unw;rw[if_neg h]
theorem ξaq(last seq:Int)(w:World)(ha:0<=last)(hb:last<=1099511627776)(hc:0<=seq)(hd:seq<=65535) :
 Calls prog 26 #[.int .i64 last,.int .i64 seq] w λe w'=>e=.returned (.tuple #[.int .i64 (unw last seq),.nilIface])/\w'=w:=by
 have⟨hx,hy⟩:=ξgf seq last;by_cases h1:65536<=last+bey seq last
 ·by_cases h2:32768<=bey seq last
  ·rw[ξcs last seq h1 h2];go_enter func26,ntmps26;go_wp2_with (first|(go_at_call 64;refine(ξ36 _ _ ha hb).mono ?_;rintro e w' ⟨rfl,rfl⟩)|(go_at_call 65;refine(ξ2l _ _ _).mono ?_;rintro e w' ⟨rfl,rfl⟩))
   go_ret2;exact⟨rfl,rfl⟩
  ·rw[ξar last seq (by omega)];go_enter func26,ntmps26;go_wp2_with (first|(go_at_call 64;refine(ξ36 _ _ ha hb).mono ?_;rintro e w' ⟨rfl,rfl⟩)|(go_at_call 65;refine(ξ2l _ _ _).mono ?_;rintro e w' ⟨rfl,rfl⟩))
   go_ret2;exact⟨rfl,rfl⟩
 ·rw[ξar last seq (by omega)];go_enter func26,ntmps26;go_wp2_with (first|(go_at_call 64;refine(ξ36 _ _ ha hb).mono ?_;rintro e w' ⟨rfl,rfl⟩)|(go_at_call 65;refine(ξ2l _ _ _).mono ?_;rintro e w' ⟨rfl,rfl⟩))
  go_ret2;exact⟨rfl,rfl⟩
end Go.Proofs.YtpiamlgmadnepaaGreat.Ser
