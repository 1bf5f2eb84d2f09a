/-
  What the functions beyond, Ahead, isLong and Unwrap of package serial return, at every two numbers of 64 bits. No condition but that.
-/
import Derived.Test.YtlppdppddiecnaaGreatDoorRows
import Derived.WalkKit
import Derived.ProofKit
import Derived.OpenShut
import Derived.WalkSpells
import Derived.Laws.BitsLemmas
namespace Go.Proofs.YtlppdppddiecnaaGreatDoor.Ser
open Go.ChangeShapes Go.WideShapes Go.ChangeAt Go.RowKit

theorem and_round (n:Int):bits .and .i64 n 65535=n%65536:=by
  have h:(BitVec.ofInt 64 65535).toNat=2 ^ 16 - 1:=by decide
  have key:(BitVec.ofInt 64 n &&& BitVec.ofInt 64 65535).toNat=(n%((2 ^ 64:Nat):Int)).toNat%2 ^ 16:=by
    rw [BitVec.toNat_and,BitVec.toNat_ofInt,h,Nat.and_two_pow_sub_one_eq_mod]
  show IntKind.i64.wrap ((BitVec.ofInt 64 n &&& BitVec.ofInt 64 65535).toNat:Nat)=n%65536
  rw [key,IntKind.wrap_i64]
  omega

theorem ret_int {k:IntKind} {a b:Int} (h:a=b):Ending.returned (.int k a)=.returned (.int k b):=by rw [h]
theorem ret_bool {a b:Bool} (h:a=b):Ending.returned (.bool a)=.returned (.bool b):=by rw [h]

theorem wrap_mod (n:Int):wrap64 n%65536=n%65536:=by
  unfold wrap64;omega

def bey (a b:Int):Int:=(a - b)%65536
theorem bey_bd (a b:Int):0≤bey a b∧bey a b≤65535:=by unfold bey;omega
def ahB (a b:Int):Bool:=decide (1≤bey a b∧bey a b<32768)
def longB (n:Int):Bool:=decide (0≤n∧n≤1099511627776)
def unw (last seq:Int):Int:=
  if 65536≤last+bey seq last∧32768≤bey seq last then last+bey seq last - 65536 else last+bey seq last

set_option maxHeartbeats 400000 in
theorem beyond_calls (a b:Int) (w:World) :
    Calls Tryz.prog 106 #[.int .i64 a,.int .i64 b] w fun e w'=>e=.returned (.int .i64 (bey a b))∧w'=w:=by
  go_enter Tryz.func106,Tryz.ntmps106
  go_wp2
  go_ret
  exact ⟨ret_int (by rw [and_round,wrap_mod];rfl),rfl⟩

set_option maxHeartbeats 400000 in
theorem isLong_calls (n:Int) (w:World) :
    Calls Tryz.prog 105 #[.int .i64 n] w fun e w'=>e=.returned (.bool (longB n))∧w'=w:=by
  by_cases h1:0≤n
  · by_cases h2:n≤1099511627776
    · have hf:longB n=true:=by simp [longB,h1,h2]
      rw [hf];clear hf
      go_enter Tryz.func105,Tryz.ntmps105
      go_wp2
      go_ret
      exact ⟨rfl,rfl⟩
    · have hf:longB n=false:=by simp [longB,h2]
      rw [hf];clear hf
      go_enter Tryz.func105,Tryz.ntmps105
      go_wp2
      go_ret
      exact ⟨rfl,rfl⟩
  · have hf:longB n=false:=by simp [longB,h1]
    rw [hf];clear hf
    go_enter Tryz.func105,Tryz.ntmps105
    go_wp2
    go_ret
    exact ⟨rfl,rfl⟩

theorem isLong_yes (n:Int) (w:World) (h:0≤n) (h':n≤1099511627776) :
    Calls Tryz.prog 105 #[.int .i64 n] w fun e w'=>e=.returned (.bool true)∧w'=w:=by
  have hf:longB n=true:=by simp [longB,h,h']
  rw [← hf];exact isLong_calls n w
theorem isLong_no (n:Int) (w:World) (h:n<0∨1099511627776<n) :
    Calls Tryz.prog 105 #[.int .i64 n] w fun e w'=>e=.returned (.bool false)∧w'=w:=by
  have hf:longB n=false:=by simp [longB];omega
  rw [← hf];exact isLong_calls n w

set_option maxHeartbeats 400000 in
theorem unwrap_err (last seq:Int) (w:World) (h:last<0∨1099511627776<last∨seq<0∨65535<seq) :
    Calls Tryz.prog 78 #[.int .i64 last,.int .i64 seq] w fun e w'=>e=.returned (.tuple #[.int .i64 0,.iface 107 (.int .i64 1)])∧w'=w:=by
  by_cases h1:last<0∨1099511627776<last
  · clear h
    have H:Hid (last<0∨1099511627776<last):=h1
    clear h1
    go_enter Tryz.func78,Tryz.ntmps78
    go_wp2_with (go_at_call 105;refine (isLong_no _ _ H.out).mono ?_;rintro e w' ⟨rfl,rfl⟩)
    go_ret2
    exact ⟨rfl,rfl⟩
  · have ha:0≤last:=by omega
    have hb:last≤1099511627776:=by omega
    clear h1
    by_cases h2:seq<0
    · clear h
      go_enter Tryz.func78,Tryz.ntmps78
      go_wp2_with (go_at_call 105;refine (isLong_yes _ _ ha hb).mono ?_;rintro e w' ⟨rfl,rfl⟩)
      go_ret2
      exact ⟨rfl,rfl⟩
    · have h3:65535<seq:=by omega
      clear h
      go_enter Tryz.func78,Tryz.ntmps78
      go_wp2_with (go_at_call 105;refine (isLong_yes _ _ ha hb).mono ?_;rintro e w' ⟨rfl,rfl⟩)
      go_ret2
      exact ⟨rfl,rfl⟩

theorem unw_down (last seq:Int) (h:65536≤last+bey seq last) (h':32768≤bey seq last):unw last seq=last+bey seq last - 65536:=by
  unfold unw;rw [if_pos ⟨h,h'⟩]
theorem unw_up (last seq:Int) (h:¬ (65536≤last+bey seq last∧32768≤bey seq last)):unw last seq=last+bey seq last:=by
  unfold unw;rw [if_neg h]

set_option maxHeartbeats 400000 in
theorem unwrap_ok (last seq:Int) (w:World) (ha:0≤last) (hb:last≤1099511627776) (hc:0≤seq) (hd:seq≤65535) :
    Calls Tryz.prog 78 #[.int .i64 last,.int .i64 seq] w fun e w'=>e=.returned (.tuple #[.int .i64 (unw last seq),.nilIface])∧w'=w:=by
  have ⟨hx,hy⟩:=bey_bd seq last
  by_cases h1:65536≤last+bey seq last
  · by_cases h2:32768≤bey seq last
    · rw [unw_down last seq h1 h2]
      go_enter Tryz.func78,Tryz.ntmps78
      go_wp2_with (first | (go_at_call 105;refine (isLong_yes _ _ ha hb).mono ?_;rintro e w' ⟨rfl,rfl⟩) | (go_at_call 106;refine (beyond_calls _ _ _).mono ?_;rintro e w' ⟨rfl,rfl⟩))
      go_ret2
      exact ⟨rfl,rfl⟩
    · rw [unw_up last seq (by omega)]
      go_enter Tryz.func78,Tryz.ntmps78
      go_wp2_with (first | (go_at_call 105;refine (isLong_yes _ _ ha hb).mono ?_;rintro e w' ⟨rfl,rfl⟩) | (go_at_call 106;refine (beyond_calls _ _ _).mono ?_;rintro e w' ⟨rfl,rfl⟩))
      go_ret2
      exact ⟨rfl,rfl⟩
  · rw [unw_up last seq (by omega)]
    go_enter Tryz.func78,Tryz.ntmps78
    go_wp2_with (first | (go_at_call 105;refine (isLong_yes _ _ ha hb).mono ?_;rintro e w' ⟨rfl,rfl⟩) | (go_at_call 106;refine (beyond_calls _ _ _).mono ?_;rintro e w' ⟨rfl,rfl⟩))
    go_ret2
    exact ⟨rfl,rfl⟩

end Go.Proofs.YtlppdppddiecnaaGreatDoor.Ser

