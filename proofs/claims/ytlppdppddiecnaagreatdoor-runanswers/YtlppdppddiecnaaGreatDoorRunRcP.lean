/-
  The reference's name, needs and told, and its New.
-/
import Derived.Test.YtlppdppddiecnaaGreatDoorAmAll
import Derived.Test.YtlppdppddiecnaaGreatDoorDoAll
namespace Go.Proofs.YtlppdppddiecnaaGreatDoor.Run
open Go.ChangeShapes Go.WideShapes Go.ChangeAt Go.RowKit Go.Proofs.YtlppdppddiecnaaGreatDoor.Mem Go.Proofs.YtlppdppddiecnaaGreatDoor.RN Go.Proofs.YtlppdppddiecnaaGreatDoor.RC
set_option linter.unusedVariables false
set_option maxHeartbeats 2000000 in
set_option maxRecDepth 100000 in
theorem rname_calls (x:Nat) (h1:1≤x) (h9:x≤9) (w:World) :
    Calls Tryz.prog 20 #[.int .i64 (x:Int)] w fun e w'=>e=.returned (.string (bs (An.err x).tell))∧Below w.heap.size w w':=by
  rcases (by omega:x=1∨x=2∨x=3∨x=4∨x=5∨x=6∨x=7∨x=8∨x=9) with rfl | rfl | rfl | rfl | rfl | rfl | rfl | rfl | rfl
  all_goals
    clear h1 h9
    simp only [Int.cast_ofNat_Int]
    go_enter Tryz.func20,Tryz.ntmps20
    go_wp2_with fail
    go_ret
    refine ⟨rfl,?_⟩
    first | exact (Below.refl _ _).alloc (Nat.le_refl _) _ | skip
set_option maxHeartbeats 2000000 in
set_option maxRecDepth 100000 in
theorem needs_take (w:World):Calls Tryz.prog 16 #[.string (bs [116,97,107,101])] w fun e w'=>e=.returned (.int .i64 4)∧w'=w:=by
  have q0:((bs [116,97,107,101]).toList==[116,97,107,101])=true:=eq_yes _
  go_enter Tryz.func16,Tryz.ntmps16
  go_wp2_with fail
  go_ret
  exact ⟨rfl,rfl⟩
set_option maxHeartbeats 2000000 in
set_option maxRecDepth 100000 in
theorem needs_unwrap (w:World):Calls Tryz.prog 16 #[.string (bs [117,110,119,114,97,112])] w fun e w'=>e=.returned (.int .i64 3)∧w'=w:=by
  have q0:((bs [117,110,119,114,97,112]).toList==[116,97,107,101])=false:=eq_no (by decide)
  have q1:((bs [117,110,119,114,97,112]).toList==[117,110,119,114,97,112])=true:=eq_yes _
  go_enter Tryz.func16,Tryz.ntmps16
  go_wp2_with fail
  go_ret
  exact ⟨rfl,rfl⟩
set_option maxHeartbeats 2000000 in
set_option maxRecDepth 100000 in
theorem needs_fair (w:World):Calls Tryz.prog 16 #[.string (bs [102,97,105,114])] w fun e w'=>e=.returned (.int .i64 3)∧w'=w:=by
  have q0:((bs [102,97,105,114]).toList==[116,97,107,101])=false:=eq_no (by decide)
  have q1:((bs [102,97,105,114]).toList==[117,110,119,114,97,112])=false:=eq_no (by decide)
  have q2:((bs [102,97,105,114]).toList==[102,97,105,114])=true:=eq_yes _
  go_enter Tryz.func16,Tryz.ntmps16
  go_wp2_with fail
  go_ret
  exact ⟨rfl,rfl⟩
set_option maxHeartbeats 2000000 in
set_option maxRecDepth 100000 in
theorem needs_way (w:World):Calls Tryz.prog 16 #[.string (bs [119,97,121])] w fun e w'=>e=.returned (.int .i64 3)∧w'=w:=by
  have q0:((bs [119,97,121]).toList==[116,97,107,101])=false:=eq_no (by decide)
  have q1:((bs [119,97,121]).toList==[117,110,119,114,97,112])=false:=eq_no (by decide)
  have q2:((bs [119,97,121]).toList==[102,97,105,114])=false:=eq_no (by decide)
  have q3:((bs [119,97,121]).toList==[119,97,121])=true:=eq_yes _
  go_enter Tryz.func16,Tryz.ntmps16
  go_wp2_with fail
  go_ret
  exact ⟨rfl,rfl⟩
set_option maxHeartbeats 2000000 in
set_option maxRecDepth 100000 in
theorem needs_seen (w:World):Calls Tryz.prog 16 #[.string (bs [115,101,101,110])] w fun e w'=>e=.returned (.int .i64 2)∧w'=w:=by
  have q0:((bs [115,101,101,110]).toList==[116,97,107,101])=false:=eq_no (by decide)
  have q1:((bs [115,101,101,110]).toList==[117,110,119,114,97,112])=false:=eq_no (by decide)
  have q2:((bs [115,101,101,110]).toList==[102,97,105,114])=false:=eq_no (by decide)
  have q3:((bs [115,101,101,110]).toList==[119,97,121])=false:=eq_no (by decide)
  have q4:((bs [115,101,101,110]).toList==[115,101,101,110])=true:=eq_yes _
  go_enter Tryz.func16,Tryz.ntmps16
  go_wp2_with fail
  go_ret
  exact ⟨rfl,rfl⟩
set_option maxHeartbeats 2000000 in
set_option maxRecDepth 100000 in
theorem needs_crc (w:World):Calls Tryz.prog 16 #[.string (bs [99,114,99])] w fun e w'=>e=.returned (.int .i64 2)∧w'=w:=by
  have q0:((bs [99,114,99]).toList==[116,97,107,101])=false:=eq_no (by decide)
  have q1:((bs [99,114,99]).toList==[117,110,119,114,97,112])=false:=eq_no (by decide)
  have q2:((bs [99,114,99]).toList==[102,97,105,114])=false:=eq_no (by decide)
  have q3:((bs [99,114,99]).toList==[119,97,121])=false:=eq_no (by decide)
  have q4:((bs [99,114,99]).toList==[115,101,101,110])=false:=eq_no (by decide)
  have q5:((bs [99,114,99]).toList==[99,114,99])=true:=eq_yes _
  go_enter Tryz.func16,Tryz.ntmps16
  go_wp2_with fail
  go_ret
  exact ⟨rfl,rfl⟩
set_option maxHeartbeats 2000000 in
set_option maxRecDepth 100000 in
theorem needs_open (w:World):Calls Tryz.prog 16 #[.string (bs [111,112,101,110])] w fun e w'=>e=.returned (.int .i64 2)∧w'=w:=by
  have q0:((bs [111,112,101,110]).toList==[116,97,107,101])=false:=eq_no (by decide)
  have q1:((bs [111,112,101,110]).toList==[117,110,119,114,97,112])=false:=eq_no (by decide)
  have q2:((bs [111,112,101,110]).toList==[102,97,105,114])=false:=eq_no (by decide)
  have q3:((bs [111,112,101,110]).toList==[119,97,121])=false:=eq_no (by decide)
  have q4:((bs [111,112,101,110]).toList==[115,101,101,110])=false:=eq_no (by decide)
  have q5:((bs [111,112,101,110]).toList==[99,114,99])=false:=eq_no (by decide)
  have q6:((bs [111,112,101,110]).toList==[111,112,101,110])=true:=eq_yes _
  go_enter Tryz.func16,Tryz.ntmps16
  go_wp2_with fail
  go_ret
  exact ⟨rfl,rfl⟩
set_option maxHeartbeats 2000000 in
set_option maxRecDepth 100000 in
theorem needs_pairs (w:World):Calls Tryz.prog 16 #[.string (bs [112,97,105,114,115])] w fun e w'=>e=.returned (.int .i64 2)∧w'=w:=by
  have q0:((bs [112,97,105,114,115]).toList==[116,97,107,101])=false:=eq_no (by decide)
  have q1:((bs [112,97,105,114,115]).toList==[117,110,119,114,97,112])=false:=eq_no (by decide)
  have q2:((bs [112,97,105,114,115]).toList==[102,97,105,114])=false:=eq_no (by decide)
  have q3:((bs [112,97,105,114,115]).toList==[119,97,121])=false:=eq_no (by decide)
  have q4:((bs [112,97,105,114,115]).toList==[115,101,101,110])=false:=eq_no (by decide)
  have q5:((bs [112,97,105,114,115]).toList==[99,114,99])=false:=eq_no (by decide)
  have q6:((bs [112,97,105,114,115]).toList==[111,112,101,110])=false:=eq_no (by decide)
  have q7:((bs [112,97,105,114,115]).toList==[112,97,105,114,115])=true:=eq_yes _
  go_enter Tryz.func16,Tryz.ntmps16
  go_wp2_with fail
  go_ret
  exact ⟨rfl,rfl⟩
set_option maxHeartbeats 2000000 in
set_option maxRecDepth 100000 in
theorem needs_hear (w:World):Calls Tryz.prog 16 #[.string (bs [104,101,97,114])] w fun e w'=>e=.returned (.int .i64 2)∧w'=w:=by
  have q0:((bs [104,101,97,114]).toList==[116,97,107,101])=false:=eq_no (by decide)
  have q1:((bs [104,101,97,114]).toList==[117,110,119,114,97,112])=false:=eq_no (by decide)
  have q2:((bs [104,101,97,114]).toList==[102,97,105,114])=false:=eq_no (by decide)
  have q3:((bs [104,101,97,114]).toList==[119,97,121])=false:=eq_no (by decide)
  have q4:((bs [104,101,97,114]).toList==[115,101,101,110])=false:=eq_no (by decide)
  have q5:((bs [104,101,97,114]).toList==[99,114,99])=false:=eq_no (by decide)
  have q6:((bs [104,101,97,114]).toList==[111,112,101,110])=false:=eq_no (by decide)
  have q7:((bs [104,101,97,114]).toList==[112,97,105,114,115])=false:=eq_no (by decide)
  have q8:((bs [104,101,97,114]).toList==[104,101,97,114])=true:=eq_yes _
  go_enter Tryz.func16,Tryz.ntmps16
  go_wp2_with fail
  go_ret
  exact ⟨rfl,rfl⟩
set_option maxHeartbeats 2000000 in
set_option maxRecDepth 100000 in
theorem needs_gone (w:World):Calls Tryz.prog 16 #[.string (bs [103,111,110,101])] w fun e w'=>e=.returned (.int .i64 2)∧w'=w:=by
  have q0:((bs [103,111,110,101]).toList==[116,97,107,101])=false:=eq_no (by decide)
  have q1:((bs [103,111,110,101]).toList==[117,110,119,114,97,112])=false:=eq_no (by decide)
  have q2:((bs [103,111,110,101]).toList==[102,97,105,114])=false:=eq_no (by decide)
  have q3:((bs [103,111,110,101]).toList==[119,97,121])=false:=eq_no (by decide)
  have q4:((bs [103,111,110,101]).toList==[115,101,101,110])=false:=eq_no (by decide)
  have q5:((bs [103,111,110,101]).toList==[99,114,99])=false:=eq_no (by decide)
  have q6:((bs [103,111,110,101]).toList==[111,112,101,110])=false:=eq_no (by decide)
  have q7:((bs [103,111,110,101]).toList==[112,97,105,114,115])=false:=eq_no (by decide)
  have q8:((bs [103,111,110,101]).toList==[104,101,97,114])=false:=eq_no (by decide)
  have q9:((bs [103,111,110,101]).toList==[103,111,110,101])=true:=eq_yes _
  go_enter Tryz.func16,Tryz.ntmps16
  go_wp2_with fail
  go_ret
  exact ⟨rfl,rfl⟩
set_option maxHeartbeats 2000000 in
set_option maxRecDepth 100000 in
theorem needs_other (x:List UInt8) (h:x≠kTake∧x≠kUnwrap∧x≠kFair∧x≠kWay∧x≠kSeen∧x≠kCrc∧x≠kOpen∧x≠kPairs∧x≠kHear∧x≠kGone) (w:World):Calls Tryz.prog 16 #[.string (bs x)] w fun e w'=>e=.returned (.int .i64 (-1))∧w'=w:=by
  obtain ⟨h0,h1,h2,h3,h4,h5,h6,h7,h8,h9⟩:=h
  have q0:((bs x).toList==[116,97,107,101])=false:=eq_no h0
  have q1:((bs x).toList==[117,110,119,114,97,112])=false:=eq_no h1
  have q2:((bs x).toList==[102,97,105,114])=false:=eq_no h2
  have q3:((bs x).toList==[119,97,121])=false:=eq_no h3
  have q4:((bs x).toList==[115,101,101,110])=false:=eq_no h4
  have q5:((bs x).toList==[99,114,99])=false:=eq_no h5
  have q6:((bs x).toList==[111,112,101,110])=false:=eq_no h6
  have q7:((bs x).toList==[112,97,105,114,115])=false:=eq_no h7
  have q8:((bs x).toList==[104,101,97,114])=false:=eq_no h8
  have q9:((bs x).toList==[103,111,110,101])=false:=eq_no h9
  clear h0 h1 h2 h3 h4 h5 h6 h7 h8 h9
  go_enter Tryz.func16,Tryz.ntmps16
  go_wp2_with fail
  go_ret
  exact ⟨rfl,rfl⟩
theorem needs_calls (x:List UInt8) (w:World):Calls Tryz.prog 16 #[.string (bs x)] w fun e w'=>e=.returned (.int .i64 (needsL x))∧w'=w:=by
  by_cases c0:x=kTake
  · subst c0
    exact needs_take w
  by_cases c1:x=kUnwrap
  · subst c1
    exact needs_unwrap w
  by_cases c2:x=kFair
  · subst c2
    exact needs_fair w
  by_cases c3:x=kWay
  · subst c3
    exact needs_way w
  by_cases c4:x=kSeen
  · subst c4
    exact needs_seen w
  by_cases c5:x=kCrc
  · subst c5
    exact needs_crc w
  by_cases c6:x=kOpen
  · subst c6
    exact needs_open w
  by_cases c7:x=kPairs
  · subst c7
    exact needs_pairs w
  by_cases c8:x=kHear
  · subst c8
    exact needs_hear w
  by_cases c9:x=kGone
  · subst c9
    exact needs_gone w
  have hh:=And.intro c0 (And.intro c1 (And.intro c2 (And.intro c3 (And.intro c4 (And.intro c5 (And.intro c6 (And.intro c7 (And.intro c8 c9))))))))
  rw [needs_none hh]
  exact needs_other x hh w
set_option maxHeartbeats 1000000 in
theorem rtold_ok (is:Bool) (w:World) :
    Calls Tryz.prog 23 #[.bool is,.int .i64 0] w fun e w'=>e=.returned (.string (bs (yesNo is)))∧w'=w:=by
  cases is with
  | true=>
    go_enter Tryz.func23,Tryz.ntmps23
    go_wp2_with fail
    go_ret
    exact ⟨rfl,rfl⟩
  | false=>
    go_enter Tryz.func23,Tryz.ntmps23
    go_wp2_with fail
    go_ret
    exact ⟨rfl,rfl⟩
set_option maxHeartbeats 1000000 in
theorem rtold_err (is:Bool) (x:Nat) (h1:1≤x) (h9:x≤9) (w:World) :
    Calls Tryz.prog 23 #[.bool is,.int .i64 (x:Int)] w fun e w'=>e=.returned (.string (bs (An.err x).tell))∧Below w.heap.size w w':=by
  have C:=hidden (rname_calls x h1 h9 w)
  have d0:((x:Int)==0)=false:=by simp;omega
  have d1:decide ((x:Int)=0)=false:=by simp;omega
  obtain ⟨t,ht⟩:∃ t,(An.err x).tell=t:=⟨_,rfl⟩
  rw [ht] at C ⊢
  clear ht
  go_enter Tryz.func23,Tryz.ntmps23
  go_wp2_with fail
  refine C.out.mono ?_
  rintro e w1 ⟨rfl,hb⟩
  go_wp2_with fail
  go_ret
  exact ⟨rfl,hb⟩
theorem rtold_calls (is:Bool) (x:Nat) (h9:x≤9) (w:World) :
    Calls Tryz.prog 23 #[.bool is,.int .i64 (x:Int)] w fun e w'=>e=.returned (.string (bs (An.of x (yesNo is)).tell))∧Below w.heap.size w w':=by
  by_cases h:x=0
  · subst h
    refine (rtold_ok is w).mono ?_
    rintro e w' ⟨rfl,rfl⟩
    exact ⟨rfl,Below.refl _ _⟩
  · rw [An.of_err h]
    exact rtold_err is x (by omega) h9 w
end Go.Proofs.YtlppdppddiecnaaGreatDoor.Run

