/-
  What the reference's functions Seq, Word and Packet return. They change nothing that was there.
-/
import Derived.Test.YtigibpcpnkdmcaaGreatDoorPackCP
import Derived.LoopN
namespace Go.Proofs.YtigibpcpnkdmcaaGreatDoor.RPack
open Go.ChangeShapes Go.WideShapes Go.ChangeAt Go.RowKit Go.Proofs.YtigibpcpnkdmcaaGreatDoor.PM Go.Proofs.YtigibpcpnkdmcaaGreatDoor.Mem Go.Proofs.YtigibpcpnkdmcaaGreatDoor.Pack
set_option linter.unusedVariables false
theorem rseq_calls (x:Int) (w:World):Calls Tryz.prog 26 #[.int .i64 x] w fun e w'=>e=.returned (.bool (decide (0≤x∧x≤65535)))∧w'=w:=by
  by_cases h:0≤x
  · have d:decide (0≤x)=true:=by simpa using h
    go_enter Tryz.func26,Tryz.ntmps26
    go_wp2_with fail
    go_ret
    exact ⟨by simp [h],rfl⟩
  · have d:decide (0≤x)=false:=by simpa using h
    go_enter Tryz.func26,Tryz.ntmps26
    go_wp2_with fail
    go_ret
    exact ⟨by simp,rfl⟩
theorem rword_calls (x:Int) (w:World):Calls Tryz.prog 27 #[.int .i64 x] w fun e w'=>e=.returned (.bool (decide (0≤x∧x≤4294967295)))∧w'=w:=by
  by_cases h:0≤x
  · have d:decide (0≤x)=true:=by simpa using h
    go_enter Tryz.func27,Tryz.ntmps27
    go_wp2_with fail
    go_ret
    exact ⟨by simp [h],rfl⟩
  · have d:decide (0≤x)=false:=by simpa using h
    go_enter Tryz.func27,Tryz.ntmps27
    go_wp2_with fail
    go_ret
    exact ⟨by simp,rfl⟩
theorem fault_bad {s t l v:Int} {n:Nat} (h:¬ (0≤s∧s≤65535∧0≤t∧t≤4294967295∧0≤l∧l≤3∧0≤v∧v≤127)):fault s t l v n=1:=by unfold fault;rw [if_neg h]
theorem fault_good {s t l v:Int} {n:Nat} (h:0≤s∧s≤65535∧0≤t∧t≤4294967295∧0≤l∧l≤3∧0≤v∧v≤127):fault s t l v n=if n≤1000 then 0 else 4:=by unfold fault;rw [if_pos h]
set_option maxHeartbeats 1000000 in
set_option maxRecDepth 100000 in
theorem rpacket_calls (s t l v:Int) (st:Bool) (a:Option Addr) (n cap:Nat) (w:World) :
    Calls Tryz.prog 10 #[.agg #[.int .i64 s,.int .i64 t,.int .i64 l,.int .i64 v,.bool st,.slice a n cap]] w fun e w'=>e=.returned (.int .i64 (fault s t l v n:Nat))∧Below w.heap.size w w':=by
  have H1:=hidden (fun w=>rseq_calls s w)
  have H2:=hidden (fun w=>rword_calls t w)
  by_cases p1:0≤s∧s≤65535
  case neg=>
    rw [fault_bad (by omega)]
    rw [decide_eq_false p1] at H1
    clear p1
    go_enter Tryz.func10,Tryz.ntmps10
    go_wp2_with fail
    refine (H1.out _).mono ?_
    rintro e w ⟨rfl,rfl⟩
    go_wp2_with fail
    refine (H2.out _).mono ?_
    rintro e w ⟨rfl,rfl⟩
    go_wp2_with fail
    go_ret
    exact ⟨rfl,(Below.refl _ _).alloc (Nat.le_refl _) _⟩
  rw [decide_eq_true p1] at H1
  by_cases p2:0≤t∧t≤4294967295
  case neg=>
    rw [fault_bad (by omega)]
    rw [decide_eq_false p2] at H2
    clear p1 p2
    go_enter Tryz.func10,Tryz.ntmps10
    go_wp2_with fail
    refine (H1.out _).mono ?_
    rintro e w ⟨rfl,rfl⟩
    go_wp2_with fail
    refine (H2.out _).mono ?_
    rintro e w ⟨rfl,rfl⟩
    go_wp2_with fail
    go_ret
    exact ⟨rfl,(Below.refl _ _).alloc (Nat.le_refl _) _⟩
  rw [decide_eq_true p2] at H2
  by_cases p3:l<0
  case pos=>
    rw [fault_bad (by omega)]
    have d3:decide (l<0)=true:=by simpa using p3
    clear p1 p2
    go_enter Tryz.func10,Tryz.ntmps10
    go_wp2_with fail
    refine (H1.out _).mono ?_
    rintro e w ⟨rfl,rfl⟩
    go_wp2_with fail
    refine (H2.out _).mono ?_
    rintro e w ⟨rfl,rfl⟩
    go_wp2_with fail
    go_ret
    exact ⟨rfl,(Below.refl _ _).alloc (Nat.le_refl _) _⟩
  have d3:decide (l<0)=false:=by simpa using p3
  by_cases p4:3<l
  case pos=>
    rw [fault_bad (by omega)]
    have d4:decide (3<l)=true:=by simpa using p4
    clear p1 p2
    go_enter Tryz.func10,Tryz.ntmps10
    go_wp2_with fail
    refine (H1.out _).mono ?_
    rintro e w ⟨rfl,rfl⟩
    go_wp2_with fail
    refine (H2.out _).mono ?_
    rintro e w ⟨rfl,rfl⟩
    go_wp2_with fail
    go_ret
    exact ⟨rfl,(Below.refl _ _).alloc (Nat.le_refl _) _⟩
  have d4:decide (3<l)=false:=by simpa using p4
  by_cases p5:v<0
  case pos=>
    rw [fault_bad (by omega)]
    have d5:decide (v<0)=true:=by simpa using p5
    clear p1 p2
    go_enter Tryz.func10,Tryz.ntmps10
    go_wp2_with fail
    refine (H1.out _).mono ?_
    rintro e w ⟨rfl,rfl⟩
    go_wp2_with fail
    refine (H2.out _).mono ?_
    rintro e w ⟨rfl,rfl⟩
    go_wp2_with fail
    go_ret
    exact ⟨rfl,(Below.refl _ _).alloc (Nat.le_refl _) _⟩
  have d5:decide (v<0)=false:=by simpa using p5
  by_cases p6:127<v
  case pos=>
    rw [fault_bad (by omega)]
    have d6:decide (127<v)=true:=by simpa using p6
    clear p1 p2
    go_enter Tryz.func10,Tryz.ntmps10
    go_wp2_with fail
    refine (H1.out _).mono ?_
    rintro e w ⟨rfl,rfl⟩
    go_wp2_with fail
    refine (H2.out _).mono ?_
    rintro e w ⟨rfl,rfl⟩
    go_wp2_with fail
    go_ret
    exact ⟨rfl,(Below.refl _ _).alloc (Nat.le_refl _) _⟩
  have d6:decide (127<v)=false:=by simpa using p6
  rw [fault_good (by omega)]
  clear p1 p2
  by_cases p7:n≤1000
  case pos=>
    rw [if_pos p7]
    go_enter Tryz.func10,Tryz.ntmps10
    go_wp2_with fail
    refine (H1.out _).mono ?_
    rintro e w ⟨rfl,rfl⟩
    go_wp2_with fail
    refine (H2.out _).mono ?_
    rintro e w ⟨rfl,rfl⟩
    go_wp2_with fail
    go_ret
    exact ⟨rfl,(Below.refl _ _).alloc (Nat.le_refl _) _⟩
  case neg=>
    rw [if_neg p7]
    go_enter Tryz.func10,Tryz.ntmps10
    go_wp2_with fail
    refine (H1.out _).mono ?_
    rintro e w ⟨rfl,rfl⟩
    go_wp2_with fail
    refine (H2.out _).mono ?_
    rintro e w ⟨rfl,rfl⟩
    go_wp2_with fail
    go_ret
    exact ⟨rfl,(Below.refl _ _).alloc (Nat.le_refl _) _⟩
end Go.Proofs.YtigibpcpnkdmcaaGreatDoor.RPack
