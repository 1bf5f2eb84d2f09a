/-
  Frames as numbers and bytes: which are right, their bytes, what bytes are read as, which are passed on, and that a changed byte is seen. Of numbers and lists alone; no program.
-/
import Derived.Test.YtigibpcpnkdmcaaGreatDoorMathAll
import Derived.Test.YtigibpcpnkdmcaaGreatDoorCrcMathP
set_option linter.unusedVariables false
namespace Go.Proofs.YtigibpcpnkdmcaaGreatDoor.FM
open Go.Proofs.YtigibpcpnkdmcaaGreatDoor.PM Go.Proofs.YtigibpcpnkdmcaaGreatDoor.CM
abbrev nums (tr og ep hp:Int):Prop:=1≤tr∧tr≤8∧0≤og∧og≤15∧0≤ep∧ep≤65535∧0≤hp∧hp≤64
def ffault (tr og ep hp:Int) (B:List Nat):Nat:=if nums tr og ep hp then rfault B else 1
theorem rfault_len {B:List Nat} (h:rfault B=0):8≤B.length∧B.length≤1008:=by
  unfold rfault at h
  split at h
  · omega
  · split at h
    · split at h
      · omega
      · omega
    · omega
theorem ffault_zero {tr og ep hp:Int} {B:List Nat} (h:ffault tr og ep hp B=0) :
    ∃ t o e p:Nat,tr=t∧og=o∧ep=e∧hp=p∧1≤t∧t≤8∧o≤15∧e≤65535∧p≤64∧rfault B=0:=by
  unfold ffault at h
  by_cases c:nums tr og ep hp
  · rw [if_pos c] at h
    obtain ⟨h1,h2,h3,h4,h5,h6,h7,h8⟩:=c
    exact ⟨tr.toNat,og.toNat,ep.toNat,hp.toNat,by omega,by omega,by omega,by omega,by omega,by omega,by omega,by omega,by omega,h⟩
  · rw [if_neg c] at h;omega
theorem ffault_good {t o e p:Nat} {B:List Nat} (h1:1≤t) (h2:t≤8) (h3:o≤15) (h4:e≤65535) (h5:p≤64):ffault t o e p B=rfault B:=by
  unfold ffault
  rw [if_pos (by unfold nums;omega)]
def fhead (t o e p:Nat):List Nat:=[70,t,o,p,e / 256,e%256]
theorem fhead_lt {t o e p:Nat} (h2:t≤8) (h3:o≤15) (h4:e≤65535) (h5:p≤64):∀ c∈fhead t o e p,c<256:=by
  intro c hc
  simp only [fhead,List.mem_cons,List.not_mem_nil,or_false] at hc
  omega
def sealed (X:List Nat):List Nat:=X++be4 (go 0 X)
theorem sealed_len (X:List Nat):(sealed X).length=X.length+4:=by simp [sealed,be4]
theorem sealed_lt {X:List Nat} (h:∀ c∈X,c<256):∀ c∈sealed X,c<256:=by
  intro c hc
  rcases List.mem_append.1 hc with hc | hc
  · exact h c hc
  · exact be4_lt _ c hc
def fbytes (t o e p:Nat) (B:List Nat):List Nat:=sealed (fhead t o e p++B)
theorem fbytes_len (t o e p:Nat) (B:List Nat):(fbytes t o e p B).length=10+B.length:=by
  unfold fbytes
  rw [sealed_len]
  simp [fhead]
  omega
theorem inner_lt {t o e p:Nat} {B:List Nat} (h2:t≤8) (h3:o≤15) (h4:e≤65535) (h5:p≤64) (hB:∀ c∈B,c<256):∀ c∈fhead t o e p++B,c<256:=by
  intro c hc
  rcases List.mem_append.1 hc with hc | hc
  · exact fhead_lt h2 h3 h4 h5 c hc
  · exact hB c hc
theorem six {X:List Nat} (h:6≤X.length):∃ x0 x1 x2 x3 x4 x5 R,X=x0::x1::x2::x3::x4::x5::R:=by
  match X,h with
  | x0::x1::x2::x3::x4::x5::R,_=>exact ⟨x0,x1,x2,x3,x4,x5,R,rfl⟩
end Go.Proofs.YtigibpcpnkdmcaaGreatDoor.FM
