/-
  What take of package node leaves in memory, where nobody subscribes. Its condition: the node is such as it may be.
-/
import Derived.Test.YtigibpcpnkdmcaaGreatDoorNodeTP
namespace Go.Proofs.YtigibpcpnkdmcaaGreatDoor.ND
open Go.ChangeShapes Go.WideShapes Go.ChangeAt Go.RowKit Go.Maps Go.Proofs.YtigibpcpnkdmcaaGreatDoor.Mem Go.Proofs.YtigibpcpnkdmcaaGreatDoor.NO
set_option linter.unusedVariables false
theorem keep_tk (t:Tr) (y:Int) (p:RM.Pk) (wy:Int×Int):(t.keep y p wy).tk=t.tk∧(t.keep y p wy).ep=t.ep∧(t.keep y p wy).pa=t.pa∧(t.keep y p wy).kids=t.kids:=by
  unfold Tr.keep
  split<;>exact ⟨rfl,rfl,rfl,rfl⟩
theorem kst_next {w1 wr w2:World} {o1 oj:Nat→Tg} {n b:Nat} {P:NP} {lv:Value} {N:Nd} {K:List Int} {f:Nat} {F:List Nat} {j:Nat} (hj:j<K.length) (h2:Ext w1 o1 oj) (h3:Chg o1 (lets n) w1 wr) (hw:Wrote wr w2 oj n b { P with lv:=lv } { N with lt:=if f=0 then (N.lt++downs (K.take j) f F)++[(K.getD j 0,F)] else N.lt++downs (K.take j) f F }):KSt w1 w2 o1 n b P N K f F (j+1):=by
  obtain ⟨o',lv',g1,g2,g3⟩:=hw
  have e:N.lt++downs (K.take (j+1)) f F=if f=0 then (N.lt++downs (K.take j) f F)++[(K.getD j 0,F)] else N.lt++downs (K.take j) f F:=by
    rw [downs_step hj]
    split
    · rw [List.append_assoc]
    · simp
  refine ⟨o',lv',?_,h2.trans g2 h3.size,h3.trans g3 h2⟩
  rw [e]
  exact g1
end Go.Proofs.YtigibpcpnkdmcaaGreatDoor.ND
