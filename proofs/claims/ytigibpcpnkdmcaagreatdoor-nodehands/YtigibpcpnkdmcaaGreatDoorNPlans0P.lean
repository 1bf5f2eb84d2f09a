/-
  What the law NodePlans returns. Its condition: package errors' variable errorType is as it was laid.
-/
import Derived.Test.YtigibpcpnkdmcaaGreatDoorNodeMid
import Derived.Test.YtigibpcpnkdmcaaGreatDoorToldP
import Derived.Deep.CutRange
import Derived.Deep.LoopGhost
namespace Go.Proofs.YtigibpcpnkdmcaaGreatDoor.ND
open Go.ChangeShapes Go.WideShapes Go.ChangeAt Go.RowKit Go.Maps Go.Proofs.YtigibpcpnkdmcaaGreatDoor.Mem Go.Proofs.YtigibpcpnkdmcaaGreatDoor.NO
set_option linter.unusedVariables false
theorem below_chg {B:Nat} {w W W':World} {o:Nat→Tg} {n:Nat} (hb:Below B w W) (hs:B≤W.heap.size) (hc:Chg o (mine n) W W') (ho:∀ k,k<B→(o k).n≠n):Below B w W':=by
  obtain ⟨bs,h1,h2,_⟩:=hc
  refine ⟨h1.1.trans hb.os,h1.2.1.trans hb.tape,h1.2.2.1.trans hb.output,Nat.le_trans hb.size h1.2.2.2.1,fun k hk=>?_⟩
  exact (h1.2.2.2.2 k (by omega) (fun hx=>ho k hk (h2 k hx))).trans (hb.block k hk)
structure One (w W:World) (b:Nat) (N:Nd):Prop where
  bel:Below w.heap.size w W
  at':∃ o P,NAt W o 1 b P N∧∀ k,k<w.heap.size→(o k).n=0
theorem One.of_made {w W W':World} {e:Ending} {N:Nd} (hb:Below w.heap.size w W) (h:Made W W' (fun _=>nobody) 1 e N):∃ b,e=.returned (.tuple #[.pointer (some ⟨b,0,none⟩),.nilIface])∧One w W' b N:=by
  obtain ⟨b,rfl,o',P,h1,h2,h3⟩:=h
  have hs:=hb.size
  exact ⟨b,rfl,hb.trans (h3.mono hs),o',P,h1,fun k hk=>by rw [h2 k (by omega)]⟩
theorem One.below {w W W':World} {b:Nat} {N:Nd} (h:One w W b N) (hb:Below W.heap.size W W'):One w W' b N:=by
  obtain ⟨o,P,h1,h2⟩:=h.at'
  exact ⟨h.bel.trans (hb.mono h.bel.size),o,P,h1.below hb,h2⟩
theorem One.arg {w W:World} {b:Nat} {N:Nd} (h:One w W b N) {a:Option Addr} {m:Nat} {K:List Int} (hK:Gaps.IArg w a m K):Gaps.IArg W a m K:=hK.below h.bel
def Planned (w W':World) (b:Nat) (N:Nd) (f:Nat) (N':Nd):Prop:=(f=0→One w W' b N')∧(f≠0→One w W' b N)
theorem One.plan {w W:World} {b:Nat} {N:Nd} (h:One w W b N) (tk pa ep:Int) (a:Option Addr) (m cap:Nat) (K:List Int) (hK:Gaps.IArg w a m K) (hno:a=none→m=0∧cap=0) (hI:SInv N.sb N.ls) (hall:∀ x∈N.sb,x.2.tk=tk) :
    Calls Tryz.prog 5 #[.pointer (some ⟨b,0,none⟩),.int .i64 tk,.int .i64 pa,.slice a m cap,.int .i64 ep] W fun e w'=>e=.returned (errv (pF N tk pa K ep))∧Planned w w' b N (pF N tk pa K ep) (N.plan tk pa K ep):=by
  obtain ⟨o,P,h1,h2⟩:=h.at'
  by_cases hf:pF N tk pa K ep=0
  · refine (plan_ok 1 b o P N tk pa ep a m cap K W (by omega) h1 hI hall (h.arg hK) hno (by
      intro ad e hm
      obtain ⟨b',o',e',hc⟩:=hK.1 0 (by have:=hK.2.1;omega)
      rw [e] at e'
      cases e'
      rw [h2 _ (World.block_lt_of_cell? w ⟨b',o'+0,none⟩ hc)]
      omega) hf).mono ?_
    rintro e w' ⟨rfl,o',P',q1,q2,q3⟩
    rw [hf]
    have hs:=h.bel.size
    exact ⟨rfl,fun _=>⟨below_chg h.bel hs q3 (fun k hk=>by rw [h2 k hk];omega),o',P',q1,fun k hk=>by rw [q2 k (by omega)];exact h2 k hk⟩,fun h=>absurd rfl h⟩
  · refine (plan_bad 1 b o P N tk pa ep a m cap K W h1 (h.arg hK) hf).mono ?_
    rintro e w' ⟨rfl,hb⟩
    exact ⟨rfl,fun h=>absurd h hf,fun _=>h.below hb⟩
theorem One.sub {w W:World} {b:Nat} {N:Nd} (h:One w W b N) (tk mo:Int) (hI:SInv N.sb N.ls) (hls:N.ls<1000000) (hf:sF N tk mo=0) :
    Calls Tryz.prog 6 #[.pointer (some ⟨b,0,none⟩),.int .i64 tk,.int .i64 mo] W fun e w'=>e=.returned (.tuple #[.int .i64 (N.ls+1),.nilIface])∧One w w' b (N.subs tk mo):=by
  obtain ⟨o,P,h1,h2⟩:=h.at'
  refine (sub_ok 1 b o P N tk mo W (by omega) h1 hI hls hf).mono ?_
  rintro e w' ⟨rfl,o',P',q1,q2,q3⟩
  have hs:=h.bel.size
  exact ⟨rfl,below_chg h.bel hs q3 (fun k hk=>by rw [h2 k hk];omega),o',P',q1,fun k hk=>by rw [q2 k (by omega)];exact h2 k hk⟩
def f1 (id tk pa ep:Int):Nat:=if tk<1∨8<tk∨pa < -1∨15<pa∨pa=id∨ep<0∨65535<ep then 1 else 0
def f2 (id tk pa ep:Int) (K:List Int):Nat:=if f1 id tk pa ep=0 then (if K.any (badk id pa) then 1 else 0) else 1
def f3 (id tk pa ep:Int) (K:List Int):Nat:=if f2 id tk pa ep K=0 then (if twc K then 7 else 0) else 1
end Go.Proofs.YtigibpcpnkdmcaaGreatDoor.ND
