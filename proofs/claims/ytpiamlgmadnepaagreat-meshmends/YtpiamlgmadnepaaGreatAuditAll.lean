/-
 AuditMath, AuditA, AuditC, AuditR in one text.
-/
import Derived.Test.YtpiamlgmadnepaaGreatMathAll
import Derived.WalkKit
import Derived.Test.YtpiamlgmadnepaaGreatPackCP
import Derived.Deep.CutRange
import Derived.Deep.LoopGhost
import Derived.Outline
import Derived.RegionTactic
import Derived.Laws.BitsLemmas
import Derived.Deep.AppendLies
set_option linter.unusedVariables false
namespace Go.Proofs.YtpiamlgmadnepaaGreat.AU
open PM
structure Pk where
 s:Int
 t:Int
 l:Int
 q:Int
 st:Bool
 a:Option Addr
 m:Nat
 c:Nat
 L:List Nat
def noPk:Pk:=⟨0,0,0,0,false,none,0,0,[]⟩
def like (p o:Pk):Bool:=decide (p.l=o.l)&&(decide (p.q=o.q)&&(decide (p.st=o.st)&&decide (p.L=o.L)))
def fi (f:Pk->Bool):List Pk->Nat
 | []=>0
 | x::r=>if f x then 0 else fi f r+1
def nxt (S G:List Pk):Nat->Nat
 | 0=>0
 | i+1=>nxt S G i+fi (like (G.getD i noPk)) (S.drop (nxt S G i))+1
def pl (S G:List Pk) (i:Nat):Nat:=nxt S G (i+1) - 1
def hl (S G:List Pk) (i:Nat):Int:=(pl S G (i+1):Int) - (pl S G i:Int) - 1
def hls (S G:List Pk) (k:Nat):List Int:=(List.range k).map fun i=>hl S G i
def cfault (S G:List Pk) (K:Nat):Nat:=if 1000<S.length∨1000<G.length then 4 else if K<G.length then 5 else 0
end Go.Proofs.YtpiamlgmadnepaaGreat.AU
namespace Go.Proofs.YtpiamlgmadnepaaGreat.Audit
open Go.ChangeShapes Go.WideShapes Go.ChangeAt Go.RowKit PM Mem Pack AU
theorem infoPK:(Tryz.prog.info? 38).map (fun i=>(i.zero,i.size,i.bytes))=some (some (.agg #[.int .i64 0,.int .i64 0,.int .i64 0,.int .i64 0,.bool false,.slice none 0 0]),6,64):=by kernel_rfl
def hk (S G:List Pk) (K:Nat):List Int:=if cfault S G K=0 then hls S G (K - 1) else []
def pc (p:Pk):List Value:=[.int .i64 p.s,.int .i64 p.t,.int .i64 p.l,.int .i64 p.q,.bool p.st,.slice p.a p.m p.c]
def flat (X:List Pk):List Value:=X.flatMap pc
theorem ξ18 (p:Pk):(pc p).length=6:=rfl
theorem ξ4a (X Y:List Pk):flat (X++Y)=flat X++flat Y:=by simp [flat]
theorem ξ49 (p:Pk):flat [p]=pc p:=by simp [flat]
theorem flat_get (X:List Pk) (j k:Nat) (hj:j<X.length) (hk:k<6):(flat X)[j*6+k]?=(pc (X.getD j noPk))[k]?:=by
 induction X generalizing j with
 | nil=>simp at hj
 | cons x r ih=>
   have e:flat (x::r)=pc x++flat r:=by simp [flat]
   rw [e];cases j with
   | zero=>rw [Ξt (by rw [ξ18];omega)];simp
   | succ j=>
     rw [List.getElem?_append_right (by rw [ξ18];omega),ξ18,show (j+1)*6+k - 6=j*6+k by omega,ih j (by simpa using hj)]
     simp
theorem ξ3c (p:Pk):∀ u∈pc p,u.oneCell'=true:=by simp [pc,Value.oneCell']
theorem lit6 {w:World} (p:Pk):∀ j u,(pc p)[j]?=some u->(w.alloc (.cells #[.int .i64 p.s,.int .i64 p.t,.int .i64 p.l,.int .i64 p.q,.bool p.st,.slice p.a p.m p.c] 38)).cell? ((⟨w.heap.size,0,none⟩:Addr).add j)=some u:=by
 intro j u hu;rw [Addr.add_lit,World.cell?_alloc_mark,Nat.zero_add,<- hu];exact List.getElem?_toArray
end Go.Proofs.YtpiamlgmadnepaaGreat.Audit
