/-
 Rows of numbers in memory; an error of a number held against nil; what the library's Sort does to a row of numbers.
-/
import Derived.Test.YtpiamlgmadnepaaGreatMathAll
import Derived.Test.YtpiamlgmadnepaaGreatShelfP
import Derived.Test.YtpiamlgmadnepaaGreatRows
import Derived.WalkKit
import Derived.ProofKit
import Derived.OpenShut
import Derived.ChangeOld
import Derived.Below
import Derived.Deep.QuietTactic
import Derived.BigQuiet
import Derived.Laws.AppendOwnNone
import Derived.Sort.OwnSortedInts
import Derived.WalkSmall
import Derived.WalkSpells
import Derived.LoopTactic
import Derived.Deep.AppendLies
import Derived.Deep.LoopGhost
open Go.Proofs.Tryz
set_option linter.unusedVariables false
namespace Go.Proofs.YtpiamlgmadnepaaGreat.Gaps
open Go.ChangeShapes Go.WideShapes Go.ChangeAt Go.RowKit Go.Sort Go.Shelf Mem GM
def errv (e:Nat):Value:=if e=0 then .nilIface else .iface 101 (.int .i64 (e:Int))
theorem ξ4:errv 0=.nilIface:=rfl
theorem ξi {e:Nat} (h:e≠0):errv e=.iface 101 (.int .i64 (e:Int)):=by simp [errv,h]
theorem ξr (f:Nat) (w:World):(binOp .neq 25 (errv f) .nilIface).run prog w=.ok (.bool (!decide (f=0))) w:=by
 by_cases p:f=0
 ·rw [p,ξ4];simp [go_sem]
 ·rw [ξi p];simp [go_sem,p]
theorem ξq (f:Nat) (o1:Operand) (w:World):(eqGuard .neq 25 o1 (.const .nilIface) (errv f) .nilIface).run prog w=.ok () w:=by
 by_cases p:f=0
 ·rw [p,ξ4];unfold eqGuard;simp
 ·rw [ξi p];simp [go_sem]
theorem info3:(prog.info? 3).map (fun i=>(i.zero,i.size,i.bytes))=some (some (.int .i64 0),1,8):=by kernel_rfl
theorem ξL {y:Int} (h0:-9223372036854775808<=y) (h1:y<=9223372036854775807):(Lit.int .i64 y).wf=true:=WalkArith.wf_i64 (by omega)
theorem ξk {w:World} {p:Addr} {v:Value} (h:w.cell? p=some v) (o:Obj):(w.alloc o).cell? p=some v:=(((Ξp _ _).alloc (Ξo _) o).cell (Ξq w p h)).trans h
theorem past {bs cs:List Nat} {a b c:World} (h:Only bs a b) (k:Only cs b c) (hc:∀ j∈cs,j∈bs∨a.heap.size<=j):Only bs a c:=
 ⟨k.1.trans h.1,k.2.1.trans h.2.1,k.2.2.1.trans h.2.2.1,Nat.le_trans h.2.2.2.1 k.2.2.2.1,fun i hi hb=>(k.2.2.2.2 i (Ξn hi h.2.2.2.1) (fun hh=>by
  rcases hc i hh with h1 | h1
  ·exact hb h1
  ·omega)).trans (h.2.2.2.2 i hi hb)⟩
theorem ξu {w:World} {base base' e size n:Nat} {v:Value} {xs:List Value} (h:w.ownsRow base e size v n xs) (hb:base'<=base):w.ownsRow base' e size v n xs:=by
 refine ⟨h.1,?_⟩
 rcases h.2 with h | ⟨g,cap,cur,e,hg,r⟩
 ·exact .inl h
 ·exact .inr ⟨g,cap,cur,e,Nat.le_trans hb hg,r⟩
def ic (L:List Int):List Value:=L.map (Value.int .i64)
theorem ξK (L:List Int):(ic L).length=L.length:=by simp [ic]
theorem ξ2G (L K:List Int):ic (L++K)=ic L++ic K:=by simp [ic]
theorem ξ2F (L:List Int) (j:Nat) (h:j<L.length):(ic L)[j]?=some (.int .i64 (L.getD j 0)):=by
 simp [ic,List.getD_eq_getElem?_getD,List.getElem?_eq_getElem h]
def Ints (w:World) (a:Option Addr) (L:List Int):Prop:=∀ j,j<L.length->∃ b o,a=some ⟨b,o,none⟩/\w.cell? ⟨b,o+j,none⟩=some (.int .i64 (L.getD j 0))
def IArg (w:World) (a:Option Addr) (n:Nat) (L:List Int):Prop:=Ints w a L/\L.length=n/\n<=9223372036854775807
theorem IArg.below {w w':World} {a:Option Addr} {n:Nat} {L:List Int} (h:IArg w a n L) (hb:Below w.heap.size w w'):IArg w' a n L:=by
 refine ⟨fun j hj=>?_,h.2⟩
 obtain ⟨b,o,e,hc⟩:=h.1 j hj;exact ⟨b,o,e,(hb.cell (p:=⟨b,o+j,none⟩) (Ξq w ⟨b,o+j,none⟩ hc)).trans hc⟩
theorem IArg.nil (w:World) (a:Option Addr):IArg w a 0 []:=⟨fun j h=>absurd h (by simp),rfl,by omega⟩
theorem IArg.at {w:World} {a:Option Addr} {n:Nat} {L:List Int} (h:IArg w a n L) (hn:0<n):∃ b o,a=some ⟨b,o,none⟩/\∀ j,j<n->w.cell? ⟨b,o+j,none⟩=some (.int .i64 (L.getD j 0)):=by
 obtain ⟨b,o,e,_⟩:=h.1 0 (by have:=h.2.1;omega)
 refine ⟨b,o,e,fun j hj=>?_⟩
 obtain ⟨b',o',e',hc⟩:=h.1 j (by have:=h.2.1;omega)
 rw [e,Option.some.injEq,Addr.mk.injEq] at e';obtain ⟨rfl,rfl,_⟩:=e';exact hc
theorem ξo {w:World} {base n:Nat} {v:Value} {L:List Int} (h:w.ownsRow base 3 1 v n (ic L)) (hn:n<=9223372036854775807) :
 ∃ a cap,v=.slice a n cap/\IArg w a n L/\(a=none->n=0/\cap=0)/\n<=cap/\∀ ad,a=some ad->∃ g,ad=⟨g,0,none⟩/\base<=g/\g<w.heap.size:=by
 have hl:L.length=n:=by have:=h.1;rw [ξK] at this;omega
 rcases h.2 with ⟨rfl,rfl⟩ | ⟨g,cap,cur,rfl,hg,hb,hc,hm,hs,ht⟩
 ·have:L=[]:=Ξk hl
  subst this;exact ⟨none,0,rfl,IArg.nil _ _,fun _=>⟨rfl,rfl⟩,Ξo _,fun ad e=>by simp at e⟩
 ·refine ⟨_,cap,rfl,⟨fun j hj=>⟨g,0,rfl,?_⟩,hl,hn⟩,fun e=>by simp at e,hc,fun ad e=>⟨g,by simpa using e.symm,hg,lt_of_block hb⟩⟩
  rw [Nat.zero_add,h.cellAt j (by omega),ξ2F L j hj]
theorem ξD {w:World} {base n g:Nat} {v:Value} {xs:List Value} (h:w.ownsRow base 3 1 v n xs) (hg:v.ownBlock=some g):∃ cs,w.heap[g]?=some (.cells cs 3 (0,0)):=by
 rcases h.2 with ⟨rfl,_⟩ | ⟨g',cap,cur,rfl,_,hb,_⟩
 ·simp [Value.ownBlock] at hg
 ·simp [Value.ownBlock] at hg
  subst hg;exact ⟨cur,hb⟩
theorem ξ1G (v:Value) (base n:Nat) (L:List Int) (w:World) (h:w.ownsRow base 3 1 v n (ic L)) (hb:n<=1000000) :
 Calls prog 74 #[v] w fun e w'=>e=.returned (.tuple #[])/\w'.ownsRow base 3 1 v n (ic (L.mergeSort fun x y=>decide (x<=y)))/\w.grownBy w' v.ownBlock:=by
 have hl:L.length=n:=by have:=h.1;rw [ξK] at this;omega
 rcases h.2 with ⟨rfl,rfl⟩ | ⟨g,cap,cur,rfl,hg,hbl,hc,hm,hs,ht⟩
 ·have:L=[]:=Ξk hl
  subst this;refine (AnyM.slices_Sort_int_none Tryz.sortA none 0 w).mono ?_
  rintro e w' ⟨rfl,rfl⟩;exact ⟨rfl,by simpa [ic] using Ξr _ _ _ _,World.grownBy.refl _ _⟩
 ·subst hl;refine (AnyM.slices_Sort_int Tryz.sortA g 0 cap L w (holds_of_blockI hbl (by simpa [ic] using ht)) (lt_of_block hbl) (by omega)).mono ?_
  rintro e w' ⟨rfl,n,os,rfl⟩;exact ⟨rfl,ownsRow_sortedI (by simp) hg hbl hc hm hs,grownBy_sortedI _⟩
end Go.Proofs.YtpiamlgmadnepaaGreat.Gaps
