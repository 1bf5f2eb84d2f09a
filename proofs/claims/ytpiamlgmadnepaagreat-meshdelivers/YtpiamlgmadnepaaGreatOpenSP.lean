/-
 What the proof needs.
-/
import Derived.Test.YtpiamlgmadnepaaGreatMemP
import Derived.Test.YtpiamlgmadnepaaGreatRows
import Derived.Deep.Matrix
import Derived.ProofKit
import Derived.OpenShut
import Derived.ChangeOld
import Derived.Lib.SmallJoins
open Go.Proofs.Tryz
set_option linter.unusedVariables false
set_option maxRecDepth 100000
namespace Go.Proofs.YtpiamlgmadnepaaGreat.Open
open ChangeShapes WideShapes ChangeAt RowKit Mem
theorem cells3:prog.cellsOf 3=1:=by kernel_rfl
theorem B0f:prog.cellsOf 35=1:=by kernel_rfl
def Row1(w:World)(a:Option Addr)(l:Nat):Prop:=l<=9223372036854775807/\∀i,i<l->∃b o x,a=some ⟨b,o,none⟩/\b<w.heap.size/\w.cell? ⟨b,o+i,none⟩=some (.int .i64 x)
def B06(w:World)(a:Option Addr)(len:Nat)(Z:Nat->Int):Prop:=
 len<=9223372036854775807/\∀j,j<len->∃b o a' l' c',a=some ⟨b,o,none⟩/\b<w.heap.size/\w.cell? ⟨b,o+j,none⟩=some (.slice a' l' c')/\Row1 w a' l'
theorem ξbf{H:Type}{enc:TypeId×Value->H}{W:World}{b0:Nat}{v:Value}{d:DataW H}{p:List MemPlace}(hv:Value.okWide prog W .any b0 22 v)(h:DataW.Trod enc prog W 0 (λ_=>true) true 22 v d p) :
 ∃b len cap Z,v=.slice b len cap/\B06 W b len Z:=by
 obtain⟨a,l,c,rfl⟩:=okWide_slice underlying22 hv;obtain⟨ai,hf⟩:=h;rcases Go.Deep.open_int_rows underlying22 underlying35 underlying3 B0f cells3 hf with⟨hcs,_⟩|⟨x,len,cap,A,L,C,Z,hcs,_,hl,hm,_,hx⟩
 ·simp only[Value.cells,List.cons.injEq,and_true]at hcs;exact⟨none,0,0,λ_=>0,hcs,by omega,λj hj=>absurd hj (by omega)⟩
 ·simp only[Value.cells,List.cons.injEq,and_true]at hcs;refine⟨some x,len,cap,λ_=>0,hcs,by unfold maxLen at hm;omega,λj hj=>?_⟩;obtain⟨b,aj,ah⟩:=x;have ae:ah=none:=by have g:=(hx 0 (by omega)).1;simpa[Addr.add]using World.cell?_spot g
  subst ae;obtain⟨g0,g1,g2,g3,_,g5,g6⟩:=hx j (by omega);rw[add_plain]at g0;refine⟨b,aj,A j,L j,C j,rfl,Ξq W _ g0,g0,by unfold maxLen at g2;omega,λi hi=>?_⟩;cases ha:A j with
  | none=>have:=g5 ha;omega
  | some a'=>
    obtain⟨_,gc⟩:=g6 a' ha;obtain⟨b',o',s'⟩:=a';have am:s'=none:=by have g:=gc 0 (by omega);simpa[Addr.add]using World.cell?_spot g
    subst am;have gi:=gc i (by omega);rw[add_plain]at gi;exact⟨b',o',_,rfl,Ξq W _ gi,gi⟩
end Go.Proofs.YtpiamlgmadnepaaGreat.Open
