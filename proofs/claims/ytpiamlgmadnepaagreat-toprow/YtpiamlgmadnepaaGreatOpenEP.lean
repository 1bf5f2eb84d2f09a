/-
 Rows of edges and of numbers that came in, opened. Of data alone; no walk.
-/
import Derived.Test.YtpiamlgmadnepaaGreatTreeAll
import Derived.Deep.Slices
import Derived.Lib.SmallJoins
set_option linter.unusedVariables false
set_option maxRecDepth 100000
namespace Go.Proofs.YtpiamlgmadnepaaGreat.Open
open Go.ChangeShapes Go.WideShapes Go.ChangeAt Go.RowKit Mem TM Tree
theorem cells3:Tryz.prog.cellsOf 3=1:=by kernel_rfl
theorem ξ9U {H:Type} {enc:TypeId×Value->H} {W:World} {b0:Nat} {v:Value} {d:DataW H} {p:List MemPlace} (hv:Value.okWide Tryz.prog W .any b0 35 v) (h:DataW.Trod enc Tryz.prog W 0 (fun _=>true) true 35 v d p) :
 ∃ b len cap l,v=.slice b len cap/\IArg W b len l:=by
 obtain ⟨a,l,c,rfl⟩:=okWide_slice Tryz.underlying35 hv;obtain ⟨fuel,hf⟩:=h;rcases open_ints Tryz.underlying35 Tryz.underlying3 cells3 hf with ⟨hcs,_⟩ | ⟨x,len,cap,zs,hcs,_,hl,hm,hz,_,hcell,hwz⟩
 ·simp only [Value.cells,List.cons.injEq,and_true] at hcs
  exact ⟨none,0,0,[],hcs,IArg.nil _ _⟩
 ·simp only [Value.cells,List.cons.injEq,and_true] at hcs
  have hzl:zs.length=cap:=by simpa using hz
  refine ⟨some x,len,cap,zs.take len,hcs,fun j hj=>?_,by rw [List.length_take];omega,by unfold maxLen at hm;omega⟩
  rw [List.length_take] at hj;obtain ⟨b,o,rfl,hc⟩:=ints_at hcell (by omega)
  have:=hc j (by omega)
  refine ⟨b,o,rfl,?_⟩
  rw [this];unfold dg;simp only [List.getD_eq_getElem?_getD]
  rw [List.getElem?_take,if_pos (by omega),List.getElem?_eq_getElem (by omega)]
  rfl
end Go.Proofs.YtpiamlgmadnepaaGreat.Open
