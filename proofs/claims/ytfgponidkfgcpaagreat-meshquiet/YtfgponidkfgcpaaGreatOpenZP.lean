/-
  Rows of edges that came in, opened, beside a packet that came in. Of data alone; no walk.
-/
import Derived.Test.YtfgponidkfgcpaaGreatTreeAll
import Derived.Test.YtfgponidkfgcpaaGreatOpenPkP
import Derived.Deep.Slices
import Derived.Lib.SmallJoins
namespace Go.Proofs.YtfgponidkfgcpaaGreat.Open
open Go.ChangeShapes Go.WideShapes Go.ChangeAt Go.RowKit Go.Proofs.YtfgponidkfgcpaaGreat.Mem Go.Proofs.YtfgponidkfgcpaaGreat.TM Go.Proofs.YtfgponidkfgcpaaGreat.Tree
set_option linter.unusedVariables false
theorem cellsMB:Tryz.prog.cellsOf 75=3:=by kernel_rfl
theorem three_list {α:Type} {l:List α} (h:l.length=3):∃ z0 z1 z2,l=[z0,z1,z2]:=by
  match l,h with
  | [z0,z1,z2],_=>exact ⟨z0,z1,z2,rfl⟩
set_option maxRecDepth 100000 in
theorem open_edz {H:Type} {enc:TypeId×Value→H} {W:World} {b0:Nat} {v:Value} {d:DataW H} {p:List MemPlace} (hv:Value.okWide Tryz.prog W .any b0 22 v) (h:DataW.Trod enc Tryz.prog W 0 (fun _=>true) true 22 v d p) :
    ∃ b len cap l,v=.slice b len cap∧EArg W b len l∧len≤cap∧(b=none→len=0∧cap=0):=by
  obtain ⟨a,l,c,rfl⟩:=okWide_slice Tryz.underlying22 hv
  obtain ⟨fuel,hf⟩:=h
  rcases Go.Deep.open_slice Tryz.underlying22 hf with ⟨hcs,_⟩ | ⟨x,len,cap,m,n,D,Pl,hcs,_,hl,hm,hmm,_,hx⟩
  · simp only [Value.cells,List.cons.injEq,and_true] at hcs
    exact ⟨none,0,0,[],hcs,EArg.nil _ _,Nat.le_refl _,fun _=>⟨rfl,rfl⟩⟩
  · simp only [Value.cells,List.cons.injEq,and_true] at hcs
    have hmc:m=cap:=by simpa using hmm
    have each:∀ i,i<m→∃ q:Ed,W.cell? (x.add (i*3))=some (.int .i64 q.a)∧W.cell? (x.add (i*3+1))=some (.int .i64 q.b)∧W.cell? (x.add (i*3+2))=some (.int .i64 q.c):=by
      intro i hi
      obtain ⟨cs',h1,h2⟩:=hx i hi
      rw [cellsMB] at h1
      obtain ⟨_,hlen,hcell⟩:=World.cells?_some h1
      obtain ⟨xs,k,_,_,_,hxl,hfi⟩:=DataW.trod_struct Tryz.underlying75 h2
      obtain ⟨z0,z1,z2,rfl⟩:=three_list hlen
      obtain ⟨y0,y1,y2,rfl⟩:=three_list hxl
      have e0:=hfi 0 _ rfl
      have e1:=hfi 1 _ rfl
      have e2:=hfi 2 _ rfl
      obtain ⟨s,k0,_,_⟩:=DataW.trod_int Tryz.underlying3 e0
      obtain ⟨t,k1,_,_⟩:=DataW.trod_int Tryz.underlying3 e1
      obtain ⟨u,k2,_,_⟩:=DataW.trod_int Tryz.underlying3 e2
      simp [cells3] at k0 k1 k2
      subst k0 k1 k2
      refine ⟨⟨s,t,u⟩,?_,?_,?_⟩
      · have:=hcell 0 (by omega);rw [Go.Deep.add_add] at this;simpa using this
      · have:=hcell 1 (by omega);rw [Go.Deep.add_add] at this;simpa using this
      · have:=hcell 2 (by omega);rw [Go.Deep.add_add] at this;simpa using this
    obtain ⟨F,hF⟩:=@Go.Deep.choose_lt Ed ⟨zz⟩ _ _ each
    refine ⟨some x,len,cap,(List.range len).map F,hcs,⟨fun j hj=>?_,by simp,by unfold maxLen at hm;omega⟩,hl,fun h=>by cases h⟩
    have hj':j<len:=by simpa using hj
    obtain ⟨g0,g1,g2⟩:=hF j (by omega)
    obtain ⟨b,off,spot⟩:=x
    have hspot:spot=none:=by have g:=(hF 0 (by omega)).1;simpa [Addr.add] using World.cell?_spot g
    subst hspot
    have e:((List.range len).map F).getD j zz=F j:=by simp [List.getD_eq_getElem?_getD,hj']
    rw [add_plain] at g0 g1 g2
    rw [e]
    exact ⟨b,off,rfl,g0,by rw [Nat.add_assoc];exact g1,by rw [Nat.add_assoc];exact g2⟩
end Go.Proofs.YtfgponidkfgcpaaGreat.Open
