/-
  A frame that came in, opened: its four numbers, its slice of bytes. Of data alone; no walk.
-/
import Derived.Test.YtbadpjgiogghdaaGreatDoorMemP
import Derived.Test.YtbadpjgiogghdaaGreatDoorRows
import Derived.WalkKit
import Derived.ProofKit
import Derived.OpenShut
import Derived.ChangeOld
import Derived.Below
import Derived.Lib.SmallJoins
namespace Go.Proofs.YtbadpjgiogghdaaGreatDoor.Open
open Go.ChangeShapes Go.WideShapes Go.ChangeAt Go.RowKit Go.Proofs.YtbadpjgiogghdaaGreatDoor.Mem
set_option linter.unusedVariables false

def IsRow (w:World) (a:Option Addr) (len cap:Nat) (zs:List Int):Prop:=
  (a=none∧len=0∧cap=0∧zs=[]) ∨
  ∃ x,a=some x∧len≤cap∧cap≤maxLen∧zs.length=cap∧(∀ i,i<zs.length→w.cell? (x.add i)=some (.int .u8 (zs.getD i 0)))∧∀ n∈zs,(Lit.int .u8 n).wf=true
theorem none_of {w:World} {a:Option Addr} {len cap:Nat} {zs:List Int} (h:IsRow w a len cap zs):a=none→len=0∧cap=0:=by
  rcases h with ⟨_,h0,h1,_⟩ | ⟨x,rfl,_⟩
  · exact fun _=>⟨h0,h1⟩
  · intro e;simp at e
theorem bytes_of {w:World} {a:Option Addr} {len cap:Nat} {zs:List Int} (h:IsRow w a len cap zs):Arg w a len ((zs.take len).map Int.toNat)∧len≤cap:=by
  rcases h with ⟨_,rfl,rfl,rfl⟩ | ⟨x,rfl,h1,h2,h3,h4,h5⟩
  · exact ⟨⟨Bys.nil _ _,rfl,by omega⟩,Nat.le_refl _⟩
  · have hw:∀ n∈zs,0≤n∧n<256:=by
      intro n hn
      have:=bounds_u8 (h5 n hn)
      omega
    refine ⟨⟨⟨?_,?_⟩,by simp;omega,by unfold maxLen at h2;omega⟩,h1⟩
    · intro c hc
      obtain ⟨n,hn,rfl⟩:=List.mem_map.1 hc
      have:=hw n (List.mem_of_mem_take hn)
      omega
    · intro j hj
      have hj':j<len:=by simp at hj;omega
      obtain ⟨b,o,rfl,hc⟩:=ints_at h4 (by omega)
      refine ⟨b,o,rfl,?_⟩
      rw [hc j (by omega)]
      have hz:=hw (zs.getD j 0) (by rw [List.getD_eq_getElem?_getD,List.getElem?_eq_getElem (by omega)];exact List.getElem_mem _)
      have e:((zs.take len).map Int.toNat).getD j 0=(zs.getD j 0).toNat:=by
        simp [List.getD_eq_getElem?_getD,List.getElem?_take_of_lt hj',show j<zs.length by omega]
      rw [e,Int.toNat_of_nonneg hz.1]

theorem cells3:Tryz.prog.cellsOf 3=1:=by kernel_rfl
theorem cells4:Tryz.prog.cellsOf 4=1:=by kernel_rfl
theorem cells5:Tryz.prog.cellsOf 5=1:=by kernel_rfl
theorem five {cs:Array Value} (h:cs.size=5):∃ z0 z1 z2 z3 z4,cs=#[z0,z1,z2,z3,z4]:=by
  obtain ⟨l⟩:=cs
  match l,h with
  | [z0,z1,z2,z3,z4],_=>exact ⟨z0,z1,z2,z3,z4,rfl⟩
theorem five_list {α:Type} {l:List α} (h:l.length=5):∃ z0 z1 z2 z3 z4,l=[z0,z1,z2,z3,z4]:=by
  match l,h with
  | [z0,z1,z2,z3,z4],_=>exact ⟨z0,z1,z2,z3,z4,rfl⟩
theorem open_row {H:Type} {enc:TypeId×Value→H} {W:World} {fuel:Nat} {a:Value} {x:DataW H×List MemPlace} (hf:DataW.trod enc Tryz.prog W 0 (fun _=>true) true fuel 32 [a]=some x) :
    ∃ b len cap zs,a=.slice b len cap∧IsRow W b len cap zs:=by
  rcases open_ints Tryz.underlying32 Tryz.underlying5 cells5 hf with ⟨hcs,_⟩ | ⟨x,l,c,zs,hcs,_,hl,hm,hz,_,hcell,hwz⟩
  · simp only [List.cons.injEq,and_true] at hcs
    exact ⟨none,0,0,[],hcs,.inl ⟨rfl,rfl,rfl,rfl⟩⟩
  · simp only [List.cons.injEq,and_true] at hcs
    exact ⟨some x,l,c,zs,hcs,.inr ⟨x,rfl,hl,hm,by simpa using hz,hcell,hwz⟩⟩
set_option maxRecDepth 100000 in
theorem open_bytes {H:Type} {enc:TypeId×Value→H} {W:World} {b0:Nat} {v:Value} {d:DataW H} {p:List MemPlace} (hv:Value.okWide Tryz.prog W .any b0 32 v) (h:DataW.Trod enc Tryz.prog W 0 (fun _=>true) true 32 v d p) :
    ∃ b len cap zs,v=.slice b len cap∧IsRow W b len cap zs:=by
  obtain ⟨a,l,c,rfl⟩:=okWide_slice Tryz.underlying32 hv
  obtain ⟨fuel,hf⟩:=h
  exact open_row hf
theorem bytesOf5:Tryz.prog.bytesOf 5=1:=by kernel_rfl
set_option maxRecDepth 100000 in
theorem open_bytes_sz {H:Type} {enc:TypeId×Value→H} {W:World} {b0:Nat} {v:Value} {d:DataW H} {p:List MemPlace} (hv:Value.okWide Tryz.prog W .any b0 32 v) (h:DataW.Trod enc Tryz.prog W 0 (fun _=>true) true 32 v d p) :
    ∃ b len cap zs,v=.slice b len cap∧IsRow W b len cap zs∧(cap=0∨∃ es sp,d=.slice es sp∧es.length+sp.length=cap):=by
  obtain ⟨a,l,c,rfl⟩:=okWide_slice Tryz.underlying32 hv
  obtain ⟨fuel,hf⟩:=h
  rcases open_ints Tryz.underlying32 Tryz.underlying5 cells5 hf with ⟨hcs,_⟩ | ⟨x,l',c',zs,hcs,_,hl,hm,hz,hx,hcell,hwz⟩
  · simp only [List.cons.injEq,and_true,Value.cells] at hcs
    exact ⟨none,0,0,[],hcs,.inl ⟨rfl,rfl,rfl,rfl⟩,.inl rfl⟩
  · simp only [List.cons.injEq,and_true,Value.cells] at hcs
    have hz':zs.length=c':=by simpa using hz
    refine ⟨some x,l',c',zs,hcs,.inr ⟨x,rfl,hl,hm,hz',hcell,hwz⟩,.inr ⟨_,_,congrArg Prod.fst hx,?_⟩⟩
    simp only [lits,List.length_map,List.length_take,List.length_drop]
    omega
end Go.Proofs.YtbadpjgiogghdaaGreatDoor.Open

