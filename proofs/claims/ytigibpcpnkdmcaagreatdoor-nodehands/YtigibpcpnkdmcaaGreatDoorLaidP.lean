/-
  What the rows' condition on package errors' variable errorType gives: its one cell; and a world that meets it.
-/
import Derived.Test.YtigibpcpnkdmcaaGreatDoorRows
import Derived.WalkKit
import Derived.ProofKit
import Derived.ChangeSame
import Derived.ChangeVars
import Derived.JoinedOf
import Derived.RowKit
import Derived.RowKitTokens
import Derived.LaidLaws
import Derived.LaidHandle
import Derived.Stop.Joined
namespace Go.Proofs.YtigibpcpnkdmcaaGreatDoor.Laid
open Go.ChangeShapes Go.WideShapes Go.RowKit
abbrev list:List (String×DataW Unit):= [("errors.errorType",Rows.laid_errors_errorType)]
theorem own:ownKnob Tryz.prog.godebug=none:=by kernel_rfl
theorem et : Tryz.prog.globalNamed "errors.errorType"=some 0:=by kernel_rfl
theorem rt:(Tryz.prog.cutTypes.find? (·.1 == "internal/reflectlite.rtype")).map (·.2)=some 183:=by kernel_rfl
theorem oneRow:((List.range 262).filter fun t=>Tryz.prog.rowNamed t [101,114,114,111,114])=[25]:=by kernel_rfl
theorem size:Tryz.prog.types.size=262:=by kernel_rfl
theorem handle_of_laid {W:World} (h:laidMetH Tryz.prog list W):W.cell? ⟨0,0,none⟩=some (.iface 183 (.agg #[.pointer (some ⟨1,25,none⟩)])):=by
  have h':laidMet Tryz.prog [] W∧handlesMet Tryz.prog list W:=h
  obtain ⟨name,u,ty,e1,e2,e3,e4,e5⟩:=h'.2 _ (List.mem_singleton.2 rfl)
  have en:name=[101,114,114,111,114]:=(Option.some.inj e1).symm
  subst en
  obtain rfl:=Option.some.inj (rt.symm.trans e2)
  have hm:ty∈(List.range 262).filter fun t=>Tryz.prog.rowNamed t [101,114,114,111,114]:=List.mem_filter.2 ⟨List.mem_range.2 (by rw [← size];exact e3),e4⟩
  rw [oneRow] at hm
  obtain rfl:=List.mem_singleton.1 hm
  have hh:typeHandle Tryz.prog 25=.pointer (some ⟨1,25,none⟩):=by kernel_rfl
  rw [hh] at e5
  simpa using World.var?_cell et e5 0
theorem world_met (os : Os) (args : Array Value) : laidMetH Tryz.prog list ((({ World.holding Tryz.prog os ⟨#[], #[], []⟩ with heap := (World.holding Tryz.prog os ⟨#[], #[], []⟩).heap.modify 0 fun
      | .cells _ t frozen=>.cells #[.iface 183 (.agg #[.pointer (some ⟨1,25,none⟩)])] t frozen
      | o=>o }:World)).forCall (fun _ _=>0) ⟨#[],args,[]⟩).memory:=
  laidMetH_of_parts (laidMet_nil _ _) (by kernel_rfl)
end Go.Proofs.YtigibpcpnkdmcaaGreatDoor.Laid
