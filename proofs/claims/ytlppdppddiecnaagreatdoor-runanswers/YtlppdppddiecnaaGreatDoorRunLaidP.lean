/-
  What the condition on the variables (what the program's text lays, and the shape of every world) gives package run's walks; and a world that meets it.
-/
import Derived.Test.YtlppdppddiecnaaGreatDoorRunIP
import Derived.Test.YtlppdppddiecnaaGreatDoorRows
import Derived.ChangeSame
import Derived.ChangeVars
import Derived.JoinedOf
import Derived.RowKit
import Derived.RowKitTokens
import Derived.LaidLaws
import Derived.LaidHandle
import Derived.Lay
import Derived.Stop.LaidErr
import Derived.Stop.Joined
import Derived.Shelf.Vars
namespace Go.Proofs.YtlppdppddiecnaaGreatDoor.Laid
open Go.ChangeShapes Go.WideShapes Go.RowKit
set_option linter.unusedVariables false

abbrev hand:List (String×DataW Unit):= [("errors.errorType",Rows.laid_errors_errorType)]
abbrev plain:List (String×DataW Unit):= [("math/bits.deBruijn32tab",Rows.laid_math_bits_deBruijn32tab), ("math/bits.deBruijn64tab",Rows.laid_math_bits_deBruijn64tab), ("internal/strconv.uint64pow10",Rows.laid_internal_strconv_uint64pow10), ("unicode/utf8.acceptRanges",Rows.laid_unicode_utf8_acceptRanges), ("strconv.ErrRange",Rows.laid_strconv_ErrRange), ("strconv.ErrSyntax",Rows.laid_strconv_ErrSyntax), ("choirloft/run.errBad",Rows.laid_choirloft_run_errBad), ("unicode/utf8.first",Rows.laid_unicode_utf8_first)]
abbrev list:List (String×DataW Unit):= [("math/bits.deBruijn32tab",Rows.laid_math_bits_deBruijn32tab), ("math/bits.deBruijn64tab",Rows.laid_math_bits_deBruijn64tab), ("internal/strconv.uint64pow10",Rows.laid_internal_strconv_uint64pow10), ("unicode/utf8.acceptRanges",Rows.laid_unicode_utf8_acceptRanges), ("errors.errorType",Rows.laid_errors_errorType), ("strconv.ErrRange",Rows.laid_strconv_ErrRange), ("strconv.ErrSyntax",Rows.laid_strconv_ErrSyntax), ("choirloft/run.errBad",Rows.laid_choirloft_run_errBad), ("unicode/utf8.first",Rows.laid_unicode_utf8_first)]
theorem own:ownKnob Tryz.prog.godebug=none:=by kernel_rfl
theorem hands:(list.filter fun x=>x.2.handleName?.isSome)=hand:=by kernel_rfl
theorem plains:(list.filter fun x=>x.2.handleName?.isNone)=plain:=by kernel_rfl
theorem parts {W:World} (h:laidMetH Tryz.prog list W):laidMet Tryz.prog plain W∧handlesMet Tryz.prog hand W:=by
  unfold laidMetH at h
  rw [hands,plains] at h
  exact h
theorem et : Tryz.prog.globalNamed "errors.errorType"=some 1:=by kernel_rfl
theorem rt:(Tryz.prog.cutTypes.find? (·.1 == "internal/reflectlite.rtype")).map (·.2)=some 175:=by kernel_rfl
theorem oneRow:((List.range 329).filter fun t=>Tryz.prog.rowNamed t [101,114,114,111,114])=[38]:=by kernel_rfl
theorem size:Tryz.prog.types.size=329:=by kernel_rfl

theorem handle_of {W:World} (h:handlesMet Tryz.prog hand W):W.cell? ⟨1,0,none⟩=some (.iface 175 (.agg #[.pointer (some ⟨10,38,none⟩)])):=by
  obtain ⟨name,u,ty,e1,e2,e3,e4,e5⟩:=h _ (List.mem_singleton.2 rfl)
  have en:name=[101,114,114,111,114]:=(Option.some.inj e1).symm
  subst en
  obtain rfl:=Option.some.inj (rt.symm.trans e2)
  have hm:ty∈(List.range 329).filter fun t=>Tryz.prog.rowNamed t [101,114,114,111,114]:=List.mem_filter.2 ⟨List.mem_range.2 (by rw [← size];exact e3),e4⟩
  rw [oneRow] at hm
  obtain rfl:=List.mem_singleton.1 hm
  have hh:typeHandle Tryz.prog 38=.pointer (some ⟨10,38,none⟩):=by kernel_rfl
  rw [hh] at e5
  simpa using World.var?_cell et e5 0
theorem named:∀ u,Tryz.prog.typeName? 3 u = some "*errors.errorString"→u=295:=fun u h=>typeName_ptr_named (nm := "errors.errorString") (tp:=295) (by kernel_rfl) (by kernel_rfl) (by decide +kernel) u h
theorem tens:Rows.laid_internal_strconv_uint64pow10=(Lib.tabData .u64 Lib.pow10Tab:DataW Unit):=by kernel_rfl
theorem gw_of_laid {W:World} (h:laidMetH Tryz.prog list W) (hs:W.ShapedOpen Tryz.prog):∃ ea,Run.GW ea W:=by
  obtain ⟨hp,hh⟩:=parts h
  have h2:=hp.tail.tail
  have h4:=h2.tail.tail
  have h6:=h4.tail.tail
  obtain ⟨a7,s7,v7,_⟩:=laid_sentinel h4 (g:=7) (ti:=38) (tp:=295) (te:=297) (ts:=9) (by kernel_rfl) (by kernel_rfl) Tryz.underlying38 named Tryz.underlying295 Tryz.underlying297 rfl rfl Tryz.underlying9 (by kernel_rfl) (by kernel_rfl)
  obtain ⟨a6,s6,v6,_⟩:=laid_sentinel h4.tail (g:=6) (ti:=38) (tp:=295) (te:=297) (ts:=9) (by kernel_rfl) (by kernel_rfl) Tryz.underlying38 named Tryz.underlying295 Tryz.underlying297 rfl rfl Tryz.underlying9 (by kernel_rfl) (by kernel_rfl)
  obtain ⟨a0,s0,v0,_⟩:=laid_sentinel h6 (g:=0) (ti:=38) (tp:=295) (te:=297) (ts:=9) (by kernel_rfl) (by kernel_rfl) Tryz.underlying38 named Tryz.underlying295 Tryz.underlying297 rfl rfl Tryz.underlying9 (by kernel_rfl) (by kernel_rfl)
  refine ⟨a0,?_,handle_of hh,?_,?_,⟨295,.pointer (some a6),?_⟩,⟨295,.pointer (some a7),?_⟩,?_⟩
  · have:=World.var?_cell (g:=0) (by kernel_rfl) v0 0
    rw [Run.badV]
    simpa using this
  · exact cell_of_shapedOpen_int (g:=2) (t:=3) (zero:=#[.int .i64 0]) hs (of_decide_eq_true (by kernel_rfl)) (by kernel_rfl) rfl (by kernel_rfl) (by kernel_rfl) Tryz.underlying3
  · rw [tens] at h2
    exact Lib.tabIs_of_head (g:=3) (t:=262) (e:=124) (n:=20) (by kernel_rfl) (by kernel_rfl) Tryz.underlying262 Tryz.underlying124 (by kernel_rfl) (by kernel_rfl) h2
  · simpa using World.var?_cell (g:=6) (by kernel_rfl) v6 0
  · simpa using World.var?_cell (g:=7) (by kernel_rfl) v7 0
  · have h9:(((begin Tryz.prog (fun _ _=>0) default).world.heap[9]?).bind Obj.row?).isSome=true:=by kernel_rfl
    obtain ⟨⟨z,t⟩,hz⟩:=Option.isSome_iff_exists.1 h9
    obtain ⟨cs,hc,_⟩:=hs.1 9 z t (of_decide_eq_true (by kernel_rfl)) hz
    have:=(Array.getElem?_eq_some_iff.1 hc).1
    omega

noncomputable def start (os : Os) : World := { World.holding Tryz.prog os ⟨#[], #[], []⟩ with heap := (World.holding Tryz.prog os ⟨#[], #[], []⟩).heap.modify 1 fun
      | .cells _ t frozen=>.cells #[.iface 175 (.agg #[.pointer (some ⟨10,38,none⟩)])] t frozen
      | o=>o }
noncomputable def world (os:Os):World:=(start os).layVars Tryz.prog plain
theorem world_os (os:Os):(world os).os=os:=World.layVars_os _ _ _
theorem names:(plain.filter fun x=>(plain.map (·.1)).contains x.1)=plain:=by kernel_rfl
theorem nonames:(plain.filter fun x=>!(plain.map (·.1)).contains x.1)=[]:=by kernel_rfl
theorem heap_of (w:World) (args:Array Value):(w.forCall (fun _ _=>0) ⟨#[],args,[]⟩).memory.heap=w.heap:=rfl
theorem world_met (os:Os) (args:Array Value):laidMetH Tryz.prog list ((world os).forCall (fun _ _=>0) ⟨#[],args,[]⟩).memory:=by
  refine laidMetH_of_parts ?_ (by rw [hands];kernel_rfl)
  rw [plains]
  refine laidMet_layVars (w0:=start os) (plain.map (·.1)) [] ((heap_of _ _).trans (congrArg World.heap (congrArg (World.layVars Tryz.prog (start os)) names.symm))) (by rw [names];kernel_rfl) (by rw [names];kernel_rfl) (by rw [nonames];exact LaidIn.none)
end Go.Proofs.YtlppdppddiecnaaGreatDoor.Laid

