/-
  What errors.Is returns where the target is an error of errors.New: of nil, of that error, of a number of type api.Errno.
-/
import Derived.Test.YtbadpjgiogghdaaGreatDoorRows
import Derived.WalkKit
import Derived.ProofKit
import Derived.OpenShut
import Derived.WalkSpells
import Derived.LaidEql
import Derived.LaidEqlPtr
import Derived.Stop.Asserts
import Derived.RowKitTokens
import Derived.LaidLaws
import Derived.LaidHandle
import Derived.Outline
import Derived.Test.YtbadpjgiogghdaaGreatDoorMemP
namespace Go.Proofs.YtbadpjgiogghdaaGreatDoor.Told
open Go.ChangeShapes Go.WideShapes Go.ChangeAt Go.RowKit Go.Extern Go.Extern.Stop Go.Stop Go.Proofs.YtbadpjgiogghdaaGreatDoor.Mem
set_option linter.unusedVariables false

theorem isTypeOf (v:Value) (w:World):(ReflectliteType.typeOf #[.iface 298 v]).run Tryz.prog w=.ok (.iface 182 (.agg #[.pointer (some ⟨10,298,none⟩)])) w:=by kernel_rfl
theorem isComparable (w:World):((ReflectliteType.method fun t=>do Rtype.noPackHeld "Comparable" t;Functor.map (fun a=>Value.bool a.comparable) (typeInfo t)) #[.agg #[.pointer (some ⟨10,298,none⟩)]]).run Tryz.prog w=.ok (.bool true) w:=by kernel_rfl
theorem isMethodComparable (h:Value) (w:World):(Go.method 432 182 (.agg #[h]) "Comparable").run Tryz.prog w=.ok (263,.agg #[h]) w:=by kernel_rfl
theorem isComp:(Tryz.prog.info? 298).map (·.comparable)=some true:=by kernel_rfl
theorem isSize:(Tryz.prog.info? 300).map (·.size)=some 1:=by kernel_rfl
theorem noIs (v:Value) (xT:TypeId) (w:World):(Instr.typeAssert (.iface 115 v) xT 184 true).run Tryz.prog w=.ok (.tuple #[.nilIface,.bool false]) w:=run_typeAssert_lacksB Tryz.underlying184 (by kernel_rfl) (by kernel_rfl) v xT w
theorem noUn (v:Value) (xT:TypeId) (w:World):(Instr.typeAssert (.iface 115 v) xT 187 true).run Tryz.prog w=.ok (.tuple #[.nilIface,.bool false]) w:=run_typeAssert_lacksB Tryz.underlying187 (by kernel_rfl) (by kernel_rfl) v xT w
theorem noUns (v:Value) (xT:TypeId) (w:World):(Instr.typeAssert (.iface 115 v) xT 188 true).run Tryz.prog w=.ok (.tuple #[.nilIface,.bool false]) w:=run_typeAssert_lacksB Tryz.underlying188 (by kernel_rfl) (by kernel_rfl) v xT w
set_option maxRecDepth 1000000 in
theorem is_nil (v:Value) (w:World) :
    Calls Tryz.prog 51 #[.nilIface,.iface 298 v] w fun e w'=>e=.returned (.bool false)∧w'=w:=by
  have h:∀ d:Nat,(Op.equalIn (d+1) 46 .nilIface (.iface 298 v)).run Tryz.prog w=.ok false w:=fun d=>by
    simp [Op.equalIn,run_underlying Tryz.underlying46]
  have hq:(binOp .eql 46 .nilIface (.iface 298 v)).run Tryz.prog w=.ok (.bool false) w:=by
    simp only [binOp]
    simp [Op.equal,Op.maxDepth,h 9999]
  clear h
  go_enter Tryz.func51,Tryz.ntmps51
  go_wp2
  go_ret
  exact ⟨rfl,rfl⟩
set_option maxRecDepth 1000000 in
theorem is_same (a:Addr) (w:World) :
    Calls Tryz.prog 78 #[.iface 298 (.pointer (some a)),.iface 298 (.pointer (some a)),.bool true] w fun e w'=>e=.returned (.bool true)∧w'=w:=by
  obtain ⟨i,hi,hcmp⟩:=Option.map_eq_some_iff.1 isComp
  obtain ⟨j,hj,hjs⟩:=Option.map_eq_some_iff.1 isSize
  have heq:=run_eql_iface_ptr_same (P:=Tryz.prog) w a Tryz.underlying46 Tryz.underlying298 hi hcmp hj
  go_enter Tryz.func78,Tryz.ntmps78
  go_wp2
  refine wp_loop_rounds 1 ?_
  rw [rounds_succ]
  go_wp2
  go_ret
  exact ⟨rfl,rfl⟩
set_option maxRecDepth 1000000 in
theorem is_other (n:Int) (v:Value) (w:World) :
    Calls Tryz.prog 78 #[.iface 115 (.int .i64 n),.iface 298 v,.bool true] w fun e w'=>e=.returned (.bool false)∧w'=w:=by
  have hty:=run_eql_iface_types (P:=Tryz.prog) 115 298 (.int .i64 n) v Tryz.underlying46 (by decide) w
  have n1:=noIs
  have n2:=noUn
  have n3:=noUns
  go_enter Tryz.func78,Tryz.ntmps78
  go_wp2
  refine wp_loop_rounds 1 ?_
  rw [rounds_succ]
  go_wp2
  go_ret
  exact ⟨rfl,rfl⟩
set_option maxRecDepth 1000000 in
theorem is_bad (a:Addr) (w:World) :
    Calls Tryz.prog 51 #[.iface 298 (.pointer (some a)),.iface 298 (.pointer (some a))] w fun e w'=>e=.returned (.bool true)∧w'=w:=by
  have h1:=@run_callFunc_extern Tryz.prog 77 _ ReflectliteType.typeOf Tryz.func77 (by kernel_rfl) (by kernel_rfl) (by kernel_rfl) (by kernel_rfl)
  have h2:=@run_callFunc_extern Tryz.prog 263 _ (ReflectliteType.method fun t=>do Rtype.noPackHeld "Comparable" t;pure (.bool (← typeInfo t).comparable)) Tryz.func263 (by kernel_rfl) (by kernel_rfl) (by kernel_rfl) (by kernel_rfl)
  have t1:=isTypeOf
  have m1:=isMethodComparable
  have c1:=isComparable
  have S:=hidden (is_same a w)
  go_enter Tryz.func51,Tryz.ntmps51
  go_wp2_with (go_at_call 78;refine S.out.mono ?_;rintro e w1 ⟨rfl,rfl⟩)
  go_ret
  exact ⟨rfl,rfl⟩
set_option maxRecDepth 1000000 in
theorem is_err (n:Int) (v:Value) (w:World) :
    Calls Tryz.prog 51 #[.iface 115 (.int .i64 n),.iface 298 v] w fun e w'=>e=.returned (.bool false)∧w'=w:=by
  have h1:=@run_callFunc_extern Tryz.prog 77 _ ReflectliteType.typeOf Tryz.func77 (by kernel_rfl) (by kernel_rfl) (by kernel_rfl) (by kernel_rfl)
  have h2:=@run_callFunc_extern Tryz.prog 263 _ (ReflectliteType.method fun t=>do Rtype.noPackHeld "Comparable" t;pure (.bool (← typeInfo t).comparable)) Tryz.func263 (by kernel_rfl) (by kernel_rfl) (by kernel_rfl) (by kernel_rfl)
  have t1:=isTypeOf
  have m1:=isMethodComparable
  have c1:=isComparable
  have S:=hidden (is_other n v w)
  go_enter Tryz.func51,Tryz.ntmps51
  go_wp2_with (go_at_call 78;refine S.out.mono ?_;rintro e w1 ⟨rfl,rfl⟩)
  go_ret
  exact ⟨rfl,rfl⟩
end Go.Proofs.YtbadpjgiogghdaaGreatDoor.Told
