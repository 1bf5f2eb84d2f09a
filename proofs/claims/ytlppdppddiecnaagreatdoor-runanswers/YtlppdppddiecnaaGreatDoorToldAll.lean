/-
  Told, ToldIs in one text.
-/
import Derived.Test.YtlppdppddiecnaaGreatDoorRows
import Derived.WalkKit
import Derived.ProofKit
import Derived.OpenShut
import Derived.WalkSpells
import Derived.LaidEql
import Derived.RowKitTokens
import Derived.LaidLaws
import Derived.LaidHandle
import Derived.LaidEqlPtr
import Derived.Stop.Asserts
import Derived.Outline
import Derived.Test.YtlppdppddiecnaaGreatDoorMemP
namespace Go.Proofs.YtlppdppddiecnaaGreatDoor.Told
open Go.ChangeShapes Go.WideShapes Go.ChangeAt Go.RowKit Go.Extern
set_option linter.unusedVariables false

theorem ret_bool {a b:Bool} (h:a=b):Ending.returned (.bool a)=.returned (.bool b):=by rw [h]

theorem as_nil (t:Value) (w:World) :
    Calls Tryz.prog 45 #[.nilIface,t] w fun e w'=>e=.returned (.bool false)∧w'=w:=by
  go_enter Tryz.func45,Tryz.ntmps45
  go_wp2
  go_ret
  exact ⟨rfl,rfl⟩

theorem valueOfP (t:Addr) (w:World):(ReflectliteValue.unpack (.iface 110 (.pointer (some t)))).run Tryz.prog w
    = .ok (.agg #[.pointer (some ⟨10,110,none⟩),.pointer (some ⟨w.heap.size,0,none⟩),.int .u64 150]) (w.alloc (.cells #[.pointer (some t)] 110)):=by kernel_rfl
theorem typeP (a:Addr) (w:World):(ReflectliteValue.methodAny (ReflectliteValue.valueError "reflectlite.Value.Type" 0) (fun t _ _ _=>ReflectliteType.toType t) #[.agg #[.pointer (some ⟨10,110,none⟩),.pointer (some a),.int .u64 150]]).run Tryz.prog w
    = .ok (.iface 175 (.agg #[.pointer (some ⟨10,110,none⟩)])) w:=by kernel_rfl
theorem methodKind (h:Value) (w:World):(Go.method 429 175 (.agg #[h]) "Kind").run Tryz.prog w=.ok (245,h) w:=by kernel_rfl
theorem kindP (w:World):((ReflectliteType.abiMethod fun t=>Functor.map (fun a:Nat=>Value.int IntKind.u8 (a:Int)) (Rtype.kind t)) #[.pointer (some ⟨10,110,none⟩)]).run Tryz.prog w=.ok (.int .u8 22) w:=by kernel_rfl
theorem kindE (w:World):((ReflectliteType.abiMethod fun t=>Functor.map (fun a:Nat=>Value.int IntKind.u8 (a:Int)) (Rtype.kind t)) #[.pointer (some ⟨10,107,none⟩)]).run Tryz.prog w=.ok (.int .u8 2) w:=by kernel_rfl
theorem partsP (a:Addr) (w:World):(ReflectliteValue.parts (.agg #[.pointer (some ⟨10,110,none⟩),.pointer (some a),.int .u64 150])).run Tryz.prog w=.ok (some (110,a,150)) w:=by kernel_rfl
theorem isNilP (a p:Addr) (W:World) (ha:W.cell? a=some (.pointer (some p))) :
    (ReflectliteValue.method (ReflectliteValue.valueError "reflectlite.Value.IsNil" 0) ReflectliteValue.isNil #[.agg #[.pointer (some ⟨10,110,none⟩),.pointer (some a),.int .u64 150]]).run Tryz.prog W=.ok (.bool false) W:=by
  show Sem.run Tryz.prog (ReflectliteValue.parts (.agg #[.pointer (some ⟨10,110,none⟩),.pointer (some a),.int .u64 150]) >>= _) W=_
  simp only [Sem.run_bind,partsP,Result.andThen]
  simp [ReflectliteValue.isNil,loadVar,isAgg,underlying,Tryz.underlying110,ha,Result.andThen]
theorem methodElem (h:Value) (w:World):(Go.method 429 175 (.agg #[h]) "Elem").run Tryz.prog w=.ok (259,.agg #[h]) w:=by kernel_rfl
theorem methodImplements (h:Value) (w:World):(Go.method 429 175 (.agg #[h]) "Implements").run Tryz.prog w=.ok (260,.agg #[h]) w:=by kernel_rfl
theorem methodAssignableTo (h:Value) (w:World):(Go.method 429 175 (.agg #[h]) "AssignableTo").run Tryz.prog w=.ok (257,.agg #[h]) w:=by kernel_rfl
theorem elemP (w:World):(ReflectliteType.method ReflectliteType.elem #[.agg #[.pointer (some ⟨10,110,none⟩)]]).run Tryz.prog w=.ok (.iface 175 (.agg #[.pointer (some ⟨10,107,none⟩)])) w:=by kernel_rfl
theorem implementsE (w:World) : (ReflectliteType.relation "Implements" ReflectliteType.implements_ #[.agg #[.pointer (some ⟨10,107,none⟩)],.iface 175 (.agg #[.pointer (some ⟨10,38,none⟩)])]).run Tryz.prog w=.ok (.bool true) w:=by kernel_rfl
theorem typeOfE (v:Value) (w:World):(ReflectliteType.typeOf #[.iface 107 v]).run Tryz.prog w=.ok (.iface 175 (.agg #[.pointer (some ⟨10,107,none⟩)])) w:=by kernel_rfl
theorem assignableE (w:World) : (ReflectliteType.relation "AssignableTo" ReflectliteType.assignableTo #[.agg #[.pointer (some ⟨10,107,none⟩)],.iface 175 (.agg #[.pointer (some ⟨10,107,none⟩)])]).run Tryz.prog w=.ok (.bool true) w:=by kernel_rfl
theorem valueOfE (n:Int) (w:World):(ReflectliteValue.unpack (.iface 107 (.int .i64 n))).run Tryz.prog w
    = .ok (.agg #[.pointer (some ⟨10,107,none⟩),.pointer (some ⟨w.heap.size,0,none⟩),.int .u64 130]) (w.alloc (.cells #[.int .i64 n] 107)):=by kernel_rfl
theorem elemOfP (w:World):(Rtype.elem? 110).run Tryz.prog w=.ok (some 107) w:=by kernel_rfl
theorem mkE (p:Addr) (w:World):(ReflectliteValue.mk 107 p ReflectliteValue.flagAddr).run Tryz.prog w=.ok (.agg #[.pointer (some ⟨10,107,none⟩),.pointer (some p),.int .u64 386]) w:=by kernel_rfl
theorem elemVP (a p:Addr) (W:World) (ha:W.cell? a=some (.pointer (some p))) :
    (ReflectliteValue.method (ReflectliteValue.valueError "reflectlite.Value.Elem" 0) ReflectliteValue.elem #[.agg #[.pointer (some ⟨10,110,none⟩),.pointer (some a),.int .u64 150]]).run Tryz.prog W
      = .ok (.agg #[.pointer (some ⟨10,107,none⟩),.pointer (some p),.int .u64 386]) W:=by
  show Sem.run Tryz.prog (ReflectliteValue.parts (.agg #[.pointer (some ⟨10,110,none⟩),.pointer (some a),.int .u64 150]) >>= _) W=_
  simp only [Sem.run_bind,partsP,Result.andThen]
  simp [ReflectliteValue.elem,loadVar,isAgg,underlying,Tryz.underlying110,ha,Result.andThen,elemOfP,mkE]
theorem partsEa (a:Addr) (w:World):(ReflectliteValue.parts (.agg #[.pointer (some ⟨10,107,none⟩),.pointer (some a),.int .u64 386])).run Tryz.prog w=.ok (some (107,a,386)) w:=by kernel_rfl
theorem partsE (a:Addr) (w:World):(ReflectliteValue.parts (.agg #[.pointer (some ⟨10,107,none⟩),.pointer (some a),.int .u64 130])).run Tryz.prog w=.ok (some (107,a,130)) w:=by kernel_rfl
theorem directE (w:World):(Rtype.directlyAssignable 107 107).run Tryz.prog w=.ok true w:=by kernel_rfl
theorem setE (ta b:Addr) (n:Int) (old:Value) (W:World) (hb:W.cell? b=some (.int .i64 n)) (ht:W.cell? ta=some old) (hf:W.frozen? ta=false) :
    (ReflectliteValue.set #[.agg #[.pointer (some ⟨10,107,none⟩),.pointer (some ta),.int .u64 386],.agg #[.pointer (some ⟨10,107,none⟩),.pointer (some b),.int .u64 130]]).run Tryz.prog W
      = .ok (.tuple #[]) (W.setCell ta (.int .i64 n)):=by
  show Sem.run Tryz.prog (ReflectliteValue.parts (.agg #[.pointer (some ⟨10,107,none⟩),.pointer (some ta),.int .u64 386]) >>= fun x=>ReflectliteValue.parts (.agg #[.pointer (some ⟨10,107,none⟩),.pointer (some b),.int .u64 130]) >>= fun y=>_) W=_
  simp only [Sem.run_bind,partsEa,partsE,Result.andThen]
  simp [ReflectliteValue.flagAddr,loadVar,isAgg,underlying,Tryz.underlying107,hb,Result.andThen,directE,storeVar,Value.cells,storeCells,Addr.add]
  rw [run_store Tryz.prog W ta _ _ (by rfl)]
  simp [ht,hf]

set_option maxHeartbeats 4000000 in
theorem as_hit (n:Int) (t:Addr) (old:Value) (w:World) (hg:w.cell? ⟨1,0,none⟩=some (.iface 175 (.agg #[.pointer (some ⟨10,38,none⟩)]))) (ht0:w.cell? t=some old) (hf0:w.frozen? t=false) :
    Calls Tryz.prog 45 #[.iface 107 (.int .i64 n),.iface 110 (.pointer (some t))] w fun ev w'=>ev=.returned (.bool true)∧w'=((((w.alloc (.cells #[.pointer (some t)] 110)).alloc (.cells #[.pointer (some ⟨10,110,none⟩),.pointer (some ⟨w.heap.size,0,none⟩),.int .u64 150] 141)).alloc (.cells #[.pointer (some ⟨10,110,none⟩),.pointer (some ⟨w.heap.size,0,none⟩),.int .u64 150] 141)).alloc (.cells #[.int .i64 n] 107)).setCell t (.int .i64 n):=by
  have h6:=@run_callFunc_extern Tryz.prog 71 _ (fun args=>ReflectliteValue.unpack (args.getD 0 (.tuple #[]))) Tryz.func71 (by kernel_rfl) (by kernel_rfl) (by kernel_rfl) (by kernel_rfl)
  have h7:=@run_callFunc_extern Tryz.prog 72 _ (ReflectliteValue.methodAny (ReflectliteValue.valueError "reflectlite.Value.Type" 0) (fun t _ _ _=>ReflectliteType.toType t)) Tryz.func72 (by kernel_rfl) (by kernel_rfl) (by kernel_rfl) (by kernel_rfl)
  have h8:=@run_callFunc_extern Tryz.prog 73 _ (ReflectliteValue.method (ReflectliteValue.valueError "reflectlite.Value.IsNil" 0) ReflectliteValue.isNil) Tryz.func73 (by kernel_rfl) (by kernel_rfl) (by kernel_rfl) (by kernel_rfl)
  have h27:=@run_callFunc_extern Tryz.prog 245 _ (ReflectliteType.abiMethod fun t=>do pure (.int .u8 (← Rtype.kind t))) Tryz.func245 (by kernel_rfl) (by kernel_rfl) (by kernel_rfl) (by kernel_rfl)
  have h37:=@run_callFunc_extern Tryz.prog 259 _ (ReflectliteType.method ReflectliteType.elem) Tryz.func259 (by kernel_rfl) (by kernel_rfl) (by kernel_rfl) (by kernel_rfl)
  have h38:=@run_callFunc_extern Tryz.prog 260 _ (ReflectliteType.relation "Implements" ReflectliteType.implements_) Tryz.func260 (by kernel_rfl) (by kernel_rfl) (by kernel_rfl) (by kernel_rfl)
  have h10:=@run_callFunc_extern Tryz.prog 69 _ ReflectliteType.typeOf Tryz.func69 (by kernel_rfl) (by kernel_rfl) (by kernel_rfl) (by kernel_rfl)
  have h35:=@run_callFunc_extern Tryz.prog 257 _ (ReflectliteType.relation "AssignableTo" ReflectliteType.assignableTo) Tryz.func257 (by kernel_rfl) (by kernel_rfl) (by kernel_rfl) (by kernel_rfl)
  have h11:=@run_callFunc_extern Tryz.prog 101 _ (ReflectliteValue.method (ReflectliteValue.valueError "reflectlite.Value.Elem" 0) ReflectliteValue.elem) Tryz.func101 (by kernel_rfl) (by kernel_rfl) (by kernel_rfl) (by kernel_rfl)
  have h12:=@run_callFunc_extern Tryz.prog 102 _ ReflectliteValue.set Tryz.func102 (by kernel_rfl) (by kernel_rfl) (by kernel_rfl) (by kernel_rfl)
  have tO:=typeOfE
  have mA:=methodAssignableTo
  have a25:=assignableE
  have v25:=valueOfE
  have f6:=valueOfP
  have f7:=typeP
  have mK:=methodKind
  have mE:=methodElem
  have mI:=methodImplements
  have k27:=kindP
  have k25:=kindE
  have e27:=elemP
  have i25:=implementsE
  have n8:=isNilP ⟨w.heap.size,0,none⟩ t ((w.alloc (.cells #[.pointer (some t)] 110)).alloc (.cells #[.pointer (some ⟨10,110,none⟩),.pointer (some ⟨w.heap.size,0,none⟩),.int .u64 150] 141)) (by simp)
  have hlt:1<w.heap.size:=World.block_lt_of_cell? w _ hg
  have hg2:((w.alloc (.cells #[.pointer (some t)] 110)).alloc (.cells #[.pointer (some ⟨10,110,none⟩),.pointer (some ⟨w.heap.size,0,none⟩),.int .u64 150] 141)).cell? ⟨1,0,none⟩=some (.iface 175 (.agg #[.pointer (some ⟨10,38,none⟩)])):=by
    rw [World.cell?_alloc_lt _ _ ⟨1,0,none⟩ (by simp;omega),World.cell?_alloc_lt _ _ ⟨1,0,none⟩ hlt];exact hg
  have htl:t.block<w.heap.size:=by
    rcases Nat.lt_or_ge t.block w.heap.size with h | h
    · exact h
    · simp [World.cell?,Array.getElem?_eq_none h] at ht0
  have el:=elemVP ⟨w.heap.size,0,none⟩ t (((w.alloc (.cells #[.pointer (some t)] 110)).alloc (.cells #[.pointer (some ⟨10,110,none⟩),.pointer (some ⟨w.heap.size,0,none⟩),.int .u64 150] 141)).alloc (.cells #[.pointer (some ⟨10,110,none⟩),.pointer (some ⟨w.heap.size,0,none⟩),.int .u64 150] 141)) (by rw [World.cell?_alloc_lt _ _ ⟨w.heap.size,0,none⟩ (by simp;omega)];simp)
  have st:=setE t ⟨w.heap.size+1+1+1,0,none⟩ n old ((((w.alloc (.cells #[.pointer (some t)] 110)).alloc (.cells #[.pointer (some ⟨10,110,none⟩),.pointer (some ⟨w.heap.size,0,none⟩),.int .u64 150] 141)).alloc (.cells #[.pointer (some ⟨10,110,none⟩),.pointer (some ⟨w.heap.size,0,none⟩),.int .u64 150] 141)).alloc (.cells #[.int .i64 n] 107))
    (by rw [World.cell?_alloc_at _ _ _ _ (by simp)];rfl)
    (by rw [World.cell?_alloc_lt _ _ t (by simp;omega),World.cell?_alloc_lt _ _ t (by simp;omega),World.cell?_alloc_lt _ _ t (by simp;omega),World.cell?_alloc_lt _ _ t htl];exact ht0)
    (by rw [World.frozen?_alloc_old _ _ t (by simp;omega),World.frozen?_alloc_old _ _ t (by simp;omega),World.frozen?_alloc_old _ _ t (by simp;omega),World.frozen?_alloc_old _ _ t (Nat.ne_of_lt htl)];exact hf0)
  go_enter Tryz.func45,Tryz.ntmps45
  go_wp2
  refine wp_loop_rounds 1 ?_
  rw [rounds_succ]
  go_wp2
  go_ret
  exact ⟨rfl,rfl⟩

end Go.Proofs.YtlppdppddiecnaaGreatDoor.Told
namespace Go.Proofs.YtlppdppddiecnaaGreatDoor.Told
open Go.ChangeShapes Go.WideShapes Go.ChangeAt Go.RowKit Go.Extern Go.Extern.Stop Go.Stop Go.Proofs.YtlppdppddiecnaaGreatDoor.Mem
set_option linter.unusedVariables false

theorem isTypeOf (v:Value) (w:World):(ReflectliteType.typeOf #[.iface 295 v]).run Tryz.prog w=.ok (.iface 175 (.agg #[.pointer (some ⟨10,295,none⟩)])) w:=by kernel_rfl
theorem isComparable (w:World):((ReflectliteType.method fun t=>do Rtype.noPackHeld "Comparable" t;Functor.map (fun a=>Value.bool a.comparable) (typeInfo t)) #[.agg #[.pointer (some ⟨10,295,none⟩)]]).run Tryz.prog w=.ok (.bool true) w:=by kernel_rfl
theorem isMethodComparable (h:Value) (w:World):(Go.method 429 175 (.agg #[h]) "Comparable").run Tryz.prog w=.ok (258,.agg #[h]) w:=by kernel_rfl
theorem isComp:(Tryz.prog.info? 295).map (·.comparable)=some true:=by kernel_rfl
theorem isSize:(Tryz.prog.info? 297).map (·.size)=some 1:=by kernel_rfl
theorem noIs (v:Value) (xT:TypeId) (w:World):(Instr.typeAssert (.iface 107 v) xT 177 true).run Tryz.prog w=.ok (.tuple #[.nilIface,.bool false]) w:=run_typeAssert_lacksB Tryz.underlying177 (by kernel_rfl) (by kernel_rfl) v xT w
theorem noUn (v:Value) (xT:TypeId) (w:World):(Instr.typeAssert (.iface 107 v) xT 180 true).run Tryz.prog w=.ok (.tuple #[.nilIface,.bool false]) w:=run_typeAssert_lacksB Tryz.underlying180 (by kernel_rfl) (by kernel_rfl) v xT w
theorem noUns (v:Value) (xT:TypeId) (w:World):(Instr.typeAssert (.iface 107 v) xT 181 true).run Tryz.prog w=.ok (.tuple #[.nilIface,.bool false]) w:=run_typeAssert_lacksB Tryz.underlying181 (by kernel_rfl) (by kernel_rfl) v xT w
set_option maxRecDepth 1000000 in
theorem is_nil (v:Value) (w:World) :
    Calls Tryz.prog 44 #[.nilIface,.iface 295 v] w fun e w'=>e=.returned (.bool false)∧w'=w:=by
  have h:∀ d:Nat,(Op.equalIn (d+1) 38 .nilIface (.iface 295 v)).run Tryz.prog w=.ok false w:=fun d=>by
    simp [Op.equalIn,run_underlying Tryz.underlying38]
  have hq:(binOp .eql 38 .nilIface (.iface 295 v)).run Tryz.prog w=.ok (.bool false) w:=by
    simp only [binOp]
    simp [Op.equal,Op.maxDepth,h 9999]
  clear h
  go_enter Tryz.func44,Tryz.ntmps44
  go_wp2
  go_ret
  exact ⟨rfl,rfl⟩
set_option maxRecDepth 1000000 in
theorem is_same (a:Addr) (w:World) :
    Calls Tryz.prog 70 #[.iface 295 (.pointer (some a)),.iface 295 (.pointer (some a)),.bool true] w fun e w'=>e=.returned (.bool true)∧w'=w:=by
  obtain ⟨i,hi,hcmp⟩:=Option.map_eq_some_iff.1 isComp
  obtain ⟨j,hj,hjs⟩:=Option.map_eq_some_iff.1 isSize
  have heq:=run_eql_iface_ptr_same (P:=Tryz.prog) w a Tryz.underlying38 Tryz.underlying295 hi hcmp hj
  go_enter Tryz.func70,Tryz.ntmps70
  go_wp2
  refine wp_loop_rounds 1 ?_
  rw [rounds_succ]
  go_wp2
  go_ret
  exact ⟨rfl,rfl⟩
set_option maxRecDepth 1000000 in
theorem is_other (n:Int) (v:Value) (w:World) :
    Calls Tryz.prog 70 #[.iface 107 (.int .i64 n),.iface 295 v,.bool true] w fun e w'=>e=.returned (.bool false)∧w'=w:=by
  have hty:=run_eql_iface_types (P:=Tryz.prog) 107 295 (.int .i64 n) v Tryz.underlying38 (by decide) w
  have n1:=noIs
  have n2:=noUn
  have n3:=noUns
  go_enter Tryz.func70,Tryz.ntmps70
  go_wp2
  refine wp_loop_rounds 1 ?_
  rw [rounds_succ]
  go_wp2
  go_ret
  exact ⟨rfl,rfl⟩
set_option maxRecDepth 1000000 in
theorem is_bad (a:Addr) (w:World) :
    Calls Tryz.prog 44 #[.iface 295 (.pointer (some a)),.iface 295 (.pointer (some a))] w fun e w'=>e=.returned (.bool true)∧w'=w:=by
  have h1:=@run_callFunc_extern Tryz.prog 69 _ ReflectliteType.typeOf Tryz.func69 (by kernel_rfl) (by kernel_rfl) (by kernel_rfl) (by kernel_rfl)
  have h2:=@run_callFunc_extern Tryz.prog 258 _ (ReflectliteType.method fun t=>do Rtype.noPackHeld "Comparable" t;pure (.bool (← typeInfo t).comparable)) Tryz.func258 (by kernel_rfl) (by kernel_rfl) (by kernel_rfl) (by kernel_rfl)
  have t1:=isTypeOf
  have m1:=isMethodComparable
  have c1:=isComparable
  have S:=hidden (is_same a w)
  go_enter Tryz.func44,Tryz.ntmps44
  go_wp2_with (go_at_call 70;refine S.out.mono ?_;rintro e w1 ⟨rfl,rfl⟩)
  go_ret
  exact ⟨rfl,rfl⟩
set_option maxRecDepth 1000000 in
theorem is_err (n:Int) (v:Value) (w:World) :
    Calls Tryz.prog 44 #[.iface 107 (.int .i64 n),.iface 295 v] w fun e w'=>e=.returned (.bool false)∧w'=w:=by
  have h1:=@run_callFunc_extern Tryz.prog 69 _ ReflectliteType.typeOf Tryz.func69 (by kernel_rfl) (by kernel_rfl) (by kernel_rfl) (by kernel_rfl)
  have h2:=@run_callFunc_extern Tryz.prog 258 _ (ReflectliteType.method fun t=>do Rtype.noPackHeld "Comparable" t;pure (.bool (← typeInfo t).comparable)) Tryz.func258 (by kernel_rfl) (by kernel_rfl) (by kernel_rfl) (by kernel_rfl)
  have t1:=isTypeOf
  have m1:=isMethodComparable
  have c1:=isComparable
  have S:=hidden (is_other n v w)
  go_enter Tryz.func44,Tryz.ntmps44
  go_wp2_with (go_at_call 70;refine S.out.mono ?_;rintro e w1 ⟨rfl,rfl⟩)
  go_ret
  exact ⟨rfl,rfl⟩
end Go.Proofs.YtlppdppddiecnaaGreatDoor.Told
