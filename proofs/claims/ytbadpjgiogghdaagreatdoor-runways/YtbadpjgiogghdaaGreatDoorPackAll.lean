/-
  PackA, PackB, PackC in one text.
-/
import Derived.Test.YtbadpjgiogghdaaGreatDoorPackMathP
import Derived.Test.YtbadpjgiogghdaaGreatDoorMemP
import Derived.Test.YtbadpjgiogghdaaGreatDoorRows
import Derived.WalkKit
import Derived.ProofKit
import Derived.OpenShut
import Derived.ChangeOld
import Derived.Below
import Derived.Deep.QuietTactic
import Derived.BigQuiet
import Derived.Laws.AppendOwnNone
import Derived.WalkSmall
import Derived.WalkSpells
import Derived.LoopTactic
import Derived.Laws.BitsAllLaws
import Derived.Deep.Cut
import Derived.Deep.RegionHeld3

namespace Go.Proofs.YtbadpjgiogghdaaGreatDoor.Pack
open Go.ChangeShapes Go.WideShapes Go.ChangeAt Go.RowKit Go.Proofs.YtbadpjgiogghdaaGreatDoor.PM Go.Proofs.YtbadpjgiogghdaaGreatDoor.Mem
set_option linter.unusedVariables false

theorem info5:(Tryz.prog.info? 5).map (fun i=>(i.zero,i.size,i.bytes))=some (some (.int .u8 0),1,1):=by kernel_rfl
def errv (e:Nat):Value:=if e=0 then .nilIface else .iface 115 (.int .i64 (e:Int))

theorem within_calls (x m:Int) (w:World):Calls Tryz.prog 188 #[.int .i64 x,.int .i64 m] w fun e w'=>e=.returned (.bool (decide (0≤x∧x≤m)))∧w'=w:=by
  by_cases h:0≤x
  · have d:decide (0≤x)=true:=by simpa using h
    go_enter Tryz.func188,Tryz.ntmps188
    go_wp2_with fail
    go_ret
    exact ⟨by simp [h],rfl⟩
  · have d:decide (0≤x)=false:=by simpa using h
    go_enter Tryz.func188,Tryz.ntmps188
    go_wp2_with fail
    go_ret
    exact ⟨by simp,rfl⟩

set_option maxHeartbeats 1000000 in
set_option maxRecDepth 100000 in
theorem check_calls (s t l v:Int) (st:Bool) (a:Option Addr) (n cap:Nat) (w:World) :
    Calls Tryz.prog 151 #[.agg #[.int .i64 s,.int .i64 t,.int .i64 l,.int .i64 v,.bool st,.slice a n cap]] w fun e w'=>e=.returned (errv (fault s t l v n))∧Below w.heap.size w w':=by
  have C1:=fun w=>within_calls s 65535 w
  have C2:=fun w=>within_calls t 4294967295 w
  have C3:=fun w=>within_calls l 3 w
  have C4:=fun w=>within_calls v 127 w
  have hf:fault s t l v n=if decide (0≤s∧s≤65535)&&decide (0≤t∧t≤4294967295)&&decide (0≤l∧l≤3)&&decide (0≤v∧v≤127) then (if n≤1000 then 0 else 4) else 1:=by
    unfold fault
    simp only [Bool.and_eq_true,decide_eq_true_eq,and_assoc]
  generalize decide (0≤s∧s≤65535)=b1 at *
  generalize decide (0≤t∧t≤4294967295)=b2 at *
  generalize decide (0≤l∧l≤3)=b3 at *
  generalize decide (0≤v∧v≤127)=b4 at *
  rw [hf]
  have H1:=hidden C1
  have H2:=hidden C2
  have H3:=hidden C3
  have H4:=hidden C4
  clear C1 C2 C3 C4 hf
  cases b1 with
  | false=>
    go_enter Tryz.func151,Tryz.ntmps151
    go_wp2_with fail
    refine (H1.out _).mono ?_
    rintro e w ⟨rfl,rfl⟩
    go_wp2_with fail
    go_ret
    exact ⟨rfl,(Below.refl _ _).alloc (Nat.le_refl _) _⟩
  | true=>
  cases b2 with
  | false=>
    go_enter Tryz.func151,Tryz.ntmps151
    go_wp2_with fail
    refine (H1.out _).mono ?_
    rintro e w ⟨rfl,rfl⟩
    go_wp2_with fail
    refine (H2.out _).mono ?_
    rintro e w ⟨rfl,rfl⟩
    go_wp2_with fail
    go_ret
    exact ⟨rfl,(Below.refl _ _).alloc (Nat.le_refl _) _⟩
  | true=>
  cases b3 with
  | false=>
    go_enter Tryz.func151,Tryz.ntmps151
    go_wp2_with fail
    refine (H1.out _).mono ?_
    rintro e w ⟨rfl,rfl⟩
    go_wp2_with fail
    refine (H2.out _).mono ?_
    rintro e w ⟨rfl,rfl⟩
    go_wp2_with fail
    refine (H3.out _).mono ?_
    rintro e w ⟨rfl,rfl⟩
    go_wp2_with fail
    go_ret
    exact ⟨rfl,(Below.refl _ _).alloc (Nat.le_refl _) _⟩
  | true=>
  cases b4 with
  | false=>
    go_enter Tryz.func151,Tryz.ntmps151
    go_wp2_with fail
    refine (H1.out _).mono ?_
    rintro e w ⟨rfl,rfl⟩
    go_wp2_with fail
    refine (H2.out _).mono ?_
    rintro e w ⟨rfl,rfl⟩
    go_wp2_with fail
    refine (H3.out _).mono ?_
    rintro e w ⟨rfl,rfl⟩
    go_wp2_with fail
    refine (H4.out _).mono ?_
    rintro e w ⟨rfl,rfl⟩
    go_wp2_with fail
    go_ret
    exact ⟨rfl,(Below.refl _ _).alloc (Nat.le_refl _) _⟩
  | true=>
  by_cases p:n≤1000
  · go_enter Tryz.func151,Tryz.ntmps151
    go_wp2_with fail
    refine (H1.out _).mono ?_
    rintro e w ⟨rfl,rfl⟩
    go_wp2_with fail
    refine (H2.out _).mono ?_
    rintro e w ⟨rfl,rfl⟩
    go_wp2_with fail
    refine (H3.out _).mono ?_
    rintro e w ⟨rfl,rfl⟩
    go_wp2_with fail
    refine (H4.out _).mono ?_
    rintro e w ⟨rfl,rfl⟩
    go_wp2_with fail
    go_ret
    exact ⟨by simp [errv],(Below.refl _ _).alloc (Nat.le_refl _) _⟩
  · go_enter Tryz.func151,Tryz.ntmps151
    go_wp2_with fail
    refine (H1.out _).mono ?_
    rintro e w ⟨rfl,rfl⟩
    go_wp2_with fail
    refine (H2.out _).mono ?_
    rintro e w ⟨rfl,rfl⟩
    go_wp2_with fail
    refine (H3.out _).mono ?_
    rintro e w ⟨rfl,rfl⟩
    go_wp2_with fail
    refine (H4.out _).mono ?_
    rintro e w ⟨rfl,rfl⟩
    go_wp2_with fail
    go_ret
    exact ⟨by simp [errv],(Below.refl _ _).alloc (Nat.le_refl _) _⟩

theorem ret_int {k:IntKind} {a b:Int} (h:a=b):Ending.returned (.int k a)=.returned (.int k b):=by rw [h]
theorem i64_wrap {n:Int} (h0:0≤n) (h1:n<9223372036854775808):IntKind.i64.wrap n=n:=by
  simp [IntKind.wrap,IntKind.bits,IntKind.signed];omega
theorem i64_or_nat (a b:Nat) (ha:a<9223372036854775808) (hb:b<9223372036854775808):bits .or .i64 (a:Int) (b:Int)=((a ||| b:Nat):Int):=by
  have hx:a ||| b<2 ^ 63:=Nat.or_lt_two_pow (by omega) (by omega)
  show IntKind.i64.wrap ((BitVec.ofInt 64 (a:Int) ||| BitVec.ofInt 64 (b:Int)).toNat:Int)=_
  rw [BitVec.toNat_or,ofInt_u64 a (by omega),ofInt_u64 b (by omega)]
  exact i64_wrap (by omega) (by omega)
theorem i64_and_nat (a b:Nat) (ha:a<9223372036854775808) (hb:b<9223372036854775808):bits .and .i64 (a:Int) (b:Int)=((a &&& b:Nat):Int):=by
  have hx:a &&& b<2 ^ 63:=Nat.and_lt_two_pow _ (by omega)
  show IntKind.i64.wrap ((BitVec.ofInt 64 (a:Int) &&& BitVec.ofInt 64 (b:Int)).toNat:Int)=_
  rw [BitVec.toNat_and,ofInt_u64 a (by omega),ofInt_u64 b (by omega)]
  exact i64_wrap (by omega) (by omega)
theorem on_eq (n c:Nat) (hn:n<16777216) (hc:c<256):bits .or .i64 (wrap64 ((n:Int)*256)) (c:Int)=((n*256+c:Nat):Int):=by
  have e:wrap64 ((n:Int)*256)=((n*256:Nat):Int):=by unfold wrap64;omega
  rw [e,i64_or_nat _ _ (by omega) (by omega),nat_join 8 _ c (by omega) (by omega)]
theorem on_zero (c:Nat) (hc:c<256):bits .or .i64 0 (c:Int)=(c:Int):=by
  have:=i64_or_nat 0 c (by omega) (by omega)
  rw [Nat.zero_or] at this
  exact this

theorem lay_eq {x:Nat} (hx:x<256):good x=(!(bits .and .u8 (x:Int) 128==0)&&!decide (3<bits .andNot .i64 (x:Int) 160)):=by
  have:∀ x:Fin 256,good x.val=(!(bits .and .u8 (x.val:Int) 128==0)&&!decide (3<bits .andNot .i64 (x.val:Int) 160)):=by decide +kernel
  exact this ⟨x,hx⟩
theorem lay_mod {x:Nat} (h:good x=true):bits .andNot .i64 (x:Int) 160=((x%4:Nat):Int)∧(bits .and .u8 (x:Int) 32==0)=!decide (160≤x):=by
  have hx:=(good_back h).2
  have:∀ x:Fin 256,good x.val=true→bits .andNot .i64 (x.val:Int) 160=((x.val%4:Nat):Int)∧(bits .and .u8 (x.val:Int) 32==0)=!decide (160≤x.val):=by decide +kernel
  exact this ⟨x,hx⟩ h
theorem first_or {l:Nat} (h:l≤3):bits .or .i64 128 (l:Int)=((128+l:Nat):Int)∧bits .or .i64 ((128+l:Nat):Int) 32=((128+l+32:Nat):Int):=by
  have:∀ l:Fin 4,bits .or .i64 128 (l.val:Int)=((128+l.val:Nat):Int)∧bits .or .i64 ((128+l.val:Nat):Int) 32=((128+l.val+32:Nat):Int):=by decide +kernel
  exact this ⟨l,by omega⟩

theorem errv_zero:errv 0=.nilIface:=rfl
theorem errv_pos {e:Nat} (h:e≠0):errv e=.iface 115 (.int .i64 (e:Int)):=by unfold errv;rw [if_neg h]

def Box (w:World) (g:Nat) (s t l v:Int) (st:Bool) (bv:Value):Prop:=w.heap[g]?=some (.cells #[.int .i64 s,.int .i64 t,.int .i64 l,.int .i64 v,.bool st,bv] 92 (0,0))
theorem Box.new (w:World) (s t l v:Int) (st:Bool) (bv:Value):Box (w.alloc (.cells #[.int .i64 s,.int .i64 t,.int .i64 l,.int .i64 v,.bool st,bv] 92)) w.heap.size s t l v st bv:=heap_alloc_new w _
theorem Box.below {w w':World} {g B:Nat} {s t l v:Int} {st:Bool} {bv:Value} (h:Box w g s t l v st bv) (hb:Below B w w') (hg:g<B):Box w' g s t l v st bv:=(hb.block g hg).trans h
theorem Box.lt {w:World} {g:Nat} {s t l v:Int} {st:Bool} {bv:Value} (h:Box w g s t l v st bv):g<w.heap.size:=lt_of_block h
theorem Box.grown {w w':World} {g:Nat} {s t l v:Int} {st:Bool} {bv:Value} {row:Option Nat} (h:Box w g s t l v st bv) (hg:w.grownBy w' row) (hr:row≠some g):Box w' g s t l v st bv:=
  (hg.block g h.lt (fun e=>hr e.symm)).trans h
theorem Box.alloc {w:World} {g:Nat} {s t l v:Int} {st:Bool} {bv:Value} (h:Box w g s t l v st bv) (o:Obj):Box (w.alloc o) g s t l v st bv:=(Below.heap_alloc _ _ _ h.lt).trans h
theorem Box.cells {w:World} {g:Nat} {s t l v:Int} {st:Bool} {bv:Value} (h:Box w g s t l v st bv) :
    w.cell? ⟨g,0,none⟩=some (.int .i64 s)∧w.cell? ⟨g,1,none⟩=some (.int .i64 t)∧w.cell? ⟨g,2,none⟩=some (.int .i64 l)∧w.cell? ⟨g,3,none⟩=some (.int .i64 v)∧w.cell? ⟨g,4,none⟩=some (.bool st)∧w.cell? ⟨g,5,none⟩=some bv:=by
  simp only [Box] at h
  simp [World.cell?,h]

theorem below_old {w w':World} {o:Obj} (h:Below (w.alloc o).heap.size (w.alloc o) w'):Below w.heap.size w w':=
  ((Below.refl _ _).alloc (Nat.le_refl _) o).trans (h.mono (by simp))

theorem own_next {w:World} {base m k:Nat} {v:Value} {L K R:List Nat} (h:w.ownsRow base 5 1 v m (cellsOf L++cellsOf K)) (hm:m=k) (hR:L++K=R):w.ownsRow base 5 1 v k (cellsOf R):=by
  rw [← cellsOf_app] at h
  rw [← hm,← hR];exact h
theorem own_first {w:World} {base g cap:Nat} {L:List Nat} {m:Nat} (h:w.ownsRow base 5 1 (.slice (some ⟨g,0,none⟩) m cap) m (cellsOf L)):w.ownsRow base 5 1 (.slice (some ⟨g,0,none⟩) m cap) m (cellsOf L):=h
theorem blk2 {x y:Int} {a b:Nat} (hx:x=(a:Int)) (hy:y=(b:Int)):(#[Value.int .u8 x,.int .u8 y]:Array Value)=(cellsOf [a,b]).toArray:=by rw [hx,hy];rfl
theorem blk4 {x y z u:Int} {a b c d:Nat} (hx:x=(a:Int)) (hy:y=(b:Int)) (hz:z=(c:Int)) (hu:u=(d:Int)):(#[Value.int .u8 x,.int .u8 y,.int .u8 z,.int .u8 u]:Array Value)=(cellsOf [a,b,c,d]).toArray:=by rw [hx,hy,hz,hu];rfl


theorem arg_at {w:World} {a:Option Addr} {n:Nat} {L:List Nat} (h:Arg w a n L) (hn:0<n):∃ b o,a=some ⟨b,o,none⟩:=by
  obtain ⟨b,o,e,_⟩:=h.1.2 0 (by have:=h.2.1;omega)
  exact ⟨b,o,e⟩
theorem arg_cell {w:World} {b o n:Nat} {L:List Nat} (h:Arg w (some ⟨b,o,none⟩) n L) (j:Nat) (hj:j<n):w.cell? ⟨b,o+j,none⟩=some (.int .u8 (L.getD j 0:Nat)):=by
  obtain ⟨b',o',e,hc⟩:=h.1.2 j (by have:=h.2.1;omega)
  simp only [Option.some.injEq,Addr.mk.injEq,and_true] at e
  obtain ⟨rfl,rfl⟩:=e
  exact hc

theorem cell_alloc {w:World} {p:Addr} {v:Value} (h:w.cell? p=some v) (o:Obj):(w.alloc o).cell? p=some v:=(((Below.refl _ _).alloc (Nat.le_refl _) o).cell (World.block_lt_of_cell? w p h)).trans h

end Go.Proofs.YtbadpjgiogghdaaGreatDoor.Pack
