/-
  What package run finds in the program's variables (its error, the library's errors, its table of tens), and that calls which change no more than blocks of their own leave them; rows of texts; the words of a line in memory.
-/
import Derived.Test.YtlppdppddiecnaaGreatDoorRunMathP
import Derived.Test.YtlppdppddiecnaaGreatDoorMemP
import Derived.Test.YtlppdppddiecnaaGreatDoorRows
import Derived.Lib.LaidTab
import Derived.Lib.SmallJoins
import Derived.WalkKit
import Derived.ProofKit
import Derived.OpenShut
import Derived.Below
import Derived.WalkSmall
import Derived.WalkSpells
import Derived.LoopTactic
import Derived.RegionTactic
import Derived.OwnWalk
import Derived.Deep.QuietTactic
import Derived.BigQuiet
import Derived.Laws.AppendOwnNone
namespace Go.Proofs.YtlppdppddiecnaaGreatDoor.Run
open Go.ChangeShapes Go.WideShapes Go.ChangeAt Go.RowKit Go.Proofs.YtlppdppddiecnaaGreatDoor.Mem Go.Proofs.YtlppdppddiecnaaGreatDoor.RN
set_option linter.unusedVariables false

def badV (ea:Addr):Value:=.iface 295 (.pointer (some ea))
structure GW (ea:Addr) (w:World):Prop where
  bad:w.cell? ⟨0,0,none⟩=some (badV ea)
  et:w.cell? ⟨1,0,none⟩=some (.iface 175 (.agg #[.pointer (some ⟨10,38,none⟩)]))
  most:∃ m,w.cell? ⟨2,0,none⟩=some (.int .i64 m)
  tab:Lib.TabIs Tryz.prog w "internal/strconv.uint64pow10" .u64 Lib.pow10Tab
  syn:∃ tp p,w.cell? ⟨6,0,none⟩=some (.iface tp p)
  rng:∃ tp p,w.cell? ⟨7,0,none⟩=some (.iface tp p)
  size:10≤w.heap.size
theorem tabG : Tryz.prog.globalNamed "internal/strconv.uint64pow10"=some 3:=by kernel_rfl
theorem cell_only {w w':World} {L:List Nat} (ho:Only L w w') {k o:Nat} {v:Value} (hk:k∉L) (h:w.cell? ⟨k,o,none⟩=some v):w'.cell? ⟨k,o,none⟩=some v:=by
  have hlt:k<w.heap.size:=World.block_lt_of_cell? w ⟨k,o,none⟩ h
  have e:=ho.2.2.2.2 k hlt hk
  rw [← h]
  simp only [World.cell?,e]
theorem GW.only {ea:Addr} {w w':World} {L:List Nat} (h:GW ea w) (ho:Only L w w') (hL:∀ b∈L,10≤b):GW ea w':=by
  have n:∀ k,k<10→k∉L:=fun k hk hm=>by have:=hL k hm;omega
  refine ⟨cell_only ho (n 0 (by omega)) h.bad,cell_only ho (n 1 (by omega)) h.et,?_,?_,?_,?_,Nat.le_trans h.size ho.2.2.2.1⟩
  · obtain ⟨m,hm⟩:=h.most;exact ⟨m,cell_only ho (n 2 (by omega)) hm⟩
  · have e:=ho.2.2.2.2 3 (by have:=h.size;omega) (n 3 (by omega))
    have t:=h.tab
    unfold Lib.TabIs World.var? at t ⊢
    rw [tabG] at t ⊢
    simp only [Option.bind_some,e] at t ⊢
    exact t
  · obtain ⟨tp,p,hm⟩:=h.syn;exact ⟨tp,p,cell_only ho (n 6 (by omega)) hm⟩
  · obtain ⟨tp,p,hm⟩:=h.rng;exact ⟨tp,p,cell_only ho (n 7 (by omega)) hm⟩
theorem GW.below {ea:Addr} {w w':World} (h:GW ea w) (hb:Below w.heap.size w w'):GW ea w':=h.only (Only.of_below hb []) (by simp)

def anV (ea:Addr):An→Value
  | .bad=>badV ea
  | .err n=>.iface 107 (.int .i64 (n:Int))
  | .ok _=>.nilIface

def SArg (w:World) (a:Option Addr) (L:List (List UInt8)):Prop:=∀ j,j<L.length→∃ b o,a=some ⟨b,o,none⟩∧w.cell? ⟨b,o+j,none⟩=some (.string (bs (L.getD j [])))
theorem SArg.nil (w:World) (a:Option Addr):SArg w a []:=fun j h=>absurd h (by simp)
theorem SArg.only {w w':World} {L:List Nat} {a:Option Addr} {X:List (List UInt8)} (h:SArg w a X) (ho:Only L w w') (hL:∀ ad,a=some ad→ad.block∉L):SArg w' a X:=by
  intro j hj
  obtain ⟨b,o,e,hc⟩:=h j hj
  exact ⟨b,o,e,cell_only ho (hL _ e) hc⟩
theorem SArg.tail {w:World} {b o:Nat} {x:List UInt8} {r:List (List UInt8)} (h:SArg w (some ⟨b,o,none⟩) (x::r)):SArg w (some ⟨b,o+1,none⟩) r:=by
  intro j hj
  obtain ⟨b',o',e,hc⟩:=h (j+1) (by simpa using hj)
  simp only [Option.some.injEq,Addr.mk.injEq,and_true] at e
  obtain ⟨rfl,rfl⟩:=e
  refine ⟨b,o+1,rfl,?_⟩
  rw [show o+1+j=o+(j+1) by omega]
  simpa using hc
theorem SArg.head {w:World} {a:Option Addr} {x:List UInt8} {r:List (List UInt8)} (h:SArg w a (x::r)):∃ b o,a=some ⟨b,o,none⟩∧w.cell? ⟨b,o,none⟩=some (.string (bs x)):=by
  obtain ⟨b,o,e,hc⟩:=h 0 (by simp)
  exact ⟨b,o,e,by simpa using hc⟩
theorem sarg_new (w:World) (X:List (List UInt8)) (T:TypeId):SArg (w.alloc (.cells (X.map fun x=>Value.string (bs x)).toArray T)) (some ⟨w.heap.size,0,none⟩) X:=by
  intro j hj
  refine ⟨_,_,rfl,?_⟩
  rw [World.cell?_alloc_mark]
  simp [List.getElem?_eq_getElem hj]

structure WAt (w:World) (b:Nat) (W:Ws):Prop where
  ex:∃ a cap,w.heap[b]?=some (.cells #[.slice a W.rest.length cap,.bool W.bad] 150 (0,0))∧W.rest.length≤cap∧cap≤4294967296∧SArg w a W.rest∧∀ ad,a=some ad→ad.block<b
  sz:∀ x∈W.rest,x.length≤3000
theorem WAt.lt {w:World} {b:Nat} {W:Ws} (h:WAt w b W):b<w.heap.size:=by
  obtain ⟨a,cap,hb,_⟩:=h.ex
  exact lt_of_block hb
theorem WAt.below {w w':World} {b:Nat} {W:Ws} (h:WAt w b W) (hb:Below w.heap.size w w'):WAt w' b W:=by
  obtain ⟨a,cap,h1,h2,h3,h4,h5⟩:=h.ex
  have ho:=Only.of_below hb []
  exact ⟨⟨a,cap,ho.block h1 (by simp),h2,h3,h4.only ho (fun _ _=>by simp),h5⟩,h.sz⟩
theorem WAt.over {w w':World} {b:Nat} {W:Ws} {L:List Nat} (h:WAt w b W) (ho:Only L w w') (hL:∀ k∈L,b<k):WAt w' b W:=by
  obtain ⟨a,cap,h1,h2,h3,h4,h5⟩:=h.ex
  exact ⟨⟨a,cap,ho.block h1 (fun hm=>by have:=hL _ hm;omega),h2,h3,h4.only ho (fun ad e hm=>by have:=hL _ hm;have:=h5 ad e;omega),h5⟩,h.sz⟩
theorem set2 {w:World} {b:Nat} {cs:Array Value} {t:TypeId} (h:w.heap[b]?=some (.cells cs t (0,0))) (j:Nat) (u:Value) :
    (w.setCell ⟨b,j,none⟩ u).heap[b]?=some (.cells (cs.setIfInBounds j u) t (0,0)):=by
  simp [World.setCell,Array.getElem?_modify,h]
theorem WAt.ill {w:World} {b:Nat} {W:Ws} (h:WAt w b W):WAt (w.setCell ⟨b,1,none⟩ (.bool true)) b W.ill:=by
  obtain ⟨a,cap,h1,h2,h3,h4,h5⟩:=h.ex
  have ho:Only [b] w (w.setCell ⟨b,1,none⟩ (.bool true)):=(Only.refl [b] w).setCell (by simp) _
  exact ⟨⟨a,cap,set2 h1 1 _,h2,h3,h4.only ho (fun ad e=>by have:=h5 ad e;simp;omega),h5⟩,h.sz⟩
theorem WAt.take {w:World} {b:Nat} {x:List UInt8} {r:List (List UInt8)} {bd:Bool} {a':Option Addr} {c':Nat} (h:WAt w b ⟨x::r,bd⟩) (hc:r.length≤c') (hc':c'≤4294967296) (ha:SArg w a' r) (hn:∀ ad,a'=some ad→ad.block<b) :
    WAt (w.setCell ⟨b,0,none⟩ (.slice a' r.length c')) b ⟨r,bd⟩:=by
  obtain ⟨a,cap,h1,h2,h3,h4,h5⟩:=h.ex
  have ho:Only [b] w (w.setCell ⟨b,0,none⟩ (.slice a' r.length c')):=(Only.refl [b] w).setCell (by simp) _
  exact ⟨⟨a',c',set2 h1 0 _,hc,hc',ha.only ho (fun ad e=>by have:=hn ad e;simp;omega),hn⟩,fun y hy=>h.sz y (by simp [hy])⟩
theorem cells2 {w:World} {b:Nat} {x y:Value} {t:TypeId} (h:w.heap[b]?=some (.cells #[x,y] t (0,0))):w.cell? ⟨b,0,none⟩=some x∧w.cell? ⟨b,1,none⟩=some y:=by
  constructor<;>simp [World.cell?,h]
theorem free2 {w:World} {b:Nat} {cs:Array Value} {t:TypeId} (h:w.heap[b]?=some (.cells cs t (0,0))) (j:Nat):w.frozen? ⟨b,j,none⟩=false:=by
  simp [World.frozen?,h]
end Go.Proofs.YtlppdppddiecnaaGreatDoor.Run

