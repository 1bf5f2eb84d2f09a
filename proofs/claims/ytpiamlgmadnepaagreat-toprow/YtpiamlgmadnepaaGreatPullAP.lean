/-
 What package pull keeps, in memory; what its small functions return. They change nothing that was there.
-/
import Derived.Test.YtpiamlgmadnepaaGreatMathAll
import Derived.Test.YtpiamlgmadnepaaGreatRows
import Derived.WalkKit
import Derived.ProofKit
import Derived.OpenShut
import Derived.ChangeOld
import Derived.Below
import Derived.Deep.QuietTactic
import Derived.BigQuiet
import Derived.Laws.AppendOwnNone
import Derived.WalkSmall
import Derived.WalkSpells
import Derived.LoopTactic
import Derived.RegionTactic
import Derived.Deep.AppendLies
import Derived.Deep.LoopGhost
import Derived.Outline
set_option linter.unusedVariables false
namespace Go.Proofs.YtpiamlgmadnepaaGreat.Pull
open Go.ChangeShapes Go.WideShapes Go.ChangeAt Go.RowKit Go.Maps Mem PU
structure Cells (cs:Array Value) (mb:Nat->Nat) (th nw:Int) (td ak:Nat->Int):Prop where
 sz:cs.size=26
 c0:cs[0]?=some (.int .i64 nw)
 c1:cs[1]?=some (.int .i64 th)
 cm:∀ i,i<8->cs[2+i*3]?=some (.map (some (mb i)))
 ct:∀ i,i<8->cs[2+i*3+1]?=some (.int .i64 (td i))
 ca:∀ i,i<8->cs[2+i*3+2]?=some (.int .i64 (lst th (ak i)))
structure ξy (w:World) (b:Nat) (mb:Nat->Nat) (th nw:Int) (td ak:Nat->Int) (L:Wts):Prop where
 box:∃ cs,w.heap[b]?=some (.cells cs 201 (0,0))/\Cells cs mb th nw td ak
 map:∀ i,i<8->∃ D,w.ownsMap Tryz.prog 3 inR (mb i) (Maps.size D) D/\KM D L ((i:Int)+1)
 ap:∀ i j,i<8->j<8->mb i=mb j->i=j
theorem Cells.get0 {w:World} {b:Nat} {cs:Array Value} (h:w.heap[b]?=some (.cells cs 201 (0,0))) (j:Nat):w.cell? ⟨b,j,none⟩=cs[j]?:=by
 simp [World.cell?,h]
theorem ξy.lt {w:World} {b:Nat} {mb:Nat->Nat} {th nw:Int} {td ak:Nat->Int} {L:Wts} (h:ξy w b mb th nw td ak L):b<w.heap.size:=by
 obtain ⟨cs,h1,h2⟩:=h.box;exact lt_of_block h1
theorem ξy.mlt {w:World} {b:Nat} {mb:Nat->Nat} {th nw:Int} {td ak:Nat->Int} {L:Wts} (h:ξy w b mb th nw td ak L) {i:Nat} (hi:i<8):mb i<w.heap.size:=by
 obtain ⟨D,h1,_⟩:=h.map i hi;exact h1.lt
def pblks (b:Nat) (mb:Nat->Nat):List Nat:=b::(List.range 8).map mb
theorem ξ23 {b k:Nat} {mb:Nat->Nat}:k∈pblks b mb↔k=b∨∃ i,i<8/\k=mb i:=by
 simp only [pblks,List.mem_cons,List.mem_map,List.mem_range]
 constructor
 ·rintro (h | ⟨i,h1,h2⟩)
  ·exact .inl h
  ·exact .inr ⟨i,h1,h2.symm⟩
 ·rintro (h | ⟨i,h1,h2⟩)
  ·exact .inl h
  ·exact .inr ⟨i,h1,h2.symm⟩
theorem ξy.blt {w:World} {b:Nat} {mb:Nat->Nat} {th nw:Int} {td ak:Nat->Int} {L:Wts} (h:ξy w b mb th nw td ak L):∀ k∈pblks b mb,k<w.heap.size:=by
 intro k hk;rcases ξ23.1 hk with rfl | ⟨i,hi,rfl⟩
 ·exact h.lt
 ·exact h.mlt hi
theorem ξW {w w':World} {bs:List Nat} {m n:Nat} {D:DataW Value} (h:w.ownsMap Tryz.prog 3 inR m n D) (ho:Only bs w w') (hm:m∉bs):w'.ownsMap Tryz.prog 3 inR m n D:=by
 obtain ⟨es,clock,h4,h5⟩:=h;exact ⟨es,clock,ho.block h4 hm,h5⟩
theorem ξy.only {w w':World} {b:Nat} {mb:Nat->Nat} {th nw:Int} {td ak:Nat->Int} {L:Wts} {bs:List Nat} (h:ξy w b mb th nw td ak L) (ho:Only bs w w') (hb:∀ k∈pblks b mb,k∉bs):ξy w' b mb th nw td ak L:=by
 obtain ⟨cs,h1,h2⟩:=h.box;refine ⟨⟨cs,ho.block h1 (hb b (ξ23.2 (.inl rfl))),h2⟩,fun i hi=>?_,h.ap⟩
 obtain ⟨D,h3,h4⟩:=h.map i hi;exact ⟨D,ξW h3 ho (hb _ (ξ23.2 (.inr ⟨i,hi,rfl⟩))),h4⟩
theorem ξy.below {w w':World} {b:Nat} {mb:Nat->Nat} {th nw:Int} {td ak:Nat->Int} {L:Wts} (h:ξy w b mb th nw td ak L) (hb:Below w.heap.size w w'):ξy w' b mb th nw td ak L:=
 h.only (Only.of_below hb []) (by simp)
end Go.Proofs.YtpiamlgmadnepaaGreat.Pull
