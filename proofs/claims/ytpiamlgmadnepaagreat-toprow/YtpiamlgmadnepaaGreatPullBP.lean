/-
 What New and Want of package pull return, and what they leave in memory. Their condition: what is kept is such as it may be.
-/
import Derived.Test.YtpiamlgmadnepaaGreatPullAP
set_option linter.unusedVariables false
set_option maxHeartbeats 1000000
set_option maxRecDepth 100000
namespace Go.Proofs.YtpiamlgmadnepaaGreat.Pull
open Go.ChangeShapes Go.WideShapes Go.ChangeAt Go.RowKit Go.Maps Mem PU
structure NSt (w wr:World) (th:Int) (k:Nat):Prop where
 bel:Below w.heap.size w wr
 sz:wr.heap.size=w.heap.size+1+k
 box:∃ cs,wr.heap[w.heap.size]?=some (.cells cs 201 (0,0))/\cs.size=26/\cs[0]?=some (.int .i64 0)/\cs[1]?=some (.int .i64 th)/\∀ i,i<k->cs[2+i*3]?=some (.map (some (w.heap.size+1+i)))/\cs[2+i*3+1]?=some (.int .i64 (-1))/\cs[2+i*3+2]?=some (.int .i64 (-th))
 maps:∀ i,i<k->wr.ownsMap Tryz.prog 3 inR (w.heap.size+1+i) 0 (.map [])
theorem NSt.start (w:World) (th:Int):NSt w (w.alloc (.cells #[.int .i64 0,.int .i64 th,.map none,.int .i64 0,.int .i64 0,.map none,.int .i64 0,.int .i64 0,.map none,.int .i64 0,.int .i64 0,.map none,.int .i64 0,.int .i64 0,.map none,.int .i64 0,.int .i64 0,.map none,.int .i64 0,.int .i64 0,.map none,.int .i64 0,.int .i64 0,.map none,.int .i64 0,.int .i64 0] 201)) th 0:=
 ⟨(Below.refl _ _).alloc (Nat.le_refl _) _,by simp,⟨_,heap_alloc_new w _,rfl,rfl,rfl,fun i hi=>absurd hi (by omega)⟩,fun i hi=>absurd hi (by omega)⟩
theorem NSt.old {w wr:World} {th:Int} {k:Nat} (h:NSt w wr th k) (hk:k<8):∃ v0 v1 v2,(wr.alloc (.map #[] 0)).cell? ⟨w.heap.size,2+k*3,none⟩=some v0/\(wr.alloc (.map #[] 0)).cell? ⟨w.heap.size,2+k*3+1,none⟩=some v1/\(wr.alloc (.map #[] 0)).cell? ⟨w.heap.size,2+k*3+2,none⟩=some v2:=by
 obtain ⟨cs,h1,h2,_⟩:=h.box;have h3:(wr.alloc (.map #[] 0)).heap[w.heap.size]?=some (.cells cs 201 (0,0)):=(Below.heap_alloc _ _ _ (lt_of_block h1)).trans h1
 refine ⟨cs[2+k*3]'(by omega),cs[2+k*3+1]'(by omega),cs[2+k*3+2]'(by omega),?_,?_,?_⟩
 ·rw [Cells.get0 h3,Array.getElem?_eq_getElem]
 ·rw [Cells.get0 h3,Array.getElem?_eq_getElem]
 ·rw [Cells.get0 h3,Array.getElem?_eq_getElem]
theorem NSt.free {w wr:World} {th:Int} {k:Nat} (h:NSt w wr th k) (j:Nat):(wr.alloc (.map #[] 0)).frozen? ⟨w.heap.size,j,none⟩=false:=by
 obtain ⟨cs,h1,h2,_⟩:=h.box;have h3:(wr.alloc (.map #[] 0)).heap[w.heap.size]?=some (.cells cs 201 (0,0)):=(Below.heap_alloc _ _ _ (lt_of_block h1)).trans h1
 simp [World.frozen?,h3]
theorem NSt.step {w wr:World} {th:Int} {k:Nat} (h:NSt w wr th k) (hk:k<8):NSt w ((((wr.alloc (.map #[] 0)).setCell ⟨w.heap.size,2+k*3,none⟩ (.map (some wr.heap.size))).setCell ⟨w.heap.size,2+k*3+1,none⟩ (.int .i64 (-1))).setCell ⟨w.heap.size,2+k*3+2,none⟩ (.int .i64 (-th))) th (k+1):=by
 obtain ⟨cs,h1,h2,h3,h4,h5⟩:=h.box;have hs:=h.sz
 have b0:(wr.alloc (.map #[] 0)).heap[w.heap.size]?=some (.cells cs 201 (0,0)):=(Below.heap_alloc _ _ _ (lt_of_block h1)).trans h1
 have b1:=heap_setCell_same _ _ (2+k*3) _ _ (.map (some wr.heap.size)) b0
 have b2:=heap_setCell_same _ _ (2+k*3+1) _ _ (.int .i64 (-1)) b1
 have b3:=heap_setCell_same _ _ (2+k*3+2) _ _ (.int .i64 (-th)) b2
 have o:Only [w.heap.size] (wr.alloc (.map #[] 0)) ((((wr.alloc (.map #[] 0)).setCell ⟨w.heap.size,2+k*3,none⟩ (.map (some wr.heap.size))).setCell ⟨w.heap.size,2+k*3+1,none⟩ (.int .i64 (-1))).setCell ⟨w.heap.size,2+k*3+2,none⟩ (.int .i64 (-th))):=by
  iterate 3 refine Only.setCell ?_ (by simp) _
  exact Only.refl _ _
 refine ⟨?_,?_,⟨_,b3,by simpa using h2,?_,?_,?_⟩,?_⟩
 ·exact (h.bel.alloc h.bel.size _).trans (o.below (by simp;omega) (by simp))
 ·simp [World.setCell];omega
 ·rw [Array.getElem?_setIfInBounds,if_neg (by omega),Array.getElem?_setIfInBounds,if_neg (by omega),Array.getElem?_setIfInBounds,if_neg (by omega),h3]
 ·rw [Array.getElem?_setIfInBounds,if_neg (by omega),Array.getElem?_setIfInBounds,if_neg (by omega),Array.getElem?_setIfInBounds,if_neg (by omega),h4]
 ·intro i hi;by_cases e:i=k
  ·subst e;refine ⟨?_,?_,?_⟩
   ·rw [Array.getElem?_setIfInBounds,if_neg (by omega),Array.getElem?_setIfInBounds,if_neg (by omega),Array.getElem?_setIfInBounds,if_pos rfl,if_pos (by omega),hs]
   ·rw [Array.getElem?_setIfInBounds,if_neg (by omega),Array.getElem?_setIfInBounds,if_pos rfl,if_pos (by simp;omega)]
   ·rw [Array.getElem?_setIfInBounds,if_pos rfl,if_pos (by simp;omega)]
  ·obtain ⟨q0,q1,q2⟩:=h5 i (by omega)
   refine ⟨?_,?_,?_⟩
   ·rw [Array.getElem?_setIfInBounds,if_neg (by omega),Array.getElem?_setIfInBounds,if_neg (by omega),Array.getElem?_setIfInBounds,if_neg (by omega),q0]
   ·rw [Array.getElem?_setIfInBounds,if_neg (by omega),Array.getElem?_setIfInBounds,if_neg (by omega),Array.getElem?_setIfInBounds,if_neg (by omega),q1]
   ·rw [Array.getElem?_setIfInBounds,if_neg (by omega),Array.getElem?_setIfInBounds,if_neg (by omega),Array.getElem?_setIfInBounds,if_neg (by omega),q2]
 ·intro i hi;refine ξW ?_ o (by simp;omega)
  by_cases e:i=k
  ·subst e;rw [<- hs];exact World.ownsMap_made wr _ _ _
  ·exact (h.maps i (by omega)).alloc _
theorem NSt.done {w wr:World} {th:Int} (h:NSt w wr th 8):∃ mb,(∀ k∈pblks w.heap.size mb,w.heap.size<=k)/\ξy wr w.heap.size mb th 0 (fun _=>-1) (fun _=>-1) []/\Below w.heap.size w wr:=by
 refine ⟨fun i=>w.heap.size+1+i,?_,⟨?_,?_,?_⟩,h.bel⟩
 ·intro k hk;rcases ξ23.1 hk with rfl | ⟨i,hi,rfl⟩<;>omega
 ·obtain ⟨cs,h1,h2,h3,h4,h5⟩:=h.box;exact ⟨cs,h1,h2,h3,h4,fun i hi=>(h5 i hi).1,fun i hi=>(h5 i hi).2.1,fun i hi=>(h5 i hi).2.2⟩
 ·intro i hi;exact ⟨.map [],h.maps i hi,KM.nil _⟩
 ·intro i j _ _ e;omega
theorem ξD (th:Int) (w:World) (h0:1<=th) (h1:th<=1000000) :
 Calls Tryz.prog 83 #[.int .i64 th] w fun e w'=>∃ b,e=.returned (.tuple #[.pointer (some ⟨b,0,none⟩),.nilIface])/\∃ mb,(∀ k∈pblks b mb,w.heap.size<=k)/\ξy w' b mb th 0 (fun _=>-1) (fun _=>-1) []/\Below w.heap.size w w':=by
 have hmm:=@run_makeMap Tryz.prog
 go_enter Tryz.func83,Tryz.ntmps83
 go_wp2_with fail
 go_loopg [16] 8 (fun g x wr=>∃ k:Nat,k+g=8/\x=.int .i64 (k:Int)/\Hid (NSt w wr th k))
 case atStart=>exact ⟨0,by omega,rfl,NSt.start w th⟩
 case round=>
  obtain ⟨k,hkg,rfl,HS⟩:=hrel;by_cases hk:k<8
  ·have hkz:(k:Int)<8:=by omega
   have hsz:=HS.out.sz
   obtain ⟨v0,v1,v2,e0,e1,e2⟩:=HS.out.old hk;have f0:=HS.out.free (2+k*3)
   have f1:=HS.out.free (2+k*3+1)
   have f2:=HS.out.free (2+k*3+2)
   clear hsz;go_wp2_with fail
   go_roundg (8 - (k+1))
   case measure=>omega
   case rel=>
    refine ⟨k+1,by omega,by go_num,?_⟩
    exact HS.out.step hk
  ·have hkz:¬ (k:Int)<8:=by omega
   obtain rfl:k=8:=by omega
   go_wp2_with fail
   go_ret2
   obtain ⟨mb,q1,q2,q3⟩:=HS.out.done;exact ⟨_,rfl,mb,q1,q2,q3⟩
end Go.Proofs.YtpiamlgmadnepaaGreat.Pull
