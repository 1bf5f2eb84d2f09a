/-
 What the proof needs.
-/
import Derived.Test.YtpiamlgmadnepaaGreatPackAll
import Derived.Outline
import Derived.RegionTactic
open Go.Proofs.Tryz
set_option linter.unusedVariables false
set_option maxHeartbeats 1000000
namespace Go.Proofs.YtpiamlgmadnepaaGreat.Layer
open ChangeShapes WideShapes ChangeAt RowKit PM Mem Pack LM
variable {w w':World}{b:Nat}{m nw la:Int}{br:Bool}
def ξ5(w:World)(b:Nat)(m nw la:Int)(br:Bool):Prop:=w.heap[b]?=some (.cells #[.int .i64 m,.int .i64 nw,.int .i64 la,.bool br] 128 (0,0))
theorem ξ5.cells(h:ξ5 w b m nw la br) :
 w.cell? ⟨b,0,none⟩=some (.int .i64 m)/\w.cell? ⟨b,1,none⟩=some (.int .i64 nw)/\w.cell? ⟨b,2,none⟩=some (.int .i64 la)/\w.cell? ⟨b,3,none⟩=some (.bool br):=by
 simp only[ξ5]at h;refine⟨?_,?_,?_,?_⟩<;>simp[World.cell?,h]
theorem ξ5.free(h:ξ5 w b m nw la br)(j:Nat):w.frozen? ⟨b,j,none⟩=false:=by
 simp only[ξ5]at h;simp[World.frozen?,h]
theorem ξ5.lt(h:ξ5 w b m nw la br):b<w.heap.size:=lt_of_block h
theorem ξ5.only{bs:List Nat}(h:ξ5 w b m nw la br)(ho:Only bs w w')(hb:b∉bs):ξ5 w' b m nw la br:=ho.block h hb
theorem ξ5.below(h:ξ5 w b m nw la br)(hb:Below w.heap.size w w'):ξ5 w' b m nw la br:=h.only (Only.of_below hb []) (by simp)
theorem ξ5.alloc(h:ξ5 w b m nw la br)(O:Obj):ξ5 (w.alloc O) b m nw la br:=h.below ((Ξp _ _).alloc (Ξo _) O)
theorem ξ5.A4u(h:ξ5 w b m nw la br)(x:Int):ξ5 (w.setCell ⟨b,1,none⟩ (.int .i64 x)) b m x la br:=heap_setCell_same w b 1 _ _ _ h
theorem ξ5.A5f(h:ξ5 w b m nw la br)(x:Int):ξ5 (w.setCell ⟨b,2,none⟩ (.int .i64 x)) b m nw x br:=heap_setCell_same w b 2 _ _ _ h
theorem ξ5.setB(h:ξ5 w b m nw la br)(x:Bool):ξ5 (w.setCell ⟨b,3,none⟩ (.bool x)) b m nw la x:=heap_setCell_same w b 3 _ _ _ h
theorem ξ1U(y:Int)(w:World) :
 Calls prog 61 #[.int .i64 y] w λe w'=>e=.returned (.bool (decide (0<=y/\y<=3)))/\w'=w:=by
 by_cases h:0<=y
 ·have d:decide (0<=y)=true:=by simpa using h
  go_enter func61,ntmps61;go_wp2_with fail
  go_ret;exact⟨by simp[h],rfl⟩
 ·have d:decide (0<=y)=false:=by simpa using h
  go_enter func61,ntmps61;go_wp2_with fail
  go_ret;exact⟨by simp,rfl⟩
theorem ξ15(y:Int)(w:World)(h0:0<=y)(h1:y<=3) :
 Calls prog 61 #[.int .i64 y] w λe w'=>e=.returned (.bool true)/\w'=w:=by
 have:=ξ1U y w;rw[show decide (0<=y/\y<=3)=true by simp[h0,h1]]at this;exact this
theorem ξ12(m:Int)(w:World)(h0:0<=m)(h1:m<=3) :
 Calls prog 22 #[.int .i64 m] w λe w'=>∃b,e=.returned (.tuple #[.pointer (some ⟨b,0,none⟩),.nilIface])/\w.heap.size<=b/\ξ5 w' b m (-1) (-1) false/\Below w.heap.size w w':=by
 have H:=ξ0 (λW=>ξ15 m W h0 h1);go_enter func22,ntmps22;go_wp2_with fail
 refine(H.out _).mono ?_;rintro e w1 ⟨rfl,rfl⟩;go_wp2_with fail;go_ret2;exact⟨_,rfl,Ξo _,heap_alloc_new _ _,(Ξp _ _).alloc (Ξo _) _⟩
theorem ξ2w(b:Nat)(m nw la:Int)(br:Bool)(w:World)(h:ξ5 w b m nw la br) :
 Calls prog 108 #[.pointer (some ⟨b,0,none⟩)] w λe w'=>e=.returned (.bool (wants m nw br))/\∃k,w'=w.drewN k:=by
 obtain⟨c0,c1,c2,c3⟩:=h.cells;clear h c2;by_cases p:nw=-1
 ·have e:wants m nw br=true:=by simp[wants,p]
  rw[e];subst p;clear e;go_enter func108,ntmps108;go_wp2_with fail
  go_quiet (fail)
  go_wp2_with fail
  go_ret;exact⟨rfl,_,rfl⟩
 ·have e:wants m nw br=(br||decide (m<nw)):=by simp[wants,p]
  rw[e];clear e;have d1:(nw==-1)=false:=by simpa using p
  have d2:decide (nw=-1)=false:=by simpa using p
  clear p;cases br with
  | true=>
    go_enter func108,ntmps108;go_wp2_with fail
    go_quiet (fail)
    go_wp2_with fail
    go_ret;exact⟨rfl,_,rfl⟩
  | false=>
    go_enter func108,ntmps108;go_wp2_with fail
    go_quiet (fail)
    go_wp2_with fail
    go_ret;exact⟨rfl,_,rfl⟩
end Go.Proofs.YtpiamlgmadnepaaGreat.Layer
