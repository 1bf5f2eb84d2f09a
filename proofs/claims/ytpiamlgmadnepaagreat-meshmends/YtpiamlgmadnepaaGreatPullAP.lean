/-
 What package pull keeps, in memory; what its small functions return. They change nothing that was there.
-/
import Derived.Test.YtpiamlgmadnepaaGreatPullIP
open Go.Proofs.Tryz
set_option linter.unusedVariables false
namespace Go.Proofs.YtpiamlgmadnepaaGreat.Pull
open Go.ChangeShapes Go.WideShapes Go.ChangeAt Go.RowKit Go.Maps Mem PU
theorem law3:Keyed prog 3:=int_keyed underlying3
theorem keyOf3 {y:Int} (h:(Lit.int .i64 y).wf=true):keyOf prog 3 (.int .i64 y)=some (key y):=keyOf_int_mk underlying3 h
structure Cells (cs:Array Value) (mb:Nat->Nat) (th nw:Int) (td ak:Nat->Int):Prop where
 sz:cs.size=26
 c0:cs[0]?=some (.int .i64 nw)
 c1:cs[1]?=some (.int .i64 th)
 cm:∀ i,i<8->cs[2+i*3]?=some (.map (some (mb i)))
 ct:∀ i,i<8->cs[2+i*3+1]?=some (.int .i64 (td i))
 ca:∀ i,i<8->cs[2+i*3+2]?=some (.int .i64 (lst th (ak i)))
structure ξ8 (w:World) (b:Nat) (mb:Nat->Nat) (th nw:Int) (td ak:Nat->Int) (L:Wts):Prop where
 box:∃ cs,w.heap[b]?=some (.cells cs 201 (0,0))/\Cells cs mb th nw td ak
 map:∀ i,i<8->∃ D,w.ownsMap prog 3 inR (mb i) (Maps.size D) D/\KM D L ((i:Int)+1)
 ap:∀ i j,i<8->j<8->mb i=mb j->i=j
theorem Cells.get0 {w:World} {b:Nat} {cs:Array Value} (h:w.heap[b]?=some (.cells cs 201 (0,0))) (j:Nat):w.cell? ⟨b,j,none⟩=cs[j]?:=by
 simp [World.cell?,h]
theorem ξ8.cells {w:World} {b:Nat} {mb:Nat->Nat} {th nw:Int} {td ak:Nat->Int} {L:Wts} (h:ξ8 w b mb th nw td ak L):w.cell? ⟨b,0,none⟩=some (.int .i64 nw)/\w.cell? ⟨b,1,none⟩=some (.int .i64 th):=by
 obtain ⟨cs,h1,h2⟩:=h.box;exact ⟨(Cells.get0 h1 0).trans h2.c0,(Cells.get0 h1 1).trans h2.c1⟩
theorem ξ8.track {w:World} {b:Nat} {mb:Nat->Nat} {th nw:Int} {td ak:Nat->Int} {L:Wts} (h:ξ8 w b mb th nw td ak L) {i:Nat} (hi:i<8):w.cell? ⟨b,2+i*3,none⟩=some (.map (some (mb i)))/\w.cell? ⟨b,2+i*3+1,none⟩=some (.int .i64 (td i))/\w.cell? ⟨b,2+i*3+2,none⟩=some (.int .i64 (lst th (ak i))):=by
 obtain ⟨cs,h1,h2⟩:=h.box;exact ⟨(Cells.get0 h1 _).trans (h2.cm i hi),(Cells.get0 h1 _).trans (h2.ct i hi),(Cells.get0 h1 _).trans (h2.ca i hi)⟩
theorem ξ8.free {w:World} {b:Nat} {mb:Nat->Nat} {th nw:Int} {td ak:Nat->Int} {L:Wts} (h:ξ8 w b mb th nw td ak L) (j:Nat):w.frozen? ⟨b,j,none⟩=false:=by
 obtain ⟨cs,h1,h2⟩:=h.box;simp [World.frozen?,h1]
theorem ξ8.lt {w:World} {b:Nat} {mb:Nat->Nat} {th nw:Int} {td ak:Nat->Int} {L:Wts} (h:ξ8 w b mb th nw td ak L):b<w.heap.size:=by
 obtain ⟨cs,h1,h2⟩:=h.box;exact lt_of_block h1
theorem ξ8.mlt {w:World} {b:Nat} {mb:Nat->Nat} {th nw:Int} {td ak:Nat->Int} {L:Wts} (h:ξ8 w b mb th nw td ak L) {i:Nat} (hi:i<8):mb i<w.heap.size:=by
 obtain ⟨D,h1,_⟩:=h.map i hi;exact h1.lt
theorem ξ8.ne {w:World} {b:Nat} {mb:Nat->Nat} {th nw:Int} {td ak:Nat->Int} {L:Wts} (h:ξ8 w b mb th nw td ak L) {i:Nat} (hi:i<8):b≠mb i:=by
 obtain ⟨cs,h1,h2⟩:=h.box;obtain ⟨D,h3,_⟩:=h.map i hi;obtain ⟨es,c,h4⟩:=ξc h3;intro e;rw [e,h4] at h1;simp at h1
def pblks (b:Nat) (mb:Nat->Nat):List Nat:=b::(List.range 8).map mb
theorem ξ1f {b k:Nat} {mb:Nat->Nat}:k∈pblks b mb↔k=b∨∃ i,i<8/\k=mb i:=by
 simp only [pblks,Ξf,Ξi,List.mem_range]
 constructor
 ·rintro (h | ⟨i,h1,h2⟩)
  ·exact .inl h
  ·exact .inr ⟨i,h1,h2.symm⟩
 ·rintro (h | ⟨i,h1,h2⟩)
  ·exact .inl h
  ·exact .inr ⟨i,h1,h2.symm⟩
theorem ξ8.blt {w:World} {b:Nat} {mb:Nat->Nat} {th nw:Int} {td ak:Nat->Int} {L:Wts} (h:ξ8 w b mb th nw td ak L):∀ k∈pblks b mb,k<w.heap.size:=by
 intro k hk;rcases ξ1f.1 hk with rfl | ⟨i,hi,rfl⟩
 ·exact h.lt
 ·exact h.mlt hi
theorem ξJ {w w':World} {bs:List Nat} {m n:Nat} {D:DataW Value} (h:w.ownsMap prog 3 inR m n D) (ho:Only bs w w') (hm:m∉bs):w'.ownsMap prog 3 inR m n D:=by
 obtain ⟨es,clock,h4,h5⟩:=h;exact ⟨es,clock,ho.block h4 hm,h5⟩
theorem ξ8.only {w w':World} {b:Nat} {mb:Nat->Nat} {th nw:Int} {td ak:Nat->Int} {L:Wts} {bs:List Nat} (h:ξ8 w b mb th nw td ak L) (ho:Only bs w w') (hb:∀ k∈pblks b mb,k∉bs):ξ8 w' b mb th nw td ak L:=by
 obtain ⟨cs,h1,h2⟩:=h.box;refine ⟨⟨cs,ho.block h1 (hb b (ξ1f.2 (.inl rfl))),h2⟩,fun i hi=>?_,h.ap⟩
 obtain ⟨D,h3,h4⟩:=h.map i hi;exact ⟨D,ξJ h3 ho (hb _ (ξ1f.2 (.inr ⟨i,hi,rfl⟩))),h4⟩
theorem ξ8.below {w w':World} {b:Nat} {mb:Nat->Nat} {th nw:Int} {td ak:Nat->Int} {L:Wts} (h:ξ8 w b mb th nw td ak L) (hb:Below w.heap.size w w'):ξ8 w' b mb th nw td ak L:=
 h.only (Only.of_below hb []) (by simp)
theorem ξ8.mem {w:World} {b:Nat} {mb:Nat->Nat} {th nw:Int} {td ak:Nat->Int} {L K:Wts} (h:ξ8 w b mb th nw td ak L) (e:∀ y,y∈L↔y∈K):ξ8 w b mb th nw td ak K:=
 ⟨h.box,fun i hi=>by obtain ⟨D,h1,h2⟩:=h.map i hi;exact ⟨D,h1,h2.mem fun y _=>e y⟩,h.ap⟩
theorem ξ8.setb {w:World} {b:Nat} {mb:Nat->Nat} {th nw nw':Int} {td ak td' ak':Nat->Int} {L:Wts} (h:ξ8 w b mb th nw td ak L) (j:Nat) (u:Value) (hc:∀ cs:Array Value,Cells cs mb th nw td ak->Cells (cs.setIfInBounds j u) mb th nw' td' ak'):ξ8 (w.setCell ⟨b,j,none⟩ u) b mb th nw' td' ak' L:=by
 obtain ⟨cs,h1,h2⟩:=h.box;have ho:Only [b] w (w.setCell ⟨b,j,none⟩ u):=(Only.refl _ _).setCell (by simp) _
 refine ⟨⟨_,heap_setCell_same w b j cs 201 u h1,hc cs h2⟩,fun i hi=>?_,h.ap⟩
 obtain ⟨D,h3,h4⟩:=h.map i hi;exact ⟨D,ξJ h3 ho (by simp;exact fun e=>h.ne hi e.symm),h4⟩
theorem ξ8.setN {w:World} {b:Nat} {mb:Nat->Nat} {th nw:Int} {td ak:Nat->Int} {L:Wts} (h:ξ8 w b mb th nw td ak L) (x:Int):ξ8 (w.setCell ⟨b,0,none⟩ (.int .i64 x)) b mb th x td ak L:=by
 refine h.setb 0 _ fun cs hc=>⟨by simpa using hc.sz,?_,?_,?_,?_,?_⟩
 ·rw [Ξb,if_pos rfl,if_pos (by have:=hc.sz;omega)]
 ·rw [Ξb,if_neg (by omega)];exact hc.c1
 ·intro i hi;rw [Ξb,if_neg (by omega)];exact hc.cm i hi
 ·intro i hi;rw [Ξb,if_neg (by omega)];exact hc.ct i hi
 ·intro i hi;rw [Ξb,if_neg (by omega)];exact hc.ca i hi
theorem ξ8.setA {w:World} {b:Nat} {mb:Nat->Nat} {th nw:Int} {td ak:Nat->Int} {L:Wts} (h:ξ8 w b mb th nw td ak L) {k:Nat} (hk:k<8) {x:Int} (hx:0<=x):ξ8 (w.setCell ⟨b,2+k*3+2,none⟩ (.int .i64 x)) b mb th nw td (upd ak k x) L:=by
 refine h.setb _ _ fun cs hc=>⟨by simpa using hc.sz,?_,?_,?_,?_,?_⟩
 ·rw [Ξb,if_neg (by omega)];exact hc.c0
 ·rw [Ξb,if_neg (by omega)];exact hc.c1
 ·intro i hi;rw [Ξb,if_neg (by omega)];exact hc.cm i hi
 ·intro i hi;rw [Ξb,if_neg (by omega)];exact hc.ct i hi
 ·intro i hi;rw [Ξb];by_cases e:i=k
  ·rw [if_pos (by omega),if_pos (by have:=hc.sz;omega)]
   simp only [upd,e,if_true,lst]
   rw [if_neg (by omega)]
  ·rw [if_neg (by omega)];simp only [upd,if_neg e];exact hc.ca i hi
theorem ξ8.turned {w w':World} {b:Nat} {mb:Nat->Nat} {th nw:Int} {td ak:Nat->Int} {L K:Wts} (h:ξ8 w b mb th nw td ak L) {k:Nat} (hk:k<8) (ho:Only [mb k] w w') (hm:∃ D n,w'.ownsMap prog 3 inR (mb k) n D/\KM D K ((k:Int)+1)) (e:∀ y,y.b≠(k:Int)+1->(y∈L↔y∈K)):ξ8 w' b mb th nw td ak K:=by
 obtain ⟨cs,h1,h2⟩:=h.box;refine ⟨⟨cs,ho.block h1 (by simp;exact h.ne hk),h2⟩,fun i hi=>?_,h.ap⟩
 by_cases q:i=k
 ·subst q;obtain ⟨D,n,h3,h4⟩:=hm;exact ⟨D,PU.tight h3,h4⟩
 ·obtain ⟨D,h3,h4⟩:=h.map i hi;exact ⟨D,ξJ h3 ho (by simp;exact fun z=>q (h.ap i k hi hk z)),h4.mem fun y hy=>e y (by omega)⟩
theorem ξ8.size {w:World} {b:Nat} {mb:Nat->Nat} {th nw:Int} {td ak:Nat->Int} {L:Wts} (h:ξ8 w b mb th nw td ak L) (hI:PU.Inv L) {i:Nat} (hi:i<8):∃ D,w.ownsMap prog 3 inR (mb i) (Maps.size D) D/\KM D L ((i:Int)+1)/\Maps.size D=(of L ((i:Int)+1)).length:=by
 obtain ⟨D,h1,h2⟩:=h.map i hi;exact ⟨D,h1,h2,h2.size (h1.entries law3) hI.uq⟩
theorem ξ3T (x:Int) (w:World):Calls prog 189 #[.int .i64 x] w fun e w'=>e=.returned (.bool (decide (0<=x)&&decide (x<=200)))/\w'=w:=by
 by_cases h:0<=x
 ·have d:decide (0<=x)=true:=by simpa using h
  go_enter func189,ntmps189
  go_wp2_with fail
  go_ret
  exact ⟨by simp [h],rfl⟩
 ·have d:decide (0<=x)=false:=by simpa using h
  go_enter func189,ntmps189
  go_wp2_with fail
  go_ret
  exact ⟨by simp,rfl⟩
theorem ξl (x:Int) (w:World):Calls prog 190 #[.int .i64 x] w fun e w'=>e=.returned (.bool (decide (1<=x)&&decide (x<=8)))/\w'=w:=by
 by_cases h:1<=x
 ·have d:decide (1<=x)=true:=by simpa using h
  go_enter func190,ntmps190
  go_wp2_with fail
  go_ret
  exact ⟨by simp [h],rfl⟩
 ·have d:decide (1<=x)=false:=by simpa using h
  go_enter func190,ntmps190
  go_wp2_with fail
  go_ret
  exact ⟨by simp,rfl⟩
theorem ξ6D (b i:Nat) (w:World) (hi:i<8):Calls prog 191 #[.pointer (some ⟨b,0,none⟩),.int .i64 ((i:Int)+1)] w fun e w'=>e=.returned (.pointer (some ⟨b,2+i*3,none⟩))/\w'=w:=by
 have h2:(i:Int)<8:=by omega
 go_enter func191,ntmps191
 go_wp2_with fail
 go_ret
 exact ⟨rfl,rfl⟩
end Go.Proofs.YtpiamlgmadnepaaGreat.Pull
