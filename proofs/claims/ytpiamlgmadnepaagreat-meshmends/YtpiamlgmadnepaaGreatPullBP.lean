/-
 What New and Want of package pull return, and what they leave in memory. Their condition: what is kept is such as it may be.
-/
import Derived.Test.YtpiamlgmadnepaaGreatPullAP
open Go.Proofs.Tryz
set_option linter.unusedVariables false
set_option maxHeartbeats 1000000
set_option maxRecDepth 100000
namespace Go.Proofs.YtpiamlgmadnepaaGreat.Pull
open Go.ChangeShapes Go.WideShapes Go.ChangeAt Go.RowKit Go.Maps Mem PU
structure NSt (w wr:World) (th:Int) (k:Nat):Prop where
 bel:Below w.heap.size w wr
 sz:wr.heap.size=w.heap.size+1+k
 box:∃ cs,wr.heap[w.heap.size]?=some (.cells cs 201 (0,0))/\cs.size=26/\cs[0]?=some (.int .i64 0)/\cs[1]?=some (.int .i64 th)/\∀ i,i<k->cs[2+i*3]?=some (.map (some (w.heap.size+1+i)))/\cs[2+i*3+1]?=some (.int .i64 (-1))/\cs[2+i*3+2]?=some (.int .i64 (-th))
 maps:∀ i,i<k->wr.ownsMap prog 3 inR (w.heap.size+1+i) 0 (.map [])
theorem NSt.start (w:World) (th:Int):NSt w (w.alloc (.cells #[.int .i64 0,.int .i64 th,.map none,.int .i64 0,.int .i64 0,.map none,.int .i64 0,.int .i64 0,.map none,.int .i64 0,.int .i64 0,.map none,.int .i64 0,.int .i64 0,.map none,.int .i64 0,.int .i64 0,.map none,.int .i64 0,.int .i64 0,.map none,.int .i64 0,.int .i64 0,.map none,.int .i64 0,.int .i64 0] 201)) th 0:=
 ⟨(Ξp _ _).alloc (Ξo _) _,by simp,⟨_,heap_alloc_new w _,rfl,rfl,rfl,fun i hi=>absurd hi (by omega)⟩,fun i hi=>absurd hi (by omega)⟩
theorem NSt.old {w wr:World} {th:Int} {k:Nat} (h:NSt w wr th k) (hk:k<8):∃ v0 v1 v2,(wr.alloc (.map #[] 0)).cell? ⟨w.heap.size,2+k*3,none⟩=some v0/\(wr.alloc (.map #[] 0)).cell? ⟨w.heap.size,2+k*3+1,none⟩=some v1/\(wr.alloc (.map #[] 0)).cell? ⟨w.heap.size,2+k*3+2,none⟩=some v2:=by
 obtain ⟨cs,h1,h2,_⟩:=h.box;have h3:(wr.alloc (.map #[] 0)).heap[w.heap.size]?=some (.cells cs 201 (0,0)):=(Below.heap_alloc _ _ _ (lt_of_block h1)).trans h1
 refine ⟨cs[2+k*3]'(by omega),cs[2+k*3+1]'(by omega),cs[2+k*3+2]'(by omega),?_,?_,?_⟩
 ·rw [Cells.get0 h3,Array.getElem?_eq_getElem]
 ·rw [Cells.get0 h3,Array.getElem?_eq_getElem]
 ·rw [Cells.get0 h3,Array.getElem?_eq_getElem]
theorem NSt.free {w wr:World} {th:Int} {k:Nat} (h:NSt w wr th k) (j:Nat):(wr.alloc (.map #[] 0)).frozen? ⟨w.heap.size,j,none⟩=false:=by
 obtain ⟨cs,h1,h2,_⟩:=h.box;have h3:(wr.alloc (.map #[] 0)).heap[w.heap.size]?=some (.cells cs 201 (0,0)):=(Below.heap_alloc _ _ _ (lt_of_block h1)).trans h1
 simp [World.frozen?,h3]
theorem NSt.step {w wr:World} {th:Int} {k:Nat} (h:NSt w wr th k) (hk:k<8):NSt w ((((wr.alloc (.map #[] 0)).setCell ⟨w.heap.size,2+k*3,none⟩ (.map (some wr.heap.size))).setCell ⟨w.heap.size,2+k*3+1,none⟩ (.int .i64 (-1))).setCell ⟨w.heap.size,2+k*3+2,none⟩ (.int .i64 (-th))) th (k+1):=by
 obtain ⟨cs,h1,h2,h3,h4,h5⟩:=h.box;have hs:=h.sz
 have b0:(wr.alloc (.map #[] 0)).heap[w.heap.size]?=some (.cells cs 201 (0,0)):=(Below.heap_alloc _ _ _ (lt_of_block h1)).trans h1
 have b1:=heap_setCell_same _ _ (2+k*3) _ _ (.map (some wr.heap.size)) b0
 have b2:=heap_setCell_same _ _ (2+k*3+1) _ _ (.int .i64 (-1)) b1
 have b3:=heap_setCell_same _ _ (2+k*3+2) _ _ (.int .i64 (-th)) b2
 have o:Only [w.heap.size] (wr.alloc (.map #[] 0)) ((((wr.alloc (.map #[] 0)).setCell ⟨w.heap.size,2+k*3,none⟩ (.map (some wr.heap.size))).setCell ⟨w.heap.size,2+k*3+1,none⟩ (.int .i64 (-1))).setCell ⟨w.heap.size,2+k*3+2,none⟩ (.int .i64 (-th))):=by
  iterate 3 refine Only.setCell ?_ (by simp) _
  exact Only.refl _ _
 refine ⟨?_,?_,⟨_,b3,by simpa using h2,?_,?_,?_⟩,?_⟩
 ·exact (h.bel.alloc h.bel.size _).trans (o.below (by simp;omega) (by simp))
 ·simp [World.setCell];omega
 ·rw [Ξb,if_neg (by omega),Ξb,if_neg (by omega),Ξb,if_neg (by omega),h3]
 ·rw [Ξb,if_neg (by omega),Ξb,if_neg (by omega),Ξb,if_neg (by omega),h4]
 ·intro i hi;by_cases e:i=k
  ·subst e;refine ⟨?_,?_,?_⟩
   ·rw [Ξb,if_neg (by omega),Ξb,if_neg (by omega),Ξb,if_pos rfl,if_pos (by omega),hs]
   ·rw [Ξb,if_neg (by omega),Ξb,if_pos rfl,if_pos (by simp;omega)]
   ·rw [Ξb,if_pos rfl,if_pos (by simp;omega)]
  ·obtain ⟨q0,q1,q2⟩:=h5 i (by omega)
   refine ⟨?_,?_,?_⟩
   ·rw [Ξb,if_neg (by omega),Ξb,if_neg (by omega),Ξb,if_neg (by omega),q0]
   ·rw [Ξb,if_neg (by omega),Ξb,if_neg (by omega),Ξb,if_neg (by omega),q1]
   ·rw [Ξb,if_neg (by omega),Ξb,if_neg (by omega),Ξb,if_neg (by omega),q2]
 ·intro i hi;refine ξJ ?_ o (by simp;omega)
  by_cases e:i=k
  ·subst e;rw [<- hs];exact World.ownsMap_made wr _ _ _
  ·exact (h.maps i (by omega)).alloc _
theorem NSt.done {w wr:World} {th:Int} (h:NSt w wr th 8):∃ mb,(∀ k∈pblks w.heap.size mb,w.heap.size<=k)/\ξ8 wr w.heap.size mb th 0 (fun _=>-1) (fun _=>-1) []/\Below w.heap.size w wr:=by
 refine ⟨fun i=>w.heap.size+1+i,?_,⟨?_,?_,?_⟩,h.bel⟩
 ·intro k hk;rcases ξ1f.1 hk with rfl | ⟨i,hi,rfl⟩<;>omega
 ·obtain ⟨cs,h1,h2,h3,h4,h5⟩:=h.box;exact ⟨cs,h1,h2,h3,h4,fun i hi=>(h5 i hi).1,fun i hi=>(h5 i hi).2.1,fun i hi=>(h5 i hi).2.2⟩
 ·intro i hi;exact ⟨.map [],h.maps i hi,KM.nil _⟩
 ·intro i j _ _ e;omega
theorem ξfx (th:Int) (w:World) (h:th<1∨1000000<th) :
 Calls prog 83 #[.int .i64 th] w fun e w'=>e=.returned (.tuple #[.pointer none,errv 1])/\w'=w:=by
 by_cases c:th<1
 ·clear h;go_enter func83,ntmps83
  go_wp2_with fail
  go_ret2
  exact ⟨rfl,rfl⟩
 ·have c1:1000000<th:=by omega
  clear h;go_enter func83,ntmps83
  go_wp2_with fail
  go_ret2
  exact ⟨rfl,rfl⟩
theorem ξZ (th:Int) (w:World) (h0:1<=th) (h1:th<=1000000) :
 Calls prog 83 #[.int .i64 th] w fun e w'=>∃ b,e=.returned (.tuple #[.pointer (some ⟨b,0,none⟩),.nilIface])/\∃ mb,(∀ k∈pblks b mb,w.heap.size<=k)/\ξ8 w' b mb th 0 (fun _=>-1) (fun _=>-1) []/\Below w.heap.size w w':=by
 have hmm:=@run_makeMap prog
 go_enter func83,ntmps83
 go_wp2_with fail
 go_loopg [16] 8 (fun g x wr=>∃ k:Nat,k+g=8/\x=.int .i64 (k:Int)/\Hid (NSt w wr th k))
 case atStart=>exact ⟨0,by omega,rfl,NSt.start w th⟩
 case round=>
  obtain ⟨k,hkg,rfl,HS⟩:=hrel;by_cases hk:k<8
  ·have hkz:(k:Int)<8:=by omega
   have hsz:=HS.out.sz
   obtain ⟨v0,v1,v2,e0,e1,e2⟩:=HS.out.old hk;have f0:=HS.out.free (2+k*3)
   have f1:=HS.out.free (2+k*3+1)
   have f2:=HS.out.free (2+k*3+2)
   clear hsz;go_wp2_with fail
   go_roundg (8 - (k+1))
   case measure=>omega
   case rel=>
    refine ⟨k+1,by omega,by go_num,?_⟩
    exact HS.out.step hk
  ·have hkz:¬ (k:Int)<8:=by omega
   obtain rfl:k=8:=by omega
   go_wp2_with fail
   go_ret2
   obtain ⟨mb,q1,q2,q3⟩:=HS.out.done;exact ⟨_,rfl,mb,q1,q2,q3⟩
def Puts (L:Wts) (x:Wt) (K:Wts):Prop:=∀ y,y∈K↔(y∈L/\¬ (y.a=x.a/\y.b=x.b))∨y=x
theorem ξce (L:Wts) (x:Wt):Puts L x (put L x):=fun y=>ξ2A
theorem ξ8C {w:World} {b:Nat} {mb:Nat->Nat} {th nw:Int} {td ak:Nat->Int} {L K:Wts} (h:ξ8 w b mb th nw td ak L) (hI:PU.Inv L) (hl:L.length<=1000) {k:Nat} (hk:k<8) {x:Wt} (hx:x.b=(k:Int)+1) (hw:(Lit.int .i64 x.a).wf=true) (hP:Puts L x K) :
 ∃ w2,(Instr.mapUpdate 196 (.map (some (mb k))) (.int .i64 x.a) (.int .i64 x.c)).run prog w=.ok () w2/\ξ8 w2 b mb th nw td ak K/\Only (pblks b mb) w w2:=by
 obtain ⟨D,hown,hK,hS⟩:=h.size hI hk;have hlen:=ξaC L ((k:Int)+1)
 obtain ⟨w2,hrun,hown2,hturn⟩:=hown.store law3 underlying196 (by unfold maxLen;omega) (keyOf3 hw) (ξf8 x.c)
 have ho:Only [mb k] w w2:=(Only.refl _ _).grown hturn.grown (by simp)
 refine ⟨w2,hrun,h.turned hk ho ⟨_,_,hown2,?_⟩ ?_,ho.mono (by intro j hj;simp at hj;exact ξ1f.2 (.inr ⟨k,hk,hj⟩))⟩
 ·rw [<- hx] at hK ⊢;refine hK.put hown.isMap fun y hy=>?_
  rw [hP y];constructor
  ·rintro (⟨h1,h2⟩ | h1)
   ·exact .inl ⟨h1,fun e=>h2 ⟨e,hy⟩⟩
   ·exact .inr h1
  ·rintro (⟨h1,h2⟩ | h1)
   ·exact .inl ⟨h1,fun e=>h2 e.1⟩
   ·exact .inr h1
 ·intro y hy;rw [hP y];constructor
  ·intro h1;exact .inl ⟨h1,fun e=>hy (by rw [e.2,hx])⟩
  ·rintro (⟨h1,h2⟩ | rfl)
   ·exact h1
   ·exact absurd hx hy
theorem ξbO (p:Value) (a t c:Int) (w:World) (h:wf a t c≠0) :
 Calls prog 156 #[p,.int .i64 a,.int .i64 t,.int .i64 c] w fun e w'=>e=.returned (errv 1)/\w'=w:=by
 have hne:¬ (0<=a/\a<=200/\1<=t/\t<=8/\0<=c/\c<=3):=fun q=>h (ξ4N.2 q)
 clear h;have C1:=ξ3T a w
 have C2:=ξl t w
 by_cases h1:0<=a/\a<=200
 case neg=>
  have d:(decide (0<=a)&&decide (a<=200))=false:=by
   by_cases q:0<=a
   ·rw [decide_eq_false (show ¬ a<=200 by omega),Bool.and_false]
   ·rw [decide_eq_false q,Bool.false_and]
  rw [d] at C1;have HC1:=ξ0 C1
  clear C1 C2 d h1 hne;go_enter func156,ntmps156
  go_wp2_with fail
  refine HC1.out.mono ?_
  rintro e w1 ⟨rfl,rfl⟩;go_wp2_with fail
  go_ret
  exact ⟨rfl,rfl⟩
 rw [decide_eq_true h1.1,decide_eq_true h1.2] at C1;by_cases h2:1<=t/\t<=8
 case neg=>
  have d:(decide (1<=t)&&decide (t<=8))=false:=by
   by_cases q:1<=t
   ·rw [decide_eq_false (show ¬ t<=8 by omega),Bool.and_false]
   ·rw [decide_eq_false q,Bool.false_and]
  rw [d] at C2;have HC1:=ξ0 C1
  have HC2:=ξ0 C2
  clear C1 C2 d h1 h2 hne;go_enter func156,ntmps156
  go_wp2_with fail
  refine HC1.out.mono ?_
  rintro e w1 ⟨rfl,rfl⟩;go_wp2_with fail
  refine HC2.out.mono ?_
  rintro e w1 ⟨rfl,rfl⟩;go_wp2_with fail
  go_ret
  exact ⟨rfl,rfl⟩
 rw [decide_eq_true h2.1,decide_eq_true h2.2] at C2;have HC1:=ξ0 C1
 have HC2:=ξ0 C2
 clear C1 C2;by_cases h3:c<0
 ·clear h1 h2 hne;go_enter func156,ntmps156
  go_wp2_with fail
  refine HC1.out.mono ?_
  rintro e w1 ⟨rfl,rfl⟩;go_wp2_with fail
  refine HC2.out.mono ?_
  rintro e w1 ⟨rfl,rfl⟩;go_wp2_with fail
  go_ret
  exact ⟨rfl,rfl⟩
 ·have h4:3<c:=by omega
  clear h1 h2 hne;go_enter func156,ntmps156
  go_wp2_with fail
  refine HC1.out.mono ?_
  rintro e w1 ⟨rfl,rfl⟩;go_wp2_with fail
  refine HC2.out.mono ?_
  rintro e w1 ⟨rfl,rfl⟩;go_wp2_with fail
  go_ret
  exact ⟨rfl,rfl⟩
theorem ξdt (b:Nat) (mb:Nat->Nat) (th nw a t c:Int) (td ak:Nat->Int) (L K:Wts) (w:World) (h:ξ8 w b mb th nw td ak L) (hI:PU.Inv L) (hl:L.length<=1000) (h0:wf a t c=0) (hP:Puts L ⟨a,t,c⟩ K) :
 Calls prog 156 #[.pointer (some ⟨b,0,none⟩),.int .i64 a,.int .i64 t,.int .i64 c] w fun e w'=>e=.returned .nilIface/\ξ8 w' b mb th nw td ak K/\Only (pblks b mb) w w':=by
 obtain ⟨g1,g2,g3,g4,g5,g6⟩:=ξ4N.1 h0;simp only at g1 g2 g3 g4 g5 g6
 obtain ⟨i,rfl⟩:∃ i:Nat,t=(i:Int)+1:=⟨(t - 1).toNat,by omega⟩
 have hi:i<8:=by omega
 have C1:=ξ3T a w
 have C2:=ξl ((i:Int)+1) w
 rw [decide_eq_true g1,decide_eq_true g2] at C1;rw [decide_eq_true g3,decide_eq_true g4] at C2;have HC1:=ξ0 C1
 have HC2:=ξ0 C2
 have HC3:=ξ0 (ξ6D b i w hi)
 obtain ⟨w2,hrun,hp2,ho2⟩:=ξ8C h hI hl hi (x:=⟨a,(i:Int)+1,c⟩) rfl (ξL (by simp only;omega) (by simp only;omega)) hP
 simp only at hrun
 have HP2:=ξ0 hp2
 have HO2:=ξ0 ho2
 have ct:=(h.track hi).1
 have d5:decide (c<0)=false:=by simp;omega
 have d6:decide (3<c)=false:=by simp;omega
 clear C1 C2 h hp2 ho2 hP h0 g5 g6 g1 g2 g3 g4 hI;go_enter func156,ntmps156
 go_wp2_with fail
 refine HC1.out.mono ?_
 rintro e w1 ⟨rfl,rfl⟩;go_wp2_with fail
 refine HC2.out.mono ?_
 rintro e w1 ⟨rfl,rfl⟩;go_wp2_with fail
 refine HC3.out.mono ?_
 rintro e w1 ⟨rfl,rfl⟩;go_wp2_with fail
 go_ret
 exact ⟨rfl,HP2.out,HO2.out⟩
def Wanted (L:Wts) (a t c:Int) (K:Wts):Prop:=(wf a t c=0->Puts L ⟨a,t,c⟩ K)/\(wf a t c≠0->∀ y,y∈L↔y∈K)
theorem ξ8u (b:Nat) (mb:Nat->Nat) (th nw a t c:Int) (td ak:Nat->Int) (L K:Wts) (w:World) (h:ξ8 w b mb th nw td ak L) (hI:PU.Inv L) (hl:L.length<=1000) (hP:Wanted L a t c K) :
 Calls prog 156 #[.pointer (some ⟨b,0,none⟩),.int .i64 a,.int .i64 t,.int .i64 c] w fun e w'=>e=.returned (errv (wf a t c))/\ξ8 w' b mb th nw td ak K/\Only (pblks b mb) w w':=by
 by_cases h0:wf a t c=0
 ·rw [h0];exact ξdt b mb th nw a t c td ak L K w h hI hl h0 (hP.1 h0)
 ·have h1:wf a t c=1:=by have:=ξfj a t c;omega
  rw [h1];refine (ξbO _ a t c w h0).mono ?_
  rintro e w' ⟨rfl,rfl⟩;exact ⟨rfl,h.mem (hP.2 h0),Only.refl _ _⟩
end Go.Proofs.YtpiamlgmadnepaaGreat.Pull
