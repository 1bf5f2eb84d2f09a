/-
 BackA, BackB, BackC, BackD, BackE, BackF, BackG, BackM2 in one text.
-/
import Derived.Test.YtpiamlgmadnepaaGreatMathAll
import Derived.Test.YtpiamlgmadnepaaGreatMemP
import Derived.Test.YtpiamlgmadnepaaGreatShelfBP
import Derived.Test.YtpiamlgmadnepaaGreatRows
import Derived.WalkKit
import Derived.ProofKit
import Derived.OpenShut
import Derived.ChangeOld
import Derived.Below
import Derived.Deep.QuietTactic
import Derived.BigQuiet
import Derived.Laws.AppendOwnNone
import Derived.Sort.OwnSortedInts
import Derived.WalkSmall
import Derived.WalkSpells
import Derived.LoopTactic
import Derived.Laws.BitsAllLaws
import Derived.Deep.LoopGhost
import Derived.Deep.CutRange
open Go.Proofs.Tryz
set_option linter.unusedVariables false
set_option maxHeartbeats 4000000
set_option maxRecDepth 100000
namespace Go.Proofs.YtpiamlgmadnepaaGreat.Back
open Go.ChangeShapes Go.WideShapes Go.ChangeAt Go.RowKit Go.Sort Go.Lib BM Mem
def errv (e:Nat):Value:=if e=0 then .nilIface else .iface 101 (.int .i64 (e:Int))
theorem ξ4:errv 0=.nilIface:=rfl
theorem ξi {e:Nat} (h:e≠0):errv e=.iface 101 (.int .i64 (e:Int)):=by simp [errv,h]
theorem info3:(prog.info? 3).map (fun i=>(i.zero,i.size,i.bytes))=some (some (.int .i64 0),1,8):=by kernel_rfl
theorem infoPR:(prog.info? 297).map (fun i=>(i.zero,i.size,i.bytes))=some (some (.agg #[.int .i64 0,.int .i64 0]),2,16):=by kernel_rfl
def ic (L:List Int):List Value:=L.map (Value.int .i64)
theorem ξK (L:List Int):(ic L).length=L.length:=by simp [ic]
theorem ξ2F (L:List Int) (j:Nat) (h:j<L.length):(ic L)[j]?=some (.int .i64 (L.getD j 0)):=by
 simp [ic,List.getD_eq_getElem?_getD,List.getElem?_eq_getElem h]
def Ints (w:World) (a:Option Addr) (L:List Int):Prop:=∀ j,j<L.length->∃ b o,a=some ⟨b,o,none⟩/\w.cell? ⟨b,o+j,none⟩=some (.int .i64 (L.getD j 0))
def IArg (w:World) (a:Option Addr) (n:Nat) (L:List Int):Prop:=Ints w a L/\L.length=n/\n<=9223372036854775807
theorem IArg.below {w w':World} {a:Option Addr} {n:Nat} {L:List Int} (h:IArg w a n L) (hb:Below w.heap.size w w'):IArg w' a n L:=by
 refine ⟨fun j hj=>?_,h.2⟩
 obtain ⟨b,o,e,hc⟩:=h.1 j hj;exact ⟨b,o,e,(hb.cell (p:=⟨b,o+j,none⟩) (Ξq w ⟨b,o+j,none⟩ hc)).trans hc⟩
theorem IArg.nil (w:World) (a:Option Addr):IArg w a 0 []:=⟨fun j h=>absurd h (by simp),rfl,by omega⟩
theorem IArg.at {w:World} {a:Option Addr} {n:Nat} {L:List Int} (h:IArg w a n L) (hn:0<n):∃ b o,a=some ⟨b,o,none⟩/\∀ j,j<n->w.cell? ⟨b,o+j,none⟩=some (.int .i64 (L.getD j 0)):=by
 obtain ⟨b,o,e,_⟩:=h.1 0 (by have:=h.2.1;omega)
 refine ⟨b,o,e,fun j hj=>?_⟩
 obtain ⟨b',o',e',hc⟩:=h.1 j (by have:=h.2.1;omega)
 rw [e,Option.some.injEq,Addr.mk.injEq] at e';obtain ⟨rfl,rfl,_⟩:=e';exact hc
theorem ξo {w:World} {base n:Nat} {v:Value} {L:List Int} (h:w.ownsRow base 3 1 v n (ic L)) (hn:n<=9223372036854775807) :
 ∃ a cap,v=.slice a n cap/\IArg w a n L/\(a=none->n=0/\cap=0)/\n<=cap/\∀ ad,a=some ad->∃ g,ad=⟨g,0,none⟩/\base<=g/\g<w.heap.size:=by
 have hl:L.length=n:=by have:=h.1;rw [ξK] at this;omega
 rcases h.2 with ⟨rfl,rfl⟩ | ⟨g,cap,cur,rfl,hg,hb,hc,hm,hs,ht⟩
 ·have:L=[]:=Ξk hl
  subst this;exact ⟨none,0,rfl,IArg.nil _ _,fun _=>⟨rfl,rfl⟩,Ξo _,fun ad e=>by simp at e⟩
 ·refine ⟨_,cap,rfl,⟨fun j hj=>⟨g,0,rfl,?_⟩,hl,hn⟩,fun e=>by simp at e,hc,fun ad e=>⟨g,by simpa using e.symm,hg,lt_of_block hb⟩⟩
  rw [Nat.zero_add,h.cellAt j (by omega),ξ2F L j hj]
def pc (l:List (Int×Int)):List Value:=l.flatMap fun p=>[.int .i64 p.1,.int .i64 p.2]
theorem ξ18:∀ l:List (Int×Int),(pc l).length=l.length*2
 | []=>rfl
 | p::l=>by have:=ξ18 l;simp [pc] at this ⊢;omega
theorem ξ3d (l k:List (Int×Int)):pc (l++k)=pc l++pc k:=by simp [pc]
theorem ξ3c (p:Int×Int):pc [p]=[.int .i64 p.1,.int .i64 p.2]:=rfl
theorem ξ6x:∀ (l:List (Int×Int)) (j:Nat),j<l.length->(pc l)[j*2]?=some (.int .i64 (l.getD j (0,0)).1)/\(pc l)[j*2+1]?=some (.int .i64 (l.getD j (0,0)).2)
 | [],j,h=>absurd h (by simp)
 | p::l,0,_=>⟨rfl,rfl⟩
 | p::l,j+1,h=>by
   have:=ξ6x l j (by simpa using h)
   have e:pc (p::l)=.int .i64 p.1::.int .i64 p.2::pc l:=rfl
   rw [e,show (j+1)*2=j*2+1+1 by omega]
   simpa using this
def Prs (w:World) (a:Option Addr) (l:List (Int×Int)):Prop:=∀ j,j<l.length->∃ b o,a=some ⟨b,o,none⟩/\w.cell? ⟨b,o+j*2,none⟩=some (.int .i64 (l.getD j (0,0)).1)/\w.cell? ⟨b,o+j*2+1,none⟩=some (.int .i64 (l.getD j (0,0)).2)
def PArg (w:World) (a:Option Addr) (n:Nat) (l:List (Int×Int)):Prop:=Prs w a l/\l.length=n/\n<=9223372036854775807
theorem PArg.below {w w':World} {a:Option Addr} {n:Nat} {l:List (Int×Int)} (h:PArg w a n l) (hb:Below w.heap.size w w'):PArg w' a n l:=by
 refine ⟨fun j hj=>?_,h.2⟩
 obtain ⟨b,o,e,hc,hd⟩:=h.1 j hj;exact ⟨b,o,e,(hb.cell (p:=⟨b,o+j*2,none⟩) (Ξq w _ hc)).trans hc,(hb.cell (p:=⟨b,o+j*2+1,none⟩) (Ξq w _ hd)).trans hd⟩
theorem PArg.nil (w:World) (a:Option Addr):PArg w a 0 []:=⟨fun j h=>absurd h (by simp),rfl,by omega⟩
theorem PArg.at {w:World} {a:Option Addr} {n:Nat} {l:List (Int×Int)} (h:PArg w a n l) (hn:0<n):∃ b o,a=some ⟨b,o,none⟩/\b<w.heap.size/\∀ j,j<n->w.cell? ⟨b,o+j*2,none⟩=some (.int .i64 (l.getD j (0,0)).1)/\w.cell? ⟨b,o+j*2+1,none⟩=some (.int .i64 (l.getD j (0,0)).2):=by
 obtain ⟨b,o,e,h0,_⟩:=h.1 0 (by have:=h.2.1;omega)
 refine ⟨b,o,e,Ξq w _ h0,fun j hj=>?_⟩
 obtain ⟨b',o',e',hc⟩:=h.1 j (by have:=h.2.1;omega)
 rw [e,Option.some.injEq,Addr.mk.injEq] at e';obtain ⟨rfl,rfl,_⟩:=e';exact hc
theorem ξ50 {w:World} {base n:Nat} {v:Value} {l:List (Int×Int)} (h:w.ownsRow base 297 2 v n (pc l)) (hn:n<=9223372036854775807) :
 ∃ a cap,v=.slice a n cap/\PArg w a n l/\(a=none->n=0/\cap=0)/\n<=cap/\∀ ad,a=some ad->∃ g,ad=⟨g,0,none⟩/\base<=g/\g<w.heap.size:=by
 have hl:l.length=n:=by have:=h.1;rw [ξ18] at this;omega
 rcases h.2 with ⟨rfl,rfl⟩ | ⟨g,cap,cur,rfl,hg,hb,hc,hm,hs,ht⟩
 ·have:l=[]:=Ξk hl
  subst this;exact ⟨none,0,rfl,PArg.nil _ _,fun _=>⟨rfl,rfl⟩,Ξo _,fun ad e=>by simp at e⟩
 ·refine ⟨_,cap,rfl,⟨fun j hj=>⟨g,0,rfl,?_,?_⟩,hl,hn⟩,fun e=>by simp at e,hc,fun ad e=>⟨g,by simpa using e.symm,hg,lt_of_block hb⟩⟩
  ·rw [Nat.zero_add,h.cellAt (j*2) (by omega),(ξ6x l j hj).1]
  ·rw [Nat.zero_add,h.cellAt (j*2+1) (by omega),(ξ6x l j hj).2]
def inR (x:Int):Bool:=decide (0<=x/\x<=65535)
theorem ξA (x m:Int) (w:World):Calls prog 212 #[.int .i64 x,.int .i64 m] w fun e w'=>e=.returned (.bool (decide (0<=x/\x<=m)))/\w'=w:=by
 by_cases h:0<=x
 ·have d:decide (0<=x)=true:=by simpa using h
  go_enter func212,ntmps212
  go_wp2_with fail
  go_ret
  exact ⟨by simp [h],rfl⟩
 ·have d:decide (0<=x)=false:=by simpa using h
  go_enter func212,ntmps212
  go_wp2_with fail
  go_ret
  exact ⟨by simp,rfl⟩
theorem ξ5U (x:Int) (w:World):Calls prog 215 #[.int .i64 x] w fun e w'=>e=.returned (.bool (!inR x))/\w'=w:=by
 have C:=ξ0 (fun w=>ξA x 65535 w)
 have hb:decide (0<=x/\x<=65535)=inR x:=rfl
 rw [hb] at C;clear hb;generalize inR x=b at *
 go_enter func215,ntmps215
 go_wp2_with fail
 refine (C.out _).mono ?_
 rintro e w' ⟨rfl,rfl⟩;go_wp2_with fail
 go_ret
 exact ⟨rfl,rfl⟩
theorem ξ6q (w:World):PredAt prog 215 #[] (Value.int .i64) (fun x=>!inR x) w:=fun W x _=>by
 unfold FnGives;refine (ξ5U x W).mono ?_
 rintro e w' ⟨rfl,rfl⟩;exact ⟨rfl,0,rfl⟩
theorem ξ4H (a:Option Addr) (n cap:Nat) (L:List Int) (w:World) (h:IArg w a n L) :
 Calls prog 144 #[.slice a n cap,.func (.func 215) #[] #[]] w fun e w'=>e=.returned (.bool (L.any fun x=>!inR x))/\∃ q,w'=w.drewN q:=by
 rcases Nat.eq_zero_or_pos n with rfl | hn
 ·have:L=[]:=Ξk h.2.1
  subst this;refine (Tryz.slices_ContainsFunc_empty (α:=Int) a cap _ w).mono ?_
  rintro e w' ⟨rfl,rfl⟩;exact ⟨rfl,0,rfl⟩
 ·obtain ⟨b,o,rfl,hc⟩:=h.at hn;have hl:=h.2.1
  have:=Tryz.slices_ContainsFunc (Value.int .i64) (fun x=>!inR x) 215 #[] (enters_of func215 (by kernel_rfl) rfl) b o n cap L w (ξ6q w) (by omega) h.2.2 (fun j hj=>by
   rw [hc j (by omega)]
   congr 2
   rw [Ξa,getElem!_pos L j hj,Ξd hj];rfl)
  rw [Ξl (by omega)] at this
  exact this
theorem ξ1t (a:Option Addr) (n cap:Nat) (L:List Int) (w:World) (h:IArg w a n L) (hn:a=none->n=0/\cap=0) (hb:n<=1000000) :
 Calls prog 113 #[.slice a n cap] w fun e w'=>∃ v',e=.returned v'/\w'.ownsRow w.heap.size 3 1 v' n (ic L)/\Below w.heap.size w w':=by
 cases a with
 | none=>
   obtain ⟨rfl,rfl⟩:=hn rfl;have:L=[]:=Ξk h.2.1
   subst this;refine (Tryz.slices_Clone_int_nil 0 0 w).mono ?_
   rintro e w' ⟨rfl,rfl⟩;exact ⟨_,rfl,Ξr _ _ _ _,Ξp _ _⟩
 | some ad=>
   rcases Nat.eq_zero_or_pos n with rfl | h0
   ·have:L=[]:=Ξk h.2.1
    subst this;refine (Tryz.slices_Clone_int_zero ad cap w).mono ?_
    rintro e w' ⟨v',rfl,ho,_,hb⟩;exact ⟨v',rfl,ho,hb⟩
   ·obtain ⟨b,o,e,hc⟩:=h.at h0;rw [Option.some.injEq] at e;subst e;have hl:=h.2.1
    refine (Tryz.slices_Clone_int b o n cap L w (by omega) (by omega) (fun j hj=>hc j (by omega))).mono ?_
    rintro e w' ⟨v',rfl,ho,_,hb⟩;rw [Ξl (by omega)] at ho
    exact ⟨v',rfl,ho,hb⟩
theorem ξ1G (v:Value) (base n:Nat) (L:List Int) (w:World) (h:w.ownsRow base 3 1 v n (ic L)) (hb:n<=1000000) :
 Calls prog 74 #[v] w fun e w'=>e=.returned (.tuple #[])/\w'.ownsRow base 3 1 v n (ic (L.mergeSort fun x y=>decide (x<=y)))/\w.grownBy w' v.ownBlock:=by
 have hl:L.length=n:=by have:=h.1;rw [ξK] at this;omega
 rcases h.2 with ⟨rfl,rfl⟩ | ⟨g,cap,cur,rfl,hg,hbl,hc,hm,hs,ht⟩
 ·have:L=[]:=Ξk hl
  subst this;refine (Tryz.slices_Sort_int_none none 0 w).mono ?_
  rintro e w' ⟨rfl,rfl⟩;exact ⟨rfl,by simpa [ic] using Ξr _ _ _ _,World.grownBy.refl _ _⟩
 ·subst hl;refine (Tryz.slices_Sort_int g 0 cap L w (holds_of_blockI hbl (by simpa [ic] using ht)) (lt_of_block hbl) (by omega)).mono ?_
  rintro e w' ⟨rfl,n,os,rfl⟩;exact ⟨rfl,ownsRow_sortedI (by simp) hg hbl hc hm hs,grownBy_sortedI _⟩
theorem ξeb {cur:Array Value} {L K:List Int} (h:L.length<=cur.size) (hk:K.length<=L.length) (x:List Int) (hx:L=K++x):((putCells (Value.int .i64) 0 L.toArray cur).toList.take K.length)=ic K:=by
 have:=take_putCellsI cur L h
 have e:(putCells (Value.int .i64) 0 L.toArray cur).toList.take K.length=((putCells (Value.int .i64) 0 L.toArray cur).toList.take L.length).take K.length:=by rw [List.take_take,Nat.min_eq_left hk]
 rw [e,this,hx,ic,List.map_append,List.take_left' (by simp)]
theorem ξ20 (v:Value) (base n:Nat) (L:List Int) (w:World) (h:w.ownsRow base 3 1 v n (ic L)) (hb:n<=1000000) :
 Calls prog 187 #[v] w fun e w'=>∃ v',e=.returned v'/\v'.ownBlock=v.ownBlock/\w'.ownsRow base 3 1 v' (compact L).length (ic (compact L))/\w.grownBy w' v.ownBlock:=by
 have hl:L.length=n:=by have:=h.1;rw [ξK] at this;omega
 rcases h.2 with ⟨rfl,rfl⟩ | ⟨g,cap,cur,rfl,hg,hbl,hc,hm,hs,ht⟩
 ·have:L=[]:=Ξk hl
  subst this;refine (Tryz.slices_Compact_int_empty none 0 w).mono ?_
  rintro e w' ⟨rfl,rfl⟩;exact ⟨_,rfl,rfl,Ξr _ _ _ _,World.grownBy.refl _ _⟩
 ·subst hl;refine (Tryz.slices_Compact_int g 0 cap L w (holds_of_blockI hbl (by simpa [ic] using ht)) (by omega) (by omega)).mono ?_
  rintro e w' ⟨rfl,n,rfl⟩;have hlen:=ξ3W L
  generalize compact L=K at *
  have hp:putRow (Value.int .i64) (Sort.ahead w n) g 0 (K++List.replicate (L.length - K.length) 0).toArray=grow (putRow (Value.int .i64) (Sort.ahead w n) g 0 (K++List.replicate (L.length - K.length) 0).toArray) #[]:=by simp
  rw [hp];refine ⟨_,rfl,rfl,⟨by rw [ξK];omega,.inr ⟨g,cap,_,rfl,hg,heap_sortedI _ hbl,by omega,hm,by simp [putCells,hs],?_⟩⟩,grownBy_sortedI _⟩
  rw [Nat.mul_one];exact ξeb (by simp;omega) (by simp) _ rfl
theorem ξ2j (a:Nat) (ha:a<9223372036854775808):(BitVec.ofInt 64 (a:Int)).toNat=a:=by
 rw [BitVec.ofInt_natCast,BitVec.toNat_ofNat];exact Nat.mod_eq_of_lt (by omega)
theorem ξ1q (a b:Nat) (ha:a<9223372036854775808) (hb:b<9223372036854775808):bits .or .i64 (a:Int) (b:Int)=((a ||| b:Nat):Int):=by
 have hx:a ||| b<2 ^ 63:=Nat.or_lt_two_pow (by omega) (by omega)
 show IntKind.i64.wrap ((BitVec.ofInt 64 (a:Int) ||| BitVec.ofInt 64 (b:Int)).toNat:Int)=_
 rw [BitVec.toNat_or,ξ2j a ha,ξ2j b hb,IntKind.wrap_i64];omega
theorem ξaQ (m d:Nat) (hm:m<65536) (hd:d<16):bits .or .i64 (m:Int) (2 ^ d)=((m ||| 2 ^ d:Nat):Int):=by
 have h16:(2:Nat) ^ d<65536:=show (2:Nat) ^ d<2 ^ 16 from Nat.pow_lt_pow_right (by decide) hd
 have e2:(2:Int) ^ d=((2 ^ d:Nat):Int):=by rw [Int.natCast_pow];rfl
 rw [e2,ξ1q _ _ (by omega) (by omega)]
def pfault (L:List Int):Nat:=if 200<L.length then 4 else if L.any (fun x=>!inR x) then 1 else 0
def prsOf (L:List Int):List (Int×Nat):=if pfault L=0 then pairs (norm L) else []
def pr (l:List (Int×Nat)):List (Int×Int):=l.map fun p=>(p.1,(p.2:Int))
theorem ξ2a (l:List (Int×Nat)):(pr l).length=l.length:=by simp [pr]
theorem ξ4o (l k:List (Int×Nat)):pr (l++k)=pr l++pr k:=by simp [pr]
theorem ξeW (K:List (Int×Int)) (b m m':Int):(pc (K++[(b,m)])).set (K.length*2+1) (.int .i64 m')=pc (K++[(b,m')]):=by
 rw [ξ3d,ξ3d,ξ3c,ξ3c,List.set_append_right _ _ (by rw [ξ18];omega),ξ18,show K.length*2+1 - K.length*2=1 by omega]
 rfl
theorem ξ6R {L:List Int} (h:L.any (fun x=>!inR x)=false):∀ x∈L,0<=x/\x<=65535:=by
 intro x hx;have:=List.any_eq_false.1 h x hx
 simpa [inR] using this
structure PSt (w wr:World) (l:List (Int×Nat)) (v:Value):Prop where
 below:Below w.heap.size w wr
 own:wr.ownsRow w.heap.size 297 2 v l.length (pc (pr l))
theorem PSt.shape {w wr:World} {K:List (Int×Nat)} {b:Int} {m:Nat} {v:Value} (h:PSt w wr (K++[(b,m)]) v) :
 ∃ g cap,v=.slice (some ⟨g,0,none⟩) (K.length+1) cap/\wr.cell? ⟨g,K.length*2,none⟩=some (.int .i64 b)/\wr.cell? ⟨g,K.length*2+1,none⟩=some (.int .i64 (m:Int))/\wr.frozen? ⟨g,K.length*2+1,none⟩=false /\
  PSt w wr (K++[(b,m)]) (.slice (some ⟨g,0,none⟩) (K.length+1) cap):=by
 have ho:=h.own
 rw [Ξh,List.length_singleton] at ho;rcases ho.2 with ⟨_,h0⟩ | ⟨g,cap,cur,rfl,rest⟩
 ·omega
 ·have e:pc (pr (K++[(b,m)]))=pc (pr K)++[.int .i64 b,.int .i64 (m:Int)]:=by rw [ξ4o,ξ3d];rfl
  refine ⟨g,cap,rfl,?_,?_,ho.frozenAt _,h⟩
  ·rw [ho.cellAt _ (by omega),e,List.getElem?_append_right (by rw [ξ18,ξ2a];omega),ξ18,ξ2a,Nat.sub_self];rfl
  ·rw [ho.cellAt _ (by omega),e,List.getElem?_append_right (by rw [ξ18,ξ2a];omega),ξ18,ξ2a,show K.length*2+1 - K.length*2=1 by omega];rfl
theorem PSt.near {w wr:World} {K:List (Int×Nat)} {b:Int} {m m':Nat} {g cap:Nat} (h:PSt w wr (K++[(b,m)]) (.slice (some ⟨g,0,none⟩) (K.length+1) cap)) :
 PSt w (wr.setCell ⟨g,K.length*2+1,none⟩ (.int .i64 (m':Int))) (K++[(b,m')]) (.slice (some ⟨g,0,none⟩) (K.length+1) cap):=by
 have ho:=h.own
 rw [Ξh,List.length_singleton] at ho;have hg:=(ho.lt g rfl).1
 obtain ⟨h1,h2⟩:=ho.stored (K.length*2+1) (.int .i64 (m':Int));refine ⟨h.below.setCell hg _,?_⟩
 rw [Ξh,List.length_singleton];have e:(pc (pr (K++[(b,m)]))).set (K.length*2+1) (.int .i64 (m':Int))=pc (pr (K++[(b,m')])):=by
  have:=ξeW (pr K) b (m:Int) (m':Int)
  rw [ξ2a] at this;rw [ξ4o,ξ4o];exact this
 rw [<- e];exact h1
theorem PSt.far {w wr w':World} {l:List (Int×Nat)} {v v':Value} {O:Obj} (h:PSt w wr l v) {n:Int} (ho:w'.ownsRow w.heap.size 297 2 v' (l.length+1) (pc (pr l)++[.int .i64 n,.int .i64 0])) (hg:(wr.alloc O).grownBy w' v.ownBlock):PSt w w' (l++[(n,0)]) v':=by
 refine ⟨(h.below.alloc h.below.size _).grown hg (by have:=h.below.size;simp;omega) (fun j hj=>(h.own.lt j hj).1),?_⟩
 rw [Ξh,List.length_singleton,ξ4o,ξ3d];exact ho
theorem lit2 {w:World} {T:TypeId} (c0 c1:Value):∀ j u,[c0,c1][j]?=some u->(w.alloc (.cells #[c0,c1] T)).cell? ((⟨w.heap.size,0,none⟩:Addr).add j)=some u:=by
 intro j u hu;rw [Addr.add_lit,World.cell?_alloc_mark,Nat.zero_add,<- hu];exact List.getElem?_toArray
theorem ξav (a:Option Addr) (n cap:Nat) (L:List Int) (w:World) (h:IArg w a n L) (hf:pfault L≠0) :
 Calls prog 204 #[.slice a n cap] w fun e w'=>e=.returned (.tuple #[.slice none 0 0,errv (pfault L)])/\Below w.heap.size w w':=by
 have hl:=h.2.1
 have hb:=h.2.2
 by_cases p:200<n
 ·have e:pfault L=4:=by unfold pfault;rw [if_pos (by omega)]
  rw [e];clear h hf e;have d:decide (200<(n:Int))=true:=by simp;omega
  go_enter func204,ntmps204
  go_wp2_with fail
  go_ret2
  exact ⟨rfl,Ξp _ _⟩
 ·have C:=ξ4H a n cap L w h
  have d:decide (200<(n:Int))=false:=by simp;omega
  have e:L.any (fun x=>!inR x)=true/\pfault L=1:=by
   unfold pfault at hf ⊢;rw [if_neg (by omega)] at hf ⊢
   by_cases q:L.any (fun x=>!inR x)=true
   ·exact ⟨q,if_pos q⟩
   ·rw [if_neg q] at hf;exact absurd rfl hf
  rw [e.1] at C;rw [e.2];have HC:=ξ0 C
  clear C h hf e;go_enter func204,ntmps204
  go_wp2_with fail
  refine HC.out.mono ?_
  rintro e w' ⟨rfl,q,rfl⟩;go_wp2_with fail
  go_ret2
  exact ⟨rfl,below_drewN' (Ξp _ _) q⟩
theorem ξbL (d:Nat) (h:d<16):wrap64 (2 ^ d)=2 ^ d:=by
 have h16:(2:Nat) ^ d<65536:=show (2:Nat) ^ d<2 ^ 16 from Nat.pow_lt_pow_right (by decide) h
 have e2:(2:Int) ^ d=((2 ^ d:Nat):Int):=by rw [Int.natCast_pow];rfl
 rw [e2];generalize (2:Nat) ^ d=x at *
 unfold wrap64;omega
theorem PSt.drew {w wr:World} {l:List (Int×Nat)} {v:Value} (h:PSt w wr l v):PSt w wr.drew l v:=⟨h.below.drew,h.own.drew⟩
theorem ξ8Z (a:Option Addr) (n cap:Nat) (L:List Int) (w:World) (h:IArg w a n L) (hn:a=none->n=0/\cap=0) (hf:pfault L=0) :
 Calls prog 204 #[.slice a n cap] w fun e w'=>∃ v',e=.returned (.tuple #[v',.nilIface])/\w'.ownsRow w.heap.size 297 2 v' (pairs (norm L)).length (pc (pr (pairs (norm L))))/\Below w.heap.size w w':=by
 have hl:=h.2.1
 have hb:=h.2.2
 obtain ⟨p,hany⟩:n<=200/\L.any (fun x=>!inR x)=false:=by
  unfold pfault at hf;by_cases q:200<L.length
  ·rw [if_pos q] at hf;omega
  ·rw [if_neg q] at hf;by_cases q2:L.any (fun x=>!inR x)=true
   ·rw [if_pos q2] at hf;omega
   ·exact ⟨by omega,by simpa using q2⟩
 have d:decide (200<(n:Int))=false:=by simp;omega
 have C:=ξ4H a n cap L w h
 rw [hany] at C;have HC:=ξ0 C
 have HCL:Hid (∀ W,Below w.heap.size w W->Calls prog _ #[.slice a n cap] W _):=fun W hW=>ξ1t a n cap L W (h.below hW) hn (by omega)
 have hrng:=ξ6R hany
 have hrn:∀ x∈norm L,0<=x/\x<=65535:=fun x hx=>hrng x (((ξY L).2 x).1 hx)
 have hris:=(ξY L).1
 have hnl:(norm L).length<=200:=by have:=ξ1x L;omega
 have hnorm:compact (L.mergeSort fun x y=>decide (x<=y))=norm L:=rfl
 obtain ⟨i0,hii,hz0,hz1,hz2⟩:=info_parts infoPR;clear C h hn hf hany hrng;generalize norm L=S at *
 go_enter func204,ntmps204
 go_wp2_with fail
 refine HC.out.mono ?_
 rintro e w1 ⟨rfl,q,rfl⟩;go_wp2_with fail
 refine (HCL.out _ (below_drewN' (Ξp _ _) q)).mono ?_
 rintro e w2 ⟨v2,rfl,ho2,hb2⟩;have HO2:=ξ0 ho2
 have HB2:=ξ0 ((below_drewN' (Ξp w.heap.size w) q).trans hb2)
 clear ho2 hb2;go_wp2_with fail
 refine (ξ1G v2 _ n L w2 HO2.out (by omega)).mono ?_
 rintro e w3 ⟨rfl,ho3,hg3⟩;have HO3:=ξ0 ho3
 have HB3:=ξ0 (HB2.out.grown hg3 HB2.out.size (fun j hj=>(HO2.out.lt j hj).1))
 clear ho3 hg3;go_wp2_with fail
 refine (ξ20 v2 _ n _ w3 HO3.out (by omega)).mono ?_
 rintro e w4 ⟨v4,rfl,hbl,ho4,hg4⟩;rw [hnorm] at ho4;have HB4:=ξ0 (HB3.out.grown hg4 HB3.out.size (fun j hj=>(HO3.out.lt j hj).1))
 clear hg4 hbl hnorm HO2 HO3 HB2 HB3 HC HCL;obtain ⟨aR,cR,rfl,hR,_,_,hRg⟩:=ξo ho4 (by omega)
 have HR:=ξ0 hR
 clear ho4 hR hl hb p d hRg;have HRIS:=ξ0 hris
 have HRN:=ξ0 hrn
 clear hris hrn;have HP0:Hid (PSt w4 w4 (pairs (S.take 0)) (.slice none 0 0)):=⟨Ξp _ _,Ξr _ _ _ _⟩
 go_wp2_with fail
 go_loopg [5,23] S.length (fun g x y wr=>∃ (j:Nat) (v:Value),j+g=S.length/\x=v/\y=.int .i64 (j:Int)/\Hid (PSt w4 wr (pairs (S.take j)) v))
 case atStart=>exact ⟨0,_,by omega,rfl,rfl,HP0⟩
 case round=>
  obtain ⟨j,v,hjg,rfl,rfl,HP⟩:=hrel;by_cases hj:j<S.length
  ·have hjz:(j:Int)<(S.length:Int):=by omega
   obtain ⟨b,o,rfl,hcs⟩:=HR.out.at (by omega)
   have hcell:=(HP.out.below.cell (p:=⟨b,o+j,none⟩) (Ξq _ _ (hcs j hj))).trans (hcs j hj)
   obtain ⟨y,hy⟩:∃ y,S.getD j 0=y:=⟨_,rfl⟩;rw [hy] at hcell;have hys:S.take (j+1)=S.take j++[y]:=by
    rw [<- hy,Ξa,Ξd hj,Option.getD_some,List.take_append_getElem hj]
   have hmem:y∈S:=by rw [<- hy,Ξa,Ξd hj];exact List.getElem_mem _
   have hyr:=HRN.out y hmem
   have hfit:=ξ3t (S.take j) (List.Pairwise.sublist (List.take_sublist _ _) HRIS.out)
   have hup:∀ x∈S.take j,x<y:=by
    have h1:=HRIS.out
    have h2:S=S.take j++S.drop j:=(List.take_append_drop j S).symm
    unfold Rises at h1;rw [h2] at h1;intro x hx;refine (List.pairwise_append.1 h1).2.2 x hx y ?_
    rw [List.drop_eq_getElem_cons hj,<- hy,Ξa,Ξd hj];exact List.mem_cons_self ..
   have hsn:=ξ4r (S.take j) y
   rw [<- hys] at hsn;have hlen:(pairs (S.take j)).length<=200:=by
    have h1:=(ξ1N (pairs (S.take j))).1
    rw [hfit.told,List.length_take] at h1;omega
   have hsub:∀ x∈S.take j,x∈S:=fun x hx=>List.mem_of_mem_take hx
   clear hcs hy hys hmem;generalize pairs (S.take j)=l at *
   rcases List.eq_nil_or_concat l with rfl | ⟨K,pp,rfl⟩
   ·rw [step_nil] at hsn;have HSN:=ξ0 hsn
    clear hsn;obtain ⟨a1,c1,rfl,_⟩:=ξ50 HP.out.own (by simp)
    go_wp2_with (at_builtin;refine wpList_append_own _ rfl _ _ 290 rfl w4.heap.size 297 i0 _ 2 16 underlying290 hii hz0 hz1 hz2 rfl (by decide) _ 0 [] rfl (HP.out.own.alloc _) ⟨wr.heap.size,0,none⟩ 1 1 [.int .i64 y,.int .i64 0] rfl rfl ?cc ?one ?b1 ?b2 ?b3 ?next)
    case cc=>exact lit2 _ _
    case one=>simp [Value.oneCell']
    case b1=>unfold maxLen;omega
    case b2=>omega
    case b3=>have:=HP.out.below.size;simp;omega
    case next=>
    intro v1 w' hown hgrow _;have HPn:=ξ0 (HP.out.far hown hgrow)
    clear hown hgrow;go_wp2_with fail
    go_roundg (S.length - (j+1))
    case measure=>omega
    case rel=>exact ⟨j+1,v1,by omega,rfl,by go_num,by rw [HSN.out];exact HPn⟩
   ·rw [List.concat_eq_append] at *;obtain ⟨bs,mk⟩:=pp;obtain ⟨g,c1,rfl,hc0,hc1,hfz,hp'⟩:=HP.out.shape;have HP:=ξ0 hp'
    clear hp';have hbs:=HRN.out bs (hsub bs (hfit.base (bs,mk) (by simp)))
    have hmk:=hfit.mask (bs,mk) (by simp)
    have hby:=hup bs (hfit.base (bs,mk) (by simp))
    have hKl:K.length<=200:=by simp at hlen;omega
    clear hfit hup hsub hlen;by_cases hfar:16<y - bs
    ·rw [ξ6b (p:=(bs,mk)) hfar] at hsn;have HSN:=ξ0 hsn
     clear hsn;have d16:decide (16<y - bs)=true:=by simpa using hfar
     have HOWN:=HP.out.own
     rw [Ξh,List.length_singleton] at HOWN
     replace HOWN:=ξ0 HOWN
     go_wp2_with (at_builtin;refine wpList_append_own _ rfl _ _ 290 rfl w4.heap.size 297 i0 _ 2 16 underlying290 hii hz0 hz1 hz2 rfl (by decide) _ (K.length+1) (pc (pr (K++[(bs,mk)]))) rfl (HOWN.out.alloc _) ⟨wr.heap.size,0,none⟩ 1 1 [.int .i64 y,.int .i64 0] rfl rfl ?cc ?one ?b1 ?b2 ?b3 ?next)
     case one=>simp [Value.oneCell']
     case b1=>unfold maxLen;omega
     case b2=>omega
     case b3=>have:=HP.out.below.size;simp;omega
     case next=>
     intro v1 w' hown hgrow _;have HPn:=ξ0 (HP.out.far (by rw [Ξh];exact hown) hgrow)
     clear hown hgrow;go_wp2_with fail
     go_roundg (S.length - (j+1))
     case measure=>omega
     case rel=>exact ⟨j+1,v1,by omega,rfl,by go_num,by rw [HSN.out];exact HPn⟩
    ·rw [ξ5d (p:=(bs,mk)) (by show y - bs<=16;omega)] at hsn
     have HSN:=ξ0 hsn
     clear hsn;have d16:decide (16<y - bs)=false:=by simpa using hfar
     have HMB:Hid (bits .or .i64 (mk:Int) (wrap64 (2 ^ ((y - bs).toNat - 1)))=((mk ||| 2 ^ (y - bs - 1).toNat:Nat):Int)):=ξ0 (by
      rw [<- ξaQ mk (y - bs - 1).toNat hmk (by omega),show (y - bs).toNat - 1=(y - bs - 1).toNat by omega,ξbL _ (by omega)])
     go_wp2_with fail
     go_region
     go_wp2_with fail
     go_roundg (S.length - (j+1))
     case measure=>omega
     case rel=>exact ⟨j+1,_,by omega,rfl,by go_num,by
      rw [HSN.out];have:=(HP.out.near (m':=mk ||| 2 ^ (y - bs - 1).toNat)).drew
      rw [<- HMB.out] at this;exact this⟩
  ·have hjz:¬ (j:Int)<(S.length:Int):=by omega
   have ej:j=S.length:=by omega
   subst ej;go_wp2_with fail
   go_ret2
   have hh:=HP.out
   rw [List.take_length] at hh;refine ⟨_,rfl,?_,HB4.out.trans (hh.below.mono HB4.out.size)⟩
   have ho:=hh.own
   refine ⟨ho.1,?_⟩
   rcases ho.2 with h0 | ⟨g,cap,cur,e,hg,rest⟩
   ·exact .inl h0
   ·exact .inr ⟨g,cap,cur,e,by have:=HB4.out.size;omega,rest⟩
theorem ξ5o (a:Option Addr) (n cap:Nat) (L:List Int) (w:World) (h:IArg w a n L) (hn:a=none->n=0/\cap=0) :
 Calls prog 204 #[.slice a n cap] w fun e w'=>∃ a' m c',e=.returned (.tuple #[.slice a' m c',errv (pfault L)])/\PArg w' a' m (pr (prsOf L))/\(a'=none->m=0/\c'=0)/\m<=c'/\Below w.heap.size w w':=by
 by_cases hf:pfault L=0
 ·refine (ξ8Z a n cap L w h hn hf).mono ?_
  rintro e w' ⟨v',rfl,ho,hb⟩;have hlen:(pairs (norm L)).length<=9223372036854775807:=by
   have h1:=(ξ1N (pairs (norm L))).1
   rw [(ξ3t _ (ξY L).1).told] at h1;have h2:=ξ1x L
   have h3:=h.2.1
   have h4:=h.2.2
   omega
  obtain ⟨a',c',rfl,hP,h0,h1,_⟩:=ξ50 ho hlen;refine ⟨a',_,c',by rw [hf];rfl,?_,h0,h1,hb⟩
  rw [prsOf,if_pos hf];exact hP
 ·refine (ξav a n cap L w h hf).mono ?_
  rintro e w' ⟨rfl,hb⟩;refine ⟨none,0,0,rfl,?_,fun _=>⟨rfl,rfl⟩,Ξo _,hb⟩
  rw [prsOf,if_neg hf];exact PArg.nil _ _
theorem bitLen_le:∀ (k x:Nat),x<2 ^ 64->(Lib.bitLen x<=k↔x<2 ^ k)
 | 0,x,hx=>by
   by_cases h0:x=0
   ·subst h0;simp [Lib.bitLen,Lib.bitLenAux]
   ·rw [Lib.bitLen_half x h0 hx];simp;omega
 | k+1,x,hx=>by
   by_cases h0:x=0
   ·subst h0;have:Lib.bitLen 0=0:=by decide
    rw [this];simp [Nat.pow_pos]
   ·have:=bitLen_le k (x / 2) (by omega)
    rw [Lib.bitLen_half x h0 hx,Nat.pow_succ];omega
theorem ξ7H {m:Nat} (hm:m<65536) (c:Int) (hc:c<=65535):c+(Lib.bitLen m:Int)<=65535↔∀ i:Nat,m.testBit i=true->c+(i:Int)+1<=65535:=by
 have hx:m<2 ^ 64:=by omega
 constructor
 ·intro h i hi;have h1:=Nat.ge_two_pow_of_testBit hi
  have h2:=bitLen_le i m hx
  omega
 ·intro h;rcases Nat.eq_zero_or_pos (Lib.bitLen m) with h0 | h0
  ·rw [h0];simpa using hc
  ·have h1:=(bitLen_le (Lib.bitLen m) m hx).1 (Ξo _)
   have h2:=bitLen_le (Lib.bitLen m - 1) m hx
   have hb:m.testBit (Lib.bitLen m - 1)=true:=by
    by_cases hb:m.testBit (Lib.bitLen m - 1)=true
    ·exact hb
    ·have:m<2 ^ (Lib.bitLen m - 1):=by
      apply Nat.lt_pow_two_of_testBit
      intro i hi;by_cases e:i=Lib.bitLen m - 1
      ·subst e;simpa using hb
      ·exact Nat.testBit_lt_two_pow (Ξn h1 (Nat.pow_le_pow_right (by decide) (by omega)))
     have:=h2.2 this
     omega
   have:=h _ hb
   omega
def isP (p:Int×Int):Bool:=inR p.1&&inR p.2&&decide (p.1+(Lib.bitLen p.2.toNat:Int)<=65535)
theorem ξ6N (b m:Int) (w:World):Calls prog 210 #[.agg #[.int .i64 b,.int .i64 m]] w fun e w'=>e=.returned (.bool (isP (b,m)))/\Below w.heap.size w w':=by
 have C1:=fun w=>ξA b 65535 w
 have C2:=fun w=>ξA m 65535 w
 have e1:decide (0<=b/\b<=65535)=inR b:=rfl
 have e2:decide (0<=m/\m<=65535)=inR m:=rfl
 rw [e1] at C1;rw [e2] at C2;have H1:=ξ0 C1
 have H2:=ξ0 C2
 have HE:Hid (isP (b,m)=(inR b&&inR m&&decide (b+(Lib.bitLen m.toNat:Int)<=65535))):=rfl
 have HI1:Hid (inR b=true->0<=b/\b<=65535):=fun h=>by simpa [inR] using h
 have HI2:Hid (inR m=true->0<=m/\m<=65535):=fun h=>by simpa [inR] using h
 have hB:Below w.heap.size w (w.alloc (.cells #[.int .i64 b,.int .i64 m] 297)):=(Ξp _ _).alloc (Ξo _) _
 have HB:=ξ0 hB
 clear C1 C2 e1 e2 hB;generalize isP (b,m)=r at *
 generalize inR b=b1 at *
 generalize inR m=b2 at *
 cases b1 with
 | false=>
   have hr:r=false:=by simpa using HE.out
   subst hr;go_enter func210,ntmps210
   go_wp2_with fail
   refine (H1.out _).mono ?_
   rintro e w ⟨rfl,rfl⟩;go_wp2_with fail
   go_ret
   exact ⟨rfl,HB.out⟩
 | true=>
 cases b2 with
 | false=>
   have hr:r=false:=by simpa using HE.out
   subst hr;go_enter func210,ntmps210
   go_wp2_with fail
   refine (H1.out _).mono ?_
   rintro e w ⟨rfl,rfl⟩;go_wp2_with fail
   refine (H2.out _).mono ?_
   rintro e w ⟨rfl,rfl⟩;go_wp2_with fail
   go_ret
   exact ⟨rfl,HB.out⟩
 | true=>
   obtain ⟨b0,b1⟩:=HI1.out rfl;obtain ⟨m0,m1⟩:=HI2.out rfl;have hr:r=decide (b+(Lib.bitLen m.toNat:Int)<=65535):=by simpa using HE.out
   have HL:Hid (∀ w,Calls prog 107 #[.int .u64 m] w fun e w'=>e=.returned (.int .i64 (Lib.bitLen m.toNat))/\w'=w):=fun w=>Tryz.bits_Len m w m0 (by omega)
   have hl16:Lib.bitLen m.toNat<=16:=(bitLen_le 16 m.toNat (by omega)).2 (by omega)
   clear HE;generalize Lib.bitLen m.toNat=bl at *
   subst hr;go_enter func210,ntmps210
   go_wp2_with fail
   refine (H1.out _).mono ?_
   rintro e w ⟨rfl,rfl⟩;go_wp2_with fail
   refine (H2.out _).mono ?_
   rintro e w ⟨rfl,rfl⟩;go_wp2_with fail
   go_quiet ((go_at_call 107;exact Calls.quiet_of_same (HL.out _)))
   go_wp2_with fail
   go_ret
   exact ⟨rfl,below_drewN' HB.out _⟩
theorem ξ7e (b m:Int) (w:World):Calls prog 209 #[.agg #[.int .i64 b,.int .i64 m]] w fun e w'=>e=.returned (.bool (!isP (b,m)))/\Below w.heap.size w w':=by
 have C:=ξ0 (fun w=>ξ6N b m w)
 have hb:Below w.heap.size w (w.alloc (.cells #[.int .i64 b,.int .i64 m] 297)):=(Ξp _ _).alloc (Ξo _) _
 have HB:=ξ0 hb
 clear hb;generalize isP (b,m)=r at *
 go_enter func209,ntmps209
 go_wp2_with fail
 refine (C.out _).mono ?_
 rintro e w' ⟨rfl,hb'⟩;go_wp2_with fail
 go_ret
 exact ⟨rfl,HB.out.trans (hb'.mono HB.out.size)⟩
theorem ξdl:∀ w,(isAgg 297).run prog w=.ok true w:=Tryz.isAgg297
theorem ξa1:∀ w,(Go.sizeOf 297).run prog w=.ok 2 w:=Tryz.sizeOf297
theorem ξ9e (a:Option Addr) (cap:Nat) (fv:Value) (w:World):Calls prog 216 #[.slice a 0 cap,fv] w fun e w'=>e=.returned (.int .i64 (-1))/\w'=w:=by
 go_enter func216,ntmps216
 go_wp2_with fail
 go_loopg [5,8] 0 (fun _ _ s8 wr=>s8=.int .i64 0/\wr=w)
 case atStart=>exact ⟨rfl,rfl⟩
 case round=>
  obtain ⟨rfl,rfl⟩:=hrel;go_wp2_with fail
  go_ret
  exact ⟨rfl,rfl⟩
theorem ξ3V (a:Option Addr) (n cap:Nat) (l:List (Int×Int)) (w:World) (h:PArg w a n l) :
 Calls prog 208 #[.slice a n cap,.func (.func 209) #[] #[]] w fun e w'=>e=.returned (.bool (l.any fun p=>!isP p))/\Below w.heap.size w w':=by
 rcases Nat.eq_zero_or_pos n with rfl | hn
 ·have:l=[]:=Ξk h.2.1
  subst this;have HI:=ξ0 (fun w=>ξ9e a cap (.func (.func 209) #[] #[]) w)
  clear h;go_enter func208,ntmps208
  go_wp2_with fail
  refine (HI.out _).mono ?_
  rintro e w' ⟨rfl,rfl⟩;go_wp2_with fail
  go_ret
  exact ⟨rfl,Ξp _ _⟩
 ·obtain ⟨b,o,rfl,hb,hc⟩:=h.at hn;have hl:=h.2.1
  have:=AnyQ.slices_ContainsFunc (α:=Int×Int) Tryz.laysPair 2 ξdl ξa1 (fun p=>[.int .i64 p.1,.int .i64 p.2]) (fun _=>rfl) (fun p=>!isP p) 209 #[] (enters_of func209 (by kernel_rfl) rfl) b o n cap l w
   (fun W x hW=>(ξ7e x.1 x.2 W).mono fun e w' ⟨he,hb'⟩=>⟨he,hW.trans (hb'.mono hW.size)⟩) (by omega) h.2.2 hb (fun j hj i v hv=>by
     have hcj:=hc j (by omega)
     have e:l[j]! = l.getD j (0,0):=by rw [Ξa,getElem!_pos l j hj,Ξd hj];rfl
     rw [e] at hv
     match i,hv with
     | 0,hv=>rw [Nat.add_zero,hcj.1];simpa using hv
     | 1,hv=>rw [hcj.2];simpa using hv
     | i+2,hv=>simp at hv)
  rw [Ξl (by omega)] at this
  exact this
def PBox (w:World) (B:Nat) (b m:Int):Prop:=w.heap[B]?=some (.cells #[.int .i64 b,.int .i64 m] 297 (0,0))
theorem PBox.new (w:World) (b m:Int):PBox (w.alloc (.cells #[.int .i64 b,.int .i64 m] 297)) w.heap.size b m:=heap_alloc_new w _
theorem PBox.cells {w:World} {B:Nat} {b m:Int} (h:PBox w B b m):w.cell? ⟨B,0,none⟩=some (.int .i64 b)/\w.cell? ⟨B,1,none⟩=some (.int .i64 m):=by
 unfold PBox at h;constructor<;>simp [World.cell?,h]
theorem PBox.ne {w:World} {B:Nat} {b m:Int} (h:PBox w B b m) {base n sz e:Nat} {v:Value} {xs:List Value} (ho:w.ownsRow base e sz v n xs) (he:297≠e:=by decide):some B≠v.ownBlock:=by
 intro e;rcases ho.2 with ⟨rfl,_⟩ | ⟨g,cap,cur,rfl,_,hb,_⟩
 ·simp [Value.ownBlock] at e
 ·simp only [Value.ownBlock,Option.some.injEq] at e
  subst e;unfold PBox at h;rw [h] at hb;simp only [Option.some.injEq,Obj.cells.injEq] at hb
  exact absurd hb.2.1 he
theorem PBox.alloc {w:World} {B:Nat} {b m:Int} (h:PBox w B b m) (O:Obj):PBox (w.alloc O) B b m:=by
 unfold PBox;rw [Below.heap_alloc _ _ _ (lt_of_block h)];exact h
theorem PBox.grown {w w':World} {B:Nat} {b m:Int} {v:Value} (h:PBox w B b m) (hg:w.grownBy w' v.ownBlock) (hne:some B≠v.ownBlock):PBox w' B b m:=by
 unfold PBox;rw [hg.block B (lt_of_block h) hne];exact h
theorem lit1 {w:World} {T:TypeId} (c0:Value):∀ j u,[c0][j]?=some u->(w.alloc (.cells #[c0] T)).cell? ((⟨w.heap.size,0,none⟩:Addr).add j)=some u:=by
 intro j u hu;rw [Addr.add_lit,World.cell?_alloc_mark,Nat.zero_add,<- hu];exact List.getElem?_toArray
def tl (b:Int) (m i:Nat):List Int:=b::((List.range i).filter fun i=>m.testBit i).map fun (i:Nat)=>b+(i:Int)+1
theorem ξeM {b:Int} {m i:Nat} (h:m.testBit i=true):tl b m (i+1)=tl b m i++[b+(i:Int)+1]:=by simp [tl,List.range_succ,h]
theorem ξfl {b:Int} {m i:Nat} (h:m.testBit i=false):tl b m (i+1)=tl b m i:=by simp [tl,List.range_succ,h]
theorem ξeN (b:Int) (m i:Nat):(tl b m i).length<=i+1:=by
 have:=List.length_filter_le (fun i=>m.testBit i) (List.range i)
 simp [tl] at this ⊢
 exact this
theorem ξ7r (a b:Nat) (ha:a<9223372036854775808) (hb:b<9223372036854775808):bits .and .i64 (a:Int) (b:Int)=((a &&& b:Nat):Int):=by
 have hx:a &&& b<2 ^ 63:=Nat.and_lt_two_pow _ (by omega)
 show IntKind.i64.wrap ((BitVec.ofInt 64 (a:Int) &&& BitVec.ofInt 64 (b:Int)).toNat:Int)=_
 rw [BitVec.toNat_and,ξ2j a ha,ξ2j b hb,IntKind.wrap_i64];omega
theorem ξfe (m k:Nat) (hm:m<65536):(bits .and .i64 ((m:Int) / 2 ^ k) 1==1)=m.testBit k:=by
 have e:((m:Int) / 2 ^ k)=((m / 2 ^ k:Nat):Int):=by simp
 have h2:m / 2 ^ k<65536:=Nat.lt_of_le_of_lt (Nat.div_le_self _ _) hm
 rw [e,show (1:Int)=((1:Nat):Int) from rfl,ξ7r _ _ (by omega) (by decide),Nat.and_one_is_mod,Nat.testBit_eq_decide_div_mod_eq]
 rw [Bool.eq_iff_iff,beq_iff_eq,decide_eq_true_eq];omega
structure ASt (w wr:World) (base k:Nat) (L:List Int) (b:Int) (m i:Nat) (v:Value):Prop where
 below:Below base w wr
 box:PBox wr w.heap.size b m
 own:wr.ownsRow base 3 1 v (k+(tl b m i).length) (ic (L++tl b m i))
theorem ASt.no {w wr:World} {base k:Nat} {L:List Int} {b:Int} {m i:Nat} {v:Value} (h:ASt w wr base k L b m i v) (hb:m.testBit i=false):ASt w wr base k L b m (i+1) v:=
 ⟨h.below,h.box,by rw [ξfl hb];exact h.own⟩
theorem ASt.yes {w wr w':World} {base k:Nat} {L:List Int} {b:Int} {m i:Nat} {v v':Value} {O:Obj} (h:ASt w wr base k L b m i v) (hb:m.testBit i=true) (hbase:base<=w.heap.size)
 (ho:w'.ownsRow base 3 1 v' (k+(tl b m i).length+1) (ic (L++tl b m i)++[.int .i64 (b+(i:Int)+1)])) (hg:(wr.alloc O).grownBy w' v.ownBlock):ASt w w' base k L b m (i+1) v':=by
 have hs:=h.below.size
 refine ⟨(h.below.alloc (by omega) _).grown hg (by simp;omega) (fun j hj=>(h.own.lt j hj).1),(h.box.alloc _).grown hg (h.box.ne h.own),?_⟩
 rw [ξeM hb,Ξh,<- List.append_assoc];have e:ic (L++tl b m i++[b+(i:Int)+1])=ic (L++tl b m i)++[.int .i64 (b+(i:Int)+1)]:=by simp [ic]
 rw [e];exact ho
theorem ξbD (v:Value) (base k:Nat) (L:List Int) (b:Int) (m:Nat) (w:World) (ho:w.ownsRow base 3 1 v k (ic L)) (hbase:base<=w.heap.size) (hk:k<=10000) (hb0:0<=b) (hb1:b<=65535) (hm:m<65536) :
 Calls prog 211 #[v,.agg #[.int .i64 b,.int .i64 (m:Int)]] w fun e w'=>∃ v',e=.returned v'/\w'.ownsRow base 3 1 v' (k+(tells (b,m)).length) (ic (L++tells (b,m)))/\Below base w w':=by
 obtain ⟨i0,hii,hz0,hz1,hz2⟩:=info_parts info3;have HO:=ξ0 ho
 have HBX:=ξ0 (PBox.new w b m)
 have hc:=HBX.out.cells.1
 have HBT:Hid (∀ i,(bits .and .i64 ((m:Int) / 2 ^ i) 1==1)=m.testBit i):=fun i=>ξfe m i hm
 clear ho;go_enter func211,ntmps211
 go_wp2_with (at_builtin;refine wpList_append_own _ rfl _ _ 35 rfl base 3 i0 _ 1 8 underlying35 hii hz0 hz1 hz2 rfl (by decide) _ k (ic L) rfl ((HO.out.alloc _).alloc _) ⟨w.heap.size+1,0,none⟩ 1 1 [.int .i64 b] rfl rfl ?cc ?one ?b1 ?b2 ?b3 ?next)
 case cc=>rw [show w.heap.size+1=(w.alloc (.cells #[.int .i64 b,.int .i64 (m:Int)] 297)).heap.size by simp];exact lit1 (w:=w.alloc (.cells #[.int .i64 b,.int .i64 (m:Int)] 297)) _
 case one=>simp [Value.oneCell']
 case b1=>unfold maxLen;omega
 case b2=>omega
 case b3=>simp;omega
 case next=>
 intro v1 w1 hown hgrow _;have HA0:Hid (ASt w w1 base k L b m 0 v1):=by
  have h0:=((Ξp base w).alloc hbase (.cells #[.int .i64 b,.int .i64 (m:Int)] 297))
  refine ⟨(h0.alloc (by simp;omega) _).grown hgrow (by simp;omega) (fun j hj=>(HO.out.lt j hj).1),(HBX.out.alloc _).grown hgrow (HBX.out.ne (HO.out.alloc _)),?_⟩
  have e:ic (L++tl b m 0)=ic L++[.int .i64 b]:=by simp [ic,tl]
  rw [e];exact hown
 clear hown hgrow hc;go_wp2_with fail
 go_loopg [0,11] 16 (fun g x y wr=>∃ (i:Nat) (v:Value),i+g=16/\x=v/\y=.int .i64 (i:Int)/\Hid (ASt w wr base k L b m i v))
 case atStart=>exact ⟨0,_,by omega,rfl,rfl,HA0⟩
 case round=>
  obtain ⟨i,v2,hig,rfl,rfl,HS⟩:=hrel;obtain ⟨hc0,hc1⟩:=HS.out.box.cells;by_cases hi:i<16
  ·have hiz:(i:Int)<16:=by omega
   have hbt:=HBT.out i
   obtain ⟨tb,htb⟩:∃ t,m.testBit i=t:=⟨_,rfl⟩;rw [htb] at hbt;have HT:=ξ0 htb
   clear htb;have htl:=ξeN b m i
   cases tb with
   | true=>
     go_wp2_with (at_builtin;refine wpList_append_own _ rfl _ _ 35 rfl base 3 i0 _ 1 8 underlying35 hii hz0 hz1 hz2 rfl (by decide) _ (k+(tl b m i).length) (ic (L++tl b m i)) rfl (HS.out.own.alloc _) ⟨wr.heap.size,0,none⟩ 1 1 [.int .i64 (b+(i:Int)+1)] rfl rfl ?cc ?one ?b1 ?b2 ?b3 ?next)
     case cc=>exact lit1 _
     case one=>simp [Value.oneCell']
     case b1=>unfold maxLen;omega
     case b2=>omega
     case b3=>have:=HS.out.below.size;simp;omega
     case next=>
     intro v3 w' hown hgrow _;have HSn:=ξ0 (HS.out.yes HT.out hbase hown hgrow)
     clear hown hgrow;go_wp2_with fail
     go_roundg (16 - (i+1))
     case measure=>omega
     case rel=>exact ⟨i+1,v3,by omega,rfl,by go_num,HSn⟩
   | false=>
     go_wp2_with fail
     go_roundg (16 - (i+1))
     case measure=>omega
     case rel=>exact ⟨i+1,_,by omega,rfl,by go_num,HS.out.no HT.out⟩
  ·have hiz:¬ (i:Int)<16:=by omega
   have ei:i=16:=by omega
   subst ei;go_wp2_with fail
   go_ret
   exact ⟨_,rfl,HS.out.own,HS.out.below⟩
def nfault (l:List (Int×Int)):Nat:=if 200<l.length then 4 else if l.any (fun p=>!isP p) then 1 else 0
def np (p:Int×Int):Int×Nat:=(p.1,p.2.toNat)
def numsOf (l:List (Int×Int)):List Int:=if nfault l=0 then norm (told (l.map np)) else []
theorem ξ3R {l:List (Int×Int)} (h:nfault l=0):l.length<=200/\l.any (fun p=>!isP p)=false:=by
 unfold nfault at h;by_cases q:200<l.length
 ·rw [if_pos q] at h;omega
 ·rw [if_neg q] at h;by_cases q2:l.any (fun p=>!isP p)=true
  ·rw [if_pos q2] at h;omega
  ·exact ⟨by omega,by simpa using q2⟩
theorem ξf7 {l:List (Int×Int)} (h:l.any (fun p=>!isP p)=false):∀ p∈l,0<=p.1/\p.1<=65535/\0<=p.2/\p.2<=65535:=by
 intro p hp;have:=List.any_eq_false.1 h p hp
 simp only [isP,inR,Bool.not_eq_true',Bool.not_eq_false,Bool.and_eq_true,decide_eq_true_eq] at this
 omega
theorem ξ7n (a:Option Addr) (n cap:Nat) (l:List (Int×Int)) (w:World) (h:PArg w a n l) (hf:nfault l≠0) :
 Calls prog 200 #[.slice a n cap] w fun e w'=>e=.returned (.tuple #[.slice none 0 0,errv (nfault l)])/\Below w.heap.size w w':=by
 have hl:=h.2.1
 have hb:=h.2.2
 by_cases p:200<n
 ·have e:nfault l=4:=by unfold nfault;rw [if_pos (by omega)]
  rw [e];clear h hf e;have d:decide (200<(n:Int))=true:=by simp;omega
  go_enter func200,ntmps200
  go_wp2_with fail
  go_ret2
  exact ⟨rfl,Ξp _ _⟩
 ·have C:=ξ3V a n cap l w h
  have d:decide (200<(n:Int))=false:=by simp;omega
  have e:l.any (fun p=>!isP p)=true/\nfault l=1:=by
   unfold nfault at hf ⊢;rw [if_neg (by omega)] at hf ⊢
   by_cases q:l.any (fun p=>!isP p)=true
   ·exact ⟨q,if_pos q⟩
   ·rw [if_neg q] at hf;exact absurd rfl hf
  rw [e.1] at C;rw [e.2];have HC:=ξ0 C
  clear C h hf e;go_enter func200,ntmps200
  go_wp2_with fail
  refine HC.out.mono ?_
  rintro e w' ⟨rfl,hb'⟩;go_wp2_with fail
  go_ret2
  exact ⟨rfl,hb'⟩
structure NSt (w wr:World) (K:List Int) (v:Value):Prop where
 below:Below w.heap.size w wr
 own:wr.ownsRow w.heap.size 3 1 v K.length (ic K)
theorem ξ6E (a:Option Addr) (n cap:Nat) (l:List (Int×Int)) (w:World) (h:PArg w a n l) (hf:nfault l=0) :
 Calls prog 200 #[.slice a n cap] w fun e w'=>∃ v',e=.returned (.tuple #[v',.nilIface])/\w'.ownsRow w.heap.size 3 1 v' (norm (told (l.map np))).length (ic (norm (told (l.map np))))/\Below w.heap.size w w':=by
 have hl:=h.2.1
 have hb:=h.2.2
 obtain ⟨p,hany⟩:=ξ3R hf;have hrng:=ξf7 hany
 have C:=ξ3V a n cap l w h
 rw [hany] at C;have HC:=ξ0 C
 have HH:=ξ0 h
 have HRNG:=ξ0 hrng
 have d:decide (200<(n:Int))=false:=by simp;omega
 have hT:∀ j,(told ((l.take j).map np)).length<=3400:=fun j=>by
  have:=(ξ1N ((l.take j).map np)).2
  simp only [Ξm,List.length_take] at this
  omega
 have HT:=ξ0 hT
 have HE:Hid (norm (told (l.map np))=compact ((told ((l.take n).map np)).mergeSort fun x y=>decide (x<=y))):=by
  rw [Ξl (by omega)];exact rfl
 generalize norm (told (l.map np))=R at *
 clear C h hf hany hrng hT;go_enter func200,ntmps200
 go_wp2_with fail
 refine HC.out.mono ?_
 rintro e w1 ⟨rfl,hb1⟩;have HB1:=ξ0 hb1
 have HP:=ξ0 (HH.out.below hb1)
 clear hb1 HH HC;have HN0:Hid (NSt w1 w1 (told ((l.take 0).map np)) (.slice none 0 0)):=⟨Ξp _ _,Ξr _ _ _ _⟩
 go_wp2_with fail
 go_loopg [4,16] n (fun g x y wr=>∃ (j:Nat) (v:Value),j+g=n/\x=v/\y=.int .i64 (j:Int)/\Hid (NSt w1 wr (told ((l.take j).map np)) v))
 case atStart=>exact ⟨0,_,by omega,rfl,rfl,HN0⟩
 case round=>
  obtain ⟨j,v,hjg,rfl,rfl,HS⟩:=hrel;by_cases hj:j<n
  ·have hjz:(j:Int)<(n:Int):=by omega
   obtain ⟨b,o,rfl,hbl,hcs⟩:=HP.out.at (by omega)
   obtain ⟨c0,c1⟩:=hcs j hj;have hc0:=(HS.out.below.cell (p:=⟨b,o+j*2,none⟩) hbl).trans c0
   have hc1:=(HS.out.below.cell (p:=⟨b,o+j*2+1,none⟩) hbl).trans c1
   clear c0 c1 hcs;obtain ⟨⟨bs,mi⟩,hp⟩:∃ p,l.getD j (0,0)=p:=⟨_,rfl⟩;rw [hp] at hc0 hc1;have hmem:(bs,mi)∈l:=by rw [<- hp,Ξa,Ξd (by omega)];exact List.getElem_mem _
   obtain ⟨hb0,hb1,hm0,hm1⟩:=HRNG.out _ hmem;obtain ⟨mk,hmk⟩:∃ m:Nat,mi=(m:Int):=⟨mi.toNat,by simp only at hm0;omega⟩
   have hm':mk<65536:=by simp only at hm1;omega
   subst hmk;simp only at hc0 hc1 hb0 hb1
   have HNX:Hid (told ((l.take (j+1)).map np)=told ((l.take j).map np)++tells (bs,mk)):=by
    have e:l.take (j+1)=l.take j++[(bs,(mk:Int))]:=by
     rw [<- hp,Ξa,Ξd (by omega),Option.getD_some,List.take_append_getElem (by omega)]
    show _=_
    rw [e,List.map_append,ξ29];simp [ξ1M,np]
   have hk:=HT.out j
   clear hp hmem hm0 hm1;generalize told ((l.take j).map np)=T at *
   have HAP:Hid (∀ W v,W.ownsRow w1.heap.size 3 1 v T.length (ic T)->w1.heap.size<=W.heap.size->Calls prog 211 #[v,.agg #[.int .i64 bs,.int .i64 (mk:Int)]] W _):=fun W v hW hs=>ξbD v _ T.length T bs mk W hW hs (by omega) hb0 hb1 hm'
   go_wp2_with fail
   refine (HAP.out _ _ (HS.out.own.alloc _) (by have:=HS.out.below.size;simp;omega)).mono ?_
   rintro e w2 ⟨v2,rfl,ho2,hb2⟩;have HS2:Hid (NSt w1 w2 (T++tells (bs,mk)) v2):=⟨(HS.out.below.alloc HS.out.below.size _).trans hb2,by rw [Ξh];exact ho2⟩
   clear ho2 hb2;go_wp2_with fail
   go_roundg (n - (j+1))
   case measure=>omega
   case rel=>exact ⟨j+1,v2,by omega,rfl,by go_num,by rw [HNX.out];exact HS2⟩
  ·have hjz:¬ (j:Int)<(n:Int):=by omega
   have ej:j=n:=by omega
   subst ej;have hk:=HT.out j
   go_wp2_with fail
   refine (ξ1G _ _ _ _ _ HS.out.own (by omega)).mono ?_
   rintro e w3 ⟨rfl,ho3,hg3⟩;have HO3:=ξ0 ho3
   have HB3:=ξ0 (HS.out.below.grown hg3 HS.out.below.size (fun j hj=>(HS.out.own.lt j hj).1))
   clear ho3 hg3;go_wp2_with fail
   refine (ξ20 _ _ _ _ w3 HO3.out (by omega)).mono ?_
   rintro e w4 ⟨v4,rfl,hbl,ho4,hg4⟩;have HO4:=ξ0 ho4
   have HB4:=ξ0 (HB3.out.grown hg4 HB3.out.size (fun j hj=>(HO3.out.lt j hj).1))
   clear ho4 hg4 hbl;go_wp2_with fail
   go_ret2
   refine ⟨v4,rfl,?_,HB1.out.trans (HB4.out.mono HB1.out.size)⟩
   have ho:=HO4.out
   rw [<- HE.out] at ho;refine ⟨ho.1,?_⟩
   rcases ho.2 with h0 | ⟨g,cap,cur,e,hg,rest⟩
   ·exact .inl h0
   ·exact .inr ⟨g,cap,cur,e,by have:=HB1.out.size;omega,rest⟩
theorem ξT {L:List Int} (h:pfault L=0):L.length<=200/\∀ x∈L,0<=x/\x<=65535:=by
 unfold pfault at h;by_cases q:200<L.length
 ·rw [if_pos q] at h;omega
 ·rw [if_neg q] at h;by_cases q2:L.any (fun x=>!inR x)=true
  ·rw [if_pos q2] at h;omega
  ·exact ⟨by omega,ξ6R (by simpa using q2)⟩
theorem ξfr (l:List (Int×Nat)):(pr l).map np=l:=by
 simp only [pr,List.map_map]
 conv=>rhs;rw [<- List.map_id l]
 apply List.map_congr_left
 intro p _;simp [np]
theorem ξel {l:List (Int×Nat)} {S:List Int} (h:Fit l S) (hS:∀ x∈S,0<=x/\x<=65535):(pr l).any (fun p=>!isP p)=false:=by
 rw [List.any_eq_false];intro q hq;simp only [pr,Ξi] at hq
 obtain ⟨p,hp,rfl⟩:=hq;have hm:=h.mask p hp
 have hb:=hS p.1 (h.base p hp)
 have hbits:=(ξ7H hm p.1 hb.2).2 (fun i hi=>by
  have:p.1+(i:Int)+1∈S:=by
   rw [<- h.told];exact List.mem_flatMap.2 ⟨p,hp,(ξ5u hm).2 (.inr ⟨i,hi,rfl⟩)⟩
  exact (hS _ this).2)
 simp only [isP,inR,Bool.not_eq_true',Bool.not_eq_false,Bool.and_eq_true,decide_eq_true_eq,Int.toNat_natCast]
 omega
theorem ξ1J {L:List Int} (h:pfault L=0):nfault (pr (prsOf L))=0/\numsOf (pr (prsOf L))=norm L/\(prsOf L).length<=(norm L).length/\(norm L).length<=17*(prsOf L).length/\(prsOf L).length<=L.length/\Fit (prsOf L) (norm L):=by
 obtain ⟨h1,h2⟩:=ξT h;have hfit:=ξ3t _ (ξY L).1
 have hS:∀ x∈norm L,0<=x/\x<=65535:=fun x hx=>h2 x (((ξY L).2 x).1 hx)
 have e:prsOf L=pairs (norm L):=by rw [prsOf,if_pos h]
 have hl:=ξ1N (pairs (norm L))
 rw [hfit.told] at hl;have hn:=ξ1x L
 have hz:nfault (pr (prsOf L))=0:=by
  unfold nfault;rw [e,if_neg (by rw [ξ2a];omega),ξel hfit hS]
  rfl
 refine ⟨hz,?_,by rw [e];exact hl.1,by rw [e];exact hl.2,by rw [e];omega,by rw [e];exact hfit⟩
 rw [numsOf,if_pos hz,ξfr,e,hfit.told,ξ3g (ξY L).1]
theorem cmp_eq (f:Nat) (w:World):(binOp .eql 25 (errv f) .nilIface).run prog w=.ok (.bool (decide (f=0))) w:=by
 by_cases p:f=0
 ·rw [p,ξ4];simp [go_sem]
 ·rw [ξi p];simp [go_sem,p]
theorem ξr (f:Nat) (w:World):(binOp .neq 25 (errv f) .nilIface).run prog w=.ok (.bool (!decide (f=0))) w:=by
 by_cases p:f=0
 ·rw [p,ξ4];simp [go_sem]
 ·rw [ξi p];simp [go_sem,p]
theorem ξ3q (f:Nat) (o1:Operand) (w:World):(eqGuard .eql 25 o1 (.const .nilIface) (errv f) .nilIface).run prog w=.ok () w:=by
 by_cases p:f=0
 ·rw [p,ξ4];unfold eqGuard;simp
 ·rw [ξi p];simp [go_sem]
theorem ξq (f:Nat) (o1:Operand) (w:World):(eqGuard .neq 25 o1 (.const .nilIface) (errv f) .nilIface).run prog w=.ok () w:=by
 by_cases p:f=0
 ·rw [p,ξ4];unfold eqGuard;simp
 ·rw [ξi p];simp [go_sem]
end Go.Proofs.YtpiamlgmadnepaaGreat.Back
namespace Go.Proofs.YtpiamlgmadnepaaGreat.Back
open Go.Lib BM Mem
def be:Nat->Nat->List Nat
 | 0,_=>[]
 | s+1,n=>(n / 256 ^ s%256)::be s n
theorem ξ19:∀ s n,(be s n).length=s
 | 0,_=>rfl
 | s+1,n=>by simp [be,ξ19 s n]
theorem ξ4I:∀ s n,∀ c∈be s n,c<256
 | 0,n,c,h=>by simp [be] at h
 | s+1,n,c,h=>by
   rcases Ξf.1 h with rfl | h
   ·exact Nat.mod_lt _ (by decide)
   ·exact ξ4I s n c h
def val (B:List Nat):Nat:=B.foldl (fun n c=>n*256+c) 0
theorem ξdu (n:Nat) (h:n<256):val (be 1 n)=n:=by simp [val,be];omega
theorem ξ7M (n:Nat) (h:n<65536):val (be 2 n)=n:=by simp [val,be];omega
theorem ξbQ (n:Nat) (h:n<4294967296):val (be 4 n)=n:=by simp [val,be];omega
def most (k:Int):Int:=if k=1 then 0 else if k=2 then 3 else if k=3 then 1000000 else -1
def cfault (k t:Int) (L:List Int) (u:Int):Nat:=
 if t<1∨8<t∨¬ (0<=u/\u<=most k) then 1 else if (decide (k=1)==decide (L.length=0))||!decide (Rises L) then 3 else 0
def efault (k t:Int) (L:List Int) (u:Int):Nat:=if cfault k t L u=0 then pfault L else cfault k t L u
def pbytes (l:List (Int×Nat)):List Nat:=l.flatMap fun p=>be 2 p.1.toNat++be 2 p.2
def tail (k:Int) (L:List Int) (u:Int):List Nat:=(if k=2 then be 1 u.toNat else if k=3 then be 4 u.toNat else [])++pbytes (prsOf L)
def ebytes (k t:Int) (L:List Int) (u:Int):List Nat:=k.toNat::t.toNat::tail k L u
theorem ξ1e {k t:Int} {L:List Int} {u:Int} (h:cfault k t L u=0):(k=1∨k=2∨k=3)/\1<=t/\t<=8/\0<=u/\u<=most k/\(k=1↔L.length≠0)/\Rises L:=by
 unfold cfault at h;split at h
 ·omega
 ·rename_i h1
  split at h
  ·omega
  ·rename_i h2
   simp only [Bool.or_eq_true,beq_iff_eq,decide_eq_decide,Bool.not_eq_true',decide_eq_false_iff_not,not_or,Decidable.not_not] at h2
   have hm:0<=most k:=by omega
   refine ⟨?_,by omega,by omega,by omega,by omega,?_,h2.2⟩
   ·unfold most at hm;split at hm
    ·omega
    ·split at hm
     ·omega
     ·split at hm<;>omega
   ·have:=h2.1
    constructor
    ·intro hk h0;exact this ⟨fun _=>h0,fun _=>hk⟩
    ·intro hl;by_cases hk:k=1
     ·exact hk
     ·exact absurd ⟨fun h=>absurd h hk,fun h=>absurd h hl⟩ this
theorem ξU {k t:Int} {L:List Int} {u:Int} (h:efault k t L u=0):cfault k t L u=0/\pfault L=0:=by
 unfold efault at h;split at h
 ·rename_i h0;exact ⟨h0,h⟩
 ·rename_i h0;exact absurd h h0
theorem ξ84 (k:Int):most k<=1000000:=by
 unfold most;split
 ·omega
 ·split
  ·omega
  ·split<;>omega
def prsB:List Nat->List (Int×Int)
 | a::b::c::d::r=>((val [a,b]:Int),(val [c,d]:Int))::prsB r
 | _=>[]
theorem ξ2R (a b c d:Nat) (r:List Nat):prsB (a::b::c::d::r)=((val [a,b]:Int),(val [c,d]:Int))::prsB r:=rfl
theorem ξ3Q:∀ l:List (Int×Nat),(∀ p∈l,0<=p.1/\p.1<=65535/\p.2<65536)->prsB (pbytes l)=pr l
 | [],_=>rfl
 | p::l,h=>by
   have ih:=ξ3Q l (fun q hq=>h q (List.mem_cons_of_mem _ hq))
   obtain ⟨h1,h2,h3⟩:=h p (List.mem_cons_self ..);have e1:=ξ7M p.1.toNat (by omega)
   have e2:=ξ7M p.2 h3
   have e:pbytes (p::l)=(p.1.toNat / 256 ^ 1%256)::(p.1.toNat / 256 ^ 0%256)::(p.2 / 256 ^ 1%256)::(p.2 / 256 ^ 0%256)::pbytes l:=rfl
   rw [e,ξ2R,ih];have e1':val [p.1.toNat / 256 ^ 1%256,p.1.toNat / 256 ^ 0%256]=p.1.toNat:=e1
   have e2':val [p.2 / 256 ^ 1%256,p.2 / 256 ^ 0%256]=p.2:=e2
   rw [e1',e2'];show (((p.1.toNat:Nat):Int),(p.2:Int))::pr l=(p.1,(p.2:Int))::pr l
   rw [Int.toNat_of_nonneg h1]
theorem ξ2S:∀ l:List (Int×Nat),(pbytes l).length=l.length*4
 | []=>rfl
 | p::l=>by
   have:=ξ2S l
   have e:pbytes (p::l)=be 2 p.1.toNat++be 2 p.2++pbytes l:=rfl
   rw [e,Ξh,Ξh,ξ19,ξ19,this,List.length_cons];omega
theorem ξaq (l:List (Int×Nat)):∀ c∈pbytes l,c<256:=by
 intro c hc;obtain ⟨p,_,hp⟩:=List.mem_flatMap.1 hc;rcases Ξe.1 hp with h | h
 ·exact ξ4I _ _ c h
 ·exact ξ4I _ _ c h
theorem ξ7k (l:List (Int×Nat)) (p:Int×Nat):pbytes (l++[p])=pbytes l++be 2 p.1.toNat++be 2 p.2:=by simp [pbytes]
def rshort:List Nat->Bool
 | k::_::r=>if k=1 then decide (r.length<4)||decide (r.length%4≠0) else if k=2 then decide (r.length<1) else if k=3 then decide (r.length<4) else false
 | _=>true
def saidL (k:Nat) (r:List Nat):List Int:=if k=1 then numsOf (prsB r) else []
def saidU (k:Nat) (r:List Nat):Nat:=if k=2 then val (r.take 1) else if k=3 then val (r.take 4) else 0
def gfault (k:Nat) (r:List Nat):Bool:=decide (k=1)&&(decide (800<r.length)||decide (nfault (prsB r)≠0))
def sfault (k t:Nat) (r:List Nat):Nat:=
 if gfault k r then 2 else if efault k t (saidL k r) (saidU k r)≠0∨ebytes k t (saidL k r) (saidU k r)≠k::t::r then 2 else 0
def rfault (B:List Nat):Nat:=if rshort B then 8 else match B with
 | k::t::r=>sfault k t r
 | _=>8
theorem ξ2O (k t:Nat) (r:List Nat) (h:rshort (k::t::r)=false):rfault (k::t::r)=sfault k t r:=by
 unfold rfault;rw [if_neg (by rw [h];decide)]
theorem ξ5m:prsOf []=[]:=by
 unfold prsOf;rw [ξ3g (show Rises [] from List.Pairwise.nil)];split<;>rfl
theorem again {k t:Int} {L:List Int} {u:Int} (h:efault k t L u=0):∃ (k' t':Nat) (r:List Nat),k=k'/\t=t'/\ebytes k t L u=k'::t'::r/\rshort (k'::t'::r)=false/\sfault k' t' r=0/\saidL k' r=L/\(saidU k' r:Int)=u:=by
 obtain ⟨hc,hp⟩:=ξU h;obtain ⟨hk,t1,t8,u0,um,hkl,hris⟩:=ξ1e hc;have hme:=ξ84 k
 obtain ⟨b1,b2,b3,b4,b5,hfit⟩:=ξ1J hp;rw [ξ3g hris] at b2 b3 b4 hfit;have hL:=(ξT hp).2
 have hpp:prsB (pbytes (prsOf L))=pr (prsOf L):=ξ3Q _ (fun p hp=>⟨(hL _ (hfit.base p hp)).1,(hL _ (hfit.base p hp)).2,hfit.mask p hp⟩)
 have hlen:=ξ2S (prsOf L)
 have hl200:=(ξT hp).1
 obtain ⟨k',rfl⟩:∃ k':Nat,k=k':=⟨k.toNat,by omega⟩
 obtain ⟨t',rfl⟩:∃ t':Nat,t=t':=⟨t.toNat,by omega⟩
 refine ⟨k',t',tail k' L u,rfl,rfl,by simp [ebytes],?_⟩
 have key:rshort (k'::t'::tail k' L u)=false/\gfault k' (tail k' L u)=false/\saidL k' (tail k' L u)=L/\(saidU k' (tail k' L u):Int)=u:=by
  rcases hk with hk | hk | hk
  ·have hk:k'=1:=by omega
   subst hk;have hne:L.length≠0:=hkl.1 rfl
   have hu:u=0:=by simp [most] at um;omega
   have et:tail (1:Nat) L u=pbytes (prsOf L):=by simp [tail]
   have hpos:0<(prsOf L).length:=by omega
   refine ⟨?_,?_,?_,?_⟩
   ·simp only [rshort,et,hlen]
    simp
    omega
   ·simp only [gfault,et,hlen,hpp,b1]
    simp
    omega
   ·rw [saidL,if_pos rfl,et,hpp,b2]
   ·simp [saidU,hu]
  ·have hk:k'=2:=by omega
   subst hk;have hnil:L=[]:=by
    by_cases h0:L.length=0
    ·exact Ξk h0
    ·have:=hkl.2 h0;omega
   subst hnil;have hu:u<=3:=by simpa [most] using um
   have et:tail (2:Nat) [] u=be 1 u.toNat:=by simp [tail,ξ5m,pbytes]
   rw [et];refine ⟨by simp [rshort,ξ19],by simp [gfault],by simp [saidL],?_⟩
   have:(be 1 u.toNat).take 1=be 1 u.toNat:=Ξl (by rw [ξ19];exact Ξo _)
   simp only [saidU,this,ξdu u.toNat (by omega)]
   simp
   omega
  ·have hk:k'=3:=by omega
   subst hk;have hnil:L=[]:=by
    by_cases h0:L.length=0
    ·exact Ξk h0
    ·have:=hkl.2 h0;omega
   subst hnil;have et:tail (3:Nat) [] u=be 4 u.toNat:=by simp [tail,ξ5m,pbytes]
   rw [et];refine ⟨by simp [rshort,ξ19],by simp [gfault],by simp [saidL],?_⟩
   have:(be 4 u.toNat).take 4=be 4 u.toNat:=Ξl (by rw [ξ19];exact Ξo _)
   simp only [saidU,this,ξbQ u.toNat (by omega)]
   simp
   omega
 obtain ⟨c1,c2,c3,c4⟩:=key;refine ⟨c1,?_,c3,c4⟩
 unfold sfault;rw [if_neg (by rw [c2];decide),c3,c4,if_neg]
 rw [not_or,Decidable.not_not,Decidable.not_not];exact ⟨h,by simp [ebytes]⟩
end Go.Proofs.YtpiamlgmadnepaaGreat.Back
