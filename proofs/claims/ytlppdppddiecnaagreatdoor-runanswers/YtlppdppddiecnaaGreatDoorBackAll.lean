/-
  BackA, BackB, BackC in one text.
-/
import Derived.Test.YtlppdppddiecnaaGreatDoorMathAll
import Derived.Test.YtlppdppddiecnaaGreatDoorMemP
import Derived.Test.YtlppdppddiecnaaGreatDoorShelfBP
import Derived.Test.YtlppdppddiecnaaGreatDoorShelfSP
import Derived.Test.YtlppdppddiecnaaGreatDoorRows
import Derived.WalkKit
import Derived.ProofKit
import Derived.OpenShut
import Derived.ChangeOld
import Derived.Below
import Derived.Deep.QuietTactic
import Derived.BigQuiet
import Derived.Laws.AppendOwnNone
import Derived.Sort.OwnSortedInts
import Derived.WalkSmall
import Derived.WalkSpells
import Derived.LoopTactic
import Derived.Laws.BitsAllLaws
import Derived.Deep.LoopGhost
import Derived.Deep.CutRange

namespace Go.Proofs.YtlppdppddiecnaaGreatDoor.Back
open Go.ChangeShapes Go.WideShapes Go.ChangeAt Go.RowKit Go.Sort Go.Lib Go.Proofs.YtlppdppddiecnaaGreatDoor.BM Go.Proofs.YtlppdppddiecnaaGreatDoor.Mem Go.Shelf
set_option linter.unusedVariables false

def errv (e:Nat):Value:=if e=0 then .nilIface else .iface 107 (.int .i64 (e:Int))
theorem errv_zero:errv 0=.nilIface:=rfl
theorem errv_pos {e:Nat} (h:e≠0):errv e=.iface 107 (.int .i64 (e:Int)):=by simp [errv,h]
theorem info3:(Tryz.prog.info? 3).map (fun i=>(i.zero,i.size,i.bytes))=some (some (.int .i64 0),1,8):=by kernel_rfl
theorem infoPR:(Tryz.prog.info? 78).map (fun i=>(i.zero,i.size,i.bytes))=some (some (.agg #[.int .i64 0,.int .i64 0]),2,16):=by kernel_rfl

def ic (L:List Int):List Value:=L.map (Value.int .i64)
theorem ic_len (L:List Int):(ic L).length=L.length:=by simp [ic]
theorem ic_get (L:List Int) (j:Nat) (h:j<L.length):(ic L)[j]?=some (.int .i64 (L.getD j 0)):=by
  simp [ic,List.getD_eq_getElem?_getD,List.getElem?_eq_getElem h]
def Ints (w:World) (a:Option Addr) (L:List Int):Prop:=∀ j,j<L.length→∃ b o,a=some ⟨b,o,none⟩∧w.cell? ⟨b,o+j,none⟩=some (.int .i64 (L.getD j 0))
def IArg (w:World) (a:Option Addr) (n:Nat) (L:List Int):Prop:=Ints w a L∧L.length=n∧n≤9223372036854775807
theorem IArg.below {w w':World} {a:Option Addr} {n:Nat} {L:List Int} (h:IArg w a n L) (hb:Below w.heap.size w w'):IArg w' a n L:=by
  refine ⟨fun j hj=>?_,h.2⟩
  obtain ⟨b,o,e,hc⟩:=h.1 j hj
  exact ⟨b,o,e,(hb.cell (p:=⟨b,o+j,none⟩) (World.block_lt_of_cell? w ⟨b,o+j,none⟩ hc)).trans hc⟩
theorem IArg.nil (w:World) (a:Option Addr):IArg w a 0 []:=⟨fun j h=>absurd h (by simp),rfl,by omega⟩
theorem IArg.at {w:World} {a:Option Addr} {n:Nat} {L:List Int} (h:IArg w a n L) (hn:0<n):∃ b o,a=some ⟨b,o,none⟩∧∀ j,j<n→w.cell? ⟨b,o+j,none⟩=some (.int .i64 (L.getD j 0)):=by
  obtain ⟨b,o,e,_⟩:=h.1 0 (by have:=h.2.1;omega)
  refine ⟨b,o,e,fun j hj=>?_⟩
  obtain ⟨b',o',e',hc⟩:=h.1 j (by have:=h.2.1;omega)
  rw [e,Option.some.injEq,Addr.mk.injEq] at e'
  obtain ⟨rfl,rfl,_⟩:=e'
  exact hc
theorem own_ints {w:World} {base n:Nat} {v:Value} {L:List Int} (h:w.ownsRow base 3 1 v n (ic L)) (hn:n≤9223372036854775807) :
    ∃ a cap,v=.slice a n cap∧IArg w a n L∧(a=none→n=0∧cap=0)∧n≤cap∧∀ ad,a=some ad→∃ g,ad=⟨g,0,none⟩∧base≤g∧g<w.heap.size:=by
  have hl:L.length=n:=by have:=h.1;rw [ic_len] at this;omega
  rcases h.2 with ⟨rfl,rfl⟩ | ⟨g,cap,cur,rfl,hg,hb,hc,hm,hs,ht⟩
  · have:L=[]:=List.eq_nil_of_length_eq_zero hl
    subst this
    exact ⟨none,0,rfl,IArg.nil _ _,fun _=>⟨rfl,rfl⟩,Nat.le_refl _,fun ad e=>by simp at e⟩
  · refine ⟨_,cap,rfl,⟨fun j hj=>⟨g,0,rfl,?_⟩,hl,hn⟩,fun e=>by simp at e,hc,fun ad e=>⟨g,by simpa using e.symm,hg,lt_of_block hb⟩⟩
    rw [Nat.zero_add,h.cellAt j (by omega),ic_get L j hj]

def pc (l:List (Int×Int)):List Value:=l.flatMap fun p=>[.int .i64 p.1,.int .i64 p.2]
theorem pc_len:∀ l:List (Int×Int),(pc l).length=l.length*2
  | []=>rfl
  | p::l=>by have:=pc_len l;simp [pc] at this ⊢;omega
theorem pc_app (l k:List (Int×Int)):pc (l++k)=pc l++pc k:=by simp [pc]
theorem pc_one (p:Int×Int):pc [p]=[.int .i64 p.1,.int .i64 p.2]:=rfl
theorem pc_get:∀ (l:List (Int×Int)) (j:Nat),j<l.length→(pc l)[j*2]?=some (.int .i64 (l.getD j (0,0)).1)∧(pc l)[j*2+1]?=some (.int .i64 (l.getD j (0,0)).2)
  | [],j,h=>absurd h (by simp)
  | p::l,0,_=>⟨rfl,rfl⟩
  | p::l,j+1,h=>by
    have:=pc_get l j (by simpa using h)
    have e:pc (p::l)=.int .i64 p.1::.int .i64 p.2::pc l:=rfl
    rw [e,show (j+1)*2=j*2+1+1 by omega]
    simpa using this
def Prs (w:World) (a:Option Addr) (l:List (Int×Int)):Prop:=∀ j,j<l.length→∃ b o,a=some ⟨b,o,none⟩∧w.cell? ⟨b,o+j*2,none⟩=some (.int .i64 (l.getD j (0,0)).1)∧w.cell? ⟨b,o+j*2+1,none⟩=some (.int .i64 (l.getD j (0,0)).2)
def PArg (w:World) (a:Option Addr) (n:Nat) (l:List (Int×Int)):Prop:=Prs w a l∧l.length=n∧n≤9223372036854775807
theorem PArg.below {w w':World} {a:Option Addr} {n:Nat} {l:List (Int×Int)} (h:PArg w a n l) (hb:Below w.heap.size w w'):PArg w' a n l:=by
  refine ⟨fun j hj=>?_,h.2⟩
  obtain ⟨b,o,e,hc,hd⟩:=h.1 j hj
  exact ⟨b,o,e,(hb.cell (p:=⟨b,o+j*2,none⟩) (World.block_lt_of_cell? w _ hc)).trans hc,(hb.cell (p:=⟨b,o+j*2+1,none⟩) (World.block_lt_of_cell? w _ hd)).trans hd⟩
theorem PArg.nil (w:World) (a:Option Addr):PArg w a 0 []:=⟨fun j h=>absurd h (by simp),rfl,by omega⟩
theorem PArg.at {w:World} {a:Option Addr} {n:Nat} {l:List (Int×Int)} (h:PArg w a n l) (hn:0<n):∃ b o,a=some ⟨b,o,none⟩∧b<w.heap.size∧∀ j,j<n→w.cell? ⟨b,o+j*2,none⟩=some (.int .i64 (l.getD j (0,0)).1)∧w.cell? ⟨b,o+j*2+1,none⟩=some (.int .i64 (l.getD j (0,0)).2):=by
  obtain ⟨b,o,e,h0,_⟩:=h.1 0 (by have:=h.2.1;omega)
  refine ⟨b,o,e,World.block_lt_of_cell? w _ h0,fun j hj=>?_⟩
  obtain ⟨b',o',e',hc⟩:=h.1 j (by have:=h.2.1;omega)
  rw [e,Option.some.injEq,Addr.mk.injEq] at e'
  obtain ⟨rfl,rfl,_⟩:=e'
  exact hc
theorem own_prs {w:World} {base n:Nat} {v:Value} {l:List (Int×Int)} (h:w.ownsRow base 78 2 v n (pc l)) (hn:n≤9223372036854775807) :
    ∃ a cap,v=.slice a n cap∧PArg w a n l∧(a=none→n=0∧cap=0)∧n≤cap∧∀ ad,a=some ad→∃ g,ad=⟨g,0,none⟩∧base≤g∧g<w.heap.size:=by
  have hl:l.length=n:=by have:=h.1;rw [pc_len] at this;omega
  rcases h.2 with ⟨rfl,rfl⟩ | ⟨g,cap,cur,rfl,hg,hb,hc,hm,hs,ht⟩
  · have:l=[]:=List.eq_nil_of_length_eq_zero hl
    subst this
    exact ⟨none,0,rfl,PArg.nil _ _,fun _=>⟨rfl,rfl⟩,Nat.le_refl _,fun ad e=>by simp at e⟩
  · refine ⟨_,cap,rfl,⟨fun j hj=>⟨g,0,rfl,?_,?_⟩,hl,hn⟩,fun e=>by simp at e,hc,fun ad e=>⟨g,by simpa using e.symm,hg,lt_of_block hb⟩⟩
    · rw [Nat.zero_add,h.cellAt (j*2) (by omega),(pc_get l j hj).1]
    · rw [Nat.zero_add,h.cellAt (j*2+1) (by omega),(pc_get l j hj).2]

def inR (x:Int):Bool:=decide (0≤x∧x≤65535)
theorem within_calls (x m:Int) (w:World):Calls Tryz.prog 113 #[.int .i64 x,.int .i64 m] w fun e w'=>e=.returned (.bool (decide (0≤x∧x≤m)))∧w'=w:=by
  by_cases h:0≤x
  · have d:decide (0≤x)=true:=by simpa using h
    go_enter Tryz.func113,Tryz.ntmps113
    go_wp2_with fail
    go_ret
    exact ⟨by simp [h],rfl⟩
  · have d:decide (0≤x)=false:=by simpa using h
    go_enter Tryz.func113,Tryz.ntmps113
    go_wp2_with fail
    go_ret
    exact ⟨by simp,rfl⟩
theorem outside_calls (x:Int) (w:World):Calls Tryz.prog 112 #[.int .i64 x] w fun e w'=>e=.returned (.bool (!inR x))∧w'=w:=by
  have C:=hidden (fun w=>within_calls x 65535 w)
  have hb:decide (0≤x∧x≤65535)=inR x:=rfl
  rw [hb] at C
  clear hb
  generalize inR x=b at *
  go_enter Tryz.func112,Tryz.ntmps112
  go_wp2_with fail
  refine (C.out _).mono ?_
  rintro e w' ⟨rfl,rfl⟩
  go_wp2_with fail
  go_ret
  exact ⟨rfl,rfl⟩
theorem pred_outside (w:World):PredAt Tryz.prog 112 #[] (Value.int .i64) (fun x=>!inR x) w:=fun W x _=>by
  unfold FnGives
  refine (outside_calls x W).mono ?_
  rintro e w' ⟨rfl,rfl⟩
  exact ⟨rfl,0,rfl⟩
theorem cont_calls (a:Option Addr) (n cap:Nat) (L:List Int) (w:World) (h:IArg w a n L) :
    Calls Tryz.prog 111 #[.slice a n cap,.func (.func 112) #[] #[]] w fun e w'=>e=.returned (.bool (L.any fun x=>!inR x))∧∃ q,w'=w.drewN q:=by
  rcases Nat.eq_zero_or_pos n with rfl | hn
  · have:L=[]:=List.eq_nil_of_length_eq_zero h.2.1
    subst this
    refine (Tryz.slices_ContainsFunc_empty (α:=Int) a cap _ w).mono ?_
    rintro e w' ⟨rfl,rfl⟩
    exact ⟨rfl,0,rfl⟩
  · obtain ⟨b,o,rfl,hc⟩:=h.at hn
    have hl:=h.2.1
    have:=Tryz.slices_ContainsFunc (Value.int .i64) (fun x=>!inR x) 112 #[] (enters_of Tryz.func112 (by kernel_rfl) rfl) b o n cap L w (pred_outside w) (by omega) h.2.2 (fun j hj=>by
      rw [hc j (by omega)]
      congr 2
      rw [List.getD_eq_getElem?_getD,getElem!_pos L j hj,List.getElem?_eq_getElem hj]
      rfl)
    rw [List.take_of_length_le (by omega)] at this
    exact this
theorem clone_calls (a:Option Addr) (n cap:Nat) (L:List Int) (w:World) (h:IArg w a n L) (hn:a=none→n=0∧cap=0) (hb:n≤1000000) :
    Calls Tryz.prog 114 #[.slice a n cap] w fun e w'=>∃ v',e=.returned v'∧w'.ownsRow w.heap.size 3 1 v' n (ic L)∧Below w.heap.size w w':=by
  cases a with
  | none=>
    obtain ⟨rfl,rfl⟩:=hn rfl
    have:L=[]:=List.eq_nil_of_length_eq_zero h.2.1
    subst this
    refine (Tryz.slices_Clone_int_nil 0 0 w).mono ?_
    rintro e w' ⟨rfl,rfl⟩
    exact ⟨_,rfl,World.ownsRow_nil _ _ _ _,Below.refl _ _⟩
  | some ad=>
    rcases Nat.eq_zero_or_pos n with rfl | h0
    · have:L=[]:=List.eq_nil_of_length_eq_zero h.2.1
      subst this
      refine (Tryz.slices_Clone_int_zero ad cap w).mono ?_
      rintro e w' ⟨v',rfl,ho,_,hb⟩
      exact ⟨v',rfl,ho,hb⟩
    · obtain ⟨b,o,e,hc⟩:=h.at h0
      rw [Option.some.injEq] at e
      subst e
      have hl:=h.2.1
      refine (Tryz.slices_Clone_int b o n cap L w (by omega) (by omega) (fun j hj=>hc j (by omega))).mono ?_
      rintro e w' ⟨v',rfl,ho,_,hb⟩
      rw [List.take_of_length_le (by omega)] at ho
      exact ⟨v',rfl,ho,hb⟩
theorem sort_calls (v:Value) (base n:Nat) (L:List Int) (w:World) (h:w.ownsRow base 3 1 v n (ic L)) (hb:n≤1000000) :
    Calls Tryz.prog 115 #[v] w fun e w'=>e=.returned (.tuple #[])∧w'.ownsRow base 3 1 v n (ic (L.mergeSort fun x y=>decide (x≤y)))∧w.grownBy w' v.ownBlock:=by
  have hl:L.length=n:=by have:=h.1;rw [ic_len] at this;omega
  rcases h.2 with ⟨rfl,rfl⟩ | ⟨g,cap,cur,rfl,hg,hbl,hc,hm,hs,ht⟩
  · have:L=[]:=List.eq_nil_of_length_eq_zero hl
    subst this
    refine (AnyM.slices_Sort_int_none Tryz.sortA none 0 w).mono ?_
    rintro e w' ⟨rfl,rfl⟩
    exact ⟨rfl,by simpa [ic] using World.ownsRow_nil _ _ _ _,World.grownBy.refl _ _⟩
  · subst hl
    refine (AnyM.slices_Sort_int Tryz.sortA g 0 cap L w (holds_of_blockI hbl (by simpa [ic] using ht)) (lt_of_block hbl) (by omega)).mono ?_
    rintro e w' ⟨rfl,n,os,rfl⟩
    exact ⟨rfl,ownsRow_sortedI (by simp) hg hbl hc hm hs,grownBy_sortedI _⟩
theorem ic_take {cur:Array Value} {L K:List Int} (h:L.length≤cur.size) (hk:K.length≤L.length) (x:List Int) (hx:L=K++x):((putCells (Value.int .i64) 0 L.toArray cur).toList.take K.length)=ic K:=by
  have:=take_putCellsI cur L h
  have e:(putCells (Value.int .i64) 0 L.toArray cur).toList.take K.length=((putCells (Value.int .i64) 0 L.toArray cur).toList.take L.length).take K.length:=by rw [List.take_take,Nat.min_eq_left hk]
  rw [e,this,hx,ic,List.map_append,List.take_left' (by simp)]
theorem compact_calls (v:Value) (base n:Nat) (L:List Int) (w:World) (h:w.ownsRow base 3 1 v n (ic L)) (hb:n≤1000000) :
    Calls Tryz.prog 116 #[v] w fun e w'=>∃ v',e=.returned v'∧v'.ownBlock=v.ownBlock∧w'.ownsRow base 3 1 v' (compact L).length (ic (compact L))∧w.grownBy w' v.ownBlock:=by
  have hl:L.length=n:=by have:=h.1;rw [ic_len] at this;omega
  rcases h.2 with ⟨rfl,rfl⟩ | ⟨g,cap,cur,rfl,hg,hbl,hc,hm,hs,ht⟩
  · have:L=[]:=List.eq_nil_of_length_eq_zero hl
    subst this
    refine (Tryz.slices_Compact_int_empty none 0 w).mono ?_
    rintro e w' ⟨rfl,rfl⟩
    exact ⟨_,rfl,rfl,World.ownsRow_nil _ _ _ _,World.grownBy.refl _ _⟩
  · subst hl
    refine (Tryz.slices_Compact_int g 0 cap L w (holds_of_blockI hbl (by simpa [ic] using ht)) (by omega) (by omega)).mono ?_
    rintro e w' ⟨rfl,n,rfl⟩
    have hlen:=compact_len L
    generalize compact L=K at *
    have hp:putRow (Value.int .i64) (Sort.ahead w n) g 0 (K++List.replicate (L.length - K.length) 0).toArray=grow (putRow (Value.int .i64) (Sort.ahead w n) g 0 (K++List.replicate (L.length - K.length) 0).toArray) #[]:=by simp
    rw [hp]
    refine ⟨_,rfl,rfl,⟨by rw [ic_len];omega,.inr ⟨g,cap,_,rfl,hg,heap_sortedI _ hbl,by omega,hm,by simp [putCells,hs],?_⟩⟩,grownBy_sortedI _⟩
    rw [Nat.mul_one]
    exact ic_take (by simp;omega) (by simp) _ rfl
end Go.Proofs.YtlppdppddiecnaaGreatDoor.Back
namespace Go.Proofs.YtlppdppddiecnaaGreatDoor.Back
open Go.ChangeShapes Go.WideShapes Go.ChangeAt Go.RowKit Go.Sort Go.Lib Go.Proofs.YtlppdppddiecnaaGreatDoor.BM Go.Proofs.YtlppdppddiecnaaGreatDoor.Mem
set_option linter.unusedVariables false

theorem ofInt_i64 (a:Nat) (ha:a<9223372036854775808):(BitVec.ofInt 64 (a:Int)).toNat=a:=by
  rw [BitVec.ofInt_natCast,BitVec.toNat_ofNat];exact Nat.mod_eq_of_lt (by omega)
theorem i64_or_nat (a b:Nat) (ha:a<9223372036854775808) (hb:b<9223372036854775808):bits .or .i64 (a:Int) (b:Int)=((a ||| b:Nat):Int):=by
  have hx:a ||| b<2 ^ 63:=Nat.or_lt_two_pow (by omega) (by omega)
  show IntKind.i64.wrap ((BitVec.ofInt 64 (a:Int) ||| BitVec.ofInt 64 (b:Int)).toNat:Int)=_
  rw [BitVec.toNat_or,ofInt_i64 a ha,ofInt_i64 b hb,IntKind.wrap_i64]
  omega
theorem mask_bits (m d:Nat) (hm:m<65536) (hd:d<16):bits .or .i64 (m:Int) (2 ^ d)=((m ||| 2 ^ d:Nat):Int):=by
  have h16:(2:Nat) ^ d<65536:=show (2:Nat) ^ d<2 ^ 16 from Nat.pow_lt_pow_right (by decide) hd
  have e2:(2:Int) ^ d=((2 ^ d:Nat):Int):=by rw [Int.natCast_pow];rfl
  rw [e2,i64_or_nat _ _ (by omega) (by omega)]

def pfault (L:List Int):Nat:=if 200<L.length then 4 else if L.any (fun x=>!inR x) then 1 else 0
def prsOf (L:List Int):List (Int×Nat):=if pfault L=0 then pairs (norm L) else []
def pr (l:List (Int×Nat)):List (Int×Int):=l.map fun p=>(p.1,(p.2:Int))
theorem pr_len (l:List (Int×Nat)):(pr l).length=l.length:=by simp [pr]
theorem pr_app (l k:List (Int×Nat)):pr (l++k)=pr l++pr k:=by simp [pr]
theorem pc_set (K:List (Int×Int)) (b m m':Int):(pc (K++[(b,m)])).set (K.length*2+1) (.int .i64 m')=pc (K++[(b,m')]):=by
  rw [pc_app,pc_app,pc_one,pc_one,List.set_append_right _ _ (by rw [pc_len];omega),pc_len,show K.length*2+1 - K.length*2=1 by omega]
  rfl
theorem in_range {L:List Int} (h:L.any (fun x=>!inR x)=false):∀ x∈L,0≤x∧x≤65535:=by
  intro x hx
  have:=List.any_eq_false.1 h x hx
  simpa [inR] using this

structure PSt (w wr:World) (l:List (Int×Nat)) (v:Value):Prop where
  below:Below w.heap.size w wr
  own:wr.ownsRow w.heap.size 78 2 v l.length (pc (pr l))
theorem PSt.shape {w wr:World} {K:List (Int×Nat)} {b:Int} {m:Nat} {v:Value} (h:PSt w wr (K++[(b,m)]) v) :
    ∃ g cap,v=.slice (some ⟨g,0,none⟩) (K.length+1) cap∧wr.cell? ⟨g,K.length*2,none⟩=some (.int .i64 b)∧wr.cell? ⟨g,K.length*2+1,none⟩=some (.int .i64 (m:Int))∧wr.frozen? ⟨g,K.length*2+1,none⟩=false ∧
      PSt w wr (K++[(b,m)]) (.slice (some ⟨g,0,none⟩) (K.length+1) cap):=by
  have ho:=h.own
  rw [List.length_append,List.length_singleton] at ho
  rcases ho.2 with ⟨_,h0⟩ | ⟨g,cap,cur,rfl,rest⟩
  · omega
  · have e:pc (pr (K++[(b,m)]))=pc (pr K)++[.int .i64 b,.int .i64 (m:Int)]:=by rw [pr_app,pc_app];rfl
    refine ⟨g,cap,rfl,?_,?_,ho.frozenAt _,h⟩
    · rw [ho.cellAt _ (by omega),e,List.getElem?_append_right (by rw [pc_len,pr_len];omega),pc_len,pr_len,Nat.sub_self];rfl
    · rw [ho.cellAt _ (by omega),e,List.getElem?_append_right (by rw [pc_len,pr_len];omega),pc_len,pr_len,show K.length*2+1 - K.length*2=1 by omega];rfl
theorem PSt.near {w wr:World} {K:List (Int×Nat)} {b:Int} {m m':Nat} {g cap:Nat} (h:PSt w wr (K++[(b,m)]) (.slice (some ⟨g,0,none⟩) (K.length+1) cap)) :
    PSt w (wr.setCell ⟨g,K.length*2+1,none⟩ (.int .i64 (m':Int))) (K++[(b,m')]) (.slice (some ⟨g,0,none⟩) (K.length+1) cap):=by
  have ho:=h.own
  rw [List.length_append,List.length_singleton] at ho
  have hg:=(ho.lt g rfl).1
  obtain ⟨h1,h2⟩:=ho.stored (K.length*2+1) (.int .i64 (m':Int))
  refine ⟨h.below.setCell hg _,?_⟩
  rw [List.length_append,List.length_singleton]
  have e:(pc (pr (K++[(b,m)]))).set (K.length*2+1) (.int .i64 (m':Int))=pc (pr (K++[(b,m')])):=by
    have:=pc_set (pr K) b (m:Int) (m':Int)
    rw [pr_len] at this
    rw [pr_app,pr_app]
    exact this
  rw [← e]
  exact h1
theorem PSt.far {w wr w':World} {l:List (Int×Nat)} {v v':Value} {O:Obj} (h:PSt w wr l v) {n:Int} (ho:w'.ownsRow w.heap.size 78 2 v' (l.length+1) (pc (pr l)++[.int .i64 n,.int .i64 0])) (hg:(wr.alloc O).grownBy w' v.ownBlock):PSt w w' (l++[(n,0)]) v':=by
  refine ⟨(h.below.alloc h.below.size _).grown hg (by have:=h.below.size;simp;omega) (fun j hj=>(h.own.lt j hj).1),?_⟩
  rw [List.length_append,List.length_singleton,pr_app,pc_app]
  exact ho
theorem lit2 {w:World} {T:TypeId} (c0 c1:Value):∀ j u,[c0,c1][j]?=some u→(w.alloc (.cells #[c0,c1] T)).cell? ((⟨w.heap.size,0,none⟩:Addr).add j)=some u:=by
  intro j u hu
  rw [Addr.add_lit,World.cell?_alloc_mark,Nat.zero_add,← hu]
  exact List.getElem?_toArray

set_option maxHeartbeats 1000000 in
set_option maxRecDepth 100000 in
theorem pairs_bad (a:Option Addr) (n cap:Nat) (L:List Int) (w:World) (h:IArg w a n L) (hf:pfault L≠0) :
    Calls Tryz.prog 87 #[.slice a n cap] w fun e w'=>e=.returned (.tuple #[.slice none 0 0,errv (pfault L)])∧Below w.heap.size w w':=by
  have hl:=h.2.1
  have hb:=h.2.2
  by_cases p:200<n
  · have e:pfault L=4:=by unfold pfault;rw [if_pos (by omega)]
    rw [e]
    clear h hf e
    have d:decide (200<(n:Int))=true:=by simp;omega
    go_enter Tryz.func87,Tryz.ntmps87
    go_wp2_with fail
    go_ret2
    exact ⟨rfl,Below.refl _ _⟩
  · have C:=cont_calls a n cap L w h
    have d:decide (200<(n:Int))=false:=by simp;omega
    have e:L.any (fun x=>!inR x)=true∧pfault L=1:=by
      unfold pfault at hf ⊢
      rw [if_neg (by omega)] at hf ⊢
      by_cases q:L.any (fun x=>!inR x)=true
      · exact ⟨q,if_pos q⟩
      · rw [if_neg q] at hf;exact absurd rfl hf
    rw [e.1] at C
    rw [e.2]
    have HC:=hidden C
    clear C h hf e
    go_enter Tryz.func87,Tryz.ntmps87
    go_wp2_with fail
    refine HC.out.mono ?_
    rintro e w' ⟨rfl,q,rfl⟩
    go_wp2_with fail
    go_ret2
    exact ⟨rfl,below_drewN' (Below.refl _ _) q⟩

theorem wrap_pow (d:Nat) (h:d<16):wrap64 (2 ^ d)=2 ^ d:=by
  have h16:(2:Nat) ^ d<65536:=show (2:Nat) ^ d<2 ^ 16 from Nat.pow_lt_pow_right (by decide) h
  have e2:(2:Int) ^ d=((2 ^ d:Nat):Int):=by rw [Int.natCast_pow];rfl
  rw [e2]
  generalize (2:Nat) ^ d=x at *
  unfold wrap64
  omega
theorem PSt.drew {w wr:World} {l:List (Int×Nat)} {v:Value} (h:PSt w wr l v):PSt w wr.drew l v:=⟨h.below.drew,h.own.drew⟩

set_option maxHeartbeats 4000000 in
set_option maxRecDepth 100000 in
theorem pairs_good (a:Option Addr) (n cap:Nat) (L:List Int) (w:World) (h:IArg w a n L) (hn:a=none→n=0∧cap=0) (hf:pfault L=0) :
    Calls Tryz.prog 87 #[.slice a n cap] w fun e w'=>∃ v',e=.returned (.tuple #[v',.nilIface])∧w'.ownsRow w.heap.size 78 2 v' (pairs (norm L)).length (pc (pr (pairs (norm L))))∧Below w.heap.size w w':=by
  have hl:=h.2.1
  have hb:=h.2.2
  obtain ⟨p,hany⟩:n≤200∧L.any (fun x=>!inR x)=false:=by
    unfold pfault at hf
    by_cases q:200<L.length
    · rw [if_pos q] at hf;omega
    · rw [if_neg q] at hf
      by_cases q2:L.any (fun x=>!inR x)=true
      · rw [if_pos q2] at hf;omega
      · exact ⟨by omega,by simpa using q2⟩
  have d:decide (200<(n:Int))=false:=by simp;omega
  have C:=cont_calls a n cap L w h
  rw [hany] at C
  have HC:=hidden C
  have HCL:Hid (∀ W,Below w.heap.size w W→Calls Tryz.prog _ #[.slice a n cap] W _):=fun W hW=>clone_calls a n cap L W (h.below hW) hn (by omega)
  have hrng:=in_range hany
  have hrn:∀ x∈norm L,0≤x∧x≤65535:=fun x hx=>hrng x (((norm_of L).2 x).1 hx)
  have hris:=(norm_of L).1
  have hnl:(norm L).length≤200:=by have:=norm_len L;omega
  have hnorm:compact (L.mergeSort fun x y=>decide (x≤y))=norm L:=rfl
  obtain ⟨i0,hii,hz0,hz1,hz2⟩:=info_parts infoPR
  clear C h hn hf hany hrng
  generalize norm L=S at *
  go_enter Tryz.func87,Tryz.ntmps87
  go_wp2_with fail
  refine HC.out.mono ?_
  rintro e w1 ⟨rfl,q,rfl⟩
  go_wp2_with fail
  refine (HCL.out _ (below_drewN' (Below.refl _ _) q)).mono ?_
  rintro e w2 ⟨v2,rfl,ho2,hb2⟩
  have HO2:=hidden ho2
  have HB2:=hidden ((below_drewN' (Below.refl w.heap.size w) q).trans hb2)
  clear ho2 hb2
  go_wp2_with fail
  refine (sort_calls v2 _ n L w2 HO2.out (by omega)).mono ?_
  rintro e w3 ⟨rfl,ho3,hg3⟩
  have HO3:=hidden ho3
  have HB3:=hidden (HB2.out.grown hg3 HB2.out.size (fun j hj=>(HO2.out.lt j hj).1))
  clear ho3 hg3
  go_wp2_with fail
  refine (compact_calls v2 _ n _ w3 HO3.out (by omega)).mono ?_
  rintro e w4 ⟨v4,rfl,hbl,ho4,hg4⟩
  rw [hnorm] at ho4
  have HB4:=hidden (HB3.out.grown hg4 HB3.out.size (fun j hj=>(HO3.out.lt j hj).1))
  clear hg4 hbl hnorm HO2 HO3 HB2 HB3 HC HCL
  obtain ⟨aR,cR,rfl,hR,_,_,hRg⟩:=own_ints ho4 (by omega)
  have HR:=hidden hR
  clear ho4 hR hl hb p d hRg
  have HRIS:=hidden hris
  have HRN:=hidden hrn
  clear hris hrn
  have HP0:Hid (PSt w4 w4 (pairs (S.take 0)) (.slice none 0 0)):=⟨Below.refl _ _,World.ownsRow_nil _ _ _ _⟩
  go_wp2_with fail
  go_loopg [5,23] S.length (fun g x y wr=>∃ (j:Nat) (v:Value),j+g=S.length∧x=v∧y=.int .i64 (j:Int)∧Hid (PSt w4 wr (pairs (S.take j)) v))
  case atStart=>exact ⟨0,_,by omega,rfl,rfl,HP0⟩
  case round=>
    obtain ⟨j,v,hjg,rfl,rfl,HP⟩:=hrel
    by_cases hj:j<S.length
    · have hjz:(j:Int)<(S.length:Int):=by omega
      obtain ⟨b,o,rfl,hcs⟩:=HR.out.at (by omega)
      have hcell:=(HP.out.below.cell (p:=⟨b,o+j,none⟩) (World.block_lt_of_cell? _ _ (hcs j hj))).trans (hcs j hj)
      obtain ⟨y,hy⟩:∃ y,S.getD j 0=y:=⟨_,rfl⟩
      rw [hy] at hcell
      have hys:S.take (j+1)=S.take j++[y]:=by
        rw [← hy,List.getD_eq_getElem?_getD,List.getElem?_eq_getElem hj,Option.getD_some,List.take_append_getElem hj]
      have hmem:y∈S:=by rw [← hy,List.getD_eq_getElem?_getD,List.getElem?_eq_getElem hj];exact List.getElem_mem _
      have hyr:=HRN.out y hmem
      have hfit:=fit_pairs (S.take j) (List.Pairwise.sublist (List.take_sublist _ _) HRIS.out)
      have hup:∀ x∈S.take j,x<y:=by
        have h1:=HRIS.out
        have h2:S=S.take j++S.drop j:=(List.take_append_drop j S).symm
        unfold Rises at h1
        rw [h2] at h1
        intro x hx
        refine (List.pairwise_append.1 h1).2.2 x hx y ?_
        rw [List.drop_eq_getElem_cons hj,← hy,List.getD_eq_getElem?_getD,List.getElem?_eq_getElem hj]
        exact List.mem_cons_self ..
      have hsn:=pairs_snoc (S.take j) y
      rw [← hys] at hsn
      have hlen:(pairs (S.take j)).length≤200:=by
        have h1:=(told_len (pairs (S.take j))).1
        rw [hfit.told,List.length_take] at h1
        omega
      have hsub:∀ x∈S.take j,x∈S:=fun x hx=>List.mem_of_mem_take hx
      clear hcs hy hys hmem
      generalize pairs (S.take j)=l at *
      rcases List.eq_nil_or_concat l with rfl | ⟨K,pp,rfl⟩
      · rw [step_nil] at hsn
        have HSN:=hidden hsn
        clear hsn
        obtain ⟨a1,c1,rfl,_⟩:=own_prs HP.out.own (by simp)
        go_wp2_with (at_builtin;refine wpList_append_own _ rfl _ _ 74 rfl w4.heap.size 78 i0 _ 2 16 Tryz.underlying74 hii hz0 hz1 hz2 rfl (by decide) _ 0 [] rfl (HP.out.own.alloc _) ⟨wr.heap.size,0,none⟩ 1 1 [.int .i64 y,.int .i64 0] rfl rfl ?cc ?one ?b1 ?b2 ?b3 ?next)
        case cc=>exact lit2 _ _
        case one=>simp [Value.oneCell']
        case b1=>unfold maxLen;omega
        case b2=>omega
        case b3=>have:=HP.out.below.size;simp;omega
        case next=>
        intro v1 w' hown hgrow _
        have HPn:=hidden (HP.out.far hown hgrow)
        clear hown hgrow
        go_wp2_with fail
        go_roundg (S.length - (j+1))
        case measure=>omega
        case rel=>exact ⟨j+1,v1,by omega,rfl,by go_num,by rw [HSN.out];exact HPn⟩
      · rw [List.concat_eq_append] at *
        obtain ⟨bs,mk⟩:=pp
        obtain ⟨g,c1,rfl,hc0,hc1,hfz,hp'⟩:=HP.out.shape
        have HP:=hidden hp'
        clear hp'
        have hbs:=HRN.out bs (hsub bs (hfit.base (bs,mk) (by simp)))
        have hmk:=hfit.mask (bs,mk) (by simp)
        have hby:=hup bs (hfit.base (bs,mk) (by simp))
        have hKl:K.length≤200:=by simp at hlen;omega
        clear hfit hup hsub hlen
        by_cases hfar:16<y - bs
        · rw [step_far (p:=(bs,mk)) hfar] at hsn
          have HSN:=hidden hsn
          clear hsn
          have d16:decide (16<y - bs)=true:=by simpa using hfar
          have HOWN:=HP.out.own
          rw [List.length_append,List.length_singleton] at HOWN
          replace HOWN:=hidden HOWN
          go_wp2_with (at_builtin;refine wpList_append_own _ rfl _ _ 74 rfl w4.heap.size 78 i0 _ 2 16 Tryz.underlying74 hii hz0 hz1 hz2 rfl (by decide) _ (K.length+1) (pc (pr (K++[(bs,mk)]))) rfl (HOWN.out.alloc _) ⟨wr.heap.size,0,none⟩ 1 1 [.int .i64 y,.int .i64 0] rfl rfl ?cc ?one ?b1 ?b2 ?b3 ?next)
          case one=>simp [Value.oneCell']
          case b1=>unfold maxLen;omega
          case b2=>omega
          case b3=>have:=HP.out.below.size;simp;omega
          case next=>
          intro v1 w' hown hgrow _
          have HPn:=hidden (HP.out.far (by rw [List.length_append];exact hown) hgrow)
          clear hown hgrow
          go_wp2_with fail
          go_roundg (S.length - (j+1))
          case measure=>omega
          case rel=>exact ⟨j+1,v1,by omega,rfl,by go_num,by rw [HSN.out];exact HPn⟩
        · rw [step_near (p:=(bs,mk)) (by show y - bs≤16;omega)] at hsn
          have HSN:=hidden hsn
          clear hsn
          have d16:decide (16<y - bs)=false:=by simpa using hfar
          have HMB:Hid (bits .or .i64 (mk:Int) (wrap64 (2 ^ ((y - bs).toNat - 1)))=((mk ||| 2 ^ (y - bs - 1).toNat:Nat):Int)):=hidden (by
            rw [← mask_bits mk (y - bs - 1).toNat hmk (by omega),show (y - bs).toNat - 1=(y - bs - 1).toNat by omega,wrap_pow _ (by omega)])
          go_wp2_with fail
          go_region
          go_wp2_with fail
          go_roundg (S.length - (j+1))
          case measure=>omega
          case rel=>exact ⟨j+1,_,by omega,rfl,by go_num,by
            rw [HSN.out]
            have:=(HP.out.near (m':=mk ||| 2 ^ (y - bs - 1).toNat)).drew
            rw [← HMB.out] at this
            exact this⟩
    · have hjz:¬ (j:Int)<(S.length:Int):=by omega
      have ej:j=S.length:=by omega
      subst ej
      go_wp2_with fail
      go_ret2
      have hh:=HP.out
      rw [List.take_length] at hh
      refine ⟨_,rfl,?_,HB4.out.trans (hh.below.mono HB4.out.size)⟩
      have ho:=hh.own
      refine ⟨ho.1,?_⟩
      rcases ho.2 with h0 | ⟨g,cap,cur,e,hg,rest⟩
      · exact .inl h0
      · exact .inr ⟨g,cap,cur,e,by have:=HB4.out.size;omega,rest⟩

theorem pairs_gen (a:Option Addr) (n cap:Nat) (L:List Int) (w:World) (h:IArg w a n L) (hn:a=none→n=0∧cap=0) :
    Calls Tryz.prog 87 #[.slice a n cap] w fun e w'=>∃ a' m c',e=.returned (.tuple #[.slice a' m c',errv (pfault L)])∧PArg w' a' m (pr (prsOf L))∧(a'=none→m=0∧c'=0)∧m≤c'∧Below w.heap.size w w':=by
  by_cases hf:pfault L=0
  · refine (pairs_good a n cap L w h hn hf).mono ?_
    rintro e w' ⟨v',rfl,ho,hb⟩
    have hlen:(pairs (norm L)).length≤9223372036854775807:=by
      have h1:=(told_len (pairs (norm L))).1
      rw [(fit_pairs _ (norm_of L).1).told] at h1
      have h2:=norm_len L
      have h3:=h.2.1
      have h4:=h.2.2
      omega
    obtain ⟨a',c',rfl,hP,h0,h1,_⟩:=own_prs ho hlen
    refine ⟨a',_,c',by rw [hf];rfl,?_,h0,h1,hb⟩
    rw [prsOf,if_pos hf]
    exact hP
  · refine (pairs_bad a n cap L w h hf).mono ?_
    rintro e w' ⟨rfl,hb⟩
    refine ⟨none,0,0,rfl,?_,fun _=>⟨rfl,rfl⟩,Nat.le_refl _,hb⟩
    rw [prsOf,if_neg hf]
    exact PArg.nil _ _
end Go.Proofs.YtlppdppddiecnaaGreatDoor.Back
