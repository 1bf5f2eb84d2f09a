/-
  RateI, RateV, RateB, RateC in one text.
-/
import Derived.Test.YtlppdppddiecnaaGreatDoorRateM
import Derived.Test.YtlppdppddiecnaaGreatDoorRows
import Derived.WalkKit
import Derived.ProofKit
import Derived.OpenShut
import Derived.ChangeOld
import Derived.Below
import Derived.Deep.QuietTactic
import Derived.BigQuiet
import Derived.Laws.AppendOwnNone
import Derived.WalkSmall
import Derived.WalkSpells
import Derived.LoopTactic
import Derived.RegionTactic
import Derived.Deep.AppendLies
import Derived.Deep.LoopGhost
import Derived.Outline
import Derived.Test.YtlppdppddiecnaaGreatDoorShelfSP
import Derived.RangeFuncBox
import Derived.RangeFuncLeaves
import Derived.Shelf.Abstract
import Derived.OwnWalkIn
import Derived.TacticsInMore
import Derived.LoopNIn
import Derived.LoopIn
import Derived.Maps.AppendAt
import Derived.Sort.OwnSortedInts

namespace Go.Proofs.YtlppdppddiecnaaGreatDoor.Rate
open Go.ChangeShapes Go.WideShapes Go.ChangeAt Go.RowKit Go.Maps Go.Proofs.YtlppdppddiecnaaGreatDoor.Mem Go.Proofs.YtlppdppddiecnaaGreatDoor.RT
set_option linter.unusedVariables false

def errv (e:Nat):Value:=if e=0 then .nilIface else .iface 107 (.int .i64 (e:Int))
theorem errv_zero:errv 0=.nilIface:=rfl
theorem errv_pos {e:Nat} (h:e≠0):errv e=.iface 107 (.int .i64 (e:Int)):=by simp [errv,h]
theorem cmp_eq (f:Nat) (w:World):(binOp .eql 38 (errv f) .nilIface).run Tryz.prog w=.ok (.bool (decide (f=0))) w:=by
  by_cases p:f=0
  · rw [p,errv_zero];simp [go_sem]
  · rw [errv_pos p];simp [go_sem,p]
theorem cmp_ne (f:Nat) (w:World):(binOp .neq 38 (errv f) .nilIface).run Tryz.prog w=.ok (.bool (!decide (f=0))) w:=by
  by_cases p:f=0
  · rw [p,errv_zero];simp [go_sem]
  · rw [errv_pos p];simp [go_sem,p]
theorem grd_eq (f:Nat) (o1:Operand) (w:World):(eqGuard .eql 38 o1 (.const .nilIface) (errv f) .nilIface).run Tryz.prog w=.ok () w:=by
  by_cases p:f=0
  · rw [p,errv_zero];unfold eqGuard;simp
  · rw [errv_pos p];simp [go_sem]
theorem grd_ne (f:Nat) (o1:Operand) (w:World):(eqGuard .neq 38 o1 (.const .nilIface) (errv f) .nilIface).run Tryz.prog w=.ok () w:=by
  by_cases p:f=0
  · rw [p,errv_zero];unfold eqGuard;simp
  · rw [errv_pos p];simp [go_sem]
theorem info3:(Tryz.prog.info? 3).map (fun i=>(i.zero,i.size,i.bytes))=some (some (.int .i64 0),1,8):=by kernel_rfl
theorem wf_of {y:Int} (h0:-9223372036854775808≤y) (h1:y≤9223372036854775807):(Lit.int .i64 y).wf=true:=WalkArith.wf_i64 (by omega)
theorem cell_alloc {w:World} {p:Addr} {v:Value} (h:w.cell? p=some v) (o:Obj):(w.alloc o).cell? p=some v:=(((Below.refl _ _).alloc (Nat.le_refl _) o).cell (World.block_lt_of_cell? w p h)).trans h
theorem below_old {w w':World} {o:Obj} (h:Below (w.alloc o).heap.size (w.alloc o) w'):Below w.heap.size w w':=
  ((Below.refl _ _).alloc (Nat.le_refl _) _).trans (h.mono (by simp))
theorem past {bs cs:List Nat} {a b c:World} (h:Only bs a b) (k:Only cs b c) (hc:∀ j∈cs,j∈bs∨a.heap.size≤j):Only bs a c:=
  ⟨k.1.trans h.1,k.2.1.trans h.2.1,k.2.2.1.trans h.2.2.1,Nat.le_trans h.2.2.2.1 k.2.2.2.1,fun i hi hb=>(k.2.2.2.2 i (Nat.lt_of_lt_of_le hi h.2.2.2.1) (fun hh=>by
    rcases hc i hh with h1 | h1
    · exact hb h1
    · omega)).trans (h.2.2.2.2 i hi hb)⟩
theorem own_base {w:World} {base base' e size n:Nat} {v:Value} {xs:List Value} (h:w.ownsRow base e size v n xs) (hb:base'≤base):w.ownsRow base' e size v n xs:=by
  refine ⟨h.1,?_⟩
  rcases h.2 with h | ⟨g,cap,cur,e,hg,r⟩
  · exact .inl h
  · exact .inr ⟨g,cap,cur,e,Nat.le_trans hb hg,r⟩

def ic (L:List Int):List Value:=L.map (Value.int .i64)
theorem ic_len (L:List Int):(ic L).length=L.length:=by simp [ic]
theorem ic_app (L K:List Int):ic (L++K)=ic L++ic K:=by simp [ic]
theorem ic_get (L:List Int) (j:Nat) (h:j<L.length):(ic L)[j]?=some (.int .i64 (L.getD j 0)):=by
  simp [ic,List.getD_eq_getElem?_getD,List.getElem?_eq_getElem h]
def Ints (w:World) (a:Option Addr) (L:List Int):Prop:=∀ j,j<L.length→∃ b o,a=some ⟨b,o,none⟩∧w.cell? ⟨b,o+j,none⟩=some (.int .i64 (L.getD j 0))
def IArg (w:World) (a:Option Addr) (n:Nat) (L:List Int):Prop:=Ints w a L∧L.length=n∧n≤9223372036854775807
theorem IArg.below {w w':World} {a:Option Addr} {n:Nat} {L:List Int} (h:IArg w a n L) (hb:Below w.heap.size w w'):IArg w' a n L:=by
  refine ⟨fun j hj=>?_,h.2⟩
  obtain ⟨b,o,e,hc⟩:=h.1 j hj
  exact ⟨b,o,e,(hb.cell (p:=⟨b,o+j,none⟩) (World.block_lt_of_cell? w ⟨b,o+j,none⟩ hc)).trans hc⟩
theorem IArg.nil (w:World) (a:Option Addr):IArg w a 0 []:=⟨fun j h=>absurd h (by simp),rfl,by omega⟩
theorem IArg.at {w:World} {a:Option Addr} {n:Nat} {L:List Int} (h:IArg w a n L) (hn:0<n):∃ b o,a=some ⟨b,o,none⟩∧∀ j,j<n→w.cell? ⟨b,o+j,none⟩=some (.int .i64 (L.getD j 0)):=by
  obtain ⟨b,o,e,_⟩:=h.1 0 (by have:=h.2.1;omega)
  refine ⟨b,o,e,fun j hj=>?_⟩
  obtain ⟨b',o',e',hc⟩:=h.1 j (by have:=h.2.1;omega)
  rw [e,Option.some.injEq,Addr.mk.injEq] at e'
  obtain ⟨rfl,rfl,_⟩:=e'
  exact hc
theorem own_ints {w:World} {base n:Nat} {v:Value} {L:List Int} (h:w.ownsRow base 3 1 v n (ic L)) (hn:n≤9223372036854775807) :
    ∃ a cap,v=.slice a n cap∧IArg w a n L∧(a=none→n=0∧cap=0)∧n≤cap∧∀ ad,a=some ad→∃ g,ad=⟨g,0,none⟩∧base≤g∧g<w.heap.size:=by
  have hl:L.length=n:=by have:=h.1;rw [ic_len] at this;omega
  rcases h.2 with ⟨rfl,rfl⟩ | ⟨g,cap,cur,rfl,hg,hb,hc,hm,hs,ht⟩
  · have:L=[]:=List.eq_nil_of_length_eq_zero hl
    subst this
    exact ⟨none,0,rfl,IArg.nil _ _,fun _=>⟨rfl,rfl⟩,Nat.le_refl _,fun ad e=>by simp at e⟩
  · refine ⟨_,cap,rfl,⟨fun j hj=>⟨g,0,rfl,?_⟩,hl,hn⟩,fun e=>by simp at e,hc,fun ad e=>⟨g,by simpa using e.symm,hg,lt_of_block hb⟩⟩
    rw [Nat.zero_add,h.cellAt j (by omega),ic_get L j hj]
theorem own_block {w:World} {base n g:Nat} {v:Value} {xs:List Value} (h:w.ownsRow base 3 1 v n xs) (hg:v.ownBlock=some g):∃ cs,w.heap[g]?=some (.cells cs 3 (0,0)):=by
  rcases h.2 with ⟨rfl,_⟩ | ⟨g',cap,cur,rfl,_,hb,_⟩
  · simp [Value.ownBlock] at hg
  · simp [Value.ownBlock] at hg
    subst hg
    exact ⟨cur,hb⟩

theorem below_drewN' {w wr:World} (h:Below w.heap.size w wr) (q:Nat):Below w.heap.size w (wr.drewN q):=⟨h.os,h.tape,h.output,h.size,h.block⟩
theorem below_alloc {w wr:World} (h:Below w.heap.size w wr) (o:Obj):Below w.heap.size w (wr.alloc o):=h.alloc h.size o
theorem own_below {w w':World} {base e sz n:Nat} {v:Value} {xs:List Value} (h:w.ownsRow base e sz v n xs) (hb:Below w.heap.size w w'):w'.ownsRow base e sz v n xs:=by
  refine ⟨h.1,?_⟩
  rcases h.2 with hl | ⟨g,cap,cur,rfl,hg,hbl,rest⟩
  · exact .inl hl
  · exact .inr ⟨g,cap,cur,rfl,hg,(hb.block g (lt_of_block hbl)).trans hbl,rest⟩

end Go.Proofs.YtlppdppddiecnaaGreatDoor.Rate
namespace Go.Proofs.YtlppdppddiecnaaGreatDoor.Rate
open Go.ChangeShapes Go.WideShapes Go.ChangeAt Go.RowKit Go.Sort Go.Shelf Go.Proofs.YtlppdppddiecnaaGreatDoor.Mem Go.Proofs.YtlppdppddiecnaaGreatDoor.RT
set_option linter.unusedVariables false
attribute [local go_sem] Oper.semAt_some

theorem take_next (L:List Int) {k:Nat} (h:k<L.length):L.take (k+1)=L.take k++[L.getD k 0]:=by
  rw [List.getD_eq_getElem?_getD,List.getElem?_eq_getElem h,Option.getD_some,List.take_append_getElem h]
def Low (n₀:Nat) (W:World) (a:Option Addr) (L:List Int):Prop:=∀ j,j<L.length→∃ b o,a=some ⟨b,o,none⟩∧b<n₀∧W.cell? ⟨b,o+j,none⟩=some (.int .i64 (L.getD j 0))
theorem Low.below {n₀:Nat} {W W':World} {a:Option Addr} {L:List Int} (h:Low n₀ W a L) (hb:Below n₀ W W'):Low n₀ W' a L:=by
  intro j hj
  obtain ⟨b,o,e,hbl,hc⟩:=h j hj
  exact ⟨b,o,e,hbl,(hb.cell (p:=⟨b,o+j,none⟩) hbl).trans hc⟩
theorem IArg.low {w:World} {a:Option Addr} {n:Nat} {L:List Int} (h:IArg w a n L):Low w.heap.size w a L:=by
  intro j hj
  obtain ⟨b,o,e,hc⟩:=h.1 j hj
  exact ⟨b,o,e,World.block_lt_of_cell? w ⟨b,o+j,none⟩ hc,hc⟩
set_option maxRecDepth 100000 in
set_option maxHeartbeats 2000000 in
theorem values1_in (n:Nat) (hn:1≤n) (l Bs n₀:Nat) (a:Option Addr) (cap:Nat) (L:List Int) (hl:L.length≤1000) (J Jx:List Int→World→Prop)
    (hY:∀ pre x W,J pre W→pre.length<L.length→YieldAt Fence.wide (n - 1) Tryz.prog l #[.int .i64 x] W fun e W'=>
      (e=.returned (.bool true)∧J (pre++[x]) W'∧Below n₀ W W')∨(e=.returned (.bool false)∧Jx (pre++[x]) W'))
    (W:World) (hBs:W.cell? ⟨Bs,0,none⟩=some (.slice a L.length cap)) (hA:Low n₀ W a L) (h0:J [] W) :
    CallsIn Fence.wide n Tryz.prog 178 #[.func (.yield l) #[] #[],.pointer (some ⟨Bs,0,none⟩)] W fun e W'=>(∃ v,e=.returned v)∧((∃ ys,ys=L∧J ys W')∨(∃ pre,True∧Jx pre W')):=by
  have hT:∀ k,k<L.length→(L.take k).length<L.length:=fun k hk=>by rw [List.length_take];omega
  obtain ⟨len,hlen⟩:∃ len,L.length=len:=⟨_,rfl⟩
  rw [hlen] at hBs hl hT
  refine callsIn_of_wp Tryz.func178 rfl trivial ?_ rfl
  simp only [Tryz.ntmps178,List.size_toArray,List.length_cons,List.length_nil,Nat.reduceAdd,Nat.reduceSub,Array.replicate_succ,Array.replicate_zero,List.push_toArray,List.append_toArray,List.nil_append,List.cons_append]
  gi_wp2
  gi_loopw [7] (fun i wr=>∃ k:Nat,k≤len∧i=.int .i64 (k:Int)∧J (L.take k) wr∧Below n₀ W wr) (fun i _=>len - (intOf i).toNat)
  case atStart=>exact ⟨0,Nat.zero_le _,rfl,h0,Below.refl _ _⟩
  case round=>
    obtain ⟨k,hk,rfl,hJs,hnx⟩:=hrel
    by_cases hlt:k<len
    · obtain ⟨b,o,rfl,hbl,hc⟩:=(hA.below hnx) k (by omega)
      obtain ⟨fn,tmps,assign,body,hy,hR⟩:=hY _ (L.getD k 0) wr hJs (by rw [hlen];exact hT k (by omega))
      rw [← take_next L (by omega)] at hR
      obtain ⟨y,hyy⟩:∃ y,L.getD k 0=y:=⟨_,rfl⟩
      rw [hyy] at hy hc
      clear hyy
      gi_wp2
      refine hR.mono ?_
      rintro e W3 (⟨rfl,hJ3,hk3⟩ | ⟨rfl,hJx3⟩)
      · gi_wp2
        go_roundw
        case rel=>exact ⟨k+1,by omega,by simp,hJ3,hnx.trans hk3⟩
        case measure=>simp [intOf];omega
      · gi_wp2
        refine bodyPost_ret (results_none rfl _ _ _) rfl ?_
        exact ⟨⟨_,rfl⟩,.inr ⟨_,trivial,hJx3⟩⟩
    · obtain rfl:k=len:=by omega
      rw [List.take_of_length_le (by omega)] at hJs
      gi_wp2
      go_end0
      exact ⟨⟨_,rfl⟩,.inl ⟨L,rfl,hJs⟩⟩
set_option maxHeartbeats 1000000 in
theorem values_in (n:Nat) (a:Option Addr) (len cap:Nat) (w:World) :
    CallsIn Fence.wide n Tryz.prog 144 #[.slice a len cap] w fun e w'=>e=.returned (.func (.func 178) #[] #[.pointer (some ⟨w.heap.size,0,none⟩)])∧w'=w.alloc (.cells #[.slice a len cap] 47):=by
  refine callsIn_of_wp Tryz.func144 rfl trivial ?_ rfl
  simp only [Tryz.ntmps144,List.size_toArray,List.length_cons,List.length_nil,Nat.reduceAdd,Nat.reduceSub,Array.replicate_succ,Array.replicate_zero,List.push_toArray,List.append_toArray,List.nil_append,List.cons_append]
  gi_wp2
  go_ret
  exact ⟨rfl,rfl⟩
theorem values_stops (n:Nat) (hn:1≤n) (Bs n₀:Nat) (a:Option Addr) (cap:Nat) (L:List Int) (hl:L.length≤1000) (w:World) (hBs:Bs<w.heap.size) (hn₀:n₀≤w.heap.size)
    (hc:w.cell? ⟨Bs,0,none⟩=some (.slice a L.length cap)) (hA:Low n₀ w a L) :
    SeqStopsK Fence.wide n Tryz.prog 178 #[.pointer (some ⟨Bs,0,none⟩)] (fun x:Int=>#[Value.int .i64 x]) (Below n₀) (fun ys=>ys=L) (fun _=>True) L.length w:=fun l J Jx W hW _ _ hY h0=>
  values1_in n hn l Bs n₀ a cap L hl J Jx hY W ((hW.cell (p:=⟨Bs,0,none⟩) hBs).trans hc) (hA.below (hW.mono hn₀)) h0
set_option maxRecDepth 100000 in
set_option maxHeartbeats 2000000 in
theorem appendSeq_in (n:Nat) (hn:3≤n) (Bs:Nat) (a:Option Addr) (cap:Nat) (L:List Int) (hl:L.length≤1000) (w:World) (hBs:Bs<w.heap.size) (hc:w.cell? ⟨Bs,0,none⟩=some (.slice a L.length cap)) (hA:Low w.heap.size w a L) :
    CallsIn Fence.wide n Tryz.prog 206 #[.slice none 0 0,.func (.func 178) #[] #[.pointer (some ⟨Bs,0,none⟩)]] w fun e W'=>∃ v,e=.returned v∧W'.ownsRow w.heap.size 3 1 v L.length (ic L)∧Below w.heap.size w W':=by
  obtain ⟨i0,hi,hz0,hz1,hz2⟩:=info_parts info3
  have h1:1≤n:=by omega
  have hro:Fence.wide.round=none:=rfl
  refine callsIn_of_wp_marks Tryz.func206 rfl trivial ?_ rfl
  simp only [Tryz.ntmps206,List.size_toArray,List.length_cons,List.length_nil,Nat.reduceAdd,Nat.reduceSub,Array.replicate_succ,Array.replicate_zero,List.push_toArray,List.append_toArray,List.nil_append,List.cons_append]
  gi_wp2
  have bO:=Boxed.new w 47 (.slice none 0 0)
  have hB0:Below w.heap.size w (w.alloc (.cells #[.slice none 0 0] 47)):=(Below.refl _ w).alloc (Nat.le_refl _) _
  refine wpIn_rangeFunc_ownG hro h1 (gf:=178) (lb:=#[.pointer (some ⟨Bs,0,none⟩)]) rfl trivial (enters_of Tryz.func178 (by kernel_rfl) rfl)
    (values_stops (n - 1) (by omega) Bs w.heap.size a cap L hl _ (by simp;omega) (by simp) ((hB0.cell (p:=⟨Bs,0,none⟩) hBs).trans hc) (hA.below hB0)) belowK_t (belowK_b (by simp)) (Below.refl _ _) (fun _=>rfl)
    (fun pre W=>(∃ v,Boxed W w.heap.size 47 v∧W.ownsRow w.heap.size 3 1 v pre.length (ic pre)∧True)∧Below w.heap.size w W)
    (fun _ _ _=>False)
    (OwnFrom.and (Own.from (holdsRow_own w.heap.size w.heap.size 47 3 1 (fun pre=>pre.length) (fun pre=>ic pre) (fun _ _=>True)) _) (ownFrom_below (Nat.le_refl _) (by simp)))
    (fun _ _ _ _ _ hs _ _=>hs)
    ⟨⟨_,bO,World.ownsRow_nil _ _ _ _,trivial⟩,hB0⟩
    (fun x=>{ tmps:=#[.slice none 0 0,.func (.func 178) #[] #[.pointer (some ⟨Bs,0,none⟩)],.pointer (some ⟨w.heap.size,0,none⟩),undef,.slice none 0 0,.int .i64 x,.func (.func 178) #[] #[.pointer (some ⟨Bs,0,none⟩)],.int .i64 x,undef,undef,undef,undef,undef],defers:=[] }) ?assign ?body ?done ?stop
  case assign=>
    intro l x W K hK
    gi_wp2
    exact hK
  case body=>
    rintro l pre x W ⟨⟨v,hv,hrow,_⟩,hB⟩ hlt
    have hcv:=hv.cell
    gi_wp2_with (gi_at_builtin;refine wpListIn_append_own _ rfl _ _ 47 rfl w.heap.size 3 i0 (.int .i64 0) 1 8 Tryz.underlying47 hi hz0 hz1 hz2 rfl (by decide) _ _ _ rfl (hrow.alloc _) ⟨W.heap.size,0,none⟩ 1 1 [.int .i64 x] rfl rfl (cell_one_new _ _ _) (by simp [Value.oneCell']) (by unfold maxLen;omega) (by omega) (by have:=hB.size;simp;omega) ?_;intro v' w1 hown' hgrow _;obtain ⟨g',cap',rfl⟩:=ownsRow_succ hown';obtain ⟨hv1,hv2,hr2,hk2,hb2⟩:=hv.appended (by decide) hrow hB.size (Nat.le_refl _) hown' hgrow;have hc1:=hv1.cell;have hf1:=hv1.frozen)
    exact ⟨hk2.from _,hb2,⟨_,hv2,by rw [ic_app];simpa [ic] using hr2,trivial⟩,hB.trans hb2⟩
  case done=>
    rintro D ys W hD rfl ⟨⟨v,hv,hrow,_⟩,hB⟩ hK
    have hcv:=hv.cell
    gi_wp2
    refine ⟨by simp,.inl ⟨_,_,rfl,run_takeDeferred hK,?_⟩⟩
    exact ⟨_,results_tmp rfl _ _ _,v,rfl,ownsRow_putObj hrow _ hK rfl,hB.trans (belowK_b (w:=w) (Nat.le_refl _) W D _ _ (by simp at hD;omega) hK rfl rfl)⟩
  case stop=>
    rintro D c pre W _ _ h _
    exact h.elim
theorem values_calls (a:Option Addr) (len cap:Nat) (w:World) :
    Calls Tryz.prog 144 #[.slice a len cap] w fun e w'=>e=.returned (.func (.func 178) #[] #[.pointer (some ⟨w.heap.size,0,none⟩)])∧w'=w.alloc (.cells #[.slice a len cap] 47):=(callsIn_wide (n:=5)).1 (values_in 5 a len cap w)
theorem appendSeq_calls (Bs:Nat) (a:Option Addr) (cap:Nat) (L:List Int) (hl:L.length≤1000) (w:World) (hBs:Bs<w.heap.size) (hc:w.cell? ⟨Bs,0,none⟩=some (.slice a L.length cap)) (hA:Low w.heap.size w a L) :
    Calls Tryz.prog 206 #[.slice none 0 0,.func (.func 178) #[] #[.pointer (some ⟨Bs,0,none⟩)]] w fun e W'=>∃ v,e=.returned v∧W'.ownsRow w.heap.size 3 1 v L.length (ic L)∧Below w.heap.size w W':=(callsIn_wide (n:=5)).1 (appendSeq_in 5 (by omega) Bs a cap L hl w hBs hc hA)
theorem sort_calls (v:Value) (base n:Nat) (L:List Int) (w:World) (h:w.ownsRow base 3 1 v n (ic L)) (hb:n≤1000000) :
    Calls Tryz.prog 115 #[v] w fun e w'=>e=.returned (.tuple #[])∧w'.ownsRow base 3 1 v n (ic (L.mergeSort fun x y=>decide (x≤y)))∧w.grownBy w' v.ownBlock:=by
  have hl:L.length=n:=by have:=h.1;rw [ic_len] at this;omega
  rcases h.2 with ⟨rfl,rfl⟩ | ⟨g,cap,cur,rfl,hg,hbl,hc,hm,hs,ht⟩
  · have:L=[]:=List.eq_nil_of_length_eq_zero hl
    subst this
    refine (AnyM.slices_Sort_int_none Tryz.sortA none 0 w).mono ?_
    rintro e w' ⟨rfl,rfl⟩
    exact ⟨rfl,by simpa [ic] using World.ownsRow_nil _ _ _ _,World.grownBy.refl _ _⟩
  · subst hl
    refine (AnyM.slices_Sort_int Tryz.sortA g 0 cap L w (holds_of_blockI hbl (by simpa [ic] using ht)) (lt_of_block hbl) (by omega)).mono ?_
    rintro e w' ⟨rfl,n,os,rfl⟩
    exact ⟨rfl,ownsRow_sortedI (by simp) hg hbl hc hm hs,grownBy_sortedI _⟩
set_option maxHeartbeats 1000000 in
theorem collect_calls (Bs:Nat) (a:Option Addr) (cap:Nat) (L:List Int) (hl:L.length≤1000) (w:World) (hBs:Bs<w.heap.size) (hc:w.cell? ⟨Bs,0,none⟩=some (.slice a L.length cap)) (hA:Low w.heap.size w a L) :
    Calls Tryz.prog 177 #[.func (.func 178) #[] #[.pointer (some ⟨Bs,0,none⟩)]] w fun e W'=>∃ v,e=.returned v∧W'.ownsRow w.heap.size 3 1 v L.length (ic L)∧Below w.heap.size w W':=by
  have C:=hidden (appendSeq_calls Bs a cap L hl w hBs hc hA)
  clear hc hA hBs
  go_enter Tryz.func177,Tryz.ntmps177
  go_wp2_with fail
  refine C.out.mono ?_
  rintro e w1 ⟨v,rfl,h1,h2⟩
  have H1:=hidden h1
  have H2:=hidden h2
  clear h1 h2 C
  go_wp2_with fail
  go_ret
  exact ⟨v,rfl,H1.out,H2.out⟩
set_option maxHeartbeats 1000000 in
theorem sorted_calls (Bs:Nat) (a:Option Addr) (cap:Nat) (L:List Int) (hl:L.length≤1000) (w:World) (hBs:Bs<w.heap.size) (hc:w.cell? ⟨Bs,0,none⟩=some (.slice a L.length cap)) (hA:Low w.heap.size w a L) :
    Calls Tryz.prog 143 #[.func (.func 178) #[] #[.pointer (some ⟨Bs,0,none⟩)]] w fun e W'=>∃ v,e=.returned v∧W'.ownsRow w.heap.size 3 1 v L.length (ic (L.mergeSort fun x y=>decide (x≤y)))∧Below w.heap.size w W':=by
  have C:=hidden (collect_calls Bs a cap L hl w hBs hc hA)
  clear hc hA hBs
  go_enter Tryz.func143,Tryz.ntmps143
  go_wp2_with fail
  refine C.out.mono ?_
  rintro e w1 ⟨v,rfl,h1,h2⟩
  have C2:=hidden (sort_calls v _ _ L w1 h1 (by omega))
  have H2:=hidden h2
  have H3:Hid (∀ k,v.ownBlock=some k→w.heap.size≤k):=fun k hk=>(h1.lt k hk).1
  clear h1 h2 C
  go_wp2_with fail
  refine C2.out.mono ?_
  rintro e w2 ⟨rfl,h3,h4⟩
  have H4:=hidden h3
  have H5:Hid (Below w.heap.size w w2):=H2.out.grown h4 H2.out.size H3.out
  clear h3 h4 C2
  go_wp2_with fail
  go_ret
  exact ⟨v,rfl,H4.out,H5.out⟩
end Go.Proofs.YtlppdppddiecnaaGreatDoor.Rate
namespace Go.Proofs.YtlppdppddiecnaaGreatDoor.Rate
open Go.ChangeShapes Go.WideShapes Go.ChangeAt Go.RowKit Go.Proofs.YtlppdppddiecnaaGreatDoor.Mem Go.Proofs.YtlppdppddiecnaaGreatDoor.RT
set_option linter.unusedVariables false

theorem isRate_calls (x:Int) (w:World):Calls Tryz.prog 118 #[.int .i64 x] w fun e w'=>e=.returned (.bool (decide (0≤x)&&decide (x≤1000000)))∧w'=w:=by
  by_cases h:0≤x
  · have d:decide (0≤x)=true:=by simpa using h
    go_enter Tryz.func118,Tryz.ntmps118
    go_wp2_with fail
    go_ret
    exact ⟨by simp [h],rfl⟩
  · have d:decide (0≤x)=false:=by simpa using h
    go_enter Tryz.func118,Tryz.ntmps118
    go_wp2_with fail
    go_ret
    exact ⟨by simp,rfl⟩
def bad (x:Int):Bool:=decide (x<0)||decide (1000000<x)
theorem bad_is (x:Int):(decide (0≤x)&&decide (x≤1000000))=!bad x:=by
  unfold bad
  by_cases h:0≤x<;>by_cases k:x≤1000000
  · rw [decide_eq_true h,decide_eq_true k,decide_eq_false (show ¬ x<0 by omega),decide_eq_false (show ¬ 1000000<x by omega)];rfl
  · rw [decide_eq_true h,decide_eq_false k,decide_eq_false (show ¬ x<0 by omega),decide_eq_true (show 1000000<x by omega)];rfl
  · rw [decide_eq_false h,decide_eq_true (show x<0 by omega)];simp
  · rw [decide_eq_false h,decide_eq_true (show x<0 by omega)];simp
theorem rate_bad (x:Int) (w:World):Calls Tryz.prog 118 #[.int .i64 x] w fun e w'=>e=.returned (.bool (!bad x))∧w'=w:=by
  rw [← bad_is];exact isRate_calls x w
theorem cl_calls (x:Int) (w:World):Calls Tryz.prog 142 #[.int .i64 x] w fun e w'=>e=.returned (.bool (bad x))∧w'=w:=by
  have C:=hidden (rate_bad x w)
  generalize bad x=q at *
  go_enter Tryz.func142,Tryz.ntmps142
  go_wp2_with fail
  refine C.out.mono ?_
  rintro e w1 ⟨rfl,rfl⟩
  go_wp2_with fail
  go_ret
  exact ⟨by simp,rfl⟩
theorem drop_int {L:List Int} {j:Nat} (h:j<L.length):L.drop j=L.getD j 0::L.drop (j+1):=by
  rw [List.drop_eq_getElem_cons h]
  simp [List.getD_eq_getElem?_getD,List.getElem?_eq_getElem h]
set_option maxHeartbeats 2000000 in
set_option maxRecDepth 100000 in
theorem idx_calls (a:Option Addr) (n cap:Nat) (L:List Int) (w:World) (h:IArg w a n L) :
    Calls Tryz.prog 138 #[.slice a n cap,.func (.func 142) #[] #[]] w fun r w'=>∃ i:Int,r=.returned (.int .i64 i)∧decide (0≤i)=L.any bad∧w'=w:=by
  have hl:=h.2.1
  have hn:=h.2.2
  have HA:=hidden h
  clear h
  obtain ⟨q,hq⟩:∃ q,L.any bad=q:=⟨_,rfl⟩
  have HQ:Hid ((L.drop 0).any bad=q):=by unfold Hid;rw [List.drop_zero];exact hq
  rw [hq]
  clear hq
  go_enter Tryz.func138,Tryz.ntmps138
  go_wp2_with fail
  go_loopg [8] n (fun g x wr=>∃ j:Nat,j+g=n∧x=.int .i64 (j:Int)∧Hid ((L.drop j).any bad=q)∧w=wr)
  case atStart=>exact ⟨0,by omega,rfl,HQ,rfl⟩
  case round=>
    obtain ⟨j,hjg,rfl,HK,rfl⟩:=hrel
    by_cases hj:j<n
    · have hjz:(j:Int)<(n:Int):=by omega
      obtain ⟨b,o,rfl,hcs⟩:=HA.out.at (by omega)
      have c0:=hcs j hj
      have hk:=HK.out
      rw [drop_int (by omega),List.any_cons] at hk
      have C:=hidden (cl_calls (L.getD j 0) w)
      obtain ⟨m,hm⟩:∃ m,L.getD j 0=m:=⟨_,rfl⟩
      rw [hm] at c0 C hk
      clear hm hcs HK
      cases ht:bad m with
      | true=>
        rw [ht] at C hk
        simp only [Bool.true_or] at hk
        have HK:=hidden hk
        clear hk ht
        go_wp2_with fail
        refine C.out.mono ?_
        rintro r w1 ⟨rfl,rfl⟩
        go_wp2_with fail
        go_ret
        exact ⟨(j:Int),rfl,by rw [← HK.out];simp,rfl⟩
      | false=>
        rw [ht] at C hk
        simp only [Bool.false_or] at hk
        have HK:=hidden hk
        clear hk ht
        go_wp2_with fail
        refine C.out.mono ?_
        rintro r w1 ⟨rfl,rfl⟩
        go_wp2_with fail
        go_roundg (n - (j+1))
        case measure=>omega
        case rel=>exact ⟨j+1,by omega,by go_num,HK,rfl⟩
    · have hjz:¬ (j:Int)<(n:Int):=by omega
      have hk:=HK.out
      rw [List.drop_eq_nil_of_le (by omega),List.any_nil] at hk
      have HK:=hidden hk
      clear hk
      go_wp2_with fail
      go_ret
      exact ⟨-1,rfl,by rw [← HK.out];simp,rfl⟩
set_option maxHeartbeats 2000000 in
theorem cont_calls (a:Option Addr) (n cap:Nat) (L:List Int) (w:World) (h:IArg w a n L) :
    Calls Tryz.prog 111 #[.slice a n cap,.func (.func 142) #[] #[]] w fun r w'=>r=.returned (.bool (L.any bad))∧w'=w:=by
  have C:=hidden (idx_calls a n cap L w h)
  obtain ⟨q,hq⟩:∃ q,L.any bad=q:=⟨_,rfl⟩
  rw [hq] at C ⊢
  clear hq h
  go_enter Tryz.func111,Tryz.ntmps111
  go_wp2_with fail
  refine C.out.mono ?_
  rintro r w1 ⟨i,rfl,hi,rfl⟩
  cases q with
  | true=>
    go_wp2_with fail
    go_ret
    exact ⟨rfl,rfl⟩
  | false=>
    go_wp2_with fail
    go_ret
    exact ⟨rfl,rfl⟩
set_option maxHeartbeats 2000000 in
theorem areRates_calls (a:Option Addr) (n cap:Nat) (L:List Int) (w:World) (h:IArg w a n L) :
    Calls Tryz.prog 119 #[.slice a n cap] w fun r w'=>r=.returned (.bool (!L.any bad))∧w'=w:=by
  have C:=hidden (cont_calls a n cap L w h)
  obtain ⟨q,hq⟩:∃ q,L.any bad=q:=⟨_,rfl⟩
  rw [hq] at C ⊢
  clear hq h
  go_enter Tryz.func119,Tryz.ntmps119
  go_wp2_with fail
  refine C.out.mono ?_
  rintro r w1 ⟨rfl,rfl⟩
  go_wp2_with fail
  go_ret
  exact ⟨rfl,rfl⟩
def srt (L:List Int):List Int:=L.mergeSort fun x y=>decide (x≤y)
theorem srt_perm (L:List Int):(srt L).Perm L:=List.mergeSort_perm L _
theorem srt_len (L:List Int):(srt L).length=L.length:=(srt_perm L).length_eq
theorem srt_sorted (L:List Int):(srt L).Pairwise (·≤·):=by
  have h:=List.pairwise_mergeSort (le:=fun x y:Int=>decide (x≤y)) (fun a b c h1 h2=>by simp at h1 h2 ⊢;omega) (fun a b=>by simp;omega) L
  exact h.imp (by simp)
theorem lv_small:∀ (R:List Int) (A:Int),0≤(lv A R).2∧(lv A R).2≤(R.length:Int)
  | [],A=>by simp [lv]
  | x::R,A=>by
    have i:=lv_small R (A - x)
    have r0:=Int.emod_nonneg A (show (R.length:Int)+1≠0 by omega)
    have r1:=Int.emod_lt_of_pos A (show 0<(R.length:Int)+1 by omega)
    have hlen:((x::R).length:Int)=(R.length:Int)+1:=by simp
    rw [hlen]
    simp only [lv]
    split
    · exact ⟨r0,by show A%((R.length:Int)+1)≤_;omega⟩
    · exact ⟨i.1,by omega⟩
set_option maxHeartbeats 4000000 in
set_option maxRecDepth 100000 in
theorem level_calls (A:Int) (a:Option Addr) (n cap:Nat) (L:List Int) (w:World) (m lf:Int) (h:IArg w a n L) (hr:Rts L) (hn:n≤200) (hA:0≤A) (hA1:A≤1000000) (hm:lv A (srt L)=(m,lf)) :
    Calls Tryz.prog 120 #[.int .i64 A,.slice a n cap] w fun r w'=>r=.returned (.tuple #[.int .i64 m,.int .i64 lf])∧Below w.heap.size w w':=by
  have hl:=h.2.1
  have hL2:=h.low
  have hsl:=srt_len L
  have hsr:=hr.perm (srt_perm L)
  have C1:=hidden (values_calls a n cap w)
  obtain ⟨w1,hw1⟩:∃ w1,w.alloc (.cells #[.slice a n cap] 47)=w1:=⟨_,rfl⟩
  rw [hw1] at C1
  have hB1:Below w.heap.size w w1:=by rw [← hw1];exact (Below.refl _ _).alloc (Nat.le_refl _) _
  have C2:=hidden (sorted_calls w.heap.size a cap L (by omega) w1 (by rw [← hw1];simp) (by rw [← hw1,hl];exact (Boxed.new w 47 _).cell) (fun j hj=>by
    obtain ⟨b,o,e,hbl,hc⟩:=(hL2.below hB1) j hj
    exact ⟨b,o,e,by have:=hB1.size;omega,hc⟩))
  have HB1:=hidden hB1
  clear h hL2 hw1 hB1
  have HM0:Hid (lv A ((srt L).drop 0)=(m,lf)):=hm
  have hR:Hid (∀ j,j<n→0≤(srt L).getD j 0∧(srt L).getD j 0≤1000000):=fun j hj=>by
    refine hsr _ ?_
    rw [List.getD_eq_getElem?_getD,List.getElem?_eq_getElem (by omega)]
    exact List.getElem_mem _
  have hC2:=C2.out
  change Calls _ _ _ _ fun e W'=>∃ v,e=.returned v∧W'.ownsRow w1.heap.size 3 1 v L.length (ic (srt L))∧_ at hC2
  generalize srt L=R at *
  clear hm hsr hr C2
  have C2:=hidden hC2
  clear hC2
  go_enter Tryz.func120,Tryz.ntmps120
  go_wp2_with fail
  refine C1.out.mono ?_
  rintro e w' ⟨rfl,rfl⟩
  clear C1
  go_wp2_with fail
  refine C2.out.mono ?_
  rintro e w2 ⟨v,rfl,h1,h2⟩
  obtain ⟨ra,rc,rfl,hI,-,-,-⟩:=own_ints h1 (by omega)
  rw [hl] at hI
  have HI:=hidden hI
  have HB2:Hid (Below w.heap.size w w2):=HB1.out.trans (h2.mono HB1.out.size)
  clear h1 h2 hI HB1 C2
  rw [hl]
  go_wp2_with fail
  go_loopg [0,15] n (fun g u x wr=>∃ (j:Nat) (B:Int),j+g=n∧u=.int .i64 B∧x=.int .i64 (j:Int)∧0≤B∧B≤1000000∧Hid (lv B (R.drop j)=(m,lf))∧w2=wr)
  case atStart=>exact ⟨0,A,by omega,rfl,rfl,hA,hA1,HM0,rfl⟩
  case round=>
    clear HM0 hA hA1
    obtain ⟨j,B,hjg,rfl,rfl,b0,b1,HK,rfl⟩:=hrel
    by_cases hj:j<n
    · have hjz:(j:Int)<(n:Int):=by omega
      obtain ⟨b,o,rfl,hcs⟩:=HI.out.at (by omega)
      have c0:=hcs j hj
      have hk:=HK.out
      have hx:=hR.out j hj
      rw [drop_int (by omega)] at hk
      have hdl:((R.drop (j+1)).length:Int)+1=(n:Int) - (j:Int):=by rw [List.length_drop];omega
      simp only [lv] at hk
      rw [hdl] at hk
      obtain ⟨x,hxx⟩:∃ x,R.getD j 0=x:=⟨_,rfl⟩
      rw [hxx] at c0 hk hx
      clear hxx hcs HK hdl
      have q0:0≤B / ((n:Int) - (j:Int)):=Int.ediv_nonneg b0 (by omega)
      have q1:B / ((n:Int) - (j:Int))≤B:=Int.ediv_le_self _ b0
      by_cases p:B / ((n:Int) - (j:Int))<x
      · have d:decide (B / ((n:Int) - (j:Int))<x)=true:=by simpa using p
        rw [if_pos p,Prod.mk.injEq] at hk
        obtain ⟨k1,k2⟩:=hk
        have K1:=hidden k1
        have K2:=hidden k2
        clear k1 k2
        go_wp2_with fail
        go_region
        go_wp2_with fail
        go_ret2
        exact ⟨by rw [← K1.out,← K2.out];rfl,HB2.out.drew⟩
      · have d:decide (B / ((n:Int) - (j:Int))<x)=false:=by simpa using p
        rw [if_neg p] at hk
        have HK:=hidden hk
        clear hk
        go_wp2_with fail
        go_roundg (n - (j+1))
        case measure=>omega
        case rel=>exact ⟨j+1,B - x,by omega,by go_num,by go_num,by omega,by omega,HK,rfl⟩
    · have hjz:¬ (j:Int)<(n:Int):=by omega
      have hk:=HK.out
      rw [List.drop_eq_nil_of_le (by omega)] at hk
      simp only [lv,Prod.mk.injEq] at hk
      obtain ⟨rfl,rfl⟩:=hk
      go_wp2_with fail
      go_ret2
      exact ⟨rfl,HB2.out⟩

def shr (A:Int) (L:List Int):List Int:=sh (lv A (srt L)).1 (lv A (srt L)).2 L
theorem shr_lev {A:Int} {L:List Int} (hr:Rts L) (hA:0≤A):Lev A L (lv A (srt L)).1 (lv A (srt L)).2:=lv_sorted (srt_perm L) (srt_sorted L) hr hA
theorem rf_big {A:Int} {L:List Int} {k:Nat} (h:k<L.length):rf A L k=4:=by unfold rf;rw [if_pos h]
theorem rf_all {A:Int} {L:List Int} {k:Nat} (h:¬ k<L.length) (hb:bad A=true):rf A L k=1:=by
  unfold rf
  unfold bad at hb
  simp at hb
  rw [if_neg h,if_pos (by omega)]
theorem rf_any {A:Int} {L:List Int} {k:Nat} (h:¬ k<L.length) (hb:L.any bad=true):rf A L k=1:=by
  unfold rf
  rw [if_neg h,if_pos (.inl hb)]
theorem rf_none {A:Int} {L:List Int} {k:Nat} (h:¬ k<L.length) (ha:bad A=false) (hb:L.any bad=false):rf A L k=0:=by
  unfold rf
  unfold bad at ha
  simp at ha
  rw [if_neg h,if_neg ?_]
  rintro (q | q)
  · have:L.any bad=true:=q
    rw [hb] at this;cases this
  · omega
theorem fair_big (A:Int) (a:Option Addr) (n cap:Nat) (w:World) (h:200<n) (hn:n≤9223372036854775807) :
    Calls Tryz.prog 90 #[.int .i64 A,.slice a n cap] w fun e w'=>e=.returned (.tuple #[.slice none 0 0,.iface 107 (.int .i64 4)])∧w'=w:=by
  have d:decide (200<n)=true:=by simpa using h
  have hz:(200:Int)<(n:Int):=by omega
  go_enter Tryz.func90,Tryz.ntmps90
  go_wp2_with fail
  go_ret2
  exact ⟨rfl,rfl⟩
theorem fair_all (A:Int) (a:Option Addr) (n cap:Nat) (w:World) (h:n≤200) (hb:bad A=true) :
    Calls Tryz.prog 90 #[.int .i64 A,.slice a n cap] w fun e w'=>e=.returned (.tuple #[.slice none 0 0,.iface 107 (.int .i64 1)])∧w'=w:=by
  have hz:¬ (200:Int)<(n:Int):=by omega
  have C1:=rate_bad A w
  rw [hb] at C1
  have HC1:=hidden C1
  clear C1 hb
  go_enter Tryz.func90,Tryz.ntmps90
  go_wp2_with fail
  refine HC1.out.mono ?_
  rintro e w1 ⟨rfl,rfl⟩
  go_wp2_with fail
  go_ret2
  exact ⟨rfl,rfl⟩
theorem fair_any (A:Int) (a:Option Addr) (n cap:Nat) (L:List Int) (w:World) (h:n≤200) (hA:IArg w a n L) (hb:bad A=false) (hc:L.any bad=true) :
    Calls Tryz.prog 90 #[.int .i64 A,.slice a n cap] w fun e w'=>e=.returned (.tuple #[.slice none 0 0,.iface 107 (.int .i64 1)])∧w'=w:=by
  have hz:¬ (200:Int)<(n:Int):=by omega
  have C1:=rate_bad A w
  rw [hb] at C1
  have HC1:=hidden C1
  have C2:=areRates_calls a n cap L w hA
  rw [hc] at C2
  have HC2:=hidden C2
  clear C1 C2 hb hc hA
  go_enter Tryz.func90,Tryz.ntmps90
  go_wp2_with fail
  refine HC1.out.mono ?_
  rintro e w1 ⟨rfl,rfl⟩
  go_wp2_with fail
  refine HC2.out.mono ?_
  rintro e w2 ⟨rfl,rfl⟩
  go_wp2_with fail
  go_ret2
  exact ⟨rfl,rfl⟩
def pz (S:List Int) (n j:Nat):List Int:=S.take j++List.replicate (n - j) 0
theorem pz_len {S:List Int} {n j:Nat} (h:S.length=n) (hj:j≤n):(pz S n j).length=n:=by simp [pz];omega
theorem pz_zero (S:List Int) (n:Nat):pz S n 0=List.replicate n 0:=by simp [pz]
theorem pz_all {S:List Int} {n:Nat} (h:S.length=n):pz S n n=S:=by simp [pz,← h]
theorem pz_set {S:List Int} {n j:Nat} (h:S.length=n) (hj:j<n):(pz S n j).set j (S.getD j 0)=pz S n (j+1):=by
  unfold pz
  have e:n - j=n - (j+1)+1:=by omega
  rw [take_next S (by omega),List.set_append_right _ _ (by simp;omega),e,List.replicate_succ]
  simp [Nat.min_eq_left (show j≤S.length by omega)]
theorem own_set {w:World} {base g n cap:Nat} {L:List Int} (h:w.ownsRow base 3 1 (.slice (some ⟨g,0,none⟩) n cap) n (ic L)) (j:Nat) (x:Int):(w.setCell ⟨g,j,none⟩ (.int .i64 x)).ownsRow base 3 1 (.slice (some ⟨g,0,none⟩) n cap) n (ic (L.set j x)):=by
  have:=(h.stored j (.int .i64 x)).1
  rwa [show (ic L).set j (.int .i64 x)=ic (L.set j x) by simp [ic]] at this
theorem own_get {w:World} {base g n cap:Nat} {L:List Int} (h:w.ownsRow base 3 1 (.slice (some ⟨g,0,none⟩) n cap) n (ic L)) {j:Nat} (hj:j<n):w.cell? ⟨g,j,none⟩=some (.int .i64 (L.getD j 0)):=by
  have hl:L.length=n:=by have:=h.1;rw [ic_len] at this;omega
  rw [h.cellAt j (by omega),ic_get L j (by omega)]
theorem made_z (n:Nat):madeCells #[Value.int .i64 0] n=(ic (List.replicate n 0)).toArray:=by
  apply Array.toList_inj.1
  rw [toList_madeCells_one]
  simp [ic]
structure FSt (w wr:World) (g n:Nat) (S:List Int) (j:Nat):Prop where
  own:wr.ownsRow w.heap.size 3 1 (.slice (some ⟨g,0,none⟩) n n) n (ic (pz S n j))
  bel:Below w.heap.size w wr
  hg:w.heap.size≤g
theorem FSt.next {w wr:World} {g n j:Nat} {S:List Int} (h:FSt w wr g n S j) (hS:S.length=n) (hj:j<n) {x:Int} (hx:S.getD j 0=x):FSt w (wr.setCell ⟨g,j,none⟩ (.int .i64 x)) g n S (j+1):=by
  refine ⟨?_,h.bel.setCell (p:=⟨g,j,none⟩) h.hg _,h.hg⟩
  rw [← pz_set hS hj,hx]
  exact own_set h.own j x
theorem FSt.next2 {w wr:World} {g n j:Nat} {S:List Int} (h:FSt w wr g n S j) (hS:S.length=n) (hj:j<n) {x y:Int} (hx:S.getD j 0=x):FSt w ((wr.setCell ⟨g,j,none⟩ (.int .i64 y)).setCell ⟨g,j,none⟩ (.int .i64 x)) g n S (j+1):=by
  refine ⟨?_,(h.bel.setCell (p:=⟨g,j,none⟩) h.hg _).setCell (p:=⟨g,j,none⟩) h.hg _,h.hg⟩
  have e:((pz S n j).set j y).set j x=pz S n (j+1):=by rw [List.set_set,← pz_set hS hj,hx]
  rw [← e]
  exact own_set (own_set h.own j y) j x
set_option maxHeartbeats 4000000 in
set_option maxRecDepth 100000 in
theorem fair_ok (A:Int) (a:Option Addr) (n cap:Nat) (L:List Int) (w:World) (h:n≤200) (hA:IArg w a n L) (hb:bad A=false) (hc:L.any bad=false) :
    Calls Tryz.prog 90 #[.int .i64 A,.slice a n cap] w fun e w'=>∃ v,e=.returned (.tuple #[v,.nilIface])∧w'.ownsRow w.heap.size 3 1 v n (ic (shr A L))∧Below w.heap.size w w':=by
  have hz:¬ (200:Int)<(n:Int):=by omega
  have hl:=hA.2.1
  obtain ⟨_,hr,a0,a1⟩:=rf_zero (rf_none (k:=200) (A:=A) (L:=L) (by omega) hb hc)
  have hv:=shr_lev hr a0
  have hs:=lv_small (srt L) A
  rw [srt_len,hl] at hs
  have C1:=rate_bad A w
  rw [hb] at C1
  have HC1:=hidden C1
  have C2:=areRates_calls a n cap L w hA
  rw [hc] at C2
  have HC2:=hidden C2
  obtain ⟨m,hm⟩:∃ m,(lv A (srt L)).1=m:=⟨_,rfl⟩
  obtain ⟨lf,hlf⟩:∃ lf,(lv A (srt L)).2=lf:=⟨_,rfl⟩
  have HC3:=hidden (level_calls A a n cap L w m lf hA hr h a0 a1 (by rw [← hm,← hlf]))
  have m0:=hv.m0
  have m1:=hv.m1
  have hS:shr A L=sh m lf L:=by unfold shr;rw [hm,hlf]
  rw [hS]
  rw [hlf] at hs
  rw [hm] at m0 m1
  obtain ⟨l0,l1⟩:=hs
  have hsl:(sh m lf L).length=n:=by rw [sh_len,hl]
  have HK0:Hid (sh m lf (L.drop 0)=(sh m lf L).drop 0):=by unfold Hid;rw [List.drop_zero,List.drop_zero]
  have HA:=hidden hA
  have HR:Hid (∀ j,j<n→0≤L.getD j 0∧L.getD j 0≤1000000):=fun j hj=>by
    refine hr _ ?_
    rw [List.getD_eq_getElem?_getD,List.getElem?_eq_getElem (by omega)]
    exact List.getElem_mem _
  generalize sh m lf L=S at *
  clear C1 C2 hb hc hA hv hm hlf hS hr a0 a1
  obtain ⟨i0,hii,hz0,hz1,hz2⟩:=info_parts info3
  have hmk:∀ W:World,(Instr.makeSlice 47 (.int .i64 (n:Int)) (.int .i64 (n:Int))).run Tryz.prog W=.ok (.slice (some ⟨W.heap.size,0,none⟩) n n) (W.alloc (.cells (madeCells #[.int .i64 0] n) 3)):=fun W=>by
    have:=run_make (P:=Tryz.prog) W 47 3 i0 _ Tryz.underlying47 hii hz0 .i64 .i64 (n:Int) (n:Int) (by omega) (by omega) (by rw [hz2];omega) (by omega)
    rw [Int.toNat_natCast,hz1,Nat.mul_one] at this
    exact this
  clear hii hz0 hz1 hz2 i0
  go_enter Tryz.func90,Tryz.ntmps90
  go_wp2_with fail
  refine HC1.out.mono ?_
  rintro e w' ⟨rfl,hw⟩
  obtain rfl:=hw.symm
  go_wp2_with fail
  refine HC2.out.mono ?_
  rintro e w' ⟨rfl,hw⟩
  obtain rfl:=hw.symm
  go_wp2_with fail
  refine HC3.out.mono ?_
  rintro e w1 ⟨rfl,hB1⟩
  have hm1:=hmk w1
  obtain ⟨w2,hw2⟩:∃ w2,w1.alloc (.cells (madeCells #[.int .i64 0] n) 3)=w2:=⟨_,rfl⟩
  rw [hw2] at hm1
  have HF:Hid (FSt w w2 w1.heap.size n S 0):=by
    rw [← hw2,made_z]
    refine ⟨?_,hB1.alloc hB1.size _,hB1.size⟩
    rw [pz_zero]
    exact ⟨by rw [ic_len];simp,.inr ⟨w1.heap.size,n,_,rfl,hB1.size,heap_alloc_new w1 _,Nat.le_refl _,by unfold maxLen;omega,by simp [ic_len],by show (ic _).take _=_;rw [List.take_of_length_le (by rw [ic_len];simp)]⟩⟩
  clear hw2 hB1 HC1 HC2 HC3 hmk
  generalize w1.heap.size=G at *
  go_wp2_with fail
  go_loopg [7,35] n (fun g u x wr=>∃ (j:Nat) (q:Int),j+g=n∧u=.int .i64 q∧x=.int .i64 (j:Int)∧0≤q∧q≤1000∧Hid (sh m q (L.drop j)=S.drop j)∧Hid (FSt w wr G n S j))
  case atStart=>exact ⟨0,lf,by omega,rfl,rfl,l0,by omega,HK0,HF⟩
  case round=>
    clear HK0 HF hm1
    obtain ⟨j,q,hjg,rfl,rfl,q0,q1,HK,HF⟩:=hrel
    by_cases hj:j<n
    · have hjz:(j:Int)<(n:Int):=by omega
      obtain ⟨b,o,rfl,hcs⟩:=(HA.out.below HF.out.bel).at (by omega)
      have c0:=hcs j hj
      have hk:=HK.out
      have hx:=HR.out j hj
      have cj:=own_get HF.out.own hj
      have fj:=HF.out.own.frozenAt j
      rw [drop_int (show j<L.length by omega),drop_int (show j<S.length by omega)] at hk
      obtain ⟨x,hxx⟩:∃ x,L.getD j 0=x:=⟨_,rfl⟩
      rw [hxx] at c0 hk hx
      clear hxx hcs HK
      simp only [sh] at hk
      by_cases p:m<x
      · have d:decide (m<x)=true:=by simpa using p
        rw [if_pos p] at hk
        by_cases p1:0<q
        · have d1:decide (0<q)=true:=by simpa using p1
          rw [if_pos p1,List.cons.injEq] at hk
          have HK:=hidden hk.2
          have HN:=hidden (HF.out.next2 (y:=min x m) hsl hj (show S.getD j 0=min x m+1 by omega))
          clear hk
          go_wp2_with fail
          go_roundg (n - (j+1))
          case measure=>omega
          case rel=>exact ⟨j+1,q - 1,by omega,rfl,by go_num,by omega,by omega,HK,HN⟩
        · have d1:decide (0<q)=false:=by simpa using p1
          rw [if_neg p1,List.cons.injEq] at hk
          have HK:=hidden hk.2
          have HN:=hidden (HF.out.next hsl hj (show S.getD j 0=min x m by omega))
          clear hk
          go_wp2_with fail
          go_roundg (n - (j+1))
          case measure=>omega
          case rel=>exact ⟨j+1,q,by omega,rfl,by go_num,by omega,by omega,HK,HN⟩
      · have d:decide (m<x)=false:=by simpa using p
        rw [if_neg p,List.cons.injEq] at hk
        have HK:=hidden hk.2
        have HN:=hidden (HF.out.next hsl hj (show S.getD j 0=min x m by omega))
        clear hk
        go_wp2_with fail
        go_roundg (n - (j+1))
        case measure=>omega
        case rel=>exact ⟨j+1,q,by omega,rfl,by go_num,by omega,by omega,HK,HN⟩
    · have hjz:¬ (j:Int)<(n:Int):=by omega
      obtain rfl:j=n:=by omega
      have HO:=HF.out.own
      rw [pz_all hsl] at HO
      have HO:=hidden HO
      have HB:=hidden HF.out.bel
      clear HF HK
      go_wp2_with fail
      go_ret2
      exact ⟨_,rfl,HO.out,HB.out⟩
def FPost (w:World) (A:Int) (n:Nat) (L:List Int) (e:Ending) (w':World):Prop:=
  (rf A L 200=0∧∃ v,e=.returned (.tuple #[v,.nilIface])∧w'.ownsRow w.heap.size 3 1 v n (ic (shr A L))∧Below w.heap.size w w') ∨
  (rf A L 200≠0∧e=.returned (.tuple #[.slice none 0 0,errv (rf A L 200)])∧w'=w)
theorem fair_calls (A:Int) (a:Option Addr) (n cap:Nat) (L:List Int) (w:World) (hA:IArg w a n L) :
    Calls Tryz.prog 90 #[.int .i64 A,.slice a n cap] w (FPost w A n L):=by
  have hl:=hA.2.1
  by_cases h:200<n
  · have e:rf A L 200=4:=rf_big (by omega)
    refine (fair_big A a n cap w h hA.2.2).mono ?_
    rintro e' w' ⟨rfl,rfl⟩
    exact .inr ⟨by omega,by rw [e];rfl,rfl⟩
  by_cases hb:bad A=true
  · have e:rf A L 200=1:=rf_all (by omega) hb
    refine (fair_all A a n cap w (by omega) hb).mono ?_
    rintro e' w' ⟨rfl,rfl⟩
    exact .inr ⟨by omega,by rw [e];rfl,rfl⟩
  have hb':bad A=false:=by simpa using hb
  by_cases hc:L.any bad=true
  · have e:rf A L 200=1:=rf_any (by omega) hc
    refine (fair_any A a n cap L w (by omega) hA hb' hc).mono ?_
    rintro e' w' ⟨rfl,rfl⟩
    exact .inr ⟨by omega,by rw [e];rfl,rfl⟩
  have hc':L.any bad=false:=by simpa using hc
  refine (fair_ok A a n cap L w (by omega) hA hb' hc').mono ?_
  intro e' w' q
  exact .inl ⟨rf_none (by omega) hb' hc',q⟩
end Go.Proofs.YtlppdppddiecnaaGreatDoor.Rate
