/-
  The library's Values, AppendSeq, Collect and Sorted at rows of numbers: what comes out of Sorted(Values(l)) is l, sorted, in memory of its own. They change nothing that was there.
-/
import Derived.Test.YtbadpjgiogghdaaGreatDoorShelfSP
import Derived.Test.YtbadpjgiogghdaaGreatDoorRateIP
import Derived.RangeFuncBox
import Derived.RangeFuncLeaves
import Derived.Shelf.Abstract
import Derived.OwnWalkIn
import Derived.TacticsInMore
import Derived.LoopNIn
import Derived.LoopIn
import Derived.Maps.AppendAt
import Derived.Sort.OwnSortedInts
namespace Go.Proofs.YtbadpjgiogghdaaGreatDoor.Rate
open Go.ChangeShapes Go.WideShapes Go.ChangeAt Go.RowKit Go.Sort Go.Shelf Go.Proofs.YtbadpjgiogghdaaGreatDoor.Mem Go.Proofs.YtbadpjgiogghdaaGreatDoor.RT
set_option linter.unusedVariables false
attribute [local go_sem] Oper.semAt_some

theorem take_next (L:List Int) {k:Nat} (h:k<L.length):L.take (k+1)=L.take k++[L.getD k 0]:=by
  rw [List.getD_eq_getElem?_getD,List.getElem?_eq_getElem h,Option.getD_some,List.take_append_getElem h]
def Low (n₀:Nat) (W:World) (a:Option Addr) (L:List Int):Prop:=∀ j,j<L.length→∃ b o,a=some ⟨b,o,none⟩∧b<n₀∧W.cell? ⟨b,o+j,none⟩=some (.int .i64 (L.getD j 0))
theorem Low.below {n₀:Nat} {W W':World} {a:Option Addr} {L:List Int} (h:Low n₀ W a L) (hb:Below n₀ W W'):Low n₀ W' a L:=by
  intro j hj
  obtain ⟨b,o,e,hbl,hc⟩:=h j hj
  exact ⟨b,o,e,hbl,(hb.cell (p:=⟨b,o+j,none⟩) hbl).trans hc⟩
theorem IArg.low {w:World} {a:Option Addr} {n:Nat} {L:List Int} (h:IArg w a n L):Low w.heap.size w a L:=by
  intro j hj
  obtain ⟨b,o,e,hc⟩:=h.1 j hj
  exact ⟨b,o,e,World.block_lt_of_cell? w ⟨b,o+j,none⟩ hc,hc⟩
set_option maxRecDepth 100000 in
set_option maxHeartbeats 2000000 in
theorem values1_in (n:Nat) (hn:1≤n) (l Bs n₀:Nat) (a:Option Addr) (cap:Nat) (L:List Int) (hl:L.length≤1000) (J Jx:List Int→World→Prop)
    (hY:∀ pre x W,J pre W→pre.length<L.length→YieldAt Fence.wide (n - 1) Tryz.prog l #[.int .i64 x] W fun e W'=>
      (e=.returned (.bool true)∧J (pre++[x]) W'∧Below n₀ W W')∨(e=.returned (.bool false)∧Jx (pre++[x]) W'))
    (W:World) (hBs:W.cell? ⟨Bs,0,none⟩=some (.slice a L.length cap)) (hA:Low n₀ W a L) (h0:J [] W) :
    CallsIn Fence.wide n Tryz.prog 183 #[.func (.yield l) #[] #[],.pointer (some ⟨Bs,0,none⟩)] W fun e W'=>(∃ v,e=.returned v)∧((∃ ys,ys=L∧J ys W')∨(∃ pre,True∧Jx pre W')):=by
  have hT:∀ k,k<L.length→(L.take k).length<L.length:=fun k hk=>by rw [List.length_take];omega
  obtain ⟨len,hlen⟩:∃ len,L.length=len:=⟨_,rfl⟩
  rw [hlen] at hBs hl hT
  refine callsIn_of_wp Tryz.func183 rfl trivial ?_ rfl
  simp only [Tryz.ntmps183,List.size_toArray,List.length_cons,List.length_nil,Nat.reduceAdd,Nat.reduceSub,Array.replicate_succ,Array.replicate_zero,List.push_toArray,List.append_toArray,List.nil_append,List.cons_append]
  gi_wp2
  gi_loopw [7] (fun i wr=>∃ k:Nat,k≤len∧i=.int .i64 (k:Int)∧J (L.take k) wr∧Below n₀ W wr) (fun i _=>len - (intOf i).toNat)
  case atStart=>exact ⟨0,Nat.zero_le _,rfl,h0,Below.refl _ _⟩
  case round=>
    obtain ⟨k,hk,rfl,hJs,hnx⟩:=hrel
    by_cases hlt:k<len
    · obtain ⟨b,o,rfl,hbl,hc⟩:=(hA.below hnx) k (by omega)
      obtain ⟨fn,tmps,assign,body,hy,hR⟩:=hY _ (L.getD k 0) wr hJs (by rw [hlen];exact hT k (by omega))
      rw [← take_next L (by omega)] at hR
      obtain ⟨y,hyy⟩:∃ y,L.getD k 0=y:=⟨_,rfl⟩
      rw [hyy] at hy hc
      clear hyy
      gi_wp2
      refine hR.mono ?_
      rintro e W3 (⟨rfl,hJ3,hk3⟩ | ⟨rfl,hJx3⟩)
      · gi_wp2
        go_roundw
        case rel=>exact ⟨k+1,by omega,by simp,hJ3,hnx.trans hk3⟩
        case measure=>simp [intOf];omega
      · gi_wp2
        refine bodyPost_ret (results_none rfl _ _ _) rfl ?_
        exact ⟨⟨_,rfl⟩,.inr ⟨_,trivial,hJx3⟩⟩
    · obtain rfl:k=len:=by omega
      rw [List.take_of_length_le (by omega)] at hJs
      gi_wp2
      go_end0
      exact ⟨⟨_,rfl⟩,.inl ⟨L,rfl,hJs⟩⟩
set_option maxHeartbeats 1000000 in
theorem values_in (n:Nat) (a:Option Addr) (len cap:Nat) (w:World) :
    CallsIn Fence.wide n Tryz.prog 149 #[.slice a len cap] w fun e w'=>e=.returned (.func (.func 183) #[] #[.pointer (some ⟨w.heap.size,0,none⟩)])∧w'=w.alloc (.cells #[.slice a len cap] 29):=by
  refine callsIn_of_wp Tryz.func149 rfl trivial ?_ rfl
  simp only [Tryz.ntmps149,List.size_toArray,List.length_cons,List.length_nil,Nat.reduceAdd,Nat.reduceSub,Array.replicate_succ,Array.replicate_zero,List.push_toArray,List.append_toArray,List.nil_append,List.cons_append]
  gi_wp2
  go_ret
  exact ⟨rfl,rfl⟩
theorem values_stops (n:Nat) (hn:1≤n) (Bs n₀:Nat) (a:Option Addr) (cap:Nat) (L:List Int) (hl:L.length≤1000) (w:World) (hBs:Bs<w.heap.size) (hn₀:n₀≤w.heap.size)
    (hc:w.cell? ⟨Bs,0,none⟩=some (.slice a L.length cap)) (hA:Low n₀ w a L) :
    SeqStopsK Fence.wide n Tryz.prog 183 #[.pointer (some ⟨Bs,0,none⟩)] (fun x:Int=>#[Value.int .i64 x]) (Below n₀) (fun ys=>ys=L) (fun _=>True) L.length w:=fun l J Jx W hW _ _ hY h0=>
  values1_in n hn l Bs n₀ a cap L hl J Jx hY W ((hW.cell (p:=⟨Bs,0,none⟩) hBs).trans hc) (hA.below (hW.mono hn₀)) h0
set_option maxRecDepth 100000 in
set_option maxHeartbeats 2000000 in
theorem appendSeq_in (n:Nat) (hn:3≤n) (Bs:Nat) (a:Option Addr) (cap:Nat) (L:List Int) (hl:L.length≤1000) (w:World) (hBs:Bs<w.heap.size) (hc:w.cell? ⟨Bs,0,none⟩=some (.slice a L.length cap)) (hA:Low w.heap.size w a L) :
    CallsIn Fence.wide n Tryz.prog 211 #[.slice none 0 0,.func (.func 183) #[] #[.pointer (some ⟨Bs,0,none⟩)]] w fun e W'=>∃ v,e=.returned v∧W'.ownsRow w.heap.size 3 1 v L.length (ic L)∧Below w.heap.size w W':=by
  obtain ⟨i0,hi,hz0,hz1,hz2⟩:=info_parts info3
  have h1:1≤n:=by omega
  have hro:Fence.wide.round=none:=rfl
  refine callsIn_of_wp_marks Tryz.func211 rfl trivial ?_ rfl
  simp only [Tryz.ntmps211,List.size_toArray,List.length_cons,List.length_nil,Nat.reduceAdd,Nat.reduceSub,Array.replicate_succ,Array.replicate_zero,List.push_toArray,List.append_toArray,List.nil_append,List.cons_append]
  gi_wp2
  have bO:=Boxed.new w 29 (.slice none 0 0)
  have hB0:Below w.heap.size w (w.alloc (.cells #[.slice none 0 0] 29)):=(Below.refl _ w).alloc (Nat.le_refl _) _
  refine wpIn_rangeFunc_ownG hro h1 (gf:=183) (lb:=#[.pointer (some ⟨Bs,0,none⟩)]) rfl trivial (enters_of Tryz.func183 (by kernel_rfl) rfl)
    (values_stops (n - 1) (by omega) Bs w.heap.size a cap L hl _ (by simp;omega) (by simp) ((hB0.cell (p:=⟨Bs,0,none⟩) hBs).trans hc) (hA.below hB0)) belowK_t (belowK_b (by simp)) (Below.refl _ _) (fun _=>rfl)
    (fun pre W=>(∃ v,Boxed W w.heap.size 29 v∧W.ownsRow w.heap.size 3 1 v pre.length (ic pre)∧True)∧Below w.heap.size w W)
    (fun _ _ _=>False)
    (OwnFrom.and (Own.from (holdsRow_own w.heap.size w.heap.size 29 3 1 (fun pre=>pre.length) (fun pre=>ic pre) (fun _ _=>True)) _) (ownFrom_below (Nat.le_refl _) (by simp)))
    (fun _ _ _ _ _ hs _ _=>hs)
    ⟨⟨_,bO,World.ownsRow_nil _ _ _ _,trivial⟩,hB0⟩
    (fun x=>{ tmps:=#[.slice none 0 0,.func (.func 183) #[] #[.pointer (some ⟨Bs,0,none⟩)],.pointer (some ⟨w.heap.size,0,none⟩),undef,.slice none 0 0,.int .i64 x,.func (.func 183) #[] #[.pointer (some ⟨Bs,0,none⟩)],.int .i64 x,undef,undef,undef,undef,undef],defers:=[] }) ?assign ?body ?done ?stop
  case assign=>
    intro l x W K hK
    gi_wp2
    exact hK
  case body=>
    rintro l pre x W ⟨⟨v,hv,hrow,_⟩,hB⟩ hlt
    have hcv:=hv.cell
    gi_wp2_with (gi_at_builtin;refine wpListIn_append_own _ rfl _ _ 29 rfl w.heap.size 3 i0 (.int .i64 0) 1 8 Tryz.underlying29 hi hz0 hz1 hz2 rfl (by decide) _ _ _ rfl (hrow.alloc _) ⟨W.heap.size,0,none⟩ 1 1 [.int .i64 x] rfl rfl (cell_one_new _ _ _) (by simp [Value.oneCell']) (by unfold maxLen;omega) (by omega) (by have:=hB.size;simp;omega) ?_;intro v' w1 hown' hgrow _;obtain ⟨g',cap',rfl⟩:=ownsRow_succ hown';obtain ⟨hv1,hv2,hr2,hk2,hb2⟩:=hv.appended (by decide) hrow hB.size (Nat.le_refl _) hown' hgrow;have hc1:=hv1.cell;have hf1:=hv1.frozen)
    exact ⟨hk2.from _,hb2,⟨_,hv2,by rw [ic_app];simpa [ic] using hr2,trivial⟩,hB.trans hb2⟩
  case done=>
    rintro D ys W hD rfl ⟨⟨v,hv,hrow,_⟩,hB⟩ hK
    have hcv:=hv.cell
    gi_wp2
    refine ⟨by simp,.inl ⟨_,_,rfl,run_takeDeferred hK,?_⟩⟩
    exact ⟨_,results_tmp rfl _ _ _,v,rfl,ownsRow_putObj hrow _ hK rfl,hB.trans (belowK_b (w:=w) (Nat.le_refl _) W D _ _ (by simp at hD;omega) hK rfl rfl)⟩
  case stop=>
    rintro D c pre W _ _ h _
    exact h.elim
theorem values_calls (a:Option Addr) (len cap:Nat) (w:World) :
    Calls Tryz.prog 149 #[.slice a len cap] w fun e w'=>e=.returned (.func (.func 183) #[] #[.pointer (some ⟨w.heap.size,0,none⟩)])∧w'=w.alloc (.cells #[.slice a len cap] 29):=(callsIn_wide (n:=5)).1 (values_in 5 a len cap w)
theorem appendSeq_calls (Bs:Nat) (a:Option Addr) (cap:Nat) (L:List Int) (hl:L.length≤1000) (w:World) (hBs:Bs<w.heap.size) (hc:w.cell? ⟨Bs,0,none⟩=some (.slice a L.length cap)) (hA:Low w.heap.size w a L) :
    Calls Tryz.prog 211 #[.slice none 0 0,.func (.func 183) #[] #[.pointer (some ⟨Bs,0,none⟩)]] w fun e W'=>∃ v,e=.returned v∧W'.ownsRow w.heap.size 3 1 v L.length (ic L)∧Below w.heap.size w W':=(callsIn_wide (n:=5)).1 (appendSeq_in 5 (by omega) Bs a cap L hl w hBs hc hA)
theorem sort_calls (v:Value) (base n:Nat) (L:List Int) (w:World) (h:w.ownsRow base 3 1 v n (ic L)) (hb:n≤1000000) :
    Calls Tryz.prog 121 #[v] w fun e w'=>e=.returned (.tuple #[])∧w'.ownsRow base 3 1 v n (ic (L.mergeSort fun x y=>decide (x≤y)))∧w.grownBy w' v.ownBlock:=by
  have hl:L.length=n:=by have:=h.1;rw [ic_len] at this;omega
  rcases h.2 with ⟨rfl,rfl⟩ | ⟨g,cap,cur,rfl,hg,hbl,hc,hm,hs,ht⟩
  · have:L=[]:=List.eq_nil_of_length_eq_zero hl
    subst this
    refine (AnyM.slices_Sort_int_none Tryz.sortA none 0 w).mono ?_
    rintro e w' ⟨rfl,rfl⟩
    exact ⟨rfl,by simpa [ic] using World.ownsRow_nil _ _ _ _,World.grownBy.refl _ _⟩
  · subst hl
    refine (AnyM.slices_Sort_int Tryz.sortA g 0 cap L w (holds_of_blockI hbl (by simpa [ic] using ht)) (lt_of_block hbl) (by omega)).mono ?_
    rintro e w' ⟨rfl,n,os,rfl⟩
    exact ⟨rfl,ownsRow_sortedI (by simp) hg hbl hc hm hs,grownBy_sortedI _⟩
set_option maxHeartbeats 1000000 in
theorem collect_calls (Bs:Nat) (a:Option Addr) (cap:Nat) (L:List Int) (hl:L.length≤1000) (w:World) (hBs:Bs<w.heap.size) (hc:w.cell? ⟨Bs,0,none⟩=some (.slice a L.length cap)) (hA:Low w.heap.size w a L) :
    Calls Tryz.prog 182 #[.func (.func 183) #[] #[.pointer (some ⟨Bs,0,none⟩)]] w fun e W'=>∃ v,e=.returned v∧W'.ownsRow w.heap.size 3 1 v L.length (ic L)∧Below w.heap.size w W':=by
  have C:=hidden (appendSeq_calls Bs a cap L hl w hBs hc hA)
  clear hc hA hBs
  go_enter Tryz.func182,Tryz.ntmps182
  go_wp2_with fail
  refine C.out.mono ?_
  rintro e w1 ⟨v,rfl,h1,h2⟩
  have H1:=hidden h1
  have H2:=hidden h2
  clear h1 h2 C
  go_wp2_with fail
  go_ret
  exact ⟨v,rfl,H1.out,H2.out⟩
set_option maxHeartbeats 1000000 in
theorem sorted_calls (Bs:Nat) (a:Option Addr) (cap:Nat) (L:List Int) (hl:L.length≤1000) (w:World) (hBs:Bs<w.heap.size) (hc:w.cell? ⟨Bs,0,none⟩=some (.slice a L.length cap)) (hA:Low w.heap.size w a L) :
    Calls Tryz.prog 148 #[.func (.func 183) #[] #[.pointer (some ⟨Bs,0,none⟩)]] w fun e W'=>∃ v,e=.returned v∧W'.ownsRow w.heap.size 3 1 v L.length (ic (L.mergeSort fun x y=>decide (x≤y)))∧Below w.heap.size w W':=by
  have C:=hidden (collect_calls Bs a cap L hl w hBs hc hA)
  clear hc hA hBs
  go_enter Tryz.func148,Tryz.ntmps148
  go_wp2_with fail
  refine C.out.mono ?_
  rintro e w1 ⟨v,rfl,h1,h2⟩
  have C2:=hidden (sort_calls v _ _ L w1 h1 (by omega))
  have H2:=hidden h2
  have H3:Hid (∀ k,v.ownBlock=some k→w.heap.size≤k):=fun k hk=>(h1.lt k hk).1
  clear h1 h2 C
  go_wp2_with fail
  refine C2.out.mono ?_
  rintro e w2 ⟨rfl,h3,h4⟩
  have H4:=hidden h3
  have H5:Hid (Below w.heap.size w w2):=H2.out.grown h4 H2.out.size H3.out
  clear h3 h4 C2
  go_wp2_with fail
  go_ret
  exact ⟨v,rfl,H4.out,H5.out⟩
end Go.Proofs.YtbadpjgiogghdaaGreatDoor.Rate

