/-
  What the library's functions Or, Compare, SortFunc and Sort return and leave in memory, at what package voice calls them with. They change what is sorted alone.
-/
import Derived.Test.YtbadpjgiogghdaaGreatDoorVoiceTop
import Derived.Test.YtbadpjgiogghdaaGreatDoorShelfSP
import Derived.Test.YtbadpjgiogghdaaGreatDoorShelfVP
import Derived.Deep.RegionHeld3
import Derived.Sort.OwnSortedInts
namespace Go.Proofs.YtbadpjgiogghdaaGreatDoor.Voice
open Go.ChangeShapes Go.WideShapes Go.ChangeAt Go.RowKit Go.Maps Go.Shelf Go.Lib Go.Sort Go.Proofs.YtbadpjgiogghdaaGreatDoor.Mem Go.Proofs.YtbadpjgiogghdaaGreatDoor.VO
set_option linter.unusedVariables false

theorem nan_calls (x:Int) (w:World):Calls Tryz.prog 209 #[.int .i64 x] w fun e w'=>e=.returned (.bool false)∧w'=w:=by
  go_enter Tryz.func209,Tryz.ntmps209
  go_wp2_with fail
  go_ret
  exact ⟨by simp,rfl⟩
theorem compare_calls (x y:Int) (w:World):Calls Tryz.prog 187 #[.int .i64 x,.int .i64 y] w fun e w'=>e=.returned (.int .i64 (Lib.compareInt x y))∧w'=w:=by
  have C1:=hidden (nan_calls x w)
  have C2:=hidden (nan_calls y w)
  obtain ⟨r,hr⟩:∃ r,Lib.compareInt x y=r:=⟨_,rfl⟩
  rw [hr]
  have HR:=hidden hr
  clear hr
  rcases Int.lt_trichotomy x y with h | h | h
  · have e:Hid (r=-1):=by unfold Hid;rw [← HR.out];unfold Lib.compareInt;rw [if_pos h]
    go_enter Tryz.func187,Tryz.ntmps187
    go_wp2_with fail
    refine C1.out.mono ?_
    rintro e w1 ⟨rfl,rfl⟩
    go_wp2_with fail
    refine C2.out.mono ?_
    rintro e w1 ⟨rfl,rfl⟩
    go_wp2_with fail
    go_ret
    exact ⟨by rw [e.out];rfl,rfl⟩
  · have e:Hid (r=0):=by unfold Hid;rw [← HR.out];unfold Lib.compareInt;rw [if_neg (by omega),if_neg (by omega)]
    have d1:decide (x<y)=false:=by simp;omega
    have d2:decide (y<x)=false:=by simp;omega
    clear h
    go_enter Tryz.func187,Tryz.ntmps187
    go_wp2_with fail
    refine C1.out.mono ?_
    rintro e w1 ⟨rfl,rfl⟩
    go_wp2_with fail
    refine C2.out.mono ?_
    rintro e w1 ⟨rfl,rfl⟩
    go_wp2_with fail
    go_ret
    exact ⟨by rw [e.out];rfl,rfl⟩
  · have e:Hid (r=1):=by unfold Hid;rw [← HR.out];unfold Lib.compareInt;rw [if_neg (by omega),if_pos h]
    have d1:decide (x<y)=false:=by simp;omega
    have d2:decide (y<x)=true:=by simp;omega
    clear h
    go_enter Tryz.func187,Tryz.ntmps187
    go_wp2_with fail
    refine C1.out.mono ?_
    rintro e w1 ⟨rfl,rfl⟩
    go_wp2_with fail
    refine C2.out.mono ?_
    rintro e w1 ⟨rfl,rfl⟩
    go_wp2_with fail
    go_ret
    exact ⟨by rw [e.out];rfl,rfl⟩
set_option maxHeartbeats 1000000 in
theorem or_calls (g:Nat) (p q:Int) (w:World) (h0:w.cell? ⟨g,0,none⟩=some (.int .i64 p)) (h1:w.cell? ⟨g,1,none⟩=some (.int .i64 q)) :
    Calls Tryz.prog 186 #[.slice (some ⟨g,0,none⟩) 2 2] w fun e w'=>e=.returned (.int .i64 (if p=0 then q else p))∧w'=w:=by
  obtain ⟨r,hr⟩:∃ r,(if p=0 then q else p)=r:=⟨_,rfl⟩
  rw [hr]
  have HR:=hidden hr
  clear hr
  go_enter Tryz.func186,Tryz.ntmps186
  go_wp2_with fail
  refine wp_loop_rounds 3 ?_
  rw [rounds_succ]
  by_cases hp:p=0
  · have HQ:Hid (r=q):=by unfold Hid;rw [← HR.out,if_pos hp]
    have d1:(p==0)=true:=by simpa using hp
    by_cases hq:q=0
    · have d2:(q==0)=true:=by simpa using hq
      have HZ:Hid (r=0):=by unfold Hid;rw [HQ.out,hq]
      clear hp hq HR HQ
      go_wp2_with fail
      rw [rounds_succ]
      go_wp2_with fail
      rw [rounds_succ]
      go_wp2_with fail
      go_ret
      exact ⟨by rw [HZ.out];rfl,rfl⟩
    · have d2:(q==0)=false:=by simpa using hq
      clear hp hq HR
      go_wp2_with fail
      rw [rounds_succ]
      go_wp2_with fail
      go_ret
      exact ⟨by rw [HQ.out];rfl,rfl⟩
  · have HQ:Hid (r=p):=by unfold Hid;rw [← HR.out,if_neg hp]
    have d1:(p==0)=false:=by simpa using hp
    clear hp HR
    go_wp2_with fail
    go_ret
    exact ⟨by rw [HQ.out];rfl,rfl⟩
def Gr (a w:World):Prop:=∃ q os,w=grow (a.drewN q) os
theorem Gr.refl (a:World):Gr a a:=⟨0,#[],by rw [grow_empty];rfl⟩
theorem Gr.alloc {a w:World} (h:Gr a w) (O:Obj):Gr a (w.alloc O):=by
  obtain ⟨q,os,rfl⟩:=h
  exact ⟨q,_,by rw [alloc_eq_grow,grow_grow]⟩
theorem Gr.drew {a w:World} (h:Gr a w):Gr a w.drew:=by
  obtain ⟨q,os,rfl⟩:=h
  exact ⟨q+1,os,rfl⟩
theorem Gr.trans {a b c:World} (h:Gr a b) (k:Gr b c):Gr a c:=by
  obtain ⟨q,os,rfl⟩:=h
  obtain ⟨r,ps,rfl⟩:=k
  refine ⟨q+r,os++ps,?_⟩
  rw [← grow_grow]
  simp [grow,World.drewN,Nat.add_assoc]
set_option maxHeartbeats 1000000 in
theorem closure_calls (x y:Int×Int) (w:World):Calls Tryz.prog 185 #[.agg #[.int .i64 x.1,.int .i64 x.2],.agg #[.int .i64 y.1,.int .i64 y.2]] w fun e w'=>e=.returned (.int .i64 (cf x y))∧∃ q os,w'=grow (w.drewN q) os:=by
  obtain ⟨x1,x2⟩:=x
  obtain ⟨y1,y2⟩:=y
  have C1:=fun w=>compare_calls y2 x2 w
  have C2:=fun w=>compare_calls x1 y1 w
  obtain ⟨p,hp⟩:∃ p,Lib.compareInt y2 x2=p:=⟨_,rfl⟩
  obtain ⟨q,hq⟩:∃ q,Lib.compareInt x1 y1=q:=⟨_,rfl⟩
  have e:cf (x1,x2) (y1,y2)=if p=0 then q else p:=by unfold cf;simp only;rw [hp,hq]
  rw [e]
  rw [hp] at C1
  rw [hq] at C2
  have HC1:=hidden C1
  have HC2:=hidden C2
  have HC3:=hidden (fun g w h0 h1=>or_calls g p q w h0 h1)
  clear hp hq e C1 C2
  generalize (if p=0 then q else p)=r at *
  simp only
  go_enter Tryz.func185,Tryz.ntmps185
  go_wp2_with fail
  have HG:Hid (Gr w ((w.alloc (.cells #[.int .i64 x1,.int .i64 x2] 88)).alloc (.cells #[.int .i64 y1,.int .i64 y2] 88)).drew):=(((Gr.refl w).alloc _).alloc _).drew
  have c0:((w.alloc (.cells #[.int .i64 x1,.int .i64 x2] 88)).alloc (.cells #[.int .i64 y1,.int .i64 y2] 88)).drew.cell? ⟨w.heap.size,0,none⟩=some (.int .i64 x1):=((VBox.new w (x1,x2)).alloc _).cells.1
  have c1:((w.alloc (.cells #[.int .i64 x1,.int .i64 x2] 88)).alloc (.cells #[.int .i64 y1,.int .i64 y2] 88)).drew.cell? ⟨w.heap.size,1,none⟩=some (.int .i64 x2):=((VBox.new w (x1,x2)).alloc _).cells.2
  have e1:(w.alloc (.cells #[.int .i64 x1,.int .i64 x2] 88)).heap.size=w.heap.size+1:=by simp
  have c2:((w.alloc (.cells #[.int .i64 x1,.int .i64 x2] 88)).alloc (.cells #[.int .i64 y1,.int .i64 y2] 88)).drew.cell? ⟨w.heap.size+1,0,none⟩=some (.int .i64 y1):=by rw [← e1];exact (VBox.new (w.alloc (.cells #[.int .i64 x1,.int .i64 x2] 88)) (y1,y2)).cells.1
  have c3:((w.alloc (.cells #[.int .i64 x1,.int .i64 x2] 88)).alloc (.cells #[.int .i64 y1,.int .i64 y2] 88)).drew.cell? ⟨w.heap.size+1,1,none⟩=some (.int .i64 y2):=by rw [← e1];exact (VBox.new (w.alloc (.cells #[.int .i64 x1,.int .i64 x2] 88)) (y1,y2)).cells.2
  clear e1
  generalize w.heap.size+1=n1 at *
  generalize w.heap.size=n0 at *
  obtain ⟨w2,hw2⟩:∃ w2,((w.alloc (.cells #[.int .i64 x1,.int .i64 x2] 88)).alloc (.cells #[.int .i64 y1,.int .i64 y2] 88))=w2:=⟨_,rfl⟩
  rw [hw2] at HG c0 c1 c2 c3 ⊢
  clear hw2
  have HX:Hid (∀ W O,Hid (Gr w W)→Hid (Gr w (W.alloc O))):=fun W O h=>h.out.alloc O
  have HY:Hid (∀ (W:World) O (P:Addr) u,W.cell? P=some u→(W.alloc O).cell? P=some u):=fun W O P u h=>cell_alloc h O
  have hS0:w2.drew.cell? ⟨n0,0,none⟩=some (.int .i64 x1)∧w2.drew.cell? ⟨n0,1,none⟩=some (.int .i64 x2)∧w2.drew.cell? ⟨n1,0,none⟩=some (.int .i64 y1)∧w2.drew.cell? ⟨n1,1,none⟩=some (.int .i64 y2)∧Hid (Gr w w2.drew):=⟨c0,c1,c2,c3,HG⟩
  have HZ:Hid (∀ W O,(W.cell? ⟨n0,0,none⟩=some (.int .i64 x1)∧W.cell? ⟨n0,1,none⟩=some (.int .i64 x2)∧W.cell? ⟨n1,0,none⟩=some (.int .i64 y1)∧W.cell? ⟨n1,1,none⟩=some (.int .i64 y2)∧Hid (Gr w W))→((W.alloc O).cell? ⟨n0,0,none⟩=some (.int .i64 x1)∧(W.alloc O).cell? ⟨n0,1,none⟩=some (.int .i64 x2)∧(W.alloc O).cell? ⟨n1,0,none⟩=some (.int .i64 y1)∧(W.alloc O).cell? ⟨n1,1,none⟩=some (.int .i64 y2)∧Hid (Gr w (W.alloc O)))):=fun W O h=>⟨cell_alloc h.1 O,cell_alloc h.2.1 O,cell_alloc h.2.2.1 O,cell_alloc h.2.2.2.1 O,h.2.2.2.2.out.alloc O⟩
  clear HX HY
  go_region_held3 (fun w'=>(w'.cell? ⟨n0,0,none⟩=some (.int .i64 x1)∧w'.cell? ⟨n0,1,none⟩=some (.int .i64 x2)∧w'.cell? ⟨n1,0,none⟩=some (.int .i64 y1)∧w'.cell? ⟨n1,1,none⟩=some (.int .i64 y2)∧Hid (Gr w w'))) (first | with_reducible assumption | exact HZ.out _ _ (by with_reducible assumption))
    (first
      | (go_at_call_of 187 y2;refine (HC1.out _).mono ?_;rintro e w' ⟨rfl,rfl⟩)
      | (go_at_call_of 187 x1;refine (HC2.out _).mono ?_;rintro e w' ⟨rfl,rfl⟩)
      | (go_at_call 186;refine (HC3.out _ _ (by simp) (by simp)).mono ?_;rintro e w' ⟨rfl,rfl⟩))
  go_wp2_with fail
  go_ret
  exact ⟨rfl,HG.out.alloc _⟩

def encV (x:Int×Int):List Value:=[.int .i64 x.1,.int .i64 x.2]
theorem flat_vc (l:Vs):flatK encV 2 l.toArray=(vc l).toArray:=by
  refine ext_get! (by simp [vc_len]) fun t ht=>?_
  have ht':t<l.length*2:=by simpa using ht
  rw [get_flatK encV 2 l.toArray t (by simpa using ht')]
  have hj:t / 2<l.length:=by omega
  obtain ⟨g0,g1⟩:=vc_get l (t / 2) hj
  have e1:(l.toArray)[t / 2]! = l.getD (t / 2) (0,0):=by
    rw [List.getD_eq_getElem?_getD,List.getElem?_eq_getElem hj,Option.getD_some]
    simp [hj]
  have e2:∀ u,(vc l)[t]?=some u→(vc l).toArray[t]! = u:=fun u hu=>by
    have h3:t<(vc l).length:=by rw [vc_len];exact ht'
    rw [List.getElem?_eq_getElem h3] at hu
    simp only [Option.some.injEq] at hu
    rw [getElem!_pos _ t (by simpa using h3)]
    simpa using hu
  rw [e1]
  rcases (show t=t / 2*2∨t=t / 2*2+1 by omega) with q | q
  · rw [e2 _ (by rw [← q] at g0;exact g0),show t%2=0 by omega]
    rfl
  · rw [e2 _ (by rw [← q] at g1;exact g1),show t%2=1 by omega]
    rfl
theorem holds_of_blockV {w:World} {g:Nat} {cur:Array Value} {e:TypeId} {l:Vs} (hb:w.heap[g]?=some (.cells cur e (0,0))) (ht:cur.toList.take (l.length*2)=vc l):HoldsK encV 2 w g 0 l.toArray:=by
  unfold HoldsK
  rw [flat_vc]
  intro j hj
  have hj':j<(vc l).length:=by simpa using hj
  have hj2:j<l.length*2:=by rw [← vc_len];exact hj'
  refine ⟨?_,by simp [World.frozen?,hb]⟩
  have h1:(cur.toList.take (l.length*2))[j]?=(vc l)[j]?:=by rw [ht]
  rw [List.getElem?_take_of_lt hj2] at h1
  simp only [World.cell?,hb,Nat.zero_add]
  simp only [Option.isSome_none,Bool.false_eq_true,if_false]
  rw [← Array.getElem?_toList,h1]
  simp [hj']
theorem heap_sortedV {w:World} {g n:Nat} {os:Array Obj} {cur:Array Value} {e:TypeId} {fr:Nat×Nat} (d:Array Value) (hb:w.heap[g]?=some (.cells cur e fr)) :
    (grow (putRow id (Sort.ahead w n) g 0 d) os).heap[g]?=some (.cells (putCells id 0 d cur) e fr):=by
  have hg:g<w.heap.size:=(Array.getElem?_eq_some_iff.1 hb).1
  rw [heap_grow_old _ _ (by simpa using hg)]
  simp [putRow,mapBlock,Sort.ahead,Array.getElem?_modify,hb,onCells]
theorem grownBy_sortedV {w:World} {g n:Nat} {os:Array Obj} (d:Array Value):w.grownBy (grow (putRow id (Sort.ahead w n) g 0 d) os) (some g):=by
  refine ⟨rfl,rfl,rfl,by simp,fun k hk hne=>?_⟩
  rw [heap_grow_old _ _ (by simpa using hk)]
  have:g≠k:=fun e=>hne (by rw [e])
  simp [putRow,mapBlock,Sort.ahead,Array.getElem?_modify,this]
theorem take_putCellsV (cur:Array Value) (ts:List Value) (h:ts.length≤cur.size):(putCells id 0 ts.toArray cur).toList.take ts.length=ts:=by
  apply List.ext_getElem?
  intro j
  by_cases hj:j<ts.length
  · rw [List.getElem?_take_of_lt hj,Array.getElem?_toList]
    simp [putCells,hj,show j<cur.size by omega]
  · rw [List.getElem?_take_eq_none (by omega),List.getElem?_eq_none (by omega)]
theorem ownsRow_sortedV {w:World} {base g cap n:Nat} {e:TypeId} {os:Array Obj} {cur:Array Value} {ss ts:Vs} (hl:ts.length=ss.length) (hbase:base≤g) (hb:w.heap[g]?=some (.cells cur e (0,0)))
    (h1:ss.length≤cap) (h2:cap≤maxLen) (h3:cur.size=cap*2) :
    (grow (putRow id (Sort.ahead w n) g 0 (vc ts).toArray) os).ownsRow base e 2 (.slice (some ⟨g,0,none⟩) ss.length cap) ss.length (vc ts):=
  ⟨by rw [vc_len,hl],.inr ⟨g,cap,_,rfl,hbase,heap_sortedV _ hb,h1,h2,by simp [putCells,h3],by rw [← hl,← vc_len];exact take_putCellsV cur (vc ts) (by rw [vc_len];omega)⟩⟩
theorem enters_cl:∀ args w,(callFunc 185 args).run Tryz.prog w=.ok (.enter 185 args) w:=enters_of Tryz.func185 (by kernel_rfl) rfl
theorem cmp_lays (blk off size:Nat) (w:World):CmpLays Tryz.prog 185 #[] encV 2 cf blk off size w:=fun _ _ _ _ x y=>closure_calls x y _
theorem sortV_calls (v:Value) (base n:Nat) (l:Vs) (w:World) (h:w.ownsRow base 88 2 v n (vc l)) (hb:n≤1000000) :
    Calls Tryz.prog 184 #[v,.func (.func 185) #[] #[]] w fun e w'=>e=.returned (.tuple #[])∧w'.ownsRow base 88 2 v n (vc (l.mergeSort fun x y=>!ltc y x))∧w.grownBy w' v.ownBlock:=by
  have hl:l.length=n:=own_vlen h
  rcases h.2 with ⟨rfl,rfl⟩ | ⟨g,cap,cur,rfl,hg,hbl,hc,hm,hs,ht⟩
  · have:l=[]:=List.eq_nil_of_length_eq_zero hl
    subst this
    refine (AnyF.slices_SortFunc_none Tryz.sortV none 0 _ w).mono ?_
    rintro e w' ⟨rfl,rfl⟩
    exact ⟨rfl,by simpa [vc] using World.ownsRow_nil _ _ _ _,World.grownBy.refl _ _⟩
  · subst hl
    refine (AnyQ.slices_SortFunc_total Tryz.sortV 2 Tryz.isAgg88 Tryz.sizeOf88 encV (fun _=>rfl) (fun x v hv=>by simp [encV] at hv;rcases hv with rfl | rfl<;>rfl) cf swo 185 #[] g 0 cap l.toArray w enters_cl (cmp_lays _ _ _ _) (holds_of_blockV hbl ht) (lt_of_block hbl) (by simp;omega) parts).mono ?_
    rintro e w' ⟨rfl,n,os,rfl⟩
    unfold sortWorldK putRowK
    rw [flat_vc]
    exact ⟨rfl,ownsRow_sortedV (by simp) hg hbl hc hm hs,grownBy_sortedV _⟩
theorem sort_calls (v:Value) (base n:Nat) (L:List Int) (w:World) (h:w.ownsRow base 3 1 v n (ic L)) (hb:n≤1000000) :
    Calls Tryz.prog 121 #[v] w fun e w'=>e=.returned (.tuple #[])∧w'.ownsRow base 3 1 v n (ic (L.mergeSort fun x y=>decide (x≤y)))∧w.grownBy w' v.ownBlock:=by
  have hl:L.length=n:=by have:=h.1;rw [ic_len] at this;omega
  rcases h.2 with ⟨rfl,rfl⟩ | ⟨g,cap,cur,rfl,hg,hbl,hc,hm,hs,ht⟩
  · have:L=[]:=List.eq_nil_of_length_eq_zero hl
    subst this
    refine (AnyM.slices_Sort_int_none Tryz.sortA none 0 w).mono ?_
    rintro e w' ⟨rfl,rfl⟩
    exact ⟨rfl,by simpa [ic] using World.ownsRow_nil _ _ _ _,World.grownBy.refl _ _⟩
  · subst hl
    refine (AnyM.slices_Sort_int Tryz.sortA g 0 cap L w (holds_of_blockI hbl (by simpa [ic] using ht)) (lt_of_block hbl) (by omega)).mono ?_
    rintro e w' ⟨rfl,n,os,rfl⟩
    exact ⟨rfl,ownsRow_sortedI (by simp) hg hbl hc hm hs,grownBy_sortedI _⟩
end Go.Proofs.YtbadpjgiogghdaaGreatDoor.Voice

