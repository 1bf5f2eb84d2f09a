/-
  VoiceV, VoiceC, VoiceD, VoiceE, VoiceF in one text.
-/
import Derived.Test.YtlppdppddiecnaaGreatDoorVoiceTop
import Derived.Test.YtlppdppddiecnaaGreatDoorShelfSP
import Derived.Test.YtlppdppddiecnaaGreatDoorShelfVP
import Derived.Deep.RegionHeld3
import Derived.Sort.OwnSortedInts

namespace Go.Proofs.YtlppdppddiecnaaGreatDoor.Voice
open Go.ChangeShapes Go.WideShapes Go.ChangeAt Go.RowKit Go.Maps Go.Shelf Go.Lib Go.Sort Go.Proofs.YtlppdppddiecnaaGreatDoor.Mem Go.Proofs.YtlppdppddiecnaaGreatDoor.VO
set_option linter.unusedVariables false

theorem nan_calls (x:Int) (w:World):Calls Tryz.prog 204 #[.int .i64 x] w fun e w'=>e=.returned (.bool false)∧w'=w:=by
  go_enter Tryz.func204,Tryz.ntmps204
  go_wp2_with fail
  go_ret
  exact ⟨by simp,rfl⟩
theorem compare_calls (x y:Int) (w:World):Calls Tryz.prog 182 #[.int .i64 x,.int .i64 y] w fun e w'=>e=.returned (.int .i64 (Lib.compareInt x y))∧w'=w:=by
  have C1:=hidden (nan_calls x w)
  have C2:=hidden (nan_calls y w)
  obtain ⟨r,hr⟩:∃ r,Lib.compareInt x y=r:=⟨_,rfl⟩
  rw [hr]
  have HR:=hidden hr
  clear hr
  rcases Int.lt_trichotomy x y with h | h | h
  · have e:Hid (r=-1):=by unfold Hid;rw [← HR.out];unfold Lib.compareInt;rw [if_pos h]
    go_enter Tryz.func182,Tryz.ntmps182
    go_wp2_with fail
    refine C1.out.mono ?_
    rintro e w1 ⟨rfl,rfl⟩
    go_wp2_with fail
    refine C2.out.mono ?_
    rintro e w1 ⟨rfl,rfl⟩
    go_wp2_with fail
    go_ret
    exact ⟨by rw [e.out];rfl,rfl⟩
  · have e:Hid (r=0):=by unfold Hid;rw [← HR.out];unfold Lib.compareInt;rw [if_neg (by omega),if_neg (by omega)]
    have d1:decide (x<y)=false:=by simp;omega
    have d2:decide (y<x)=false:=by simp;omega
    clear h
    go_enter Tryz.func182,Tryz.ntmps182
    go_wp2_with fail
    refine C1.out.mono ?_
    rintro e w1 ⟨rfl,rfl⟩
    go_wp2_with fail
    refine C2.out.mono ?_
    rintro e w1 ⟨rfl,rfl⟩
    go_wp2_with fail
    go_ret
    exact ⟨by rw [e.out];rfl,rfl⟩
  · have e:Hid (r=1):=by unfold Hid;rw [← HR.out];unfold Lib.compareInt;rw [if_neg (by omega),if_pos h]
    have d1:decide (x<y)=false:=by simp;omega
    have d2:decide (y<x)=true:=by simp;omega
    clear h
    go_enter Tryz.func182,Tryz.ntmps182
    go_wp2_with fail
    refine C1.out.mono ?_
    rintro e w1 ⟨rfl,rfl⟩
    go_wp2_with fail
    refine C2.out.mono ?_
    rintro e w1 ⟨rfl,rfl⟩
    go_wp2_with fail
    go_ret
    exact ⟨by rw [e.out];rfl,rfl⟩
set_option maxHeartbeats 1000000 in
theorem or_calls (g:Nat) (p q:Int) (w:World) (h0:w.cell? ⟨g,0,none⟩=some (.int .i64 p)) (h1:w.cell? ⟨g,1,none⟩=some (.int .i64 q)) :
    Calls Tryz.prog 181 #[.slice (some ⟨g,0,none⟩) 2 2] w fun e w'=>e=.returned (.int .i64 (if p=0 then q else p))∧w'=w:=by
  obtain ⟨r,hr⟩:∃ r,(if p=0 then q else p)=r:=⟨_,rfl⟩
  rw [hr]
  have HR:=hidden hr
  clear hr
  go_enter Tryz.func181,Tryz.ntmps181
  go_wp2_with fail
  refine wp_loop_rounds 3 ?_
  rw [rounds_succ]
  by_cases hp:p=0
  · have HQ:Hid (r=q):=by unfold Hid;rw [← HR.out,if_pos hp]
    have d1:(p==0)=true:=by simpa using hp
    by_cases hq:q=0
    · have d2:(q==0)=true:=by simpa using hq
      have HZ:Hid (r=0):=by unfold Hid;rw [HQ.out,hq]
      clear hp hq HR HQ
      go_wp2_with fail
      rw [rounds_succ]
      go_wp2_with fail
      rw [rounds_succ]
      go_wp2_with fail
      go_ret
      exact ⟨by rw [HZ.out];rfl,rfl⟩
    · have d2:(q==0)=false:=by simpa using hq
      clear hp hq HR
      go_wp2_with fail
      rw [rounds_succ]
      go_wp2_with fail
      go_ret
      exact ⟨by rw [HQ.out];rfl,rfl⟩
  · have HQ:Hid (r=p):=by unfold Hid;rw [← HR.out,if_neg hp]
    have d1:(p==0)=false:=by simpa using hp
    clear hp HR
    go_wp2_with fail
    go_ret
    exact ⟨by rw [HQ.out];rfl,rfl⟩
def Gr (a w:World):Prop:=∃ q os,w=grow (a.drewN q) os
theorem Gr.refl (a:World):Gr a a:=⟨0,#[],by rw [grow_empty];rfl⟩
theorem Gr.alloc {a w:World} (h:Gr a w) (O:Obj):Gr a (w.alloc O):=by
  obtain ⟨q,os,rfl⟩:=h
  exact ⟨q,_,by rw [alloc_eq_grow,grow_grow]⟩
theorem Gr.drew {a w:World} (h:Gr a w):Gr a w.drew:=by
  obtain ⟨q,os,rfl⟩:=h
  exact ⟨q+1,os,rfl⟩
theorem Gr.trans {a b c:World} (h:Gr a b) (k:Gr b c):Gr a c:=by
  obtain ⟨q,os,rfl⟩:=h
  obtain ⟨r,ps,rfl⟩:=k
  refine ⟨q+r,os++ps,?_⟩
  rw [← grow_grow]
  simp [grow,World.drewN,Nat.add_assoc]
set_option maxHeartbeats 1000000 in
theorem closure_calls (x y:Int×Int) (w:World):Calls Tryz.prog 180 #[.agg #[.int .i64 x.1,.int .i64 x.2],.agg #[.int .i64 y.1,.int .i64 y.2]] w fun e w'=>e=.returned (.int .i64 (cf x y))∧∃ q os,w'=grow (w.drewN q) os:=by
  obtain ⟨x1,x2⟩:=x
  obtain ⟨y1,y2⟩:=y
  have C1:=fun w=>compare_calls y2 x2 w
  have C2:=fun w=>compare_calls x1 y1 w
  obtain ⟨p,hp⟩:∃ p,Lib.compareInt y2 x2=p:=⟨_,rfl⟩
  obtain ⟨q,hq⟩:∃ q,Lib.compareInt x1 y1=q:=⟨_,rfl⟩
  have e:cf (x1,x2) (y1,y2)=if p=0 then q else p:=by unfold cf;simp only;rw [hp,hq]
  rw [e]
  rw [hp] at C1
  rw [hq] at C2
  have HC1:=hidden C1
  have HC2:=hidden C2
  have HC3:=hidden (fun g w h0 h1=>or_calls g p q w h0 h1)
  clear hp hq e C1 C2
  generalize (if p=0 then q else p)=r at *
  simp only
  go_enter Tryz.func180,Tryz.ntmps180
  go_wp2_with fail
  have HG:Hid (Gr w ((w.alloc (.cells #[.int .i64 x1,.int .i64 x2] 83)).alloc (.cells #[.int .i64 y1,.int .i64 y2] 83)).drew):=(((Gr.refl w).alloc _).alloc _).drew
  have c0:((w.alloc (.cells #[.int .i64 x1,.int .i64 x2] 83)).alloc (.cells #[.int .i64 y1,.int .i64 y2] 83)).drew.cell? ⟨w.heap.size,0,none⟩=some (.int .i64 x1):=((VBox.new w (x1,x2)).alloc _).cells.1
  have c1:((w.alloc (.cells #[.int .i64 x1,.int .i64 x2] 83)).alloc (.cells #[.int .i64 y1,.int .i64 y2] 83)).drew.cell? ⟨w.heap.size,1,none⟩=some (.int .i64 x2):=((VBox.new w (x1,x2)).alloc _).cells.2
  have e1:(w.alloc (.cells #[.int .i64 x1,.int .i64 x2] 83)).heap.size=w.heap.size+1:=by simp
  have c2:((w.alloc (.cells #[.int .i64 x1,.int .i64 x2] 83)).alloc (.cells #[.int .i64 y1,.int .i64 y2] 83)).drew.cell? ⟨w.heap.size+1,0,none⟩=some (.int .i64 y1):=by rw [← e1];exact (VBox.new (w.alloc (.cells #[.int .i64 x1,.int .i64 x2] 83)) (y1,y2)).cells.1
  have c3:((w.alloc (.cells #[.int .i64 x1,.int .i64 x2] 83)).alloc (.cells #[.int .i64 y1,.int .i64 y2] 83)).drew.cell? ⟨w.heap.size+1,1,none⟩=some (.int .i64 y2):=by rw [← e1];exact (VBox.new (w.alloc (.cells #[.int .i64 x1,.int .i64 x2] 83)) (y1,y2)).cells.2
  clear e1
  generalize w.heap.size+1=n1 at *
  generalize w.heap.size=n0 at *
  obtain ⟨w2,hw2⟩:∃ w2,((w.alloc (.cells #[.int .i64 x1,.int .i64 x2] 83)).alloc (.cells #[.int .i64 y1,.int .i64 y2] 83))=w2:=⟨_,rfl⟩
  rw [hw2] at HG c0 c1 c2 c3 ⊢
  clear hw2
  have HX:Hid (∀ W O,Hid (Gr w W)→Hid (Gr w (W.alloc O))):=fun W O h=>h.out.alloc O
  have HY:Hid (∀ (W:World) O (P:Addr) u,W.cell? P=some u→(W.alloc O).cell? P=some u):=fun W O P u h=>cell_alloc h O
  have hS0:w2.drew.cell? ⟨n0,0,none⟩=some (.int .i64 x1)∧w2.drew.cell? ⟨n0,1,none⟩=some (.int .i64 x2)∧w2.drew.cell? ⟨n1,0,none⟩=some (.int .i64 y1)∧w2.drew.cell? ⟨n1,1,none⟩=some (.int .i64 y2)∧Hid (Gr w w2.drew):=⟨c0,c1,c2,c3,HG⟩
  have HZ:Hid (∀ W O,(W.cell? ⟨n0,0,none⟩=some (.int .i64 x1)∧W.cell? ⟨n0,1,none⟩=some (.int .i64 x2)∧W.cell? ⟨n1,0,none⟩=some (.int .i64 y1)∧W.cell? ⟨n1,1,none⟩=some (.int .i64 y2)∧Hid (Gr w W))→((W.alloc O).cell? ⟨n0,0,none⟩=some (.int .i64 x1)∧(W.alloc O).cell? ⟨n0,1,none⟩=some (.int .i64 x2)∧(W.alloc O).cell? ⟨n1,0,none⟩=some (.int .i64 y1)∧(W.alloc O).cell? ⟨n1,1,none⟩=some (.int .i64 y2)∧Hid (Gr w (W.alloc O)))):=fun W O h=>⟨cell_alloc h.1 O,cell_alloc h.2.1 O,cell_alloc h.2.2.1 O,cell_alloc h.2.2.2.1 O,h.2.2.2.2.out.alloc O⟩
  clear HX HY
  go_region_held3 (fun w'=>(w'.cell? ⟨n0,0,none⟩=some (.int .i64 x1)∧w'.cell? ⟨n0,1,none⟩=some (.int .i64 x2)∧w'.cell? ⟨n1,0,none⟩=some (.int .i64 y1)∧w'.cell? ⟨n1,1,none⟩=some (.int .i64 y2)∧Hid (Gr w w'))) (first | with_reducible assumption | exact HZ.out _ _ (by with_reducible assumption))
    (first
      | (go_at_call_of 182 y2;refine (HC1.out _).mono ?_;rintro e w' ⟨rfl,rfl⟩)
      | (go_at_call_of 182 x1;refine (HC2.out _).mono ?_;rintro e w' ⟨rfl,rfl⟩)
      | (go_at_call 181;refine (HC3.out _ _ (by simp) (by simp)).mono ?_;rintro e w' ⟨rfl,rfl⟩))
  go_wp2_with fail
  go_ret
  exact ⟨rfl,HG.out.alloc _⟩

def encV (x:Int×Int):List Value:=[.int .i64 x.1,.int .i64 x.2]
theorem flat_vc (l:Vs):flatK encV 2 l.toArray=(vc l).toArray:=by
  refine ext_get! (by simp [vc_len]) fun t ht=>?_
  have ht':t<l.length*2:=by simpa using ht
  rw [get_flatK encV 2 l.toArray t (by simpa using ht')]
  have hj:t / 2<l.length:=by omega
  obtain ⟨g0,g1⟩:=vc_get l (t / 2) hj
  have e1:(l.toArray)[t / 2]! = l.getD (t / 2) (0,0):=by
    rw [List.getD_eq_getElem?_getD,List.getElem?_eq_getElem hj,Option.getD_some]
    simp [hj]
  have e2:∀ u,(vc l)[t]?=some u→(vc l).toArray[t]! = u:=fun u hu=>by
    have h3:t<(vc l).length:=by rw [vc_len];exact ht'
    rw [List.getElem?_eq_getElem h3] at hu
    simp only [Option.some.injEq] at hu
    rw [getElem!_pos _ t (by simpa using h3)]
    simpa using hu
  rw [e1]
  rcases (show t=t / 2*2∨t=t / 2*2+1 by omega) with q | q
  · rw [e2 _ (by rw [← q] at g0;exact g0),show t%2=0 by omega]
    rfl
  · rw [e2 _ (by rw [← q] at g1;exact g1),show t%2=1 by omega]
    rfl
theorem holds_of_blockV {w:World} {g:Nat} {cur:Array Value} {e:TypeId} {l:Vs} (hb:w.heap[g]?=some (.cells cur e (0,0))) (ht:cur.toList.take (l.length*2)=vc l):HoldsK encV 2 w g 0 l.toArray:=by
  unfold HoldsK
  rw [flat_vc]
  intro j hj
  have hj':j<(vc l).length:=by simpa using hj
  have hj2:j<l.length*2:=by rw [← vc_len];exact hj'
  refine ⟨?_,by simp [World.frozen?,hb]⟩
  have h1:(cur.toList.take (l.length*2))[j]?=(vc l)[j]?:=by rw [ht]
  rw [List.getElem?_take_of_lt hj2] at h1
  simp only [World.cell?,hb,Nat.zero_add]
  simp only [Option.isSome_none,Bool.false_eq_true,if_false]
  rw [← Array.getElem?_toList,h1]
  simp [hj']
theorem heap_sortedV {w:World} {g n:Nat} {os:Array Obj} {cur:Array Value} {e:TypeId} {fr:Nat×Nat} (d:Array Value) (hb:w.heap[g]?=some (.cells cur e fr)) :
    (grow (putRow id (Sort.ahead w n) g 0 d) os).heap[g]?=some (.cells (putCells id 0 d cur) e fr):=by
  have hg:g<w.heap.size:=(Array.getElem?_eq_some_iff.1 hb).1
  rw [heap_grow_old _ _ (by simpa using hg)]
  simp [putRow,mapBlock,Sort.ahead,Array.getElem?_modify,hb,onCells]
theorem grownBy_sortedV {w:World} {g n:Nat} {os:Array Obj} (d:Array Value):w.grownBy (grow (putRow id (Sort.ahead w n) g 0 d) os) (some g):=by
  refine ⟨rfl,rfl,rfl,by simp,fun k hk hne=>?_⟩
  rw [heap_grow_old _ _ (by simpa using hk)]
  have:g≠k:=fun e=>hne (by rw [e])
  simp [putRow,mapBlock,Sort.ahead,Array.getElem?_modify,this]
theorem take_putCellsV (cur:Array Value) (ts:List Value) (h:ts.length≤cur.size):(putCells id 0 ts.toArray cur).toList.take ts.length=ts:=by
  apply List.ext_getElem?
  intro j
  by_cases hj:j<ts.length
  · rw [List.getElem?_take_of_lt hj,Array.getElem?_toList]
    simp [putCells,hj,show j<cur.size by omega]
  · rw [List.getElem?_take_eq_none (by omega),List.getElem?_eq_none (by omega)]
theorem ownsRow_sortedV {w:World} {base g cap n:Nat} {e:TypeId} {os:Array Obj} {cur:Array Value} {ss ts:Vs} (hl:ts.length=ss.length) (hbase:base≤g) (hb:w.heap[g]?=some (.cells cur e (0,0)))
    (h1:ss.length≤cap) (h2:cap≤maxLen) (h3:cur.size=cap*2) :
    (grow (putRow id (Sort.ahead w n) g 0 (vc ts).toArray) os).ownsRow base e 2 (.slice (some ⟨g,0,none⟩) ss.length cap) ss.length (vc ts):=
  ⟨by rw [vc_len,hl],.inr ⟨g,cap,_,rfl,hbase,heap_sortedV _ hb,h1,h2,by simp [putCells,h3],by rw [← hl,← vc_len];exact take_putCellsV cur (vc ts) (by rw [vc_len];omega)⟩⟩
theorem enters_cl:∀ args w,(callFunc 180 args).run Tryz.prog w=.ok (.enter 180 args) w:=enters_of Tryz.func180 (by kernel_rfl) rfl
theorem cmp_lays (blk off size:Nat) (w:World):CmpLays Tryz.prog 180 #[] encV 2 cf blk off size w:=fun _ _ _ _ x y=>closure_calls x y _
theorem sortV_calls (v:Value) (base n:Nat) (l:Vs) (w:World) (h:w.ownsRow base 83 2 v n (vc l)) (hb:n≤1000000) :
    Calls Tryz.prog 179 #[v,.func (.func 180) #[] #[]] w fun e w'=>e=.returned (.tuple #[])∧w'.ownsRow base 83 2 v n (vc (l.mergeSort fun x y=>!ltc y x))∧w.grownBy w' v.ownBlock:=by
  have hl:l.length=n:=own_vlen h
  rcases h.2 with ⟨rfl,rfl⟩ | ⟨g,cap,cur,rfl,hg,hbl,hc,hm,hs,ht⟩
  · have:l=[]:=List.eq_nil_of_length_eq_zero hl
    subst this
    refine (AnyF.slices_SortFunc_none Tryz.sortV none 0 _ w).mono ?_
    rintro e w' ⟨rfl,rfl⟩
    exact ⟨rfl,by simpa [vc] using World.ownsRow_nil _ _ _ _,World.grownBy.refl _ _⟩
  · subst hl
    refine (AnyQ.slices_SortFunc_total Tryz.sortV 2 Tryz.isAgg83 Tryz.sizeOf83 encV (fun _=>rfl) (fun x v hv=>by simp [encV] at hv;rcases hv with rfl | rfl<;>rfl) cf swo 180 #[] g 0 cap l.toArray w enters_cl (cmp_lays _ _ _ _) (holds_of_blockV hbl ht) (lt_of_block hbl) (by simp;omega) parts).mono ?_
    rintro e w' ⟨rfl,n,os,rfl⟩
    unfold sortWorldK putRowK
    rw [flat_vc]
    exact ⟨rfl,ownsRow_sortedV (by simp) hg hbl hc hm hs,grownBy_sortedV _⟩
theorem sort_calls (v:Value) (base n:Nat) (L:List Int) (w:World) (h:w.ownsRow base 3 1 v n (ic L)) (hb:n≤1000000) :
    Calls Tryz.prog 115 #[v] w fun e w'=>e=.returned (.tuple #[])∧w'.ownsRow base 3 1 v n (ic (L.mergeSort fun x y=>decide (x≤y)))∧w.grownBy w' v.ownBlock:=by
  have hl:L.length=n:=by have:=h.1;rw [ic_len] at this;omega
  rcases h.2 with ⟨rfl,rfl⟩ | ⟨g,cap,cur,rfl,hg,hbl,hc,hm,hs,ht⟩
  · have:L=[]:=List.eq_nil_of_length_eq_zero hl
    subst this
    refine (AnyM.slices_Sort_int_none Tryz.sortA none 0 w).mono ?_
    rintro e w' ⟨rfl,rfl⟩
    exact ⟨rfl,by simpa [ic] using World.ownsRow_nil _ _ _ _,World.grownBy.refl _ _⟩
  · subst hl
    refine (AnyM.slices_Sort_int Tryz.sortA g 0 cap L w (holds_of_blockI hbl (by simpa [ic] using ht)) (lt_of_block hbl) (by omega)).mono ?_
    rintro e w' ⟨rfl,n,os,rfl⟩
    exact ⟨rfl,ownsRow_sortedI (by simp) hg hbl hc hm hs,grownBy_sortedI _⟩
end Go.Proofs.YtlppdppddiecnaaGreatDoor.Voice
namespace Go.Proofs.YtlppdppddiecnaaGreatDoor.Voice
open Go.ChangeShapes Go.WideShapes Go.ChangeAt Go.RowKit Go.Maps Go.Proofs.YtlppdppddiecnaaGreatDoor.Mem Go.Proofs.YtlppdppddiecnaaGreatDoor.VO
set_option linter.unusedVariables false

theorem nodup_perm {l k:Vs} (hl:l.Nodup) (hk:k.Nodup) (h:∀ p,p∈l↔p∈k):l.Perm k:=
  List.perm_iff_count.2 fun a=>by
    rw [hl.count,hk.count]
    by_cases q:a∈l
    · rw [if_pos q,if_pos ((h a).1 q)]
    · rw [if_neg q,if_neg (fun c=>q ((h a).2 c))]
theorem own_blockV {w:World} {base n g:Nat} {v:Value} {xs:List Value} (h:w.ownsRow base 83 2 v n xs) (hg:v.ownBlock=some g):∃ cs,w.heap[g]?=some (.cells cs 83 (0,0)):=by
  rcases h.2 with ⟨rfl,_⟩ | ⟨g',cap,cur,rfl,_,hb,_⟩
  · simp [Value.ownBlock] at hg
  · simp [Value.ownBlock] at hg
    subst hg
    exact ⟨cur,hb⟩
structure RSt (w wr:World) (m it:Nat) (D:DataW Value) (f:Sc) (left:Lit→Bool) (cnt:Nat) (v:Value) (K:Vs):Prop where
  ran:wr.ranges Tryz.prog 3 inR m it (Maps.size D) D left cnt
  bel:Below w.heap.size w wr
  lo:w.heap.size≤it
  own:wr.ownsRow w.heap.size 83 2 v K.length (vc K)
  mem:∀ p:Int×Int,p∈K↔f p.1=p.2∧p.2≠0∧left (key p.1)=false
  dup:K.Nodup
theorem RSt.ne {w wr:World} {m it:Nat} {D:DataW Value} {f:Sc} {left:Lit→Bool} {cnt:Nat} {v:Value} {K:Vs} (h:RSt w wr m it D f left cnt v K):some m≠v.ownBlock∧some it≠v.ownBlock:=by
  obtain ⟨es,clock,since,seen,c0,hb,F,hs,hD,hr,rest⟩:=h.ran
  refine ⟨fun e=>?_,fun e=>?_⟩
  · obtain ⟨cs,h1⟩:=own_blockV h.own e.symm
    rw [hb] at h1
    simp at h1
  · obtain ⟨cs,h1⟩:=own_blockV h.own e.symm
    rw [hr] at h1
    simp at h1
theorem RSt.alloc {w wr:World} {m it:Nat} {D:DataW Value} {f:Sc} {left:Lit→Bool} {cnt:Nat} {v:Value} {K:Vs} (h:RSt w wr m it D f left cnt v K) (O:Obj):RSt w (wr.alloc O) m it D f left cnt v K:=
  ⟨h.ran.alloc O,below_alloc h.bel O,h.lo,h.own.alloc O,h.mem,h.dup⟩
theorem RSt.next {w wr w1:World} {m it:Nat} {D:DataW Value} {f:Sc} {left left':Lit→Bool} {cnt cnt1:Nat} {v:Value} {K:Vs} (h:RSt w wr m it D f left cnt v K) (hr:w1.ranges Tryz.prog 3 inR m it (Maps.size D) D left' cnt1) (hg:wr.grownBy w1 (some it)) :
    Below w.heap.size w w1∧w1.ownsRow w.heap.size 83 2 v K.length (vc K):=by
  refine ⟨h.bel.grown hg h.bel.size (by have:=h.lo;intro k hk;simp at hk;omega),?_⟩
  refine ⟨h.own.1,?_⟩
  rcases h.own.2 with hl | ⟨g,cap,cur,e,hg1,hbl,rest⟩
  · exact .inl hl
  · refine .inr ⟨g,cap,cur,e,hg1,?_,rest⟩
    rw [hg.block g (lt_of_block hbl) (fun c=>h.ne.2 (by rw [← c,e];rfl))]
    exact hbl
theorem RSt.step {w wr w1 w2:World} {m it:Nat} {D:DataW Value} {f:Sc} {left:Lit→Bool} {cnt cnt1:Nat} {v v2:Value} {K:Vs} {x c:Int} (h:RSt w wr m it D f left cnt v K) (hr:w1.ranges Tryz.prog 3 inR m it (Maps.size D) D (fun z=>left z&&!z.sameKey (key x)) cnt1) (hg:wr.grownBy w1 (some it))
    (hl:left (key x)=true) (hf:f x=c) (hc:c≠0) (hown:(w2.ownsRow w.heap.size 83 2 v2 (K.length+1) (vc K++vc [(x,c)]))) (O:Obj) (hg2:(w1.alloc O).grownBy w2 v.ownBlock):RSt w w2 m it D f (fun z=>left z&&!z.sameKey (key x)) cnt1 v2 (K++[(x,c)]):=by
  obtain ⟨b1,o1⟩:=h.next hr hg
  have h1:RSt w w1 m it D f (fun z=>left z&&!z.sameKey (key x)) cnt1 v (K++[(x,c)])→True:=fun _=>trivial
  have ne:some m≠v.ownBlock∧some it≠v.ownBlock:=h.ne
  refine ⟨(hr.alloc O).kept hg2 ne.1 ne.2,?_,h.lo,?_,fun p=>?_,?_⟩
  · refine (below_alloc b1 O).grown hg2 (below_alloc b1 O).size (fun k hk=>?_)
    exact (o1.lt k hk).1
  · rw [List.length_append,vc_app];exact hown
  · rw [List.mem_append,h.mem,List.mem_singleton]
    by_cases q:p.1=x
    · have:p.1.toNat=p.1.toNat:=rfl
      rw [q]
      have hs:(key x).sameKey (key x)=true:=WideAt.sameKey_self (keyLit x)
      constructor
      · rintro (⟨_,_,h3⟩ | rfl)
        · rw [hl] at h3;cases h3
        · exact ⟨hf,hc,by simp [hs]⟩
      · rintro ⟨h3,_⟩
        exact .inr (Prod.ext q (by rw [← h3,hf]))
    · have hs:(key p.1).sameKey (key x)=false:=sameKey_ne (fun h=>q (key_inj h))
      constructor
      · rintro (⟨h1,h2,h3⟩ | rfl)
        · exact ⟨h1,h2,by simp [h3]⟩
        · exact absurd rfl q
      · rintro ⟨h1,h2,h3⟩
        simp only [hs,Bool.not_false,Bool.and_true] at h3
        exact .inl ⟨h1,h2,h3⟩
  · rw [List.nodup_append]
    refine ⟨h.dup,by simp,fun a ha b hb e=>?_⟩
    rw [List.mem_singleton.1 hb] at e
    have:=((h.mem a).1 ha).2.2
    rw [e] at this
    simp only at this
    rw [hl] at this
    cases this

theorem rank_make (cap:Nat) (hc:cap≤201) (w:World):(Instr.makeSlice 50 (.int .i64 0) (.int .i64 (cap:Int))).run Tryz.prog w=.ok (.slice (some ⟨w.heap.size,0,none⟩) 0 cap) (w.alloc (.cells (madeCells #[.int .i64 0,.int .i64 0] (cap*2)) 83)):=by
  obtain ⟨i0,hii,hz0,hz1,hz2⟩:=info_parts infoVO
  have:=run_make (P:=Tryz.prog) w 50 83 i0 _ Tryz.underlying50 hii hz0 .i64 .i64 0 (cap:Int) (by omega) (by omega) (by rw [hz2];omega) (by omega)
  rw [Int.toNat_natCast,hz1] at this
  exact this
theorem rank_row (cap:Nat) (hc:cap≤201) (w:World):(w.alloc (.cells (madeCells #[.int .i64 0,.int .i64 0] (cap*2)) 83)).ownsRow w.heap.size 83 2 (.slice (some ⟨w.heap.size,0,none⟩) 0 cap) 0 (vc []):=
  ⟨rfl,.inr ⟨w.heap.size,cap,_,rfl,Nat.le_refl _,heap_alloc_new w _,Nat.zero_le _,by unfold maxLen;omega,by simp [madeCells],by simp [vc]⟩⟩

set_option maxHeartbeats 1000000 in
set_option maxRecDepth 100000 in
theorem ranked_some (b m:Nat) (f:Sc) (D:DataW Value) (w:World) (hk:Ok f) (c2:w.cell? ⟨b,2,none⟩=some (.map (some m))) (hown:w.ownsMap Tryz.prog 3 inR m (Maps.size D) D) (hK:KM D (fun x=>f x≠0) f) :
    Calls Tryz.prog 145 #[.pointer (some ⟨b,0,none⟩)] w fun e w'=>∃ v,e=.returned v∧w'.ownsRow w.heap.size 83 2 v (rk f).length (vc (rk f))∧Below w.heap.size w w':=by
  obtain ⟨i0,hii,hz0,hz1,hz2⟩:=info_parts infoVO
  have hsz:Maps.size D=(lst f).length:=hK.size (hown.entries law3) hk
  have hle:=lst_len f
  have hmk:=rank_make (Maps.size D) (by omega) w
  have HR:=hidden (rank_row (Maps.size D) (by omega) w)
  have HO:=hidden hown
  have HK:=hidden hK
  have HKF:=hidden hk
  have hlt:=hown.lt
  have hcc:=fun O=>cell_alloc c2 O
  have HB0:Hid (Below w.heap.size w (w.alloc (.cells (madeCells #[.int .i64 0,.int .i64 0] (Maps.size D*2)) 83))):=(Below.refl _ _).alloc (Nat.le_refl _) _
  have HS0:=hidden hsz
  have HOA:=hidden (fun O=>hown.alloc O)
  clear hown hK hsz hk
  go_enter Tryz.func145,Tryz.ntmps145
  go_wp2_with (first
    | (at_len;refine wpList_len_own _ rfl _ 127 rfl 3 3 Tryz.underlying127 _ m (Maps.size D) D rfl HO.out ?_)
    | (at_range;refine wpList_range_own _ rfl _ 127 rfl 3 3 law3 Tryz.underlying127 _ m (Maps.size D) D rfl (HOA.out _) ?_;intro w0 hrg0 hg0 hs0))
  go_frame
  have esz:(w.alloc (.cells (madeCells #[.int .i64 0,.int .i64 0] (Maps.size D*2)) 83)).heap.size=w.heap.size+1:=by simp
  rw [esz] at hrg0 ⊢
  have HS1:Hid (RSt w w0 m (w.heap.size+1) D f (Maps.has D) (Maps.size D) (.slice (some ⟨w.heap.size,0,none⟩) 0 (Maps.size D)) []):=by
    refine ⟨hrg0,HB0.out.grown hg0 HB0.out.size (by simp),by omega,own_below HR.out ((Below.refl _ _).grown hg0 (Nat.le_refl _) (by simp)),fun p=>?_,by simp⟩
    constructor
    · intro h;simp at h
    · rintro ⟨h1,h2,h3⟩
      rw [(HK.out.keys (key p.1)).2 ⟨p.1,by rw [h1];exact h2,rfl⟩] at h3
      cases h3
  clear hrg0 hg0 hs0 HO HOA HB0 HR hmk hcc c2 esz
  go_loopw [3] (fun lo wr=>∃ (v:Value) (K:Vs) (left:Lit→Bool) (cnt:Nat),v=lo∧Hid (RSt w wr m (w.heap.size+1) D f left cnt v K)) (fun _ wr=>wr.rangeLeft m (w.heap.size+1))
  case atStart=>exact ⟨_,_,_,_,rfl,HS1⟩
  case round=>
    obtain ⟨v,K,left,cnt,rfl,HS⟩:=hrel
    clear HS1
    go_wp2_with (at_next;refine wpList_next_ranges _ rfl _ rfl 3 law3 inR (Value.int .i64) (Value.int .i64) (fun key kl hkey=>by obtain ⟨x,rfl,_⟩:=Maps.keyOf_int_inv Tryz.underlying3 hkey;exact ⟨x,rfl⟩) (fun v y hv=>by obtain ⟨⟨x,rfl⟩,_⟩:=inR_inv hv;exact ⟨x,rfl⟩) m (w.heap.size+1) (Maps.size D) D left cnt rfl HS.out.ran ?_ ?_)
    · intro _ hl0
      have hp:K.Perm (lst f):=nodup_perm HS.out.dup (rises_nodup (lst_rises f)) fun p=>by
        rw [HS.out.mem,mem_lst HKF.out]
        constructor
        · rintro ⟨h1,h2,_⟩;exact ⟨h1,h2⟩
        · rintro ⟨h1,h2⟩;exact ⟨h1,h2,hl0 _⟩
      have hkl:K.length=(rk f).length:=by rw [rk_len];exact hp.length_eq
      have C:=hidden (sortV_calls v w.heap.size K.length K wr HS.out.own (by rw [hp.length_eq];omega))
      have HP:=hidden (rk_of hp)
      have HL:=hidden hkl
      clear hp hkl hl0
      go_wp2_with fail
      refine C.out.mono ?_
      rintro e w1 ⟨rfl,h1,h2⟩
      rw [HP.out] at h1
      have H1:=hidden h1
      have HB:Hid (Below w.heap.size w w1):=HS.out.bel.grown h2 HS.out.bel.size (fun k hk=>(HS.out.own.lt k hk).1)
      clear h1 h2 C
      go_wp2_with fail
      go_ret
      exact ⟨v,rfl,by have:=H1.out;rw [HL.out] at this;exact this,HB.out⟩
    · intro x c kl yd yp w1 cnt1 hkey hlk hv hat hrg1 hlt1 hg1 hs1 hen
      obtain ⟨x',ex,rfl,hwx⟩:=Maps.keyOf_int_inv Tryz.underlying3 hkey
      cases ex
      obtain ⟨i,hi,ei⟩:=(HK.out.keys (key x)).1 (has_true_of_atKey hat)
      obtain rfl:=key_inj ei
      have ed:=(inR_inv hv).2
      simp only [Prod.mk.injEq] at ed
      have hfx:f x=c:=by
        have:=(HK.out.els x hi .nil).symm.trans ((hat .nil).trans ed.1)
        simpa using this
      have HST:=hidden (fun v2 w2 hown hg2=>HS.out.step (v2:=v2) (w2:=w2) hrg1 hg1 hlk hfx (by rw [← hfx];exact hi) hown (.cells #[.int .i64 x,.int .i64 c] 83) hg2)
      have HN:=hidden (VBox.new w1 (x,c)).news
      obtain ⟨b1,o1⟩:=HS.out.next hrg1 hg1
      have HO1:=hidden (o1.alloc (.cells #[.int .i64 x,.int .i64 c] 83))
      have hb1:=b1.size
      have hkl:K.length≤201:=by
        have h1:K.length≤(lst f).length:=List.Nodup.length_le_of_subset HS.out.dup fun p hp=>(mem_lst HKF.out p).2 ⟨((HS.out.mem p).1 hp).1,((HS.out.mem p).1 hp).2.1⟩
        omega
      have HLE:Hid (cnt1<cnt):=hlt1
      clear hrg1 hg1 hi ei ed hat hv b1 o1 hfx hlk hs1 hlt1
      go_wp2_with (at_builtin;refine wpList_append_own _ rfl _ _ 50 rfl w.heap.size 83 i0 _ 2 16 Tryz.underlying50 hii hz0 hz1 hz2 rfl (by decide) _ K.length (vc K) rfl HO1.out ⟨w1.heap.size,0,none⟩ 1 1 (vc [(x,c)]) rfl rfl ?news (vc_cell _) ?b1 ?b2 ?b3 ?next)
      case news=>first | exact HN.out | (intro j u h;exact h)
      case b1=>unfold maxLen;omega
      case b2=>omega
      case b3=>first | omega | (simp;omega)
      case next=>
        intro v2 w2 hown hgrow _
        have HS2:=hidden (HST.out v2 w2 hown hgrow)
        clear hown hgrow HST
        go_wp2_with fail
        go_roundw
        case rel=>exact ⟨v2,_,_,cnt1,rfl,HS2⟩
        case measure=>rw [HS2.out.ran.left_eq,HS.out.ran.left_eq];exact HLE.out
set_option maxHeartbeats 1000000 in
theorem ranked_none (b:Nat) (f:Sc) (w:World) (hk:Ok f) (c2:w.cell? ⟨b,2,none⟩=some (.map none)) (h0:∀ x,f x=0) :
    Calls Tryz.prog 145 #[.pointer (some ⟨b,0,none⟩)] w fun e w'=>∃ v,e=.returned v∧w'.ownsRow w.heap.size 83 2 v (rk f).length (vc (rk f))∧Below w.heap.size w w':=by
  have e0:rk f=[]:=rk_nil.2 ((lst_nil hk).2 h0)
  rw [e0]
  have hmk:(Instr.makeSlice 50 (.int .i64 0) (.int .i64 0)).run Tryz.prog w=.ok (.slice (some ⟨w.heap.size,0,none⟩) 0 0) (w.alloc (.cells (madeCells #[.int .i64 0,.int .i64 0] (0*2)) 83)):=rank_make 0 (by omega) w
  have hr:=rank_row 0 (by omega) w
  have hcc:=fun O=>cell_alloc c2 O
  obtain ⟨w1,hw1⟩:∃ w1,w.alloc (.cells (madeCells #[.int .i64 0,.int .i64 0] (0*2)) 83)=w1:=⟨_,rfl⟩
  have hc1:=hcc (.cells (madeCells #[.int .i64 0,.int .i64 0] (0*2)) 83)
  have HB:Hid (Below w.heap.size w w1):=by rw [← hw1];exact (Below.refl _ _).alloc (Nat.le_refl _) _
  rw [hw1] at hmk hr hc1
  have hrg:=run_range_nilMap (P:=Tryz.prog) w1 127 _ _ Tryz.underlying127
  have hnx:∀ ty,(Instr.next (.pointer (some ⟨w1.heap.size,0,none⟩)) false ty).run Tryz.prog (w1.alloc (.mapIter none 0 #[] 0))=_:=fun ty=>run_next_nilMap _ ty 0 0 #[]
  have HR:=hidden hr
  have C:=hidden (sortV_calls (.slice (some ⟨w.heap.size,0,none⟩) 0 0) w.heap.size 0 [] (w1.alloc (.mapIter none 0 #[] 0)) (hr.alloc _) (by omega))
  have HL:Hid (∀ k,(Value.slice (some ⟨w.heap.size,0,none⟩) 0 0).ownBlock=some k→w.heap.size≤k):=fun k hk=>(hr.lt k hk).1
  clear hw1 hcc h0 hk e0 hr
  go_enter Tryz.func145,Tryz.ntmps145
  go_wp2_with fail
  refine wp_loop_rounds 1 ?_
  rw [rounds_succ]
  go_wp2_with fail
  refine C.out.mono ?_
  rintro e w2 ⟨rfl,h1,h2⟩
  have H1:=hidden h1
  have H2:Hid (Below w.heap.size w w2):=(below_alloc HB.out (.mapIter none 0 #[] 0)).grown h2 (below_alloc HB.out _).size HL.out
  clear h1 h2 C
  go_wp2_with fail
  go_ret
  exact ⟨_,rfl,by have:=H1.out;simpa using this,H2.out⟩
theorem ranked_calls (b:Nat) (mo:Option Nat) (many sp:Int) (f:Sc) (w:World) (h:VAt w b mo many sp f) (hk:Ok f) :
    Calls Tryz.prog 145 #[.pointer (some ⟨b,0,none⟩)] w fun e w'=>∃ v,e=.returned v∧w'.ownsRow w.heap.size 83 2 v (rk f).length (vc (rk f))∧Below w.heap.size w w':=by
  rcases h.map with ⟨rfl,h0⟩ | ⟨m,D,rfl,h1,h2⟩
  · exact ranked_none b f w hk h.cells.2.2 h0
  · exact ranked_some b m f D w hk h.cells.2.2 h1 h2

theorem undVS:Tryz.prog.underlying 50=some (.slice (Tryz.prog.elem 50)):=by kernel_rfl
theorem elemVS:Tryz.prog.elem 50=83:=by kernel_rfl
theorem sizeVO (w:World):(Go.sizeOf 83).run Tryz.prog w=.ok 2 w:=Tryz.sizeOf83 w
def cutV (a:Option Addr) (cap l:Nat):Option Addr:=if cap=l then a else a.map (·.add (l*2))
theorem cutV_l (a:Option Addr) (len cap l:Nat) (hl:l≤len) (w:World) :
    (Instr.slice 50 (.slice a len cap) (some (.int .i64 (l:Int))) none none).run Tryz.prog w=.ok (.slice (cutV a cap l) (len - l) (cap - l)) w:=by
  rw [run_slice_l w 50 a len cap undVS .i64 l (by omega) (by omega),elemVS,sizeVO]
  simp [Result.andThen,sliced,cutV]
theorem cutV_h (a:Option Addr) (len cap h:Nat) (hh:h≤cap) (w:World) :
    (Instr.slice 50 (.slice a len cap) none (some (.int .i64 (h:Int))) none).run Tryz.prog w=.ok (.slice a h cap) w:=by
  rw [run_slice_h w 50 a len cap undVS .i64 h (by omega) (by omega),elemVS,sizeVO]
  simp [Result.andThen,sliced,Addr.add_zero']
theorem VArg.drop {w:World} {a:Option Addr} {n cap:Nat} {l:Vs} (h:VArg w a n l) (hc:n≤cap) {k:Nat} (hk:k≤n):VArg w (cutV a cap k) (n - k) (l.drop k):=by
  have hl:=h.2.1
  refine ⟨fun j hj=>?_,by rw [List.length_drop];omega,by have:=h.2.2;omega⟩
  rw [List.length_drop] at hj
  obtain ⟨b,o,e,h1,h2⟩:=h.1 (k+j) (by omega)
  subst e
  have e1:(l.drop k).getD j (0,0)=l.getD (k+j) (0,0):=by
    rw [List.getD_eq_getElem?_getD,List.getD_eq_getElem?_getD,List.getElem?_drop]
  rw [e1]
  refine ⟨b,o+k*2,?_,?_,?_⟩
  · unfold cutV
    rw [if_neg (by omega)]
    simp only [Option.map_some,Option.some.injEq]
    unfold Addr.add;split<;>simp_all
  · rw [show o+k*2+j*2=o+(k+j)*2 by omega];exact h1
  · rw [show o+k*2+j*2+1=o+(k+j)*2+1 by omega];exact h2

theorem VAt.drew {w:World} {b:Nat} {mo:Option Nat} {many sp:Int} {f:Sc} (h:VAt w b mo many sp f):VAt w.drew b mo many sp f:=⟨h.box,h.map⟩
set_option maxHeartbeats 1000000 in
theorem choose_calls (b m:Nat) (many sp:Int) (f:Sc) (w:World) (h:VAt w b (some m) many sp f) (hk:Ok f) (h0:-1≤sp) (h1:sp≤200) :
    Calls Tryz.prog 124 #[.pointer (some ⟨b,0,none⟩)] w fun e w'=>e=.returned (.tuple #[])∧VAt w' b (some m) many (spk f sp) f∧Only [b] w w':=by
  have HC:=hidden (ranked_calls b (some m) many sp f w h hk)
  have HV:=hidden h
  have HK:=hidden hk
  have hle:=lst_len f
  have hrl:=rk_len f
  clear h hk
  obtain ⟨r,hr⟩:∃ r,rk f=r:=⟨_,rfl⟩
  obtain ⟨s,hs⟩:∃ s,spk f sp=s:=⟨_,rfl⟩
  rw [hs]
  rw [hr] at HC hrl
  have HR:=hidden hr
  have HS:=hidden hs
  clear hr hs
  cases r with
  | nil=>
    have HE:Hid (s=-1):=by unfold Hid;rw [← HS.out];exact spk_nil HR.out
    clear hrl
    go_enter Tryz.func124,Tryz.ntmps124
    go_wp2_with fail
    refine HC.out.mono ?_
    rintro e w1 ⟨v,rfl,hv,hb⟩
    obtain ⟨a,cap,rfl,hA,_⟩:=own_vs hv (by simp)
    have HV1:=hidden (HV.out.below hb)
    have HB:=hidden hb
    have hf1:=HV1.out.free 1
    have hc1:=HV1.out.cells.2.1
    clear hv hb hA HC
    go_wp2_with fail
    refine bodyPost_ret (results_none rfl _ _ _) rfl ?_
    refine ⟨rfl,?_,(Only.of_below HB.out [b]).setCell (by simp) _⟩
    rw [HE.out]
    exact HV1.out.setS (-1)
  | cons p t=>
    have HE:Hid (s=if f sp=0∨p.2 > f sp+200 then p.1 else sp):=by unfold Hid;rw [← HS.out];exact spk_cons HR.out
    have hwf:=wf_of (y:=sp) (by omega) (by omega)
    have hp:=(rk_mem HK.out p).1 (by rw [HR.out];simp)
    have hb2:p.2≤16256:=by rw [← hp.1];exact HK.out.hi _
    have hb3:0≤p.2:=by rw [← hp.1];exact HK.out.lo _
    have hfs:=HK.out.hi sp
    have hfl:=HK.out.lo sp
    clear hp
    obtain ⟨x,y⟩:=p
    simp only at HE hb2 hb3
    go_enter Tryz.func124,Tryz.ntmps124
    go_wp2_with fail
    refine HC.out.mono ?_
    rintro e w1 ⟨v,rfl,hv,hb⟩
    obtain ⟨a,cap,rfl,hA,_⟩:=own_vs hv (by omega)
    obtain ⟨n,hn⟩:∃ n,((x,y)::t).length=n:=⟨_,rfl⟩
    have hn0:n≠0:=by rw [← hn];simp
    rw [hn] at hA hv ⊢
    obtain ⟨g,o,rfl,hgl,hcs⟩:=hA.at (by omega)
    have HV1:=hidden (HV.out.below hb)
    have HB:=hidden hb
    obtain ⟨k0,k1⟩:=hcs 0 (by omega)
    simp only [Nat.zero_mul,Nat.add_zero,List.getD_cons_zero] at k0 k1
    have hf1:=HV1.out.free 1
    obtain ⟨c0,c1,c2⟩:=HV1.out.cells
    have dn:((n:Int)==0)=false:=by simp;omega
    have hnp:(0:Int)<(n:Int):=by omega
    clear hn hn0 hrl hle
    rcases HV1.out.map with ⟨h3,_⟩ | ⟨m',D,h3,hown,hKM⟩
    · cases h3
    cases h3
    by_cases hz:f sp=0
    · have hlk:=look_out (w:=w1.drew) hown hKM hwf (by simp [hz])
      have HE2:Hid (s=x):=by unfold Hid;rw [HE.out,if_pos (.inl hz)]
      clear hv hb hA HC hown hKM hcs hz HE
      go_wp2_with fail
      go_region
      go_wp2_with fail
      go_end0
      refine ⟨rfl,?_,(Only.of_below HB.out [b]).setCell (by simp) _⟩
      rw [HE2.out]
      exact (HV1.out.setS x).drew
    · have hlk:=look_in (w:=w1.drew) hown hKM hwf hz
      by_cases hd:f sp+200<y
      · have HE2:Hid (s=x):=by unfold Hid;rw [HE.out,if_pos (.inr hd)]
        have d2:decide (f sp+200<y)=true:=by simpa using hd
        clear hv hb hA HC hown hKM hcs hz HE hd
        go_wp2_with fail
        go_region
        go_wp2_with fail
        go_end0
        refine ⟨rfl,?_,(Only.of_below HB.out [b]).setCell (by simp) _⟩
        rw [HE2.out]
        exact (HV1.out.setS x).drew
      · have HE2:Hid (s=sp):=by unfold Hid;rw [HE.out,if_neg];rintro (q | q);exact hz q;exact hd q
        have d2:decide (f sp+200<y)=false:=by simpa using hd
        clear hv hb hA HC hown hKM hcs hz HE hd
        go_wp2_with fail
        go_region
        go_wp2_with fail
        go_end0
        refine ⟨rfl,?_,Only.of_below HB.out [b]⟩
        rw [HE2.out]
        exact HV1.out.drew

def top (f:Sc) (many:Int):Vs:=(rk f).take many.toNat
def rest (f:Sc) (many:Int):List Int:=((rk f).drop many.toNat).map Prod.fst
def qt (f:Sc) (many:Int):List Int:=(rest f many).mergeSort fun x y=>decide (x≤y)
theorem top_len (f:Sc) (many:Int):(top f many).length=min many.toNat (rk f).length:=by unfold top;rw [List.length_take]
theorem rest_len (f:Sc) (many:Int):(rest f many).length=(rk f).length - many.toNat:=by unfold rest;rw [List.length_map,List.length_drop]
theorem qt_len (f:Sc) (many:Int):(qt f many).length=(rk f).length - many.toNat:=by unfold qt;rw [List.length_mergeSort,rest_len]
structure QSt (w wr:World) (v:Value) (K:List Int):Prop where
  bel:Below w.heap.size w wr
  own:wr.ownsRow w.heap.size 3 1 v K.length (ic K)
theorem QSt.alloc {w wr:World} {v:Value} {K:List Int} (h:QSt w wr v K) (O:Obj):QSt w (wr.alloc O) v K:=⟨below_alloc h.bel O,h.own.alloc O⟩
theorem QSt.more {w wr w2:World} {v v2:Value} {K:List Int} {x:Int} (h:QSt w wr v K) (hown:w2.ownsRow w.heap.size 3 1 v2 (K.length+1) (ic K++[.int .i64 x])) (hg:wr.grownBy w2 v.ownBlock):QSt w w2 v2 (K++[x]):=by
  refine ⟨h.bel.grown hg h.bel.size (fun k hk=>(h.own.lt k hk).1),?_⟩
  rw [List.length_append,ic_app]
  exact hown
theorem one_news (w:World) (c:Value) (T:TypeId):∀ j u,[c][j]?=some u→(w.alloc (.cells #[c] T)).cell? ((⟨w.heap.size,0,none⟩:Addr).add j)=some u:=by
  intro j u hu
  rw [Addr.add_lit,World.cell?_alloc_mark,Nat.zero_add,← hu]
  exact List.getElem?_toArray
end Go.Proofs.YtlppdppddiecnaaGreatDoor.Voice
namespace Go.Proofs.YtlppdppddiecnaaGreatDoor.Voice
open Go.ChangeShapes Go.WideShapes Go.ChangeAt Go.RowKit Go.Maps Go.Shelf Go.Proofs.YtlppdppddiecnaaGreatDoor.Mem Go.Proofs.YtlppdppddiecnaaGreatDoor.VO
set_option linter.unusedVariables false

structure HSt (w wr:World) (m it m1:Nat) (D:DataW Value) (f:Sc) (l:Vs) (left:Lit→Bool) (cnt:Nat):Prop where
  ran:wr.ranges Tryz.prog 3 inR m it (Maps.size D) D left cnt
  bel:Below w.heap.size w wr
  lo1:w.heap.size≤m1
  lo2:w.heap.size≤it
  ml:m<w.heap.size
  map:∃ D1,wr.ownsMap Tryz.prog 3 inR m1 (Maps.size D1) D1∧KM D1 (fun x=>(∃ p∈l,p.1=x)∨(f x≠0∧left (key x)=false)) (fun x=>16*lev l x+if f x≠0∧left (key x)=false then dec (f x) else 0)
theorem HSt.ne {w wr:World} {m it m1:Nat} {D:DataW Value} {f:Sc} {l:Vs} {left:Lit→Bool} {cnt:Nat} (h:HSt w wr m it m1 D f l left cnt):m1≠it:=by
  obtain ⟨es,clock,since,seen,c0,hb,F,hs,hD,hr,rest⟩:=h.ran
  obtain ⟨D1,h1,_⟩:=h.map
  obtain ⟨es',c',h4⟩:=map_block h1
  intro e
  rw [e,hr] at h4
  simp at h4
theorem own_grown {w w1:World} {j:Option Nat} {m n:Nat} {D:DataW Value} (h:w.ownsMap Tryz.prog 3 inR m n D) (hg:w.grownBy w1 j) (hj:some m≠j):w1.ownsMap Tryz.prog 3 inR m n D:=by
  obtain ⟨es,clock,h4,h5⟩:=h
  exact ⟨es,clock,(hg.block m (lt_of_block h4) hj).trans h4,h5⟩
theorem HSt.start {w w1 w2:World} {m it n:Nat} {D:DataW Value} {f:Sc} {l:Vs} (hG:GSt w w1 w.heap.size n l) (hn:n=l.length) (hm:m<w.heap.size) (hK:KM D (fun x=>f x≠0) f) (hit:it=w1.heap.size) (hg:w1.grownBy w2 none) (hr:w2.ranges Tryz.prog 3 inR m it (Maps.size D) D (Maps.has D) (Maps.size D)):HSt w w2 m it w.heap.size D f l (Maps.has D) (Maps.size D):=by
  obtain ⟨D1,h1,h2⟩:=hG.map
  have hs:=hG.bel.size
  subst hn
  rw [List.take_length] at h2
  refine ⟨hr,hG.bel.grown hg hs (by simp),Nat.le_refl _,by omega,hm,⟨D1,own_grown h1 hg (by simp),?_⟩⟩
  have hno:∀ x,¬ (f x≠0∧Maps.has D (key x)=false):=by
    rintro x ⟨q1,q2⟩
    rw [(hK.keys (key x)).2 ⟨x,q1,rfl⟩] at q2
    cases q2
  refine h2.ext (fun x=>?_) (fun x hx=>?_)
  · constructor
    · exact .inl
    · rintro (h | h)
      · exact h
      · exact absurd h (hno x)
  · rw [if_neg (hno x)];omega
theorem HSt.step {w wr w1:World} {m it m1 cnt cnt1:Nat} {D:DataW Value} {f:Sc} {l:Vs} {left:Lit→Bool} {x c:Int} (h:HSt w wr m it m1 D f l left cnt) (hl:Oks l) (hf:Ok f) (hr:w1.ranges Tryz.prog 3 inR m it (Maps.size D) D (fun z=>left z&&!z.sameKey (key x)) cnt1) (hg:wr.grownBy w1 (some it))
    (hx:left (key x)=true) (hc:f x=c) (hz:c≠0) :
    (Instr.lookup 127 (.map (some m1)) (.int .i64 x) false).run Tryz.prog w1=.ok (.int .i64 (16*lev l x)) w1∧∃ w2,(Instr.mapUpdate 127 (.map (some m1)) (.int .i64 x) (.int .i64 (16*lev l x+dec c))).run Tryz.prog w1=.ok () w2∧HSt w w2 m it m1 D f l (fun z=>left z&&!z.sameKey (key x)) cnt1:=by
  have hne:=h.ne
  obtain ⟨D1,h1,h2⟩:=h.map
  have hb:=hf.who x (by rw [hc];exact hz)
  have hw:=wf_of (y:=x) (by omega) (by omega)
  have h1':=own_grown h1 hg (by simpa using hne)
  have hv:16*lev l x+(if f x≠0∧left (key x)=false then dec (f x) else 0)=16*lev l x:=by
    rw [if_neg (by rw [hx];simp)];omega
  refine ⟨?_,?_⟩
  · have:=look_any h1' h2 hw (fun hn=>by
      rw [hv,lev_out l x (fun p hp e=>hn (.inl ⟨p,hp,e⟩))];rfl)
    rw [hv] at this
    exact this
  obtain ⟨w2,D2,hrun,g1,g2,g3⟩:=store_in h1' h2 (fun y hy=>by
    rcases hy with ⟨p,hp,rfl⟩ | hy
    · have:=(okv_iff p).1 (hl.1 p hp);omega
    · exact hf.who y hy.1) hw (16*lev l x+dec c)
  have hlo1:=h.lo1
  have hlo2:=h.lo2
  have hml:=h.ml
  have hb1:Below w.heap.size w w1:=h.bel.grown hg h.bel.size (by intro k hk;simp at hk;omega)
  refine ⟨w2,hrun,⟨hr.kept g3 (by simp;omega) (by simpa using fun e=>hne e.symm),hb1.grown g3 hb1.size (by intro k hk;simp at hk;omega),hlo1,hlo2,hml,⟨D2,g1,?_⟩⟩⟩
  have hs:(key x).sameKey (key x)=true:=WideAt.sameKey_self (keyLit x)
  refine g2.ext (fun z=>?_) (fun z hz'=>?_)
  · by_cases q:z=x
    · subst q
      constructor
      · intro _;exact .inr ⟨by rw [hc];exact hz,by simp [hs]⟩
      · intro _;exact .inr rfl
    · have hsz:(key z).sameKey (key x)=false:=sameKey_ne (fun h=>q (key_inj h))
      simp only [hsz,Bool.not_false,Bool.and_true,q,or_false]
  · by_cases q:z=x
    · subst q
      rw [if_pos rfl,if_pos ⟨by rw [hc];exact hz,by simp [hs]⟩,hc]
    · have hsz:(key z).sameKey (key x)=false:=sameKey_ne (fun h=>q (key_inj h))
      rw [if_neg q]
      simp only [hsz,Bool.not_false,Bool.and_true]
theorem HSt.done {w wr:World} {m it m1 cnt:Nat} {D:DataW Value} {f:Sc} {l:Vs} {left:Lit→Bool} (h:HSt w wr m it m1 D f l left cnt) (h0:∀ k,left k=false):∃ D1,wr.ownsMap Tryz.prog 3 inR m1 (Maps.size D1) D1∧KM D1 (fun x=>(∃ p∈l,p.1=x)∨f x≠0) (nx f l):=by
  obtain ⟨D1,h1,h2⟩:=h.map
  refine ⟨D1,h1,h2.ext (fun x=>?_) (fun x hx=>?_)⟩
  · simp [h0]
  · unfold nx
    by_cases q:f x=0
    · rw [if_neg (by simp [q]),q,dec_zero];omega
    · rw [if_pos ⟨q,h0 _⟩];omega
theorem GSt.done {w wr:World} {m n:Nat} {f:Sc} {l:Vs} (h:GSt w wr m n l) (hn:n=l.length) (h0:∀ x,f x=0):∃ D1,wr.ownsMap Tryz.prog 3 inR m (Maps.size D1) D1∧KM D1 (fun x=>(∃ p∈l,p.1=x)∨f x≠0) (nx f l):=by
  obtain ⟨D1,h1,h2⟩:=h.map
  subst hn
  rw [List.take_length] at h2
  refine ⟨D1,h1,h2.ext (fun x=>?_) (fun x hx=>?_)⟩
  · simp [h0]
  · unfold nx
    rw [h0,dec_zero];omega
theorem cl1_calls (k:Value) (v:Int) (w:World):Calls Tryz.prog 123 (#[k,.int .i64 v]++#[]) w fun e w'=>e=.returned (.bool (v==0))∧w'=w:=by
  go_enter Tryz.func123,Tryz.ntmps123
  go_wp2_with fail
  go_ret
  exact ⟨rfl,rfl⟩
theorem enters_cl1:∀ args w,(callFunc 123 args).run Tryz.prog w=.ok (.enter 123 args) w:=enters_of Tryz.func123 (by kernel_rfl) rfl
theorem del_calls (m:Nat) (D:DataW Value) (f:Sc) (l:Vs) (w:World) (hown:w.ownsMap Tryz.prog 3 inR m (Maps.size D) D) (hK:KM D (fun x=>(∃ p∈l,p.1=x)∨f x≠0) (nx f l)) :
    Calls Tryz.prog 122 #[.map (some m),.func (.func 123) #[] #[]] w fun e w'=>e=.returned (.tuple #[])∧(∃ D2,w'.ownsMap Tryz.prog 3 inR m (Maps.size D2) D2∧KM D2 (fun x=>nx f l x≠0) (nx f l))∧w.grownBy w' (some m):=by
  refine (AnyDf.maps_DeleteFunc Tryz.delA law3 inR zeroD 123 #[] m (Maps.size D) D w enters_cl1 hown (fun W ky val kl yd yp _ _ hv=>?_)).mono ?_
  · obtain ⟨⟨c,rfl⟩,hy⟩:=inR_inv hv
    simp only [Prod.mk.injEq] at hy
    rw [hy.1]
    exact (cl1_calls ky c W).mono fun _ _ ⟨he,hw⟩=>⟨he,hw ▸ World.grownBy.refl _ _⟩
  · rintro e w' ⟨rfl,h1,h2⟩
    refine ⟨rfl,⟨_,tight h1,(hK.strike (hown.entries law3)).ext (fun x=>?_) (fun _ _=>rfl)⟩,h2⟩
    constructor
    · exact fun h=>h.2
    · intro h
      refine ⟨?_,h⟩
      by_cases q:f x=0
      · by_cases r:lev l x=0
        · exact absurd (by unfold nx;rw [q,r,dec_zero];rfl) h
        · exact .inl (lev_pos r)
      · exact .inr q

theorem hear_long (b n cap:Nat) (a:Option Addr) (w:World) (hn:200<n) (hm:n≤9223372036854775807) :
    Calls Tryz.prog 92 #[.pointer (some ⟨b,0,none⟩),.slice a n cap] w fun e w'=>e=.returned (errv 4)∧w'=w:=by
  have d:decide (200<(n:Int))=true:=by simp;omega
  go_enter Tryz.func92,Tryz.ntmps92
  go_wp2_with fail
  go_ret
  exact ⟨rfl,rfl⟩
set_option maxHeartbeats 1000000 in
theorem hear_bad (b n cap:Nat) (a:Option Addr) (l:Vs) (w:World) (hA:VArg w a n l) (hn:n≤200) (hv:vf l≠0) :
    Calls Tryz.prog 92 #[.pointer (some ⟨b,0,none⟩),.slice a n cap] w fun e w'=>e=.returned (errv (vf l))∧Below w.heap.size w w':=by
  have HC:=hidden (gains_calls a n cap l w hA)
  have d:decide (200<(n:Int))=false:=by simp;omega
  obtain ⟨f,hf⟩:∃ f,vf l=f:=⟨_,rfl⟩
  rw [hf] at HC hv ⊢
  have hcm:=fun w=>cmp_ne f w
  have hgr:=fun w=>grd_ne f (.tmp 18) w
  have df:decide (f=0)=false:=by simpa using hv
  clear hf hA
  go_enter Tryz.func92,Tryz.ntmps92
  go_wp2_with fail
  refine HC.out.mono ?_
  rintro e w1 (⟨h0,_⟩ | ⟨_,rfl,hb⟩)
  · exact absurd h0 hv
  have HB:=hidden hb
  clear hb HC hv
  go_wp2_with fail
  go_ret
  exact ⟨rfl,HB.out⟩
set_option maxHeartbeats 2000000 in
set_option maxRecDepth 100000 in
theorem hear_some (b n cap:Nat) (m:Nat) (a:Option Addr) (many sp:Int) (f:Sc) (l:Vs) (w:World) (hV:VAt w b (some m) many sp f) (hI:Inv f sp) (hA:VArg w a n l) (hn:n≤200) (hv:vf l=0) :
    Calls Tryz.prog 92 #[.pointer (some ⟨b,0,none⟩),.slice a n cap] w fun e w'=>(200<(lst (nx f l)).length∧e=.returned (errv 4)∧Below w.heap.size w w')∨((lst (nx f l)).length≤200∧e=.returned .nilIface∧VAt w' b (some w.heap.size) many (spk (nx f l) sp) (nx f l)∧Only [b] w w'):=by
  have HC:=hidden (gains_calls a n cap l w hA)
  have d:decide (200<(n:Int))=false:=by simp;omega
  have hl:=hA.2.1
  have HOl:=hidden ((vf_ok l).1 hv)
  have HV:=hidden hV
  have HI:=hidden hI
  have hbl:=hV.lt
  have hs0:-1≤sp∧sp≤200:=by rcases hI.sp with ⟨_,h⟩ | ⟨h1,h2,_⟩<;>omega
  have HN:=hidden (ok_nx hI.ok HOl.out)
  have hv':=hv
  have hcc:=hV.cells.2.2
  obtain ⟨q,hq⟩:∃ q,(lst (nx f l)).length=q:=⟨_,rfl⟩
  rw [hq]
  have HQ:=hidden hq
  clear hA hV hI hq
  rcases HV.out.map with ⟨h3,_⟩ | ⟨m',D,h3,hown,hKM⟩
  · cases h3
  cases h3
  have HO:=hidden hown
  have HK:=hidden hKM
  have hml:=hown.lt
  clear hown hKM
  go_enter Tryz.func92,Tryz.ntmps92
  go_wp2_with fail
  refine HC.out.mono ?_
  rintro e w1 (⟨_,rfl,hG⟩ | ⟨h0,_⟩)
  rotate_left
  · exact absurd hv' h0
  have HG:=hidden hG
  have hcc1:=(HV.out.below hG.bel).cells.2.2
  have HO1:=hidden (map_only HO.out (Only.of_below hG.bel []) (by simp))
  have hs1:=hG.bel.size
  clear hG HC hcc
  go_wp2_with (at_range;refine wpList_range_own _ rfl _ 127 rfl 3 3 law3 Tryz.underlying127 _ m (Maps.size D) D rfl HO1.out ?_;intro w0 hrg0 hg0 hs0')
  go_frame
  have HS1:=hidden (HSt.start HG.out hl.symm hml HK.out rfl hg0 hrg0)
  obtain ⟨it,hit⟩:∃ it,w1.heap.size=it:=⟨_,rfl⟩
  rw [hit] at HS1 ⊢
  clear hrg0 hg0 hs0' HO1 hcc1 HG hit hs1
  go_loopw [] (fun wr=>∃ (left:Lit→Bool) (cnt:Nat),Hid (HSt w wr m it w.heap.size D f l left cnt)) (fun wr=>wr.rangeLeft m it)
  case atStart=>exact ⟨_,_,HS1⟩
  case round=>
    obtain ⟨left,cnt,HS⟩:=hrel
    clear HS1
    go_wp2_with (at_next;refine wpList_next_ranges _ rfl _ rfl 3 law3 inR (Value.int .i64) (Value.int .i64) (fun key kl hkey=>by obtain ⟨x,rfl,_⟩:=Maps.keyOf_int_inv Tryz.underlying3 hkey;exact ⟨x,rfl⟩) (fun v y hv=>by obtain ⟨⟨x,rfl⟩,_⟩:=inR_inv hv;exact ⟨x,rfl⟩) m it (Maps.size D) D left cnt rfl HS.out.ran ?_ ?_)
    · intro _ hl0
      obtain ⟨D1,hown1,hK1⟩:=HS.out.done hl0
      have HDel:=hidden (del_calls w.heap.size D1 f l wr hown1 hK1)
      have HBR:Hid (Below w.heap.size w wr):=HS.out.bel
      clear hown1 hK1 hl0
      go_wp2_with fail
      refine HDel.out.mono ?_
      rintro e w3 ⟨rfl,⟨D2,hown2,hK2⟩,hg3⟩
      have hb3:Below w.heap.size w w3:=HBR.out.grown hg3 HBR.out.size (by intro k hk;simp at hk;omega)
      have HB3:=hidden hb3
      have HO2:=hidden hown2
      have HK2:=hidden hK2
      have HSZ:=hidden (hK2.size (hown2.entries law3) HN.out)
      have HV3:=hidden (HV.out.below hb3)
      clear hown2 hK2 hg3 HDel hb3
      rw [HQ.out] at HSZ
      by_cases hq2:200<q
      · have d2:decide (200<(q:Int))=true:=by simp;omega
        go_wp2_with (at_len;refine wpList_len_own _ rfl _ 127 rfl 3 3 Tryz.underlying127 _ w.heap.size (Maps.size D2) D2 rfl HO2.out ?_;rw [HSZ.out])
        go_ret
        exact .inl ⟨hq2,rfl,HB3.out⟩
      · have d2:decide (200<(q:Int))=false:=by simp;omega
        have hf2:=HV3.out.free 2
        have hc2:=HV3.out.cells.2.2
        have HV4:=hidden (HV3.out.setM HO2.out HK2.out)
        have HC5:=hidden (choose_calls b w.heap.size many sp (nx f l) _ HV4.out HN.out hs0.1 hs0.2)
        have HOn:Hid (Only [b] w (w3.setCell ⟨b,2,none⟩ (.map (some w.heap.size)))):=(Only.of_below HB3.out [b]).setCell (by simp) _
        clear hbl
        go_wp2_with (at_len;refine wpList_len_own _ rfl _ 127 rfl 3 3 Tryz.underlying127 _ w.heap.size (Maps.size D2) D2 rfl HO2.out ?_;rw [HSZ.out])
        refine HC5.out.mono ?_
        rintro e w5 ⟨rfl,h5,h6⟩
        have H5:=hidden h5
        have H6:=hidden h6
        clear h5 h6 HC5
        go_wp2_with fail
        go_ret
        exact .inr ⟨by omega,rfl,H5.out,HOn.out.trans H6.out⟩
    · intro x c kl yd yp w2 cnt1 hkey hlk hv2 hat hrg1 hlt1 hg1 hs1 hen
      obtain ⟨x',ex,rfl,hwx⟩:=Maps.keyOf_int_inv Tryz.underlying3 hkey
      cases ex
      obtain ⟨i,hi,ei⟩:=(HK.out.keys (key x)).1 (has_true_of_atKey hat)
      obtain rfl:=key_inj ei
      have ed:=(inR_inv hv2).2
      simp only [Prod.mk.injEq] at ed
      have hfx:f x=c:=by
        have:=(HK.out.els x hi .nil).symm.trans ((hat .nil).trans ed.1)
        simpa using this
      have hz:c≠0:=by rw [← hfx];exact hi
      obtain ⟨hlook,w4,hrun,hS4⟩:=HS.out.step HOl.out HI.out.ok hrg1 hg1 hlk hfx hz
      have HS4:=hidden hS4
      have hc0:0≤c:=by rw [← hfx];exact HI.out.ok.lo x
      have hc1:c≤16256:=by rw [← hfx];exact HI.out.ok.hi x
      obtain ⟨u0,u1,_⟩:=lev_bound HOl.out x
      have HLE:Hid (cnt1<cnt):=hlt1
      clear hS4 hrg1 hg1 hi ei ed hat hv2 hfx hlk hs1 hlt1 hz
      generalize lev l x=u at *
      unfold dec at hrun
      go_wp2_with fail
      go_roundw
      case rel=>exact ⟨_,cnt1,HS4⟩
      case measure=>rw [HS4.out.ran.left_eq,HS.out.ran.left_eq];exact HLE.out
set_option maxHeartbeats 2000000 in
set_option maxRecDepth 100000 in
theorem hear_none (b n cap:Nat) (a:Option Addr) (many sp:Int) (f:Sc) (l:Vs) (w:World) (hV:VAt w b none many sp f) (hI:Inv f sp) (hA:VArg w a n l) (hn:n≤200) (hv:vf l=0) :
    Calls Tryz.prog 92 #[.pointer (some ⟨b,0,none⟩),.slice a n cap] w fun e w'=>(200<(lst (nx f l)).length∧e=.returned (errv 4)∧Below w.heap.size w w')∨((lst (nx f l)).length≤200∧e=.returned .nilIface∧VAt w' b (some w.heap.size) many (spk (nx f l) sp) (nx f l)∧Only [b] w w'):=by
  have HC:=hidden (gains_calls a n cap l w hA)
  have d:decide (200<(n:Int))=false:=by simp;omega
  have hl:=hA.2.1
  have HOl:=hidden ((vf_ok l).1 hv)
  have HV:=hidden hV
  have HI:=hidden hI
  have hbl:=hV.lt
  have hs0:-1≤sp∧sp≤200:=by rcases hI.sp with ⟨_,h⟩ | ⟨h1,h2,_⟩<;>omega
  have HN:=hidden (ok_nx hI.ok HOl.out)
  have hv':=hv
  have hcc:=hV.cells.2.2
  obtain ⟨q,hq⟩:∃ q,(lst (nx f l)).length=q:=⟨_,rfl⟩
  rw [hq]
  have HQ:=hidden hq
  clear hA hV hI hq
  have h0x:∀ x,f x=0:=by
    rcases HV.out.map with ⟨_,h3⟩ | ⟨m',D,h3,_⟩
    · exact h3
    · cases h3
  have H0:=hidden h0x
  clear h0x
  go_enter Tryz.func92,Tryz.ntmps92
  go_wp2_with fail
  refine HC.out.mono ?_
  rintro e w1 (⟨_,rfl,hG⟩ | ⟨h0,_⟩)
  rotate_left
  · exact absurd hv' h0
  have HG:=hidden hG
  have hcc1:=(HV.out.below hG.bel).cells.2.2
  have hrg:=run_range_nilMap (P:=Tryz.prog) w1 127 _ _ Tryz.underlying127
  have hnx:∀ ty,(Instr.next (.pointer (some ⟨w1.heap.size,0,none⟩)) false ty).run Tryz.prog (w1.alloc (.mapIter none 0 #[] 0))=_:=fun ty=>run_next_nilMap _ ty 0 0 #[]
  have HW1:=hidden (hG.alloc (.mapIter none 0 #[] 0))
  obtain ⟨D1,hown1,hK1⟩:=HW1.out.done (f:=f) hl.symm H0.out
  have HDel:=hidden (del_calls w.heap.size D1 f l (w1.alloc (.mapIter none 0 #[] 0)) hown1 hK1)
  have HBR:Hid (Below w.heap.size w (w1.alloc (.mapIter none 0 #[] 0))):=HW1.out.bel
  clear hown1 hK1 hG HC hcc
  go_wp2_with fail
  refine wp_loop_rounds 1 ?_
  rw [rounds_succ]
  go_wp2_with fail
  refine HDel.out.mono ?_
  rintro e w3 ⟨rfl,⟨D2,hown2,hK2⟩,hg3⟩
  have hb3:Below w.heap.size w w3:=HBR.out.grown hg3 HBR.out.size (by intro k hk;simp at hk;omega)
  have HB3:=hidden hb3
  have HO2:=hidden hown2
  have HK2:=hidden hK2
  have HSZ:=hidden (hK2.size (hown2.entries law3) HN.out)
  have HV3:=hidden (HV.out.below hb3)
  clear hown2 hK2 hg3 HDel hb3
  rw [HQ.out] at HSZ
  by_cases hq2:200<q
  · have d2:decide (200<(q:Int))=true:=by simp;omega
    go_wp2_with (at_len;refine wpList_len_own _ rfl _ 127 rfl 3 3 Tryz.underlying127 _ w.heap.size (Maps.size D2) D2 rfl HO2.out ?_;rw [HSZ.out])
    go_ret
    exact .inl ⟨hq2,rfl,HB3.out⟩
  · have d2:decide (200<(q:Int))=false:=by simp;omega
    have hf2:=HV3.out.free 2
    have hc2:=HV3.out.cells.2.2
    have HV4:=hidden (HV3.out.setM HO2.out HK2.out)
    have HC5:=hidden (choose_calls b w.heap.size many sp (nx f l) _ HV4.out HN.out hs0.1 hs0.2)
    have HOn:Hid (Only [b] w (w3.setCell ⟨b,2,none⟩ (.map (some w.heap.size)))):=(Only.of_below HB3.out [b]).setCell (by simp) _
    clear hbl
    go_wp2_with (at_len;refine wpList_len_own _ rfl _ 127 rfl 3 3 Tryz.underlying127 _ w.heap.size (Maps.size D2) D2 rfl HO2.out ?_;rw [HSZ.out])
    refine HC5.out.mono ?_
    rintro e w5 ⟨rfl,h5,h6⟩
    have H5:=hidden h5
    have H6:=hidden h6
    clear h5 h6 HC5
    go_wp2_with fail
    go_ret
    exact .inr ⟨by omega,rfl,H5.out,HOn.out.trans H6.out⟩

theorem hear_calls (b n cap:Nat) (mo:Option Nat) (a:Option Addr) (many sp:Int) (f:Sc) (l:Vs) (w:World) (hV:VAt w b mo many sp f) (hI:Inv f sp) (hA:VArg w a n l) :
    Calls Tryz.prog 92 #[.pointer (some ⟨b,0,none⟩),.slice a n cap] w fun e w'=>e=.returned (errv (hf f l))∧∃ mo',VAt w' b mo' many (stS f sp l) (stF f l)∧Only [b] w w'∧(mo'=mo∨∃ m,mo'=some m∧w.heap.size≤m):=by
  have hl:=hA.2.1
  by_cases hn:200<n
  · have e:hf f l=4:=by unfold hf;rw [if_pos (by omega)]
    refine (hear_long b n cap a w hn hA.2.2).mono ?_
    rintro x w' ⟨rfl,rfl⟩
    unfold stS stF
    rw [e,if_neg (by decide),if_neg (by decide)]
    exact ⟨rfl,mo,hV,Only.refl _ _,.inl rfl⟩
  · by_cases hv:vf l=0
    · have key:Calls Tryz.prog 92 #[.pointer (some ⟨b,0,none⟩),.slice a n cap] w fun e w'=>(200<(lst (nx f l)).length∧e=.returned (errv 4)∧Below w.heap.size w w')∨((lst (nx f l)).length≤200∧e=.returned .nilIface∧VAt w' b (some w.heap.size) many (spk (nx f l) sp) (nx f l)∧Only [b] w w'):=by
        cases mo with
        | none=>exact hear_none b n cap a many sp f l w hV hI hA (by omega) hv
        | some m=>exact hear_some b n cap m a many sp f l w hV hI hA (by omega) hv
      refine key.mono ?_
      rintro x w' (⟨h1,rfl,h2⟩ | ⟨h1,rfl,h2,h3⟩)
      · have e:hf f l=4:=by unfold hf;rw [if_neg (by omega),if_neg (by simp [hv]),if_pos h1]
        unfold stS stF
        rw [e,if_neg (by decide),if_neg (by decide)]
        exact ⟨rfl,mo,hV.below h2,Only.of_below h2 _,.inl rfl⟩
      · have e:hf f l=0:=hf_zero.2 ⟨by omega,(vf_ok l).1 hv,h1⟩
        unfold stS stF
        rw [e,if_pos rfl,if_pos rfl]
        exact ⟨rfl,_,h2,h3,.inr ⟨_,rfl,Nat.le_refl _⟩⟩
    · have e:hf f l=vf l:=by unfold hf;rw [if_neg (by omega),if_pos hv]
      refine (hear_bad b n cap a l w hA (by omega) hv).mono ?_
      rintro x w' ⟨rfl,h2⟩
      unfold stS stF
      rw [e,if_neg hv,if_neg hv]
      exact ⟨rfl,mo,hV.below h2,Only.of_below h2 _,.inl rfl⟩
end Go.Proofs.YtlppdppddiecnaaGreatDoor.Voice
