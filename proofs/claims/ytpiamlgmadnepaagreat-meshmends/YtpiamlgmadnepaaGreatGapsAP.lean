/-
 What New and the small methods of package gaps return, and what they leave in memory. Their condition: what is lacking is such as it may be.
-/
import Derived.Test.YtpiamlgmadnepaaGreatGapsIP
import Derived.Maps.RangeWalk
import Derived.Shelf.AbstractIn
import Derived.Outline
open Go.Proofs.Tryz
set_option linter.unusedVariables false
set_option maxHeartbeats 1000000
namespace Go.Proofs.YtpiamlgmadnepaaGreat.Gaps
open Go.ChangeShapes Go.WideShapes Go.ChangeAt Go.RowKit Go.Maps Go.Sort Go.Shelf Mem GM
theorem law3:Keyed prog 3:=int_keyed underlying3
theorem keyOf3 {y:Int} (h:(Lit.int .i64 y).wf=true):keyOf prog 3 (.int .i64 y)=some (key y):=keyOf_int_mk underlying3 h
theorem zeroAK (w:World):(zeroValue 139).run prog w=.ok (.agg #[.int .i64 0,.int .i64 0]) w:=by kernel_rfl
structure ξ7 (w:World) (b mb:Nat) (ag tr nw T:Int) (M:Its) (gv:Value) (G:List Int):Prop where
 box:w.heap[b]?=some (.cells #[.int .i64 nw,.int .i64 ag,.int .i64 tr,.int .i64 T,.map (some mb),gv] 123 (0,0))
 map:∃ D,w.ownsMap prog 3 akR mb M.length D/\Keys D M/\Elems D M
 row:w.ownsRow 0 3 1 gv G.length (ic G)
theorem cells6 {w:World} {b:Nat} {v0 v1 v2 v3 v4 v5:Value} {t:TypeId} (h:w.heap[b]?=some (.cells #[v0,v1,v2,v3,v4,v5] t (0,0))) :
 w.cell? ⟨b,0,none⟩=some v0/\w.cell? ⟨b,1,none⟩=some v1/\w.cell? ⟨b,2,none⟩=some v2/\w.cell? ⟨b,3,none⟩=some v3/\w.cell? ⟨b,4,none⟩=some v4/\w.cell? ⟨b,5,none⟩=some v5:=by
 refine ⟨?_,?_,?_,?_,?_,?_⟩<;>simp [World.cell?,h]
theorem setb {w:World} {b:Nat} {cs:Array Value} {t:TypeId} (h:w.heap[b]?=some (.cells cs t (0,0))) (j:Nat) (u:Value) :
 (w.setCell ⟨b,j,none⟩ u).heap[b]?=some (.cells (cs.setIfInBounds j u) t (0,0)):=by
 exact heap_setCell_same w b j cs t u h
theorem free6 {w:World} {b:Nat} {cs:Array Value} {t:TypeId} (h:w.heap[b]?=some (.cells cs t (0,0))) (j:Nat):w.frozen? ⟨b,j,none⟩=false:=by
 simp [World.frozen?,h]
theorem ξ7.cells {w:World} {b mb:Nat} {ag tr nw T:Int} {M:Its} {gv:Value} {G:List Int} (h:ξ7 w b mb ag tr nw T M gv G) :
 w.cell? ⟨b,0,none⟩=some (.int .i64 nw)/\w.cell? ⟨b,1,none⟩=some (.int .i64 ag)/\w.cell? ⟨b,2,none⟩=some (.int .i64 tr)/\w.cell? ⟨b,3,none⟩=some (.int .i64 T)/\w.cell? ⟨b,4,none⟩=some (.map (some mb))/\w.cell? ⟨b,5,none⟩=some gv:=cells6 h.box
def blks (b mb:Nat) (gv:Value):List Nat:=b::mb::gv.ownBlock.toList
theorem ξ7.only {w w':World} {b mb:Nat} {ag tr nw T:Int} {M:Its} {gv:Value} {G:List Int} {bs:List Nat} (h:ξ7 w b mb ag tr nw T M gv G) (ho:Only bs w w') (hb:∀ k∈blks b mb gv,k∉bs):ξ7 w' b mb ag tr nw T M gv G:=by
 obtain ⟨h1,⟨D,⟨es,clock,h4,h5⟩,h6,h7⟩,h8⟩:=h;exact ⟨ho.block h1 (hb b (by simp [blks])),⟨D,⟨es,clock,ho.block h4 (hb mb (by simp [blks])),h5⟩,h6,h7⟩,ho.owns h8 (fun k hk=>hb k (by simp [blks,hk]))⟩
theorem ξ7.below {w w':World} {b mb:Nat} {ag tr nw T:Int} {M:Its} {gv:Value} {G:List Int} (h:ξ7 w b mb ag tr nw T M gv G) (hb:Below w.heap.size w w'):ξ7 w' b mb ag tr nw T M gv G:=
 h.only (Only.of_below hb []) (by simp)
theorem ξ7.ne {w:World} {b mb:Nat} {ag tr nw T:Int} {M:Its} {gv:Value} {G:List Int} (h:ξ7 w b mb ag tr nw T M gv G):b≠mb/\∀ k,gv.ownBlock=some k->k≠b/\k≠mb:=by
 obtain ⟨h1,⟨D,h2,_⟩,h8⟩:=h;obtain ⟨es,c,h3⟩:=ξc h2;refine ⟨?_,fun k hk=>?_⟩
 ·intro e;rw [e,h3] at h1;simp at h1
 ·obtain ⟨cs,hc⟩:=ξD h8 hk;refine ⟨?_,?_⟩
  ·intro e;rw [e,h1] at hc;simp at hc
  ·intro e;rw [e,h3] at hc;simp at hc
theorem ξ7.lt {w:World} {b mb:Nat} {ag tr nw T:Int} {M:Its} {gv:Value} {G:List Int} (h:ξ7 w b mb ag tr nw T M gv G):∀ k∈blks b mb gv,k<w.heap.size:=by
 obtain ⟨h1,⟨D,h2,_⟩,h8⟩:=h;intro k hk;simp only [blks,Ξf,Option.mem_toList] at hk
 rcases hk with rfl | rfl | hk
 ·exact lt_of_block h1
 ·exact h2.lt
 ·exact (h8.lt k hk).2
theorem ξ7.set {w:World} {b mb:Nat} {ag tr nw T ag' tr' nw' T':Int} {M:Its} {gv:Value} {G:List Int} (h:ξ7 w b mb ag tr nw T M gv G) (j:Nat) (u:Value) (he:(#[.int .i64 nw,.int .i64 ag,.int .i64 tr,.int .i64 T,.map (some mb),gv]:Array Value).setIfInBounds j u=#[.int .i64 nw',.int .i64 ag',.int .i64 tr',.int .i64 T',.map (some mb),gv]):ξ7 (w.setCell ⟨b,j,none⟩ u) b mb ag' tr' nw' T' M gv G:=by
 have hne:=h.ne
 have ho:Only [b] w (w.setCell ⟨b,j,none⟩ u):=(Only.refl _ _).setCell (by simp) _
 refine ⟨?_,?_,ho.owns h.row (fun k hk=>by simp;exact (hne.2 k hk).1)⟩
 ·have:=setb h.box j u
  rw [he] at this;exact this
 ·obtain ⟨D,⟨es,clock,h4,h5⟩,h6⟩:=h.map;exact ⟨D,⟨es,clock,ho.block h4 (by simp;exact fun e=>hne.1 e.symm),h5⟩,h6⟩
theorem ξQ {fn:Func} {tmps:Array Value} {w:World} {g i j:Nat} {x:Int} (hf:fn.results=#[.cell i 89,.tmp j]) (hi:tmps.getD i undef=.pointer (some ⟨g,0,none⟩)) (hb:w.cell? ⟨g,0,none⟩=some (.int .i64 x)) :
 (results fn tmps).run prog w=.ok (.tuple #[.agg #[.int .i64 x],tmps.getD j undef]) w:=by
 have hi':tmps[i]?.getD undef=.pointer (some ⟨g,0,none⟩):=by simpa using hi
 simp [results,hf,hi',go_sem,hb]
theorem ξH (w:World) (x:Int) (O:Obj):((w.alloc O).alloc (.cells #[.int .i64 x] 89)).cell? ⟨w.heap.size+1,0,none⟩=some (.int .i64 x):=by
 have h:=heap_alloc_new (w.alloc O) (.cells #[.int .i64 x] 89)
 simp only [World.size_alloc] at h
 unfold World.cell?;simp only [h]
 simp
theorem ξC (w:World) (O1 O2:Obj):Below w.heap.size w ((w.alloc O1).alloc O2):=
 ((Ξp _ _).alloc (Ξo _) _).alloc (by simp) _
theorem ξF (nw now:Int) (w:World) :
 Calls prog 66 #[.agg #[.int .i64 nw],.int .i64 now] w fun e w'=>e=.returned (.tuple #[.agg #[.int .i64 (if tf nw now=0 then now else 0)],errv (tf nw now)])/\Below w.heap.size w w':=by
 by_cases c:now<0
 ·have e:tf nw now=1:=by unfold tf;rw [if_pos (.inl c)]
  rw [e];clear e;go_enter func66,ntmps66
  go_wp2_with fail
  refine bodyPost_ret (ξQ (g:=w.heap.size+1) rfl rfl (ξH w _ _)) rfl ?_
  exact ⟨rfl,ξC w _ _⟩
 by_cases c1:1000000<now
 ·have e:tf nw now=1:=by unfold tf;rw [if_pos (.inr c1)]
  rw [e];clear e;go_enter func66,ntmps66
  go_wp2_with fail
  refine bodyPost_ret (ξQ (g:=w.heap.size+1) rfl rfl (ξH w _ _)) rfl ?_
  exact ⟨rfl,ξC w _ _⟩
 by_cases c2:now<nw
 ·have e:tf nw now=6:=by unfold tf;rw [if_neg (by omega),if_pos c2]
  rw [e];clear e;go_enter func66,ntmps66
  go_wp2_with fail
  refine bodyPost_ret (ξQ (g:=w.heap.size+1) rfl rfl (ξH w _ _)) rfl ?_
  exact ⟨rfl,ξC w _ _⟩
 ·have e:tf nw now=0:=by unfold tf;rw [if_neg (by omega),if_neg c2]
  rw [e];clear e;go_enter func66,ntmps66
  go_wp2_with fail
  refine bodyPost_ret (ξQ (g:=w.heap.size+1) rfl rfl (ξH w _ _)) rfl ?_
  exact ⟨rfl,ξC w _ _⟩
theorem ξZ (ag tr:Int) (w:World) (h0:1<=ag) (h1:ag<=1000000) (h2:1<=tr) (h3:tr<=20) :
 Calls prog 20 #[.int .i64 ag,.int .i64 tr] w fun e w'=>∃ b mb,e=.returned (.tuple #[.pointer (some ⟨b,0,none⟩),.nilIface])/\w.heap.size<=b/\w.heap.size<=mb/\ξ7 w' b mb ag tr 0 (-1) [] (.slice none 0 0) []/\Below w.heap.size w w':=by
 have hmm:=@run_makeMap prog
 go_enter func20,ntmps20
 go_wp2_with fail
 go_ret2
 refine ⟨_,_,rfl,Nat.le_succ _,Ξo _,⟨?_,⟨.map [],?_,ξ17,fun i hi=>by simp at hi⟩,Ξr _ _ _ _⟩,((Ξp _ _).alloc (Ξo _) _).alloc (by simp) _⟩
 ·have:=heap_alloc_new (w.alloc (.map #[] 0)) (.cells #[.int .i64 0,.int .i64 ag,.int .i64 tr,.int .i64 (-1),.map (some w.heap.size),.slice none 0 0] 123)
  simpa using this
 ·exact (World.ownsMap_made w _ _ _).alloc _
theorem ξ1v (b:Nat) (T y:Int) (w:World) (h:w.cell? ⟨b,3,none⟩=some (.int .i64 T)) (h0:-1<=T) (h1:T<=1099511627776) (h2:0<=y) (h3:y<=1099511627776) :
 Calls prog 67 #[.pointer (some ⟨b,0,none⟩),.int .i64 y] w fun e w'=>e=.returned (.int .i64 (lo T y))/\w'=w:=by
 by_cases c:T=-1
 ·have e:lo T y=0:=by unfold lo;rw [if_pos (.inl c)]
  rw [e];subst c;clear e;go_enter func67,ntmps67
  go_wp2_with fail
  go_ret
  exact ⟨rfl,rfl⟩
 by_cases c2:y<=T
 ·have e:lo T y=0:=by unfold lo;rw [if_pos (.inr c2)]
  rw [e];clear e;have d1:(T==-1)=false:=by simpa using c
  clear c;go_enter func67,ntmps67
  go_wp2_with fail
  go_ret
  exact ⟨rfl,rfl⟩
 ·have e:lo T y=y - T - 1:=by unfold lo;rw [if_neg (by omega)]
  rw [e];clear e;have d1:(T==-1)=false:=by simpa using c
  clear c;go_enter func67,ntmps67
  go_wp2_with fail
  go_ret
  exact ⟨rfl,rfl⟩
theorem sortsA (m:Nat):AnyZI.SortsIn prog Tryz.sortedA_ren Fence.wide m:=
 ⟨fun blk off cap ss W hH hblk hsz=>callsIn_wide.2 (AnyM.slices_Sort_int Tryz.sortA blk off cap ss W hH hblk hsz),
  fun p cap W=>callsIn_wide.2 (AnyM.slices_Sort_int_none Tryz.sortA p cap W)⟩
theorem ξ7p (b mb:Nat) (ag tr nw T:Int) (M:Its) (gv:Value) (G:List Int) (w:World) (h:ξ7 w b mb ag tr nw T M gv G) (hr:Ris M) (hl:M.length<=1000) :
 Calls prog 73 #[.pointer (some ⟨b,0,none⟩)] w fun e w'=>∃ v,e=.returned v/\w'.ownsRow w.heap.size 3 1 v M.length (ic (nums M))/\Below w.heap.size w w':=by
 obtain ⟨c0,c1,c2,c3,c4,c5⟩:=h.cells;obtain ⟨D,hown,hK,hE⟩:=h.map;have hsize:Maps.size D=M.length:=hK.size (hown.entries law3) hr.apart
 have hperm:=hK.perm hown law3 underlying3 hr
 clear hE hK c0 c1 c2 c3 c5;refine (callsIn_wide (n:=6)).1 ?_
 have hbl:=hown.lt
 have hseq:SeqGives Fence.wide 2 prog 130 #[.pointer (some ⟨w.heap.size,0,none⟩)] encZ (fun ss=>ss.Perm (intKeys D)) (Maps.size D) (w.alloc (.cells #[.map (some mb)] 121)):=
  AnyZI.keys_gives (ρ:=Tryz.keysA_ren) { Tryz.keysA with } Fence.wide _ trivial rfl (by omega) w.heap.size mb M.length D _ (by simp) (by simp) (by
   obtain ⟨es,clock,hb,Ft,hs,hD⟩:=hown;exact ⟨es,clock,(Below.heap_alloc _ _ mb hbl).trans hb,Ft,hs,hD⟩)
 have cK:∀ mb W,CallsIn Fence.wide 5 prog 105 #[.map mb] W fun e w'=>e=.returned (.func (.func 130) #[] #[.pointer (some ⟨W.heap.size,0,none⟩)])/\w'=W.alloc (.cells #[.map mb] 121):=fun mb W=>AnyZI.keys_in Tryz.keysA Fence.wide 5 trivial rfl mb W
 have cS:=AnyZI.sorted_in Tryz.sortedA Fence.wide 5 trivial trivial trivial trivial rfl (by omega) (sortsA _) (enters_of func74 (by kernel_rfl) rfl) 130 #[.pointer (some ⟨w.heap.size,0,none⟩)] trivial (enters_of func130 (by kernel_rfl) rfl) _ _ (by unfold maxLen;omega) (by omega) _ hseq
 change CallsIn _ _ prog 104 _ _ _ at cS
 have hfK:Fence.wide.fn 105:=trivial
 have hfS:Fence.wide.fn 104:=trivial
 clear hseq hown h;refine callsIn_of_wp func73 rfl trivial ?_ rfl
 simp only [ntmps73,List.size_toArray,List.length_cons,List.length_nil,Nat.reduceAdd,Nat.reduceSub,Array.replicate_succ,Array.replicate_zero,List.push_toArray,List.append_toArray,List.nil_append,List.cons_append]
 gi_wp2_with (first
  | (gi_at_call 105;refine (cK _ _).mono ?_;rintro e w' ⟨rfl,rfl⟩)
  | (gi_at_call 104;refine cS.mono ?_;rintro e w' ⟨v,ss,rfl,hS,hrow,hnil,hb⟩))
 go_ret
 have hss:ss.Perm (nums M):=hS.trans hperm.symm
 have hlen:ss.length=M.length:=by rw [hss.length_eq,ξcq]
 rw [ξ3O hr hss,hlen] at hrow;exact ⟨v,rfl,ξu hrow (by simp),((Ξp _ w).alloc (Ξo _) _).trans (hb.mono (by simp))⟩
end Go.Proofs.YtpiamlgmadnepaaGreat.Gaps
