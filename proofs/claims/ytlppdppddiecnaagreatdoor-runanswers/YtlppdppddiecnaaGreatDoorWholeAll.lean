/-
  RunY, RunZ in one text.
-/
import Derived.Test.YtlppdppddiecnaaGreatDoorRangeAll
import Derived.Test.YtlppdppddiecnaaGreatDoorDoAll
import Derived.Test.YtlppdppddiecnaaGreatDoorRunTP
import Derived.Stop.RegionWithIn
import Derived.RangeFuncCalls

namespace Go.Proofs.YtlppdppddiecnaaGreatDoor.Run
open Go.ChangeShapes Go.WideShapes Go.ChangeAt Go.RowKit Go.Proofs.YtlppdppddiecnaaGreatDoor.Mem Go.Proofs.YtlppdppddiecnaaGreatDoor.RN Go.Proofs.YtlppdppddiecnaaGreatDoor.RC
set_option linter.unusedVariables false
attribute [local go_sem] Oper.semAt_some

def runOf (D:Far) (text:List UInt8):List UInt8:=if 3000<text.length then [116,111,111,32,108,111,110,103,10] else answers D ss0 (linesL text)
def BOk (W:World) (b:Nat) (X:List Nat) (l:List UInt8):Prop:=
  ∃ p v,(p=.pointer none∨p=.pointer (some ⟨b,0,none⟩))∧W.heap[b]?=some (.cells #[p,v] 33 (0,0))∧W.ownsRowF b 5 1 v (Lib.byteCells l).length (Lib.byteCells l)∧v.ownBlock≠some b∧∀ g,v.ownBlock=some g→g∉X
theorem BOk.is {W:World} {b:Nat} {X:List Nat} {l:List UInt8} (h:BOk W b X l):Lib.IsBuilderF 33 5 b b (Lib.byteCells l) W:=by
  obtain ⟨p,v,hp,hb,ho,hn,_⟩:=h
  rcases hp with rfl | rfl
  · exact .inl ⟨Nat.le_refl _,v,hb,ho,hn⟩
  · exact .inr ⟨Nat.le_refl _,v,hb,ho,hn⟩
theorem raw_count:∀ l:List UInt8,(rawL l).length≤l.length
  | []=>by simp [rawL]
  | x::r=>by
    have:=raw_count r
    rw [rawL]
    split
    · simp;omega
    · simp [List.length_tail];omega
theorem BOk.block {W:World} {b:Nat} {X:List Nat} {l:List UInt8} (h:BOk W b X l):W.heap[b]?=some (.cells #[h.choose,h.choose_spec.choose] 33 (0,0)):=h.choose_spec.choose_spec.2.1
theorem BOk.lt {W:World} {b:Nat} {X:List Nat} {l:List UInt8} (h:BOk W b X l):b<W.heap.size:=lt_of_block h.block
theorem cells_str (l k:List UInt8):Lib.byteCells l++Lib.strCells (bs k)=Lib.byteCells (l++k):=by rw [Lib.byteCells_append];rfl
theorem BOk.only {W W':World} {b:Nat} {X:List Nat} {l:List UInt8} (h:BOk W b X l) (ho:Only X W W') (hb:b∉X):BOk W' b X l:=by
  obtain ⟨p,v,hp,hbl,hown,hn,hx⟩:=h
  refine ⟨p,v,hp,ho.block hbl hb,⟨hown.1,?_⟩,hn,hx⟩
  rcases hown.2 with h0 | ⟨g,cap,cur,fz,hv,hg,hh,r⟩
  · exact .inl h0
  · exact .inr ⟨g,cap,cur,fz,hv,hg,ho.block hh (hx g (by rw [hv];rfl)),r⟩
theorem BOk.below {W W':World} {b:Nat} {X:List Nat} {l:List UInt8} (h:BOk W b X l) (hb:Below W.heap.size W W'):BOk W' b X l:=by
  obtain ⟨p,v,hp,hbl,hown,hn,hx⟩:=h
  refine ⟨p,v,hp,(hb.block b (lt_of_block hbl)).trans hbl,⟨hown.1,?_⟩,hn,hx⟩
  rcases hown.2 with h0 | ⟨g,cap,cur,fz,hv,hg,hh,r⟩
  · exact .inl h0
  · exact .inr ⟨g,cap,cur,fz,hv,hg,(hb.block g (lt_of_block hh)).trans hh,r⟩
theorem BOk.other {W W':World} {b:Nat} {X L:List Nat} {l:List UInt8} (h:BOk W b X l) (ho:Only L W W') (hb:b∉L) (hL:∀ k∈L,∃ o:Obj,W.heap[k]?=some o∧∀ c fz,o≠.cells c 5 fz):BOk W' b X l:=by
  obtain ⟨p,v,hp,hbl,hown,hn,hx⟩:=h
  refine ⟨p,v,hp,ho.block hbl hb,⟨hown.1,?_⟩,hn,hx⟩
  rcases hown.2 with h0 | ⟨g,cap,cur,fz,hv,hg,hh,r⟩
  · exact .inl h0
  · refine .inr ⟨g,cap,cur,fz,hv,hg,ho.block hh (fun hm=>?_),r⟩
    obtain ⟨o,h1,h2⟩:=hL g hm
    rw [hh] at h1
    exact h2 _ _ (Option.some.inj h1).symm
theorem BOk.of {W:World} {b:Nat} {X:List Nat} {l:List UInt8} {p:Value} (h:Lib.BuilderAtF 33 5 b b p (Lib.byteCells l) W) (hp:p=.pointer none∨p=.pointer (some ⟨b,0,none⟩)) (hX:∀ k∈X,∃ o:Obj,W.heap[k]?=some o∧∀ c fz,o≠.cells c 5 fz):BOk W b X l:=by
  obtain ⟨hB,v,hb,ho,hn⟩:=h
  refine ⟨p,v,hp,hb,ho,hn,fun g hg hm=>?_⟩
  rcases ho.2 with ⟨h0,_⟩ | ⟨g',cap,cur,fz,hv,_,hh,_⟩
  · rw [h0] at hg;cases hg
  · rw [hv] at hg
    have hgg:g'=g:=by simpa [Value.ownBlock] using hg
    rw [hgg] at hh
    obtain ⟨o,h1,h2⟩:=hX g hm
    rw [hh] at h1
    exact h2 _ _ (Option.some.inj h1).symm
structure RI (D:Far) (ea:Addr) (w0:World) (sb wb vb lb pb bb:Nat) (X:List Nat) (L:List (List UInt8)) (k:Nat) (W:World):Prop where
  ss:∃ mo,SsAt W sb wb vb lb mo (after D ss0 (L.take k))∧∀ m,mo=some m→m∉X
  bo:BOk W bb X (answers D ss0 (L.take k))
  g:GW ea W
  pb:W.heap[pb]?=some (.cells #[.pointer (some ⟨sb,0,none⟩)] 28 (0,0))
  bel:Below w0.heap.size w0 W
  len:(answers D ss0 (L.take k)).length≤k*1000001
structure Apart (sb wb vb lb pb bb:Nat) (X:List Nat) (G B:Nat):Prop where
  s:sb∉X
  w:wb∉X
  v:vb∉X
  l:lb∉X
  p:pb∉X
  b:bb∉X
  x:∀ k∈X,B≤k
  n:sb≠pb∧sb≠bb∧wb≠pb∧wb≠bb∧vb≠pb∧vb≠bb∧lb≠pb∧lb≠bb∧pb≠bb
  lo:G≤sb∧G≤wb∧G≤vb∧G≤lb∧G≤B
  up:B≤sb∧B≤wb∧B≤vb∧B≤lb∧B≤pb∧B≤bb
theorem RI.only {D:Far} {ea:Addr} {w0:World} {sb wb vb lb pb bb:Nat} {X:List Nat} {L:List (List UInt8)} {k:Nat} {A C:World} (h:RI D ea w0 sb wb vb lb pb bb X L k A) (ha:Apart sb wb vb lb pb bb X 10 w0.heap.size) (ho:Only X A C):RI D ea w0 sb wb vb lb pb bb X L k C:=by
  obtain ⟨mo,hs,hm⟩:=h.ss
  refine ⟨⟨mo,hs.only ho ha.s ha.w ha.v ha.l hm,hm⟩,h.bo.only ho ha.b,h.g.only ho (fun b hb=>Nat.le_trans ha.lo.2.2.2.2 (ha.x b hb)),ho.block h.pb ha.p,?_,h.len⟩
  have:=h.bel
  exact this.trans (ho.below this.size ha.x)
theorem kept_only {A C:World} {B b:Nat} (hb:Below B A C) (hk:Lib.OthersKept 5 (some b) A C):∃ L,Only L A C∧∀ k∈L,B≤k∧(k=b∨∃ c fz,A.heap[k]?=some (.cells c 5 fz)):=by
  classical
  refine ⟨(List.range A.heap.size).filter fun k=>decide (¬ C.heap[k]?=A.heap[k]?),⟨hb.os,hb.tape,hb.output,hb.size,fun k hlt hm=>?_⟩,?_⟩
  · by_cases h:C.heap[k]?=A.heap[k]?
    · exact h
    · exact absurd (List.mem_filter.2 ⟨List.mem_range.2 hlt,decide_eq_true h⟩) hm
  · intro k hk'
    simp only [List.mem_filter,List.mem_range,decide_eq_true_eq] at hk'
    obtain ⟨hlt,hne⟩:=hk'
    constructor
    · by_cases h:B≤k
      · exact h
      · exact absurd (hb.block k (by omega)) hne
    · by_cases h:k=b
      · exact .inl h
      · right
        obtain ⟨o,ho⟩:∃ o,A.heap[k]?=some o:=⟨_,Array.getElem?_eq_getElem hlt⟩
        by_cases h2:∃ c fz,o=.cells c 5 fz
        · obtain ⟨c,fz,rfl⟩:=h2
          exact ⟨c,fz,ho⟩
        · exact absurd ((hk k o ho (by simpa using h) (fun c fz e=>h2 ⟨c,fz,e⟩)).trans ho.symm) hne
structure Mid (ea:Addr) (w0:World) (sb wb vb lb pb:Nat) (X:List Nat) (W0 W:World) (mo:Option Nat) (S:Ss):Prop where
  ss:SsAt W sb wb vb lb mo S
  mo:∀ m,mo=some m→m∉X
  g:GW ea W
  pb:W.heap[pb]?=some (.cells #[.pointer (some ⟨sb,0,none⟩)] 28 (0,0))
  bel:Below w0.heap.size w0 W
  lie:Lie X W0 W
  obj:∀ k∈X,∃ o:Obj,W.heap[k]?=some o∧∀ c fz,o≠.cells c 5 fz
theorem Mid.only {ea:Addr} {w0:World} {sb wb vb lb pb bb:Nat} {X L:List Nat} {W0 A C:World} {mo:Option Nat} {S:Ss} (h:Mid ea w0 sb wb vb lb pb X W0 A mo S) (ho:Only L A C) (ha:Apart sb wb vb lb pb bb X 10 w0.heap.size)
    (h1:sb∉L) (h2:wb∉L) (h3:vb∉L) (h4:lb∉L) (h5:∀ m,mo=some m→m∉L) (h6:pb∉L) (h7:∀ k∈X,k∉L) (h8:∀ k∈L,w0.heap.size≤k):Mid ea w0 sb wb vb lb pb X W0 C mo S:=by
  refine ⟨h.ss.only ho h1 h2 h3 h4 h5,h.mo,h.g.only ho (fun b hb=>Nat.le_trans ha.lo.2.2.2.2 (h8 b hb)),ho.block h.pb h6,?_,?_,?_⟩
  · have:=h.bel
    exact this.trans (ho.below this.size h8)
  · intro k hk
    obtain ⟨o,h9,_⟩:=h.obj k hk
    rw [← h.lie k hk,h9]
    exact ho.block h9 (h7 k hk)
  · intro k hk
    obtain ⟨o,h9,h10⟩:=h.obj k hk
    exact ⟨o,ho.block h9 (h7 k hk),h10⟩
theorem Mid.below {ea:Addr} {w0:World} {sb wb vb lb pb bb:Nat} {X:List Nat} {W0 A C:World} {mo:Option Nat} {S:Ss} (h:Mid ea w0 sb wb vb lb pb X W0 A mo S) (ha:Apart sb wb vb lb pb bb X 10 w0.heap.size) (hb:Below A.heap.size A C):Mid ea w0 sb wb vb lb pb X W0 C mo S:=
  h.only (Only.of_below hb []) ha (by simp) (by simp) (by simp) (by simp) (by simp) (by simp) (by simp) (by simp)
theorem Mid.objs {ea:Addr} {w0:World} {sb wb vb lb pb:Nat} {X:List Nat} {W0 A:World} {mo:Option Nat} {S:Ss} (h:Mid ea w0 sb wb vb lb pb X W0 A mo S) :
    (∀ c fz,A.heap[sb]?≠some (.cells c 5 fz))∧(∀ c fz,A.heap[wb]?≠some (.cells c 5 fz))∧(∀ c fz,A.heap[vb]?≠some (.cells c 5 fz))∧(∀ c fz,A.heap[lb]?≠some (.cells c 5 fz))∧(∀ m,mo=some m→∀ c fz,A.heap[m]?≠some (.cells c 5 fz))∧(∀ c fz,A.heap[pb]?≠some (.cells c 5 fz)):=by
  have h1:=h.ss.box
  have h2:=h.ss.win
  have h3:=h.ss.vo.box
  have h4:=h.ss.ly
  have h6:=h.pb
  unfold WinAt at h2
  unfold Layer.LayerAt at h4
  refine ⟨fun c fz e=>?_,fun c fz e=>?_,fun c fz e=>?_,fun c fz e=>?_,fun m hm c fz e=>?_,fun c fz e=>?_⟩
  · rw [h1] at e;simp at e
  · rw [h2] at e;simp at e
  · rw [h3] at e;simp at e
  · rw [h4] at e;simp at e
  · subst hm
    rcases h.ss.vo.map with ⟨h0,_⟩ | ⟨m',D,h0,h7,_⟩
    · cases h0
    · cases h0
      obtain ⟨es,cl,h8⟩:=Voice.map_block h7
      rw [h8] at e;simp at e
  · rw [h6] at e;simp at e
theorem Mid.kept {ea:Addr} {w0:World} {sb wb vb lb pb bb:Nat} {X:List Nat} {W0 A C:World} {mo:Option Nat} {S:Ss} {cb:Array Value} {fb:Nat×Nat} (h:Mid ea w0 sb wb vb lb pb X W0 A mo S) (ha:Apart sb wb vb lb pb bb X 10 w0.heap.size)
    (hbb:A.heap[bb]?=some (.cells cb 33 fb)) (hb:Below bb A C) (hk:Lib.OthersKept 5 (some bb) A C):Mid ea w0 sb wb vb lb pb X W0 C mo S:=by
  obtain ⟨L,hL,hm⟩:=kept_only hb hk
  obtain ⟨o1,o2,o3,o4,o5,o6⟩:=h.objs
  obtain ⟨n1,n2,n3,n4,n5,n6,n7,n8,n9⟩:=ha.n
  have key:∀ k,k≠bb→(∀ c fz,A.heap[k]?≠some (.cells c 5 fz))→k∉L:=by
    intro k h1 h2 h3
    rcases (hm k h3).2 with h4 | ⟨c,fz,h4⟩
    · exact h1 h4
    · exact h2 c fz h4
  refine h.only hL ha (key _ n2 o1) (key _ n4 o2) (key _ n6 o3) (key _ n8 o4) (fun m hm'=>key _ ?_ (o5 m hm')) (key _ n9 o6) ?_ (fun k hk'=>Nat.le_trans ha.up.2.2.2.2.2 (hm k hk').1)
  · rintro rfl
    subst hm'
    rcases h.ss.vo.map with ⟨h0,_⟩ | ⟨m',D,h0,h7,_⟩
    · cases h0
    · cases h0
      obtain ⟨es,cl,h8⟩:=Voice.map_block h7
      rw [h8] at hbb;simp at hbb
  · intro k hk'
    obtain ⟨o,h9,h10⟩:=h.obj k hk'
    refine key k (fun e=>ha.b (e ▸ hk')) (fun c fz e=>?_)
    rw [h9] at e
    exact h10 c fz (Option.some.inj e)
theorem Mid.did {ea:Addr} {w0:World} {sb wb vb lb pb bb:Nat} {X:List Nat} {W0 A C:World} {mo mo':Option Nat} {S S':Ss} (h:Mid ea w0 sb wb vb lb pb X W0 A mo S) (ha:Apart sb wb vb lb pb bb X 10 w0.heap.size)
    (hs:SsAt C sb wb vb lb mo' S') (ho:Only [wb,vb,lb] A C) (hm:mo'=mo∨∃ m,mo'=some m∧A.heap.size≤m):Mid ea w0 sb wb vb lb pb X W0 C mo' S':=by
  obtain ⟨n1,n2,n3,n4,n5,n6,n7,n8,n9⟩:=ha.n
  have hX:∀ k∈X,k∉[wb,vb,lb]:=by
    intro k hk hm
    simp only [List.mem_cons,List.not_mem_nil,or_false] at hm
    rcases hm with rfl | rfl | rfl
    · exact ha.w hk
    · exact ha.v hk
    · exact ha.l hk
  have h8:∀ k∈[wb,vb,lb],w0.heap.size≤k:=by
    obtain ⟨u1,u2,u3,u4,u5,u6⟩:=ha.up
    intro k hm
    simp only [List.mem_cons,List.not_mem_nil,or_false] at hm
    rcases hm with rfl | rfl | rfl<;>omega
  refine ⟨hs,fun m e hX'=>?_,h.g.only ho (fun b hb=>Nat.le_trans ha.lo.2.2.2.2 (h8 b hb)),ho.block h.pb ?_,?_,?_,?_⟩
  · rcases hm with rfl | ⟨m',rfl,h9⟩
    · exact h.mo m e hX'
    · cases e
      obtain ⟨o,h10,_⟩:=h.obj m hX'
      have:=lt_of_block h10
      omega
  · simp only [List.mem_cons,List.not_mem_nil,or_false]
    omega
  · have:=h.bel
    exact this.trans (ho.below this.size h8)
  · intro k hk
    obtain ⟨o,h9,_⟩:=h.obj k hk
    rw [← h.lie k hk,h9]
    exact ho.block h9 (hX k hk)
  · intro k hk
    obtain ⟨o,h9,h10⟩:=h.obj k hk
    exact ⟨o,ho.block h9 (hX k hk),h10⟩
theorem BOk.did {W W':World} {b sb wb vb lb pb:Nat} {ea:Addr} {w0 W0:World} {X:List Nat} {mo:Option Nat} {S:Ss} {l:List UInt8} (h:BOk W b X l) (hM:Mid ea w0 sb wb vb lb pb X W0 W mo S) (ho:Only [wb,vb,lb] W W') (ha:Apart sb wb vb lb pb b X 10 w0.heap.size):BOk W' b X l:=by
  obtain ⟨n1,n2,n3,n4,n5,n6,n7,n8,n9⟩:=ha.n
  obtain ⟨o1,o2,o3,o4,o5,o6⟩:=hM.objs
  refine h.other ho (by simp only [List.mem_cons,List.not_mem_nil,or_false];omega) ?_
  intro k hm
  simp only [List.mem_cons,List.not_mem_nil,or_false] at hm
  rcases hm with rfl | rfl | rfl
  · exact ⟨_,hM.ss.win,fun c fz e=>o2 c fz (by rw [← e];exact hM.ss.win)⟩
  · exact ⟨_,hM.ss.vo.box,fun c fz e=>o3 c fz (by rw [← e];exact hM.ss.vo.box)⟩
  · exact ⟨_,hM.ss.ly,fun c fz e=>o4 c fz (by rw [← e];exact hM.ss.ly)⟩
set_option maxHeartbeats 4000000 in
set_option maxRecDepth 100000 in
theorem run_in (D:Far) (hD:D.Ok) (ea:Addr) (n:Nat) (hn:5≤n) (text:List UInt8) (ht:text.length≤3000) (w:World) (g:GW ea w) :
    CallsIn Fence.wide n Tryz.prog 4 #[.string (bs text)] w fun e W'=>e=.returned (.string (bs (runOf D text)))∧Below w.heap.size w W':=by
  have hsz:(bs text).size=text.length:=bs_size text
  obtain ⟨m,hm⟩:∃ m,text.length=m:=⟨_,rfl⟩
  rw [hm] at hsz ht
  have HM:=hidden hm
  have GG:=hidden g
  have NS:=hidden (callsIn_wide (n:=n - 1) |>.2 (newSession_calls w))
  have hro:Fence.wide.round=none:=rfl
  have d0:decide ((3000:Int)<(m:Int))=false:=by simp;omega
  have h1:1≤n:=by omega
  clear hm g
  refine callsIn_of_wp_marks Tryz.func4 rfl trivial ?_ rfl
  simp only [Tryz.ntmps4,List.size_toArray,List.length_cons,List.length_nil,Nat.reduceAdd,Nat.reduceSub,Array.replicate_succ,Array.replicate_zero,List.push_toArray,List.append_toArray,List.nil_append,List.cons_append]
  gi_wp2_with fail
  refine ⟨trivial,NS.out.mono ?_⟩
  rintro e w1 ⟨sb,wb,vb,lb,rfl,hs,hb1,l1,l2,l3,l4⟩
  have HS:=hidden hs
  have HB1:=hidden hb1
  have HLO:=hidden (And.intro l1 (And.intro l2 (And.intro l3 l4)))
  clear hs hb1 l1 l2 l3 l4
  have LC:=hidden (fun W=>callsIn_wide (n:=n - 1) |>.2 (lines_calls text W))
  gi_wp2_with fail
  refine ⟨trivial,(LC.out _).mono ?_⟩
  rintro e wl ⟨rfl,hwl⟩
  obtain ⟨pb,hpb⟩:∃ x,w1.heap.size=x:=⟨_,rfl⟩
  have hz:wl.heap.size=pb+3:=by rw [hwl,← hpb];simp
  have hBs:((w1.alloc (.cells #[.pointer (some ⟨sb,0,none⟩)] 28)).alloc (.cells #[.pointer none,.slice none 0 0] 33)).heap.size=pb+2:=by rw [← hpb];simp
  rw [hBs,hpb]
  have hbl:Below w1.heap.size w1 wl:=by rw [hwl];exact (((Below.refl _ w1).alloc (Nat.le_refl _) _).alloc (by simp) _).alloc (by simp;omega) _
  have hs:=HS.out.below hbl
  have k1:wl.heap[pb]?=some (.cells #[.pointer (some ⟨sb,0,none⟩)] 28 (0,0)):=by
    rw [hwl,← hpb];exact block_alloc (block_alloc (heap_alloc_new w1 _) _) _
  have k2:wl.heap[pb+1]?=some (.cells #[.pointer none,.slice none 0 0] 33 (0,0)):=by
    have h0:=heap_alloc_new (w1.alloc (.cells #[.pointer (some ⟨sb,0,none⟩)] 28)) (.cells #[.pointer none,.slice none 0 0] 33)
    rw [World.size_alloc,hpb] at h0
    rw [hwl];exact block_alloc h0 _
  have k3:TBox wl (pb+2) text:=by
    have h0:=heap_alloc_new ((w1.alloc (.cells #[.pointer (some ⟨sb,0,none⟩)] 28)).alloc (.cells #[.pointer none,.slice none 0 0] 33)) (.cells #[.string (bs text)] 9)
    rw [hBs] at h0
    rw [hwl];exact h0
  have hsl:sb<pb∧wb<pb∧vb<pb∧lb<pb:=by
    rw [← hpb];exact ⟨lt_of_block HS.out.box,lt_of_block HS.out.win,HS.out.vo.lt,HS.out.ly.lt⟩
  have hG:=GG.out.size
  have hbw:=HB1.out.trans (hbl.mono HB1.out.size)
  have hw0:w.heap.size≤pb:=by rw [← hpb];exact HB1.out.size
  have hX:Hid (Apart sb wb vb lb pb (pb+1) [pb+3,pb+3+1,pb+2] 10 w.heap.size):=hidden (by
    obtain ⟨a1,a2,a3,a4⟩:=hsl
    obtain ⟨b1,b2,b3,b4⟩:=HLO.out
    refine ⟨by simp;omega,by simp;omega,by simp;omega,by simp;omega,by simp;omega,by simp,by intro k hk;simp at hk;omega,by omega,by omega,by omega⟩)
  have hR0:Hid (RI D ea w sb wb vb lb pb (pb+1) [pb+3,pb+3+1,pb+2] (linesL text) 0 wl):=hidden
    ⟨⟨none,by simpa [after] using hs,by simp⟩,⟨.pointer none,.slice none 0 0,.inl rfl,k2,⟨by simp [answers,Lib.byteCells],.inl ⟨rfl,by simp [answers,Lib.byteCells]⟩⟩,by simp [Value.ownBlock],by simp [Value.ownBlock]⟩,
     GG.out.below hbw,k1,hbw,by simp [answers]⟩
  have HT0:Hid (TBox wl (pb+2) text):=k3
  have HD:=hidden hD
  clear hwl hBs hpb hbl hs k1 k2 k3 hsl hG hbw hw0 hD
  gi_wp2_with fail
  refine wpIn_rangeFunc_counts hro h1 (gf:=41) (lb:=#[.pointer (some ⟨pb+2,0,none⟩)]) rfl trivial (enters_of Tryz.func41 (by kernel_rfl) rfl)
    (encs:=fun k=>#[.string (bs (rawAt text k))]) (N:=(rawL text).length) (own:=[pb+2]) (Bx:=fun W=>∃ R,TBox W (pb+2) R) ⟨_,HT0.out⟩ ?xl (by simp;omega)
    ?seq (fun _=>rfl) (RI D ea w sb wb vb lb pb (pb+1) [pb+3,pb+3+1,pb+2] (linesL text)) ?inv hR0.out
    (fun k=>{ tmps:=#[.string (bs text),undef,.string ⟨#[]⟩,.pointer (some ⟨pb,0,none⟩),.pointer (some ⟨pb+1,0,none⟩),.string (bs (rawAt text k)),.string (bs text),.int .i64 (m:Int),.bool false,.pointer (some ⟨sb,0,none⟩),.string (bs text),.func (.func 41) #[] #[.pointer (some ⟨pb+2,0,none⟩)],.string (bs (rawAt text k)),undef,undef,undef,undef,undef,undef,undef,undef,undef,undef],defers:=[] }) ?assign ?body ?done
  case xl=>
    rintro A B ⟨R,h⟩ hl
    exact ⟨R,(hl (pb+2) (by simp)).trans h⟩
  case seq=>
    intro W hW
    exact lines_counts (n - 1) (by omega) (pb+2) text (by rw [HM.out];exact ht) W (hW.block HT0.out (by simp))
  case inv=>
    intro k A B hi ho
    rw [hz] at ho
    exact hi.only hX.out ho
  case assign=>
    intro l k W K hK
    gi_wp2
    exact hK
  case body=>
    rintro l k W hRI ⟨R,hTB⟩ ⟨rc,hrc⟩ ⟨df,hdf⟩ hk hWs
    rw [hz] at hrc hdf hWs
    have hlk:∃ x,(linesL text)[k]?=some x∧x=Lib.trimSuffix (rawAt text k) [10]∧(rawAt text k).length≤3000∧x.length≤3000:=by
      have h1:=raw_lines text.length text (Nat.le_refl _)
      have h2:=rawL_join text.length text (Nat.le_refl _)
      have h3:(rawL text)[k]?=some (rawAt text k):=by
        rw [rawAt,List.getD_eq_getElem?_getD,List.getElem?_eq_getElem hk];rfl
      have h4:(rawAt text k).length≤3000:=by
        have h5:(rawAt text k).length≤(rawL text).flatten.length:=by
          have hmem:rawAt text k∈rawL text:=List.mem_of_getElem? h3
          exact (List.sublist_flatten_of_mem hmem).length_le
        rw [h2,HM.out] at h5
        omega
      refine ⟨_,?_,rfl,h4,?_⟩
      · rw [← h1,List.getElem?_map,h3];rfl
      · unfold Lib.trimSuffix
        split
        · rw [List.length_take];omega
        · exact h4
    obtain ⟨x,hx1,hx2,hx3,hx4⟩:=hlk
    obtain ⟨y,hy⟩:∃ y,rawAt text k=y:=⟨_,rfl⟩
    rw [hy] at hx2 hx3 ⊢
    obtain ⟨mo,hss,hmo⟩:=hRI.ss
    have hso:(after D ss0 ((linesL text).take k)).Ok:=after_ok _ ss0_ok
    have hln:line D (after D ss0 ((linesL text).take k)) x=line D (after D ss0 ((linesL text).take k)) x:=rfl
    have htk:(linesL text).take (k+1)=(linesL text).take k++[x]:=by
      obtain ⟨hl,hxe⟩:=List.getElem?_eq_some_iff.1 hx1
      rw [← hxe,List.take_append_getElem hl]
    have hans:=answers_app D ss0 ((linesL text).take k) [x]
    have haft:=after_app D ss0 ((linesL text).take k) [x]
    rw [← htk] at hans haft
    simp only [answers,after,List.append_nil] at hans haft
    have hlen:=hRI.len
    have hbo:=hRI.bo
    obtain ⟨S,hS⟩:∃ S,after D ss0 ((linesL text).take k)=S:=⟨_,rfl⟩
    rw [hS] at hss hso hans haft
    obtain ⟨a,ha⟩:∃ a,answers D ss0 ((linesL text).take k)=a:=⟨_,rfl⟩
    rw [ha] at hans hlen hbo
    obtain ⟨r,hr⟩:∃ r,line D S x=r:=⟨_,rfl⟩
    rw [hr] at hans haft
    have hM:Hid (Mid ea w sb wb vb lb pb [pb+3,pb+3+1,pb+2] W W mo S):=hidden (by
      refine ⟨hss,hmo,hRI.g,hRI.pb,hRI.bel,fun _ _=>rfl,?_⟩
      intro k hk
      simp only [List.mem_cons,List.not_mem_nil,or_false] at hk
      rcases hk with rfl | rfl | rfl
      · exact ⟨_,hdf,by simp⟩
      · exact ⟨_,hrc,by simp⟩
      · exact ⟨_,hTB,by simp⟩)
    have HBO:=hidden hbo
    have HLN:=hidden hlen
    have HSO:=hidden hso
    have HAN:=hidden hans
    have HAF:=hidden haft
    have HKK:=hidden hk
    have HLR:=hidden hr
    have HX4:=hidden hx4
    have cp:W.cell? ⟨pb,0,none⟩=some (.pointer (some ⟨sb,0,none⟩)):=by simp [World.cell?,hRI.pb]
    have cpd:W.drew.cell? ⟨pb,0,none⟩=some (.pointer (some ⟨sb,0,none⟩)):=cp
    have HCT:Hid (∀ N V,CallsIn (Fence.wide.inRound l) N Tryz.prog 13 #[.string (bs y),.string ⟨#[10]⟩] V fun e w'=>e=.returned (.string (bs x))∧w'=V):=hidden (fun N V=>CallsIn.inRound l (callsIn_wide.2 ((Tryz.strings_TrimSuffix (bs y) ⟨#[10]⟩ V (by rw [bs_size];omega)).mono (by
      rintro e w' ⟨rfl,rfl⟩
      refine ⟨?_,rfl⟩
      rw [hx2]
      simp [bs]))))
    have HCD:Hid (∀ N,CallsIn (Fence.wide.inRound l) N Tryz.prog 12 #[.pointer (some ⟨sb,0,none⟩),.string (bs x)] W.drew (DoneE ea r sb wb vb lb mo W.drew)):=hidden (fun N=>CallsIn.inRound l (callsIn_wide.2 (by
      have hM':=hM.out.below hX.out (below_drewN (Below.refl W.heap.size W) 1)
      have:=do_calls D HD.out ea sb wb vb lb mo S x W.drew hM'.g hx4 hM'.ss hso ⟨hX.out.lo.1,hX.out.lo.2.1,hX.out.lo.2.2.1,hX.out.lo.2.2.2.1⟩
      rwa [hr] at this)))
    have HLA:Hid (a.length≤3003003000):=hidden (by
      have:=raw_count text
      have:=HM.out
      have h9:k*1000001≤3000*1000001:=Nat.mul_le_mul_right _ (by omega)
      omega)
    have h2:1≤n - 1 - 1:=by omega
    have hfT:Fence.wide.fn 13:=trivial
    have hfD:Fence.wide.fn 12:=trivial
    have hfO:Fence.wide.fn 11:=trivial
    have hfW:Fence.wide.fn 10:=trivial
    have hfB:Fence.wide.fn 14:=trivial
    clear hss hmo hso hlen hbo hans haft hrc hdf hTB hRI hk hx1 hx2 hx3 hx4 hr ha hS hy htk hln
    gi_wp2
    gi_region_with (first
      | (gi_at_call 13;refine (HCT.out _ _).mono ?_;rintro e w' ⟨rfl,hw⟩;obtain rfl:=hw.symm)
      | (gi_at_call 12;refine (HCD.out _).mono ?_;rintro e w1 ⟨⟨s,rfl,hst,hsl⟩,mo',hs1,ho1,hm1⟩;
          have HM1:=hidden ((hM.out.below hX.out (below_drewN (Below.refl W.heap.size W) 1)).did hX.out hs1 ho1 hm1);
          have HB1:=hidden ((HBO.out.below (below_drewN (Below.refl W.heap.size W) 1)).did (hM.out.below hX.out (below_drewN (Below.refl W.heap.size W) 1)) ho1 hX.out);
          have HCO:Hid (∀ N,CallsIn (Fence.wide.inRound l) N Tryz.prog 11 _ w1 _):=hidden (fun N=>CallsIn.inRound l (callsIn_wide.2 (told_calls ea r.1 s w1 HM1.out.g hst)));
          have HTL:=hidden (tell_len r.1 (fun t ht=>by rw [← hst t ht];exact hsl));
          clear hst hsl hs1 ho1 hm1)
      | (gi_at_call 11;refine (HCO.out _).mono ?_;rintro e w2 ⟨rfl,hb2⟩;
          have HM2:=hidden (HM1.out.below hX.out hb2);
          have HB2:=hidden (HB1.out.below hb2);
          have HCW:Hid (∀ N,CallsIn (Fence.wide.inRound l) N Tryz.prog 10 _ w2 _):=hidden (fun N=>CallsIn.inRound l (callsIn_wide.2 (Tryz.Builder_WriteString_k (pb+1) (pb+1) (Lib.byteCells a) (bs r.1.tell) w2 HB2.out.is (by have:=HTL.out;have:=HLA.out;rw [Lib.byteCells_length,bs_size];omega) (Nat.le_of_lt HB2.out.lt))));
          clear hb2)
      | (gi_at_call 10;refine (HCW.out _).mono ?_;rintro e w3 ⟨rfl,hb3,hl3,hk3⟩;
          have HM3:=hidden (HM2.out.kept hX.out HB2.out.block hl3 hk3);
          rw [cells_str] at hb3;
          have HB3:=hidden hb3;
          clear hb3 hl3 hk3))
    all_goals
      have hal:=hidden (show (a++r.1.tell).length≤3004003000 by rw [List.length_append];have:=HTL.out;have:=HLA.out;omega)
      have HCB:Hid (∀ N,CallsIn (Fence.wide.inRound l) N Tryz.prog 14 _ w3 _):=hidden (fun N=>CallsIn.inRound l (callsIn_wide.2 (Tryz.Builder_WriteByte_k (pb+1) (pb+1) (Lib.byteCells (a++r.1.tell)) 10 w3 (.inr HB3.out) (by have:=hal.out;rw [Lib.byteCells_length];omega) (by obtain ⟨_,v,hb,_⟩:=HB3.out;exact Nat.le_of_lt (lt_of_block hb)))))
      gi_wp2_with fail
      refine (HCB.out _).mono ?_
      rintro e w4 ⟨rfl,hb4,hl4,hk4⟩
      gi_wp2
      have hM4:Mid ea w sb wb vb lb pb [pb+3,pb+3+1,pb+2] W w4 mo' r.2:=by
        obtain ⟨_,v,hb,_⟩:=HB3.out
        exact HM3.out.kept hX.out hb hl4 hk4
      have hc10:Lib.byteCells (a++r.1.tell)++[.int .u8 10]=Lib.byteCells (a++(r.1.tell++[10])):=by rw [← List.append_assoc,Lib.byteCells_append (a++r.1.tell) [10]];rfl
      rw [hc10] at hb4
      refine ⟨hM4.lie,⟨mo',?_,hM4.mo⟩,?_,hM4.g,hM4.pb,hM4.bel,?_⟩
      · rw [HAF.out];exact hM4.ss
      · rw [HAN.out];exact BOk.of hb4 (.inr rfl) hM4.obj
      · rw [HAN.out]
        have:=HTL.out
        have:=HLN.out
        simp only [List.length_append,List.length_cons,List.length_nil]
        omega
  case done=>
    rintro d W hd hRI hK
    have hlt:(linesL text).take (rawL text).length=linesL text:=by
      have h1:=congrArg List.length (raw_lines text.length text (Nat.le_refl _))
      rw [List.length_map] at h1
      rw [h1,List.take_length]
    have hS:=hidden (callsIn_wide (n:=n - 1) |>.2 (Tryz.Builder_String_any_k (pb+1) (pb+1) _ W hRI.bo.is (Nat.le_of_lt hRI.bo.lt)))
    gi_wp2_with fail
    refine ⟨trivial,hS.out.mono ?_⟩
    rintro e w1 ⟨rfl,-,hb,hk⟩
    gi_wp2
    have hne:d≠pb+1:=by omega
    have hK1:=hk d _ hK (by simpa using hne) (by simp)
    refine ⟨by simp,.inl ⟨_,_,rfl,run_takeDeferred hK1,?_⟩⟩
    refine ⟨_,results_tmp rfl _ _ _,?_,?_⟩
    · rw [runOf,if_neg (by rw [HM.out];omega)]
      rfl
    · have hB1:=hRI.bel
      have hB2:Below w.heap.size W w1:=hb.mono hX.out.up.2.2.2.2.2
      have hB3:=belowK_b (n₀:=w.heap.size) (w:=w) (Nat.le_refl _) w1 d _ (.deferred none) (by have:=hX.out.up;omega) hK1 rfl rfl
      exact (hB1.trans hB2).trans hB3
theorem run_long (D:Far) (text:List UInt8) (ht:3000<text.length) (h64:text.length≤9223372036854775807) (w:World) :
    Calls Tryz.prog 4 #[.string (bs text)] w fun e W'=>e=.returned (.string (bs (runOf D text)))∧Below w.heap.size w W':=by
  have hsz:(bs text).size=text.length:=bs_size text
  obtain ⟨m,hm⟩:∃ m,text.length=m:=⟨_,rfl⟩
  rw [hm] at hsz ht h64
  have d0:decide ((3000:Int)<(m:Int))=true:=by simp;omega
  have hz:runOf D text=[116,111,111,32,108,111,110,103,10]:=by rw [runOf,if_pos (by omega)]
  rw [hz]
  clear hm
  go_enter Tryz.func4,Tryz.ntmps4
  go_wp2
  go_ret
  exact ⟨rfl,Below.refl _ _⟩
theorem run_calls (D:Far) (hD:D.Ok) (ea:Addr) (text:List UInt8) (h64:text.length≤9223372036854775807) (w:World) (g:GW ea w) :
    Calls Tryz.prog 4 #[.string (bs text)] w fun e W'=>e=.returned (.string (bs (runOf D text)))∧Below w.heap.size w W':=by
  by_cases h:3000<text.length
  · exact run_long D text h h64 w
  · exact (callsIn_wide (n:=5)).1 (run_in D hD ea 5 (by omega) text (by omega) w g)
end Go.Proofs.YtlppdppddiecnaaGreatDoor.Run
