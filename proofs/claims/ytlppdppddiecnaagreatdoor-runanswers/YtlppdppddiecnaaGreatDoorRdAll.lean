/-
  RdV, RdH in one text.
-/
import Derived.Test.YtlppdppddiecnaaGreatDoorVoiceTop
import Derived.Deep.CutRange

namespace Go.Proofs.YtlppdppddiecnaaGreatDoor.RVoice
open Go.ChangeShapes Go.WideShapes Go.ChangeAt Go.RowKit Go.Maps Go.Proofs.YtlppdppddiecnaaGreatDoor.Mem Go.Proofs.YtlppdppddiecnaaGreatDoor.VO Go.Proofs.YtlppdppddiecnaaGreatDoor.Voice
set_option linter.unusedVariables false

structure Kv where
  n:Int
  T:Int
  v:Value
  m:Int
  nw:Int
  la:Int
  br:Bool
structure RAt (K:Kv) (w:World) (rb:Nat) (v:Value) (many sp:Int) (f:Sc):Prop where
  box:w.heap[rb]?=some (.cells #[.int .i64 K.n,.int .i64 K.T,K.v,.int .i64 many,.int .i64 sp,v,.int .i64 K.m,.int .i64 K.nw,.int .i64 K.la,.bool K.br] 56 (0,0))
  row:∃ base,w.ownsRow base 83 2 v (lst f).length (vc (lst f))
theorem RAt.cells {K:Kv} {w:World} {rb:Nat} {v:Value} {many sp:Int} {f:Sc} (h:RAt K w rb v many sp f):w.cell? ⟨rb,3,none⟩=some (.int .i64 many)∧w.cell? ⟨rb,4,none⟩=some (.int .i64 sp)∧w.cell? ⟨rb,5,none⟩=some v:=by
  have:=h.box
  refine ⟨?_,?_,?_⟩<;>simp [World.cell?,this]
theorem RAt.free {K:Kv} {w:World} {rb:Nat} {v:Value} {many sp:Int} {f:Sc} (h:RAt K w rb v many sp f) (j:Nat):w.frozen? ⟨rb,j,none⟩=false:=by
  have:=h.box
  simp [World.frozen?,this]
theorem RAt.lt {K:Kv} {w:World} {rb:Nat} {v:Value} {many sp:Int} {f:Sc} (h:RAt K w rb v many sp f):rb<w.heap.size:=lt_of_block h.box
theorem row_ne {w:World} {base n b:Nat} {v:Value} {l:Vs} {cs:Array Value} {t:TypeId} (h:w.ownsRow base 83 2 v n (vc l)) (hb:w.heap[b]?=some (.cells cs t (0,0))) (ht:t≠83):v.ownBlock≠some b:=by
  intro e
  rcases h.2 with ⟨rfl,_⟩ | ⟨g,cap,cur,rfl,_,hg,_⟩
  · simp [Value.ownBlock] at e
  · simp [Value.ownBlock] at e
    subst e
    rw [hg] at hb
    simp at hb
    exact ht hb.2.symm
theorem row_only {w w':World} {base n:Nat} {v:Value} {l:Vs} {bs:List Nat} (h:w.ownsRow base 83 2 v n (vc l)) (ho:Only bs w w') (hv:∀ g,v.ownBlock=some g→g∉bs):w'.ownsRow base 83 2 v n (vc l):=by
  refine ⟨h.1,?_⟩
  rcases h.2 with hl | ⟨g,cap,cur,rfl,hg,hbl,rest⟩
  · exact .inl hl
  · exact .inr ⟨g,cap,cur,rfl,hg,ho.block hbl (hv g rfl),rest⟩
theorem RAt.only {K:Kv} {w w':World} {rb:Nat} {v:Value} {many sp:Int} {f:Sc} {bs:List Nat} (h:RAt K w rb v many sp f) (ho:Only bs w w') (hb:rb∉bs) (hv:∀ g,v.ownBlock=some g→g∉bs):RAt K w' rb v many sp f:=by
  obtain ⟨base,h2⟩:=h.row
  exact ⟨ho.block h.box hb,base,row_only h2 ho hv⟩
theorem RAt.below {K:Kv} {w w':World} {rb:Nat} {v:Value} {many sp:Int} {f:Sc} (h:RAt K w rb v many sp f) (hb:Below w.heap.size w w'):RAt K w' rb v many sp f:=
  h.only (Only.of_below hb []) (by simp) (by simp)
theorem RAt.ne {K:Kv} {w:World} {rb b:Nat} {v:Value} {many sp:Int} {f:Sc} {cs:Array Value} {t:TypeId} (h:RAt K w rb v many sp f) (hb:w.heap[b]?=some (.cells cs t (0,0))) (ht:t≠83):v.ownBlock≠some b:=by
  obtain ⟨base,h2⟩:=h.row
  exact row_ne h2 hb ht
theorem RAt.setS {K:Kv} {w:World} {rb:Nat} {v:Value} {many sp:Int} {f:Sc} (h:RAt K w rb v many sp f) (x:Int):RAt K (w.setCell ⟨rb,4,none⟩ (.int .i64 x)) rb v many x f:=by
  have ho:Only [rb] w (w.setCell ⟨rb,4,none⟩ (.int .i64 x)):=(Only.refl _ _).setCell (by simp) _
  obtain ⟨base,h2⟩:=h.row
  refine ⟨heap_setCell_same w rb 4 _ _ _ h.box,base,row_only h2 ho fun g hg=>?_⟩
  simp
  rintro rfl
  exact h.ne h.box (by decide) hg
theorem RAt.setL {K:Kv} {w:World} {rb base:Nat} {v u:Value} {many sp:Int} {f g:Sc} (h:RAt K w rb v many sp f) (hu:w.ownsRow base 83 2 u (lst g).length (vc (lst g))):RAt K (w.setCell ⟨rb,5,none⟩ u) rb u many sp g:=by
  have ho:Only [rb] w (w.setCell ⟨rb,5,none⟩ u):=(Only.refl _ _).setCell (by simp) _
  refine ⟨heap_setCell_same w rb 5 _ _ _ h.box,base,row_only hu ho fun b hb=>?_⟩
  simp
  rintro rfl
  exact row_ne hu h.box (by decide) hb
theorem RAt.arg {K:Kv} {w:World} {rb:Nat} {v:Value} {many sp:Int} {f:Sc} (h:RAt K w rb v many sp f):∃ a cap,v=.slice a (lst f).length cap∧VArg w a (lst f).length (lst f)∧(lst f).length≤cap:=by
  obtain ⟨base,h2⟩:=h.row
  have:=lst_len f
  obtain ⟨a,cap,h3,h4,_,h5,_⟩:=own_vs h2 (by omega)
  exact ⟨a,cap,h3,h4,h5⟩

def lstN (g:Sc) (j:Nat):Vs:=((List.range j).filter fun i:Nat=>decide (g (i:Int)≠0)).map fun i:Nat=>((i:Int),g (i:Int))
theorem lstN_zero (g:Sc):lstN g 0=[]:=rfl
theorem lstN_end (g:Sc):lstN g 201=lst g:=rfl
theorem lstN_succ (g:Sc) (j:Nat):lstN g (j+1)=lstN g j++if g (j:Int)=0 then [] else [((j:Int),g (j:Int))]:=by
  unfold lstN
  rw [List.range_succ,List.filter_append,List.map_append]
  congr 1
  by_cases q:g (j:Int)=0
  · simp [q]
  · simp [q]
theorem lstN_len (g:Sc) (j:Nat):(lstN g j).length≤j:=by
  unfold lstN
  rw [List.length_map]
  exact Nat.le_trans (List.length_filter_le _ _) (by simp)
theorem lst_ne (f:Sc):(lst f).Pairwise fun p q=>p.1≠q.1:=(lst_rises f).imp fun h e=>by omega
theorem lev_lst {f:Sc} (h:Ok f) (x:Int):lev (lst f) x=f x:=by
  by_cases q:f x=0
  · rw [q]
    exact lev_out _ _ fun p hp e=>by
      have:=(mem_lst h p).1 hp
      rw [e,q] at this
      exact this.2 this.1.symm
  · exact lev_at (lst_ne f) (x,f x) ((mem_lst h _).2 ⟨rfl,q⟩)
theorem lev_step {l:Vs} {i:Nat} (hi:i<l.length) (x:Int):lev (l.take (i+1)) x=lev (l.take i) x+if (l.getD i (0,0)).1=x then (l.getD i (0,0)).2 else 0:=by
  rw [take_succ' hi,lev_app,lev_one]
theorem lev_new {l:Vs} {i:Nat} (hi:i<l.length) (hp:l.Pairwise fun p q=>p.1≠q.1) {x:Int} (he:(l.getD i (0,0)).1=x):lev (l.take i) x=0:=by
  refine lev_out _ _ fun p hm e=>?_
  have h2:l=l.take i++l.getD i (0,0)::l.drop (i+1):=by
    rw [List.getD_eq_getElem?_getD,List.getElem?_eq_getElem hi,Option.getD_some,← List.drop_eq_getElem_cons hi,List.take_append_drop]
  rw [h2,List.pairwise_append] at hp
  exact hp.2.2 p hm (l.getD i (0,0)) (by simp) (by rw [e,he])
theorem lev_pos_le {l:Vs} (h:∀ p∈l,0≤p.2) (x:Int):0≤lev l x:=by
  induction l with
  | nil=>simp [lev]
  | cons p l ih=>
    have h1:=h p (by simp)
    have h2:=ih fun q hq=>h q (by simp [hq])
    show 0≤(if p.1=x then p.2 else 0)+lev l x
    split<;>omega
theorem eighth {s:Int} (h:0≤s):dec s=s - (if 0<s%8 then s / 8+1 else s / 8):=by
  unfold dec
  split<;>omega
def BestOf (K:Vs) (p:Int×Int):Prop:=∀ q∈K,q.2<p.2∨q.2=p.2∧p.1≤q.1
structure BSt (N:Vs) (sp:Int) (i:Nat) (at_ best:Int):Prop where
  a:(at_=-1∧∀ p∈N.take i,p.1≠sp)∨∃ k:Nat,at_=(k:Int)∧k<i∧(N.getD k (0,0)).1=sp
  b:(best=-1∧i=0)∨∃ k:Nat,best=(k:Int)∧k<i∧BestOf (N.take i) (N.getD k (0,0))
theorem BSt.start (N:Vs) (sp:Int):BSt N sp 0 (-1) (-1):=⟨.inl ⟨rfl,by simp⟩,.inl ⟨rfl,rfl⟩⟩
theorem mem_take_succ {l:Vs} {i:Nat} (hi:i<l.length) {q:Int×Int}:q∈l.take (i+1)↔q∈l.take i∨q=l.getD i (0,0):=by
  rw [take_succ' hi,List.mem_append,List.mem_singleton]
theorem rises_before {l:Vs} (h:l.Pairwise fun p q=>p.1<q.1) {i:Nat} (hi:i<l.length) {q:Int×Int} (hq:q∈l.take i):q.1<(l.getD i (0,0)).1:=by
  have h2:l=l.take i++l.getD i (0,0)::l.drop (i+1):=by
    rw [List.getD_eq_getElem?_getD,List.getElem?_eq_getElem hi,Option.getD_some,← List.drop_eq_getElem_cons hi,List.take_append_drop]
  rw [h2,List.pairwise_append] at h
  exact h.2.2 q hq _ (by simp)
theorem getD_take_mem {l:Vs} {i k:Nat} (hk:k<i) (hi:i≤l.length):l.getD k (0,0)∈l.take i:=by
  rw [List.getD_eq_getElem?_getD,List.getElem?_eq_getElem (by omega),Option.getD_some]
  exact List.mem_iff_getElem.2 ⟨k,by rw [List.length_take];omega,by rw [List.getElem_take]⟩
theorem BSt.step {N:Vs} {sp:Int} {i:Nat} {at_ best:Int} (h:BSt N sp i at_ best) (hi:i<N.length) (hr:N.Pairwise fun p q=>p.1<q.1) (at2 best2:Int)
    (ha:at2=if (N.getD i (0,0)).1=sp then (i:Int) else at_) (hb:(best<0∨∃ k:Nat,best=(k:Int)∧(N.getD k (0,0)).2<(N.getD i (0,0)).2)∧best2=(i:Int)∨¬ (best<0∨∃ k:Nat,best=(k:Int)∧(N.getD k (0,0)).2<(N.getD i (0,0)).2)∧best2=best):BSt N sp (i+1) at2 best2:=by
  constructor
  · by_cases q:(N.getD i (0,0)).1=sp
    · rw [ha,if_pos q]
      exact .inr ⟨i,rfl,by omega,q⟩
    · rw [ha,if_neg q]
      rcases h.a with ⟨h1,h2⟩ | ⟨k,h1,h2,h3⟩
      · refine .inl ⟨h1,fun p hp=>?_⟩
        rcases (mem_take_succ hi).1 hp with hp | rfl
        · exact h2 p hp
        · exact q
      · exact .inr ⟨k,h1,by omega,h3⟩
  · right
    rcases h.b with ⟨h1,h2⟩ | ⟨k,h1,h2,h3⟩
    · have hb2:best2=(i:Int):=by
        rcases hb with ⟨_,e⟩ | ⟨c,_⟩
        · exact e
        · exact absurd (.inl (by omega)) c
      rw [hb2]
      refine ⟨i,rfl,by omega,fun p hp=>?_⟩
      subst h2
      rcases (mem_take_succ hi).1 hp with hp | rfl
      · simp at hp
      · exact .inr ⟨rfl,Int.le_refl _⟩
    · by_cases q:(N.getD k (0,0)).2<(N.getD i (0,0)).2
      · have hb2:best2=(i:Int):=by
          rcases hb with ⟨_,e⟩ | ⟨c,_⟩
          · exact e
          · exact absurd (.inr ⟨k,h1,q⟩) c
        rw [hb2]
        refine ⟨i,rfl,by omega,fun p hp=>?_⟩
        rcases (mem_take_succ hi).1 hp with hp | rfl
        · have:=h3 p hp;left;omega
        · exact .inr ⟨rfl,Int.le_refl _⟩
      · have hb2:best2=best:=by
          rcases hb with ⟨c | ⟨k',c1,c2⟩,_⟩ | ⟨_,e⟩
          · omega
          · obtain rfl:k'=k:=by omega
            exact absurd c2 q
          · exact e
        rw [hb2]
        refine ⟨k,h1,by omega,fun p hp=>?_⟩
        rcases (mem_take_succ hi).1 hp with hp | rfl
        · exact h3 p hp
        · have:=rises_before hr hi (getD_take_mem h2 (by omega))
          omega
theorem bestOf_best {g:Sc} (hk:Ok g) {p:Int×Int} (hp:p∈lst g) (hb:BestOf (lst g) p):Best g p:=by
  have h1:=(mem_lst hk p).1 hp
  refine ⟨h1.1,h1.2,fun x=>?_⟩
  by_cases q:g x=0
  · have:=hk.lo p.1
    rw [h1.1] at this
    have h2:=h1.2
    left;omega
  · exact hb (x,g x) ((mem_lst hk _).2 ⟨rfl,q⟩)

def RHas (K:Kv) (w:World) (rb:Nat) (many sp:Int) (f:Sc):Prop:=∃ v,RAt K w rb v many sp f
structure LSt (K:Kv) (w wr:World) (rb:Nat) (v u:Value) (many sp:Int) (f g:Sc) (j:Nat):Prop where
  bel:Below w.heap.size w wr
  at_:RAt K wr rb v many sp f
  own:wr.ownsRow w.heap.size 83 2 u (lstN g j).length (vc (lstN g j))
theorem LSt.below {K:Kv} {w wr w':World} {rb:Nat} {v u:Value} {many sp:Int} {f g:Sc} {j:Nat} (h:LSt K w wr rb v u many sp f g j) (hb:Below wr.heap.size wr w'):LSt K w w' rb v u many sp f g j:=
  ⟨h.bel.trans (hb.mono h.bel.size),h.at_.below hb,own_below h.own hb⟩
theorem LSt.skip {K:Kv} {w wr:World} {rb:Nat} {v u:Value} {many sp:Int} {f g:Sc} {j:Nat} (h:LSt K w wr rb v u many sp f g j) (hz:g (j:Int)=0):LSt K w wr rb v u many sp f g (j+1):=by
  have e:lstN g (j+1)=lstN g j:=by rw [lstN_succ,if_pos hz,List.append_nil]
  exact ⟨h.bel,h.at_,by rw [e];exact h.own⟩
theorem LSt.more {K:Kv} {w wr w2:World} {rb:Nat} {v u u2:Value} {many sp:Int} {f g:Sc} {j:Nat} {s:Int} (h:LSt K w wr rb v u many sp f g j) (hrb:rb<w.heap.size) (hvb:∀ k,v.ownBlock=some k→k<w.heap.size) (hs:g (j:Int)=s) (hz:s≠0) (O:Obj) (hown:w2.ownsRow w.heap.size 83 2 u2 ((lstN g j).length+1) (vc (lstN g j)++vc [((j:Int),s)])) (hg:(wr.alloc O).grownBy w2 u.ownBlock):LSt K w w2 rb v u2 many sp f g (j+1):=by
  have e:lstN g (j+1)=lstN g j++[((j:Int),s)]:=by rw [lstN_succ,if_neg (by rw [hs];exact hz),hs]
  have hu:∀ k,u.ownBlock=some k→w.heap.size≤k:=fun k hk=>(h.own.lt k hk).1
  have hb:=below_alloc h.bel O
  have hb2:Below w.heap.size w w2:=hb.grown hg hb.size hu
  have ho:Only (match u.ownBlock with | some k=>[k] | none=>[]) (wr.alloc O) w2:=(Only.refl _ _).grown hg (by intro k hk;rw [hk];simp)
  refine ⟨hb2,(h.at_.below ((Below.refl _ _).alloc (Nat.le_refl _) O)).only ho ?_ ?_,?_⟩
  · cases hc:u.ownBlock with
    | none=>simp
    | some k=>have:=hu k hc;simp;omega
  · intro k hk
    have:=hvb k hk
    cases hc:u.ownBlock with
    | none=>simp
    | some k'=>have:=hu k' hc;simp;omega
  · rw [e,List.length_append,vc_app];exact hown
theorem vlt {K:Kv} {w:World} {rb:Nat} {v:Value} {many sp:Int} {f:Sc} (h:RAt K w rb v many sp f):∀ k,v.ownBlock=some k→k<w.heap.size:=by
  intro k hk
  obtain ⟨base,h2⟩:=h.row
  exact (h2.lt k hk).2

theorem argS {K:Kv} {w:World} {rb:Nat} {a:Option Addr} {n cap:Nat} {many sp:Int} {f:Sc} (h:RAt K w rb (.slice a n cap) many sp f):n=(lst f).length∧VArg w a n (lst f):=by
  obtain ⟨a',cap',e,h1,_⟩:=h.arg
  simp only [Value.slice.injEq] at e
  obtain ⟨rfl,rfl,rfl⟩:=e
  exact ⟨rfl,h1⟩
set_option maxRecDepth 100000 in
theorem rhear_long (K:Kv) (rb n cap:Nat) (a:Option Addr) (w:World) (hn:200<n) (hm:n≤9223372036854775807) :
    Calls Tryz.prog 34 #[.pointer (some ⟨rb,3,none⟩),.slice a n cap] w fun e w'=>e=.returned (.int .i64 4)∧w'=w:=by
  have d:decide (200<(n:Int))=true:=by simp;omega
  go_enter Tryz.func34,Tryz.ntmps34
  go_wp2_with fail
  go_ret
  exact ⟨rfl,rfl⟩
set_option maxHeartbeats 4000000 in
set_option maxRecDepth 100000 in
theorem rhear_in (K:Kv) (rb n cap:Nat) (va:Option Addr) (nl vcap:Nat) (a:Option Addr) (many sp:Int) (f:Sc) (l:Vs) (w:World) (hV:RAt K w rb (.slice va nl vcap) many sp f) (hI:Inv f sp) (hA:VArg w a n l) (hn:n≤200) :
    Calls Tryz.prog 34 #[.pointer (some ⟨rb,3,none⟩),.slice a n cap] w fun e w'=>(hf f l≠0∧e=.returned (.int .i64 (hf f l:Int))∧Below w.heap.size w w')∨(hf f l=0∧e=.returned (.int .i64 0)∧RHas K w' rb many (spk (nx f l) sp) (nx f l)∧Only [rb] w w'):=by
  have d:decide (200<(n:Int))=false:=by simp;omega
  have hl:=hA.2.1
  have HA:=hidden hA
  have HV:=hidden hV
  have HI:=hidden hI
  obtain ⟨h,hh⟩:∃ h,hf f l=h:=⟨_,rfl⟩
  rw [hh]
  have HH:=hidden hh
  have HB7:Hid (∀ e,vf l=e→e≠0→h=e):=fun e q1 q2=>by rw [← HH.out];unfold hf;rw [if_neg (by omega),if_pos (by rw [q1];exact q2),q1]
  have hnl:=(argS hV).1
  have hnl2:=hI.len
  have hnl3:nl≤200:=by omega
  have HNL:=hidden hnl
  have hrb:=hV.lt
  have hvb:=vlt hV
  have HVB:=hidden hvb
  clear hA hV hI hh hvb hnl hnl2
  obtain ⟨i0,hii,hz0,hz1,hz2⟩:=info_parts infoVO
  go_enter Tryz.func34,Tryz.ntmps34
  go_wp2_with fail
  go_loopg [5] n (fun g y wr=>∃ (i:Nat),i+g=n∧y=.int .i64 (i:Int)∧Hid (Below w.heap.size w wr∧Oks (l.take i)))
  case atStart=>exact ⟨0,by omega,rfl,Below.refl _ _,oks_nil⟩
  case round=>
    obtain ⟨i,hig,rfl,HS⟩:=hrel
    by_cases hi:i<n
    · have hiz:(i:Int)<(n:Int):=by omega
      obtain ⟨ab,ao,rfl,hal,hcs⟩:=(HA.out.below HS.out.1).at (by omega)
      obtain ⟨c0,c1⟩:=hcs i hi
      obtain ⟨x,y,hp⟩:∃ x y,l.getD i (0,0)=(x,y):=⟨_,_,rfl⟩
      rw [hp] at c0 c1
      simp only at c0 c1
      have HPd:=hidden hp
      clear hp hcs
      by_cases hk:okv (x,y)=true
      · have hb:=(okv_iff _).1 hk
        simp only at hb
        have HOK:=hidden hk
        have d1:decide (x<0)=false:=by simp;omega
        have d2:decide (200<x)=false:=by simp;omega
        have d3:decide (y<0)=false:=by simp;omega
        have d4:decide (127<y)=false:=by simp;omega
        clear hb hk
        go_wp2_with fail
        go_loopg [6] i (fun g y wr=>∃ (k:Nat),k+g=i∧y=.int .i64 (k:Int)∧Hid (Below w.heap.size w wr∧∀ p∈l.take k,p.1≠x))
        case atStart=>exact ⟨0,by omega,rfl,HS.out.1,by simp⟩
        case round=>
          obtain ⟨k,hkg,rfl,HK⟩:=hrel
          clear c0 c1 hal
          by_cases hki:k<i
          · have hkz:(k:Int)<(i:Int):=by omega
            obtain ⟨ab',ao',hae,hal,hcs⟩:=(HA.out.below HK.out.1).at (by omega)
            cases hae
            obtain ⟨c0,c1⟩:=hcs i hi
            obtain ⟨e0,e1⟩:=hcs k (by omega)
            rw [HPd.out] at c0 c1
            obtain ⟨x2,y2,hp2⟩:∃ x y,l.getD k (0,0)=(x,y):=⟨_,_,rfl⟩
            rw [hp2] at e0 e1
            simp only at c0 c1 e0 e1
            have HP2:=hidden hp2
            clear hp2 hcs
            by_cases hx:x2=x
            · have d5:(x2==x)=true:=by simpa using hx
              have HX:=hidden hx
              have HE:Hid (h=7):=HB7.out 7 (vf_clash (by omega) HS.out.2 (by rw [HPd.out];exact HOK.out) ⟨l.getD k (0,0),by
                rw [List.getD_eq_getElem?_getD,List.getElem?_eq_getElem (by omega),Option.getD_some]
                exact List.mem_iff_getElem.2 ⟨k,by rw [List.length_take];omega,by rw [List.getElem_take]⟩,by rw [HP2.out,HPd.out];exact HX.out⟩) (by decide)
              clear hx
              go_wp2_with fail
              go_quiet (fail)
              go_wp2_with fail
              go_ret
              exact .inl ⟨by rw [HE.out];decide,by rw [HE.out];rfl,below_drewN HK.out.1 _⟩
            · have d5:(x2==x)=false:=by simpa using hx
              have HX:=hidden hx
              clear hx
              go_wp2_with fail
              go_quiet (fail)
              go_wp2_with fail
              go_roundg (i - (k+1))
              case measure=>omega
              case rel=>
                refine ⟨k+1,by omega,by go_num,below_drewN HK.out.1 _,fun p hp=>?_⟩
                rcases (mem_take_succ (by omega)).1 hp with hp | rfl
                · exact HK.out.2 p hp
                · rw [HP2.out];exact HX.out
          · have hkz:¬ (k:Int)<(i:Int):=by omega
            obtain rfl:k=i:=by omega
            have HN:Hid (Oks (l.take (k+1))):=oks_next (by omega) HS.out.2 (by rw [HPd.out];exact HOK.out) (by rw [HPd.out];rintro ⟨p,q1,q2⟩;exact HK.out.2 p q1 q2)
            go_wp2_with fail
            go_roundg (n - (k+1))
            case measure=>omega
            case rel=>exact ⟨k+1,by omega,by go_num,HK.out.1,HN.out⟩
      · have HE:Hid (h=1):=HB7.out 1 (vf_bad (by omega) HS.out.2 (by rw [HPd.out];exact hk)) (by decide)
        have hb:¬ (0≤x∧x≤200∧0≤y∧y≤127):=fun q=>hk ((okv_iff _).2 q)
        clear hk
        by_cases h0:x<0
        · have d1:decide (x<0)=true:=by simpa using h0
          go_wp2_with fail
          go_ret
          exact .inl ⟨by rw [HE.out];decide,by rw [HE.out];rfl,HS.out.1⟩
        · have d1:decide (x<0)=false:=by simpa using h0
          by_cases h1:200<x
          · have d2:decide (200<x)=true:=by simpa using h1
            go_wp2_with fail
            go_ret
            exact .inl ⟨by rw [HE.out];decide,by rw [HE.out];rfl,HS.out.1⟩
          · have d2:decide (200<x)=false:=by simpa using h1
            by_cases h2:y<0
            · have d3:decide (y<0)=true:=by simpa using h2
              go_wp2_with fail
              go_ret
              exact .inl ⟨by rw [HE.out];decide,by rw [HE.out];rfl,HS.out.1⟩
            · have d3:decide (y<0)=false:=by simpa using h2
              have h3:127<y:=by omega
              have d4:decide (127<y)=true:=by simpa using h3
              go_wp2_with fail
              go_ret
              exact .inl ⟨by rw [HE.out];decide,by rw [HE.out];rfl,HS.out.1⟩
    · have hiz:¬ (i:Int)<(n:Int):=by omega
      obtain rfl:n=i:=by omega
      have hok:Oks l:=by have:=HS.out.2;rw [List.take_of_length_le (by omega)] at this;exact this
      have HOK:=hidden hok
      have HNX:=hidden (ok_nx HI.out.ok hok)
      have HB0:=hidden HS.out.1
      clear hok HS HB7 hi hig
      have HS0:Hid (LSt K w wr rb (.slice va nl vcap) (.slice none 0 0) many sp f (nx f l) 0):=⟨HB0.out,HV.out.below HB0.out,by rw [lstN_zero];simpa [vc] using World.ownsRow_nil _ _ _ _⟩
      clear HB0
      go_wp2_with fail
      go_loopg [7,8] 201 (fun g u y wr=>∃ (j:Nat) (u':Value),j+g=201∧u'=u∧y=.int .i64 (j:Int)∧Hid (LSt K w wr rb (.slice va nl vcap) u' many sp f (nx f l) j))
      case atStart=>exact ⟨0,_,by omega,rfl,rfl,HS0⟩
      case round=>
        obtain ⟨j,u,hjg,rfl,rfl,HS⟩:=hrel
        clear HS0
        by_cases hj:j<201
        · have hjz:(j:Int)≤200:=by omega
          obtain ⟨wo,rfl⟩:∃ x,x=wr:=⟨_,rfl⟩
          have c2:=HS.out.at_.cells.2.2
          have HVL:=hidden (argS HS.out.at_).2
          have HAL:=hidden (HA.out.below HS.out.bel)
          have hfj:=HI.out.ok.lo (j:Int)
          have hfh:=HI.out.ok.hi (j:Int)
          go_wp2_with fail
          go_loopg [9,10] nl (fun g s y wr=>∃ (i:Nat),i+g=nl∧s=.int .i64 (lev ((lst f).take i) (j:Int))∧y=.int .i64 (i:Int)∧wo=wr)
          case atStart=>exact ⟨0,by omega,rfl,rfl,rfl⟩
          case round=>
            obtain ⟨i,hig,rfl,rfl,rfl⟩:=hrel
            by_cases hi:i<nl
            · have hiz:(i:Int)<(nl:Int):=by omega
              obtain ⟨vb,vo,rfl,hvl,hcs⟩:=HVL.out.at (by omega)
              obtain ⟨k0,k1⟩:=hcs i hi
              have hst:=lev_step (l:=lst f) (i:=i) (by have:=HNL.out;omega) (j:Int)
              have hnw:=lev_new (l:=lst f) (i:=i) (by have:=HNL.out;omega) (lst_ne f) (x:=(j:Int))
              obtain ⟨x,y,hp⟩:∃ x y,(lst f).getD i (0,0)=(x,y):=⟨_,_,rfl⟩
              rw [hp] at k0 k1 hst hnw
              simp only at k0 k1 hst hnw
              clear hp hcs
              by_cases hx:x=(j:Int)
              · rw [if_pos hx,hnw hx] at hst
                have HST:Hid (lev ((lst f).take (i+1)) (j:Int)=y):=by unfold Hid;omega
                have d5:(x==(j:Int))=true:=by simpa using hx
                clear hst hnw hx
                go_wp2_with fail
                go_roundg (nl - (i+1))
                case measure=>omega
                case rel=>exact ⟨i+1,by omega,by rw [HST.out],by go_num,rfl⟩
              · rw [if_neg hx] at hst
                have HST:Hid (lev ((lst f).take (i+1)) (j:Int)=lev ((lst f).take i) (j:Int)):=by unfold Hid;omega
                have d5:(x==(j:Int))=false:=by simpa using hx
                clear hst hnw hx
                go_wp2_with fail
                go_roundg (nl - (i+1))
                case measure=>omega
                case rel=>exact ⟨i+1,by omega,by rw [HST.out],by go_num,rfl⟩
            · have hiz:¬ (i:Int)<(nl:Int):=by omega
              obtain rfl:nl=i:=by omega
              have hfe:lev ((lst f).take nl) (j:Int)=f (j:Int):=by rw [List.take_of_length_le (by have:=HNL.out;omega)];exact lev_lst HI.out.ok _
              rw [hfe]
              have hei:=eighth hfj
              obtain ⟨s,hs⟩:∃ s,f (j:Int)=s:=⟨_,rfl⟩
              rw [hs] at hei hfj hfh ⊢
              have HSj:=hidden hs
              have HEI:=hidden hei
              clear hfe hs hei hi hig
              go_upto_if 106 with fail
              go_cut [11] from 106 to 108 (fun c wx=>c=.int .i64 (if 0<s%8 then s / 8+1 else s / 8)∧wx=wo)
              case first=>
                by_cases h8:0<s%8
                · have d8:decide (0<s%8)=true:=by simpa using h8
                  have HE8:Hid ((if 0<s%8 then s / 8+1 else s / 8)=s / 8+1):=by unfold Hid;rw [if_pos h8]
                  go_wp2_with fail
                  go_meet
                  exact ⟨by rw [HE8.out],rfl⟩
                · have d8:decide (0<s%8)=false:=by simpa using h8
                  have HE8:Hid ((if 0<s%8 then s / 8+1 else s / 8)=s / 8):=by unfold Hid;rw [if_neg h8]
                  go_wp2_with fail
                  go_meet
                  exact ⟨by rw [HE8.out],rfl⟩
              case rest=>
              obtain ⟨rfl,rfl⟩:=hcut
              obtain ⟨wo,rfl⟩:∃ x,x=wc:=⟨_,rfl⟩
              have hq0:0≤(if 0<s%8 then s / 8+1 else s / 8)∧(if 0<s%8 then s / 8+1 else s / 8)≤16256:=by split<;>omega
              obtain ⟨q,hq⟩:∃ q,(if 0<s%8 then s / 8+1 else s / 8)=q:=⟨_,rfl⟩
              rw [hq] at HEI hq0 ⊢
              obtain ⟨hq1,hq2⟩:=hq0
              have hsd0:=dec_lo hfj
              have hsd1:=dec_le hfj
              rw [HEI.out] at hsd0 hsd1
              clear hq
              go_wp2_with fail
              go_loopg [9,12] n (fun g t y wr=>∃ (i:Nat),i+g=n∧t=.int .i64 (s - q+16*lev (l.take i) (j:Int))∧y=.int .i64 (i:Int)∧wo=wr)
              case atStart=>exact ⟨0,by omega,by simp [lev],rfl,rfl⟩
              case round=>
                obtain ⟨i,hig,rfl,rfl,rfl⟩:=hrel
                by_cases hi:i<n
                · have hiz2:(i:Int)<(n:Int):=by omega
                  obtain ⟨ab,ao,rfl,hal,hcs⟩:=HAL.out.at (by omega)
                  obtain ⟨k0,k1⟩:=hcs i hi
                  have hst:=lev_step (l:=l) (i:=i) (by omega) (j:Int)
                  obtain ⟨b0,b1,_⟩:=lev_bound (oks_take HOK.out i) (j:Int)
                  have hyk:=(okv_iff _).1 (HOK.out.1 (l.getD i (0,0)) (by rw [List.getD_eq_getElem?_getD,List.getElem?_eq_getElem (by omega)];exact List.getElem_mem _))
                  obtain ⟨x,y,hp⟩:∃ x y,l.getD i (0,0)=(x,y):=⟨_,_,rfl⟩
                  rw [hp] at k0 k1 hst hyk
                  simp only at k0 k1 hst hyk
                  obtain ⟨_,_,hy0,hy1⟩:=hyk
                  clear hp hcs
                  obtain ⟨e,he⟩:∃ e,lev (l.take i) (j:Int)=e:=⟨_,rfl⟩
                  rw [he] at hst b0 b1 ⊢
                  by_cases hx:x=(j:Int)
                  · rw [if_pos hx] at hst
                    have HST:=hidden hst
                    have d5:(x==(j:Int))=true:=by simpa using hx
                    clear hst hx he
                    go_wp2_with fail
                    go_roundg (n - (i+1))
                    case measure=>omega
                    case rel=>exact ⟨i+1,by omega,by rw [HST.out];congr 1;omega,by go_num,rfl⟩
                  · rw [if_neg hx] at hst
                    have HST:=hidden hst
                    have d5:(x==(j:Int))=false:=by simpa using hx
                    clear hst hx he
                    go_wp2_with fail
                    go_roundg (n - (i+1))
                    case measure=>omega
                    case rel=>exact ⟨i+1,by omega,by rw [HST.out];congr 1;omega,by go_num,rfl⟩
                · have hiz2:¬ (i:Int)<(n:Int):=by omega
                  obtain rfl:n=i:=by omega
                  have hge:s - q+16*lev (l.take n) (j:Int)=nx f l (j:Int):=by
                    rw [List.take_of_length_le (by omega)]
                    unfold nx
                    rw [HSj.out,HEI.out]
                  rw [hge]
                  obtain ⟨z,hz⟩:∃ z,nx f l (j:Int)=z:=⟨_,rfl⟩
                  have hzl:=HNX.out.lo (j:Int)
                  rw [hz] at hzl
                  rw [hz]
                  have HZ:=hidden hz
                  clear hge hz hi hig
                  by_cases h0:z=0
                  · have d9:decide (0<z)=false:=by simp;omega
                    have HS2:=hidden (HS.out.skip (by rw [HZ.out];exact h0))
                    clear h0
                    go_wp2_with fail
                    go_roundg (201 - (j+1))
                    case measure=>omega
                    case rel=>exact ⟨j+1,u,by omega,rfl,by go_num,HS2⟩
                  · have d9:decide (0<z)=true:=by simp;omega
                    have HMO:=hidden (fun u2 w2 hown hg=>HS.out.more (u2:=u2) (w2:=w2) hrb HVB.out HZ.out h0 (.cells #[.int .i64 (j:Int),.int .i64 z] 83) hown hg)
                    have HN:=hidden (VBox.new wo ((j:Int),z)).news
                    have HO1:=hidden (HS.out.own.alloc (.cells #[.int .i64 (j:Int),.int .i64 z] 83))
                    have hb1:=HS.out.bel.size
                    have hkl:=lstN_len (nx f l) j
                    clear h0
                    go_wp2_with (at_builtin;refine wpList_append_own _ rfl _ _ 50 rfl w.heap.size 83 i0 _ 2 16 Tryz.underlying50 hii hz0 hz1 hz2 rfl (by decide) _ (lstN (nx f l) j).length (vc (lstN (nx f l) j)) rfl HO1.out ⟨wo.heap.size,0,none⟩ 1 1 (vc [((j:Int),z)]) rfl rfl ?news (vc_cell _) ?b1 ?b2 ?b3 ?next)
                    case news=>first | exact HN.out | (intro j u h;exact h)
                    case b1=>unfold maxLen;omega
                    case b2=>omega
                    case b3=>first | omega | (simp;omega)
                    case next=>
                      intro u2 w2 hown hgrow _
                      have HS2:=hidden (HMO.out u2 w2 hown hgrow)
                      clear hown hgrow HMO
                      go_wp2_with fail
                      go_roundg (201 - (j+1))
                      case measure=>omega
                      case rel=>exact ⟨j+1,u2,by omega,rfl,by go_num,HS2⟩
        · have hjz:¬ (j:Int)≤200:=by omega
          obtain rfl:j=201:=by omega
          have hown:=HS.out.own
          rw [lstN_end] at hown
          have HH2:Hid (h=if 200<(lst (nx f l)).length then 4 else 0):=by
            unfold Hid
            rw [← HH.out]
            unfold hf
            rw [if_neg (by omega),if_neg (by rw [(vf_ok l).2 HOK.out];simp)]
          obtain ⟨N,hN⟩:∃ N,lst (nx f l)=N:=⟨_,rfl⟩
          have HNr:Hid (N.Pairwise fun p q=>p.1<q.1):=by unfold Hid;rw [← hN];exact lst_rises _
          have HNd:=hidden hN
          rw [hN] at HH2
          have hNl:N.length≤201:=by rw [← hN];exact lst_len _
          obtain ⟨ua,ucap,rfl,hUA,_,hucap,_⟩:=own_vs hown (by rw [hN];omega)
          rw [hN] at hUA
          obtain ⟨nn,hnn⟩:∃ nn,N.length=nn:=⟨_,rfl⟩
          rw [hN,hnn] at hown ⊢
          rw [hnn] at hUA HH2 hNl
          have HUA:=hidden hUA
          have HOW:=hidden hown
          have HNN:=hidden hnn
          have HB1:=hidden HS.out.bel
          have HR1:=hidden HS.out.at_
          clear hUA hown hnn hN HS hj hjg hucap
          obtain ⟨wo,rfl⟩:∃ x,x=wr:=⟨_,rfl⟩
          by_cases h2:200<nn
          · have d2:decide (200<(nn:Int))=true:=by simp;omega
            have HE:Hid (h=4):=by unfold Hid;rw [HH2.out,if_pos h2]
            go_wp2_with fail
            go_ret
            exact .inl ⟨by rw [HE.out];decide,by rw [HE.out];rfl,HB1.out⟩
          · have d2:decide (200<(nn:Int))=false:=by simp;omega
            have HE:Hid (h=0):=by unfold Hid;rw [HH2.out,if_neg h2]
            have hf2:=HR1.out.free 5
            have hc2:=HR1.out.cells.2.2
            have HR5:=hidden (HR1.out.setL (g:=nx f l) (u:=.slice ua nn ucap) (base:=w.heap.size) (by rw [HNd.out,HNN.out];exact HOW.out))
            have HO5:Hid (Only [rb] w (wo.setCell ⟨rb,5,none⟩ (.slice ua nn ucap))):=(Only.of_below HB1.out [rb]).setCell (by simp) _
            obtain ⟨w5,hw5⟩:∃ w5,wo.setCell ⟨rb,5,none⟩ (.slice ua nn ucap)=w5:=⟨_,rfl⟩
            rw [hw5] at HR5 HO5
            have HW5:=hidden hw5
            clear hw5 h2 HB1 HR1 HUA HOW
            go_upto_region 37 with fail
            rw [HW5.out]
            clear HW5 hf2 hc2
            go_wp2_with fail
            go_loopg [13,14,15] nn (fun g p q y wr=>∃ (i:Nat) (A B:Int),i+g=nn∧p=.int .i64 A∧q=.int .i64 B∧y=.int .i64 (i:Int)∧Hid (BSt N sp i A B∧Below w5.heap.size w5 wr))
            case atStart=>exact ⟨0,-1,-1,by omega,rfl,rfl,rfl,BSt.start _ _,Below.refl _ _⟩
            case round=>
              obtain ⟨i,A,B,hig,rfl,rfl,rfl,HS⟩:=hrel
              by_cases hi:i<nn
              · have hiz2:(i:Int)<(nn:Int):=by omega
                obtain ⟨x,y,hp⟩:∃ x y,N.getD i (0,0)=(x,y):=⟨_,_,rfl⟩
                have HPd:=hidden hp
                have HBS:=hidden HS.out.1
                clear hp
                have c1:=(HR5.out.below HS.out.2).cells.2.1
                have hVA:=(argS (HR5.out.below HS.out.2)).2
                rw [HNd.out] at hVA
                obtain ⟨nb,no,rfl,hnb,hcs⟩:=hVA.at (by omega)
                obtain ⟨k0,k1⟩:=hcs i hi
                rw [HPd.out] at k0 k1
                simp only at k0 k1
                have HW:=hidden HS.out.2
                clear HS hVA hcs
                go_upto_region 42 with fail
                go_quiet (fail)
                obtain ⟨wq,hwq⟩:∃ wq,wr.drewN nq=wq:=⟨_,rfl⟩
                have HWq:Hid (Below w5.heap.size w5 wq):=by rw [← hwq];exact below_drewN HW.out _
                rw [hwq]
                clear hwq HW c1 k0 k1 hnb
                go_upto_if 163 with fail
                go_cut [13] from 163 to 164 (fun c wx=>c=.int .i64 (if x=sp then (i:Int) else A)∧wx=wq)
                case first=>
                  by_cases hx:x=sp
                  · have d5:(x==sp)=true:=by simpa using hx
                    have HE5:Hid ((if x=sp then (i:Int) else A)=(i:Int)):=by unfold Hid;rw [if_pos hx]
                    clear hx
                    go_wp2_with fail
                    go_meet
                    exact ⟨by rw [HE5.out],rfl⟩
                  · have d5:(x==sp)=false:=by simpa using hx
                    have HE5:Hid ((if x=sp then (i:Int) else A)=A):=by unfold Hid;rw [if_neg hx]
                    clear hx
                    go_wp2_with fail
                    go_meet
                    exact ⟨by rw [HE5.out],rfl⟩
                case rest=>
                obtain ⟨rfl,rfl⟩:=hcut
                obtain ⟨wq,rfl⟩:∃ x,x=wc:=⟨_,rfl⟩
                obtain ⟨A2,hA2⟩:∃ A2,(if x=sp then (i:Int) else A)=A2:=⟨_,rfl⟩
                rw [hA2]
                have HA2:=hidden hA2
                clear hA2
                obtain ⟨bb,hbb⟩:∃ bb:Bool,(bb=true∧(B<0∨∃ k:Nat,B=(k:Int)∧(N.getD k (0,0)).2<(N.getD i (0,0)).2))∨(bb=false∧¬ (B<0∨∃ k:Nat,B=(k:Int)∧(N.getD k (0,0)).2<(N.getD i (0,0)).2)):=by
                  by_cases q:(B<0∨∃ k:Nat,B=(k:Int)∧(N.getD k (0,0)).2<(N.getD i (0,0)).2)
                  · exact ⟨true,.inl ⟨rfl,q⟩⟩
                  · exact ⟨false,.inr ⟨rfl,q⟩⟩
                have HBB:=hidden hbb
                clear hbb
                go_upto_region 44 with fail
                go_cut [179] from 165 to 179 (fun c wx=>c=.bool bb∧Hid (Below w5.heap.size w5 wx))
                case first=>
                  have hVA:=(argS (HR5.out.below HWq.out)).2
                  rw [HNd.out] at hVA
                  obtain ⟨nb',no',hne,hnb,hcs⟩:=hVA.at (by omega)
                  cases hne
                  obtain ⟨k0,k1⟩:=hcs i hi
                  rw [HPd.out] at k0 k1
                  simp only at k0 k1
                  rcases HBS.out.b with ⟨q1,q2⟩ | ⟨k,q1,q2,q3⟩
                  · have HBt:Hid (bb=true):=by
                      rcases HBB.out with ⟨e,_⟩ | ⟨_,e⟩
                      · exact e
                      · exact absurd (.inl (by omega)) e
                    have d6:decide (B<0)=true:=by simp;omega
                    clear q1 q2 hcs hVA
                    go_wp2_with fail
                    go_quiet (fail)
                    go_wp2_with fail
                    go_meet
                    exact ⟨by rw [HBt.out],below_drewN HWq.out _⟩
                  · subst q1
                    have d6:decide ((k:Int)<0)=false:=decide_eq_false (by omega)
                    obtain ⟨bx,by_,hp2⟩:∃ x y,N.getD k (0,0)=(x,y):=⟨_,_,rfl⟩
                    obtain ⟨j0,j1⟩:=hcs k (by omega)
                    rw [hp2] at j0 j1
                    simp only at j0 j1
                    have hkz:(k:Int)<(nn:Int):=by omega
                    have HBt:Hid (decide (by_<y)=bb):=by
                      rcases HBB.out with ⟨e,c | ⟨k',c1,c2⟩⟩ | ⟨e,c⟩
                      · omega
                      · obtain rfl:k'=k:=by omega
                        rw [hp2,HPd.out] at c2
                        rw [e];exact decide_eq_true c2
                      · rw [e];exact decide_eq_false fun c2=>c (.inr ⟨k,rfl,by rw [hp2,HPd.out];exact c2⟩)
                    clear q2 q3 hcs hVA hp2
                    go_wp2_with fail
                    go_quiet (fail)
                    go_wp2_with fail
                    go_meet
                    exact ⟨by rw [HBt.out],below_drewN HWq.out _⟩
                case rest=>
                obtain ⟨rfl,HWr⟩:=hcut
                have hPN:i<N.length:=by rw [HNN.out];exact hi
                have HNX2:=hidden (fun B2 hb=>HBS.out.step hPN HNr.out A2 B2 (by rw [HPd.out];exact HA2.out.symm) hb)
                cases bb with
                | true=>
                  have HS2:=hidden (HNX2.out (i:Int) (by
                    rcases HBB.out with ⟨_,e⟩ | ⟨e,_⟩
                    · exact .inl ⟨e,rfl⟩
                    · cases e))
                  go_wp2_with fail
                  go_roundg (nn - (i+1))
                  case measure=>omega
                  case rel=>exact ⟨i+1,A2,(i:Int),by omega,rfl,rfl,by go_num,HS2.out,HWr.out⟩
                | false=>
                  have HS2:=hidden (HNX2.out B (by
                    rcases HBB.out with ⟨e,_⟩ | ⟨_,e⟩
                    · cases e
                    · exact .inr ⟨e,rfl⟩))
                  go_wp2_with fail
                  go_roundg (nn - (i+1))
                  case measure=>omega
                  case rel=>exact ⟨i+1,A2,B,by omega,rfl,rfl,by go_num,HS2.out,HWr.out⟩
              · have hiz2:¬ (i:Int)<(nn:Int):=by omega
                obtain rfl:nn=i:=by omega
                have hR:=HR5.out.below HS.out.2
                have HR6:=hidden hR
                have hOn:Only [rb] w wr:=HO5.out.trans (Only.of_below HS.out.2 [rb])
                have HOn:=hidden hOn
                have c1:=hR.cells.2.1
                have f1:=hR.free 4
                have hVA:=(argS hR).2
                rw [HNd.out] at hVA
                have hT:N.take nn=N:=List.take_of_length_le (by rw [HNN.out];omega)
                have HBA:=HS.out.1.a
                have HBB:=HS.out.1.b
                rw [hT] at HBA HBB
                clear hR hOn hT HS
                rcases HBB with ⟨q1,q2⟩ | ⟨k,q1,q2,q3⟩
                · have d6:decide (B<0)=true:=decide_eq_true (by omega)
                  have HSP:Hid (spk (nx f l) sp=-1):=spk_nil (rk_nil.2 (by rw [HNd.out];exact List.eq_nil_of_length_eq_zero (by rw [HNN.out];exact q2)))
                  clear q1 q2 HBA hVA
                  go_wp2_with fail
                  go_ret
                  exact .inr ⟨HE.out,rfl,⟨_,by rw [HSP.out];exact HR6.out.setS (-1)⟩,HOn.out.setCell (by simp) _⟩
                · subst q1
                  obtain ⟨nb,no,rfl,hnb,hcs⟩:=hVA.at (by omega)
                  have hmem:∀ m,m<nn→N.getD m (0,0)∈lst (nx f l):=fun m hm=>by
                    rw [HNd.out,List.getD_eq_getElem?_getD,List.getElem?_eq_getElem (by rw [HNN.out];exact hm)]
                    exact List.getElem_mem _
                  have hbst:=bestOf_best HNX.out (hmem k q2) (by rw [HNd.out];exact q3)
                  obtain ⟨t,hrk⟩:=best_rk HNX.out hbst
                  have hsc:=spk_cons (sp:=sp) hrk
                  obtain ⟨k0,k1⟩:=hcs k q2
                  have hbh:=HNX.out.hi (N.getD k (0,0)).1
                  have hbl2:=HNX.out.lo (N.getD k (0,0)).1
                  rw [hbst.1] at hbh hbl2
                  obtain ⟨bx,by_,hp⟩:∃ x y,N.getD k (0,0)=(x,y):=⟨_,_,rfl⟩
                  rw [hp] at k0 k1 hsc hbh hbl2
                  simp only at k0 k1 hsc hbh hbl2
                  have d6:decide ((k:Int)<0)=false:=decide_eq_false (by omega)
                  have hkz:(k:Int)<(nn:Int):=by omega
                  rcases HBA with ⟨r1,r2⟩ | ⟨m,r1,r2,r3⟩
                  · have hgz:nx f l sp=0:=by
                      apply Classical.byContradiction
                      intro c
                      have:=(mem_lst HNX.out (sp,nx f l sp)).2 ⟨rfl,c⟩
                      rw [HNd.out] at this
                      exact r2 _ this rfl
                    have HSP:Hid (spk (nx f l) sp=bx):=by unfold Hid;rw [hsc,if_pos (.inl hgz)]
                    have d7:decide (A<0)=true:=decide_eq_true (by omega)
                    clear r1 r2 hgz hsc hrk hbst hmem hcs hp hVA q2 q3
                    go_wp2_with fail
                    go_quiet (fail)
                    go_wp2_with fail
                    go_ret
                    exact .inr ⟨HE.out,rfl,⟨_,by rw [HSP.out];exact (HR6.out.below (below_drewN (Below.refl _ _) nq)).setS bx⟩,(HOn.out.trans (Only.of_below (below_drewN (Below.refl _ _) nq) [rb])).setCell (by simp) _⟩
                  · subst r1
                    obtain ⟨j0,j1⟩:=hcs m r2
                    have hgm:=(mem_lst HNX.out _).1 (hmem m r2)
                    obtain ⟨ax,ay,hp2⟩:∃ x y,N.getD m (0,0)=(x,y):=⟨_,_,rfl⟩
                    rw [hp2] at j0 j1 r3 hgm
                    simp only at j0 j1 r3 hgm
                    rw [r3] at hgm
                    have hgs:nx f l sp=ay:=hgm.1
                    have hal:=HNX.out.lo sp
                    have hah:=HNX.out.hi sp
                    rw [hgs] at hal hah hsc
                    have d7:decide ((m:Int)<0)=false:=decide_eq_false (by omega)
                    have hmz:(m:Int)<(nn:Int):=by omega
                    by_cases hd:ay+200<by_
                    · have HSP:Hid (spk (nx f l) sp=bx):=by unfold Hid;rw [hsc,if_pos (.inr hd)]
                      have d8:decide (ay+200<by_)=true:=decide_eq_true hd
                      clear r2 r3 hgm hgs hsc hrk hbst hmem hcs hp hp2 hVA q2 q3 hd
                      go_wp2_with fail
                      go_quiet (fail)
                      go_wp2_with fail
                      go_ret
                      exact .inr ⟨HE.out,rfl,⟨_,by rw [HSP.out];exact (HR6.out.below (below_drewN (Below.refl _ _) nq)).setS bx⟩,(HOn.out.trans (Only.of_below (below_drewN (Below.refl _ _) nq) [rb])).setCell (by simp) _⟩
                    · have HSP:Hid (spk (nx f l) sp=sp):=by unfold Hid;rw [hsc,if_neg];rintro (c | c);exact hgm.2 c;exact hd c
                      have d8:decide (ay+200<by_)=false:=decide_eq_false hd
                      clear r2 r3 hgm hgs hsc hrk hbst hmem hcs hp hp2 hVA q2 q3 hd
                      go_wp2_with fail
                      go_quiet (fail)
                      go_wp2_with fail
                      go_ret
                      exact .inr ⟨HE.out,rfl,⟨_,by rw [HSP.out];exact HR6.out.below (below_drewN (Below.refl _ _) nq)⟩,HOn.out.trans (Only.of_below (below_drewN (Below.refl _ _) nq) [rb])⟩
theorem rhear_calls (K:Kv) (rb n cap:Nat) (v:Value) (a:Option Addr) (many sp:Int) (f:Sc) (l:Vs) (w:World) (hV:RAt K w rb v many sp f) (hI:Inv f sp) (hA:VArg w a n l) :
    Calls Tryz.prog 34 #[.pointer (some ⟨rb,3,none⟩),.slice a n cap] w fun e w'=>e=.returned (.int .i64 (hf f l:Int))∧RHas K w' rb many (stS f sp l) (stF f l)∧Only [rb] w w':=by
  have hl:=hA.2.1
  by_cases hn:200<n
  · have e:hf f l=4:=by unfold hf;rw [if_pos (by omega)]
    refine (rhear_long K rb n cap a w hn hA.2.2).mono ?_
    rintro x w' ⟨rfl,rfl⟩
    unfold stS stF
    rw [e,if_neg (by decide),if_neg (by decide)]
    exact ⟨rfl,⟨v,hV⟩,Only.refl _ _⟩
  · obtain ⟨va,vcap,rfl,_⟩:=hV.arg
    refine (rhear_in K rb n cap va _ vcap a many sp f l w hV hI hA (by omega)).mono ?_
    rintro x w' (⟨h1,rfl,h2⟩ | ⟨h1,rfl,h2,h3⟩)
    · unfold stS stF
      rw [if_neg h1,if_neg h1]
      exact ⟨rfl,⟨_,hV.below h2⟩,Only.of_below h2 _⟩
    · unfold stS stF
      rw [h1,if_pos rfl,if_pos rfl]
      exact ⟨rfl,h2,h3⟩
end Go.Proofs.YtlppdppddiecnaaGreatDoor.RVoice
