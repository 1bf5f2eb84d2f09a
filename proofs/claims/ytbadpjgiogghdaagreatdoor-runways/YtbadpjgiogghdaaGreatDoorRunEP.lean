/-
  Words that are edges, three numbers each.
-/
import Derived.Test.YtbadpjgiogghdaaGreatDoorRunXP
import Derived.Deep.AppendLies
import Derived.Deep.RegionHeld3
import Derived.Deep.RegionLaw
namespace Go.Proofs.YtbadpjgiogghdaaGreatDoor.Run
open Go.ChangeShapes Go.WideShapes Go.ChangeAt Go.RowKit Go.Proofs.YtbadpjgiogghdaaGreatDoor.Mem Go.Proofs.YtbadpjgiogghdaaGreatDoor.RN Go.Proofs.YtbadpjgiogghdaaGreatDoor.RC
set_option linter.unusedVariables false

theorem undIS:Tryz.prog.underlying 29=some (.slice (Tryz.prog.elem 29)):=by kernel_rfl
theorem elemIS:Tryz.prog.elem 29=3:=by kernel_rfl
theorem size3 (w:World):(sizeOf 3).run Tryz.prog w=.ok 1 w:=by
  obtain ⟨i0,hii,hz0,hz1,hz2⟩:=info_parts Tree.info3
  simp [sizeOf,typeInfo,hii,hz1]
def cutTo (a:Option Addr) (cap l:Nat):Option Addr:=if cap=l then a else a.map (·.add l)
theorem cut_ints (a:Option Addr) (len cap l:Nat) (hl:l≤len) (w:World) :
    (Instr.slice 29 (.slice a len cap) (some (.int .i64 (l:Int))) none none).run Tryz.prog w=.ok (.slice (cutTo a cap l) (len - l) (cap - l)) w:=by
  rw [run_slice_l w 29 a len cap undIS .i64 l (by omega) (by omega),elemIS,size3]
  simp [Result.andThen,sliced,cutTo]
theorem ints_drop {w:World} {a:Option Addr} {cap l:Nat} {L:List Int} (h:Tree.Ints w a L) (hc:L.length≤cap) (hl:l≤L.length):Tree.Ints w (cutTo a cap l) (L.drop l):=by
  intro j hj
  rw [List.length_drop] at hj
  obtain ⟨b,o,rfl,hx⟩:=h (l+j) (by omega)
  have hne:cap≠l:=by omega
  refine ⟨b,o+l,by simp [cutTo,hne,Addr.add],?_⟩
  rw [show o+l+j=o+(l+j) by omega,hx]
  simp [TM.dg,List.getD_eq_getElem?_getD]

structure ESt (w wr:World) (b B:Nat) (V:Ws) (R:List Int) (a:Option Addr) (c:Nat) (E:List TM.Ed) (v:Value):Prop where
  ws:WAt wr b V
  only:Only [b] w wr
  own:wr.ownsRow B 97 3 v E.length (Tree.mc E)
  rest:Tree.Ints wr a R
  cap:R.length≤c
  low:∀ ad,a=some ad→ad.block<B
  lt:b<w.heap.size∧w.heap.size≤B∧B≤wr.heap.size
theorem ints_only {w w':World} {a:Option Addr} {R:List Int} {L:List Nat} (h:Tree.Ints w a R) (ho:Only L w w') (hL:∀ ad,a=some ad→ad.block∉L):Tree.Ints w' a R:=by
  intro j hj
  obtain ⟨b,o,e,hc⟩:=h j hj
  exact ⟨b,o,e,cell_only ho (hL _ e) hc⟩
theorem cutTo_low {a:Option Addr} {c l B:Nat} (h:∀ ad,a=some ad→ad.block<B):∀ ad,cutTo a c l=some ad→ad.block<B:=by
  intro ad e
  unfold cutTo at e
  split at e
  · exact h ad e
  · cases a with
    | none=>cases e
    | some x=>cases e;have:=h x rfl;show (x.add l).block<B;unfold Addr.add;split<;>exact this
theorem ESt.app {w wr w':World} {b B:Nat} {V:Ws} {R:List Int} {a:Option Addr} {c l:Nat} {E:List TM.Ed} {v v':Value} {O:Obj} {y:TM.Ed} (h:ESt w wr b B V R a c E v) (hl:l≤R.length)
    (hown:w'.ownsRow B 97 3 v' (E.length+1) (Tree.mc E++[.int .i64 y.a,.int .i64 y.b,.int .i64 y.c])) (hg:((wr.alloc O).drew).grownBy w' v.ownBlock):ESt w w' b B V (R.drop l) (cutTo a c l) (c - l) (E++[y]) v':=by
  obtain ⟨l1,l2,l3⟩:=h.lt
  obtain ⟨N,hN,ho⟩:∃ N:List Nat,(∀ k∈N,B≤k)∧Only N wr w':=by
    cases hv:v.ownBlock with
    | none=>exact ⟨[],by simp,(((Only.refl [] wr).alloc O).drew).grown hg (fun k e=>by rw [hv] at e;cases e)⟩
    | some k=>exact ⟨[k],by have:=(h.own.lt k hv).1;simp;omega,(((Only.refl [k] wr).alloc O).drew).grown hg (fun j e=>by rw [hv] at e;cases e;simp)⟩
  refine ⟨h.ws.over ho (fun k hk=>by have:=hN k hk;omega),?_,?_,ints_drop (ints_only h.rest ho (fun ad e hm=>by have:=hN _ hm;have:=h.low _ e;omega)) h.cap hl,by have:=h.cap;simp;omega,cutTo_low h.low,l1,l2,Nat.le_trans l3 ho.2.2.2.1⟩
  · have hs:=h.only.2.2.2.1
    refine ⟨ho.1.trans h.only.1,ho.2.1.trans h.only.2.1,ho.2.2.1.trans h.only.2.2.1,Nat.le_trans hs ho.2.2.2.1,fun k hk hm=>?_⟩
    rw [ho.2.2.2.2 k (by omega) (fun hm2=>by have:=hN k hm2;omega)]
    exact h.only.2.2.2.2 k hk hm
  · rw [List.length_append,Tree.mc_app,Tree.mc_one]
    exact hown
theorem three_parts {L:List Int} (h:3≤L.length):∃ x y z r,L=x::y::z::r:=by
  match L,h with
  | x::y::z::r,_=>exact ⟨x,y,z,r,rfl⟩
set_option maxRecDepth 100000 in
set_option maxHeartbeats 2000000 in
theorem edges_ok (ea:Addr) (b:Nat) (W:Ws) (w:World) (h:WAt w b W) (g:GW ea w) (hb:10≤b) (h3:W.list.1.length%3=0) (hM:W.list.1.length≤100000) :
    Calls Tryz.prog 103 #[.pointer (some ⟨b,0,none⟩)] w fun e w'=>∃ v,e=.returned v∧w'.ownsRow w.heap.size 97 3 v W.edges.1.length (Tree.mc W.edges.1)∧WAt w' b W.edges.2∧Only [b] w w':=by
  have C:=hidden (list_calls ea b W w h g hb)
  have e1:W.edges=(threes W.list.1,W.list.2):=by unfold Ws.edges;rw [if_neg (by omega)]
  rw [e1]
  have HLT:=hidden h.lt
  obtain ⟨XW,hXW⟩:∃ X,W.list=X:=⟨_,rfl⟩
  rw [hXW] at C h3 hM ⊢
  obtain ⟨L,V⟩:=XW
  simp only at C h3 hM ⊢
  clear h g e1 hb hXW
  obtain ⟨i0,hii,hz0,hz1,hz2⟩:=info_parts Tree.infoED
  obtain ⟨n,hn⟩:∃ n,L.length=n:=⟨_,rfl⟩
  rw [hn] at h3 hM C
  have HNN:=hidden hn
  have d0:(n:Int)%3=0:=by omega
  have d1:((n:Int).tmod 3)=0:=by rw [Int.tmod_eq_emod_of_nonneg (by omega)];omega
  clear hn
  go_enter Tryz.func103,Tryz.ntmps103
  go_wp2_with fail
  refine C.out.mono ?_
  rintro e w1 ⟨v,rfl,h1,h2,h3'⟩
  obtain ⟨a,cap,rfl,hA,hnn,hcap,hlow⟩:=Tree.own_ints h1 (by omega)
  have H0:Hid (ESt w w1 b w1.heap.size V L a cap [] (.slice none 0 0)):=hidden
    ⟨h2,h3',World.ownsRow_nil _ _ _ _,hA.1,by rw [HNN.out];exact hcap,fun ad e=>by obtain ⟨g,rfl,_,hg⟩:=hlow ad e;exact hg,HLT.out,h3'.2.2.2.1,Nat.le_refl _⟩
  clear h1 h2 h3' hA hnn hcap hlow
  go_wp2_with fail
  go_loopg [3,4] n (fun g u y wr=>∃ (R:List Int) (a:Option Addr) (c:Nat) (E:List TM.Ed) (v:Value),R.length=g∧g%3=0∧g≤n∧u=.slice a g c∧v=y∧Hid (ESt w wr b w1.heap.size V R a c E v)∧Hid (E++threes R=threes L)∧Hid (E.length≤100000 - g))
  case atStart=>exact ⟨L,a,cap,[],_,HNN.out,h3,Nat.le_refl _,rfl,rfl,H0,rfl,by show 0≤100000 - n;omega⟩
  case round=>
    obtain ⟨R,a,c,E,v,hR,hg3,hgn,rfl,rfl,HS,HT,HE⟩:=hrel
    by_cases hi:0<gk
    · have d2:decide (0<gk)=true:=by simpa using hi
      obtain ⟨x,y,z,r,rfl⟩:=three_parts (L:=R) (by omega)
      have HR:=hidden hR
      obtain ⟨bb,oo,rfl,r0⟩:=HS.out.rest 0 (by simp)
      obtain ⟨bb',oo',e1,r1⟩:=HS.out.rest 1 (by simp)
      cases e1
      obtain ⟨bb',oo',e1,r2⟩:=HS.out.rest 2 (by simp)
      cases e1
      have c0:wr.cell? ⟨bb,oo,none⟩=some (.int .i64 x):=r0
      have c1:wr.cell? ⟨bb,oo+1,none⟩=some (.int .i64 y):=r1
      have c2:wr.cell? ⟨bb,oo+2,none⟩=some (.int .i64 z):=r2
      clear r0 r1 r2
      have hE:E.length≤100000:=by have:=HE.out;omega
      have hsz:=HS.out.lt.2.2
      obtain ⟨m,hm⟩:∃ m,E.length=m:=⟨_,rfl⟩
      have HM:=hidden hm
      rw [hm] at hE
      clear hm hR
      have es:∀ W,(Instr.slice 29 (.slice (some ⟨bb,oo,none⟩) gk c) (some (.int .i64 3)) none none).run Tryz.prog W=.ok (.slice (cutTo (some ⟨bb,oo,none⟩) c 3) (gk - 3) (c - 3)) W:=fun W=>cut_ints _ _ _ 3 (by omega) W
      have HOW:Hid (wr.ownsRow w1.heap.size 97 3 v m (Tree.mc E)):=by rw [← HM.out];exact HS.out.own
      have i1:(1:Int)<(gk:Int):=by omega
      have i2:(2:Int)<(gk:Int):=by omega
      have hms:m≤100000 - gk:=by rw [← HM.out];exact HE.out
      clear hE HE
      go_wp2_with fail
      go_region_law (refine step_append_lies _ (by rfl) _ _ _ (by rfl) w1.heap.size 97 i0 _ 3 24 Tryz.underlying95 hii hz0 hz1 hz2 rfl (by omega) _ m (Tree.mc E) (by rfl) ((HOW.out.alloc _).drew) ⟨wr.heap.size,0,none⟩ 1 1 [.int .i64 x,.int .i64 y,.int .i64 z] (by rfl) (by rfl) (World.news_of_block (cs:=#[.int .i64 x,.int .i64 y,.int .i64 z]) (t:=97) (fr:=(0,0)) (heap_alloc_new wr _)) (by simp [Value.oneCell']) (by omega) (by unfold maxLen;omega) (by omega) (by simp;omega) (wr.heap.size+1) (by simp) ?_;intro gg c3 w3 hown hgrow hat hlt)
      all_goals (
        have HSn:Hid (ESt w w3 b w1.heap.size V r (cutTo (some ⟨bb,oo,none⟩) c 3) (c - 3) (E++[⟨x,y,z⟩]) (.slice (some ⟨gg,0,none⟩) (m+1) c3)):=by
          have:=HS.out.app (l:=3) (y:=⟨x,y,z⟩) (by simp) (by rw [HM.out];exact hown) hgrow
          exact hidden (by simpa using this)
        have HTn:Hid ((E++[⟨x,y,z⟩])++threes r=threes L):=by
          have:=HT.out
          simp only [threes] at this
          show _=_
          rw [List.append_assoc]
          exact this
        have hrl:r.length=gk - 3:=by have:=HR.out;simp at this;omega
        have hEn:(E++[(⟨x,y,z⟩:TM.Ed)]).length≤100000 - (gk - 3):=by rw [List.length_append,HM.out];simp only [List.length_cons,List.length_nil];omega
        clear hown hgrow hat hlt
        go_wp2_with fail
        go_roundg (gk - 3)
        case measure=>omega
        case rel=>exact ⟨r,_,c - 3,_,_,hrl,by omega,by omega,rfl,rfl,HSn,HTn,hEn⟩)
    · have d2:decide (0<gk)=false:=by simpa using hi
      obtain rfl:gk=0:=by omega
      obtain rfl:=List.eq_nil_of_length_eq_zero hR
      go_wp2_with fail
      go_ret
      have h2:=HT.out
      simp only [threes,List.append_nil] at h2
      have h1:=HS.out.own
      rw [h2] at h1
      exact ⟨_,rfl,Tree.own_base h1 HS.out.lt.2.1,HS.out.ws,HS.out.only⟩
theorem list_len {w:World} {b:Nat} {W:Ws} (h:WAt w b W):W.list.1.length≤3001:=by
  have h1:=next_sz h
  unfold Ws.list
  split
  · simp
  · rw [Ws.nums_len]
    have:=cutL_many 44 W.next.1
    omega
theorem edges_bad (ea:Addr) (b:Nat) (W:Ws) (w:World) (h:WAt w b W) (g:GW ea w) (hb:10≤b) (h3:W.list.1.length%3≠0) :
    Calls Tryz.prog 103 #[.pointer (some ⟨b,0,none⟩)] w fun e w'=>∃ v,e=.returned v∧w'.ownsRow w.heap.size 97 3 v W.edges.1.length (Tree.mc W.edges.1)∧WAt w' b W.edges.2∧Only [b] w w':=by
  have C:=hidden (list_calls ea b W w h g hb)
  have hM:=list_len h
  have e1:W.edges=([],W.list.2.ill):=by unfold Ws.edges;rw [if_pos h3]
  rw [e1]
  obtain ⟨XW,hXW⟩:∃ X,W.list=X:=⟨_,rfl⟩
  rw [hXW] at C h3 hM ⊢
  obtain ⟨L,V⟩:=XW
  simp only at C h3 hM ⊢
  clear h g e1 hb hXW
  obtain ⟨n,hn⟩:∃ n,L.length=n:=⟨_,rfl⟩
  rw [hn] at h3 hM C
  obtain ⟨m,hm,hm2⟩:∃ m:Nat,((n:Int).tmod 3)=(m:Int)∧m≠0:=⟨n%3,by rw [Int.tmod_eq_emod_of_nonneg (by omega)];omega,h3⟩
  have d2:((m:Int)==0)=false:=by simpa using hm2
  have d3:((m:Int) != 0)=true:=by simpa using hm2
  have d4:((n:Int)%3)=(m:Int):=by rw [← hm,Int.tmod_eq_emod_of_nonneg (by omega)]
  have hmz:¬ (m:Int)=0:=by omega
  clear hn h3
  go_enter Tryz.func103,Tryz.ntmps103
  go_wp2_with fail
  refine C.out.mono ?_
  rintro e w1 ⟨v,rfl,h1,h2,h3'⟩
  obtain ⟨a,cap,rfl,hA,hnn,hcap,hlow⟩:=Tree.own_ints h1 (by omega)
  obtain ⟨a2,cap2,hb1,-⟩:=h2.ex
  obtain ⟨-,c1⟩:=cells2 hb1
  have f1:=free2 hb1 1
  have H1:=hidden h2
  have HO:=hidden h3'
  clear h1 h2 h3' hA hnn hcap hlow hb1
  go_wp2_with fail
  go_ret
  exact ⟨_,rfl,World.ownsRow_nil _ _ _ _,H1.out.ill,HO.out.setCell (by simp) _⟩
theorem edges_calls (ea:Addr) (b:Nat) (W:Ws) (w:World) (h:WAt w b W) (g:GW ea w) (hb:10≤b) :
    Calls Tryz.prog 103 #[.pointer (some ⟨b,0,none⟩)] w fun e w'=>∃ v,e=.returned v∧w'.ownsRow w.heap.size 97 3 v W.edges.1.length (Tree.mc W.edges.1)∧WAt w' b W.edges.2∧Only [b] w w':=by
  have hM:=list_len h
  by_cases h3:W.list.1.length%3=0
  · exact edges_ok ea b W w h g hb h3 (by omega)
  · exact edges_bad ea b W w h g hb h3
end Go.Proofs.YtbadpjgiogghdaaGreatDoor.Run

