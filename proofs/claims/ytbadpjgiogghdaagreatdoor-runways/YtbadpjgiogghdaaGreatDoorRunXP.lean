/-
  Words that are lists of numbers, edges, bytes; a line's words.
-/
import Derived.Test.YtbadpjgiogghdaaGreatDoorRunWP
import Derived.Test.YtbadpjgiogghdaaGreatDoorTreeAll
import Derived.LoopTactic
import Derived.Deep.LoopGhost
namespace Go.Proofs.YtbadpjgiogghdaaGreatDoor.Run
open Go.ChangeShapes Go.WideShapes Go.ChangeAt Go.RowKit Go.Proofs.YtbadpjgiogghdaaGreatDoor.Mem Go.Proofs.YtbadpjgiogghdaaGreatDoor.RN Go.Proofs.YtbadpjgiogghdaaGreatDoor.RC
set_option linter.unusedVariables false

theorem str_ne {x:List UInt8} (h:x≠[]):(bs x).toList.isEmpty=false:=by rw [bs_toList];simpa using h
theorem split_calls (ea:Addr) (c:UInt8) (x:List UInt8) (w:World) (g:GW ea w) (hx:x.length≤3000) :
    Calls Tryz.prog 83 #[.string (bs x),.string ⟨#[c]⟩] w fun e w'=>e=.returned (.slice (some ⟨w.heap.size,0,none⟩) (cutL c x).length (cutL c x).length)∧w'=w.alloc (.cells ((cutL c x).map fun y=>Value.string (bs y)).toArray 9):=by
  obtain ⟨m,hm⟩:=g.most
  refine (Tryz.strings_Split (bs x) ⟨#[c]⟩ m w (by rw [bs_size];omega) hm (Nat.le_refl 1)).mono ?_
  rintro e w' ⟨rfl,rfl⟩
  have h1:Lib.countB (bs x) ⟨#[c]⟩+1=(cutL c x).length:=by
    rw [cutL_len c x.length x (Nat.le_refl _)]
    unfold Lib.countB
    rw [bs_data]
  rw [cut_bs,h1,List.map_map]
  exact ⟨rfl,rfl⟩
theorem newWords_calls (ea:Addr) (x:List UInt8) (w:World) (g:GW ea w) (hx:x.length≤3000) :
    Calls Tryz.prog 54 #[.string (bs x)] w fun e w'=>∃ b,e=.returned (.pointer (some ⟨b,0,none⟩))∧w.heap.size≤b∧WAt w' b (ws0 x)∧Below w.heap.size w w':=by
  have C:=hidden (split_calls ea 32 x w g hx)
  have hl:=cutL_many 32 x
  have hs:=cutL_sz 32 x.length x (Nat.le_refl _)
  have e0:ws0 x=⟨cutL 32 x,false⟩:=rfl
  rw [e0]
  generalize cutL 32 x=l at C hl hs ⊢
  have HS:Hid (∀ y∈l,y.length≤3000):=hidden (fun y hy=>by have:=hs y hy;omega)
  have HL:Hid (l.length≤4294967296):=hidden (by omega)
  clear g hx hl hs e0
  go_enter Tryz.func54,Tryz.ntmps54
  go_wp2_with fail
  refine C.out.mono ?_
  rintro e w1 ⟨rfl,h1⟩
  have hb:Below w.heap.size w w1:=by rw [h1];exact (Below.refl _ _).alloc (Nat.le_refl _) _
  have hA:SArg w1 (some ⟨w.heap.size,0,none⟩) l:=by rw [h1];exact sarg_new w l 9
  have hz:w1.heap.size=w.heap.size+1:=by rw [h1];simp
  have HB:=hidden hb
  have HA:=hidden hA
  have HZ:=hidden hz
  clear h1 hb hA hz
  go_wp2_with fail
  go_ret
  refine ⟨w1.heap.size,rfl,HB.out.size,⟨⟨_,l.length,heap_alloc_new _ _,Nat.le_refl _,HL.out,?_,?_⟩,HS.out⟩,HB.out.alloc HB.out.size _⟩
  · exact HA.out.only ((Only.refl [] w1).alloc _) (fun _ _=>by simp)
  · rintro ad e
    cases e
    show w.heap.size<w1.heap.size
    have:=HZ.out;omega

structure LSt (w wr:World) (b B:Nat) (V:Ws) (P:List (List UInt8)) (L:List Int) (v:Value):Prop where
  ws:WAt wr b V
  only:Only [b] w wr
  own:wr.ownsRow (B+1) 3 1 v L.length (Tree.ic L)
  parts:SArg wr (some ⟨B,0,none⟩) P
  lt:b<w.heap.size∧w.heap.size≤B∧B<wr.heap.size
theorem LSt.num {w wr w':World} {b B:Nat} {V V':Ws} {P:List (List UInt8)} {L:List Int} {v:Value} (h:LSt w wr b B V P L v) (hw:WAt w' b V') (ho:Only [b] wr w'):LSt w w' b B V' P L v:=
  ⟨hw,h.only.trans ho,ho.owns h.own (fun k hk=>by have:=(h.own.lt k hk).1;have:=h.lt;simp;omega),h.parts.only ho (fun ad e=>by cases e;have:=h.lt;simp;omega),h.lt.1,h.lt.2.1,Nat.lt_of_lt_of_le h.lt.2.2 ho.2.2.2.1⟩
theorem LSt.app {w wr w':World} {b B:Nat} {V:Ws} {P:List (List UInt8)} {L:List Int} {v v':Value} {O:Obj} {y:Int} (h:LSt w wr b B V P L v)
    (hown:w'.ownsRow (B+1) 3 1 v' (L.length+1) (Tree.ic L++[.int .i64 y])) (hg:(wr.alloc O).grownBy w' v.ownBlock):LSt w w' b B V P (L++[y]) v':=by
  obtain ⟨l1,l2,l3⟩:=h.lt
  obtain ⟨R,hR,ho⟩:∃ R:List Nat,(∀ k∈R,B<k)∧Only R wr w':=by
    cases hv:v.ownBlock with
    | none=>exact ⟨[],by simp,((Only.refl [] wr).alloc O).grown hg (fun k e=>by rw [hv] at e;cases e)⟩
    | some k=>exact ⟨[k],by have:=(h.own.lt k hv).1;simp;omega,((Only.refl [k] wr).alloc O).grown hg (fun j e=>by rw [hv] at e;cases e;simp)⟩
  refine ⟨h.ws.over ho (fun k hk=>by have:=hR k hk;omega),?_,?_,h.parts.only ho (fun ad e hm=>by cases e;have:=hR _ hm;simp at this),l1,l2,Nat.lt_of_lt_of_le l3 ho.2.2.2.1⟩
  · have hs:=h.only.2.2.2.1
    refine ⟨ho.1.trans h.only.1,ho.2.1.trans h.only.2.1,ho.2.2.1.trans h.only.2.2.1,Nat.le_trans hs ho.2.2.2.1,fun k hk hm=>?_⟩
    rw [ho.2.2.2.2 k (by omega) (fun hm2=>by have:=hR k hm2;omega)]
    exact h.only.2.2.2.2 k hk hm
  · rw [List.length_append,Tree.ic_app]
    exact hown
theorem getD_take_succ {P:List (List UInt8)} {i:Nat} (h:i<P.length):P.take (i+1)=P.take i++[P.getD i []]:=by
  rw [List.getD_eq_getElem?_getD,List.getElem?_eq_getElem h,Option.getD_some,List.take_append_getElem h]
set_option maxRecDepth 100000 in
set_option maxHeartbeats 1000000 in
theorem list_some (ea:Addr) (b:Nat) (W:Ws) (w:World) (h:WAt w b W) (g:GW ea w) (hb:10≤b) (hne:W.next.1≠[]) :
    Calls Tryz.prog 93 #[.pointer (some ⟨b,0,none⟩)] w fun e w'=>∃ v,e=.returned v∧w'.ownsRow w.heap.size 3 1 v W.list.1.length (Tree.ic W.list.1)∧WAt w' b W.list.2∧Only [b] w w':=by
  have C:=hidden (next_calls b W w h)
  have hlt:=h.lt
  have hz:=next_sz h
  have e1:W.list=W.next.2.nums (cutL 44 W.next.1):=by unfold Ws.list;rw [if_neg hne]
  rw [e1]
  have G:=hidden (fun w1 (ho:Only [b] w w1)=>g.only ho (by simpa using hb))
  obtain ⟨XW,hXW⟩:∃ X,W.next=X:=⟨_,rfl⟩
  rw [hXW] at C hz hne ⊢
  obtain ⟨x,V⟩:=XW
  simp only at C hz hne ⊢
  have hs:=cutL_sz 44 x.length x (Nat.le_refl _)
  have hm:=cutL_many 44 x
  have S:=hidden (fun w1 g1=>split_calls ea 44 x w1 g1 hz)
  generalize cutL 44 x=P at S hs hm ⊢
  have HP:Hid (∀ i,i<P.length→(P.getD i []).length≤3000):=hidden (fun i hi=>by
    have:=hs (P.getD i []) (by rw [List.getD_eq_getElem?_getD,List.getElem?_eq_getElem hi];simp)
    omega)
  have HM:Hid (P.length≤4000):=hidden (by omega)
  have hx0:=str_ne hne
  have HLT:=hidden hlt
  have HGB:=hidden hb
  clear h g e1 hz hne hs hm hlt hb hXW
  obtain ⟨i0,hii,hz0,hz1,hz2⟩:=info_parts Tree.info3
  obtain ⟨n,hn⟩:∃ n,P.length=n:=⟨_,rfl⟩
  rw [hn] at HP HM S
  have hn4:n≤4000:=HM.out
  have HNN:=hidden hn
  clear hn
  go_enter Tryz.func93,Tryz.ntmps93
  go_wp2_with fail
  refine C.out.mono ?_
  rintro e w1 ⟨rfl,h1,ho⟩
  have S1:=hidden (S.out w1 (G.out w1 ho))
  have H1:=hidden h1
  have HO:=hidden ho
  clear h1 ho
  go_wp2_with fail
  refine S1.out.mono ?_
  rintro e w2 ⟨rfl,h2⟩
  have H0:Hid (LSt w w2 b w1.heap.size (V.nums (P.take 0)).2 P (V.nums (P.take 0)).1 (.slice none 0 0)):=by
    have hz:w1.heap.size<w2.heap.size:=by rw [h2];simp
    have o2:Only [] w1 w2:=by rw [h2];exact (Only.refl [] w1).alloc _
    refine ⟨H1.out.over o2 (by simp),HO.out.trans (o2.mono (by simp)),World.ownsRow_nil _ _ _ _,?_,HLT.out,HO.out.2.2.2.1,hz⟩
    rw [h2];exact sarg_new w1 P 9
  obtain ⟨B,hB⟩:∃ B,w1.heap.size=B:=⟨_,rfl⟩
  rw [hB] at H0 ⊢
  have HG2:Hid (∀ wr,Only [b] w wr→GW ea wr):=G
  clear h2 hB
  go_wp2_with fail
  go_loopg [4,14] n (fun g u y wr=>∃ (i:Nat) (v:Value),i+g=n∧v=u∧y=.int .i64 (i:Int)∧Hid (LSt w wr b B (V.nums (P.take i)).2 P (V.nums (P.take i)).1 v))
  case atStart=>exact ⟨0,_,by omega,rfl,rfl,H0⟩
  case round=>
    obtain ⟨i,v,hig,rfl,rfl,HS⟩:=hrel
    by_cases hi:i<n
    · have hiz:(i:Int)<(n:Int):=by omega
      obtain ⟨bb,oo,ea',c0⟩:=HS.out.parts i (by have:=HNN.out;omega)
      cases ea'
      have hst:=Ws.nums_snoc (P.getD i []) (P.take i) V
      rw [← getD_take_succ (by have:=HNN.out;omega)] at hst
      have N:=hidden (numberOf_calls ea b _ (P.getD i []) wr HS.out.ws (HG2.out wr HS.out.only) (HP.out i hi))
      have hln:=Ws.nums_len (P.take i) V
      obtain ⟨y,hy⟩:∃ y,P.getD i []=y:=⟨_,rfl⟩
      rw [hy] at c0 hst N
      obtain ⟨VL,hVL⟩:∃ VL,V.nums (P.take i)=VL:=⟨_,rfl⟩
      rw [hVL] at hst HS N hln
      have HT:=hidden hst
      have HLN:=hidden hln
      clear hst hy hVL hln
      rw [Nat.zero_add] at c0
      go_wp2_with fail
      refine N.out.mono ?_
      rintro e w3 ⟨rfl,h3,ho3⟩
      have HS3:=hidden (HS.out.num h3 ho3)
      have hbase:B+1≤w3.heap.size:=HS3.out.lt.2.2
      have hll:VL.1.length=i:=by rw [HLN.out,List.length_take];have:=HNN.out;omega
      obtain ⟨z,hz⟩:∃ z,(VL.2.numberOf y).1=z:=⟨_,rfl⟩
      rw [hz]
      have HZ:=hidden hz
      clear h3 ho3 hz
      go_wp2_with (at_builtin;refine wpList_append_own _ rfl _ _ 29 rfl (B+1) 3 i0 _ 1 8 Tryz.underlying29 hii hz0 hz1 hz2 rfl (by decide) _ VL.1.length (Tree.ic VL.1) rfl (HS3.out.own.alloc _) ⟨w3.heap.size,0,none⟩ 1 1 [.int .i64 z] rfl rfl ?cc ?one ?b1 ?b2 ?b3 ?next)
      case cc=>exact Tree.lit1 _
      case one=>simp [Value.oneCell']
      case b1=>unfold maxLen;omega
      case b2=>omega
      case b3=>simp;omega
      case next=>
      intro v3 w4 hown hgrow _
      have HSn:Hid (LSt w w4 b B (V.nums (P.take (i+1))).2 P (V.nums (P.take (i+1))).1 v3):=by
        rw [HT.out]
        simp only
        rw [HZ.out]
        exact HS3.out.app (by rw [hll];exact hown) hgrow
      clear hown hgrow hbase hll
      go_wp2_with fail
      go_roundg (n - (i+1))
      case measure=>omega
      case rel=>exact ⟨i+1,v3,by omega,rfl,by go_num,HSn⟩
    · have hiz:¬ (i:Int)<(n:Int):=by omega
      obtain rfl:i=n:=by omega
      go_wp2_with fail
      go_ret
      have h9:=HS.out
      rw [List.take_of_length_le (by have:=HNN.out;omega)] at h9
      exact ⟨v,rfl,Tree.own_base h9.own (by have:=h9.lt;omega),h9.ws,h9.only⟩
theorem list_none (ea:Addr) (b:Nat) (W:Ws) (w:World) (h:WAt w b W) (hne:W.next.1=[]) :
    Calls Tryz.prog 93 #[.pointer (some ⟨b,0,none⟩)] w fun e w'=>∃ v,e=.returned v∧w'.ownsRow w.heap.size 3 1 v W.list.1.length (Tree.ic W.list.1)∧WAt w' b W.list.2∧Only [b] w w':=by
  have C:=hidden (next_calls b W w h)
  have e1:W.list=([],W.next.2):=by unfold Ws.list;rw [if_pos hne]
  rw [e1]
  rw [hne] at C
  have hx0:(bs []).toList.isEmpty=true:=by rw [bs_toList];rfl
  generalize W.next.2=V at C ⊢
  clear h e1 hne
  go_enter Tryz.func93,Tryz.ntmps93
  go_wp2_with fail
  refine C.out.mono ?_
  rintro e w1 ⟨rfl,h1,ho⟩
  have H1:=hidden h1
  have HO:=hidden ho
  clear h1 ho
  go_wp2_with fail
  go_ret
  exact ⟨_,rfl,World.ownsRow_nil _ _ _ _,H1.out,HO.out⟩
theorem list_calls (ea:Addr) (b:Nat) (W:Ws) (w:World) (h:WAt w b W) (g:GW ea w) (hb:10≤b) :
    Calls Tryz.prog 93 #[.pointer (some ⟨b,0,none⟩)] w fun e w'=>∃ v,e=.returned v∧w'.ownsRow w.heap.size 3 1 v W.list.1.length (Tree.ic W.list.1)∧WAt w' b W.list.2∧Only [b] w w':=by
  by_cases hne:W.next.1=[]
  · exact list_none ea b W w h hne
  · exact list_some ea b W w h g hb hne
end Go.Proofs.YtbadpjgiogghdaaGreatDoor.Run

