/-
  NodeH, NodeJ, NodeK in one text.
-/
import Derived.Test.YtigibpcpnkdmcaaGreatDoorNodeAll
import Derived.Test.YtigibpcpnkdmcaaGreatDoorShelfBP
namespace Go.Proofs.YtigibpcpnkdmcaaGreatDoor.ND
open Go.ChangeShapes Go.WideShapes Go.ChangeAt Go.RowKit Go.Maps Go.Proofs.YtigibpcpnkdmcaaGreatDoor.Mem Go.Proofs.YtigibpcpnkdmcaaGreatDoor.NO
set_option linter.unusedVariables false
def DoneS (S:Tg→Prop) (w w':World) (o:Nat→Tg) (n b:Nat) (N:Nd):Prop:=∃ o' P,NAt w' o' n b P N∧Ext w o o'∧Chg o S w w'
abbrev Done (w w':World) (o:Nat→Tg) (n b:Nat) (N:Nd):Prop:=DoneS (mine n) w w' o n b N
def cls (n c:Nat) (g:Tg):Prop:=g.n=n∧g.c=c
theorem chg_cls {o:Nat→Tg} {n:Nat} {w w':World} {c:Nat} {j:Int} (h:Chg o (fun g=>g=⟨n,c,j⟩) w w'):Chg o (cls n c) w w':=h.mono (by rintro t rfl;exact ⟨rfl,rfl⟩)
theorem cls_mine {o:Nat→Tg} {n:Nat} {w w':World} {c:Nat} (h:Chg o (cls n c) w w'):Chg o (mine n) w w':=h.mono (fun t ht=>ht.1)
def sbegin (s:Sb):Sb:=⟨s.tk,s.mo,0,-1,[],-1,-1,false,0,0,0,0,s.got⟩
theorem begun_sb {w w1:World} {o:Nat→Tg} {n:Nat} {x:Int} {Q:SP} {s:Sb} {ob om lb ub:Nat} (hn:n≠0) (h:SbAt w o Q s) (ho:Own o ⟨n,4,x⟩ (sblks Q)) (hb:Begun w w1 Q.s s.tk s.mo Q.gv ob om lb ub) :
    SbAt w1 (grow o w ⟨n,4,x⟩) ⟨Q.s,ob,om,lb,ub,Q.gv⟩ (sbegin s)∧Own (grow o w ⟨n,4,x⟩) ⟨n,4,x⟩ (sblks ⟨Q.s,ob,om,lb,ub,Q.gv⟩)∧Chg o (fun g=>g=⟨n,4,x⟩) w w1:=by
  have hc:Chg o (fun g=>g=⟨n,4,x⟩) w w1:=Chg.of_only hb.only (by intro k hk;simp at hk;rw [hk];exact ho _ (by simp [sblks])) (by intro k hk;simp at hk;rw [hk];exact nobAt_cells h.box (by decide))
  refine ⟨⟨hb.box,⟨[],rfl,hb.ord⟩,hb.lay,hb.out,?_⟩,?_,hc⟩
  · obtain ⟨X,h1,h2,h3⟩:=h.got
    refine ⟨X,h1,hb.only.owns h2 ?_,fun y hy=>(h3 y hy).chg hc (by rintro g rfl;exact hn) (grow_ext _ _ _)⟩
    intro k hk hm
    simp at hm
    subst hm
    rcases h2.2 with ⟨e,_⟩ | ⟨q,cap,cur,e,_,hh,_⟩
    · rw [e] at hk;simp [Value.ownBlock] at hk
    · rw [e] at hk
      simp [Value.ownBlock] at hk
      subst hk
      have:=h.box
      rw [hh] at this
      simp at this
  · obtain ⟨n1,n2,n3,n4⟩:=hb.new
    intro k hk
    simp only [sblks,List.mem_cons] at hk
    rcases hk with rfl | rfl | rfl | rfl | rfl | hk
    · rw [grow_old (lt_of_block h.box)];exact ho _ (by simp [sblks])
    · exact grow_new n1
    · exact grow_new n2
    · exact grow_new n3
    · exact grow_new n4
    · rw [grow_old (h.got.lt k hk)];exact ho _ (by simp only [sblks,List.mem_cons];simp [hk])
def bsb (l:List (Int×Sb)) (i:Nat):List (Int×Sb):=(l.take i).map (fun x=>(x.1,sbegin x.2))++l.drop i
theorem bsb_ids (l:List (Int×Sb)) (i:Nat):ids (bsb l i)=ids l:=by
  unfold ids bsb
  rw [List.map_append,List.map_map]
  have:(Prod.fst∘fun (x:Int×Sb)=>(x.1,sbegin x.2))=Prod.fst:=rfl
  rw [this,← List.map_append,List.take_append_drop]
theorem bsb_all (l:List (Int×Sb)):bsb l l.length=l.map fun x=>(x.1,sbegin x.2):=by simp [bsb]
def BSt (w wr:World) (o:Nat→Tg) (n b:Nat) (P:NP) (N:Nd) (i:Nat):Prop:=
  ∃ oi Pi,NAt wr oi n b Pi { N with sb:=bsb N.sb i }∧(∀ x,(Pi.sp x).s=(P.sp x).s)∧Ext w o oi∧Chg o (cls n 4) w wr
theorem BSt.step {w wr w1:World} {o:Nat→Tg} {n b:Nat} {P:NP} {N:Nd} {i:Nat} (hn:n≠0) (hI:SInv N.sb N.ls) (hi:i<N.sb.length) (h:BSt w wr o n b P N i) {gv:Value} {ob om lb ub:Nat}
    (hg:∀ oi Pi,NAt wr oi n b Pi { N with sb:=bsb N.sb i }→(∀ x,(Pi.sp x).s=(P.sp x).s)→(Pi.sp N.sb[i].1).gv=gv) (hb:Begun wr w1 (P.sp N.sb[i].1).s N.sb[i].2.tk N.sb[i].2.mo gv ob om lb ub):BSt w w1 o n b P N (i+1):=by
  obtain ⟨oi,Pi,h1,h2,h3,h4⟩:=h
  obtain ⟨y,hy⟩:∃ y,N.sb[i]=y:=⟨_,rfl⟩
  have hgy:=hg oi Pi h1 h2
  rw [hy] at hb hgy
  have hs:bsb N.sb i=(N.sb.take i).map (fun x=>(x.1,sbegin x.2))++(y.1,y.2)::N.sb.drop (i+1):=by
    unfold bsb
    rw [List.drop_eq_getElem_cons hi,hy]
  have hs':bsb N.sb (i+1)=(N.sb.take i).map (fun x=>(x.1,sbegin x.2))++(y.1,sbegin y.2)::N.sb.drop (i+1):=by
    unfold bsb
    rw [List.take_add_one,List.getElem?_eq_getElem hi,hy]
    simp
  have hin:(y.1,y.2)∈bsb N.sb i:=by rw [hs];simp
  obtain ⟨k1,k2⟩:=h1.sbs _ hin
  rw [← h2 y.1,← hgy] at hb
  obtain ⟨q1,q2,q3⟩:=begun_sb hn k1 k2 hb
  have hr:(ids (bsb N.sb i)).Pairwise fun a b=>a<b:=by rw [bsb_ids];exact hI.ris
  have:=h1.sub hn hs hr q3 (grow_ext _ _ _) (Q:=⟨(Pi.sp y.1).s,ob,om,lb,ub,(Pi.sp y.1).gv⟩) rfl q1 q2
  refine ⟨_,_,by rw [hs'];exact this,?_,h3.trans (grow_ext oi wr _) h4.size,h4.trans (chg_cls q3) h3⟩
  intro x
  show (updS Pi.sp y.1 _ x).s=_
  unfold updS
  split
  · rename_i e;rw [e];exact h2 y.1
  · exact h2 x
set_option maxHeartbeats 1000000 in
set_option maxRecDepth 100000 in
theorem beginSubs_all (n b:Nat) (o:Nat→Tg) (P:NP) (N:Nd) (tk:Int) (w:World) (hn:n≠0) (h:NAt w o n b P N) (hI:SInv N.sb N.ls) (hall:∀ x∈N.sb,x.2.tk=tk) :
    Calls Tryz.prog 19 #[.pointer (some ⟨b,0,none⟩),.int .i64 tk] w fun e w'=>e=.returned .nilIface∧DoneS (cls n 4) w w' o n b { N with sb:=N.sb.map fun x=>(x.1,sbegin x.2) }:=by
  have C:=hidden (subsOf_all n b o P N tk w h hI hall)
  have HN:=hidden h
  have HI:=hidden hI
  obtain ⟨nn,hnn⟩:∃ nn,N.sb.length=nn:=⟨_,rfl⟩
  have hlen:=hI.len
  rw [hnn] at hlen C
  have HL:=hidden hnn
  clear h hI hall hnn
  go_enter Tryz.func19,Tryz.ntmps19
  go_wp2_with fail
  refine C.out.mono ?_
  rintro e w1 ⟨a,cap,rfl,hP,hf,hb⟩
  have HP:=hidden hP
  have HF:=hidden hf
  have HS0:Hid (BSt w w1 o n b P N 0):=hidden ⟨o,P,HN.out.below hb,fun _=>rfl,Ext.refl _ _,Chg.of_below hb _ _⟩
  clear hP hf hb
  go_wp2_with fail
  go_loopg [12] nn (fun gh x wr=>∃ i:Nat,i+gh=nn∧x=.int .i64 (i:Int)∧Hid (BSt w wr o n b P N i)∧Hid (PArg wr a (fun x=>(P.sp x).s) (ids N.sb)))
  case atStart=>exact ⟨0,by omega,rfl,HS0,HP⟩
  case round=>
    obtain ⟨i,hig,rfl,HS,HA⟩:=hrel
    by_cases hi:i<nn
    · have hiz:(i:Int)<(nn:Int):=by omega
      have hil:i<N.sb.length:=by rw [HL.out];exact hi
      have hil':i<(ids N.sb).length:=by rw [ids_len];exact hil
      obtain ⟨ba,rfl,hcs⟩:=HA.out.at (by omega)
      have c0:=hcs i hil'
      obtain ⟨oi,Pi,h1,h2,_,_⟩:=HS.out
      have hget:(ids N.sb).getD i 0=N.sb[i].1:=by
        rw [List.getD_eq_getElem?_getD,List.getElem?_eq_getElem hil']
        simp [ids]
      have hin:(N.sb[i].1,N.sb[i].2)∈bsb N.sb i:=by
        unfold bsb
        rw [List.drop_eq_getElem_cons hil]
        exact List.mem_append.2 (.inr (List.mem_cons.2 (.inl rfl)))
      have bx:=(h1.sbs _ hin).1.box
      have hm:=HI.out.mem _ (List.getElem_mem hil)
      have Cb:=hidden (begin_calls _ _ _ _ _ _ _ wr bx hm.2.2.1 hm.2.2.2)
      rw [hget] at c0
      rw [h2] at Cb
      obtain ⟨sb,hsb⟩:∃ sb,(P.sp N.sb[i].1).s=sb:=⟨_,rfl⟩
      rw [hsb] at c0 Cb
      have HG:Hid (∀ w1 ob om lb ub,Begun wr w1 sb N.sb[i].2.tk N.sb[i].2.mo (Pi.sp N.sb[i].1).gv ob om lb ub→BSt w w1 o n b P N (i+1)∧PArg w1 (some ⟨ba,0,none⟩) (fun x=>(P.sp x).s) (ids N.sb)):=by
        refine hidden ?_
        intro w1 ob om lb ub hB
        have hlt:sb<w.heap.size:=by
          rw [← hsb]
          exact (HN.out.sbs _ (List.getElem_mem hil)).1.lt _ (by simp [sblks])
        refine ⟨?_,HA.out.only hB.only (fun ad e=>by have:=HF.out ad e;simp;omega)⟩
        have HT:=HS.out
        refine BSt.step hn HI.out hil HT (gv:=(Pi.sp N.sb[i].1).gv) ?_ (by rw [hsb];exact hB)
        intro oj Pj g1 g2
        have b1:=(g1.sbs _ hin).1.box
        rw [g2] at b1
        rw [h2] at bx
        rw [b1] at bx
        simp only [Option.some.injEq,Obj.cells.injEq] at bx
        have:=bx.1
        simp only [Array.mk.injEq,List.cons.injEq] at this
        exact this.2.2.2.2.2.1
      clear hcs bx hin hget hm hsb h1 h2
      go_wp2_with fail
      refine Cb.out.mono ?_
      rintro e w2 ⟨ob,om,lb,ub,rfl,hB⟩
      obtain ⟨r1,r2⟩:=HG.out w2 ob om lb ub hB
      have HR1:=hidden r1
      have HR2:=hidden r2
      clear hB r1 r2 HG Cb c0
      go_wp2_with fail
      go_roundg (nn - (i+1))
      case measure=>omega
      case rel=>exact ⟨i+1,by omega,by go_num,HR1,HR2⟩
    · have hiz:¬ (i:Int)<(nn:Int):=by omega
      obtain rfl:nn=i:=by omega
      go_wp2_with fail
      go_ret
      obtain ⟨oi,Pi,h1,h2,h3,h4⟩:=HS.out
      have e:bsb N.sb nn=N.sb.map fun x=>(x.1,sbegin x.2):=by rw [← HL.out];exact bsb_all _
      rw [e] at h1
      exact ⟨rfl,oi,Pi,h1,h3,h4⟩
theorem clone_calls (a:Option Addr) (n cap:Nat) (L:List Int) (w:World) (h:Gaps.IArg w a n L) (hn:a=none→n=0∧cap=0) (hb:n≤1000000) :
    Calls Tryz.prog 20 #[.slice a n cap] w fun e w'=>∃ v',e=.returned v'∧w'.ownsRow w.heap.size 3 1 v' n (Gaps.ic L)∧Below w.heap.size w w':=by
  cases a with
  | none=>
    obtain ⟨rfl,rfl⟩:=hn rfl
    have:L=[]:=List.eq_nil_of_length_eq_zero h.2.1
    subst this
    refine (Tryz.slices_Clone_int_nil 0 0 w).mono ?_
    rintro e w' ⟨rfl,rfl⟩
    exact ⟨_,rfl,World.ownsRow_nil _ _ _ _,Below.refl _ _⟩
  | some ad=>
    rcases Nat.eq_zero_or_pos n with rfl | h0
    · have:L=[]:=List.eq_nil_of_length_eq_zero h.2.1
      subst this
      refine (Tryz.slices_Clone_int_zero ad cap w).mono ?_
      rintro e w' ⟨v',rfl,ho,_,hb⟩
      exact ⟨v',rfl,ho,hb⟩
    · obtain ⟨b,o,e,hc⟩:=h.at h0
      rw [Option.some.injEq] at e
      subst e
      have hl:=h.2.1
      refine (Tryz.slices_Clone_int b o n cap L w (by omega) (by omega) (fun j hj=>hc j (by omega))).mono ?_
      rintro e w' ⟨v',rfl,ho,_,hb⟩
      refine ⟨v',rfl,?_,hb⟩
      rw [← hl,List.take_length,hl] at ho
      exact ho
theorem TrAt.ne {w:World} {P:TP} {t:Tr} (h:TrAt w P t):P.wm≠P.p∧P.r≠P.p∧P.rm≠P.p∧∀ k∈Gaps.blks P.g P.gm P.gv,k≠P.p:=by
  have bx:=h.box
  obtain ⟨D,h1,_,_⟩:=h.way
  refine ⟨?_,?_,?_,?_⟩
  · intro e
    obtain ⟨es,c,hm⟩:=RM.map_block h1
    rw [e,bx] at hm
    simp at hm
  · intro e
    have:=h.rng.1
    rw [e,bx] at this
    simp at this
  · intro e
    obtain ⟨D',h2,_,_⟩:=h.rng.2
    obtain ⟨es,c,hm⟩:=RM.map_block h2
    rw [e,bx] at hm
    simp at hm
  · intro k hk e
    subst e
    simp only [Gaps.blks,List.mem_cons] at hk
    rcases hk with hk | hk | hk
    · have:=h.gap.box
      rw [← hk,bx] at this
      simp at this
    · obtain ⟨D',h2,_,_⟩:=h.gap.map
      obtain ⟨es,c,hm⟩:=RM.map_block h2
      rw [← hk,bx] at hm
      simp at hm
    · obtain ⟨cs,hm⟩:=Gaps.own_block h.gap.row (by simpa using hk)
      rw [bx] at hm
      simp at hm
theorem TrAt.sepR {w:World} {P:TP} {t:Tr} (h:TrAt w P t):∀ k∈P.p::P.wm::(Gaps.blks P.g P.gm P.gv++kblk P.ka t.kids),k≠P.r∧k≠P.rm:=by
  have br:=h.rng.1
  obtain ⟨D,h1,_,_⟩:=h.rng.2
  obtain ⟨es,c,bm⟩:=RM.map_block h1
  obtain ⟨D2,h2,_,_⟩:=h.way
  obtain ⟨es2,c2,bw⟩:=RM.map_block h2
  obtain ⟨D3,h3,_,_⟩:=h.gap.map
  obtain ⟨es3,c3,bg⟩:=RM.map_block h3
  have n:=h.ne
  intro k hk
  simp only [List.mem_cons,List.mem_append,Gaps.blks] at hk
  rcases hk with rfl | rfl | (rfl | rfl | hk) | hk
  · exact ⟨n.2.1.symm,n.2.2.1.symm⟩
  · exact ⟨fun e=>by rw [e,br] at bw;simp at bw,h.ap.2.2.symm⟩
  · exact ⟨fun e=>by have:=h.gap.box;rw [e,br] at this;simp at this,fun e=>by have:=h.gap.box;rw [e,bm] at this;simp at this⟩
  · exact ⟨fun e=>by rw [e,br] at bg;simp at bg,h.ap.1⟩
  · obtain ⟨cs,hm⟩:=Gaps.own_block h.gap.row (by simpa using hk)
    exact ⟨fun e=>by rw [e,br] at hm;simp at hm,fun e=>by rw [e,bm] at hm;simp at hm⟩
  · have:=h.kap k hk
    exact ⟨this.2.2.1,this.2.2.2.1⟩
theorem TrAt.sepW {w:World} {P:TP} {t:Tr} (h:TrAt w P t):∀ k∈P.p::P.r::P.rm::(Gaps.blks P.g P.gm P.gv++kblk P.ka t.kids),k≠P.wm:=by
  have br:=h.rng.1
  obtain ⟨D2,h2,_,_⟩:=h.way
  obtain ⟨es2,c2,bw⟩:=RM.map_block h2
  have n:=h.ne
  intro k hk
  simp only [List.mem_cons,List.mem_append,Gaps.blks] at hk
  rcases hk with rfl | rfl | rfl | (rfl | rfl | hk) | hk
  · exact n.1.symm
  · exact fun e=>by rw [e,bw] at br;simp at br
  · exact h.ap.2.2
  · exact fun e=>by have:=h.gap.box;rw [e,bw] at this;simp at this
  · exact h.ap.2.1
  · obtain ⟨cs,hm⟩:=Gaps.own_block h.gap.row (by simpa using hk)
    exact fun e=>by rw [e,bw] at hm;simp at hm
  · exact (h.kap k hk).2.1
theorem TrAt.sepG {w:World} {P:TP} {t:Tr} (h:TrAt w P t):∀ k∈P.p::P.wm::P.r::P.rm::kblk P.ka t.kids,k∉Gaps.blks P.g P.gm P.gv:=by
  have n:=h.ne
  have sR:=h.sepR
  have sW:=h.sepW
  intro k hk hm
  simp only [List.mem_cons] at hk
  rcases hk with rfl | rfl | rfl | rfl | hk
  · exact n.2.2.2 _ hm rfl
  · exact sW _ (by simp only [List.mem_cons,List.mem_append];exact .inr (.inr (.inr (.inl hm)))) rfl
  · exact (sR _ (by simp only [List.mem_cons,List.mem_append];exact .inr (.inr (.inl hm)))).1 rfl
  · exact (sR _ (by simp only [List.mem_cons,List.mem_append];exact .inr (.inr (.inl hm)))).2 rfl
  · exact (h.kap k hk).2.2.2.2 hm
def Tr.to (t:Tr) (pa:Int) (K:List Int):Tr:={ t with pa:=pa,kids:=K }
theorem TrAt.to {w:World} {P:TP} {t:Tr} (h:TrAt w P t) (pa:Int) (K:List Int) {a:Option Addr} {cap:Nat} (hK:Gaps.IArg w a K.length K) (hno:a=none→K.length=0∧cap=0) (hne:∀ ad,a=some ad→∀ k∈P.p::P.wm::P.r::P.rm::Gaps.blks P.g P.gm P.gv,ad.block≠k) :
    TrAt ((w.setCell ⟨P.p,2,none⟩ (.int .i64 pa)).setCell ⟨P.p,3,none⟩ (.slice a K.length cap)) { P with ka:=a,kc:=cap } (t.to pa K):=by
  have k1:=heap_setCell_same w P.p 2 _ _ (.int .i64 pa) h.box
  have k2:=heap_setCell_same _ P.p 3 _ _ (.slice a K.length cap) k1
  have on:Only [P.p] w ((w.setCell ⟨P.p,2,none⟩ (.int .i64 pa)).setCell ⟨P.p,3,none⟩ (.slice a K.length cap)):=by
    iterate 2 refine Only.setCell ?_ (by simp) _
    exact Only.refl _ _
  have nb:∀ k∈[P.p],∀ cs fr,w.heap[k]?≠some (.cells cs 5 fr):=by
    intro k hk cs fr
    simp only [List.mem_singleton] at hk
    subst hk
    rw [h.box]
    simp
  obtain ⟨n1,n2,n3,n4⟩:=h.ne
  refine ⟨by simpa [Tr.to] using k2,iarg_only hK on ?_,hno,h.gap.only on (fun k hk=>by simpa using n4 k hk),h.rng.only on (by simpa using n2) (by simpa using n3) nb,?_,h.ap,?_⟩
  · intro k hk
    unfold kblk at hk
    split at hk
    · simp at hk
    · cases a with
      | none=>simp at hk
      | some ad=>
        simp at hk
        subst hk
        simpa using hne ad rfl P.p (by simp)
  · obtain ⟨D,h1,h2,h3⟩:=h.way
    exact ⟨D,map_only h1 on (by simpa using n1),h2,h3⟩
  · intro k hk
    simp only [Tr.to] at hk
    unfold kblk at hk
    split at hk
    · simp at hk
    · cases a with
      | none=>simp at hk
      | some ad=>
        simp at hk
        subst hk
        have q:=hne ad rfl
        exact ⟨q _ (by simp),q _ (by simp),q _ (by simp),q _ (by simp),fun hm=>q _ (by simp only [List.mem_cons];exact .inr (.inr (.inr (.inr hm)))) rfl⟩
theorem plan_tail {w w2:World} {o:Nat→Tg} {n b:Nat} {P:NP} {N:Nd} (hn:n≠0) (h:NAt w o n b P N) {i:Nat} (hi:i<8) {t:Tr} (ht:N.tr i=some t) (pa:Int) (K:List Int) {v:Value} (hrow:w2.ownsRow w.heap.size 3 1 v K.length (Gaps.ic K)) (hb:Below w.heap.size w w2) (hl:K.length≤1000) :
    Done w ((w2.setCell ⟨(P.tp i).p,2,none⟩ (.int .i64 pa)).setCell ⟨(P.tp i).p,3,none⟩ v) o n b { N with tr:=updR N.tr i (t.to pa K) }:=by
  obtain ⟨a,cap,rfl,hK,hno,_,hf⟩:=Gaps.own_ints hrow (by omega)
  obtain ⟨k1,k2⟩:=h.trs i hi t ht
  have h2:=h.below hb
  obtain ⟨g1,g2⟩:=h2.trs i hi t ht
  have lp:=k1.lt (P.tp i).p (by simp [tblks])
  have hT:=g1.to pa K (cap:=cap) hK hno (fun ad e k hk=>by
    obtain ⟨g,rfl,hg,_⟩:=hf ad e
    have:=k1.lt k (by simp only [tblks,List.mem_cons,List.mem_append];simp only [List.mem_cons] at hk;rcases hk with hk | hk | hk | hk | hk<;>simp [hk])
    show g≠k
    omega)
  have hc2:Chg o (fun g=>g=⟨n,3,i⟩) w2 ((w2.setCell ⟨(P.tp i).p,2,none⟩ (.int .i64 pa)).setCell ⟨(P.tp i).p,3,none⟩ (.slice a K.length cap)):=by
    refine Chg.of_only (bs := [(P.tp i).p]) (by iterate 2 refine Only.setCell ?_ (by simp) _
                                                exact Only.refl _ _) ?_ ?_
    · intro k hk
      simp at hk
      rw [hk]
      exact k2 _ (by simp [tblks])
    · intro k hk
      simp at hk
      rw [hk]
      exact nobAt_cells g1.box (by decide)
  have hc:Chg o (fun g=>g=⟨n,3,i⟩) w ((w2.setCell ⟨(P.tp i).p,2,none⟩ (.int .i64 pa)).setCell ⟨(P.tp i).p,3,none⟩ (.slice a K.length cap)):=(Chg.of_below hb _ _).trans' hc2
  have he:=grow_ext o w ⟨n,3,i⟩
  refine ⟨grow o w ⟨n,3,i⟩,_,h.trk hn hi hc he ht (Q:={ P.tp i with ka:=a,kc:=cap }) rfl hT ?_,he,chg_mine hc⟩
  intro k hk
  have hcase:k∈tblks (P.tp i) t∨k∈kblk a K:=by
    simp only [tblks,Tr.to,List.mem_cons,List.mem_append] at hk ⊢
    rcases hk with hk | hk | hk | hk | hk | hk
    · exact .inl (.inl hk)
    · exact .inl (.inr (.inl hk))
    · exact .inl (.inr (.inr (.inl hk)))
    · exact .inl (.inr (.inr (.inr (.inl hk))))
    · exact .inl (.inr (.inr (.inr (.inr (.inl hk)))))
    · exact .inr hk
  rcases hcase with hk | hk
  · rw [grow_old (k1.lt k hk)]
    exact k2 k hk
  · unfold kblk at hk
    split at hk
    · simp at hk
    · cases a with
      | none=>simp at hk
      | some ad=>
        obtain ⟨g,rfl,hg,_⟩:=hf ad rfl
        simp at hk
        subst hk
        exact grow_new hg
def Nd.plan (N:Nd) (tk pa:Int) (K:List Int) (ep:Int):Nd:=
  match N.at tk with
  | some t=>if t.ep<ep then { N with sb:=N.sb.map (fun x=>(x.1,sbegin x.2)),tr:=updR N.tr (tk - 1).toNat ((tr0 tk ep).to pa K) } else { N with tr:=updR N.tr (tk - 1).toNat (t.to pa K) }
  | none=>{ N with sb:=N.sb.map (fun x=>(x.1,sbegin x.2)),tr:=updR N.tr (tk - 1).toNat ((tr0 tk ep).to pa K) }
theorem plan_bad (n b:Nat) (o:Nat→Tg) (P:NP) (N:Nd) (tk pa ep:Int) (a:Option Addr) (m cap:Nat) (K:List Int) (w:World) (hN:NAt w o n b P N) (hK:Gaps.IArg w a m K) (hf:pF N tk pa K ep≠0) :
    Calls Tryz.prog 5 #[.pointer (some ⟨b,0,none⟩),.int .i64 tk,.int .i64 pa,.slice a m cap,.int .i64 ep] w fun e w'=>e=.returned (errv (pF N tk pa K ep))∧Below w.heap.size w w':=by
  have C:=hidden (check_calls n b o P N tk pa ep a m cap K w hN hK)
  obtain ⟨f,hff⟩:∃ f,pF N tk pa K ep=f:=⟨_,rfl⟩
  rw [hff] at C hf
  rw [hff]
  clear hff hN hK
  have q1:=cmp_ne f
  have q2:=grd_ne f
  have d0:decide (f=0)=false:=by simpa using hf
  clear hf
  go_enter Tryz.func5,Tryz.ntmps5
  go_wp2_with fail
  refine C.out.mono ?_
  rintro e w1 ⟨rfl,hb⟩
  have HB:=hidden hb
  clear hb
  go_wp2_with fail
  go_ret
  exact ⟨rfl,HB.out⟩
theorem pF_zero {N:Nd} {tk pa ep:Int} {K:List Int} (h:pF N tk pa K ep=0):1≤tk∧tk≤8∧0≤ep∧ep≤65535∧K.any (badk N.id pa)=false∧twc K=false∧old (N.at tk) ep=false∧K.length≤16:=by
  unfold pF at h
  split at h
  · omega
  rename_i h1
  split at h
  · omega
  split at h
  · omega
  rename_i h2
  split at h
  · omega
  rename_i h3
  split at h
  · omega
  rename_i h4
  split at h
  · omega
  rename_i h5
  have h1':okT tk=true:=by simpa using h1
  simp [okT] at h1'
  have h3':K.any (badk N.id pa)=false:=by simpa using h3
  have h4':twc K=false:=by simpa using h4
  refine ⟨h1'.1,h1'.2,by omega,by omega,h3',h4',by simpa using h5,?_⟩
  have hb:=badk_ok h3'
  have nd:K.Nodup:=by simpa [twc] using h4'
  have nd':(K.map Int.toNat).Nodup:=by
    rw [List.nodup_iff_pairwise_ne,List.pairwise_map]
    rw [List.nodup_iff_pairwise_ne] at nd
    refine nd.imp_of_mem ?_
    intro x y hx hy hxy e
    have:=hb x hx
    have:=hb y hy
    omega
  have:=List.Nodup.length_le_of_subset (l₂:=List.range 16) nd' (by
    intro x hx
    obtain ⟨y,hy,rfl⟩:=List.mem_map.1 hx
    have:=hb y hy
    simp only [List.mem_range]
    omega)
  simpa using this
set_option maxHeartbeats 2000000 in
set_option maxRecDepth 100000 in
theorem plan_ok (n b:Nat) (o:Nat→Tg) (P:NP) (N:Nd) (tk pa ep:Int) (a:Option Addr) (m cap:Nat) (K:List Int) (w:World) (hn:n≠0) (hN:NAt w o n b P N) (hI:SInv N.sb N.ls) (hall:∀ x∈N.sb,x.2.tk=tk) (hK:Gaps.IArg w a m K) (hno:a=none→m=0∧cap=0) (hF:∀ ad,a=some ad→0<m→(o ad.block).n≠n) (hf:pF N tk pa K ep=0) :
    Calls Tryz.prog 5 #[.pointer (some ⟨b,0,none⟩),.int .i64 tk,.int .i64 pa,.slice a m cap,.int .i64 ep] w fun e w'=>e=.returned .nilIface∧Done w w' o n b (N.plan tk pa K ep):=by
  have C:=hidden (check_calls n b o P N tk pa ep a m cap K w hN hK)
  obtain ⟨z1,z2,z3,z4,_,_,z5,z6⟩:=pF_zero hf
  rw [hf,errv_zero] at C
  have hl:=hK.2.1
  obtain ⟨k,hkk,hk1,hk2⟩:∃ k:Nat,k<8∧tk=(k:Int)+1∧(tk - 1).toNat=k:=⟨(tk - 1).toNat,by omega,by omega,rfl⟩
  have hk3:wrap64 (tk - 1)=(k:Int):=by unfold wrap64;omega
  have hk4:(k:Int)<8:=by omega
  obtain ⟨R,hR⟩:∃ R,N.plan tk pa K ep=R:=⟨_,rfl⟩
  rw [hR]
  unfold Nd.plan Nd.at at hR
  unfold Nd.at at z5
  rw [hk2] at hR z5
  have CP:=hidden (newP_calls tk ep)
  have HN:=hidden hN
  have HI:=hidden hI
  have HAl:=hidden hall
  have HK:=hidden hK
  have HNo:=hidden hno
  have HF:=hidden hF
  have hm:m≤16:=by omega
  have HL:=hidden hl
  clear hf z1 z2 z3 z4 hN hI hall hK hno hF hl hk1 hk2
  -- what follows the making
  have TAIL:Hid (∀ W oW PW (NW:Nd) t,NAt W oW n b PW NW→NW.tr k=some t→Ext w o oW→Chg o (mine n) w W→Calls Tryz.prog 20 #[.slice a m cap] W fun e w'=>∃ v,e=.returned v∧w'.ownsRow W.heap.size 3 1 v K.length (Gaps.ic K)∧Below W.heap.size W w'):=by
    refine hidden ?_
    intro W oW PW NW t h1 h2 h3 h4
    have hKW:Gaps.IArg W a m K:=by
      obtain ⟨bs,q1,q2,q3⟩:=h4
      refine ⟨fun j hj=>?_,HK.out.2⟩
      obtain ⟨b',o',e,hc⟩:=HK.out.1 j hj
      have hnb:b'∉bs:=fun hx=>HF.out _ e (by have:=HL.out;omega) (q2 _ hx)
      exact ⟨b',o',e,(cell_same (q1.2.2.2.2 b' (World.block_lt_of_cell? w ⟨b',o'+j,none⟩ hc) hnb) _).trans hc⟩
    refine (clone_calls a m cap K W hKW HNo.out (by omega)).mono ?_
    rintro e w' ⟨v,rfl,q1,q2⟩
    rw [← HL.out] at q1
    exact ⟨v,rfl,q1,q2⟩
  go_enter Tryz.func5,Tryz.ntmps5
  go_wp2_with fail
  refine C.out.mono ?_
  rintro e w1 ⟨rfl,hb1⟩
  have hN1:=HN.out.below hb1
  have HB1:=hidden hb1
  have ct:=hN1.track hkk
  clear hb1 C
  cases hx:N.tr k with
  | none=>
    rw [hx] at ct hR
    simp only [tpv] at ct
    simp only [] at hR
    have HN1:=hidden hN1
    clear hN1
    go_wp2_with fail
    refine (CP.out _).mono ?_
    rintro e w2 ⟨Q,rfl,hT,hnew,hb2⟩
    have hN2:=HN1.out.below hb2
    have CB:=hidden (beginSubs_all n b (grow o w1 ⟨n,3,k⟩) P N tk w2 hn (HN1.out.chg (S:=fun _=>False) (Chg.of_below hb2 _ _) (fun g hg=>hg.elim) (grow_ext o w1 _)) HI.out HAl.out)
    have HT:=hidden hT
    have HNew:=hidden hnew
    have HB2:=hidden hb2
    clear hT hnew hb2 hN2
    go_wp2_with fail
    refine CB.out.mono ?_
    rintro e w3 ⟨rfl,hD⟩
    have HD:=hidden hD
    clear hD
    obtain ⟨o3,P3,hN3,he3,hc3⟩:=HD.out
    have HO2:Own (grow o w1 ⟨n,3,k⟩) ⟨n,3,k⟩ (tblks Q (tr0 tk ep)):=fun j hj=>grow_new (HNew.out j hj)
    have hT3:=HT.out.chg hc3 HO2 (by simp [cls])
    have hO3:=HO2.ext he3 HT.out.lt
    have c5:=hN3.track hkk
    have f5:=hN3.free (2+k)
    have hN4:=hN3.setT hn hkk hT3 hO3
    have he4':Ext w1 o o3:=Ext.trans (grow_ext o w1 _) he3 HB2.out.size
    have he4:Ext w o o3:=fun j hj=>he4' j (by have:=HB1.out.size;omega)
    have hc4:Chg o (mine n) w (w3.setCell ⟨b,2+k,none⟩ (.pointer (some ⟨Q.p,0,none⟩))):=by
      have q1:Chg o (mine n) w w2:=(Chg.of_below HB1.out _ _).trans' (Chg.of_below HB2.out _ _)
      have q2:Chg (grow o w1 ⟨n,3,k⟩) (mine n) w2 w3:=cls_mine hc3
      have q3:=q1.trans q2 (fun j hj=>by rw [grow_old (by have:=HB1.out.size;omega)])
      exact q3.trans (chg_mine (hN3.chgB (2+k) _)) he4
    have hin:({ N with sb:=N.sb.map (fun x=>(x.1,sbegin x.2)),tr:=updR N.tr k (tr0 tk ep) }:Nd).tr k=some (tr0 tk ep):=by simp [updR]
    have CK:=hidden (TAIL.out _ o3 _ _ (tr0 tk ep) hN4 hin he4 hc4)
    have TT:=hidden (fun w2 v h1 h2=>plan_tail (w2:=w2) (v:=v) hn hN4 hkk hin pa K h1 h2 (by omega))
    have HG:=hidden (hN4.trs k hkk _ hin).1
    have hqp:(updT P3.tp k Q k).p=Q.p:=by simp [updT]
    obtain ⟨qp,hqq⟩:∃ qp,Q.p=qp:=⟨_,rfl⟩
    have HQ:Hid ((updT P3.tp k Q k).p=qp):=hqp.trans hqq
    have TT2:Hid (∀ w2 v,w2.ownsRow (w3.setCell ⟨b,2+k,none⟩ (.pointer (some ⟨Q.p,0,none⟩))).heap.size 3 1 v K.length (Gaps.ic K)→Below (w3.setCell ⟨b,2+k,none⟩ (.pointer (some ⟨Q.p,0,none⟩))).heap.size (w3.setCell ⟨b,2+k,none⟩ (.pointer (some ⟨Q.p,0,none⟩))) w2→Done w ((w2.setCell ⟨qp,2,none⟩ (.int .i64 pa)).setCell ⟨qp,3,none⟩ v) o n b R):=by
      refine hidden ?_
      intro w2' v h1 h2
      have hd:=TT.out w2' v h1 h2
      obtain ⟨o',P',q1,q2,q3⟩:=hd
      rw [show ({ P3 with tp:=updT P3.tp k Q }:NP).tp k=updT P3.tp k Q k from rfl,HQ.out] at q1 q3
      refine ⟨o',P',?_,he4.trans q2 hc4.size,hc4.trans q3 he4⟩
      rw [← hR]
      have e:updR (updR N.tr k (tr0 tk ep)) k ((tr0 tk ep).to pa K)=updR N.tr k ((tr0 tk ep).to pa K):=by
        funext j
        unfold updR
        split<;>rfl
      rw [← e]
      exact q1
    rw [hqq] at CK HG TT2 hN4 hc4
    obtain ⟨w4,hw4⟩:∃ w4,w3.setCell ⟨b,2+k,none⟩ (.pointer (some ⟨qp,0,none⟩))=w4:=⟨_,rfl⟩
    rw [hw4] at CK HG TT2
    have HW4:=hidden hw4
    obtain ⟨cv,hcv⟩:∃ cv,tpv (N.tr k) (P3.tp k)=cv:=⟨_,rfl⟩
    have c5':w3.cell? ⟨b,2+k,none⟩=some cv:=by rw [← hcv];exact c5
    clear TT hN4 hc4 hin hqp hT3 hO3 hN3 he3 hc3 c5 hcv hw4
    rw [hqq]
    clear hqq
    go_upto_region 13 with fail
    rw [HW4.out]
    go_wp2_with fail
    refine CK.out.mono ?_
    rintro e w5 ⟨v,rfl,hr5,hb5⟩
    have bxq:=HG.out.box
    rw [show (({ P3 with tp:=updT P3.tp k Q }:NP).tp k).p=qp from HQ.out] at bxq
    have bx5:=(hb5.block qp (lt_of_block bxq)).trans bxq
    have c2:w5.cell? ⟨qp,2,none⟩=some (.int .i64 0):=by simp [World.cell?,bx5,tr0]
    obtain ⟨v3,c3⟩:∃ v3,w5.cell? ⟨qp,3,none⟩=some v3:=by simp [World.cell?,bx5]
    have f2:w5.frozen? ⟨qp,2,none⟩=false:=by simp [World.frozen?,bx5]
    have f3:w5.frozen? ⟨qp,3,none⟩=false:=by simp [World.frozen?,bx5]
    obtain ⟨va,vc,rfl,_⟩:=Gaps.own_ints hr5 (by omega)
    have HD5:=hidden (TT2.out w5 _ hr5 hb5)
    clear bxq bx5 hr5 hb5 TT2 CK
    go_wp2_with fail
    go_ret
    exact ⟨rfl,HD5.out⟩
  | some t=>
    have g:=(hN1.trs k hkk t hx).1
    have bx:=g.box
    rw [hx] at ct hR z5
    simp only [tpv] at ct
    simp only [] at hR
    have ce:w1.cell? ⟨(P.tp k).p,1,none⟩=some (.int .i64 t.ep):=by simp [World.cell?,bx]
    by_cases hlt:t.ep<ep
    · rw [if_pos hlt] at hR
      obtain ⟨pp,hpp⟩:∃ pp,(P.tp k).p=pp:=⟨_,rfl⟩
      obtain ⟨te,hte⟩:∃ te,t.ep=te:=⟨_,rfl⟩
      rw [hpp] at ct ce
      rw [hte] at ce hlt
      have hlt':decide (te<ep)=true:=by simpa using hlt
      clear hlt bx g hpp hte z5
      have HN1:=hidden hN1
      clear hN1
      go_wp2_with fail
      refine (CP.out _).mono ?_
      rintro e w2 ⟨Q,rfl,hT,hnew,hb2⟩
      have hN2:=HN1.out.below hb2
      have CB:=hidden (beginSubs_all n b (grow o w1 ⟨n,3,k⟩) P N tk w2 hn (HN1.out.chg (S:=fun _=>False) (Chg.of_below hb2 _ _) (fun g hg=>hg.elim) (grow_ext o w1 _)) HI.out HAl.out)
      have HT:=hidden hT
      have HNew:=hidden hnew
      have HB2:=hidden hb2
      clear hT hnew hb2 hN2
      go_wp2_with fail
      refine CB.out.mono ?_
      rintro e w3 ⟨rfl,hD⟩
      have HD:=hidden hD
      clear hD
      obtain ⟨o3,P3,hN3,he3,hc3⟩:=HD.out
      have HO2:Own (grow o w1 ⟨n,3,k⟩) ⟨n,3,k⟩ (tblks Q (tr0 tk ep)):=fun j hj=>grow_new (HNew.out j hj)
      have hT3:=HT.out.chg hc3 HO2 (by simp [cls])
      have hO3:=HO2.ext he3 HT.out.lt
      have c5:=hN3.track hkk
      have f5:=hN3.free (2+k)
      have hN4:=hN3.setT hn hkk hT3 hO3
      have he4':Ext w1 o o3:=Ext.trans (grow_ext o w1 _) he3 HB2.out.size
      have he4:Ext w o o3:=fun j hj=>he4' j (by have:=HB1.out.size;omega)
      have hc4:Chg o (mine n) w (w3.setCell ⟨b,2+k,none⟩ (.pointer (some ⟨Q.p,0,none⟩))):=by
        have q1:Chg o (mine n) w w2:=(Chg.of_below HB1.out _ _).trans' (Chg.of_below HB2.out _ _)
        have q2:Chg (grow o w1 ⟨n,3,k⟩) (mine n) w2 w3:=cls_mine hc3
        have q3:=q1.trans q2 (fun j hj=>by rw [grow_old (by have:=HB1.out.size;omega)])
        exact q3.trans (chg_mine (hN3.chgB (2+k) _)) he4
      have hin:({ N with sb:=N.sb.map (fun x=>(x.1,sbegin x.2)),tr:=updR N.tr k (tr0 tk ep) }:Nd).tr k=some (tr0 tk ep):=by simp [updR]
      have CK:=hidden (TAIL.out _ o3 _ _ (tr0 tk ep) hN4 hin he4 hc4)
      have TT:=hidden (fun w2 v h1 h2=>plan_tail (w2:=w2) (v:=v) hn hN4 hkk hin pa K h1 h2 (by omega))
      have HG:=hidden (hN4.trs k hkk _ hin).1
      have hqp:(updT P3.tp k Q k).p=Q.p:=by simp [updT]
      obtain ⟨qp,hqq⟩:∃ qp,Q.p=qp:=⟨_,rfl⟩
      have HQ:Hid ((updT P3.tp k Q k).p=qp):=hqp.trans hqq
      have TT2:Hid (∀ w2 v,w2.ownsRow (w3.setCell ⟨b,2+k,none⟩ (.pointer (some ⟨Q.p,0,none⟩))).heap.size 3 1 v K.length (Gaps.ic K)→Below (w3.setCell ⟨b,2+k,none⟩ (.pointer (some ⟨Q.p,0,none⟩))).heap.size (w3.setCell ⟨b,2+k,none⟩ (.pointer (some ⟨Q.p,0,none⟩))) w2→Done w ((w2.setCell ⟨qp,2,none⟩ (.int .i64 pa)).setCell ⟨qp,3,none⟩ v) o n b R):=by
        refine hidden ?_
        intro w2' v h1 h2
        have hd:=TT.out w2' v h1 h2
        obtain ⟨o',P',q1,q2,q3⟩:=hd
        rw [show ({ P3 with tp:=updT P3.tp k Q }:NP).tp k=updT P3.tp k Q k from rfl,HQ.out] at q1 q3
        refine ⟨o',P',?_,he4.trans q2 hc4.size,hc4.trans q3 he4⟩
        rw [← hR]
        have e:updR (updR N.tr k (tr0 tk ep)) k ((tr0 tk ep).to pa K)=updR N.tr k ((tr0 tk ep).to pa K):=by
          funext j
          unfold updR
          split<;>rfl
        rw [← e]
        exact q1
      rw [hqq] at CK HG TT2 hN4 hc4
      obtain ⟨w4,hw4⟩:∃ w4,w3.setCell ⟨b,2+k,none⟩ (.pointer (some ⟨qp,0,none⟩))=w4:=⟨_,rfl⟩
      rw [hw4] at CK HG TT2
      have HW4:=hidden hw4
      obtain ⟨cv,hcv⟩:∃ cv,tpv (N.tr k) (P3.tp k)=cv:=⟨_,rfl⟩
      have c5':w3.cell? ⟨b,2+k,none⟩=some cv:=by rw [← hcv];exact c5
      clear TT hN4 hc4 hin hqp hT3 hO3 hN3 he3 hc3 c5 hcv hw4
      rw [hqq]
      clear hqq
      go_upto_region 13 with fail
      rw [HW4.out]
      go_wp2_with fail
      refine CK.out.mono ?_
      rintro e w5 ⟨v,rfl,hr5,hb5⟩
      have bxq:=HG.out.box
      rw [show (({ P3 with tp:=updT P3.tp k Q }:NP).tp k).p=qp from HQ.out] at bxq
      have bx5:=(hb5.block qp (lt_of_block bxq)).trans bxq
      have c2:w5.cell? ⟨qp,2,none⟩=some (.int .i64 0):=by simp [World.cell?,bx5,tr0]
      obtain ⟨v3,c3⟩:∃ v3,w5.cell? ⟨qp,3,none⟩=some v3:=by simp [World.cell?,bx5]
      have f2:w5.frozen? ⟨qp,2,none⟩=false:=by simp [World.frozen?,bx5]
      have f3:w5.frozen? ⟨qp,3,none⟩=false:=by simp [World.frozen?,bx5]
      obtain ⟨va,vc,rfl,_⟩:=Gaps.own_ints hr5 (by omega)
      have HD5:=hidden (TT2.out w5 _ hr5 hb5)
      clear bxq bx5 hr5 hb5 TT2 CK
      go_wp2_with fail
      go_ret
      exact ⟨rfl,HD5.out⟩
    · rw [if_neg hlt] at hR
      have TT:=hidden (fun w2 v h1 h2=>plan_tail (w2:=w2) (v:=v) hn hN1 hkk hx pa K h1 h2 (by omega))
      have CK:=hidden (TAIL.out w1 o P N t hN1 hx (Ext.refl _ _) (Chg.of_below HB1.out _ _))
      obtain ⟨te,hte⟩:∃ te,t.ep=te:=⟨_,rfl⟩
      rw [hte] at ce hlt
      have hlt':decide (te<ep)=false:=by simpa using hlt
      have HG:=hidden g
      obtain ⟨pp,hpp⟩:∃ pp,(P.tp k).p=pp:=⟨_,rfl⟩
      rw [hpp] at ct ce TT
      have HPP:=hidden hpp
      clear hlt bx g hte z5 hpp hN1
      go_wp2_with fail
      refine CK.out.mono ?_
      rintro e w2 ⟨v,rfl,hr2,hb2⟩
      have bxq:=HG.out.box
      rw [HPP.out] at bxq
      have bx2:=(hb2.block pp (lt_of_block bxq)).trans bxq
      have c2:w2.cell? ⟨pp,2,none⟩=some (.int .i64 t.pa):=by simp [World.cell?,bx2]
      have c3:w2.cell? ⟨pp,3,none⟩=some (.slice (P.tp k).ka t.kids.length (P.tp k).kc):=by simp [World.cell?,bx2]
      have f2:w2.frozen? ⟨pp,2,none⟩=false:=by simp [World.frozen?,bx2]
      have f3:w2.frozen? ⟨pp,3,none⟩=false:=by simp [World.frozen?,bx2]
      obtain ⟨va,vc,rfl,_⟩:=Gaps.own_ints hr2 (by omega)
      have HD:=hidden (TT.out w2 _ hr2 hb2)
      clear bxq bx2 hr2 hb2 TT CK
      go_wp2_with fail
      go_ret
      refine ⟨rfl,?_⟩
      have hD:=HD.out
      rw [hR] at hD
      obtain ⟨o',P',q1,q2,q3⟩:=hD
      exact ⟨o',P',q1,fun j hj=>q2 j (by have:=HB1.out.size;omega),(Chg.of_below HB1.out _ _).trans' q3⟩
def s0 (tk mo:Int):Sb:=⟨tk,mo,0,-1,[],-1,-1,false,0,0,0,0,[]⟩
def sF (N:Nd) (tk mo:Int):Nat:=if okT tk=false then 1 else if mo<0∨3<mo then 1 else if (N.at tk).isNone then 5 else if 20≤N.sb.length then 4 else 0
def Nd.subs (N:Nd) (tk mo:Int):Nd:={ N with ls:=N.ls+1,sb:=N.sb++[(N.ls+1,s0 tk mo)] }
theorem NAt.addS {w w':World} {o:Nat→Tg} {n b:Nat} {P:NP} {N:Nd} (h:NAt w o n b P N) (hn:n≠0) {x:Int} {s:Sb} {Q:SP} (hx:∀ y∈ids N.sb,y<x) (hr:(ids N.sb).Pairwise fun a b=>a<b) (hl:SbAt w o Q s) (ho:Own o ⟨n,4,x⟩ (sblks Q)) {D:DataW Value} {m:Nat} (hD:w.ownsMap Tryz.prog 3 ptR P.sm N.sb.length D∧SM D (ids N.sb) fun x=>(P.sp x).s) (hm:w'.ownsMap Tryz.prog 3 ptR P.sm m (D.put (GM.key x) (.held (.pointer (some ⟨Q.s,0,none⟩))))) (ho':Only [P.sm] w w') :
    NAt w' o n b { P with sp:=updS P.sp x Q } { N with sb:=N.sb++[(x,s)] }:=by
  have hc:Chg o (fun g=>g=⟨n,0,1⟩) w w':=Chg.of_only ho' (by intro k hk;simp at hk;rw [hk];exact h.smt) (by intro k hk;simp at hk;rw [hk];exact nobAt_map (RM.map_block hD.1))
  have he:=Ext.refl w o
  have h0:∀ g:Tg,g=⟨n,0,1⟩→g.n≠0:=by rintro g rfl;exact hn
  obtain ⟨cs,h1,h2⟩:=h.box' hc (by simp)
  have hnx:x∉ids N.sb:=fun hh=>by have:=hx x hh;omega
  have hids:ids (N.sb++[(x,s)])=ids N.sb++[x]:=by simp [ids]
  have hS:=hD.2.put hD.1.isMap hnx Q.s
  have hris:(ids N.sb++[x]).Pairwise fun a b=>a<b:=by
    rw [List.pairwise_append]
    exact ⟨hr,by simp,fun y hy z hz=>by simp at hz;rw [hz];exact hx y hy⟩
  refine ⟨⟨cs,h1,⟨h2.sz,h2.c0,h2.c1,h2.ct,h2.c10,h2.c11,h2.c12,h2.c13⟩⟩,h.tag,fun i hi=>h.trs' hc he hi (by simp),?_,h.smt,?_,h.pul' hc (by simp),h.put,h.ltr' hc he h0 (by simp),h.ltt⟩
  · have hsz:=hS.keys.size (hm.entries law3) (ris_lk hris).apart
    have ht:=RM.tight hm
    rw [hsz,List.length_map] at ht
    rw [show (N.sb++[(x,s)]).length=(ids N.sb++[x]).length from by simp [ids],hids]
    refine ⟨_,ht,hS.ext ?_⟩
    intro y hy
    show (if y=x then Q.s else (P.sp y).s)=(updS P.sp x Q y).s
    unfold updS
    split<;>rfl
  · intro y hy
    rcases List.mem_append.1 hy with hy | hy
    · have e:y.1≠x:=by have:=hx y.1 (List.mem_map.2 ⟨y,hy,rfl⟩);omega
      simp only [updS,if_neg e]
      exact h.sbs' hc he h0 hy (by simp)
    · simp only [List.mem_singleton] at hy
      subst hy
      simp only [updS,if_pos]
      exact ⟨hl.chg hc ho (by simp) h0 he,ho⟩
set_option maxHeartbeats 1000000 in
theorem sub_bad (n b:Nat) (o:Nat→Tg) (P:NP) (N:Nd) (tk mo:Int) (w:World) (hN:NAt w o n b P N) (hI:SInv N.sb N.ls) (hf:sF N tk mo≠0) :
    Calls Tryz.prog 6 #[.pointer (some ⟨b,0,none⟩),.int .i64 tk,.int .i64 mo] w fun e w'=>e=.returned (.tuple #[.int .i64 0,errv (sF N tk mo)])∧Below w.heap.size w w':=by
  have CT:=hidden (isTrack_calls tk)
  obtain ⟨f,hff⟩:∃ f,sF N tk mo=f:=⟨_,rfl⟩
  rw [hff] at hf
  rw [hff]
  unfold sF at hff
  cases hT:okT tk with
  | false=>
    rw [hT] at CT
    rw [if_pos hT] at hff
    subst hff
    clear hT hN hI hf
    go_enter Tryz.func6,Tryz.ntmps6
    go_wp2_with fail
    refine (CT.out _).mono ?_
    rintro e w1 ⟨rfl,rfl⟩
    go_wp2_with fail
    go_ret2
    exact ⟨rfl,Below.refl _ _⟩
  | true=>
    rw [if_neg (by simp [hT])] at hff
    rw [hT] at CT
    obtain ⟨k,hkk,hk1,hk2⟩:∃ k:Nat,k<8∧tk=(k:Int)+1∧(tk - 1).toNat=k:=⟨(tk - 1).toNat,by simp [okT] at hT;omega,by simp [okT] at hT;omega,rfl⟩
    clear hT
    have hk3:wrap64 (tk - 1)=(k:Int):=by unfold wrap64;omega
    have hk4:(k:Int)<8:=by omega
    by_cases m0:mo<0
    · rw [if_pos (.inl m0)] at hff
      subst hff
      have m0':decide (mo<0)=true:=by simpa using m0
      clear m0 hN hI hf hk1 hk2
      go_enter Tryz.func6,Tryz.ntmps6
      go_wp2_with fail
      refine (CT.out _).mono ?_
      rintro e w1 ⟨rfl,rfl⟩
      go_wp2_with fail
      go_ret2
      exact ⟨rfl,Below.refl _ _⟩
    have m0':decide (mo<0)=false:=by simpa using m0
    by_cases m1:3<mo
    · rw [if_pos (.inr m1)] at hff
      subst hff
      have m1':decide (3<mo)=true:=by simpa using m1
      clear m0 m1 hN hI hf hk1 hk2
      go_enter Tryz.func6,Tryz.ntmps6
      go_wp2_with fail
      refine (CT.out _).mono ?_
      rintro e w1 ⟨rfl,rfl⟩
      go_wp2_with fail
      go_ret2
      exact ⟨rfl,Below.refl _ _⟩
    have m1':decide (3<mo)=false:=by simpa using m1
    rw [if_neg (by omega)] at hff
    clear m0 m1
    have ct:=hN.track hkk
    unfold Nd.at at hff
    rw [hk2] at hff
    cases hx:N.tr k with
    | none=>
      rw [hx] at ct
      rw [if_pos (by rw [hx];rfl)] at hff
      subst hff
      simp only [tpv] at ct
      clear hx hN hI hf hk1 hk2
      go_enter Tryz.func6,Tryz.ntmps6
      go_wp2_with fail
      refine (CT.out _).mono ?_
      rintro e w1 ⟨rfl,rfl⟩
      go_wp2_with fail
      go_ret2
      exact ⟨rfl,Below.refl _ _⟩
    | some t=>
      rw [hx] at ct
      rw [if_neg (by rw [hx];simp)] at hff
      simp only [tpv] at ct
      have hge:20≤N.sb.length:=by
        by_cases c:20≤N.sb.length
        · exact c
        · rw [if_neg c] at hff;omega
      rw [if_pos hge] at hff
      subst hff
      obtain ⟨D,hown,hS⟩:=hN.sbm
      have hsz:Maps.size D=N.sb.length:=by
        have:=hS.keys.size (hown.entries law3) (ris_lk hI.ris).apart
        rwa [List.length_map,ids_len] at this
      have c10:=hN.cells.2.2.1
      have hlen:∀ ty,(Builtin.len_ #[49] ty #[.map (some P.sm)]).run Tryz.prog w=.ok (.int .i64 (N.sb.length:Nat)) w:=fun ty=>by rw [← hsz];exact hown.len Tryz.underlying49 ty
      obtain ⟨nl,hnl⟩:∃ nl,N.sb.length=nl:=⟨_,rfl⟩
      rw [hnl] at hlen hge
      have hge':decide ((20:Int)≤(nl:Int))=true:=by simp;omega
      have hge2:decide (20≤nl)=true:=by simpa using hge
      obtain ⟨pp,hpp⟩:∃ pp,(P.tp k).p=pp:=⟨_,rfl⟩
      obtain ⟨sm,hsm⟩:∃ sm,P.sm=sm:=⟨_,rfl⟩
      rw [hpp] at ct
      rw [hsm] at c10 hlen
      clear hx hN hI hf hk1 hk2 hown hS hsz hnl hpp hsm hge
      go_enter Tryz.func6,Tryz.ntmps6
      go_wp2_with fail
      refine (CT.out _).mono ?_
      rintro e w1 ⟨rfl,rfl⟩
      go_wp2_with fail
      go_ret2
      exact ⟨rfl,Below.refl _ _⟩
theorem sub_tail {w w2:World} {o:Nat→Tg} {n b:Nat} {P:NP} {N:Nd} {tk mo:Int} {ob om lb ub:Nat} (hn:n≠0) (h:NAt w o n b P N) (hI:SInv N.sb N.ls) (hls:N.ls<1000000) (hB:Begun (w.alloc (.cells #[.int .i64 tk,.int .i64 mo,.pointer none,.pointer none,.pointer none,.slice none 0 0] 71)) w2 w.heap.size tk mo (.slice none 0 0) ob om lb ub) :
    NAt w2 (grow o w ⟨n,4,N.ls+1⟩) n b P N∧Below w.heap.size w w2∧∃ w4,(Instr.mapUpdate 49 (.map (some P.sm)) (.int .i64 (N.ls+1)) (.pointer (some ⟨w.heap.size,0,none⟩))).run Tryz.prog (w2.setCell ⟨b,11,none⟩ (.int .i64 (N.ls+1))).drew=.ok () w4∧w4.cell? ⟨b,11,none⟩=some (.int .i64 (N.ls+1))∧Done w w4 o n b (N.subs tk mo):=by
  have hs1:(w.alloc (.cells #[.int .i64 tk,.int .i64 mo,.pointer none,.pointer none,.pointer none,.slice none 0 0] 71)).heap.size=w.heap.size+1:=by simp
  have hbel:Below w.heap.size w w2:=((Below.refl _ _).alloc (Nat.le_refl _) _).trans (hB.only.below (by omega) (by simp))
  obtain ⟨n1,n2,n3,n4⟩:=hB.new
  rw [hs1] at n1 n2 n3 n4
  have he:=grow_ext o w ⟨n,4,N.ls+1⟩
  have hc2:Chg o (fun _=>False) w w2:=Chg.of_below hbel _ _
  have hN2:NAt w2 (grow o w ⟨n,4,N.ls+1⟩) n b P N:=h.chg hc2 (fun g hg=>hg.elim) he
  have hN3:=hN2.setS hn (N.ls+1)
  have hc3:=hN2.chgB 11 (.int .i64 (N.ls+1))
  have hSb2:SbAt w2 (grow o w ⟨n,4,N.ls+1⟩) ⟨w.heap.size,ob,om,lb,ub,.slice none 0 0⟩ (s0 tk mo):=⟨hB.box,⟨[],rfl,hB.ord⟩,hB.lay,hB.out,GotAt.nil _ _⟩
  have hOw:Own (grow o w ⟨n,4,N.ls+1⟩) ⟨n,4,N.ls+1⟩ (sblks ⟨w.heap.size,ob,om,lb,ub,.slice none 0 0⟩):=by
    intro k hk
    simp [sblks,Value.ownBlock] at hk
    rcases hk with rfl | rfl | rfl | rfl | rfl<;>exact grow_new (by omega)
  have hSb3:=hSb2.chg hc3 hOw (by simp) (by rintro g rfl;exact hn) (Ext.refl _ _)
  have hN3d:NAt (w2.setCell ⟨b,11,none⟩ (.int .i64 (N.ls+1))).drew (grow o w ⟨n,4,N.ls+1⟩) n b P { N with ls:=N.ls+1 }:=hN3.below ((Below.refl _ _).drew)
  have hSb3d:SbAt (w2.setCell ⟨b,11,none⟩ (.int .i64 (N.ls+1))).drew (grow o w ⟨n,4,N.ls+1⟩) ⟨w.heap.size,ob,om,lb,ub,.slice none 0 0⟩ (s0 tk mo):=hSb3.chg (S:=fun _=>False) (Chg.of_below ((Below.refl _ _).drew) _ _) hOw (fun hg=>hg) (fun g hg=>hg.elim) (Ext.refl _ _)
  obtain ⟨D,hown,hS⟩:=hN3d.sbm
  have hl:=hI.len
  have l0:=hI.ls0
  obtain ⟨w4,hrun,hown4,hturn⟩:=hown.store law3 Tryz.underlying49 (by unfold maxLen;simp only;omega) (keyOf3 (wf_of (y:=N.ls+1) (by omega) (by omega))) (ptR_mk (some ⟨w.heap.size,0,none⟩))
  have ho4:Only [P.sm] (w2.setCell ⟨b,11,none⟩ (.int .i64 (N.ls+1))).drew w4:=(Only.refl _ _).grown hturn.grown (by simp)
  have hN4:=hN3d.addS hn (x:=N.ls+1) (s:=s0 tk mo) (Q:=⟨w.heap.size,ob,om,lb,ub,.slice none 0 0⟩) (by
    intro y hy
    obtain ⟨z,hz,rfl⟩:=List.mem_map.1 hy
    have:=hI.mem z hz
    omega) hI.ris hSb3d hOw ⟨hown,hS⟩ hown4 ho4
  refine ⟨hN2,hbel,w4,hrun,hN4.cells.2.2.2.1,grow o w ⟨n,4,N.ls+1⟩,_,hN4,he,?_⟩
  have q1:Chg o (mine n) w w2:=hc2.mono (fun g hg=>hg.elim)
  have q2:Chg (grow o w ⟨n,4,N.ls+1⟩) (mine n) w2 (w2.setCell ⟨b,11,none⟩ (.int .i64 (N.ls+1))).drew:=(chg_mine hc3).trans' (Chg.of_below ((Below.refl _ _).drew) _ _)
  have q3:Chg (grow o w ⟨n,4,N.ls+1⟩) (mine n) (w2.setCell ⟨b,11,none⟩ (.int .i64 (N.ls+1))).drew w4:=Chg.of_only ho4 (by intro k hk;simp at hk;rw [hk,hN3d.smt];rfl) (by intro k hk;simp at hk;rw [hk];exact nobAt_map (RM.map_block hown))
  exact q1.trans (q2.trans' q3) he
set_option maxHeartbeats 1000000 in
theorem sub_ok (n b:Nat) (o:Nat→Tg) (P:NP) (N:Nd) (tk mo:Int) (w:World) (hn:n≠0) (hN:NAt w o n b P N) (hI:SInv N.sb N.ls) (hls:N.ls<1000000) (hf:sF N tk mo=0) :
    Calls Tryz.prog 6 #[.pointer (some ⟨b,0,none⟩),.int .i64 tk,.int .i64 mo] w fun e w'=>e=.returned (.tuple #[.int .i64 (N.ls+1),.nilIface])∧Done w w' o n b (N.subs tk mo):=by
  have CT:=hidden (isTrack_calls tk)
  unfold sF at hf
  split at hf
  · omega
  rename_i hT
  have hT:okT tk=true:=by simpa using hT
  split at hf
  · omega
  rename_i hm
  split at hf
  · omega
  rename_i hx
  split at hf
  · omega
  rename_i hge
  rw [hT] at CT
  obtain ⟨k,hkk,hk1,hk2⟩:∃ k:Nat,k<8∧tk=(k:Int)+1∧(tk - 1).toNat=k:=⟨(tk - 1).toNat,by simp [okT] at hT;omega,by simp [okT] at hT;omega,rfl⟩
  clear hT
  have hk3:wrap64 (tk - 1)=(k:Int):=by unfold wrap64;omega
  have hk4:(k:Int)<8:=by omega
  have m0:decide (mo<0)=false:=by simp;omega
  have m1:decide (3<mo)=false:=by simp;omega
  have ct:=hN.track hkk
  unfold Nd.at at hx
  rw [hk2] at hx
  obtain ⟨t,ht⟩:∃ t,N.tr k=some t:=by
    cases h:N.tr k with
    | none=>rw [h] at hx;exact absurd rfl hx
    | some t=>exact ⟨t,rfl⟩
  rw [ht] at ct
  simp only [tpv] at ct
  obtain ⟨D,hown,hS⟩:=hN.sbm
  have hsz:Maps.size D=N.sb.length:=by
    have:=hS.keys.size (hown.entries law3) (ris_lk hI.ris).apart
    rwa [List.length_map,ids_len] at this
  have c10:=hN.cells.2.2.1
  have hlen:∀ ty,(Builtin.len_ #[49] ty #[.map (some P.sm)]).run Tryz.prog w=.ok (.int .i64 (N.sb.length:Nat)) w:=fun ty=>by rw [← hsz];exact hown.len Tryz.underlying49 ty
  obtain ⟨nl,hnl⟩:∃ nl,N.sb.length=nl:=⟨_,rfl⟩
  rw [hnl] at hlen hge
  have hge':decide ((20:Int)≤(nl:Int))=false:=by simp;omega
  have hge2:decide (20≤nl)=false:=by simpa using hge
  obtain ⟨pp,hpp⟩:∃ pp,(P.tp k).p=pp:=⟨_,rfl⟩
  rw [hpp] at ct
  have CB:=hidden (begin_calls w.heap.size tk mo (.pointer none) (.pointer none) (.pointer none) (.slice none 0 0) (w.alloc (.cells #[.int .i64 tk,.int .i64 mo,.pointer none,.pointer none,.pointer none,.slice none 0 0] 71)) (heap_alloc_new w _) (by omega) (by omega))
  have TL:=hidden (fun w2 ob om lb ub (h:Begun _ w2 w.heap.size tk mo (.slice none 0 0) ob om lb ub)=>sub_tail hn hN hI hls h)
  obtain ⟨R,hR⟩:∃ R,N.subs tk mo=R:=⟨_,rfl⟩
  obtain ⟨sm,hsm⟩:∃ sm,P.sm=sm:=⟨_,rfl⟩
  obtain ⟨ls,hlse⟩:∃ ls,N.ls=ls:=⟨_,rfl⟩
  have l0:=hI.ls0
  rw [hlse] at l0 hls ⊢
  rw [hR] at TL ⊢
  rw [hsm] at c10 hlen TL
  rw [hlse] at TL
  have hwr:wrap64 (ls+1)=ls+1:=by unfold wrap64;omega
  have HSM:=hidden hsm
  have HLS:=hidden hlse
  have HN:=hidden hN
  clear hm hx hge hk1 hk2 ht hown hS hsz hnl hpp hN hI hR hsm hlse hls
  go_enter Tryz.func6,Tryz.ntmps6
  go_wp2_with fail
  refine (CT.out _).mono ?_
  rintro e w1 ⟨rfl,rfl⟩
  go_wp2_with fail
  refine CB.out.mono ?_
  rintro e w2 ⟨ob,om,lb,ub,rfl,hB⟩
  obtain ⟨hN2,hb2,w4,hrun,c4,hD⟩:=TL.out w2 ob om lb ub hB
  have c11:=hN2.cells.2.2.2.1
  rw [HLS.out] at c11
  have f11:=hN2.free 11
  have hN3:=hN2.setS (N:=N) hn (ls+1)
  have d10:=hN3.cells.2.2.1
  have d11:=hN3.cells.2.2.2.1
  rw [HSM.out] at d10
  simp only at d11
  have HD:=hidden hD
  obtain ⟨w3,hw3⟩:∃ w3,w2.setCell ⟨b,11,none⟩ (.int .i64 (ls+1))=w3:=⟨_,rfl⟩
  rw [hw3] at hrun d10 d11
  have HW3:=hidden hw3
  have d10':w3.drew.cell? ⟨b,10,none⟩=some (.map (some sm)):=d10
  have d11':w3.drew.cell? ⟨b,11,none⟩=some (.int .i64 (ls+1)):=d11
  have hbz:b<w2.heap.size:=hN2.lt
  clear hB hN2 hb2 hD hN3 hw3 TL CB CT
  go_upto_region 12 with fail
  rw [HW3.out]
  clear c11 f11
  go_region
  go_wp2_with fail
  go_ret2
  exact ⟨rfl,HD.out⟩
end Go.Proofs.YtigibpcpnkdmcaaGreatDoor.ND
