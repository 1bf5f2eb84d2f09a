/-
 NodeH, NodeJ, NodeK in one text.
-/
import Derived.Test.YtpiamlgmadnepaaGreatNodeAll
import Derived.Test.YtpiamlgmadnepaaGreatShelfBP
open Go.Proofs.Tryz
set_option linter.unusedVariables false
set_option maxHeartbeats 1000000
namespace Go.Proofs.YtpiamlgmadnepaaGreat.ND
open Go.ChangeShapes Go.WideShapes Go.ChangeAt Go.RowKit Go.Maps Mem NO
def DoneS (S:Tg->Prop) (w w':World) (o:Nat->Tg) (n b:Nat) (N:Nd):Prop:=∃ o' P,NAt w' o' n b P N/\Ext w o o'/\Chg o S w w'
abbrev Done (w w':World) (o:Nat->Tg) (n b:Nat) (N:Nd):Prop:=DoneS (mine n) w w' o n b N
def cls (n c:Nat) (g:Tg):Prop:=g.n=n/\g.c=c
theorem ξdb {o:Nat->Tg} {n:Nat} {w w':World} {c:Nat} (h:Chg o (cls n c) w w'):Chg o (mine n) w w':=h.mono (fun t ht=>ht.1)
def sbegin (s:Sb):Sb:=⟨s.tk,s.mo,0,-1,[],-1,-1,false,0,0,0,0,s.got⟩
def bsb (l:List (Int×Sb)) (i:Nat):List (Int×Sb):=(l.take i).map (fun x=>(x.1,sbegin x.2))++l.drop i
def BSt (w wr:World) (o:Nat->Tg) (n b:Nat) (P:NP) (N:Nd) (i:Nat):Prop:=
 ∃ oi Pi,NAt wr oi n b Pi { N with sb:=bsb N.sb i }/\(∀ x,(Pi.sp x).s=(P.sp x).s)/\Ext w o oi/\Chg o (cls n 4) w wr
theorem ξ1t (a:Option Addr) (n cap:Nat) (L:List Int) (w:World) (h:Gaps.IArg w a n L) (hn:a=none->n=0/\cap=0) (hb:n<=1000000) :
 Calls prog 113 #[.slice a n cap] w fun e w'=>∃ v',e=.returned v'/\w'.ownsRow w.heap.size 3 1 v' n (Gaps.ic L)/\Below w.heap.size w w':=by
 cases a with
 | none=>
   obtain ⟨rfl,rfl⟩:=hn rfl;have:L=[]:=Ξk h.2.1
   subst this;refine (Tryz.slices_Clone_int_nil 0 0 w).mono ?_
   rintro e w' ⟨rfl,rfl⟩;exact ⟨_,rfl,Ξr _ _ _ _,Ξp _ _⟩
 | some ad=>
   rcases Nat.eq_zero_or_pos n with rfl | h0
   ·have:L=[]:=Ξk h.2.1
    subst this;refine (Tryz.slices_Clone_int_zero ad cap w).mono ?_
    rintro e w' ⟨v',rfl,ho,_,hb⟩;exact ⟨v',rfl,ho,hb⟩
   ·obtain ⟨b,o,e,hc⟩:=h.at h0;rw [Option.some.injEq] at e;subst e;have hl:=h.2.1
    refine (Tryz.slices_Clone_int b o n cap L w (by omega) (by omega) (fun j hj=>hc j (by omega))).mono ?_
    rintro e w' ⟨v',rfl,ho,_,hb⟩;refine ⟨v',rfl,?_,hb⟩
    rw [<- hl,List.take_length,hl] at ho;exact ho
theorem TrAt.ne {w:World} {P:TP} {t:Tr} (h:TrAt w P t):P.wm≠P.p/\P.r≠P.p/\P.rm≠P.p/\∀ k∈Gaps.blks P.g P.gm P.gv,k≠P.p:=by
 have bx:=h.box
 obtain ⟨D,h1,_,_⟩:=h.way;refine ⟨?_,?_,?_,?_⟩
 ·intro e;obtain ⟨es,c,hm⟩:=RM.ξc h1;rw [e,bx] at hm;simp at hm
 ·intro e;have:=h.rng.1
  rw [e,bx] at this;simp at this
 ·intro e;obtain ⟨D',h2,_,_⟩:=h.rng.2;obtain ⟨es,c,hm⟩:=RM.ξc h2;rw [e,bx] at hm;simp at hm
 ·intro k hk e;subst e;simp only [Gaps.blks,Ξf] at hk
  rcases hk with hk | hk | hk
  ·have:=h.gap.box
   rw [<- hk,bx] at this;simp at this
  ·obtain ⟨D',h2,_,_⟩:=h.gap.map;obtain ⟨es,c,hm⟩:=RM.ξc h2;rw [<- hk,bx] at hm;simp at hm
  ·obtain ⟨cs,hm⟩:=Gaps.ξD h.gap.row (by simpa using hk)
   rw [bx] at hm;simp at hm
theorem TrAt.sepR {w:World} {P:TP} {t:Tr} (h:TrAt w P t):∀ k∈P.p::P.wm::(Gaps.blks P.g P.gm P.gv++kblk P.ka t.kids),k≠P.r/\k≠P.rm:=by
 have br:=h.rng.1
 obtain ⟨D,h1,_,_⟩:=h.rng.2;obtain ⟨es,c,bm⟩:=RM.ξc h1;obtain ⟨D2,h2,_,_⟩:=h.way;obtain ⟨es2,c2,bw⟩:=RM.ξc h2;obtain ⟨D3,h3,_,_⟩:=h.gap.map;obtain ⟨es3,c3,bg⟩:=RM.ξc h3;have n:=h.ne
 intro k hk;simp only [Ξf,Ξe,Gaps.blks] at hk
 rcases hk with rfl | rfl | (rfl | rfl | hk) | hk
 ·exact ⟨n.2.1.symm,n.2.2.1.symm⟩
 ·exact ⟨fun e=>by rw [e,br] at bw;simp at bw,h.ap.2.2.symm⟩
 ·exact ⟨fun e=>by have:=h.gap.box;rw [e,br] at this;simp at this,fun e=>by have:=h.gap.box;rw [e,bm] at this;simp at this⟩
 ·exact ⟨fun e=>by rw [e,br] at bg;simp at bg,h.ap.1⟩
 ·obtain ⟨cs,hm⟩:=Gaps.ξD h.gap.row (by simpa using hk)
  exact ⟨fun e=>by rw [e,br] at hm;simp at hm,fun e=>by rw [e,bm] at hm;simp at hm⟩
 ·have:=h.kap k hk
  exact ⟨this.2.2.1,this.2.2.2.1⟩
theorem TrAt.sepW {w:World} {P:TP} {t:Tr} (h:TrAt w P t):∀ k∈P.p::P.r::P.rm::(Gaps.blks P.g P.gm P.gv++kblk P.ka t.kids),k≠P.wm:=by
 have br:=h.rng.1
 obtain ⟨D2,h2,_,_⟩:=h.way;obtain ⟨es2,c2,bw⟩:=RM.ξc h2;have n:=h.ne
 intro k hk;simp only [Ξf,Ξe,Gaps.blks] at hk
 rcases hk with rfl | rfl | rfl | (rfl | rfl | hk) | hk
 ·exact n.1.symm
 ·exact fun e=>by rw [e,bw] at br;simp at br
 ·exact h.ap.2.2
 ·exact fun e=>by have:=h.gap.box;rw [e,bw] at this;simp at this
 ·exact h.ap.2.1
 ·obtain ⟨cs,hm⟩:=Gaps.ξD h.gap.row (by simpa using hk)
  exact fun e=>by rw [e,bw] at hm;simp at hm
 ·exact (h.kap k hk).2.1
theorem TrAt.sepG {w:World} {P:TP} {t:Tr} (h:TrAt w P t):∀ k∈P.p::P.wm::P.r::P.rm::kblk P.ka t.kids,k∉Gaps.blks P.g P.gm P.gv:=by
 have n:=h.ne
 have sR:=h.sepR
 have sW:=h.sepW
 intro k hk hm;simp only [Ξf] at hk
 rcases hk with rfl | rfl | rfl | rfl | hk
 ·exact n.2.2.2 _ hm rfl
 ·exact sW _ (by simp only [Ξf,Ξe];exact .inr (.inr (.inr (.inl hm)))) rfl
 ·exact (sR _ (by simp only [Ξf,Ξe];exact .inr (.inr (.inl hm)))).1 rfl
 ·exact (sR _ (by simp only [Ξf,Ξe];exact .inr (.inr (.inl hm)))).2 rfl
 ·exact (h.kap k hk).2.2.2.2 hm
def Tr.to (t:Tr) (pa:Int) (K:List Int):Tr:={ t with pa:=pa,kids:=K }
theorem TrAt.to {w:World} {P:TP} {t:Tr} (h:TrAt w P t) (pa:Int) (K:List Int) {a:Option Addr} {cap:Nat} (hK:Gaps.IArg w a K.length K) (hno:a=none->K.length=0/\cap=0) (hne:∀ ad,a=some ad->∀ k∈P.p::P.wm::P.r::P.rm::Gaps.blks P.g P.gm P.gv,ad.block≠k) :
 TrAt ((w.setCell ⟨P.p,2,none⟩ (.int .i64 pa)).setCell ⟨P.p,3,none⟩ (.slice a K.length cap)) { P with ka:=a,kc:=cap } (t.to pa K):=by
 have k1:=heap_setCell_same w P.p 2 _ _ (.int .i64 pa) h.box
 have k2:=heap_setCell_same _ P.p 3 _ _ (.slice a K.length cap) k1
 have on:Only [P.p] w ((w.setCell ⟨P.p,2,none⟩ (.int .i64 pa)).setCell ⟨P.p,3,none⟩ (.slice a K.length cap)):=by
  iterate 2 refine Only.setCell ?_ (by simp) _
  exact Only.refl _ _
 have nb:∀ k∈[P.p],∀ cs fr,w.heap[k]?≠some (.cells cs 5 fr):=by
  intro k hk cs fr;simp only [Ξg] at hk
  subst hk;rw [h.box];simp
 obtain ⟨n1,n2,n3,n4⟩:=h.ne;refine ⟨by simpa [Tr.to] using k2,ξ1E hK on ?_,hno,h.gap.only on (fun k hk=>by simpa using n4 k hk),h.rng.only on (by simpa using n2) (by simpa using n3) nb,?_,h.ap,?_⟩
 ·intro k hk;unfold kblk at hk;split at hk
  ·simp at hk
  ·cases a with
   | none=>simp at hk
   | some ad=>
     simp at hk
     subst hk;simpa using hne ad rfl P.p (by simp)
 ·obtain ⟨D,h1,h2,h3⟩:=h.way;exact ⟨D,ξJ h1 on (by simpa using n1),h2,h3⟩
 ·intro k hk;simp only [Tr.to] at hk
  unfold kblk at hk;split at hk
  ·simp at hk
  ·cases a with
   | none=>simp at hk
   | some ad=>
     simp at hk
     subst hk;have q:=hne ad rfl
     exact ⟨q _ (by simp),q _ (by simp),q _ (by simp),q _ (by simp),fun hm=>q _ (by simp only [Ξf];exact .inr (.inr (.inr (.inr hm)))) rfl⟩
theorem ξan {w w2:World} {o:Nat->Tg} {n b:Nat} {P:NP} {N:Nd} (hn:n≠0) (h:NAt w o n b P N) {i:Nat} (hi:i<8) {t:Tr} (ht:N.tr i=some t) (pa:Int) (K:List Int) {v:Value} (hrow:w2.ownsRow w.heap.size 3 1 v K.length (Gaps.ic K)) (hb:Below w.heap.size w w2) (hl:K.length<=1000) :
 Done w ((w2.setCell ⟨(P.tp i).p,2,none⟩ (.int .i64 pa)).setCell ⟨(P.tp i).p,3,none⟩ v) o n b { N with tr:=updR N.tr i (t.to pa K) }:=by
 obtain ⟨a,cap,rfl,hK,hno,_,hf⟩:=Gaps.ξo hrow (by omega)
 obtain ⟨k1,k2⟩:=h.trs i hi t ht;have h2:=h.below hb
 obtain ⟨g1,g2⟩:=h2.trs i hi t ht;have lp:=k1.lt (P.tp i).p (by simp [tblks])
 have hT:=g1.to pa K (cap:=cap) hK hno (fun ad e k hk=>by
  obtain ⟨g,rfl,hg,_⟩:=hf ad e;have:=k1.lt k (by simp only [tblks,Ξf,Ξe];simp only [Ξf] at hk;rcases hk with hk | hk | hk | hk | hk<;>simp [hk])
  show g≠k
  omega)
 have hc2:Chg o (fun g=>g=⟨n,3,i⟩) w2 ((w2.setCell ⟨(P.tp i).p,2,none⟩ (.int .i64 pa)).setCell ⟨(P.tp i).p,3,none⟩ (.slice a K.length cap)):=by
  refine Chg.of_only (bs:=[(P.tp i).p]) (by refine Only.setCell ?_ (by simp) _;refine Only.setCell ?_ (by simp) _;exact Only.refl _ _) ?_ ?_
  ·intro k hk;simp at hk
   rw [hk];exact k2 _ (by simp [tblks])
  ·intro k hk;simp at hk
   rw [hk];exact ξj g1.box (by decide)
 have hc:Chg o (fun g=>g=⟨n,3,i⟩) w ((w2.setCell ⟨(P.tp i).p,2,none⟩ (.int .i64 pa)).setCell ⟨(P.tp i).p,3,none⟩ (.slice a K.length cap)):=(Chg.of_below hb _ _).trans' hc2
 have he:=ξ3 o w ⟨n,3,i⟩
 refine ⟨grow o w ⟨n,3,i⟩,_,h.trk hn hi hc he ht (Q:={ P.tp i with ka:=a,kc:=cap }) rfl hT ?_,he,ξx hc⟩
 intro k hk;have hcase:k∈tblks (P.tp i) t∨k∈kblk a K:=by
  simp only [tblks,Tr.to,Ξf,Ξe] at hk ⊢
  rcases hk with hk | hk | hk | hk | hk | hk
  ·exact .inl (.inl hk)
  ·exact .inl (.inr (.inl hk))
  ·exact .inl (.inr (.inr (.inl hk)))
  ·exact .inl (.inr (.inr (.inr (.inl hk))))
  ·exact .inl (.inr (.inr (.inr (.inr (.inl hk)))))
  ·exact .inr hk
 rcases hcase with hk | hk
 ·rw [ξw (k1.lt k hk)];exact k2 k hk
 ·unfold kblk at hk;split at hk
  ·simp at hk
  ·cases a with
   | none=>simp at hk
   | some ad=>
     obtain ⟨g,rfl,hg,_⟩:=hf ad rfl;simp at hk
     subst hk;exact ξh hg
theorem ξdS {N:Nd} {tk pa ep:Int} {K:List Int} (h:pF N tk pa K ep=0):1<=tk/\tk<=8/\0<=ep/\ep<=65535/\K.any (badk N.id pa)=false/\twc K=false/\old (N.at tk) ep=false/\K.length<=16:=by
 unfold pF at h;split at h
 ·omega
 rename_i h1
 split at h
 ·omega
 split at h
 ·omega
 rename_i h2
 split at h
 ·omega
 rename_i h3
 split at h
 ·omega
 rename_i h4
 split at h
 ·omega
 rename_i h5
 have h1':okT tk=true:=by simpa using h1
 simp [okT] at h1'
 have h3':K.any (badk N.id pa)=false:=by simpa using h3
 have h4':twc K=false:=by simpa using h4
 refine ⟨h1'.1,h1'.2,by omega,by omega,h3',h4',by simpa using h5,?_⟩
 have hb:=ξ56 h3'
 have nd:K.Nodup:=by simpa [twc] using h4'
 have nd':(K.map Int.toNat).Nodup:=by
  rw [Ξs,List.pairwise_map];rw [Ξs] at nd;refine nd.imp_of_mem ?_
  intro x y hx hy hxy e;have:=hb x hx
  have:=hb y hy
  omega
 have:=List.Nodup.length_le_of_subset (l₂:=List.range 16) nd' (by
  intro x hx;obtain ⟨y,hy,rfl⟩:=Ξi.1 hx;have:=hb y hy
  simp only [List.mem_range]
  omega)
 simpa using this
def s0 (tk mo:Int):Sb:=⟨tk,mo,0,-1,[],-1,-1,false,0,0,0,0,[]⟩
def sF (N:Nd) (tk mo:Int):Nat:=if okT tk=false then 1 else if mo<0∨3<mo then 1 else if (N.at tk).isNone then 5 else if 20<=N.sb.length then 4 else 0
def Nd.subs (N:Nd) (tk mo:Int):Nd:={ N with ls:=N.ls+1,sb:=N.sb++[(N.ls+1,s0 tk mo)] }
theorem NAt.addS {w w':World} {o:Nat->Tg} {n b:Nat} {P:NP} {N:Nd} (h:NAt w o n b P N) (hn:n≠0) {x:Int} {s:Sb} {Q:SP} (hx:∀ y∈ids N.sb,y<x) (hr:(ids N.sb).Pairwise fun a b=>a<b) (hl:SbAt w o Q s) (ho:Own o ⟨n,4,x⟩ (ξ6 Q)) {D:DataW Value} {m:Nat} (hD:w.ownsMap prog 3 ptR P.sm N.sb.length D/\SM D (ids N.sb) fun x=>(P.sp x).s) (hm:w'.ownsMap prog 3 ptR P.sm m (D.put (GM.key x) (.held (.pointer (some ⟨Q.s,0,none⟩))))) (ho':Only [P.sm] w w') :
 NAt w' o n b { P with sp:=updS P.sp x Q } { N with sb:=N.sb++[(x,s)] }:=by
 have hc:Chg o (fun g=>g=⟨n,0,1⟩) w w':=Chg.of_only ho' (by intro k hk;simp at hk;rw [hk];exact h.smt) (by intro k hk;simp at hk;rw [hk];exact ξ13 (RM.ξc hD.1))
 have he:=Ext.refl w o
 have h0:∀ g:Tg,g=⟨n,0,1⟩->g.n≠0:=by rintro g rfl;exact hn
 obtain ⟨cs,h1,h2⟩:=h.box' hc (by simp)
 have hnx:x∉ids N.sb:=fun hh=>by have:=hx x hh;omega
 have hids:ids (N.sb++[(x,s)])=ids N.sb++[x]:=by simp [ids]
 have hS:=hD.2.put hD.1.isMap hnx Q.s
 have hris:(ids N.sb++[x]).Pairwise fun a b=>a<b:=by
  rw [List.pairwise_append];exact ⟨hr,by simp,fun y hy z hz=>by simp at hz;rw [hz];exact hx y hy⟩
 refine ⟨⟨cs,h1,⟨h2.sz,h2.c0,h2.c1,h2.ct,h2.c10,h2.c11,h2.c12,h2.c13⟩⟩,h.tag,fun i hi=>h.trs' hc he hi (by simp),?_,h.smt,?_,h.pul' hc (by simp),h.put,h.ltr' hc he h0 (by simp),h.ltt⟩
 ·have hsz:=hS.keys.size (hm.entries law3) (ξ39 hris).apart
  have ht:=RM.tight hm
  rw [hsz,Ξm] at ht;rw [show (N.sb++[(x,s)]).length=(ids N.sb++[x]).length from by simp [ids],hids]
  refine ⟨_,ht,hS.ext ?_⟩
  intro y hy;show (if y=x then Q.s else (P.sp y).s)=(updS P.sp x Q y).s
  unfold updS;split<;>rfl
 ·intro y hy;rcases Ξe.1 hy with hy | hy
  ·have e:y.1≠x:=by have:=hx y.1 (Ξi.2 ⟨y,hy,rfl⟩);omega
   simp only [updS,if_neg e]
   exact h.sbs' hc he h0 hy (by simp)
  ·simp only [Ξg] at hy
   subst hy;simp only [updS,if_pos]
   exact ⟨hl.chg hc ho (by simp) h0 he,ho⟩
theorem ξc1 {w w2:World} {o:Nat->Tg} {n b:Nat} {P:NP} {N:Nd} {tk mo:Int} {ob om lb ub:Nat} (hn:n≠0) (h:NAt w o n b P N) (hI:SInv N.sb N.ls) (hls:N.ls<1000000) (hB:Begun (w.alloc (.cells #[.int .i64 tk,.int .i64 mo,.pointer none,.pointer none,.pointer none,.slice none 0 0] 162)) w2 w.heap.size tk mo (.slice none 0 0) ob om lb ub) :
 NAt w2 (grow o w ⟨n,4,N.ls+1⟩) n b P N/\Below w.heap.size w w2/\∃ w4,(Instr.mapUpdate 152 (.map (some P.sm)) (.int .i64 (N.ls+1)) (.pointer (some ⟨w.heap.size,0,none⟩))).run prog (w2.setCell ⟨b,11,none⟩ (.int .i64 (N.ls+1))).drew=.ok () w4/\w4.cell? ⟨b,11,none⟩=some (.int .i64 (N.ls+1))/\Done w w4 o n b (N.subs tk mo):=by
 have hs1:(w.alloc (.cells #[.int .i64 tk,.int .i64 mo,.pointer none,.pointer none,.pointer none,.slice none 0 0] 162)).heap.size=w.heap.size+1:=by simp
 have hbel:Below w.heap.size w w2:=((Ξp _ _).alloc (Ξo _) _).trans (hB.only.below (by omega) (by simp))
 obtain ⟨n1,n2,n3,n4⟩:=hB.new;rw [hs1] at n1 n2 n3 n4;have he:=ξ3 o w ⟨n,4,N.ls+1⟩
 have hc2:Chg o (fun _=>False) w w2:=Chg.of_below hbel _ _
 have hN2:NAt w2 (grow o w ⟨n,4,N.ls+1⟩) n b P N:=h.chg hc2 (fun g hg=>hg.elim) he
 have hN3:=hN2.setS hn (N.ls+1)
 have hc3:=hN2.chgB 11 (.int .i64 (N.ls+1))
 have hSb2:SbAt w2 (grow o w ⟨n,4,N.ls+1⟩) ⟨w.heap.size,ob,om,lb,ub,.slice none 0 0⟩ (s0 tk mo):=⟨hB.box,⟨[],rfl,hB.ord⟩,hB.lay,hB.out,ξM.nil _ _⟩
 have hOw:Own (grow o w ⟨n,4,N.ls+1⟩) ⟨n,4,N.ls+1⟩ (ξ6 ⟨w.heap.size,ob,om,lb,ub,.slice none 0 0⟩):=by
  intro k hk;simp [ξ6,Value.ownBlock] at hk
  rcases hk with rfl | rfl | rfl | rfl | rfl<;>exact ξh (by omega)
 have hSb3:=hSb2.chg hc3 hOw (by simp) (by rintro g rfl;exact hn) (Ext.refl _ _)
 have hN3d:NAt (w2.setCell ⟨b,11,none⟩ (.int .i64 (N.ls+1))).drew (grow o w ⟨n,4,N.ls+1⟩) n b P { N with ls:=N.ls+1 }:=hN3.below ((Ξp _ _).drew)
 have hSb3d:SbAt (w2.setCell ⟨b,11,none⟩ (.int .i64 (N.ls+1))).drew (grow o w ⟨n,4,N.ls+1⟩) ⟨w.heap.size,ob,om,lb,ub,.slice none 0 0⟩ (s0 tk mo):=hSb3.chg (S:=fun _=>False) (Chg.of_below ((Ξp _ _).drew) _ _) hOw (fun hg=>hg) (fun g hg=>hg.elim) (Ext.refl _ _)
 obtain ⟨D,hown,hS⟩:=hN3d.sbm;have hl:=hI.len
 have l0:=hI.ls0
 obtain ⟨w4,hrun,hown4,hturn⟩:=hown.store law3 underlying152 (by unfold maxLen;simp only;omega) (keyOf3 (ξL (y:=N.ls+1) (by omega) (by omega))) (ξ6p (some ⟨w.heap.size,0,none⟩))
 have ho4:Only [P.sm] (w2.setCell ⟨b,11,none⟩ (.int .i64 (N.ls+1))).drew w4:=(Only.refl _ _).grown hturn.grown (by simp)
 have hN4:=hN3d.addS hn (x:=N.ls+1) (s:=s0 tk mo) (Q:=⟨w.heap.size,ob,om,lb,ub,.slice none 0 0⟩) (by
  intro y hy;obtain ⟨z,hz,rfl⟩:=Ξi.1 hy;have:=hI.mem z hz
  omega) hI.ris hSb3d hOw ⟨hown,hS⟩ hown4 ho4
 refine ⟨hN2,hbel,w4,hrun,hN4.cells.2.2.2.1,grow o w ⟨n,4,N.ls+1⟩,_,hN4,he,?_⟩
 have q1:Chg o (mine n) w w2:=hc2.mono (fun g hg=>hg.elim)
 have q2:Chg (grow o w ⟨n,4,N.ls+1⟩) (mine n) w2 (w2.setCell ⟨b,11,none⟩ (.int .i64 (N.ls+1))).drew:=(ξx hc3).trans' (Chg.of_below ((Ξp _ _).drew) _ _)
 have q3:Chg (grow o w ⟨n,4,N.ls+1⟩) (mine n) (w2.setCell ⟨b,11,none⟩ (.int .i64 (N.ls+1))).drew w4:=Chg.of_only ho4 (by intro k hk;simp at hk;rw [hk,hN3d.smt];rfl) (by intro k hk;simp at hk;rw [hk];exact ξ13 (RM.ξc hown))
 exact q1.trans (q2.trans' q3) he
theorem ξeP (n b:Nat) (o:Nat->Tg) (P:NP) (N:Nd) (tk mo:Int) (w:World) (hn:n≠0) (hN:NAt w o n b P N) (hI:SInv N.sb N.ls) (hls:N.ls<1000000) (hf:sF N tk mo=0) :
 Calls prog 40 #[.pointer (some ⟨b,0,none⟩),.int .i64 tk,.int .i64 mo] w fun e w'=>e=.returned (.tuple #[.int .i64 (N.ls+1),.nilIface])/\Done w w' o n b (N.subs tk mo):=by
 have CT:=ξ0 (ξl tk)
 unfold sF at hf;split at hf
 ·omega
 rename_i hT
 have hT:okT tk=true:=by simpa using hT
 split at hf
 ·omega
 rename_i hm
 split at hf
 ·omega
 rename_i hx
 split at hf
 ·omega
 rename_i hge
 rw [hT] at CT;obtain ⟨k,hkk,hk1,hk2⟩:∃ k:Nat,k<8/\tk=(k:Int)+1/\(tk - 1).toNat=k:=⟨(tk - 1).toNat,by simp [okT] at hT;omega,by simp [okT] at hT;omega,rfl⟩
 clear hT;have hk3:wrap64 (tk - 1)=(k:Int):=by unfold wrap64;omega
 have hk4:(k:Int)<8:=by omega
 have m0:decide (mo<0)=false:=by simp;omega
 have m1:decide (3<mo)=false:=by simp;omega
 have ct:=hN.track hkk
 unfold Nd.at at hx;rw [hk2] at hx;obtain ⟨t,ht⟩:∃ t,N.tr k=some t:=by
  cases h:N.tr k with
  | none=>rw [h] at hx;exact absurd rfl hx
  | some t=>exact ⟨t,rfl⟩
 rw [ht] at ct;simp only [tpv] at ct
 obtain ⟨D,hown,hS⟩:=hN.sbm;have hsz:Maps.size D=N.sb.length:=by
  have:=hS.keys.size (hown.entries law3) (ξ39 hI.ris).apart
  rwa [Ξm,ξ10] at this
 have c10:=hN.cells.2.2.1
 have hlen:∀ ty,(Builtin.len_ #[152] ty #[.map (some P.sm)]).run prog w=.ok (.int .i64 (N.sb.length:Nat)) w:=fun ty=>by rw [<- hsz];exact hown.len underlying152 ty
 obtain ⟨nl,hnl⟩:∃ nl,N.sb.length=nl:=⟨_,rfl⟩;rw [hnl] at hlen hge;have hge':decide ((20:Int)<=(nl:Int))=false:=by simp;omega
 have hge2:decide (20<=nl)=false:=by simpa using hge
 obtain ⟨pp,hpp⟩:∃ pp,(P.tp k).p=pp:=⟨_,rfl⟩;rw [hpp] at ct;have CB:=ξ0 (ξ7I w.heap.size tk mo (.pointer none) (.pointer none) (.pointer none) (.slice none 0 0) (w.alloc (.cells #[.int .i64 tk,.int .i64 mo,.pointer none,.pointer none,.pointer none,.slice none 0 0] 162)) (heap_alloc_new w _) (by omega) (by omega))
 have TL:=ξ0 (fun w2 ob om lb ub (h:Begun _ w2 w.heap.size tk mo (.slice none 0 0) ob om lb ub)=>ξc1 hn hN hI hls h)
 obtain ⟨R,hR⟩:∃ R,N.subs tk mo=R:=⟨_,rfl⟩;obtain ⟨sm,hsm⟩:∃ sm,P.sm=sm:=⟨_,rfl⟩;obtain ⟨ls,hlse⟩:∃ ls,N.ls=ls:=⟨_,rfl⟩;have l0:=hI.ls0
 rw [hlse] at l0 hls ⊢;rw [hR] at TL ⊢;rw [hsm] at c10 hlen TL;rw [hlse] at TL;have hwr:wrap64 (ls+1)=ls+1:=by unfold wrap64;omega
 have HSM:=ξ0 hsm
 have HLS:=ξ0 hlse
 have HN:=ξ0 hN
 clear hm hx hge hk1 hk2 ht hown hS hsz hnl hpp hN hI hR hsm hlse hls;go_enter func40,ntmps40
 go_wp2_with fail
 refine (CT.out _).mono ?_
 rintro e w1 ⟨rfl,rfl⟩;go_wp2_with fail
 refine CB.out.mono ?_
 rintro e w2 ⟨ob,om,lb,ub,rfl,hB⟩;obtain ⟨hN2,hb2,w4,hrun,c4,hD⟩:=TL.out w2 ob om lb ub hB;have c11:=hN2.cells.2.2.2.1
 rw [HLS.out] at c11;have f11:=hN2.free 11
 have hN3:=hN2.setS (N:=N) hn (ls+1)
 have d10:=hN3.cells.2.2.1
 have d11:=hN3.cells.2.2.2.1
 rw [HSM.out] at d10;simp only at d11
 have HD:=ξ0 hD
 obtain ⟨w3,hw3⟩:∃ w3,w2.setCell ⟨b,11,none⟩ (.int .i64 (ls+1))=w3:=⟨_,rfl⟩;rw [hw3] at hrun d10 d11;have HW3:=ξ0 hw3
 have d10':w3.drew.cell? ⟨b,10,none⟩=some (.map (some sm)):=d10
 have d11':w3.drew.cell? ⟨b,11,none⟩=some (.int .i64 (ls+1)):=d11
 have hbz:b<w2.heap.size:=hN2.lt
 clear hB hN2 hb2 hD hN3 hw3 TL CB CT;go_upto_region 12 with fail
 rw [HW3.out];clear c11 f11;go_region
 go_wp2_with fail
 go_ret2
 exact ⟨rfl,HD.out⟩
end Go.Proofs.YtpiamlgmadnepaaGreat.ND
