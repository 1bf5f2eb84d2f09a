/-
  NodeH, NodeJ, NodeK in one text.
-/
import Derived.Test.YtfgponidkfgcpaaGreatNodeAll
import Derived.Test.YtfgponidkfgcpaaGreatShelfBP
namespace Go.Proofs.YtfgponidkfgcpaaGreat.ND
open Go.ChangeShapes Go.WideShapes Go.ChangeAt Go.RowKit Go.Maps Go.Proofs.YtfgponidkfgcpaaGreat.Mem Go.Proofs.YtfgponidkfgcpaaGreat.NO
set_option linter.unusedVariables false
def DoneS (S:Tg→Prop) (w w':World) (o:Nat→Tg) (n b:Nat) (N:Nd):Prop:=∃ o' P,NAt w' o' n b P N∧Ext w o o'∧Chg o S w w'
abbrev Done (w w':World) (o:Nat→Tg) (n b:Nat) (N:Nd):Prop:=DoneS (mine n) w w' o n b N
def cls (n c:Nat) (g:Tg):Prop:=g.n=n∧g.c=c
theorem cls_mine {o:Nat→Tg} {n:Nat} {w w':World} {c:Nat} (h:Chg o (cls n c) w w'):Chg o (mine n) w w':=h.mono (fun t ht=>ht.1)
theorem clone_calls (a:Option Addr) (n cap:Nat) (L:List Int) (w:World) (h:Gaps.IArg w a n L) (hn:a=none→n=0∧cap=0) (hb:n≤1000000) :
    Calls Tryz.prog 72 #[.slice a n cap] w fun e w'=>∃ v',e=.returned v'∧w'.ownsRow w.heap.size 3 1 v' n (Gaps.ic L)∧Below w.heap.size w w':=by
  cases a with
  | none=>
    obtain ⟨rfl,rfl⟩:=hn rfl
    have:L=[]:=List.eq_nil_of_length_eq_zero h.2.1
    subst this
    refine (Tryz.slices_Clone_int_nil 0 0 w).mono ?_
    rintro e w' ⟨rfl,rfl⟩
    exact ⟨_,rfl,World.ownsRow_nil _ _ _ _,Below.refl _ _⟩
  | some ad=>
    rcases Nat.eq_zero_or_pos n with rfl | h0
    · have:L=[]:=List.eq_nil_of_length_eq_zero h.2.1
      subst this
      refine (Tryz.slices_Clone_int_zero ad cap w).mono ?_
      rintro e w' ⟨v',rfl,ho,_,hb⟩
      exact ⟨v',rfl,ho,hb⟩
    · obtain ⟨b,o,e,hc⟩:=h.at h0
      rw [Option.some.injEq] at e
      subst e
      have hl:=h.2.1
      refine (Tryz.slices_Clone_int b o n cap L w (by omega) (by omega) (fun j hj=>hc j (by omega))).mono ?_
      rintro e w' ⟨v',rfl,ho,_,hb⟩
      refine ⟨v',rfl,?_,hb⟩
      rw [← hl,List.take_length,hl] at ho
      exact ho
theorem TrAt.ne {w:World} {P:TP} {t:Tr} (h:TrAt w P t):P.wm≠P.p∧P.r≠P.p∧P.rm≠P.p∧∀ k∈Gaps.blks P.g P.gm P.gv,k≠P.p:=by
  have bx:=h.box
  obtain ⟨D,h1,_,_⟩:=h.way
  refine ⟨?_,?_,?_,?_⟩
  · intro e
    obtain ⟨es,c,hm⟩:=RM.map_block h1
    rw [e,bx] at hm
    simp at hm
  · intro e
    have:=h.rng.1
    rw [e,bx] at this
    simp at this
  · intro e
    obtain ⟨D',h2,_,_⟩:=h.rng.2
    obtain ⟨es,c,hm⟩:=RM.map_block h2
    rw [e,bx] at hm
    simp at hm
  · intro k hk e
    subst e
    simp only [Gaps.blks,List.mem_cons] at hk
    rcases hk with hk | hk | hk
    · have:=h.gap.box
      rw [← hk,bx] at this
      simp at this
    · obtain ⟨D',h2,_,_⟩:=h.gap.map
      obtain ⟨es,c,hm⟩:=RM.map_block h2
      rw [← hk,bx] at hm
      simp at hm
    · obtain ⟨cs,hm⟩:=Gaps.own_block h.gap.row (by simpa using hk)
      rw [bx] at hm
      simp at hm
theorem TrAt.sepR {w:World} {P:TP} {t:Tr} (h:TrAt w P t):∀ k∈P.p::P.wm::(Gaps.blks P.g P.gm P.gv++kblk P.ka t.kids),k≠P.r∧k≠P.rm:=by
  have br:=h.rng.1
  obtain ⟨D,h1,_,_⟩:=h.rng.2
  obtain ⟨es,c,bm⟩:=RM.map_block h1
  obtain ⟨D2,h2,_,_⟩:=h.way
  obtain ⟨es2,c2,bw⟩:=RM.map_block h2
  obtain ⟨D3,h3,_,_⟩:=h.gap.map
  obtain ⟨es3,c3,bg⟩:=RM.map_block h3
  have n:=h.ne
  intro k hk
  simp only [List.mem_cons,List.mem_append,Gaps.blks] at hk
  rcases hk with rfl | rfl | (rfl | rfl | hk) | hk
  · exact ⟨n.2.1.symm,n.2.2.1.symm⟩
  · exact ⟨fun e=>by rw [e,br] at bw;simp at bw,h.ap.2.2.symm⟩
  · exact ⟨fun e=>by have:=h.gap.box;rw [e,br] at this;simp at this,fun e=>by have:=h.gap.box;rw [e,bm] at this;simp at this⟩
  · exact ⟨fun e=>by rw [e,br] at bg;simp at bg,h.ap.1⟩
  · obtain ⟨cs,hm⟩:=Gaps.own_block h.gap.row (by simpa using hk)
    exact ⟨fun e=>by rw [e,br] at hm;simp at hm,fun e=>by rw [e,bm] at hm;simp at hm⟩
  · have:=h.kap k hk
    exact ⟨this.2.2.1,this.2.2.2.1⟩
theorem TrAt.sepW {w:World} {P:TP} {t:Tr} (h:TrAt w P t):∀ k∈P.p::P.r::P.rm::(Gaps.blks P.g P.gm P.gv++kblk P.ka t.kids),k≠P.wm:=by
  have br:=h.rng.1
  obtain ⟨D2,h2,_,_⟩:=h.way
  obtain ⟨es2,c2,bw⟩:=RM.map_block h2
  have n:=h.ne
  intro k hk
  simp only [List.mem_cons,List.mem_append,Gaps.blks] at hk
  rcases hk with rfl | rfl | rfl | (rfl | rfl | hk) | hk
  · exact n.1.symm
  · exact fun e=>by rw [e,bw] at br;simp at br
  · exact h.ap.2.2
  · exact fun e=>by have:=h.gap.box;rw [e,bw] at this;simp at this
  · exact h.ap.2.1
  · obtain ⟨cs,hm⟩:=Gaps.own_block h.gap.row (by simpa using hk)
    exact fun e=>by rw [e,bw] at hm;simp at hm
  · exact (h.kap k hk).2.1
theorem TrAt.sepG {w:World} {P:TP} {t:Tr} (h:TrAt w P t):∀ k∈P.p::P.wm::P.r::P.rm::kblk P.ka t.kids,k∉Gaps.blks P.g P.gm P.gv:=by
  have n:=h.ne
  have sR:=h.sepR
  have sW:=h.sepW
  intro k hk hm
  simp only [List.mem_cons] at hk
  rcases hk with rfl | rfl | rfl | rfl | hk
  · exact n.2.2.2 _ hm rfl
  · exact sW _ (by simp only [List.mem_cons,List.mem_append];exact .inr (.inr (.inr (.inl hm)))) rfl
  · exact (sR _ (by simp only [List.mem_cons,List.mem_append];exact .inr (.inr (.inl hm)))).1 rfl
  · exact (sR _ (by simp only [List.mem_cons,List.mem_append];exact .inr (.inr (.inl hm)))).2 rfl
  · exact (h.kap k hk).2.2.2.2 hm
def Tr.to (t:Tr) (pa:Int) (K:List Int):Tr:={ t with pa:=pa,kids:=K }
theorem TrAt.to {w:World} {P:TP} {t:Tr} (h:TrAt w P t) (pa:Int) (K:List Int) {a:Option Addr} {cap:Nat} (hK:Gaps.IArg w a K.length K) (hno:a=none→K.length=0∧cap=0) (hne:∀ ad,a=some ad→∀ k∈P.p::P.wm::P.r::P.rm::Gaps.blks P.g P.gm P.gv,ad.block≠k) :
    TrAt ((w.setCell ⟨P.p,2,none⟩ (.int .i64 pa)).setCell ⟨P.p,3,none⟩ (.slice a K.length cap)) { P with ka:=a,kc:=cap } (t.to pa K):=by
  have k1:=heap_setCell_same w P.p 2 _ _ (.int .i64 pa) h.box
  have k2:=heap_setCell_same _ P.p 3 _ _ (.slice a K.length cap) k1
  have on:Only [P.p] w ((w.setCell ⟨P.p,2,none⟩ (.int .i64 pa)).setCell ⟨P.p,3,none⟩ (.slice a K.length cap)):=by
    iterate 2 refine Only.setCell ?_ (by simp) _
    exact Only.refl _ _
  have nb:∀ k∈[P.p],∀ cs fr,w.heap[k]?≠some (.cells cs 5 fr):=by
    intro k hk cs fr
    simp only [List.mem_singleton] at hk
    subst hk
    rw [h.box]
    simp
  obtain ⟨n1,n2,n3,n4⟩:=h.ne
  refine ⟨by simpa [Tr.to] using k2,iarg_only hK on ?_,hno,h.gap.only on (fun k hk=>by simpa using n4 k hk),h.rng.only on (by simpa using n2) (by simpa using n3) nb,?_,h.ap,?_⟩
  · intro k hk
    unfold kblk at hk
    split at hk
    · simp at hk
    · cases a with
      | none=>simp at hk
      | some ad=>
        simp at hk
        subst hk
        simpa using hne ad rfl P.p (by simp)
  · obtain ⟨D,h1,h2,h3⟩:=h.way
    exact ⟨D,map_only h1 on (by simpa using n1),h2,h3⟩
  · intro k hk
    simp only [Tr.to] at hk
    unfold kblk at hk
    split at hk
    · simp at hk
    · cases a with
      | none=>simp at hk
      | some ad=>
        simp at hk
        subst hk
        have q:=hne ad rfl
        exact ⟨q _ (by simp),q _ (by simp),q _ (by simp),q _ (by simp),fun hm=>q _ (by simp only [List.mem_cons];exact .inr (.inr (.inr (.inr hm)))) rfl⟩
theorem plan_tail {w w2:World} {o:Nat→Tg} {n b:Nat} {P:NP} {N:Nd} (hn:n≠0) (h:NAt w o n b P N) {i:Nat} (hi:i<8) {t:Tr} (ht:N.tr i=some t) (pa:Int) (K:List Int) {v:Value} (hrow:w2.ownsRow w.heap.size 3 1 v K.length (Gaps.ic K)) (hb:Below w.heap.size w w2) (hl:K.length≤1000) :
    Done w ((w2.setCell ⟨(P.tp i).p,2,none⟩ (.int .i64 pa)).setCell ⟨(P.tp i).p,3,none⟩ v) o n b { N with tr:=updR N.tr i (t.to pa K) }:=by
  obtain ⟨a,cap,rfl,hK,hno,_,hf⟩:=Gaps.own_ints hrow (by omega)
  obtain ⟨k1,k2⟩:=h.trs i hi t ht
  have h2:=h.below hb
  obtain ⟨g1,g2⟩:=h2.trs i hi t ht
  have lp:=k1.lt (P.tp i).p (by simp [tblks])
  have hT:=g1.to pa K (cap:=cap) hK hno (fun ad e k hk=>by
    obtain ⟨g,rfl,hg,_⟩:=hf ad e
    have:=k1.lt k (by simp only [tblks,List.mem_cons,List.mem_append];simp only [List.mem_cons] at hk;rcases hk with hk | hk | hk | hk | hk<;>simp [hk])
    show g≠k
    omega)
  have hc2:Chg o (fun g=>g=⟨n,3,i⟩) w2 ((w2.setCell ⟨(P.tp i).p,2,none⟩ (.int .i64 pa)).setCell ⟨(P.tp i).p,3,none⟩ (.slice a K.length cap)):=by
    refine Chg.of_only (bs := [(P.tp i).p]) (by iterate 2 refine Only.setCell ?_ (by simp) _
                                                exact Only.refl _ _) ?_ ?_
    · intro k hk
      simp at hk
      rw [hk]
      exact k2 _ (by simp [tblks])
    · intro k hk
      simp at hk
      rw [hk]
      exact nobAt_cells g1.box (by decide)
  have hc:Chg o (fun g=>g=⟨n,3,i⟩) w ((w2.setCell ⟨(P.tp i).p,2,none⟩ (.int .i64 pa)).setCell ⟨(P.tp i).p,3,none⟩ (.slice a K.length cap)):=(Chg.of_below hb _ _).trans' hc2
  have he:=grow_ext o w ⟨n,3,i⟩
  refine ⟨grow o w ⟨n,3,i⟩,_,h.trk hn hi hc he ht (Q:={ P.tp i with ka:=a,kc:=cap }) rfl hT ?_,he,chg_mine hc⟩
  intro k hk
  have hcase:k∈tblks (P.tp i) t∨k∈kblk a K:=by
    simp only [tblks,Tr.to,List.mem_cons,List.mem_append] at hk ⊢
    rcases hk with hk | hk | hk | hk | hk | hk
    · exact .inl (.inl hk)
    · exact .inl (.inr (.inl hk))
    · exact .inl (.inr (.inr (.inl hk)))
    · exact .inl (.inr (.inr (.inr (.inl hk))))
    · exact .inl (.inr (.inr (.inr (.inr (.inl hk)))))
    · exact .inr hk
  rcases hcase with hk | hk
  · rw [grow_old (k1.lt k hk)]
    exact k2 k hk
  · unfold kblk at hk
    split at hk
    · simp at hk
    · cases a with
      | none=>simp at hk
      | some ad=>
        obtain ⟨g,rfl,hg,_⟩:=hf ad rfl
        simp at hk
        subst hk
        exact grow_new hg
theorem pF_zero {N:Nd} {tk pa ep:Int} {K:List Int} (h:pF N tk pa K ep=0):1≤tk∧tk≤8∧0≤ep∧ep≤65535∧K.any (badk N.id pa)=false∧twc K=false∧old (N.at tk) ep=false∧K.length≤16:=by
  unfold pF at h
  split at h
  · omega
  rename_i h1
  split at h
  · omega
  split at h
  · omega
  rename_i h2
  split at h
  · omega
  rename_i h3
  split at h
  · omega
  rename_i h4
  split at h
  · omega
  rename_i h5
  have h1':okT tk=true:=by simpa using h1
  simp [okT] at h1'
  have h3':K.any (badk N.id pa)=false:=by simpa using h3
  have h4':twc K=false:=by simpa using h4
  refine ⟨h1'.1,h1'.2,by omega,by omega,h3',h4',by simpa using h5,?_⟩
  have hb:=badk_ok h3'
  have nd:K.Nodup:=by simpa [twc] using h4'
  have nd':(K.map Int.toNat).Nodup:=by
    rw [List.nodup_iff_pairwise_ne,List.pairwise_map]
    rw [List.nodup_iff_pairwise_ne] at nd
    refine nd.imp_of_mem ?_
    intro x y hx hy hxy e
    have:=hb x hx
    have:=hb y hy
    omega
  have:=List.Nodup.length_le_of_subset (l₂:=List.range 16) nd' (by
    intro x hx
    obtain ⟨y,hy,rfl⟩:=List.mem_map.1 hx
    have:=hb y hy
    simp only [List.mem_range]
    omega)
  simpa using this
def s0 (tk mo:Int):Sb:=⟨tk,mo,0,-1,[],-1,-1,false,0,0,0,0,[]⟩
end Go.Proofs.YtfgponidkfgcpaaGreat.ND
