/-
 What the proof needs.
-/
import Derived.Test.YtpiamlgmadnepaaGreatNodeAll
open Go.Proofs.Tryz
set_option linter.unusedVariables false
set_option maxHeartbeats 1000000
namespace Go.Proofs.YtpiamlgmadnepaaGreat.ND
open ChangeShapes WideShapes ChangeAt RowKit Maps Mem NO
variable {o:Nat->Tg}{n b:Nat}{w w' w2:World}{P:TP}{t:Tr}{N:Nd}{tk:Int}
def A9f(S:Tg->Prop)(w w':World)(o:Nat->Tg)(n b:Nat)(N:Nd):Prop:=∃o' P,NAt w' o' n b P N/\Ext w o o'/\Chg o S w w'
abbrev Done (w w':World) (o:Nat->Tg) (n b:Nat) (N:Nd):Prop:=A9f (mine n) w w' o n b N
def cls(n c:Nat)(g:Tg):Prop:=g.n=n/\g.c=c
theorem ξdZ{c:Nat}(h:Chg o (cls n c) w w'):Chg o (mine n) w w':=h.mono (λt ht=>ht.1)
theorem ξ1u(a:Option Addr)(n cap:Nat)(L:List Int)(w:World)(h:Gaps.A0b w a n L)(hn:a=none->n=0/\cap=0)(hb:n<=1000000) :
 Calls prog 113 #[.slice a n cap] w λe w'=>∃v',e=.returned v'/\w'.ownsRow w.heap.size 3 1 v' n (Gaps.ic L)/\Below w.heap.size w w':=by
 cases a with
 | none=>
   obtain⟨rfl,rfl⟩:=hn rfl;have:L=[]:=Ξk h.2.1;subst this;refine(Tryz.slices_Clone_int_nil 0 0 w).mono ?_;rintro e w' ⟨rfl,rfl⟩;exact⟨_,rfl,Ξr _ _ _ _,Ξp _ _⟩
 | some ad=>
   rcases Nat.eq_zero_or_pos n with rfl|h0
   ·have:L=[]:=Ξk h.2.1;subst this;refine(Tryz.slices_Clone_int_zero ad cap w).mono ?_;rintro e w' ⟨v',rfl,ho,_,hb⟩;exact⟨v',rfl,ho,hb⟩
   ·obtain⟨b,o,e,hc⟩:=h.at h0;rw[Option.some.injEq]at e;subst e;have hl:=h.2.1;refine(Tryz.slices_Clone_int b o n cap L w (by omega) (by omega) (λj hj=>hc j (by omega))).mono ?_;rintro e w' ⟨v',rfl,ho,_,hb⟩;refine⟨v',rfl,?_,hb⟩;rw[<-hl,List.take_length,hl]at ho;exact ho
theorem A1h.ne(h:A1h w P t):P.wm≠P.p/\P.r≠P.p/\P.rm≠P.p/\∀k∈Gaps.A01 P.g P.gm P.gv,k≠P.p:=by
 have bx:=h.box;obtain⟨D,h1,_,_⟩:=h.way;refine⟨?_,?_,?_,?_⟩
 ·intro e;obtain⟨es,c,hm⟩:=RM.ξd h1;rw[e,bx]at hm;simp at hm
 ·intro e;have:=h.rng.1;rw[e,bx]at this;simp at this
 ·intro e;obtain⟨D',h2,_,_⟩:=h.rng.2;obtain⟨es,c,hm⟩:=RM.ξd h2;rw[e,bx]at hm;simp at hm
 ·intro k hk e;subst e;simp only[Gaps.A01,Ξf]at hk;rcases hk with hk|hk|hk
  ·have:=h.gap.box;rw[<-hk,bx]at this;simp at this
  ·obtain⟨D',h2,_,_⟩:=h.gap.map;obtain⟨es,c,hm⟩:=RM.ξd h2;rw[<-hk,bx]at hm;simp at hm
  ·obtain⟨cs,hm⟩:=Gaps.ξD h.gap.row (by simpa using hk);rw[bx]at hm;simp at hm
theorem A1h.sepR(h:A1h w P t):∀k∈P.p::P.wm::(Gaps.A01 P.g P.gm P.gv++A3u P.ka t.kids),k≠P.r/\k≠P.rm:=by
 have br:=h.rng.1;obtain⟨D,h1,_,_⟩:=h.rng.2;obtain⟨es,c,bm⟩:=RM.ξd h1;obtain⟨D2,h2,_,_⟩:=h.way;obtain⟨ae,c2,bw⟩:=RM.ξd h2;obtain⟨D3,h3,_,_⟩:=h.gap.map;obtain⟨ah,c3,bg⟩:=RM.ξd h3;have n:=h.ne;intro k hk;simp only[Ξf,Ξe,Gaps.A01]at hk;rcases hk with rfl|rfl|(rfl|rfl|hk)|hk
 ·exact⟨n.2.1.symm,n.2.2.1.symm⟩
 ·exact⟨λe=>by rw[e,br]at bw;simp at bw,h.ap.2.2.symm⟩
 ·exact⟨λe=>by have:=h.gap.box;rw[e,br]at this;simp at this,λe=>by have:=h.gap.box;rw[e,bm]at this;simp at this⟩
 ·exact⟨λe=>by rw[e,br]at bg;simp at bg,h.ap.1⟩
 ·obtain⟨cs,hm⟩:=Gaps.ξD h.gap.row (by simpa using hk);exact⟨λe=>by rw[e,br]at hm;simp at hm,λe=>by rw[e,bm]at hm;simp at hm⟩
 ·have:=h.kap k hk;exact⟨this.2.2.1,this.2.2.2.1⟩
theorem A1h.sepW(h:A1h w P t):∀k∈P.p::P.r::P.rm::(Gaps.A01 P.g P.gm P.gv++A3u P.ka t.kids),k≠P.wm:=by
 have br:=h.rng.1;obtain⟨D2,h2,_,_⟩:=h.way;obtain⟨ae,c2,bw⟩:=RM.ξd h2;have n:=h.ne;intro k hk;simp only[Ξf,Ξe,Gaps.A01]at hk;rcases hk with rfl|rfl|rfl|(rfl|rfl|hk)|hk
 ·exact n.1.symm
 ·exact λe=>by rw[e,bw]at br;simp at br
 ·exact h.ap.2.2
 ·exact λe=>by have:=h.gap.box;rw[e,bw]at this;simp at this
 ·exact h.ap.2.1
 ·obtain⟨cs,hm⟩:=Gaps.ξD h.gap.row (by simpa using hk);exact λe=>by rw[e,bw]at hm;simp at hm
 ·exact(h.kap k hk).2.1
theorem A1h.sepG(h:A1h w P t):∀k∈P.p::P.wm::P.r::P.rm::A3u P.ka t.kids,k∉Gaps.A01 P.g P.gm P.gv:=by
 have n:=h.ne;have sR:=h.sepR;have sW:=h.sepW;intro k hk hm;simp only[Ξf]at hk;rcases hk with rfl|rfl|rfl|rfl|hk
 ·exact n.2.2.2 _ hm rfl
 ·exact sW _ (by simp only[Ξf,Ξe];exact .inr (.inr (.inr (.inl hm)))) rfl
 ·exact(sR _ (by simp only[Ξf,Ξe];exact .inr (.inr (.inl hm)))).1 rfl
 ·exact(sR _ (by simp only[Ξf,Ξe];exact .inr (.inr (.inl hm)))).2 rfl
 ·exact(h.kap k hk).2.2.2.2 hm
def Tr.to(t:Tr)(pa:Int)(K:List Int):Tr:={ t with pa:=pa,kids:=K }
theorem A1h.to(h:A1h w P t)(pa:Int)(K:List Int){a:Option Addr}{cap:Nat}(hK:Gaps.A0b w a K.length K)(hno:a=none->K.length=0/\cap=0)(hne:∀ad,a=some ad->∀k∈P.p::P.wm::P.r::P.rm::Gaps.A01 P.g P.gm P.gv,ad.block≠k) :
 A1h ((w.setCell ⟨P.p,2,none⟩ (.int .i64 pa)).setCell ⟨P.p,3,none⟩ (.slice a K.length cap)) { P with ka:=a,kc:=cap } (t.to pa K):=by
 have k1:=heap_setCell_same w P.p 2 _ _ (.int .i64 pa) h.box;have k2:=heap_setCell_same _ P.p 3 _ _ (.slice a K.length cap) k1;have on:Only [P.p] w ((w.setCell ⟨P.p,2,none⟩ (.int .i64 pa)).setCell ⟨P.p,3,none⟩ (.slice a K.length cap)):=by
  iterate 2 refine Only.setCell ?_ (by simp) _
  exact Only.refl _ _
 have nb:∀k∈[P.p],∀cs fr,w.heap[k]?≠some (.cells cs 5 fr):=by
  intro k hk cs fr;simp only[Ξg]at hk;subst hk;rw[h.box];simp
 obtain⟨n1,n2,n3,n4⟩:=h.ne;refine⟨by simpa[Tr.to]using k2,ξ1F hK on ?_,hno,h.gap.only on (λk hk=>by simpa using n4 k hk),h.rng.only on (by simpa using n2) (by simpa using n3) nb,?_,h.ap,?_⟩
 ·intro k hk;unfold A3u at hk;split at hk
  ·simp at hk
  ·cases a with
   | none=>simp at hk
   | some ad=>
     simp at hk;subst hk;simpa using hne ad rfl P.p (by simp)
 ·obtain⟨D,h1,h2,h3⟩:=h.way;exact⟨D,ξP h1 on (by simpa using n1),h2,h3⟩
 ·intro k hk;simp only[Tr.to]at hk;unfold A3u at hk;split at hk
  ·simp at hk
  ·cases a with
   | none=>simp at hk
   | some ad=>
     simp at hk;subst hk;have q:=hne ad rfl;exact⟨q _ (by simp),q _ (by simp),q _ (by simp),q _ (by simp),λhm=>q _ (by simp only[Ξf];exact .inr (.inr (.inr (.inr hm)))) rfl⟩
theorem ξb5{P:NP}(hn:n≠0)(h:NAt w o n b P N){i:Nat}(hi:i<8)(ht:N.tr i=some t)(pa:Int)(K:List Int){v:Value}(hrow:w2.ownsRow w.heap.size 3 1 v K.length (Gaps.ic K))(hb:Below w.heap.size w w2)(hl:K.length<=1000) :
 Done w ((w2.setCell ⟨(P.tp i).p,2,none⟩ (.int .i64 pa)).setCell ⟨(P.tp i).p,3,none⟩ v) o n b { N with tr:=A0f N.tr i (t.to pa K) }:=by
 obtain⟨a,cap,rfl,hK,ah,_,hf⟩:=Gaps.ξl hrow (by omega);obtain⟨k1,k2⟩:=h.trs i hi t ht;have h2:=h.below hb;obtain⟨g1,g2⟩:=h2.trs i hi t ht;have lp:=k1.lt (P.tp i).p (by simp[A0x]);have hT:=g1.to pa K (cap:=cap) hK ah (λad e k hk=>by
  obtain⟨g,rfl,hg,_⟩:=hf ad e;have:=k1.lt k (by simp only[A0x,Ξf,Ξe];simp only[Ξf]at hk;rcases hk with hk|hk|hk|hk|hk<;>simp[hk]);show g≠k;omega)
 have ai:Chg o (λg=>g=⟨n,3,i⟩) w2 ((w2.setCell ⟨(P.tp i).p,2,none⟩ (.int .i64 pa)).setCell ⟨(P.tp i).p,3,none⟩ (.slice a K.length cap)):=by
  refine Chg.A1j (bs:=[(P.tp i).p]) (by refine Only.setCell ?_ (by simp) _;refine Only.setCell ?_ (by simp) _;exact Only.refl _ _) ?_ ?_
  ·intro k hk;simp at hk;rw[hk];exact k2 _ (by simp[A0x])
  ·intro k hk;simp at hk;rw[hk];exact ξi g1.box (by decide)
 have hc:Chg o (λg=>g=⟨n,3,i⟩) w ((w2.setCell ⟨(P.tp i).p,2,none⟩ (.int .i64 pa)).setCell ⟨(P.tp i).p,3,none⟩ (.slice a K.length cap)):=(Chg.of_below hb _ _).trans' ai;have he:=ξ3 o w ⟨n,3,i⟩;refine⟨grow o w ⟨n,3,i⟩,_,h.trk hn hi hc he ht (Q:={ P.tp i with ka:=a,kc:=cap }) rfl hT ?_,he,ξx hc⟩;intro k hk;have ae:k∈A0x (P.tp i) t∨k∈A3u a K:=by
  simp only[A0x,Tr.to,Ξf,Ξe]at hk ⊢;rcases hk with hk|hk|hk|hk|hk|hk
  ·exact .inl (.inl hk)
  ·exact .inl (.inr (.inl hk))
  ·exact .inl (.inr (.inr (.inl hk)))
  ·exact .inl (.inr (.inr (.inr (.inl hk))))
  ·exact .inl (.inr (.inr (.inr (.inr (.inl hk)))))
  ·exact .inr hk
 rcases ae with hk|hk
 ·rw[ξt (k1.lt k hk)];exact k2 k hk
 ·unfold A3u at hk;split at hk
  ·simp at hk
  ·cases a with
   | none=>simp at hk
   | some ad=>
     obtain⟨g,rfl,hg,_⟩:=hf ad rfl;simp at hk;subst hk;exact ξg hg
theorem ξeN{pa ep:Int}{K:List Int}(h:pF N tk pa K ep=0):1<=tk/\tk<=8/\0<=ep/\ep<=65535/\K.any (A3z N.id pa)=false/\twc K=false/\old (N.at tk) ep=false/\K.length<=16:=by
 unfold pF at h;split at h
 ·omega
 rename_i h1;split at h
 ·omega
 split at h
 ·omega
 rename_i h2;split at h
 ·omega
 rename_i h3;split at h
 ·omega
 rename_i h4;split at h
 ·omega
 rename_i h5;have ae:okT tk=true:=by simpa using h1
 simp[okT]at ae;have ah:K.any (A3z N.id pa)=false:=by simpa using h3
 have ai:twc K=false:=by simpa using h4
 refine⟨ae.1,ae.2,by omega,by omega,ah,ai,by simpa using h5,?_⟩;have hb:=ξ5k ah;have nd:K.Nodup:=by simpa[twc]using ai
 have aj:(K.map Int.toNat).Nodup:=by
  rw[Ξs,List.pairwise_map];rw[Ξs]at nd;refine nd.imp_of_mem ?_;intro x y hx hy am e;have:=hb x hx;have:=hb y hy;omega
 have:=List.Nodup.length_le_of_subset (l₂:=List.range 16) aj (by
  intro x hx;obtain⟨y,hy,rfl⟩:=Ξi.1 hx;have:=hb y hy;simp only[List.mem_range];omega)
 simpa using this
def s0(tk mo:Int):Sb:=⟨tk,mo,0,-1,[],-1,-1,false,0,0,0,0,[]⟩
def sF(N:Nd)(tk mo:Int):Nat:=if okT tk=false then 1 else if mo<0∨3<mo then 1 else if (N.at tk).isNone then 5 else if 20<=N.sb.length then 4 else 0
def Nd.subs(N:Nd)(tk mo:Int):Nd:={ N with ls:=N.ls+1,sb:=N.sb++[(N.ls+1,s0 tk mo)] }
theorem NAt.A5g{P:NP}(h:NAt w o n b P N)(hn:n≠0){x:Int}{s:Sb}{Q:SP}(hx:∀y∈ids N.sb,y<x)(hr:(ids N.sb).Pairwise λa b=>a<b)(hl:A1q w o Q s)(ho:Own o ⟨n,4,x⟩ (ξ6 Q)){D:DataW Value}{m:Nat}(hD:w.ownsMap prog 3 ptR P.sm N.sb.length D/\SM D (ids N.sb) λx=>(P.sp x).s)(hm:w'.ownsMap prog 3 ptR P.sm m (D.put (GM.key x) (.held (.pointer (some ⟨Q.s,0,none⟩)))))(ho':Only [P.sm] w w') :
 NAt w' o n b { P with sp:=A32 P.sp x Q } { N with sb:=N.sb++[(x,s)] }:=by
 have hc:Chg o (λg=>g=⟨n,0,1⟩) w w':=Chg.A1j ho' (by intro k hk;simp at hk;rw[hk];exact h.smt) (by intro k hk;simp at hk;rw[hk];exact ξ14 (RM.ξd hD.1));have he:=Ext.refl w o;have h0:∀g:Tg,g=⟨n,0,1⟩->g.n≠0:=by rintro g rfl;exact hn
 obtain⟨cs,h1,h2⟩:=h.A99 hc (by simp);have ai:x∉ids N.sb:=λhh=>by have:=hx x hh;omega
 have ae:ids (N.sb++[(x,s)])=ids N.sb++[x]:=by simp[ids]
 have hS:=hD.2.put hD.1.isMap ai Q.s;have ah:(ids N.sb++[x]).Pairwise λa b=>a<b:=by
  rw[List.pairwise_append];exact⟨hr,by simp,λy hy z hz=>by simp at hz;rw[hz];exact hx y hy⟩
 refine⟨⟨cs,h1,⟨h2.sz,h2.c0,h2.c1,h2.ct,h2.c10,h2.c11,h2.c12,h2.c13⟩⟩,h.tag,λi hi=>h.A66 hc he hi (by simp),?_,h.smt,?_,h.A7n hc (by simp),h.put,h.A8n hc he h0 (by simp),h.ltt⟩
 ·have aj:=hS.keys.size (hm.entries A09) (ξ2C ah).apart;have ht:=RM.tight hm;rw[aj,Ξm]at ht;rw[show(N.sb++[(x,s)]).length=(ids N.sb++[x]).length from by simp[ids],ae];refine⟨_,ht,hS.ext ?_⟩;intro y hy;show(if y=x then Q.s else(P.sp y).s)=(A32 P.sp x Q y).s;unfold A32;split<;>rfl
 ·intro y hy;rcases Ξe.1 hy with hy|hy
  ·have e:y.1≠x:=by have:=hx y.1 (Ξi.2 ⟨y,hy,rfl⟩);omega
   simp only[A32,if_neg e];exact h.A67 hc he h0 hy (by simp)
  ·simp only[Ξg]at hy;subst hy;simp only[A32,if_pos];exact⟨hl.chg hc ho (by simp) h0 he,ho⟩
theorem ξeq(n b:Nat)(o:Nat->Tg)(P:NP)(N:Nd)(tk mo:Int)(w:World)(hN:NAt w o n b P N)(hI:A2v N.sb N.ls)(hf:sF N tk mo≠0) :
 Calls prog 40 #[.pointer (some ⟨b,0,none⟩),.int .i64 tk,.int .i64 mo] w λe w'=>e=.returned (.tuple #[.int .i64 0,A0a (sF N tk mo)])/\Below w.heap.size w w':=by
 have CT:=ξ0 (ξk tk);obtain⟨f,ae⟩:=nm (sF N tk mo);rw[ae]at hf;rw[ae];unfold sF at ae;cases hT:okT tk with
 | false=>
   rw[hT]at CT;rw[if_pos hT]at ae;subst ae;clear hT hN hI hf;go_enter func40,ntmps40;go_wp2_with fail
   refine(CT.out _).mono ?_;rintro e w1 ⟨rfl,rfl⟩;go_wp2_with fail;go_ret2;exact⟨rfl,Ξp _ _⟩
 | true=>
   rw[if_neg (by simp[hT])]at ae;rw[hT]at CT;obtain⟨k,az,am,ai⟩:∃k:Nat,k<8/\tk=(k:Int)+1/\(tk-1).toNat=k:=⟨(tk-1).toNat,by simp[okT]at hT;omega,by simp[okT]at hT;omega,rfl⟩;clear hT;have aF:wrap64 (tk-1)=(k:Int):=by unfold wrap64;omega
   have aG:(k:Int)<8:=by omega
   by_cases m0:mo<0
   ·rw[if_pos (.inl m0)]at ae;subst ae;have aA:decide (mo<0)=true:=by simpa using m0
    clear m0 hN hI hf am ai;go_enter func40,ntmps40;go_wp2_with fail
    refine(CT.out _).mono ?_;rintro e w1 ⟨rfl,rfl⟩;go_wp2_with fail;go_ret2;exact⟨rfl,Ξp _ _⟩
   have aA:decide (mo<0)=false:=by simpa using m0
   by_cases m1:3<mo
   ·rw[if_pos (.inr m1)]at ae;subst ae;have aC:decide (3<mo)=true:=by simpa using m1
    clear m0 m1 hN hI hf am ai;go_enter func40,ntmps40;go_wp2_with fail
    refine(CT.out _).mono ?_;rintro e w1 ⟨rfl,rfl⟩;go_wp2_with fail;go_ret2;exact⟨rfl,Ξp _ _⟩
   have aC:decide (3<mo)=false:=by simpa using m1
   rw[if_neg (by omega)]at ae;clear m0 m1;have ct:=hN.A2l az;unfold Nd.at at ae;rw[ai]at ae;cases hx:N.tr k with
   | none=>
     rw[hx]at ct;rw[if_pos (by rw[hx];rfl)]at ae;subst ae;simp only[tpv]at ct;clear hx hN hI hf am ai;go_enter func40,ntmps40;go_wp2_with fail
     refine(CT.out _).mono ?_;rintro e w1 ⟨rfl,rfl⟩;go_wp2_with fail;go_ret2;exact⟨rfl,Ξp _ _⟩
   | some t=>
     rw[hx]at ct;rw[if_neg (by rw[hx];simp)]at ae;simp only[tpv]at ct;have aq:20<=N.sb.length:=by
      by_cases c:20<=N.sb.length
      ·exact c
      ·rw[if_neg c]at ae;omega
     rw[if_pos aq]at ae;subst ae;obtain⟨D,ah,hS⟩:=hN.sbm;have au:Maps.size D=N.sb.length:=by
      have:=hS.keys.size (ah.entries A09) (ξ2C hI.ris).apart;rwa [Ξm,ξL]at this
     have c10:=hN.cells.2.2.1;have aj:∀ty,(Builtin.len_ #[152] ty #[.map (some P.sm)]).run prog w=.ok (.int .i64 (N.sb.length:Nat)) w:=λty=>by rw[<-au];exact ah.len underlying152 ty
     obtain⟨nl,aw⟩:=nm N.sb.length;rw[aw]at aj aq;have aD:decide ((20:Int)<=(nl:Int))=true:=by simp;omega
     have aE:decide (20<=nl)=true:=by simpa using aq
     obtain⟨pp,ax⟩:=nm ((P.tp k).p);obtain⟨sm,ay⟩:=nm P.sm;rw[ax]at ct;rw[ay]at c10 aj;clear hx hN hI hf am ai ah hS au aw ax ay aq;go_enter func40,ntmps40;go_wp2_with fail
     refine(CT.out _).mono ?_;rintro e w1 ⟨rfl,rfl⟩;go_wp2_with fail;go_ret2;exact⟨rfl,Ξp _ _⟩
theorem ξcA{P:NP}{mo:Int}{ob om lb ub:Nat}(hn:n≠0)(h:NAt w o n b P N)(hI:A2v N.sb N.ls)(hls:N.ls<1000000)(hB:A9e (w.alloc (.cells #[.int .i64 tk,.int .i64 mo,.pointer none,.pointer none,.pointer none,.slice none 0 0] 162)) w2 w.heap.size tk mo (.slice none 0 0) ob om lb ub) :
 NAt w2 (grow o w ⟨n,4,N.ls+1⟩) n b P N/\Below w.heap.size w w2/\∃w4,(Instr.mapUpdate 152 (.map (some P.sm)) (.int .i64 (N.ls+1)) (.pointer (some ⟨w.heap.size,0,none⟩))).run prog (w2.setCell ⟨b,11,none⟩ (.int .i64 (N.ls+1))).drew=.ok () w4/\w4.cell? ⟨b,11,none⟩=some (.int .i64 (N.ls+1))/\Done w w4 o n b (N.subs tk mo):=by
 have aF:(w.alloc (.cells #[.int .i64 tk,.int .i64 mo,.pointer none,.pointer none,.pointer none,.slice none 0 0] 162)).heap.size=w.heap.size+1:=by simp
 have ai:Below w.heap.size w w2:=((Ξp _ _).alloc (Ξo _) _).trans (hB.only.below (by omega) (by simp));obtain⟨n1,n2,n3,n4⟩:=hB.new;rw[aF]at n1 n2 n3 n4;have he:=ξ3 o w ⟨n,4,N.ls+1⟩;have aA:Chg o (λ_=>False) w w2:=Chg.of_below ai _ _;have au:NAt w2 (grow o w ⟨n,4,N.ls+1⟩) n b P N:=h.chg aA (λg hg=>hg.elim) he;have aG:=au.A47 hn (N.ls+1);have aC:=au.A53 11 (.int .i64 (N.ls+1));have aw:A1q w2 (grow o w ⟨n,4,N.ls+1⟩) ⟨w.heap.size,ob,om,lb,ub,.slice none 0 0⟩ (s0 tk mo):=⟨hB.box,⟨[],rfl,hB.ord⟩,hB.lay,hB.out,ξO.nil _ _⟩;have ax:Own (grow o w ⟨n,4,N.ls+1⟩) ⟨n,4,N.ls+1⟩ (ξ6 ⟨w.heap.size,ob,om,lb,ub,.slice none 0 0⟩):=by
  intro k hk;simp[ξ6,Value.ownBlock]at hk;rcases hk with rfl|rfl|rfl|rfl|rfl<;>exact ξg (by omega)
 have ay:=aw.chg aC ax (by simp) (by rintro g rfl;exact hn) (Ext.refl _ _);have ae:NAt (w2.setCell ⟨b,11,none⟩ (.int .i64 (N.ls+1))).drew (grow o w ⟨n,4,N.ls+1⟩) n b P { N with ls:=N.ls+1 }:=aG.below ((Ξp _ _).drew);have aj:A1q (w2.setCell ⟨b,11,none⟩ (.int .i64 (N.ls+1))).drew (grow o w ⟨n,4,N.ls+1⟩) ⟨w.heap.size,ob,om,lb,ub,.slice none 0 0⟩ (s0 tk mo):=ay.chg (S:=λ_=>False) (Chg.of_below ((Ξp _ _).drew) _ _) ax (λhg=>hg) (λg hg=>hg.elim) (Ext.refl _ _);obtain⟨D,ah,hS⟩:=ae.sbm;have hl:=hI.len;have l0:=hI.ls0;obtain⟨w4,az,am,aq⟩:=ah.store A09 underlying152 (by unfold maxLen;simp only;omega) (A05 (ξJ (y:=N.ls+1) (by omega) (by omega))) (ξ6M (some ⟨w.heap.size,0,none⟩));have aD:Only [P.sm] (w2.setCell ⟨b,11,none⟩ (.int .i64 (N.ls+1))).drew w4:=(Only.refl _ _).grown aq.grown (by simp);have aE:=ae.A5g hn (x:=N.ls+1) (s:=s0 tk mo) (Q:=⟨w.heap.size,ob,om,lb,ub,.slice none 0 0⟩) (by
  intro y hy;obtain⟨z,hz,rfl⟩:=Ξi.1 hy;have:=hI.mem z hz;omega) hI.ris aj ax ⟨ah,hS⟩ am aD
 refine⟨au,ai,w4,az,aE.cells.2.2.2.1,grow o w ⟨n,4,N.ls+1⟩,_,aE,he,?_⟩;have q1:Chg o (mine n) w w2:=aA.mono (λg hg=>hg.elim);have q2:Chg (grow o w ⟨n,4,N.ls+1⟩) (mine n) w2 (w2.setCell ⟨b,11,none⟩ (.int .i64 (N.ls+1))).drew:=(ξx aC).trans' (Chg.of_below ((Ξp _ _).drew) _ _);have q3:Chg (grow o w ⟨n,4,N.ls+1⟩) (mine n) (w2.setCell ⟨b,11,none⟩ (.int .i64 (N.ls+1))).drew w4:=Chg.A1j aD (by intro k hk;simp at hk;rw[hk,ae.smt];rfl) (by intro k hk;simp at hk;rw[hk];exact ξ14 (RM.ξd ah));exact q1.trans (q2.trans' q3) he
theorem ξfR(n b:Nat)(o:Nat->Tg)(P:NP)(N:Nd)(tk mo:Int)(w:World)(hn:n≠0)(hN:NAt w o n b P N)(hI:A2v N.sb N.ls)(hls:N.ls<1000000)(hf:sF N tk mo=0) :
 Calls prog 40 #[.pointer (some ⟨b,0,none⟩),.int .i64 tk,.int .i64 mo] w λe w'=>e=.returned (.tuple #[.int .i64 (N.ls+1),.nilIface])/\Done w w' o n b (N.subs tk mo):=by
 have CT:=ξ0 (ξk tk);unfold sF at hf;split at hf
 ·omega
 rename_i hT;have hT:okT tk=true:=by simpa using hT
 split at hf
 ·omega
 rename_i hm;split at hf
 ·omega
 rename_i hx;split at hf
 ·omega
 rename_i hge;rw[hT]at CT;obtain⟨k,aE,aF,az⟩:∃k:Nat,k<8/\tk=(k:Int)+1/\(tk-1).toNat=k:=⟨(tk-1).toNat,by simp[okT]at hT;omega,by simp[okT]at hT;omega,rfl⟩;clear hT;have aS:wrap64 (tk-1)=(k:Int):=by unfold wrap64;omega
 have aT:(k:Int)<8:=by omega
 have m0:decide (mo<0)=false:=by simp;omega
 have m1:decide (3<mo)=false:=by simp;omega
 have ct:=hN.A2l aE;unfold Nd.at at hx;rw[az]at hx;obtain⟨t,ht⟩:∃t,N.tr k=some t:=by
  cases h:N.tr k with
  | none=>rw[h]at hx;exact absurd rfl hx
  | some t=>exact⟨t,rfl⟩
 rw[ht]at ct;simp only[tpv]at ct;obtain⟨D,ah,hS⟩:=hN.sbm;have aA:Maps.size D=N.sb.length:=by
  have:=hS.keys.size (ah.entries A09) (ξ2C hI.ris).apart;rwa [Ξm,ξL]at this
 have c10:=hN.cells.2.2.1;have ai:∀ty,(Builtin.len_ #[152] ty #[.map (some P.sm)]).run prog w=.ok (.int .i64 (N.sb.length:Nat)) w:=λty=>by rw[<-aA];exact ah.len underlying152 ty
 obtain⟨nl,aC⟩:=nm N.sb.length;rw[aC]at ai hge;have aG:decide ((20:Int)<=(nl:Int))=false:=by simp;omega
 have aH:decide (20<=nl)=false:=by simpa using hge
 obtain⟨pp,aD⟩:=nm ((P.tp k).p);rw[aD]at ct;have CB:=ξ0 (ξ87 w.heap.size tk mo (.pointer none) (.pointer none) (.pointer none) (.slice none 0 0) (w.alloc (.cells #[.int .i64 tk,.int .i64 mo,.pointer none,.pointer none,.pointer none,.slice none 0 0] 162)) (heap_alloc_new w _) (by omega) (by omega));have TL:=ξ0 (λw2 ob om lb ub (h:A9e _ w2 w.heap.size tk mo (.slice none 0 0) ob om lb ub)=>ξcA hn hN hI hls h);obtain⟨R,hR⟩:=nm (N.subs tk mo);obtain⟨sm,am⟩:=nm P.sm;obtain⟨ls,ae⟩:=nm N.ls;have l0:=hI.ls0;rw[ae]at l0 hls ⊢;rw[hR]at TL ⊢;rw[am]at c10 ai TL;rw[ae]at TL;have aU:wrap64 (ls+1)=ls+1:=by unfold wrap64;omega
 have aI:=ξ0 am;have aJ:=ξ0 ae;have HN:=ξ0 hN;clear hm hx hge aF az ht ah hS aA aC aD hN hI hR am ae hls;go_enter func40,ntmps40;go_wp2_with fail
 refine(CT.out _).mono ?_;rintro e w1 ⟨rfl,rfl⟩;go_wp2_with fail;refine CB.out.mono ?_;rintro e w2 ⟨ob,om,lb,ub,rfl,hB⟩;obtain⟨aj,aL,w4,aq,c4,hD⟩:=TL.out w2 ob om lb ub hB;have c11:=aj.cells.2.2.2.1;rw[aJ.out]at c11;have aM:=aj.free 11;have au:=aj.A47 (N:=N) hn (ls+1);have aw:=au.cells.2.2.1;have ax:=au.cells.2.2.2.1;rw[aI.out]at aw;simp only at ax;have HD:=ξ0 hD;obtain⟨w3,ay⟩:=nm (w2.setCell ⟨b,11,none⟩ (.int .i64 (ls+1)));rw[ay]at aq aw ax;have aO:=ξ0 ay;have aP:w3.drew.cell? ⟨b,10,none⟩=some (.map (some sm)):=aw;have aQ:w3.drew.cell? ⟨b,11,none⟩=some (.int .i64 (ls+1)):=ax;have aV:b<w2.heap.size:=aj.lt;clear hB aj aL hD au ay TL CB CT;go_upto_region 12 with fail;rw[aO.out];clear c11 aM;go_region;go_wp2_with fail
 go_ret2;exact⟨rfl,HD.out⟩
end Go.Proofs.YtpiamlgmadnepaaGreat.ND
