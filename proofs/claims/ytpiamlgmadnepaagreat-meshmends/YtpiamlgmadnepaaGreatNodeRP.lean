/-
 What numberOf and keep of package node return, and what they leave in memory. Their condition: the track is such as it may be.
-/
import Derived.Test.YtpiamlgmadnepaaGreatNodeQP
import Derived.Deep.RegionHeld3
open Go.Proofs.Tryz
set_option linter.unusedVariables false
set_option maxHeartbeats 4000000
set_option maxRecDepth 100000
namespace Go.Proofs.YtpiamlgmadnepaaGreat.ND
open Go.ChangeShapes Go.WideShapes Go.ChangeAt Go.RowKit Go.Maps Mem NO
def num (T s:Int):Int:=if T<0 then 65536+s else Ser.unw T s
theorem ξ2z (pp rb rm:Nat) (T:Int) (M:RM.Its) (s:Int) (w:World) (hp:w.cell? ⟨pp,5,none⟩=some (.pointer (some ⟨rb,0,none⟩))) (hR:Ring.RingAt w rb rm 64 T M) (hI:RM.Inv 64 T M) (h0:0<=s) (h1:s<=65535) :
 Calls prog 122 #[.pointer (some ⟨pp,0,none⟩),.int .i64 s] w fun e w'=>e=.returned (.int .i64 (num T s))/\w'=w:=by
 have C:=ξ0 (Ring.ξ9Q rb T w hR.cells.2.1)
 have t1:=hI.t1
 have t2:=hI.t2
 by_cases hT:T<0
 ·have e:num T s=65536+s:=if_pos hT
  rw [e];have d:decide (T<0)=true:=by simpa using hT
  have hw:wrap64 (65536+s)=65536+s:=by unfold wrap64;omega
  clear hR hI e hT;go_enter func122,ntmps122
  go_wp2_with fail
  refine C.out.mono ?_
  rintro e w1 ⟨rfl,rfl⟩;go_wp2_with fail
  go_ret
  exact ⟨rfl,rfl⟩
 ·have e:num T s=Ser.unw T s:=if_neg hT
  rw [e];have CU:=ξ0 (Ser.ξ9N T s w (by omega) t2 h0 h1)
  obtain ⟨u,hu⟩:∃ u,Ser.unw T s=u:=⟨_,rfl⟩;rw [hu] at CU;rw [hu];have d:decide (T<0)=false:=by simpa using hT
  clear hR hI e hT hu;go_enter func122,ntmps122
  go_wp2_with fail
  refine C.out.mono ?_
  rintro e w1 ⟨rfl,rfl⟩;go_wp2_with fail
  refine CU.out.mono ?_
  rintro e w1 ⟨rfl,rfl⟩;go_wp2_with fail
  go_ret
  exact ⟨rfl,rfl⟩
theorem ξaU {T y:Int} {M:RM.Its} {p:RM.Pk} (hI:RM.Inv 64 T M) (h0:0<=y) (h1:y<=1099511627776) (ho:T - 64<y) (hh:RM.has M y=false) :
 (M++[(y,p)]).filter (fun i=>decide (RM.low (RM.top T y) (RM.keeps 64 (RM.top T y) M++[(y,p)])<=i.1))=RM.keeps 64 (RM.top T y) M++[(y,p)]:=by
 have hI2:=RM.ξ27 hI p h0 h1 ho hh
 obtain ⟨l1,l2,l3⟩:=RM.ξaT (RM.top T y) (RM.keeps 64 (RM.top T y) M++[(y,p)]);have hlow:RM.top T y - 64<RM.low (RM.top T y) (RM.keeps 64 (RM.top T y) M++[(y,p)]):=by
  rcases l3 with e | ⟨i,hi,e⟩
  ·omega
  ·have:=(hI2.mem i hi).2.2
   omega
 rw [List.filter_append];have e2:[(y,p)].filter (fun i=>decide (RM.low (RM.top T y) (RM.keeps 64 (RM.top T y) M++[(y,p)])<=i.1))=[(y,p)]:=by
  have:=l2 (y,p) (by simp)
  simp only [List.filter_cons,List.filter_nil]
  rw [if_pos (by simpa using this)]
 rw [e2]
 congr 1
 unfold RM.keeps;apply List.filter_congr
 intro i hi;by_cases c:RM.top T y - 64<i.1
 ·have:=l2 i (Ξe.2 (.inl (Ξj.2 ⟨hi,by simpa using c⟩)))
  unfold RM.keeps at this;simp [c,this]
 ·unfold RM.keeps at hlow;rw [decide_eq_false (by omega),decide_eq_false c]
def Tr.keep (t:Tr) (y:Int) (p:RM.Pk) (wy:Int×Int):Tr:=
 if RM.px 64 t.rT y t.rM 0 then { t with rT:=RM.pT 64 t.rT y t.rM 0,rM:=RM.pM 64 t.rT y t.rM 0 p,wy:=fun x=>if x=y then wy else t.wy x } else t
theorem TrAt.ring {w w':World} {P:TP} {t:Tr} (h:TrAt w P t) (ho:Only [P.r,P.rm] w w'):w'.heap[P.p]?=w.heap[P.p]?/\Gaps.IArg w' P.ka t.kids.length t.kids/\Gaps.ξ7 w' P.g P.gm 3 3 t.gn t.gT t.gM P.gv t.gG/\∃ D,w'.ownsMap prog 3 GM.akR P.wm t.rM.length D/\RM.Keys D t.rM/\WElems D t.rM t.wy:=by
 have s:=h.sepR
 have s':∀ k∈P.p::P.wm::(Gaps.blks P.g P.gm P.gv++kblk P.ka t.kids),k∉[P.r,P.rm]:=fun k hk=>by have:=s k hk;simp;exact this
 obtain ⟨D,h1,h2,h3⟩:=h.way;refine ⟨ho.2.2.2.2 _ (lt_of_block h.box) (s' _ (by simp)),ξ1E h.kid ho (fun k hk=>s' k (by simp [hk])),h.gap.only ho (fun k hk=>s' k (by simp [hk])),D,ξJ h1 ho (s' _ (by simp)),h2,h3⟩
theorem nobR {w:World} {P:TP} {t:Tr} (h:TrAt w P t):Nob w [P.r,P.rm,P.wm]:=by
 obtain ⟨D,h1,_,_⟩:=h.way;obtain ⟨D2,h2,_,_⟩:=h.rng.2;intro k hk;simp only [Ξf,List.not_mem_nil,or_false] at hk
 rcases hk with rfl | rfl | rfl
 ·exact ξj h.rng.1 (by decide)
 ·exact ξ13 (RM.ξc h2)
 ·exact ξ13 (RM.ξc h1)
theorem Tr.keep_no {t:Tr} {y:Int} {p:RM.Pk} {wy:Int×Int} (h:RM.px 64 t.rT y t.rM 0=false):t.keep y p wy=t:=by
 unfold Tr.keep;rw [if_neg (by simp [h])]
theorem Tr.keep_yes {t:Tr} {y:Int} {p:RM.Pk} {wy:Int×Int} (h:RM.px 64 t.rT y t.rM 0=true):t.keep y p wy={ t with rT:=RM.top t.rT y,rM:=RM.keeps 64 (RM.top t.rT y) t.rM++[(y,p)],wy:=fun x=>if x=y then wy else t.wy x }:=by
 unfold Tr.keep RM.pT RM.pM;rw [if_pos h,if_pos h,if_pos h]
theorem zeroWY (w:World):(zeroValue 177).run prog w=.ok (.agg #[.int .i64 0,.int .i64 0]) w:=by kernel_rfl
theorem ξ9Z {w:World} {wm:Nat} {M:RM.Its} {f:Int->Int×Int} {D:DataW Value} {y:Int} {p:RM.Pk} {wy:Int×Int} (hown:w.ownsMap prog 3 GM.akR wm M.length D) (hK:RM.Keys D M) (hE:WElems D M f) (h1:M.Pairwise fun a b=>a.1≠b.1) (hl:M.length<=1000) (hn:RM.has M y=false) (hw:(Lit.int .i64 y).wf=true) :
 ∃ w2,(Instr.mapUpdate 172 (.map (some wm)) (.int .i64 y) (.agg #[.int .i64 wy.1,.int .i64 wy.2])).run prog w=.ok () w2/\(∃ D',w2.ownsMap prog 3 GM.akR wm (M++[(y,p)]).length D'/\RM.Keys D' (M++[(y,p)])/\WElems D' (M++[(y,p)]) (fun x=>if x=y then wy else f x))/\Only [wm] w w2:=by
 obtain ⟨w2,hrun,hown2,hturn⟩:=hown.store law3 underlying172 (by unfold maxLen;omega) (keyOf3 hw) (GM.ξ2K wy.1 wy.2)
 refine ⟨w2,hrun,?_,(Only.refl _ _).grown hturn.grown (by simp)⟩
 have hK2:=RM.ξ1y (y:=y) hown.isMap hK (.held (.agg #[.int .i64 wy.1,.int .i64 wy.2])) p
 have hap:(M++[(y,p)]).Pairwise fun a b=>a.1≠b.1:=by
  rw [List.pairwise_append];refine ⟨h1,by simp,?_⟩
  intro i hi b hb;simp only [Ξg] at hb
  subst hb;exact RM.ξ11 hn i hi
 have ht:=RM.tight hown2
 have hsz:=hK2.size (hown2.entries law3) hap
 refine ⟨_,by rw [<- hsz];exact ht,hK2,?_⟩
 intro i hi zd;rcases Ξe.1 hi with hi | hi
 ·have hne:=RM.ξ11 hn i hi
  show _=DataW.held (wv (if i.1=y then wy else f i.1))
  rw [atKey_put_other (fun e=>hne (RM.key_inj e)),if_neg hne]
  exact hE i hi zd
 ·simp only [Ξg] at hi
  subst hi;show (D.put (RM.key y) _).atKey (RM.key y) zd=DataW.held (wv (if y=y then wy else f y))
  rw [if_pos rfl];exact atKey_put_same hown.isMap (RM.keyLit y) _ _
theorem ξaZ {w w1 w3 w4 w5:World} {P:TP} {t:Tr} {y:Int} {p:RM.Pk} {wy:Int×Int} (h:TrAt w P t) (hI:RM.Inv 64 t.rT t.rM) (hx:RM.px 64 t.rT y t.rM 0=true)
 (hb1:Below w.heap.size w w1) (hR:Ring.RingAt w3 P.r P.rm 64 (RM.top t.rT y) (RM.keeps 64 (RM.top t.rT y) t.rM++[(y,p)])) (ho3:Only [P.r,P.rm] w1 w3) (ho4:Only [P.wm] w3 w4)
 (hb5:Below w4.heap.size w4 w5) {w6:World} {D':DataW Value} {K:RM.Its} (hK:K=RM.keeps 64 (RM.top t.rT y) t.rM++[(y,p)]) (hm:w6.ownsMap prog 3 GM.akR P.wm K.length D'/\RM.Keys D' K/\WElems D' K (fun x=>if x=y then wy else t.wy x)) (ho6:Only [P.wm] w5 w6) :
 TrAt w6 P (t.keep y p wy)/\Only [P.r,P.rm,P.wm] w w6:=by
 have hT1:TrAt w1 P t:=h.only (Only.of_below hb1 []) (Nob.nil _) (by simp)
 obtain ⟨e1,e2,e3,D,e4,e5,e6⟩:=hT1.ring ho3;have sW:=h.sepW
 have m1:∀ k,k∈P.p::P.r::P.rm::(Gaps.blks P.g P.gm P.gv++kblk P.ka t.kids)->k∉[P.wm]:=fun k hk=>by simpa using sW k hk
 have o46:Only [P.wm] w3 w6:=(ho4.trans (Only.of_below hb5 _)).trans ho6
 have nb:∀ k∈[P.wm],∀ cs fr,w3.heap[k]?≠some (.cells cs 5 fr):=by
  intro k hk cs fr;simp only [Ξg] at hk
  subst hk;obtain ⟨es,c,hmm⟩:=RM.ξc e4;rw [hmm];simp
 subst hK;rw [Tr.keep_yes hx];refine ⟨⟨(o46.2.2.2.2 _ (by have:=lt_of_block h.box;have:=hb1.size;have:=ho3.2.2.2.1;omega) (m1 _ (by simp))).trans (e1.trans hT1.box),ξ1E e2 o46 (fun k hk=>m1 k (by simp [hk])),h.kno,e3.only o46 (fun k hk=>m1 k (by simp [hk])),hR.only o46 (m1 _ (by simp)) (m1 _ (by simp)) nb,⟨D',hm⟩,h.ap,h.kap⟩,?_⟩
 exact ((Only.of_below hb1 _).trans (ho3.mono (by intro k hk;simp only [Ξf,List.not_mem_nil,or_false] at hk ⊢;rcases hk with hk | hk<;>simp [hk]))).trans (o46.mono (by simp))
theorem ξb0 {w w1 w3:World} {P:TP} {t:Tr} {y:Int} {p:RM.Pk} {wy:Int×Int} (h:TrAt w P t) (hx:RM.px 64 t.rT y t.rM 0=false) (hb1:Below w.heap.size w w1) (hR:Ring.RingAt w3 P.r P.rm 64 (RM.pT 64 t.rT y t.rM 0) (RM.pM 64 t.rT y t.rM 0 p)) (ho3:Only [P.r,P.rm] w1 w3) :
 TrAt w3 P (t.keep y p wy)/\Only [P.r,P.rm,P.wm] w w3:=by
 have hT1:TrAt w1 P t:=h.only (Only.of_below hb1 []) (Nob.nil _) (by simp)
 obtain ⟨e1,e2,e3,e4⟩:=hT1.ring ho3;unfold RM.pT RM.pM at hR;rw [if_neg (by simp [hx]),if_neg (by simp [hx])] at hR
 rw [Tr.keep_no hx];exact ⟨⟨e1.trans hT1.box,e2,h.kno,e3,hR,e4,h.ap,h.kap⟩,(Only.of_below hb1 _).trans (ho3.mono (by intro k hk;simp only [Ξf,List.not_mem_nil,or_false] at hk ⊢;rcases hk with hk | hk<;>simp [hk]))⟩
theorem ξ2X (P:TP) (t:Tr) (y s tt l q:Int) (st:Bool) (a:Option Addr) (m cap:Nat) (L:List Nat) (o h:Int) (w:World) (hT:TrAt w P t) (hI:RM.Inv 64 t.rT t.rM) (hA:Arg w a m L) (hN:a=none->m=0/\cap=0) (hf:PM.fault s tt l q m=0) (hF:∀ ad,a=some ad->0<m->ad.block∉[P.r,P.rm,P.wm]) :
 Calls prog 123 #[.pointer (some ⟨P.p,0,none⟩),.int .i64 y,.agg #[.int .i64 s,.int .i64 tt,.int .i64 l,.int .i64 q,.bool st,.slice a m cap],.agg #[.int .i64 o,.int .i64 h]] w fun e w'=>e=.returned (.tuple #[])/\TrAt w' P (t.keep y ⟨s,tt,l,q,st,L,.slice a m cap⟩ (o,h))/\Only [P.r,P.rm,P.wm] w w':=by
 obtain ⟨W0,hW0⟩:∃ W0,(w.alloc (.cells #[.int .i64 s,.int .i64 tt,.int .i64 l,.int .i64 q,.bool st,.slice a m cap] 38)).alloc (.cells #[.int .i64 o,.int .i64 h] 177)=W0:=⟨_,rfl⟩;have hB0:Below w.heap.size w W0:=by rw [<- hW0];exact below2 w _ _
 have hbx:W0.heap[w.heap.size]?=some (.cells #[.int .i64 s,.int .i64 tt,.int .i64 l,.int .i64 q,.bool st,.slice a m cap] 38 (0,0)):=by
  rw [<- hW0];exact (Below.heap_alloc _ _ _ (by simp)).trans (heap_alloc_new w _)
 have hby:W0.heap[w.heap.size+1]?=some (.cells #[.int .i64 o,.int .i64 h] 177 (0,0)):=by
  rw [<- hW0];have:=heap_alloc_new (w.alloc (.cells #[.int .i64 s,.int .i64 tt,.int .i64 l,.int .i64 q,.bool st,.slice a m cap] 38)) (.cells #[.int .i64 o,.int .i64 h] 177)
  simpa using this
 have hT0:TrAt W0 P t:=hT.only (Only.of_below hB0 []) (Nob.nil _) (by simp)
 have CP:=Ring.ξag P.r P.rm 64 t.rT y s tt l q st a m cap L t.rM W0.drew (hT0.rng.below ((Ξp _ _).drew)) hI ((hA.below hB0).below ((Ξp _ _).drew)) hN
 rw [hf] at CP;have CP:=ξ0 CP
 obtain ⟨pb,hpb⟩:∃ pb,w.heap.size=pb:=⟨_,rfl⟩;obtain ⟨k5,hk5⟩:∃ rb,P.r=rb:=⟨_,rfl⟩;have p5:∀ W:World,W.heap[P.p]?=W0.heap[P.p]?->W.cell? ⟨P.p,5,none⟩=some (.pointer (some ⟨P.r,0,none⟩))/\W.cell? ⟨P.p,6,none⟩=some (.map (some P.wm)):=by
  intro W e;have:=e.trans hT0.box
  constructor<;>simp [World.cell?,this]
 have q6:∀ W:World,W.heap[pb]?=W0.heap[pb]?->W.cell? ⟨pb,0,none⟩=some (.int .i64 s)/\W.cell? ⟨pb,1,none⟩=some (.int .i64 tt)/\W.cell? ⟨pb,2,none⟩=some (.int .i64 l)/\W.cell? ⟨pb,3,none⟩=some (.int .i64 q)/\W.cell? ⟨pb,4,none⟩=some (.bool st)/\W.cell? ⟨pb,5,none⟩=some (.slice a m cap):=by
  intro W e;rw [hpb] at hbx;have:=e.trans hbx
  refine ⟨?_,?_,?_,?_,?_,?_⟩<;>simp [World.cell?,this]
 have q2:∀ W:World,W.heap[pb+1]?=W0.heap[pb+1]?->W.cell? ⟨pb+1,0,none⟩=some (.int .i64 o)/\W.cell? ⟨pb+1,1,none⟩=some (.int .i64 h):=by
  intro W e;rw [hpb] at hby;have:=e.trans hby
  constructor<;>simp [World.cell?,this]
 have HP5:=ξ0 p5
 have HQ6:=ξ0 q6
 have HQ2:=ξ0 q2
 obtain ⟨c5,c6⟩:=p5 W0.drew rfl;obtain ⟨d0,d1,d2,d3,d4,d5⟩:=q6 W0.drew rfl;obtain ⟨pp,hpp⟩:∃ pp,P.p=pp:=⟨_,rfl⟩
 -- behind Put
 have HF:Hid (Calls prog 159 #[.pointer (some ⟨P.r,0,none⟩),.int .i64 y,.agg #[.int .i64 s,.int .i64 tt,.int .i64 l,.int .i64 q,.bool st,.slice a m cap]] W0.drew fun e w'=>e=.returned (.tuple #[.bool (RM.px 64 t.rT y t.rM 0),errv (RM.pf 64 t.rT y 0)]) /\
  (w'.cell? ⟨P.p,5,none⟩=some (.pointer (some ⟨P.r,0,none⟩))/\w'.cell? ⟨pb,0,none⟩=some (.int .i64 s)/\w'.cell? ⟨pb,1,none⟩=some (.int .i64 tt)/\w'.cell? ⟨pb,2,none⟩=some (.int .i64 l)/\w'.cell? ⟨pb,3,none⟩=some (.int .i64 q)/\w'.cell? ⟨pb,4,none⟩=some (.bool st)/\w'.cell? ⟨pb,5,none⟩=some (.slice a m cap)) /\
  Hid (Ring.RingAt w' P.r P.rm 64 (RM.pT 64 t.rT y t.rM 0) (RM.pM 64 t.rT y t.rM 0 ⟨s,tt,l,q,st,L,.slice a m cap⟩)/\Only [P.r,P.rm] W0 w')):=by
  refine ξ0 (CP.out.mono ?_)
  rintro e w' ⟨rfl,g1,g2⟩;have sR:=hT0.sepR
  have e1:w'.heap[P.p]?=W0.heap[P.p]?:=g2.2.2.2.2 _ (lt_of_block hT0.box) (by have:=sR P.p (by simp);simpa using this)
  have e2:w'.heap[pb]?=W0.heap[pb]?:=g2.2.2.2.2 _ (by rw [<- hpb];exact lt_of_block hbx) (by
   have:=hT.lt P.r (by simp [tblks])
   have:=hT.lt P.rm (by simp [tblks])
   simp
   omega)
  exact ⟨rfl,⟨(p5 w' e1).1,q6 w' e2⟩,g1,g2⟩
 have HT:=ξ0 hT
 have HT0:=ξ0 hT0
 have HB0:=ξ0 hB0
 have HI:=ξ0 hI
 have HA:=ξ0 hA
 have HW:=ξ0 hW0
 have HPB:=ξ0 hpb
 have hS0:W0.drew.cell? ⟨pp,5,none⟩=some (.pointer (some ⟨k5,0,none⟩))/\W0.drew.cell? ⟨pb,0,none⟩=some (.int .i64 s)/\W0.drew.cell? ⟨pb,1,none⟩=some (.int .i64 tt)/\W0.drew.cell? ⟨pb,2,none⟩=some (.int .i64 l)/\W0.drew.cell? ⟨pb,3,none⟩=some (.int .i64 q)/\W0.drew.cell? ⟨pb,4,none⟩=some (.bool st)/\W0.drew.cell? ⟨pb,5,none⟩=some (.slice a m cap):=⟨by rw [<- hpp,<- hk5];exact c5,d0,d1,d2,d3,d4,d5⟩
 rw [hpp,hk5] at HF;have HPP:=ξ0 hpp
 have HK5:=ξ0 hk5
 obtain ⟨bx,hbxx⟩:∃ bx,RM.px 64 t.rT y t.rM 0=bx:=⟨_,rfl⟩;obtain ⟨pf,hpf⟩:∃ pf,RM.pf 64 t.rT y 0=pf:=⟨_,rfl⟩;rw [hbxx,hpf] at HF;rw [hpp];have hpfx:bx=true->pf=0:=fun e=>by rw [e] at hbxx;rw [<- hpf];exact (RM.ξ4V hbxx).1
 have HBX:=ξ0 hbxx
 have HPF:=ξ0 hpf
 have HPX:=ξ0 hpfx
 have HFl:=ξ0 hf
 have HIq:=ξ0 hT.lt
 clear hT hT0 hB0 hI hA hN hf hF hW0 hbx hby CP p5 q6 q2 c5 c6 d0 d1 d2 d3 d4 d5 hpp hk5 hbxx hpf hpfx;go_enter func123,ntmps123
 go_upto_region 1 with fail
 rw [HW.out];clear hpb;go_region_held3 (fun w'=>w'.cell? ⟨pp,5,none⟩=some (.pointer (some ⟨k5,0,none⟩))/\w'.cell? ⟨pb,0,none⟩=some (.int .i64 s)/\w'.cell? ⟨pb,1,none⟩=some (.int .i64 tt)/\w'.cell? ⟨pb,2,none⟩=some (.int .i64 l)/\w'.cell? ⟨pb,3,none⟩=some (.int .i64 q)/\w'.cell? ⟨pb,4,none⟩=some (.bool st)/\w'.cell? ⟨pb,5,none⟩=some (.slice a m cap)) (with_reducible assumption) (first | (go_at_call 159;refine HF.out.mono ?_;rintro e w3 ⟨rfl,hS3,HR3⟩))
 clear hS3 hS0 HF;have q1:=ξr pf
 have q2:=ξq pf
 cases bx with
 | false=>
   have HD:=ξ0 (ξb0 (p:=⟨s,tt,l,q,st,L,.slice a m cap⟩) (wy:=(o,h)) HT.out HBX.out HB0.out (by rw [HK5.out];exact HR3.out.1) (by rw [HK5.out];exact HR3.out.2))
   by_cases hp0:pf=0
   ·have d0:decide (pf=0)=true:=by simpa using hp0
    clear hp0;go_wp2_with fail
    (try simp only [Exit.inBlock,Exit.then])
    refine bodyPost_ret (results_none rfl _ _ _) rfl ?_
    exact ⟨rfl,HD.out⟩
   ·have d0:decide (pf=0)=false:=by simpa using hp0
    clear hp0;go_wp2_with fail
    (try simp only [Exit.inBlock,Exit.then])
    refine bodyPost_ret (results_none rfl _ _ _) rfl ?_
    exact ⟨rfl,HD.out⟩
 | true=>
   have d0:decide (pf=0)=true:=by simpa using HPX.out rfl
   obtain ⟨hr3,ho3⟩:=HR3.out;obtain ⟨z1,z2⟩:=RM.ξ4V HBX.out;obtain ⟨z3,z4,_,z5⟩:=RM.ξ1C z1;have e3:=HT0.out.ring (w':=w3) (by rw [HK5.out];exact ho3)
   obtain ⟨e31,_,_,D,e34,e35,e36⟩:=e3;have hlen:t.rM.length<=64:=by have:=HI.out.len;omega
   obtain ⟨w4,hrun,⟨D2,g1,g2,g3⟩,ho4⟩:=ξ9Z (w:=w3.drew) (y:=y) (p:=⟨s,tt,l,q,st,L,.slice a m cap⟩) (wy:=(o,h)) e34 e35 e36 HI.out.one (by omega) z2 (ξL (by omega) (by omega))
   have HO4:Hid (Only [P.wm] w3 w4):=ξ0 ho4
   obtain ⟨cc5,cc6⟩:=HP5.out w3.drew e31;rw [HPP.out] at cc5 cc6;have hlp:=HIq.out P.r (by simp [tblks])
   have hlq:=HIq.out P.rm (by simp [tblks])
   have hpl:pb+1<W0.heap.size:=by rw [<- HPB.out,<- HW.out];simp
   have hy3:w3.heap[pb+1]?=W0.heap[pb+1]?:=ho3.2.2.2.2 _ hpl (by rw [<- HPB.out,<- HK5.out];simp;omega)
   obtain ⟨y0,y1⟩:=HQ2.out w3.drew hy3;have sW:=HT0.out.sepW
   have hwp:w4.heap[P.p]?=W0.heap[P.p]?:=(ho4.2.2.2.2 P.p (by have:=lt_of_block HT0.out.box;have:=ho3.2.2.2.1;show P.p<w3.heap.size;omega) (by simpa using sW P.p (by simp))).trans e31
   obtain ⟨x5,x6⟩:=HP5.out w4 hwp;rw [HPP.out] at x5 x6;rw [HK5.out] at x5;have hT3:RM.pT 64 t.rT y t.rM 0=RM.top t.rT y:=by unfold RM.pT;rw [if_pos HBX.out]
   have hM3:RM.pM 64 t.rT y t.rM 0 ⟨s,tt,l,q,st,L,.slice a m cap⟩=RM.keeps 64 (RM.top t.rT y) t.rM++[(y,⟨s,tt,l,q,st,L,.slice a m cap⟩)]:=by unfold RM.pM;rw [if_pos HBX.out]
   rw [hT3,hM3] at hr3;have hI4:=RM.ξ27 HI.out ⟨s,tt,l,q,st,L,.slice a m cap⟩ z3 z4 z5 z2
   have hr4:Ring.RingAt w4 P.r P.rm 64 (RM.top t.rT y) (RM.keeps 64 (RM.top t.rT y) t.rM++[(y,⟨s,tt,l,q,st,L,.slice a m cap⟩)]):=by
    have hr3':Ring.RingAt w3 P.r P.rm 64 (RM.top t.rT y) (RM.keeps 64 (RM.top t.rT y) t.rM++[(y,⟨s,tt,l,q,st,L,.slice a m cap⟩)]):=by rw [HK5.out];exact hr3
    refine hr3'.only HO4.out (by simpa using sW P.r (by simp)) (by simpa using sW P.rm (by simp)) ?_
    intro k hk cs fr;simp only [Ξg] at hk
    subst hk;obtain ⟨es,c,hmm⟩:=RM.ξc e34;rw [hmm];simp
   have CL:=ξ0 (Ring.ξaV P.r P.rm 64 _ _ w4 hr4 hI4)
   rw [HK5.out] at CL;have HR3':=ξ0 hr3
   have HO3:=ξ0 ho3
   have HM4:=ξ0 (And.intro g1 (And.intro g2 g3))
   have HZ:=ξ0 (And.intro z3 (And.intro z4 (And.intro z5 z2)))
   have HE34:=ξ0 e34
   have HWP:=ξ0 hwp
   obtain ⟨lw,hlw⟩:∃ lw,RM.low (RM.top t.rT y) (RM.keeps 64 (RM.top t.rT y) t.rM++[(y,⟨s,tt,l,q,st,L,.slice a m cap⟩)])=lw:=⟨_,rfl⟩;rw [hlw] at CL;have HLW:=ξ0 hlw
   obtain ⟨wm,hwm⟩:∃ wm,P.wm=wm:=⟨_,rfl⟩;rw [hwm] at hrun cc6 x6;have HWM:=ξ0 hwm
   clear HR3 hr3 ho3 z1 z2 z3 z4 z5 e31 e34 e35 e36 hlen g1 g2 g3 ho4 cc5 hlp hlq hpl hy3 sW hwp hT3 hM3 hI4 hr4 hlw hwm;go_upto_region 3 with fail
   go_region
   go_wp2_with fail
   refine CL.out.mono ?_
   rintro e w5 ⟨rfl,hb5⟩;obtain ⟨w6,hw6⟩:∃ w6,w5.alloc (.cells #[.int .i64 lw] 3)=w6:=⟨_,rfl⟩;have hb6:Below w4.heap.size w4 w6:=by rw [<- hw6];exact hb5.alloc hb5.size _
   have x6':w6.cell? ⟨pp,6,none⟩=some (.map (some wm)):=ξb hb6 x6
   have cg:w6.cell? ⟨w5.heap.size,0,none⟩=some (.int .i64 lw):=by rw [<- hw6];simp
   have hap:(t.rM++[(y,(⟨s,tt,l,q,st,L,.slice a m cap⟩:RM.Pk))]).Pairwise fun a b=>a.1≠b.1:=by
    rw [List.pairwise_append];refine ⟨HI.out.one,by simp,?_⟩
    intro i hi b hb;simp only [Ξg] at hb
    subst hb;exact RM.ξ11 HZ.out.2.2.2 i hi
   have hm6:w6.ownsMap prog 3 GM.akR P.wm (t.rM++[(y,(⟨s,tt,l,q,st,L,.slice a m cap⟩:RM.Pk))]).length D2:=ξJ HM4.out.1 (Only.of_below hb6 []) (by simp)
   have CD:=ξ0 (ξ9A P.wm w5.heap.size _ _ lw D2 w6 hm6 HM4.out.2.1 HM4.out.2.2 hap cg)
   rw [HWM.out] at CD;have HB6:=ξ0 hb6
   have HW6:=ξ0 hw6
   obtain ⟨gb,hgb⟩:∃ gb,w5.heap.size=gb:=⟨_,rfl⟩;rw [hgb] at CD cg;clear hb5 hb6 hw6 hap hm6 x5 x6 cc6 y0 y1 hrun CL;go_upto_region 5 with fail
   first | rw [HW6.out] | skip
   clear hgb;go_wp2_with fail
   refine CD.out.mono ?_
   rintro e w7 ⟨rfl,⟨D7,k1,k2,k3⟩,ho7⟩;have HD:=ξ0 (ξaZ (w4:=w4) (w5:=w6) (wy:=(o,h)) (K:=(t.rM++[(y,(⟨s,tt,l,q,st,L,.slice a m cap⟩:RM.Pk))]).filter fun i=>decide (lw<=i.1)) HT.out HI.out HBX.out HB0.out (by rw [HK5.out];exact HR3'.out) (by rw [HK5.out];exact HO3.out) HO4.out HB6.out (by rw [<- HLW.out];exact ξaU HI.out HZ.out.1 HZ.out.2.1 HZ.out.2.2.1 HZ.out.2.2.2) (by rw [HWM.out];exact ⟨k1,k2,k3⟩) (by rw [HWM.out];exact ho7))
   clear k1 k2 k3 ho7;go_wp2_with fail
   first | go_end0 | go_ret
   exact ⟨rfl,HD.out⟩
end Go.Proofs.YtpiamlgmadnepaaGreat.ND
