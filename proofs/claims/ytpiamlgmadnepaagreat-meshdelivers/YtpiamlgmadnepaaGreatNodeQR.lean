/-
 What the proof needs.
-/
import Derived.Test.YtpiamlgmadnepaaGreatNodeMid
import Derived.Test.YtpiamlgmadnepaaGreatSerialP
open Go.Proofs.Tryz
set_option linter.unusedVariables false
set_option maxHeartbeats 4000000
set_option maxRecDepth 100000
namespace Go.Proofs.YtpiamlgmadnepaaGreat.ND
open ChangeShapes WideShapes ChangeAt RowKit Maps Mem NO RM
variable {w wr w1 w3:World}{wm it cnt cnt1:Nat}{low x y:Int}{M:Its}{f:Int->Int×Int}{left:Lit->Bool}{p:RM.Pk}{P:TP}{t:Tr}{wy:Int×Int}
theorem ξ75(x low a c:Int)(g:Nat)(w:World)(h:w.cell? ⟨g,0,none⟩=some (.int .i64 low)) :
 Calls prog 162 #[.int .i64 x,.agg #[.int .i64 a,.int .i64 c],.pointer (some ⟨g,0,none⟩)] w λe w'=>e=.returned (.bool (decide (x<low)))/\w'=w.alloc (.cells #[.int .i64 a,.int .i64 c] 177):=by
 obtain⟨q,hq⟩:=nm (decide (x<low));rw[hq];have c1:=(((Ξp _ w).alloc (Ξo _) (.cells #[.int .i64 a,.int .i64 c] 177)).cell (p:=⟨g,0,none⟩) (Ξq w ⟨g,0,none⟩ h)).trans h;go_enter func162,ntmps162;go_wp2_with fail
 go_ret;exact⟨rfl,rfl⟩
def DSt(w wr:World)(wm it:Nat)(M:Its)(f:Int->Int×Int)(low:Int)(D:DataW Value)(left:Lit->Bool)(cnt:Nat):Prop:=
 wr.ranges prog 3 GM.akR wm it M.length D left cnt/\Keys D (cur M (λx=>decide (low<=x)) left)/\A3l D (cur M (λx=>decide (low<=x)) left) f/\Only [wm] w wr/\w.heap.size<=it/\wm<w.heap.size
theorem ξbW{D:DataW Value}(h:DSt w wr wm it M f low D left cnt)(hx:low<=x)(ho:Only [it] wr w1)
 (hr:w1.ranges prog 3 GM.akR wm it M.length D (λz=>left z&&!z.sameKey (key x)) cnt1):DSt w w1 wm it M f low D (λz=>left z&&!z.sameKey (key x)) cnt1:=by
 obtain⟨g1,g2,g3,g4,g5,g6⟩:=h;have e:=ξ5X (M:=M) (kp:=λx=>decide (low<=x)) (left:=left) (x:=x) (by simpa using hx);refine⟨hr,by rw[e];exact g2,by rw[e];exact g3,Ring.past g4 ho (λj hj=>?_),g5,g6⟩;simp at hj;subst hj;exact .inr g5
theorem ξ62{D:DataW Value}{kp:Int->Bool}(hx:kp x=false)(h:A3l D (cur M kp left) f):A3l (D.del (key x)) (cur M kp (λz=>left z&&!z.sameKey (key x))) f:=by
 intro i hi zd;obtain⟨h1,h2⟩:=(ξ1K hx i).1 hi;rw[atKey_del_other (λe=>h2 (key_inj e)),h i h1]
theorem ξdQ{w2:World}{D:DataW Value}(h:DSt w wr wm it M f low D left cnt)(hx:x<low)(ho:Only [it,wm] wr w2)
 (hr:w2.ranges prog 3 GM.akR wm it M.length (D.del (key x)) (λz=>left z&&!z.sameKey (key x)) cnt1):DSt w w2 wm it M f low (D.del (key x)) (λz=>left z&&!z.sameKey (key x)) cnt1:=by
 obtain⟨g1,g2,g3,g4,g5,g6⟩:=h;have hk:(λx=>decide (low<=x)) x=false:=by simp;omega
 refine⟨hr,ξ3Z hk g2,ξ62 hk g3,Ring.past g4 ho (λj hj=>?_),g5,g6⟩;simp at hj;rcases hj with rfl|rfl
 ·exact .inr g5
 ·exact .inl (by simp)
theorem ξad(wm g:Nat)(M:Its)(f:Int->Int×Int)(low:Int)(D:DataW Value)(w:World)(hown:w.ownsMap prog 3 GM.akR wm M.length D)(hK:Keys D M)(hE:A3l D M f)(h1:M.Pairwise λa b=>a.1≠b.1)(hg:w.cell? ⟨g,0,none⟩=some (.int .i64 low)) :
 Calls prog 161 #[.map (some wm),.func (.func 162) #[] #[.pointer (some ⟨g,0,none⟩)]] w λe w'=>e=.returned (.tuple #[]) /\
  (∃D',w'.ownsMap prog 3 GM.akR wm (M.filter λi=>decide (low<=i.1)).length D'/\Keys D' (M.filter λi=>decide (low<=i.1))/\A3l D' (M.filter λi=>decide (low<=i.1)) f)/\Only [wm] w w':=by
 have HO:=ξ0 hown;have HK:=ξ0 hK;have HE:=ξ0 hE;have H1:=ξ0 h1;have HG:=ξ0 hg;have aH:=hown.lt;have aC:=Ξq w ⟨g,0,none⟩ hg;have aI:g≠wm:=by
  intro e;obtain⟨es,c,hm⟩:=ξd hown;subst e;simp[World.cell?,hm]at hg
 simp only at aC;clear hown hK hE h1 hg;go_enter func161,ntmps161;go_wp2_with (at_range;refine wpList_range_own _ rfl _ 172 rfl 3 177 A09 underlying172 _ wm M.length D rfl HO.out ?_;intro w0 ai aD aE)
 go_frame
 have aw:Hid (DSt w w0 wm w.heap.size M f low D (Maps.has D) (Maps.size D)):=by
  have ho:Only [wm] w w0:=(Only.refl [wm] w).grown aD (by simp);refine⟨ai,?_,?_,ho,Ξo _,aH⟩
  ·rw[ξ2t HK.out];exact HK.out
  ·rw[ξ2t HK.out];exact HE.out
 obtain⟨it,hit⟩:=nm w.heap.size;have aJ:=ξ0 hit;rw[hit]at aw aE;rw[hit];clear ai aD aE HE hit;go_loopw [4] (λ_ wr=>∃(Dc:DataW Value) (left:Lit->Bool) (cnt:Nat),Hid (DSt w wr wm it M f low Dc left cnt)) (λ_ wr=>wr.rangeLeft wm it)
 case atStart=>exact⟨_,_,_,aw⟩
 case round=>
  obtain⟨Dc,left,cnt,HS⟩:=hrel;clear aw;go_wp2_with (at_next;refine wpList_next_ranges _ rfl _ rfl 3 A09 GM.akR (Value.int .i64) (λv:Value=>v) (λkey kl ah=>by obtain⟨x,rfl,_⟩:=Maps.keyOf_int_inv underlying3 ah;exact⟨x,rfl⟩) (λv y hv=>⟨v,rfl⟩) wm it M.length Dc left cnt rfl HS.out.1 ?_ ?_)
  ·intro _ aL;go_wp2_with fail
   go_end0
   obtain⟨g1,g2,g3,g4,_⟩:=HS.out;rw[ξ8X aL]at g2 g3;have ht:=RM.tight g1.owns;rw[g2.size (g1.owns.entries A09) (H1.out.filter _)]at ht;exact⟨rfl,⟨Dc,ht,g2,g3⟩,g4⟩
  ·intro x v kl yd yp w1 ae ah aT hv aM aj aO ax aU aV;obtain⟨x',ex,rfl,aP⟩:=Maps.keyOf_int_inv underlying3 ah;cases ex;obtain⟨⟨va,vc,rfl⟩,_⟩:=GM.ξ3P hv;have aQ:=ξ0 aj;have aS:=ξ0 ax;have aW:=HS.out.2.2.2.1.2.2.2.1;have cg:w1.cell? ⟨g,0,none⟩=some (.int .i64 low):=by
    have e1:wr.heap[g]?=w.heap[g]?:=HS.out.2.2.2.1.2.2.2.2 g aC (by simpa using aI);have e2:w1.heap[g]?=wr.heap[g]?:=ax.block g (by omega) (by have:=aJ.out;simp;omega);rw[ξr (e2.trans e1)];exact HG.out
   clear aj ax hv aM;have C:=ξ0 (λW h=>ξ75 x low va vc g W h);have aF:=(((Ξp _ w1).alloc (Ξo _) (.cells #[.int .i64 va,.int .i64 vc] 177)).cell (p:=⟨g,0,none⟩) (Ξq w1 ⟨g,0,none⟩ cg)).trans cg;go_wp2_with fail
   refine(C.out _ aF).mono ?_;rintro e w2 ⟨rfl,ay⟩;have az:Hid (w2.ranges prog 3 GM.akR wm it M.length Dc (λz=>left z&&!z.sameKey (key x)) ae):=by rw[ay];exact ξ0 ((aQ.out.alloc _).alloc _)
   have aG:Hid (Only [it] wr w2):=by rw[ay];exact ξ0 ((((Only.refl [it] wr).grown aS.out (by simp)).alloc _).alloc _)
   clear ay cg aF C;by_cases hx:x<low
   ·have d:decide (x<low)=true:=by simpa using hx
    rw[d];go_wp2_with (at_delete;refine wpList_delete_ranges _ rfl _ _ 172 3 rfl 177 A09 underlying172 _ wm it M.length Dc _ ae rfl az.out _ _ rfl (A05 aP) ?_;intro w3 am aA aX aq;go_frame);have au:w3.ranges prog 3 GM.akR wm it M.length (Dc.del (key x)) (λz=>left z&&!z.sameKey (key x)) am:=by
     have:=aA;rw[show GM.key x=key x from rfl,strike_twice]at this;exact this
    go_roundw
    case rel=>exact⟨_,_,am,ξdQ HS.out hx ((aG.out.mono (by simp)).grown aq.grown (by simp)) au⟩
    case measure=>rw[au.left_eq,HS.out.1.left_eq];omega
   ·have d:decide (x<low)=false:=by simpa using hx
    rw[d];go_wp2_with fail
    go_roundw
    case rel=>exact⟨_,_,ae,ξbW HS.out (by omega) aG.out az.out⟩
    case measure=>rw[az.out.left_eq,HS.out.1.left_eq];omega
def num(T s:Int):Int:=if T<0 then 65536+s else Ser.unw T s
theorem ξ2F(pp rb rm:Nat)(T:Int)(M:RM.Its)(s:Int)(w:World)(hp:w.cell? ⟨pp,5,none⟩=some (.pointer (some ⟨rb,0,none⟩)))(hR:Ring.RingAt w rb rm 64 T M)(hI:RM.Inv 64 T M)(h0:0<=s)(h1:s<=65535) :
 Calls prog 122 #[.pointer (some ⟨pp,0,none⟩),.int .i64 s] w λe w'=>e=.returned (.int .i64 (num T s))/\w'=w:=by
 have C:=ξ0 (Ring.ξav rb T w hR.cells.2.1);have t1:=hI.t1;have t2:=hI.t2;by_cases hT:T<0
 ·have e:num T s=65536+s:=if_pos hT;rw[e];have d:decide (T<0)=true:=by simpa using hT
  have hw:wrap64 (65536+s)=65536+s:=by unfold wrap64;omega
  clear hR hI e hT;go_enter func122,ntmps122;go_wp2_with fail
  refine C.out.mono ?_;rintro e w1 ⟨rfl,rfl⟩;go_wp2_with fail;go_ret;exact⟨rfl,rfl⟩
 ·have e:num T s=Ser.unw T s:=if_neg hT;rw[e];have CU:=ξ0 (Ser.ξaq T s w (by omega) t2 h0 h1);obtain⟨u,hu⟩:=nm (Ser.unw T s);rw[hu]at CU;rw[hu];have d:decide (T<0)=false:=by simpa using hT
  clear hR hI e hT hu;go_enter func122,ntmps122;go_wp2_with fail
  refine C.out.mono ?_;rintro e w1 ⟨rfl,rfl⟩;go_wp2_with fail;refine CU.out.mono ?_;rintro e w1 ⟨rfl,rfl⟩;go_wp2_with fail;go_ret;exact⟨rfl,rfl⟩
theorem ξbu{T:Int}{M:RM.Its}(hI:RM.Inv 64 T M)(h0:0<=y)(h1:y<=1099511627776)(ho:T-64<y)(hh:RM.has M y=false) :
 (M++[(y,p)]).filter (λi=>decide (RM.low (RM.top T y) (RM.keeps 64 (RM.top T y) M++[(y,p)])<=i.1))=RM.keeps 64 (RM.top T y) M++[(y,p)]:=by
 have ah:=RM.ξ2b hI p h0 h1 ho hh;obtain⟨l1,l2,l3⟩:=RM.ξbt (RM.top T y) (RM.keeps 64 (RM.top T y) M++[(y,p)]);have ae:RM.top T y-64<RM.low (RM.top T y) (RM.keeps 64 (RM.top T y) M++[(y,p)]):=by
  rcases l3 with e|⟨i,hi,e⟩
  ·omega
  ·have:=(ah.mem i hi).2.2;omega
 rw[List.filter_append];have e2:[(y,p)].filter (λi=>decide (RM.low (RM.top T y) (RM.keeps 64 (RM.top T y) M++[(y,p)])<=i.1))=[(y,p)]:=by
  have:=l2 (y,p) (by simp);simp only[List.filter_cons,List.filter_nil];rw[if_pos (by simpa using this)]
 rw[e2]
 congr 1
 unfold RM.keeps;apply List.filter_congr;intro i hi;by_cases c:RM.top T y-64<i.1
 ·have:=l2 i (Ξe.2 (.inl (Ξj.2 ⟨hi,by simpa using c⟩)));unfold RM.keeps at this;simp[c,this]
 ·unfold RM.keeps at ae;rw[decide_eq_false (by omega),decide_eq_false c]
def Tr.keep(t:Tr)(y:Int)(p:RM.Pk)(wy:Int×Int):Tr:=
 if RM.px 64 t.rT y t.rM 0 then { t with rT:=RM.pT 64 t.rT y t.rM 0,rM:=RM.pM 64 t.rT y t.rM 0 p,wy:=λx=>if x=y then wy else t.wy x }else t
theorem A1h.ring{w':World}(h:A1h w P t)(ho:Only [P.r,P.rm] w w'):w'.heap[P.p]?=w.heap[P.p]?/\Gaps.A0b w' P.ka t.kids.length t.kids/\Gaps.ξ7 w' P.g P.gm 3 3 t.gn t.gT t.gM P.gv t.gG/\∃D,w'.ownsMap prog 3 GM.akR P.wm t.rM.length D/\RM.Keys D t.rM/\A3l D t.rM t.wy:=by
 have s:=h.sepR;have s':∀k∈P.p::P.wm::(Gaps.A01 P.g P.gm P.gv++A3u P.ka t.kids),k∉[P.r,P.rm]:=λk hk=>by have:=s k hk;simp;exact this
 obtain⟨D,h1,h2,h3⟩:=h.way;refine⟨ho.2.2.2.2 _ (lt_of_block h.box) (s' _ (by simp)),ξ1F h.kid ho (λk hk=>s' k (by simp[hk])),h.gap.only ho (λk hk=>s' k (by simp[hk])),D,ξP h1 ho (s' _ (by simp)),h2,h3⟩
theorem nobR(h:A1h w P t):Nob w [P.r,P.rm,P.wm]:=by
 obtain⟨D,h1,_,_⟩:=h.way;obtain⟨D2,h2,_,_⟩:=h.rng.2;intro k hk;simp only[Ξf,List.not_mem_nil,or_false]at hk;rcases hk with rfl|rfl|rfl
 ·exact ξi h.rng.1 (by decide)
 ·exact ξ14 (RM.ξd h2)
 ·exact ξ14 (RM.ξd h1)
theorem Tr.A74(h:RM.px 64 t.rT y t.rM 0=false):t.keep y p wy=t:=by
 unfold Tr.keep;rw[if_neg (by simp[h])]
theorem Tr.A4w(h:RM.px 64 t.rT y t.rM 0=true):t.keep y p wy={ t with rT:=RM.top t.rT y,rM:=RM.keeps 64 (RM.top t.rT y) t.rM++[(y,p)],wy:=λx=>if x=y then wy else t.wy x }:=by
 unfold Tr.keep RM.pT RM.pM;rw[if_pos h,if_pos h,if_pos h]
theorem zeroWY(w:World):(zeroValue 177).run prog w=.ok (.agg #[.int .i64 0,.int .i64 0]) w:=by kernel_rfl
theorem ξaI{M:RM.Its}{D:DataW Value}(hown:w.ownsMap prog 3 GM.akR wm M.length D)(hK:RM.Keys D M)(hE:A3l D M f)(h1:M.Pairwise λa b=>a.1≠b.1)(hl:M.length<=1000)(hn:RM.has M y=false)(hw:(Lit.int .i64 y).wf=true) :
 ∃w2,(Instr.mapUpdate 172 (.map (some wm)) (.int .i64 y) (.agg #[.int .i64 wy.1,.int .i64 wy.2])).run prog w=.ok () w2/\(∃D',w2.ownsMap prog 3 GM.akR wm (M++[(y,p)]).length D'/\RM.Keys D' (M++[(y,p)])/\A3l D' (M++[(y,p)]) (λx=>if x=y then wy else f x))/\Only [wm] w w2:=by
 obtain⟨w2,ai,ae,ah⟩:=hown.store A09 underlying172 (by unfold maxLen;omega) (A05 hw) (GM.ξ2Q wy.1 wy.2);refine⟨w2,ai,?_,(Only.refl _ _).grown ah.grown (by simp)⟩;have aj:=RM.ξ1z (y:=y) hown.isMap hK (.held (.agg #[.int .i64 wy.1,.int .i64 wy.2])) p;have aq:(M++[(y,p)]).Pairwise λa b=>a.1≠b.1:=by
  rw[List.pairwise_append];refine⟨h1,by simp,?_⟩;intro i hi b hb;simp only[Ξg]at hb;subst hb;exact RM.ξ13 hn i hi
 have ht:=RM.tight ae;have au:=aj.size (ae.entries A09) aq;refine⟨_,by rw[<-au];exact ht,aj,?_⟩;intro i hi zd;rcases Ξe.1 hi with hi|hi
 ·have am:=RM.ξ13 hn i hi;show _=DataW.held (wv (if i.1=y then wy else f i.1));rw[atKey_put_other (λe=>am (RM.key_inj e)),if_neg am];exact hE i hi zd
 ·simp only[Ξg]at hi;subst hi;show(D.put (RM.key y) _).atKey (RM.key y) zd=DataW.held (wv (if y=y then wy else f y));rw[if_pos rfl];exact atKey_put_same hown.isMap (RM.A14 y) _ _
theorem ξbz{w4 w5:World}(h:A1h w P t)(hI:RM.Inv 64 t.rT t.rM)(hx:RM.px 64 t.rT y t.rM 0=true)
 (hb1:Below w.heap.size w w1) (hR:Ring.RingAt w3 P.r P.rm 64 (RM.top t.rT y) (RM.keeps 64 (RM.top t.rT y) t.rM++[(y,p)])) (ho3:Only [P.r,P.rm] w1 w3) (ho4:Only [P.wm] w3 w4)
 (hb5:Below w4.heap.size w4 w5) {w6:World} {D':DataW Value} {K:RM.Its} (hK:K=RM.keeps 64 (RM.top t.rT y) t.rM++[(y,p)]) (hm:w6.ownsMap prog 3 GM.akR P.wm K.length D'/\RM.Keys D' K/\A3l D' K (λx=>if x=y then wy else t.wy x)) (ho6:Only [P.wm] w5 w6) :
 A1h w6 P (t.keep y p wy)/\Only [P.r,P.rm,P.wm] w w6:=by
 have ah:A1h w1 P t:=h.only (Only.of_below hb1 []) (Nob.nil _) (by simp);obtain⟨e1,e2,e3,D,e4,e5,e6⟩:=ah.ring ho3;have sW:=h.sepW;have m1:∀k,k∈P.p::P.r::P.rm::(Gaps.A01 P.g P.gm P.gv++A3u P.ka t.kids)->k∉[P.wm]:=λk hk=>by simpa using sW k hk
 have ae:Only [P.wm] w3 w6:=(ho4.trans (Only.of_below hb5 _)).trans ho6;have nb:∀k∈[P.wm],∀cs fr,w3.heap[k]?≠some (.cells cs 5 fr):=by
  intro k hk cs fr;simp only[Ξg]at hk;subst hk;obtain⟨es,c,ai⟩:=RM.ξd e4;rw[ai];simp
 subst hK;rw[Tr.A4w hx];refine⟨⟨(ae.2.2.2.2 _ (by have:=lt_of_block h.box;have:=hb1.size;have:=ho3.2.2.2.1;omega) (m1 _ (by simp))).trans (e1.trans ah.box),ξ1F e2 ae (λk hk=>m1 k (by simp[hk])),h.kno,e3.only ae (λk hk=>m1 k (by simp[hk])),hR.only ae (m1 _ (by simp)) (m1 _ (by simp)) nb,⟨D',hm⟩,h.ap,h.kap⟩,?_⟩;exact((Only.of_below hb1 _).trans (ho3.mono (by intro k hk;simp only[Ξf,List.not_mem_nil,or_false]at hk ⊢;rcases hk with hk|hk<;>simp[hk]))).trans (ae.mono (by simp))
theorem ξbA(h:A1h w P t)(hx:RM.px 64 t.rT y t.rM 0=false)(hb1:Below w.heap.size w w1)(hR:Ring.RingAt w3 P.r P.rm 64 (RM.pT 64 t.rT y t.rM 0) (RM.pM 64 t.rT y t.rM 0 p))(ho3:Only [P.r,P.rm] w1 w3) :
 A1h w3 P (t.keep y p wy)/\Only [P.r,P.rm,P.wm] w w3:=by
 have ae:A1h w1 P t:=h.only (Only.of_below hb1 []) (Nob.nil _) (by simp);obtain⟨e1,e2,e3,e4⟩:=ae.ring ho3;unfold RM.pT RM.pM at hR;rw[if_neg (by simp[hx]),if_neg (by simp[hx])]at hR;rw[Tr.A74 hx];exact⟨⟨e1.trans ae.box,e2,h.kno,e3,hR,e4,h.ap,h.kap⟩,(Only.of_below hb1 _).trans (ho3.mono (by intro k hk;simp only[Ξf,List.not_mem_nil,or_false]at hk ⊢;rcases hk with hk|hk<;>simp[hk]))⟩
theorem ξ27(P:TP)(t:Tr)(y s tt l q:Int)(st:Bool)(a:Option Addr)(m cap:Nat)(L:List Nat)(o h:Int)(w:World)(hT:A1h w P t)(hI:RM.Inv 64 t.rT t.rM)(hA:Arg w a m L)(hN:a=none->m=0/\cap=0)(hf:PM.fault s tt l q m=0)(hF:∀ad,a=some ad->0<m->ad.block∉[P.r,P.rm,P.wm]) :
 Calls prog 123 #[.pointer (some ⟨P.p,0,none⟩),.int .i64 y,.agg #[.int .i64 s,.int .i64 tt,.int .i64 l,.int .i64 q,.bool st,.slice a m cap],.agg #[.int .i64 o,.int .i64 h]] w λe w'=>e=.returned (.tuple #[])/\A1h w' P (t.keep y ⟨s,tt,l,q,st,L,.slice a m cap⟩ (o,h))/\Only [P.r,P.rm,P.wm] w w':=by
 obtain⟨W0,aj⟩:=nm ((w.alloc (.cells #[.int .i64 s,.int .i64 tt,.int .i64 l,.int .i64 q,.bool st,.slice a m cap] 38)).alloc (.cells #[.int .i64 o,.int .i64 h] 177));have az:Below w.heap.size w W0:=by rw[<-aj];exact A4k w _ _
 have aA:W0.heap[w.heap.size]?=some (.cells #[.int .i64 s,.int .i64 tt,.int .i64 l,.int .i64 q,.bool st,.slice a m cap] 38 (0,0)):=by
  rw[<-aj];exact(Below.heap_alloc _ _ _ (by simp)).trans (heap_alloc_new w _)
 have aJ:W0.heap[w.heap.size+1]?=some (.cells #[.int .i64 o,.int .i64 h] 177 (0,0)):=by
  rw[<-aj];have:=heap_alloc_new (w.alloc (.cells #[.int .i64 s,.int .i64 tt,.int .i64 l,.int .i64 q,.bool st,.slice a m cap] 38)) (.cells #[.int .i64 o,.int .i64 h] 177);simpa using this
 have ai:A1h W0 P t:=hT.only (Only.of_below az []) (Nob.nil _) (by simp);have CP:=Ring.ξaZ P.r P.rm 64 t.rT y s tt l q st a m cap L t.rM W0.drew (ai.rng.below ((Ξp _ _).drew)) hI ((hA.below az).below ((Ξp _ _).drew)) hN;rw[hf]at CP;have CP:=ξ0 CP;obtain⟨pb,am⟩:=nm w.heap.size;obtain⟨k5,aC⟩:=nm P.r;have p5:∀W:World,W.heap[P.p]?=W0.heap[P.p]?->W.cell? ⟨P.p,5,none⟩=some (.pointer (some ⟨P.r,0,none⟩))/\W.cell? ⟨P.p,6,none⟩=some (.map (some P.wm)):=by
  intro W e;have:=e.trans ai.box;constructor<;>simp[World.cell?,this]
 have q6:∀W:World,W.heap[pb]?=W0.heap[pb]?->W.cell? ⟨pb,0,none⟩=some (.int .i64 s)/\W.cell? ⟨pb,1,none⟩=some (.int .i64 tt)/\W.cell? ⟨pb,2,none⟩=some (.int .i64 l)/\W.cell? ⟨pb,3,none⟩=some (.int .i64 q)/\W.cell? ⟨pb,4,none⟩=some (.bool st)/\W.cell? ⟨pb,5,none⟩=some (.slice a m cap):=by
  intro W e;rw[am]at aA;have:=e.trans aA;refine⟨?_,?_,?_,?_,?_,?_⟩<;>simp[World.cell?,this]
 have q2:∀W:World,W.heap[pb+1]?=W0.heap[pb+1]?->W.cell? ⟨pb+1,0,none⟩=some (.int .i64 o)/\W.cell? ⟨pb+1,1,none⟩=some (.int .i64 h):=by
  intro W e;rw[am]at aJ;have:=e.trans aJ;constructor<;>simp[World.cell?,this]
 have bh:=ξ0 p5;have bZ:=ξ0 q6;have bN:=ξ0 q2;obtain⟨c5,c6⟩:=p5 W0.drew rfl;obtain⟨d0,d1,d2,d3,d4,d5⟩:=q6 W0.drew rfl;obtain⟨pp,aq⟩:=nm P.p
 -- behind Put
 have HF:Hid (Calls prog 159 #[.pointer (some ⟨P.r,0,none⟩),.int .i64 y,.agg #[.int .i64 s,.int .i64 tt,.int .i64 l,.int .i64 q,.bool st,.slice a m cap]] W0.drew λe w'=>e=.returned (.tuple #[.bool (RM.px 64 t.rT y t.rM 0),A0a (RM.pf 64 t.rT y 0)]) /\
  (w'.cell? ⟨P.p,5,none⟩=some (.pointer (some ⟨P.r,0,none⟩))/\w'.cell? ⟨pb,0,none⟩=some (.int .i64 s)/\w'.cell? ⟨pb,1,none⟩=some (.int .i64 tt)/\w'.cell? ⟨pb,2,none⟩=some (.int .i64 l)/\w'.cell? ⟨pb,3,none⟩=some (.int .i64 q)/\w'.cell? ⟨pb,4,none⟩=some (.bool st)/\w'.cell? ⟨pb,5,none⟩=some (.slice a m cap)) /\
  Hid (Ring.RingAt w' P.r P.rm 64 (RM.pT 64 t.rT y t.rM 0) (RM.pM 64 t.rT y t.rM 0 ⟨s,tt,l,q,st,L,.slice a m cap⟩)/\Only [P.r,P.rm] W0 w')):=by
  refine ξ0 (CP.out.mono ?_);rintro e w' ⟨rfl,g1,g2⟩;have sR:=ai.sepR;have e1:w'.heap[P.p]?=W0.heap[P.p]?:=g2.2.2.2.2 _ (lt_of_block ai.box) (by have:=sR P.p (by simp);simpa using this);have e2:w'.heap[pb]?=W0.heap[pb]?:=g2.2.2.2.2 _ (by rw[<-am];exact lt_of_block aA) (by
   have:=hT.lt P.r (by simp[A0x]);have:=hT.lt P.rm (by simp[A0x]);simp;omega)
  exact⟨rfl,⟨(p5 w' e1).1,q6 w' e2⟩,g1,g2⟩
 have HT:=ξ0 hT;have aL:=ξ0 ai;have bi:=ξ0 az;have HI:=ξ0 hI;have HA:=ξ0 hA;have HW:=ξ0 aj;have bj:=ξ0 am;have bO:W0.drew.cell? ⟨pp,5,none⟩=some (.pointer (some ⟨k5,0,none⟩))/\W0.drew.cell? ⟨pb,0,none⟩=some (.int .i64 s)/\W0.drew.cell? ⟨pb,1,none⟩=some (.int .i64 tt)/\W0.drew.cell? ⟨pb,2,none⟩=some (.int .i64 l)/\W0.drew.cell? ⟨pb,3,none⟩=some (.int .i64 q)/\W0.drew.cell? ⟨pb,4,none⟩=some (.bool st)/\W0.drew.cell? ⟨pb,5,none⟩=some (.slice a m cap):=⟨by rw[<-aq,<-aC];exact c5,d0,d1,d2,d3,d4,d5⟩;rw[aq,aC]at HF;have bq:=ξ0 aq;have ah:=ξ0 aC;obtain⟨bx,ae⟩:=nm (RM.px 64 t.rT y t.rM 0);obtain⟨pf,aD⟩:=nm (RM.pf 64 t.rT y 0);rw[ae,aD]at HF;rw[aq];have au:bx=true->pf=0:=λe=>by rw[e]at ae;rw[<-aD];exact(RM.ξ57 ae).1
 have aw:=ξ0 ae;have cf:=ξ0 aD;have bP:=ξ0 au;have cj:=ξ0 hf;have bu:=ξ0 hT.lt;clear hT ai az hI hA hN hf hF aj aA aJ CP p5 q6 q2 c5 c6 d0 d1 d2 d3 d4 d5 aq aC ae aD au;go_enter func123,ntmps123;go_upto_region 1 with fail
 rw[HW.out];clear am;go_region_held3 (λw'=>w'.cell? ⟨pp,5,none⟩=some (.pointer (some ⟨k5,0,none⟩))/\w'.cell? ⟨pb,0,none⟩=some (.int .i64 s)/\w'.cell? ⟨pb,1,none⟩=some (.int .i64 tt)/\w'.cell? ⟨pb,2,none⟩=some (.int .i64 l)/\w'.cell? ⟨pb,3,none⟩=some (.int .i64 q)/\w'.cell? ⟨pb,4,none⟩=some (.bool st)/\w'.cell? ⟨pb,5,none⟩=some (.slice a m cap)) (with_reducible assumption) (first|(go_at_call 159;refine HF.out.mono ?_;rintro e w3 ⟨rfl,bQ,aE⟩));clear bQ bO HF;have q1:=ξq pf;have q2:=ξp pf;cases bx with
 | false=>
   have HD:=ξ0 (ξbA (p:=⟨s,tt,l,q,st,L,.slice a m cap⟩) (wy:=(o,h)) HT.out aw.out bi.out (by rw[ah.out];exact aE.out.1) (by rw[ah.out];exact aE.out.2));by_cases hp0:pf=0
   ·have d0:decide (pf=0)=true:=by simpa using hp0
    clear hp0;go_wp2_with fail
    (try simp only[Exit.inBlock,Exit.then])
    refine bodyPost_ret (results_none rfl _ _ _) rfl ?_;exact⟨rfl,HD.out⟩
   ·have d0:decide (pf=0)=false:=by simpa using hp0
    clear hp0;go_wp2_with fail
    (try simp only[Exit.inBlock,Exit.then])
    refine bodyPost_ret (results_none rfl _ _ _) rfl ?_;exact⟨rfl,HD.out⟩
 | true=>
   have d0:decide (pf=0)=true:=by simpa using bP.out rfl
   obtain⟨aF,ax⟩:=aE.out;obtain⟨z1,z2⟩:=RM.ξ57 aw.out;obtain⟨z3,z4,_,z5⟩:=RM.ξ1B z1;have e3:=aL.out.ring (w':=w3) (by rw[ah.out];exact ax);obtain⟨aM,_,_,D,aG,bz,b9⟩:=e3;have aO:t.rM.length<=64:=by have:=HI.out.len;omega
   obtain⟨w4,ay,⟨D2,g1,g2,g3⟩,aP⟩:=ξaI (w:=w3.drew) (y:=y) (p:=⟨s,tt,l,q,st,L,.slice a m cap⟩) (wy:=(o,h)) aG bz b9 HI.out.one (by omega) z2 (ξJ (by omega) (by omega));have bA:Hid (Only [P.wm] w3 w4):=ξ0 aP;obtain⟨bB,aQ⟩:=bh.out w3.drew aM;rw[bq.out]at bB aQ;have bR:=bu.out P.r (by simp[A0x]);have bS:=bu.out P.rm (by simp[A0x]);have bC:pb+1<W0.heap.size:=by rw[<-bj.out,<-HW.out];simp
   have bD:w3.heap[pb+1]?=W0.heap[pb+1]?:=ax.2.2.2.2 _ bC (by rw[<-bj.out,<-ah.out];simp;omega);obtain⟨y0,y1⟩:=bN.out w3.drew bD;have sW:=aL.out.sepW;have aS:w4.heap[P.p]?=W0.heap[P.p]?:=(aP.2.2.2.2 P.p (by have:=lt_of_block aL.out.box;have:=ax.2.2.2.1;show P.p<w3.heap.size;omega) (by simpa using sW P.p (by simp))).trans aM;obtain⟨x5,x6⟩:=bh.out w4 aS;rw[bq.out]at x5 x6;rw[ah.out]at x5;have bE:RM.pT 64 t.rT y t.rM 0=RM.top t.rT y:=by unfold RM.pT;rw[if_pos aw.out]
   have bF:RM.pM 64 t.rT y t.rM 0 ⟨s,tt,l,q,st,L,.slice a m cap⟩=RM.keeps 64 (RM.top t.rT y) t.rM++[(y,⟨s,tt,l,q,st,L,.slice a m cap⟩)]:=by unfold RM.pM;rw[if_pos aw.out]
   rw[bE,bF]at aF;have bG:=RM.ξ2b HI.out ⟨s,tt,l,q,st,L,.slice a m cap⟩ z3 z4 z5 z2;have bH:Ring.RingAt w4 P.r P.rm 64 (RM.top t.rT y) (RM.keeps 64 (RM.top t.rT y) t.rM++[(y,⟨s,tt,l,q,st,L,.slice a m cap⟩)]):=by
    have aT:Ring.RingAt w3 P.r P.rm 64 (RM.top t.rT y) (RM.keeps 64 (RM.top t.rT y) t.rM++[(y,⟨s,tt,l,q,st,L,.slice a m cap⟩)]):=by rw[ah.out];exact aF
    refine aT.only bA.out (by simpa using sW P.r (by simp)) (by simpa using sW P.rm (by simp)) ?_;intro k hk cs fr;simp only[Ξg]at hk;subst hk;obtain⟨es,c,bT⟩:=RM.ξd aG;rw[bT];simp
   have CL:=ξ0 (Ring.ξbv P.r P.rm 64 _ _ w4 bH bG);rw[ah.out]at CL;have aU:=ξ0 aF;have bU:=ξ0 ax;have aV:=ξ0 (And.intro g1 (And.intro g2 g3));have HZ:=ξ0 (And.intro z3 (And.intro z4 (And.intro z5 z2)));have bV:=ξ0 aG;have cu:=ξ0 aS;obtain⟨lw,aW⟩:=nm (RM.low (RM.top t.rT y) (RM.keeps 64 (RM.top t.rT y) t.rM++[(y,⟨s,tt,l,q,st,L,.slice a m cap⟩)]));rw[aW]at CL;have bW:=ξ0 aW;obtain⟨wm,aX⟩:=nm P.wm;rw[aX]at ay aQ x6;have aY:=ξ0 aX;clear aE aF ax z1 z2 z3 z4 z5 aM aG bz b9 aO g1 g2 g3 aP bB bR bS bC bD sW aS bE bF bG bH aW aX;go_upto_region 3 with fail;go_region
   go_wp2_with fail
   refine CL.out.mono ?_;rintro e w5 ⟨rfl,aZ⟩;obtain⟨w6,aH⟩:=nm (w5.alloc (.cells #[.int .i64 lw] 3));have aI:Below w4.heap.size w4 w6:=by rw[<-aH];exact aZ.alloc aZ.size _
   have cw:w6.cell? ⟨pp,6,none⟩=some (.map (some wm)):=ξc aI x6;have cg:w6.cell? ⟨w5.heap.size,0,none⟩=some (.int .i64 lw):=by rw[<-aH];simp
   have bI:(t.rM++[(y,(⟨s,tt,l,q,st,L,.slice a m cap⟩:RM.Pk))]).Pairwise λa b=>a.1≠b.1:=by
    rw[List.pairwise_append];refine⟨HI.out.one,by simp,?_⟩;intro i hi b hb;simp only[Ξg]at hb;subst hb;exact RM.ξ13 HZ.out.2.2.2 i hi
   have bJ:w6.ownsMap prog 3 GM.akR P.wm (t.rM++[(y,(⟨s,tt,l,q,st,L,.slice a m cap⟩:RM.Pk))]).length D2:=ξP aV.out.1 (Only.of_below aI []) (by simp);have CD:=ξ0 (ξad P.wm w5.heap.size _ _ lw D2 w6 bJ aV.out.2.1 aV.out.2.2 bI cg);rw[aY.out]at CD;have bX:=ξ0 aI;have bY:=ξ0 aH;obtain⟨gb,bK⟩:=nm w5.heap.size;rw[bK]at CD cg;clear aZ aI aH bI bJ x5 x6 aQ y0 y1 ay CL;go_upto_region 5 with fail
   first|rw[bY.out]|skip
   clear bK;go_wp2_with fail;refine CD.out.mono ?_;rintro e w7 ⟨rfl,⟨D7,k1,k2,k3⟩,bM⟩;have HD:=ξ0 (ξbz (w4:=w4) (w5:=w6) (wy:=(o,h)) (K:=(t.rM++[(y,(⟨s,tt,l,q,st,L,.slice a m cap⟩:RM.Pk))]).filter λi=>decide (lw<=i.1)) HT.out HI.out aw.out bi.out (by rw[ah.out];exact aU.out) (by rw[ah.out];exact bU.out) bA.out bX.out (by rw[<-bW.out];exact ξbu HI.out HZ.out.1 HZ.out.2.1 HZ.out.2.2.1 HZ.out.2.2.2) (by rw[aY.out];exact⟨k1,k2,k3⟩) (by rw[aY.out];exact bM));clear k1 k2 k3 bM;go_wp2_with fail
   first|go_end0|go_ret
   exact⟨rfl,HD.out⟩
end Go.Proofs.YtpiamlgmadnepaaGreat.ND
