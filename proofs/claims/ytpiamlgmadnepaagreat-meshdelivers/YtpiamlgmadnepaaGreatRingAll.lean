/-
 What the proof needs.
-/
import Derived.Test.YtpiamlgmadnepaaGreatPackAll
import Derived.Outline
open Go.Proofs.Tryz
set_option linter.unusedVariables false
set_option maxHeartbeats 4000000
set_option maxRecDepth 100000
namespace Go.Proofs.YtpiamlgmadnepaaGreat.Ring
open ChangeShapes WideShapes ChangeAt RowKit Maps PM Mem Pack RM
variable {y n T x:Int}{w w' W wr w1:World}{b mb g cnt it cnt1 m:Nat}{M:Its}{bs L:List Nat}{z0 z1 z2 z3 z4 z5:Value}{t:TypeId}{left:Lit->Bool}{a:Option Addr}
theorem A09:Keyed prog 3:=int_keyed underlying3
theorem A05(h:(Lit.int .i64 y).wf=true):keyOf prog 3 (.int .i64 y)=some (key y):=keyOf_int_mk underlying3 h
theorem A88(w:World):(zeroValue 38).run prog w=.ok (.agg #[.int .i64 0,.int .i64 0,.int .i64 0,.int .i64 0,.bool false,.slice none 0 0]) w:=by kernel_rfl
theorem ξJ(h0:-9223372036854775808<=y)(h1:y<=9223372036854775807):(Lit.int .i64 y).wf=true:=WalkArith.wf_i64 (by omega)
def RingAt(w:World)(b mb:Nat)(n T:Int)(M:Its):Prop:=
 w.heap[b]?=some (.cells #[.int .i64 n,.int .i64 T,.map (some mb)] 270 (0,0))/\∃D,w.ownsMap prog 3 pkR mb M.length D/\Keys D M/\A1g w D M
theorem RingAt.cells(h:RingAt w b mb n T M) :
 w.cell? ⟨b,0,none⟩=some (.int .i64 n)/\w.cell? ⟨b,1,none⟩=some (.int .i64 T)/\w.cell? ⟨b,2,none⟩=some (.map (some mb)):=by
 have:=h.1;refine⟨?_,?_,?_⟩<;>simp[World.cell?,this]
theorem RingAt.free(h:RingAt w b mb n T M)(j:Nat):w.frozen? ⟨b,j,none⟩=false:=by
 have:=h.1;simp[World.frozen?,this]
theorem RingAt.lt(h:RingAt w b mb n T M):b<w.heap.size/\mb<w.heap.size:=by
 obtain⟨h1,D,h2,_⟩:=h;exact⟨lt_of_block h1,h2.lt⟩
theorem RingAt.ne(h:RingAt w b mb n T M):b≠mb:=by
 obtain⟨h1,D,h2,_⟩:=h;obtain⟨es,c,h3⟩:=ξd h2;intro e;rw[e,h3]at h1;simp at h1
theorem RingAt.nob(h:RingAt w b mb n T M):∀k∈[b,mb],∀cs fr,w.heap[k]?≠some (.cells cs 5 fr):=by
 obtain⟨h1,D,h2,_⟩:=h;obtain⟨es,c,h3⟩:=ξd h2;intro k hk cs fr e;simp only[Ξf,List.not_mem_nil,or_false]at hk;rcases hk with rfl|rfl
 ·rw[h1]at e;simp at e
 ·rw[h3]at e;simp at e
theorem RingAt.only(h:RingAt w b mb n T M)(ho:Only bs w w')(h1:b∉bs)(h2:mb∉bs)(hb:∀k∈bs,∀cs fr,w.heap[k]?≠some (.cells cs 5 fr)):RingAt w' b mb n T M:=by
 obtain⟨h3,D,⟨es,ae,h4,h5⟩,h6,h7⟩:=h;exact⟨ho.block h3 h1,D,⟨es,ae,ho.block h4 h2,h5⟩,h6,h7.only ho hb⟩
theorem RingAt.below(h:RingAt w b mb n T M)(hb:Below w.heap.size w w'):RingAt w' b mb n T M:=
 h.only (Only.of_below hb []) (by simp) (by simp) (by simp)
theorem ξ1m(b:Nat)(n T y:Int)(w:World)(h0:w.cell? ⟨b,0,none⟩=some (.int .i64 n))(h1:w.cell? ⟨b,1,none⟩=some (.int .i64 T))(hT0:-1<=T)(hT1:T<=1099511627776)(hy0:0<=y)(hy1:y<=1099511627776) :
 Calls prog 192 #[.pointer (some ⟨b,0,none⟩),.int .i64 y] w λe w'=>e=.returned (.bool (decide (n<=T-y)))/\∃k,w'=w.drewN k:=by
 go_enter func192,ntmps192;go_wp2_with fail
 go_quiet (fail)
 go_wp2_with fail
 go_ret;exact⟨rfl,_,rfl⟩
theorem ξ12(n:Int)(w:World)(h0:1<=n)(h1:n<=64) :
 Calls prog 147 #[.int .i64 n] w λe w'=>∃b mb,e=.returned (.tuple #[.pointer (some ⟨b,0,none⟩),.nilIface])/\w.heap.size<=b/\w.heap.size<=mb/\RingAt w' b mb n (-1) []/\Below w.heap.size w w':=by
 have ae:=@run_makeMap prog;go_enter func147,ntmps147;go_wp2_with fail
 go_ret2;refine⟨_,_,rfl,Nat.le_succ _,Ξo _,⟨?_,.map [],?_,ξ1b,λi hi=>by simp at hi⟩,((Ξp _ _).alloc (Ξo _) _).alloc (by simp) _⟩
 ·have:=heap_alloc_new (w.alloc (.map #[] 0)) (.cells #[.int .i64 n,.int .i64 (-1),.map (some w.heap.size)] 270);simpa using this
 ·exact(World.ownsMap_made w _ _ _).alloc _
theorem A8j(hh:W.heap[g]?=some (.cells #[z0,z1,z2,z3,z4,z5] 38 (0,0)))(s t l v:Int)(st:Bool)(bv:Value) :
 Box ((((((W.setCell ⟨g,0,none⟩ (.int .i64 s)).setCell ⟨g,1,none⟩ (.int .i64 t)).setCell ⟨g,2,none⟩ (.int .i64 l)).setCell ⟨g,3,none⟩ (.int .i64 v)).setCell ⟨g,4,none⟩ (.bool st)).setCell ⟨g,5,none⟩ bv) g s t l v st bv:=by
 have h0:=heap_setCell_same _ _ 0 _ _ (.int .i64 s) hh;have h1:=heap_setCell_same _ _ 1 _ _ (.int .i64 t) h0;have h2:=heap_setCell_same _ _ 2 _ _ (.int .i64 l) h1;have h3:=heap_setCell_same _ _ 3 _ _ (.int .i64 v) h2;have h4:=heap_setCell_same _ _ 4 _ _ (.bool st) h3;have h5:=heap_setCell_same _ _ 5 _ _ bv h4;exact h5
theorem A6a(h:Only bs w W)(hg:g∈bs)(v0 v1 v2 v3 v4 v5:Value) :
 Only bs w ((((((W.setCell ⟨g,0,none⟩ v0).setCell ⟨g,1,none⟩ v1).setCell ⟨g,2,none⟩ v2).setCell ⟨g,3,none⟩ v3).setCell ⟨g,4,none⟩ v4).setCell ⟨g,5,none⟩ v5):=
 (((((h.setCell hg _).setCell hg _).setCell hg _).setCell hg _).setCell hg _).setCell hg _
theorem A6b(hh:W.heap[g]?=some (.cells #[z0,z1,z2,z3,z4,z5] 38 (0,0))):Pack.Open W g z0 z1 z2 z3 z4 z5:=by
 simp[Pack.Open,World.cell?,World.frozen?,hh]
theorem ξ1X(s t l q:Int)(st:Bool)(a:Option Addr)(m cap:Nat)(L:List Nat)(w:World)(h:Arg w a m L)(hn:a=none->m=0/\cap=0)(hm:m<=1000) :
 Calls prog 194 #[.agg #[.int .i64 s,.int .i64 t,.int .i64 l,.int .i64 q,.bool st,.slice a m cap]] w λe w'=>∃a' c',e=.returned (.agg #[.int .i64 s,.int .i64 t,.int .i64 l,.int .i64 q,.bool st,.slice a' m c']) /\
  w'.ownsRow 0 5 1 (.slice a' m c') m (cellsOf L)/\Below w.heap.size w w':=by
 obtain⟨i0,am,aq,au,aw⟩:=info_parts info5;have hl:∀x∈L,x<256:=h.1.1;have HA:=ξ0 h;have HN:=ξ0 hn;have HL:=ξ0 hl;have hw:∀O1 O2,Below w.heap.size w ((w.alloc O1).alloc O2):=λO1 O2=>((Ξp _ _).alloc (Ξo _) _).alloc (by simp) _;have HW:=ξ0 hw;clear h hn hl hw;go_enter func194,ntmps194;go_wp2_with (at_builtin;refine ξ1N rfl _ _ 36 rfl (w.heap.size+2) 5 i0 (.int .u8 0) 1 1 underlying36 am aq au aw rfl (by decide) _ 0 [] rfl (Ξr _ _ _ _) a m cap (cellsOf L) rfl ?al HN.out ?ac (cells_one L) ?b1 ?b2 ?b3 ?next)
 case al=>rw[ξw,HA.out.2.1];omega
 case ac=>exact ξz (HA.out.1.below (HW.out _ _))
 case b1=>unfold maxLen;omega
 case b2=>omega
 case b3=>simp
 case next=>
  intro v1 w1 ah ae;have hx:w1.heap[w.heap.size]?=some (.cells #[.int .i64 s,.int .i64 t,.int .i64 l,.int .i64 q,.bool st,.slice a m cap] 38 (0,0)):=
   (ae.block _ (by simp;omega) (by simp[Value.ownBlock])).trans ((Below.heap_alloc _ _ _ (by simp)).trans (heap_alloc_new w _))
  have hy:w1.heap[w.heap.size+1]?=some (.cells #[.int .i64 0,.int .i64 0,.int .i64 0,.int .i64 0,.bool false,.slice none 0 0] 38 (0,0)):=by
   refine(ae.block _ (by simp) (by simp[Value.ownBlock])).trans ?_;have:=heap_alloc_new (w.alloc (.cells #[.int .i64 s,.int .i64 t,.int .i64 l,.int .i64 q,.bool st,.slice a m cap] 38)) (.cells #[.int .i64 0,.int .i64 0,.int .i64 0,.int .i64 0,.bool false,.slice none 0 0] 38);simpa using this
  have aj:Hid (Below w.heap.size w w1):=(HW.out _ _).grown ae (by simp;omega) (by simp[Value.ownBlock]);obtain⟨a',c',rfl,_,_,_,ai⟩:=ξy (L:=L) ah HL.out (by omega);have HO:Hid (w1.ownsRow (w.heap.size+2) 5 1 (.slice a' m c') m (cellsOf L)):=ah;have HX:=ξ0 hx;have HY:=ξ0 hy;have HF:=ξ0 ai;clear ah ae ai hx hy;obtain⟨⟨c0,c1,c2,c3,c4,c5⟩,f0,f1,f2,f3,f4,f5⟩:=A6b HX.out;obtain⟨⟨d0,d1,d2,d3,d4,d5⟩,g0,g1,g2,g3,g4,g5⟩:=A6b HY.out;go_wp2_with fail;have hz:(w1.setCell ⟨w.heap.size,5,none⟩ (.slice a' m c')).heap[w.heap.size+1]?=some (.cells #[.int .i64 0,.int .i64 0,.int .i64 0,.int .i64 0,.bool false,.slice none 0 0] 38 (0,0)):=(Below.heap_setCell _ _ _ _ (by simp)).trans HY.out;have ho:Only [w.heap.size,w.heap.size+1] w1 _:=A6a (g:=w.heap.size+1) ((Only.refl _ w1).setCell (p:=⟨w.heap.size,5,none⟩) (by simp) (.slice a' m c')) (by simp) (.int .i64 s) (.int .i64 t) (.int .i64 l) (.int .i64 q) (.bool st) (.slice a' m c');refine bodyPost_ret (ξ56 (g:=w.heap.size+1) rfl rfl (A8j hz s t l q st _)) rfl ?_;refine⟨a',c',rfl,ξv (ho.owns HO.out ?_) (Nat.zero_le _),aj.out.trans (ho.below aj.out.size (by simp))⟩;intro k hk hc;cases a' with
  | none=>simp[Value.ownBlock]at hk
  | some ad=>
    obtain⟨g,rfl,hg⟩:=HF.out ad rfl;simp[Value.ownBlock]at hk;simp at hc;omega
theorem ξ35(h:RingAt w b mb n T M){i:Int×Pk}(hi:i∈M)(hw:(Lit.int .i64 i.1).wf=true) :
 ∃a m c,(Instr.lookup 268 (.map (some mb)) (.int .i64 i.1) true).run prog w=.ok (.tuple #[.agg #[.int .i64 i.2.s,.int .i64 i.2.t,.int .i64 i.2.l,.int .i64 i.2.q,.bool i.2.st,.slice a m c],.bool true]) w /\
  w.ownsRow 0 5 1 (.slice a m c) m (cellsOf i.2.L)/\(∀x∈i.2.L,x<256)/\m<=1000:=by
 obtain⟨_,D,ah,hK,hE⟩:=h;obtain⟨v,hv,a,m,c,rfl,h1,h2,h3⟩:=hE i hi;obtain⟨v',ps,ae,hr⟩:=ah.look_ok A09 underlying268 (A88 w) (ξ6S 0 0 0 0 false none 0 0) (A05 hw);rw[hv]at hr;have e:=(ξ8t hr).2;simp only[Prod.mk.injEq,DataW.held.injEq]at e;rw[(hK (key i.1)).2 ⟨i,hi,rfl⟩,<-e.1]at ae;exact⟨a,m,c,ae,h1,h2,h3⟩
theorem ξ5N(h:RingAt w b mb n T M)(hn:has M y=false)(hw:(Lit.int .i64 y).wf=true) :
 (Instr.lookup 268 (.map (some mb)) (.int .i64 y) true).run prog w=.ok (.tuple #[.agg #[.int .i64 0,.int .i64 0,.int .i64 0,.int .i64 0,.bool false,.slice none 0 0],.bool false]) w:=by
 obtain⟨_,D,ah,hK,hE⟩:=h;obtain⟨v',ps,ae,hr⟩:=ah.look_ok A09 underlying268 (A88 w) (ξ6S 0 0 0 0 false none 0 0) (A05 hw);have hh:Maps.has D (key y)=false:=by rw[hK.at];exact hn
 rw[atKey_of_not_has hh]at hr;have e:=(ξ8t hr).2;simp only[Prod.mk.injEq,DataW.held.injEq]at e;rw[hh,<-e.1]at ae;exact ae
def RSt(w wr:World)(b mb it:Nat)(n y:Int)(M:Its)(D:DataW Value)(left:Lit->Bool)(cnt:Nat):Prop:=
 wr.ranges prog 3 pkR mb it M.length D left cnt/\Keys D (cur M (λx=>decide (y-n<x)) left)/\A1g wr D (cur M (λx=>decide (y-n<x)) left) /\
  wr.heap[b]?=some (.cells #[.int .i64 n,.int .i64 y,.map (some mb)] 270 (0,0))/\Only [b,mb] w wr/\w.heap.size<=it/\b<w.heap.size/\mb<w.heap.size/\b≠mb
theorem cells3{x y z:Value}(h:w.heap[b]?=some (.cells #[x,y,z] t (0,0))) :
 w.cell? ⟨b,0,none⟩=some x/\w.cell? ⟨b,1,none⟩=some y/\w.cell? ⟨b,2,none⟩=some z:=by
 refine⟨?_,?_,?_⟩<;>simp[World.cell?,h]
theorem set3{cs:Array Value}(h:w.heap[b]?=some (.cells cs t (0,0)))(j:Nat)(u:Value) :
 (w.setCell ⟨b,j,none⟩ u).heap[b]?=some (.cells (cs.setIfInBounds j u) t (0,0)):=by
 exact heap_setCell_same w b j cs t u h
theorem ξ4K{P:Program}{k:TypeId}{R:Value->Option (DataW Value×List MemPlace)}{r n:Nat}{D:DataW Value}(h:w.ranges P k R b r n D left cnt):∀cs t fr,w.heap[r]?≠some (.cells cs t fr):=by
 obtain⟨es,ae,ah,ai,c0,_,_,_,_,hr,_⟩:=h;intro cs t fr e;rw[hr]at e;simp at e
theorem past{cs:List Nat}{a b c:World}(h:Only bs a b)(k:Only cs b c)(hc:∀j∈cs,j∈bs∨a.heap.size<=j):Only bs a c:=
 ⟨k.1.trans h.1,k.2.1.trans h.2.1,k.2.2.1.trans h.2.2.1,Nat.le_trans h.2.2.2.1 k.2.2.2.1,λi hi hb=>(k.2.2.2.2 i (Ξn hi h.2.2.2.1) (λhh=>by
  rcases hc i hh with h1|h1
  ·exact hb h1
  ·omega)).trans (h.2.2.2.2 i hi hb)⟩
theorem ξaQ{D:DataW Value}(h:RSt w wr b mb it n y M D left cnt)(hx:¬n<=y-x)(hg:wr.grownBy w1 (some it))
 (hr:w1.ranges prog 3 pkR mb it M.length D (λz=>left z&&!z.sameKey (key x)) cnt1):RSt w w1 b mb it n y M D (λz=>left z&&!z.sameKey (key x)) cnt1:=by
 obtain⟨g1,g2,g3,g4,g5,g6,g7,g8,g9⟩:=h;have ho:Only [it] wr w1:=(Only.refl _ _).grown hg (by simp);have e:=ξ5X (M:=M) (kp:=λx=>decide (y-n<x)) (left:=left) (x:=x) (by simp;omega);refine⟨hr,by rw[e];exact g2,by rw[e];exact g3.only ho (λk hk cs fr=>by simp at hk;subst hk;exact ξ4K g1 cs 5 fr),ho.block g4 (by simp;omega),past g5 ho (λj hj=>?_),g6,g7,g8,g9⟩;simp at hj;subst hj;exact .inr g6
theorem ξcL{w2:World}{D:DataW Value}(h:RSt w wr b mb it n y M D left cnt)(hx:n<=y-x)(hg:wr.grownBy w1 (some it))(ht:w1.mapTurned w2 mb)
 (hr:w2.ranges prog 3 pkR mb it M.length (D.del (key x)) (λz=>left z&&!z.sameKey (key x)) cnt1):RSt w w2 b mb it n y M (D.del (key x)) (λz=>left z&&!z.sameKey (key x)) cnt1:=by
 obtain⟨g1,g2,g3,g4,g5,g6,g7,g8,g9⟩:=h;have ho:Only [it,mb] wr w2:=((Only.refl _ _).grown hg (by simp)).grown ht.grown (by simp);obtain⟨es,c,hm⟩:=ξd g1.owns;have hk:(λx=>decide (y-n<x)) x=false:=by simp;omega
 refine⟨hr,ξ3Z hk g2,ξ7p hk (g3.only ho (λk hk cs fr=>?_)),ho.block g4 (by simp;omega),past g5 ho (λj hj=>?_),g6,g7,g8,g9⟩
 ·simp at hk;rcases hk with rfl|rfl
  ·exact ξ4K g1 cs 5 fr
  ·rw[hm];simp
 ·simp at hj;rcases hj with rfl|rfl
  ·exact .inr g6
  ·exact .inl (by simp)
theorem ξ2V(b mb:Nat)(n T y:Int)(M:Its)(w:World)(h:RingAt w b mb n T M)(hI:RM.Inv n T M)(hy:T<y)(hy1:y<=1099511627776) :
 Calls prog 193 #[.pointer (some ⟨b,0,none⟩),.int .i64 y] w λe w'=>e=.returned (.tuple #[])/\RingAt w' b mb n y (keeps n y M)/\Only [b,mb] w w':=by
 obtain⟨c0,c1,c2⟩:=h.cells;have f1:=h.free 1;have aH:=h.ne;have az:=h.lt;have am:=h.nob;obtain⟨hB,D,aq,hK,hE⟩:=h;have HO:=ξ0 (aq.setCell (a:=⟨b,1,none⟩) (λe=>aH e.symm) (.int .i64 y));have HB:=ξ0 hB;have HK:=ξ0 hK;have HE:=ξ0 hE;have HI:=ξ0 hI;have aL:=ξ0 am;have aM:=hI.n2;have aW:=hI.n1;have aX:=hI.t1;clear hB aq hK hE hI am;go_enter func193,ntmps193;go_wp2_with (at_range;refine wpList_range_own _ rfl _ 268 rfl 3 38 A09 underlying268 _ mb M.length D rfl HO.out ?_;intro w0 au aA aO)
 go_frame
 have hs:(w.setCell ⟨b,1,none⟩ (.int .i64 y)).heap.size=w.heap.size:=by simp[World.setCell]
 have aI:Hid (RSt w w0 b mb (w.setCell ⟨b,1,none⟩ (.int .i64 y)).heap.size n y M D (Maps.has D) (Maps.size D)):=by
  have ho:Only [b,mb] w w0:=((Only.refl [b,mb] w).setCell (p:=⟨b,1,none⟩) (by simp) (.int .i64 y)).grown aA (by simp);refine⟨au,?_,?_,?_,ho,by rw[hs];exact Ξo _,az.1,az.2,aH⟩
  ·rw[ξ2t HK.out];exact HK.out
  ·rw[ξ2t HK.out];exact HE.out.only ho aL.out
  ·exact(aA.block b (by rw[hs];exact az.1) (by simp)).trans (set3 HB.out 1 _)
 generalize (w.setCell ⟨b,1,none⟩ (.int .i64 y)).heap.size=it at *;clear au aA aO hs HO HE HB c0 c1 c2 f1;go_loopw [4] (λ_ wr=>∃(Dc:DataW Value) (left:Lit->Bool) (cnt:Nat),Hid (RSt w wr b mb it n y M Dc left cnt)) (λ_ wr=>wr.rangeLeft mb it)
 case atStart=>exact⟨_,_,_,aI⟩
 case round=>
  obtain⟨Dc,left,cnt,HS⟩:=hrel;clear aI;go_wp2_with (at_next;refine wpList_next_ranges _ rfl _ rfl 3 A09 pkR (Value.int .i64) (λv:Value=>v) (λkey kl ai=>by obtain⟨x,rfl,_⟩:=Maps.keyOf_int_inv underlying3 ai;exact⟨x,rfl⟩) (λv y hv=>⟨v,rfl⟩) mb it M.length Dc left cnt rfl HS.out.1 ?_ ?_)
  ·intro _ aP;go_wp2_with fail
   go_end0
   obtain⟨g1,g2,g3,g4,g5,_⟩:=HS.out;rw[ξ8X aP]at g2 g3;have ht:=RM.tight g1.owns;rw[g2.size (g1.owns.entries A09) (HI.out.one.filter _)]at ht;exact⟨rfl,⟨g4,Dc,ht,g2,g3⟩,g5⟩
  ·intro x v kl yd yp w1 ah ai aY hv aQ aw aS aC aZ bh;obtain⟨x',ex,rfl,aT⟩:=Maps.keyOf_int_inv underlying3 ai;cases ex;obtain⟨i,hi,ei⟩:=(HS.out.2.1 (key x)).1 (has_true_of_atKey aQ);have aU:i.1=x:=(key_inj ei).symm;have aV:=HI.out.mem i (Ξj.1 hi).1;rw[aU]at aV;have aD:b≠it:=by have:=HS.out.2.2.2.2.2;omega
   have aE:w1.heap[b]?=some (.cells #[.int .i64 n,.int .i64 y,.map (some mb)] 270 (0,0)):=(aC.block b (by have:=HS.out.2.2.2.2.1.2.2.2.1;omega) (by simp;exact aD)).trans HS.out.2.2.2.1;obtain⟨c0,c1,c2⟩:=cells3 aE;have bi:=ξ0 aE;have aJ:=ξ0 aw;have ae:=ξ0 aC;clear aE aw aC hi ei;by_cases hg:n<=y-x
   ·have d:decide (n<=y-x)=true:=by simpa using hg
    go_wp2_with fail
    refine(ξ1m b n y x _ (by exact c0) (by exact c1) (by omega) hy1 (by omega) (by omega)).mono ?_;rintro e w2 ⟨rfl,k,rfl⟩;have ay:Hid ((w1.drewN k).ranges prog 3 pkR mb it M.length Dc (λz=>left z&&!z.sameKey (key x)) ah):=aJ.out;have aF:Hid (wr.grownBy (w1.drewN k) (some it)):=ξ0 ⟨ae.out.os,ae.out.tape,ae.out.output,ae.out.size,ae.out.block⟩;go_wp2_with (at_delete;refine wpList_delete_ranges _ rfl _ _ 268 3 rfl 38 A09 underlying268 _ mb it M.length Dc _ ah rfl ay.out _ _ rfl (A05 aT) ?_;intro w3 aG aj bj ax;go_frame)
    rw[strike_twice]at aj;go_roundw
    case rel=>exact⟨_,_,aG,ξcL HS.out hg aF.out ax aj⟩
    case measure=>rw[aj.left_eq,HS.out.1.left_eq];omega
   ·have d:decide (n<=y-x)=false:=by simpa using hg
    go_wp2_with fail
    refine(ξ1m b n y x _ (by exact c0) (by exact c1) (by omega) hy1 (by omega) (by omega)).mono ?_;rintro e w2 ⟨rfl,k,rfl⟩;have ay:Hid ((w1.drewN k).ranges prog 3 pkR mb it M.length Dc (λz=>left z&&!z.sameKey (key x)) ah):=aJ.out;have aF:Hid (wr.grownBy (w1.drewN k) (some it)):=ξ0 ⟨ae.out.os,ae.out.tape,ae.out.output,ae.out.size,ae.out.block⟩;go_wp2_with fail
    go_roundw
    case rel=>exact⟨_,_,ah,ξaQ HS.out (by omega) aF.out ay.out⟩
    case measure=>rw[ay.out.left_eq,HS.out.1.left_eq];omega
theorem ξdD(b mb:Nat)(n T y:Int)(M:Its)(w:World)(h:RingAt w b mb n T M)(hn:has M y=false)(hw:(Lit.int .i64 y).wf=true) :
 Calls prog 186 #[.pointer (some ⟨b,0,none⟩),.int .i64 y] w λe w'=>e=.returned (.tuple #[.agg #[.int .i64 0,.int .i64 0,.int .i64 0,.int .i64 0,.bool false,.slice none 0 0],A0a 5])/\Below w.heap.size w w':=by
 have hR:∀O,RingAt (w.alloc O) b mb n T M:=λO=>h.below ((Ξp _ _).alloc (Ξo _) O);have hl:=λO=>ξ5N (hR O) hn hw;have cc:=λO=>(hR O).cells;obtain⟨c0,c1,c2⟩:=cc (.cells #[.int .i64 0,.int .i64 0,.int .i64 0,.int .i64 0,.bool false,.slice none 0 0] 38);clear cc hR h hn;go_enter func186,ntmps186;go_wp2_with fail
 refine bodyPost_ret (ξ4y (g:=w.heap.size) rfl rfl ((Box.new w 0 0 0 0 false (.slice none 0 0)).alloc _)) rfl ?_;exact⟨rfl,((Ξp _ _).alloc (Ξo _) _).alloc (by simp) _⟩
theorem ξc5(h:RingAt w b mb n T M){o:Nat}{c:Int}(hc:w.cell? ⟨g,o,none⟩=some (.int .u8 c)):g∉[b,mb]:=by
 obtain⟨h1,D,h2,_⟩:=h;obtain⟨es,cl,h3⟩:=ξd h2;intro hg;simp only[Ξf,List.not_mem_nil,or_false]at hg;rcases hg with rfl|rfl
 ·simp only[World.cell?,h1]at hc
  match o,hc with
  | 0,hc=>simp at hc
  | 1,hc=>simp at hc
  | 2,hc=>simp at hc
  | o+3,hc=>simp at hc
 ·simp[World.cell?,h3]at hc
theorem ξe4(h:RingAt w b mb n T M)(hA:Arg w a m L)(ho:Only [b,mb] w W):Arg W a m L:=by
 refine⟨⟨hA.1.1,λj hj=>?_⟩,hA.2⟩;obtain⟨g,o,e,hc⟩:=hA.1.2 j hj;refine⟨g,o,e,?_⟩;have hk:=ξc5 h hc;have ae:=Ξq w ⟨g,o+j,none⟩ hc;have:=ho.2.2.2.2 g ae hk;simp only[World.cell?]at hc ⊢;rw[this];exact hc
theorem ξcP(b:Nat)(y s t l q:Int)(st:Bool)(bv:Value)(w:World)(h:y<0∨1099511627776<y) :
 Calls prog 159 #[.pointer (some ⟨b,0,none⟩),.int .i64 y,.agg #[.int .i64 s,.int .i64 t,.int .i64 l,.int .i64 q,.bool st,bv]] w λe w'=>e=.returned (.tuple #[.bool false,A0a 1])/\Below w.heap.size w w':=by
 by_cases c:y<0
 ·clear h;go_enter func159,ntmps159;go_wp2_with fail
  go_ret2;exact⟨rfl,(Ξp _ _).alloc (Ξo _) _⟩
 ·have c':1099511627776<y:=by omega
  clear h;go_enter func159,ntmps159;go_wp2_with fail
  go_ret2;exact⟨rfl,(Ξp _ _).alloc (Ξo _) _⟩
theorem ξeE(b:Nat)(y s t l q:Int)(st:Bool)(a:Option Addr)(m cap:Nat)(w:World)(h0:0<=y)(h1:y<=1099511627776)(hf:fault s t l q m≠0) :
 Calls prog 159 #[.pointer (some ⟨b,0,none⟩),.int .i64 y,.agg #[.int .i64 s,.int .i64 t,.int .i64 l,.int .i64 q,.bool st,.slice a m cap]] w λe w'=>e=.returned (.tuple #[.bool false,A0a (fault s t l q m)])/\Below w.heap.size w w':=by
 have HC:=ξ0 (λw=>ξa s t l q st a m cap w);generalize fault s t l q m=f at *;have hc:=ξq f;have hg:=ξp f;have d:decide (f=0)=false:=by simpa using hf
 clear hf;go_enter func159,ntmps159;go_wp2_with fail
 refine(HC.out _).mono ?_;rintro e w1 ⟨rfl,ae⟩;have HB:=ξ0 (ξu ae);clear ae;go_wp2_with fail;go_ret2;exact⟨rfl,HB.out⟩
theorem ξcQ(b mb:Nat)(n T y s t l q:Int)(st:Bool)(a:Option Addr)(m cap:Nat)(M:Its)(w:World)(hR:RingAt w b mb n T M)(hI:RM.Inv n T M)(h0:0<=y)(h1:y<=1099511627776)(hf:fault s t l q m=0)(ho:y<=T-n) :
 Calls prog 159 #[.pointer (some ⟨b,0,none⟩),.int .i64 y,.agg #[.int .i64 s,.int .i64 t,.int .i64 l,.int .i64 q,.bool st,.slice a m cap]] w λe w'=>e=.returned (.tuple #[.bool false,A0a 6])/\Below w.heap.size w w':=by
 have C:=λw=>ξa s t l q st a m cap w;rw[hf,ξ4]at C;have HC:=ξ0 C;have HR:=ξ0 hR;have ah:=hI.t1;have ai:=hI.t2;have d:decide (n<=T-y)=true:=by simp;omega
 clear C hR hI hf ho;go_enter func159,ntmps159;go_wp2_with fail
 refine(HC.out _).mono ?_;rintro e w1 ⟨rfl,ae⟩;have HB:=ξ0 (ξu ae);clear ae;obtain⟨c0,c1,c2⟩:=(HR.out.below HB.out).cells;go_wp2_with fail;refine(ξ1m b n T y _ (by exact c0) (by exact c1) ah ai h0 h1).mono ?_;rintro e w2 ⟨rfl,k,rfl⟩;rw[d];go_wp2_with fail;go_ret2;exact⟨rfl,below_drewN HB.out k⟩
theorem ξeD(b mb:Nat)(n T s t l q:Int)(st:Bool)(a:Option Addr)(m cap:Nat)(M:Its)(w:World)(hR:RingAt w b mb n T M)(hI:RM.Inv n T M)(i:Int×Pk)(hi:i∈M)(hf:fault s t l q m=0) :
 Calls prog 159 #[.pointer (some ⟨b,0,none⟩),.int .i64 i.1,.agg #[.int .i64 s,.int .i64 t,.int .i64 l,.int .i64 q,.bool st,.slice a m cap]] w λe w'=>e=.returned (.tuple #[.bool false,.nilIface])/\Below w.heap.size w w':=by
 have C:=λw=>ξa s t l q st a m cap w;rw[hf,ξ4]at C;have HC:=ξ0 C;have HR:=ξ0 hR;have aj:=hI.t1;have am:=hI.t2;have hm:=hI.mem i hi;have hL:=λW (h:RingAt W b mb n T M)=>ξ35 h hi (ξJ (by omega) (by omega));have HL:=ξ0 hL;have d:decide (n<=T-i.1)=false:=by simp;omega
 have h1:i.1<=1099511627776:=by omega
 have h0:=hm.1;clear C hR hI hf hL hi hm;generalize i.2.s=s' at *;generalize i.2.t=t' at *;generalize i.2.l=l' at *;generalize i.2.q=q' at *;generalize i.2.st=st' at *;generalize i.2.L=L' at *;generalize i.1=y at *;clear i;go_enter func159,ntmps159;go_wp2_with fail
 refine(HC.out _).mono ?_;rintro e w1 ⟨rfl,ai⟩;have HB:=ξ0 (ξu ai);clear ai;obtain⟨c0,c1,c2⟩:=(HR.out.below HB.out).cells;go_wp2_with fail;refine(ξ1m b n T y _ (by exact c0) (by exact c1) aj am h0 h1).mono ?_;rintro e w2 ⟨rfl,k,hk⟩;rw[d];have ah:Hid (Below w.heap.size w w2):=by rw[hk];exact below_drewN HB.out k
 clear hk HB c0 c1 c2;obtain⟨a2,m2,k2,hl,ae⟩:=HL.out w2 (HR.out.below ah.out);clear ae;obtain⟨c0,c1,c2⟩:=(HR.out.below ah.out).cells;go_wp2_with fail;go_ret2;exact⟨rfl,ah.out.alloc ah.out.size _⟩
def PSt(w W:World)(b mb pb:Nat)(n T:Int)(M:Its)(a:Option Addr)(m:Nat)(L:List Nat):Prop:=
 RingAt W b mb n T M/\Only [b,mb] w W/\Arg W a m L/\(∃cs,W.heap[pb]?=some (.cells cs 38 (0,0)))/\M.length<=64
theorem ξb2{pb:Nat}{p:Pk}{a':Option Addr}{m' c':Nat}(h:PSt w W b mb pb n T M a m L)(hn:has M y=false)(hy:(Lit.int .i64 y).wf=true)(hL:∀x∈p.L,x<256)(hm:m'<=1000)
 (ho:W.ownsRow 0 5 1 (.slice a' m' c') m' (cellsOf p.L)) :
 ∃w2,(Instr.mapUpdate 268 (.map (some mb)) (.int .i64 y) (.agg #[.int .i64 p.s,.int .i64 p.t,.int .i64 p.l,.int .i64 p.q,.bool p.st,.slice a' m' c'])).run prog W=.ok () w2/\RingAt w2 b mb n T (M++[(y,p)])/\Only [b,mb] w w2/\Only [mb] W w2:=by
 obtain⟨hR,aq,_,_,au⟩:=h;have aw:=hR.ne;have ax:=hR.nob;obtain⟨h1,D,ae,hK,hE⟩:=hR;obtain⟨w2,am,ah,ai⟩:=ae.store A09 underlying268 (by unfold maxLen;omega) (A05 hy) (ξ6S p.s p.t p.l p.q p.st a' m' c');have aj:Only [mb] W w2:=(Only.refl _ _).grown ai.grown (by simp);refine⟨w2,am,⟨aj.block h1 (by simp;exact aw),_,?_,ξ1z ae.isMap hK (.held (.agg #[.int .i64 p.s,.int .i64 p.t,.int .i64 p.l,.int .i64 p.q,.bool p.st,.slice a' m' c'])) _,?_⟩,aq.trans (aj.mono (by simp)),aj⟩
 ·simpa using ah
 ·refine A1g.only (ξ24 ae.isMap hE hn ⟨a',m',c',rfl,ho,hL,hm⟩) aj (λk hk=>ax k (by simp at hk;simp[hk]))
theorem ξeC(b mb:Nat)(n T y s t l q:Int)(st:Bool)(a:Option Addr)(m cap:Nat)(L:List Nat)(M:Its)(w:World)(hR:RingAt w b mb n T M)(hI:RM.Inv n T M)(hA:Arg w a m L)(hN:a=none->m=0/\cap=0)
 (h0:0<=y) (h1:y<=1099511627776) (hf:fault s t l q m=0) (ho:T-n<y) (hn:has M y=false) :
 Calls prog 159 #[.pointer (some ⟨b,0,none⟩),.int .i64 y,.agg #[.int .i64 s,.int .i64 t,.int .i64 l,.int .i64 q,.bool st,.slice a m cap]] w λe w'=>e=.returned (.tuple #[.bool true,.nilIface]) /\
  RingAt w' b mb n (top T y) (keeps n (top T y) M++[(y,⟨s,t,l,q,st,L,.slice a m cap⟩)])/\Only [b,mb] w w':=by
 have C:=λw=>ξa s t l q st a m cap w;rw[hf,ξ4]at C;have hm:m<=1000:=by obtain⟨_,_,_,_,_,_,_,_,_,_,_,_,hm⟩:=ξs hf;exact hm
 have HC:=ξ0 C;have HR:=ξ0 hR;have HI:=ξ0 hI;have HA:=ξ0 hA;have HN:=ξ0 hN;have aA:=ξJ (y:=y) (by omega) (by omega);have aI:=hI.t1;have aJ:=hI.t2;have au:M.length<=64:=by have:=hI.len;have:=hI.n2;omega
 have aT:=hR.lt;have hL:=λW (h:RingAt W b mb n T M)=>ξ5N h hn aA;have HL:=ξ0 hL;have HH:=ξ0 hn;have d:decide (n<=T-y)=false:=by simp;omega
 -- what apart does, and what the store behind it does
 have HF:Hid (∀(T':Int) (M':Its) (W:World),has M' y=false->PSt w W b mb w.heap.size n T' M' a m L->Box W w.heap.size s t l q st (.slice a m cap) ->
  Calls prog 194 #[.agg #[.int .i64 s,.int .i64 t,.int .i64 l,.int .i64 q,.bool st,.slice a m cap]] W λe w'=>∃a' c' w2,e=.returned (.agg #[.int .i64 s,.int .i64 t,.int .i64 l,.int .i64 q,.bool st,.slice a' m c']) /\
   (Instr.mapUpdate 268 (.map (some mb)) (.int .i64 y) (.agg #[.int .i64 s,.int .i64 t,.int .i64 l,.int .i64 q,.bool st,.slice a' m c'])).run prog w'=.ok () w2 /\
   Hid (RingAt w2 b mb n T' (M'++[(y,⟨s,t,l,q,st,L,.slice a m cap⟩)])/\Only [b,mb] w w2)/\(w'.cell? ⟨b,2,none⟩=some (.map (some mb))/\w'.cell? ⟨w.heap.size,0,none⟩=some (.int .i64 s)/\w'.cell? ⟨w.heap.size,1,none⟩=some (.int .i64 t)/\w'.cell? ⟨w.heap.size,2,none⟩=some (.int .i64 l)/\w'.cell? ⟨w.heap.size,3,none⟩=some (.int .i64 q)/\w'.cell? ⟨w.heap.size,4,none⟩=some (.bool st)/\w'.cell? ⟨w.heap.size,5,none⟩=some (.slice a m cap))/\(w2.cell? ⟨b,2,none⟩=some (.map (some mb))/\w2.cell? ⟨w.heap.size,0,none⟩=some (.int .i64 s)/\w2.cell? ⟨w.heap.size,1,none⟩=some (.int .i64 t)/\w2.cell? ⟨w.heap.size,2,none⟩=some (.int .i64 l)/\w2.cell? ⟨w.heap.size,3,none⟩=some (.int .i64 q)/\w2.cell? ⟨w.heap.size,4,none⟩=some (.bool st)/\w2.cell? ⟨w.heap.size,5,none⟩=some (.slice a m cap))):=by
  refine ξ0 ?_;intro T' M' W aL hP hX;refine(ξ1X s t l q st a m cap L W hP.2.2.1 hN hm).mono ?_;rintro e w' ⟨a',c',rfl,aw,hb⟩;have aC:PSt w w' b mb w.heap.size n T' M' a m L:=⟨hP.1.below hb,hP.2.1.trans (Only.of_below hb _),hP.2.2.1.below hb,by obtain⟨cs,h⟩:=hP.2.2.2.1;exact⟨cs,(hb.block _ (lt_of_block h)).trans h⟩,hP.2.2.2.2⟩;have aD:=hX.below hb hX.lt;obtain⟨w2,h1,h2,h3,h4⟩:=ξb2 (p:=⟨s,t,l,q,st,L,.slice a m cap⟩) aC aL aA hA.1.1 hm aw;have aM:Box w2 w.heap.size s t l q st (.slice a m cap):=h4.block aD (by simp;omega);exact⟨a',c',w2,rfl,h1,⟨h2,h3⟩,⟨aC.1.cells.2.2,aD.cells⟩,⟨h2.cells.2.2,aM.cells⟩⟩
 clear C hR hI hA hN hf hL hn;have aE:=ξbH (n:=n) (T:=top T y) HH.out;have ae:(keeps n (top T y) M).length<=64:=Nat.le_trans (List.length_filter_le _ _) au;generalize hT:top T y=T' at *;generalize hM:keeps n T' M=M' at *;have HT:=ξ0 hT;have HM:=ξ0 hM;have aF:=ξ0 aE;clear hT hM aE;go_enter func159,ntmps159;go_wp2_with fail
 refine(HC.out _).mono ?_;rintro e w1 ⟨rfl,ax⟩;have aG:=ξ0 ((Box.new w s t l q st (.slice a m cap)).below ax (by simp));have HB:=ξ0 (ξu ax);clear ax;obtain⟨c0,c1,c2⟩:=(HR.out.below HB.out).cells;go_wp2_with fail;refine(ξ1m b n T y _ (by exact c0) (by exact c1) aI aJ h0 h1).mono ?_;rintro e w2 ⟨rfl,k,hk⟩;rw[d];have ah:Hid (Below w.heap.size w w2):=by rw[hk];exact below_drewN HB.out k
 have ai:Hid (Box w2 w.heap.size s t l q st (.slice a m cap)):=by rw[hk];exact aG.out
 clear hk HB aG c0 c1 c2;have hl:=HL.out w2 (HR.out.below ah.out);obtain⟨c0,c1,c2⟩:=(HR.out.below ah.out).cells;have d1:=λO=>ξj c1 O;by_cases hu:T<y
 ·go_wp2_with fail
  refine(ξ2V b mb n T y M _ ((HR.out.below ah.out).below ((Ξp _ _).alloc (Ξo _) _)) HI.out hu h1).mono ?_;rintro e w3 ⟨rfl,aH,aq⟩;have HP:Hid (PSt w w3 b mb w.heap.size n T' M' a m L):=by
   have ht:T'=y:=by rw[<-HT.out];simp[top,hu]
   have hO:Only [b,mb] w w3:=(Only.of_below (ah.out.alloc ah.out.size _) _).trans aq;refine⟨by rw[<-HM.out,ht];exact aH,hO,ξe4 HR.out HA.out hO,⟨_,aq.block (ai.out.alloc _) (by simp;omega)⟩,ae⟩
  have aj:Hid (Box w3 w.heap.size s t l q st (.slice a m cap)):=aq.block (ai.out.alloc _) (by simp;omega);clear aH aq ai hl c0 c1 c2 d1;go_wp2_with fail;have ay:=ξ0 (HF.out T' M' w3.drew aF.out HP.out aj.out);have aO:(w3.drew.cell? ⟨b,2,none⟩=some (.map (some mb))/\w3.drew.cell? ⟨w.heap.size,0,none⟩=some (.int .i64 s)/\w3.drew.cell? ⟨w.heap.size,1,none⟩=some (.int .i64 t)/\w3.drew.cell? ⟨w.heap.size,2,none⟩=some (.int .i64 l)/\w3.drew.cell? ⟨w.heap.size,3,none⟩=some (.int .i64 q)/\w3.drew.cell? ⟨w.heap.size,4,none⟩=some (.bool st)/\w3.drew.cell? ⟨w.heap.size,5,none⟩=some (.slice a m cap)):=⟨HP.out.1.cells.2.2,aj.out.cells⟩;clear HF HC HL;go_region_held3 (λw'=>w'.cell? ⟨b,2,none⟩=some (.map (some mb))/\w'.cell? ⟨w.heap.size,0,none⟩=some (.int .i64 s)/\w'.cell? ⟨w.heap.size,1,none⟩=some (.int .i64 t)/\w'.cell? ⟨w.heap.size,2,none⟩=some (.int .i64 l)/\w'.cell? ⟨w.heap.size,3,none⟩=some (.int .i64 q)/\w'.cell? ⟨w.heap.size,4,none⟩=some (.bool st)/\w'.cell? ⟨w.heap.size,5,none⟩=some (.slice a m cap)) (with_reducible assumption) (first|(go_at_call 194;refine ay.out.mono ?_;rintro e w4 ⟨a',c',w5,rfl,aP,HQ,aQ,aS⟩));go_wp2_with fail
  go_ret2;exact⟨rfl,HQ.out⟩
 ·go_wp2_with fail
  obtain⟨w3,am⟩:=nm (w2.alloc (.cells #[.int .i64 0,.int .i64 0,.int .i64 0,.int .i64 0,.bool false,.slice none 0 0] 38));rw[am];have HP:Hid (PSt w w3 b mb w.heap.size n T' M' a m L):=by
   have ht:T'=T:=by rw[<-HT.out];simp[top];omega
   have az:Below w.heap.size w w3:=by rw[<-am];exact ah.out.alloc ah.out.size _
   refine⟨by rw[<-HM.out,ht,ξ9N HI.out];exact HR.out.below az,Only.of_below az _,HA.out.below az,⟨_,by rw[<-am];exact ai.out.alloc _⟩,ae⟩
  have aj:Hid (Box w3 w.heap.size s t l q st (.slice a m cap)):=by rw[<-am];exact ai.out.alloc _
  clear am ai hl c0 c1 c2 d1;have ay:=ξ0 (HF.out T' M' w3.drew aF.out HP.out aj.out);have aO:(w3.drew.cell? ⟨b,2,none⟩=some (.map (some mb))/\w3.drew.cell? ⟨w.heap.size,0,none⟩=some (.int .i64 s)/\w3.drew.cell? ⟨w.heap.size,1,none⟩=some (.int .i64 t)/\w3.drew.cell? ⟨w.heap.size,2,none⟩=some (.int .i64 l)/\w3.drew.cell? ⟨w.heap.size,3,none⟩=some (.int .i64 q)/\w3.drew.cell? ⟨w.heap.size,4,none⟩=some (.bool st)/\w3.drew.cell? ⟨w.heap.size,5,none⟩=some (.slice a m cap)):=⟨HP.out.1.cells.2.2,aj.out.cells⟩;clear HF HC HL;go_region_held3 (λw'=>w'.cell? ⟨b,2,none⟩=some (.map (some mb))/\w'.cell? ⟨w.heap.size,0,none⟩=some (.int .i64 s)/\w'.cell? ⟨w.heap.size,1,none⟩=some (.int .i64 t)/\w'.cell? ⟨w.heap.size,2,none⟩=some (.int .i64 l)/\w'.cell? ⟨w.heap.size,3,none⟩=some (.int .i64 q)/\w'.cell? ⟨w.heap.size,4,none⟩=some (.bool st)/\w'.cell? ⟨w.heap.size,5,none⟩=some (.slice a m cap)) (with_reducible assumption) (first|(go_at_call 194;refine ay.out.mono ?_;rintro e w4 ⟨a',c',w5,rfl,aP,HQ,aQ,aS⟩));go_wp2_with fail
  go_ret2;exact⟨rfl,HQ.out⟩
theorem ξaZ(b mb:Nat)(n T y s t l q:Int)(st:Bool)(a:Option Addr)(m cap:Nat)(L:List Nat)(M:Its)(w:World)(hR:RingAt w b mb n T M)(hI:RM.Inv n T M)(hA:Arg w a m L)(hN:a=none->m=0/\cap=0) :
 Calls prog 159 #[.pointer (some ⟨b,0,none⟩),.int .i64 y,.agg #[.int .i64 s,.int .i64 t,.int .i64 l,.int .i64 q,.bool st,.slice a m cap]] w λe w'=>e=.returned (.tuple #[.bool (px n T y M (fault s t l q m)),A0a (pf n T y (fault s t l q m))]) /\
  RingAt w' b mb n (pT n T y M (fault s t l q m)) (pM n T y M (fault s t l q m) ⟨s,t,l,q,st,L,.slice a m cap⟩)/\Only [b,mb] w w':=by
 have same:∀w',px n T y M (fault s t l q m)=false->Below w.heap.size w w'->RingAt w' b mb n (pT n T y M (fault s t l q m)) (pM n T y M (fault s t l q m) ⟨s,t,l,q,st,L,.slice a m cap⟩)/\Only [b,mb] w w':=by
  intro w' hx hb;unfold pT pM;rw[hx];exact⟨hR.below hb,Only.of_below hb _⟩
 by_cases hf:y<0∨1099511627776<y
 ·have e1:pf n T y (fault s t l q m)=1:=by unfold pf;rw[if_pos hf]
  have e2:px n T y M (fault s t l q m)=false:=by simp[px,e1]
  refine(ξcP b y s t l q st (.slice a m cap) w hf).mono ?_;rintro e w' ⟨rfl,hb⟩;exact⟨by rw[e1,e2],same w' e2 hb⟩
 by_cases hc:fault s t l q m=0
 case neg=>
  have e1:pf n T y (fault s t l q m)=fault s t l q m:=by unfold pf;rw[if_neg hf,if_pos hc]
  have e2:px n T y M (fault s t l q m)=false:=by simp[px,e1,hc]
  refine(ξeE b y s t l q st a m cap w (by omega) (by omega) hc).mono ?_;rintro e w' ⟨rfl,hb⟩;exact⟨by rw[e1,e2],same w' e2 hb⟩
 by_cases ho:y<=T-n
 ·have e1:pf n T y (fault s t l q m)=6:=by unfold pf;rw[if_neg hf,if_neg (by omega),if_pos ho]
  have e2:px n T y M (fault s t l q m)=false:=by simp[px,e1]
  refine(ξcQ b mb n T y s t l q st a m cap M w hR hI (by omega) (by omega) hc ho).mono ?_;rintro e w' ⟨rfl,hb⟩;exact⟨by rw[e1,e2],same w' e2 hb⟩
 have e1:pf n T y (fault s t l q m)=0:=ξ4B (by omega) (by omega) hc (by omega);by_cases hh:has M y=true
 ·have e2:px n T y M (fault s t l q m)=false:=by simp[px,hh]
  obtain⟨i,hi,rfl⟩:=ξn.1 hh;refine(ξeD b mb n T s t l q st a m cap M w hR hI i hi hc).mono ?_;rintro e w' ⟨rfl,hb⟩;exact⟨by rw[e1,e2];rfl,same w' e2 hb⟩
 ·have ae:has M y=false:=by simpa using hh
  have e2:px n T y M (fault s t l q m)=true:=by simp[px,e1,ae]
  refine(ξeC b mb n T y s t l q st a m cap L M w hR hI hA hN (by omega) (by omega) hc (by omega) ae).mono ?_;rintro e w' ⟨rfl,h1,h2⟩;refine⟨by rw[e1,e2];rfl,?_,h2⟩;unfold pT pM;rw[e2];exact h1
theorem ξav(b:Nat)(T:Int)(w:World)(h1:w.cell? ⟨b,1,none⟩=some (.int .i64 T)) :
 Calls prog 158 #[.pointer (some ⟨b,0,none⟩)] w λe w'=>e=.returned (.int .i64 T)/\w'=w:=by
 go_enter func158,ntmps158;go_wp2_with fail
 go_ret;exact⟨rfl,rfl⟩
def LSt(w wr:World)(b mb it:Nat)(T m:Int)(M:Its)(D:DataW Value)(left:Lit->Bool)(cnt:Nat):Prop:=
 wr.ranges prog 3 pkR mb it M.length D left cnt/\Below w.heap.size w wr/\w.heap.size<=it/\Keys D M/\m<=T/\(∀i∈M,left (key i.1)=false->m<=i.1)/\(m=T∨∃i∈M,m=i.1)
theorem ξ4e{m:Int}{D:DataW Value}(h:LSt w wr b mb it T m M D left cnt)(hg:wr.grownBy w1 (some it))
 (hr:w1.ranges prog 3 pkR mb it M.length D (λz=>left z&&!z.sameKey (key x)) cnt1) (hx:∃i∈M,i.1=x):LSt w w1 b mb it T (min m x) M D (λz=>left z&&!z.sameKey (key x)) cnt1:=by
 obtain⟨g1,g2,g3,g4,g5,g6,g7⟩:=h;obtain⟨j,hj,rfl⟩:=hx;refine⟨hr,g2.grown hg g2.size (by intro k hk;simp at hk;omega),g3,g4,by omega,?_,?_⟩
 ·intro i hi hl;by_cases e:i.1=j.1
  ·omega
  ·have hs:(key i.1).sameKey (key j.1)=false:=sameKey_ne (λh=>e (key_inj h));simp only[hs,Bool.not_false,Bool.and_true]at hl;have:=g6 i hi hl;omega
 ·rcases Int.le_total m j.1 with hle|hle
  ·rw[Int.min_eq_left hle];exact g7
  ·rw[Int.min_eq_right hle];exact .inr ⟨j,hj,rfl⟩
theorem ξbv(b mb:Nat)(n T:Int)(M:Its)(w:World)(h:RingAt w b mb n T M)(hI:RM.Inv n T M) :
 Calls prog 160 #[.pointer (some ⟨b,0,none⟩)] w λe w'=>e=.returned (.int .i64 (low T M))/\Below w.heap.size w w':=by
 obtain⟨c0,c1,c2⟩:=h.cells;obtain⟨hB,D,ah,hK,hE⟩:=h;have HO:=ξ0 ah;have HK:=ξ0 hK;have HI:=ξ0 hI;have aC:=hI.t1;have aD:=hI.t2;clear hB ah hK hE hI;go_enter func160,ntmps160;go_wp2_with (at_range;refine wpList_range_own _ rfl _ 268 rfl 3 38 A09 underlying268 _ mb M.length D rfl HO.out ?_;intro w0 ai aq ax)
 go_frame
 have au:Hid (LSt w w0 b mb w.heap.size T T M D (Maps.has D) (Maps.size D)):=
  ⟨ai,(Ξp _ _).grown aq (Ξo _) (by simp),Ξo _,HK.out,Int.le_refl _,(λi hi hl=>by rw[(HK.out (key i.1)).2 ⟨i,hi,rfl⟩]at hl;cases hl),.inl rfl⟩
 clear ai aq ax HO;go_loopw [3] (λlo wr=>∃(m:Int) (left:Lit->Bool) (cnt:Nat),lo=.int .i64 m/\Hid (LSt w wr b mb w.heap.size T m M D left cnt)) (λ_ wr=>wr.rangeLeft mb w.heap.size)
 case atStart=>exact⟨_,_,_,rfl,au⟩
 case round=>
  obtain⟨m,left,cnt,rfl,HS⟩:=hrel;clear au;go_wp2_with (at_next;refine wpList_next_ranges _ rfl _ rfl 3 A09 pkR (Value.int .i64) (λv:Value=>v) (λkey kl ae=>by obtain⟨x,rfl,_⟩:=Maps.keyOf_int_inv underlying3 ae;exact⟨x,rfl⟩) (λv y hv=>⟨v,rfl⟩) mb w.heap.size M.length D left cnt rfl HS.out.1 ?_ ?_)
  ·intro _ ay;go_wp2_with fail;go_ret;obtain⟨g1,g2,g3,g4,g5,g6,g7⟩:=HS.out;have e:=ξg6 g5 (λi hi=>g6 i hi (ay _)) g7;exact⟨by rw[<-e];rfl,g2⟩
  ·intro x v kl yd yp w1 am ae aE hv az aj aA aw aF aG;obtain⟨x',ex,rfl,aH⟩:=Maps.keyOf_int_inv underlying3 ae;cases ex;obtain⟨i,hi,ei⟩:=(HK.out (key x)).1 (has_true_of_atKey az);have HR:=ξ0 (ξ4e HS.out aw aj ⟨i,hi,(key_inj ei).symm⟩);clear aj aw hi ei;go_wp2_with fail
   go_roundw
   case rel=>exact⟨min m x,_,am,congrArg (Value.int .i64) (by split<;>omega),HR⟩
   case measure=>rw[HR.out.1.left_eq,HS.out.1.left_eq];omega
end Go.Proofs.YtpiamlgmadnepaaGreat.Ring
