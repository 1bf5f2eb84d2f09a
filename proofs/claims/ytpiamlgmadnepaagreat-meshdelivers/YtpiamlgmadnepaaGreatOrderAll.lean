/-
 What the proof needs.
-/
import Derived.Test.YtpiamlgmadnepaaGreatPackAll
import Derived.Outline
import Derived.RegionTactic
import Derived.Deep.LoopGhost
import Derived.Deep.AppendLies
open Go.Proofs.Tryz
set_option linter.unusedVariables false
set_option maxHeartbeats 4000000
set_option maxRecDepth 100000
namespace Go.Proofs.YtpiamlgmadnepaaGreat.Order
open ChangeShapes WideShapes ChangeAt RowKit Maps PM Mem Pack OM
variable {y t wt nw nx n s l q now:Int}{w w' w2 W wr:World}{b mb g i m h B cnt k:Nat}{cs tmps:Array Value}{M:Its}{bs:List Nat}{st:Bool}{a:Option Addr}{z0 z1 z2 z3 z4 z5 bv v:Value}{left:Lit->Bool}
theorem A09:Keyed prog 3:=int_keyed underlying3
theorem A05(h:(Lit.int .i64 y).wf=true):keyOf prog 3 (.int .i64 y)=some (key y):=keyOf_int_mk underlying3 h
theorem A85(w:World):(zeroValue 188).run prog w=.ok (.agg #[.int .i64 0,.bool false,.int .i64 0,.int .i64 0,.int .i64 0,.int .i64 0,.bool false,.slice none 0 0,.int .i64 0]) w:=by kernel_rfl
theorem ξJ(h0:-9223372036854775808<=y)(h1:y<=9223372036854775807):(Lit.int .i64 y).wf=true:=WalkArith.wf_i64 (by omega)
structure ξ1(w:World)(b mb:Nat)(wt nw nx:Int)(M:Its):Prop where
 box:w.heap[b]?=some (.cells #[.int .i64 nw,.int .i64 wt,.int .i64 nx,.map (some mb)] 126 (0,0))
 map:∃D,w.ownsMap prog 3 wtR mb M.length D/\Keys D M/\A1g D M
 bod:Bodies w M
theorem A6m{v0 v1 v2 v3:Value}{t:TypeId}(h:w.heap[b]?=some (.cells #[v0,v1,v2,v3] t (0,0))) :
 w.cell? ⟨b,0,none⟩=some v0/\w.cell? ⟨b,1,none⟩=some v1/\w.cell? ⟨b,2,none⟩=some v2/\w.cell? ⟨b,3,none⟩=some v3:=by
 refine⟨?_,?_,?_,?_⟩<;>simp[World.cell?,h]
theorem A46{t:TypeId}(h:w.heap[b]?=some (.cells cs t (0,0)))(j:Nat)(u:Value) :
 (w.setCell ⟨b,j,none⟩ u).heap[b]?=some (.cells (cs.setIfInBounds j u) t (0,0)):=by
 exact heap_setCell_same w b j cs t u h
theorem A5l{t:TypeId}(h:w.heap[b]?=some (.cells cs t (0,0)))(j:Nat):w.frozen? ⟨b,j,none⟩=false:=by
 simp[World.frozen?,h]
theorem ξ1.cells(h:ξ1 w b mb wt nw nx M) :
 w.cell? ⟨b,0,none⟩=some (.int .i64 nw)/\w.cell? ⟨b,1,none⟩=some (.int .i64 wt)/\w.cell? ⟨b,2,none⟩=some (.int .i64 nx)/\w.cell? ⟨b,3,none⟩=some (.map (some mb)):=A6m h.box
theorem ξ1.ne(h:ξ1 w b mb wt nw nx M):b≠mb:=by
 obtain⟨h1,⟨D,h2,_⟩,_⟩:=h;obtain⟨es,c,h3⟩:=ξd h2;intro e;rw[e,h3]at h1;simp at h1
theorem ξ1.lt(h:ξ1 w b mb wt nw nx M):b<w.heap.size/\mb<w.heap.size:=by
 obtain⟨h1,⟨D,h2,_⟩,_⟩:=h;exact⟨lt_of_block h1,h2.lt⟩
theorem ξ1.nob(h:ξ1 w b mb wt nw nx M):∀k∈[b,mb],∀cs fr,w.heap[k]?≠some (.cells cs 5 fr):=by
 obtain⟨h1,⟨D,h2,_⟩,_⟩:=h;obtain⟨es,c,h3⟩:=ξd h2;intro k hk cs fr e;simp only[Ξf,List.not_mem_nil,or_false]at hk;rcases hk with rfl|rfl
 ·rw[h1]at e;simp at e
 ·rw[h3]at e;simp at e
theorem ξ1.only(h:ξ1 w b mb wt nw nx M)(ho:Only bs w w')(h1:b∉bs)(h2:mb∉bs)(hb:∀k∈bs,∀cs fr,w.heap[k]?≠some (.cells cs 5 fr)):ξ1 w' b mb wt nw nx M:=by
 obtain⟨h3,⟨D,⟨es,ae,h4,h5⟩,h6,h7⟩,h8⟩:=h;exact⟨ho.block h3 h1,⟨D,⟨es,ae,ho.block h4 h2,h5⟩,h6,h7⟩,h8.only ho hb⟩
theorem ξ1.below(h:ξ1 w b mb wt nw nx M)(hb:Below w.heap.size w w'):ξ1 w' b mb wt nw nx M:=
 h.only (Only.of_below hb []) (by simp) (by simp) (by simp)
theorem ξ1.alloc(h:ξ1 w b mb wt nw nx M)(O:Obj):ξ1 (w.alloc O) b mb wt nw nx M:=h.below ((Ξp _ _).alloc (Ξo _) O)
theorem ξ1.set{nw' nx':Int}(h:ξ1 w b mb wt nw nx M)(j:Nat)(u:Value)(he:(#[.int .i64 nw,.int .i64 wt,.int .i64 nx,.map (some mb)]:Array Value).setIfInBounds j u=#[.int .i64 nw',.int .i64 wt,.int .i64 nx',.map (some mb)]):ξ1 (w.setCell ⟨b,j,none⟩ u) b mb wt nw' nx' M:=by
 have ah:=h.ne;have ai:=h.nob;have ho:Only [b] w (w.setCell ⟨b,j,none⟩ u):=(Only.refl _ _).setCell (by simp) _;refine⟨?_,?_,h.bod.only ho (λk hk=>ai k (by simp at hk;simp[hk]))⟩
 ·have:=A46 h.box j u;rw[he]at this;exact this
 ·obtain⟨D,⟨es,ae,h4,h5⟩,h6⟩:=h.map;exact⟨D,⟨es,ae,ho.block h4 (by simp;exact λe=>ah e.symm),h5⟩,h6⟩
theorem ξ1.turned{M':Its}(h:ξ1 w b mb wt nw nx M)(ho:Only [mb] w w')(hm:∃D,w'.ownsMap prog 3 wtR mb M'.length D/\Keys D M'/\A1g D M')(hB:Bodies w M'):ξ1 w' b mb wt nw nx M':=by
 have ae:=h.ne;have ah:=h.nob;exact⟨ho.block h.box (by simp;exact ae),hm,hB.only ho (λk hk=>ah k (by simp at hk;simp[hk]))⟩
theorem ξ3m(h:ξ1 w b mb wt nw nx M)(x:Kp)(hx:has M x.n=false)(hw:(Lit.int .i64 x.n).wf=true)(hl:M.length<=1000)(hb:Body w x.p) :
 ∃w2,(Instr.mapUpdate 124 (.map (some mb)) (.int .i64 x.n) (lv x)).run prog w=.ok () w2/\ξ1 w2 b mb wt nw nx (M++[x])/\Only [mb] w w2:=by
 obtain⟨D,ae,hK,hE⟩:=h.map;obtain⟨a,m,c,e,hr⟩:=hb;have am:wtR (lv x)=some (.held (lv x),[]):=by unfold lv;rw[e];rfl
 obtain⟨w2,aj,ah,ai⟩:=ae.store A09 underlying124 (by unfold maxLen;omega) (A05 hw) am;have ho:Only [mb] w w2:=(Only.refl _ _).grown ai.grown (by simp);refine⟨w2,aj,h.turned ho ⟨_,?_,ξ1z ae.isMap hK x _,ξ24 ae.isMap hE (ξ13 hx)⟩ (h.bod.app ⟨a,m,c,e,hr⟩),ho⟩;simpa using ah
theorem ξ3N{n:Nat}{D:DataW Value}(h:ξ1 w b mb wt nw nx M)(hK:Keys D M)(hE:A1g D M)(hr:Apart M)(hown:w2.ownsMap prog 3 wtR mb n (D.del (key y)))(ho:Only [mb] w w2):ξ1 w2 b mb wt nw nx (M.filter λi=>decide (i.n≠y)):=by
 have ae:=ξ2x hK y;refine h.turned ho ⟨_,?_,ae,ξ2k hE y⟩ (h.bod.sub λi hi=>(Ξj.1 hi).1);have ht:=OM.tight hown;have ah:Apart (M.filter λi=>decide (i.n≠y)):=hr.filter _;rw[ae.size (hown.entries A09) ah]at ht;exact ht
theorem look_ok(h:ξ1 w b mb wt nw nx M)(hw:(Lit.int .i64 y).wf=true) :
 ∃v,(Instr.lookup 124 (.map (some mb)) (.int .i64 y) true).run prog w=.ok (.tuple #[v,.bool (has M y)]) w/\∃n g s t l q st a m c z,v=.agg #[.int .i64 n,.bool g,.int .i64 s,.int .i64 t,.int .i64 l,.int .i64 q,.bool st,.slice a m c,.int .i64 z]:=by
 obtain⟨D,ah,hK,hE⟩:=h.map;obtain⟨v',ps,ae,hr⟩:=ah.look_ok A09 underlying124 (A85 w) (ξam 0 false 0 0 0 0 false none 0 0 0) (A05 hw);rw[hK.at]at ae;exact⟨v',ae,(ξ4Y hr).1⟩
theorem ξS{fn:Func}{j:Nat}{x:Int}(hf:fn.results=#[.cell i 89,.tmp j])(hi:tmps.getD i undef=.pointer (some ⟨g,0,none⟩))(hb:w.cell? ⟨g,0,none⟩=some (.int .i64 x)) :
 (results fn tmps).run prog w=.ok (.tuple #[.agg #[.int .i64 x],tmps.getD j undef]) w:=by
 have ae:tmps[i]?.getD undef=.pointer (some ⟨g,0,none⟩):=by simpa using hi
 simp[results,hf,ae,go_sem,hb]
theorem ξM(w:World)(x:Int)(O:Obj):((w.alloc O).alloc (.cells #[.int .i64 x] 89)).cell? ⟨w.heap.size+1,0,none⟩=some (.int .i64 x):=by
 have h:=heap_alloc_new (w.alloc O) (.cells #[.int .i64 x] 89);simp only[World.size_alloc]at h;unfold World.cell?;simp only[h];simp
theorem ξC(w:World)(O1 O2:Obj):Below w.heap.size w ((w.alloc O1).alloc O2):=
 ((Ξp _ _).alloc (Ξo _) _).alloc (by simp) _
theorem ξH(nw now:Int)(w:World) :
 Calls prog 66 #[.agg #[.int .i64 nw],.int .i64 now] w λe w'=>e=.returned (.tuple #[.agg #[.int .i64 (if tf nw now=0 then now else 0)],A0a (tf nw now)])/\Below w.heap.size w w':=by
 by_cases c:now<0
 ·have e:tf nw now=1:=by unfold tf;rw[if_pos (.inl c)]
  rw[e];clear e;go_enter func66,ntmps66;go_wp2_with fail
  refine bodyPost_ret (ξS (g:=w.heap.size+1) rfl rfl (ξM w _ _)) rfl ?_;exact⟨rfl,ξC w _ _⟩
 by_cases c1:1000000<now
 ·have e:tf nw now=1:=by unfold tf;rw[if_pos (.inr c1)]
  rw[e];clear e;go_enter func66,ntmps66;go_wp2_with fail
  refine bodyPost_ret (ξS (g:=w.heap.size+1) rfl rfl (ξM w _ _)) rfl ?_;exact⟨rfl,ξC w _ _⟩
 by_cases c2:now<nw
 ·have e:tf nw now=6:=by unfold tf;rw[if_neg (by omega),if_pos c2]
  rw[e];clear e;go_enter func66,ntmps66;go_wp2_with fail
  refine bodyPost_ret (ξS (g:=w.heap.size+1) rfl rfl (ξM w _ _)) rfl ?_;exact⟨rfl,ξC w _ _⟩
 ·have e:tf nw now=0:=by unfold tf;rw[if_neg (by omega),if_neg c2]
  rw[e];clear e;go_enter func66,ntmps66;go_wp2_with fail
  refine bodyPost_ret (ξS (g:=w.heap.size+1) rfl rfl (ξM w _ _)) rfl ?_;exact⟨rfl,ξC w _ _⟩
theorem ξ3H(nw now:Int)(w:World)(h:tf nw now≠0) :
 Calls prog 66 #[.agg #[.int .i64 nw],.int .i64 now] w λe w'=>e=.returned (.tuple #[.agg #[.int .i64 0],A0a (tf nw now)])/\Below w.heap.size w w':=by
 have:=ξH nw now w;rw[if_neg h]at this;exact this
theorem ξV(nw now:Int)(w:World)(h:tf nw now=0) :
 Calls prog 66 #[.agg #[.int .i64 nw],.int .i64 now] w λe w'=>e=.returned (.tuple #[.agg #[.int .i64 now],.nilIface])/\Below w.heap.size w w':=by
 have:=ξH nw now w;rw[if_pos h,h,ξ4]at this;exact this
theorem ξ12(wt:Int)(w:World)(h0:0<=wt)(h1:wt<=1000000) :
 Calls prog 21 #[.int .i64 wt] w λe w'=>∃b mb,e=.returned (.tuple #[.pointer (some ⟨b,0,none⟩),.nilIface])/\w.heap.size<=b/\w.heap.size<=mb/\ξ1 w' b mb wt 0 (-1) []/\Below w.heap.size w w':=by
 have ae:=@run_makeMap prog;go_enter func21,ntmps21;go_wp2_with fail
 go_ret2;refine⟨_,_,rfl,Nat.le_succ _,Ξo _,⟨?_,⟨.map [],?_,ξ1b,λi hi=>by simp at hi⟩,λi hi=>by simp at hi⟩,((Ξp _ _).alloc (Ξo _) _).alloc (by simp) _⟩
 ·have:=heap_alloc_new (w.alloc (.map #[] 0)) (.cells #[.int .i64 0,.int .i64 wt,.int .i64 (-1),.map (some w.heap.size)] 126);simpa using this
 ·exact(World.ownsMap_made w _ _ _).alloc _
theorem ξ1U(y:Int)(w:World) :
 Calls prog 69 #[.int .i64 y] w λe w'=>e=.returned (.bool (decide (0<=y/\y<=1099511627776)))/\w'=w:=by
 by_cases h:0<=y
 ·have d:decide (0<=y)=true:=by simpa using h
  go_enter func69,ntmps69;go_wp2_with fail
  go_ret;exact⟨by simp[h],rfl⟩
 ·have d:decide (0<=y)=false:=by simpa using h
  go_enter func69,ntmps69;go_wp2_with fail
  go_ret;exact⟨by simp,rfl⟩
theorem ξ15(y:Int)(w:World)(h0:0<=y)(h1:y<=1099511627776) :
 Calls prog 69 #[.int .i64 y] w λe w'=>e=.returned (.bool true)/\w'=w:=by
 have:=ξ1U y w;rw[show decide (0<=y/\y<=1099511627776)=true by simp[h0,h1]]at this;exact this
theorem ξ72(y:Int)(w:World)(h:y<0∨1099511627776<y) :
 Calls prog 69 #[.int .i64 y] w λe w'=>e=.returned (.bool false)/\w'=w:=by
 have:=ξ1U y w;rw[show decide (0<=y/\y<=1099511627776)=false by simp;omega]at this;exact this
theorem ξ1r(b:Nat)(nx y:Int)(w:World)(h:w.cell? ⟨b,2,none⟩=some (.int .i64 nx))(h0:-1<=nx)(h1:nx<=1099511627777)(h2:0<=y)(h3:y<=1099511627776) :
 Calls prog 70 #[.pointer (some ⟨b,0,none⟩),.int .i64 y] w λe w'=>e=.returned (.bool (far nx y))/\w'=w:=by
 by_cases c:nx=-1
 ·have e:far nx y=false:=by simp[far,c]
  rw[e];subst c;clear e;go_enter func70,ntmps70;go_wp2_with fail
  go_ret;exact⟨rfl,rfl⟩
 ·have e:far nx y=decide (200<=y-nx):=by simp[far,c]
  rw[e];clear e;have d1:(nx==-1)=false:=by simpa using c
  have d2:(nx != -1)=true:=by simpa using c
  clear c;go_enter func70,ntmps70;go_wp2_with fail
  go_ret;exact⟨rfl,rfl⟩
theorem ξI(b mb:Nat)(wt nw nx y:Int)(M:Its)(w:World)(h:ξ1 w b mb wt nw nx M)(hw:(Lit.int .i64 y).wf=true) :
 Calls prog 77 #[.pointer (some ⟨b,0,none⟩),.int .i64 y] w λe w'=>e=.returned (.bool (has M y))/\Below w.heap.size w w':=by
 obtain⟨v,hl,n,g,s,t,l,q,st,a,m,c,z,rfl⟩:=look_ok h hw;obtain⟨c0,c1,c2,c3⟩:=h.cells;generalize has M y=hb at *;clear h c0 c1 c2;go_enter func77,ntmps77;go_wp2_with fail
 go_ret;exact⟨rfl,(Ξp _ _).alloc (Ξo _) _⟩
theorem ξ6H{fn:Func}{gn:Bool}{v:Int}{cap:Nat}(hf:fn.results=#[.cell i 82])(hi:tmps.getD i undef=.pointer (some ⟨g,0,none⟩))(hb:w.heap[g]?=some (.cells #[.int .i64 n,.bool gn,.int .i64 s,.int .i64 t,.int .i64 l,.int .i64 v,.bool st,.slice a m cap] 82 (0,0))) :
 (results fn tmps).run prog w=.ok (.agg #[.int .i64 n,.bool gn,.int .i64 s,.int .i64 t,.int .i64 l,.int .i64 v,.bool st,.slice a m cap]) w:=by
 have c0:w.cell? ⟨g,0,none⟩=some (.int .i64 n):=by simp[World.cell?,hb]
 have c1:w.cell? ⟨g,1,none⟩=some (.bool gn):=by simp[World.cell?,hb]
 have c2:w.cell? ⟨g,2,none⟩=some (.int .i64 s):=by simp[World.cell?,hb]
 have c3:w.cell? ⟨g,3,none⟩=some (.int .i64 t):=by simp[World.cell?,hb]
 have c4:w.cell? ⟨g,4,none⟩=some (.int .i64 l):=by simp[World.cell?,hb]
 have c5:w.cell? ⟨g,5,none⟩=some (.int .i64 v):=by simp[World.cell?,hb]
 have c6:w.cell? ⟨g,6,none⟩=some (.bool st):=by simp[World.cell?,hb]
 have c7:w.cell? ⟨g,7,none⟩=some (.slice a m cap):=by simp[World.cell?,hb]
 have ae:tmps[i]?.getD undef=.pointer (some ⟨g,0,none⟩):=by simpa using hi
 simp[results,hf,ae,go_sem,c0,c1,c2,c3,c4,c5,c6,c7]
theorem ξ3b(y:Int)(w:World) :
 Calls prog 75 #[.int .i64 y] w λe w'=>e=.returned (.agg #[.int .i64 y,.bool true,.int .i64 0,.int .i64 0,.int .i64 0,.int .i64 0,.bool false,.slice none 0 0])/\Below w.heap.size w w':=by
 go_enter func75,ntmps75;go_wp2_with fail
 refine bodyPost_ret (ξ6H (g:=w.heap.size) rfl rfl (heap_alloc_new w _)) rfl ?_;exact⟨rfl,(Ξp _ _).alloc (Ξo _) _⟩
theorem A8j(hh:W.heap[g]?=some (.cells #[z0,z1,z2,z3,z4,z5] 38 (0,0)))(s t l v:Int)(st:Bool)(bv:Value) :
 Box ((((((W.setCell ⟨g,0,none⟩ (.int .i64 s)).setCell ⟨g,1,none⟩ (.int .i64 t)).setCell ⟨g,2,none⟩ (.int .i64 l)).setCell ⟨g,3,none⟩ (.int .i64 v)).setCell ⟨g,4,none⟩ (.bool st)).setCell ⟨g,5,none⟩ bv) g s t l v st bv:=by
 have h0:=heap_setCell_same _ _ 0 _ _ (.int .i64 s) hh;have h1:=heap_setCell_same _ _ 1 _ _ (.int .i64 t) h0;have h2:=heap_setCell_same _ _ 2 _ _ (.int .i64 l) h1;have h3:=heap_setCell_same _ _ 3 _ _ (.int .i64 v) h2;have h4:=heap_setCell_same _ _ 4 _ _ (.bool st) h3;have h5:=heap_setCell_same _ _ 5 _ _ bv h4;exact h5
theorem A6a(h:Only bs w W)(hg:g∈bs)(v0 v1 v2 v3 v4 v5:Value) :
 Only bs w ((((((W.setCell ⟨g,0,none⟩ v0).setCell ⟨g,1,none⟩ v1).setCell ⟨g,2,none⟩ v2).setCell ⟨g,3,none⟩ v3).setCell ⟨g,4,none⟩ v4).setCell ⟨g,5,none⟩ v5):=
 (((((h.setCell hg _).setCell hg _).setCell hg _).setCell hg _).setCell hg _).setCell hg _
theorem A6b(hh:W.heap[g]?=some (.cells #[z0,z1,z2,z3,z4,z5] 38 (0,0))):Pack.Open W g z0 z1 z2 z3 z4 z5:=by
 simp[Pack.Open,World.cell?,World.frozen?,hh]
theorem ξ1X(s t l q:Int)(st:Bool)(a:Option Addr)(m cap:Nat)(L:List Nat)(w:World)(h:Arg w a m L)(hn:a=none->m=0/\cap=0)(hm:m<=1000) :
 Calls prog 72 #[.agg #[.int .i64 s,.int .i64 t,.int .i64 l,.int .i64 q,.bool st,.slice a m cap]] w λe w'=>∃a' c',e=.returned (.agg #[.int .i64 s,.int .i64 t,.int .i64 l,.int .i64 q,.bool st,.slice a' m c']) /\
  w'.ownsRow 0 5 1 (.slice a' m c') m (cellsOf L)/\Below w.heap.size w w':=by
 obtain⟨i0,am,aq,au,aw⟩:=info_parts info5;have hl:∀x∈L,x<256:=h.1.1;have HA:=ξ0 h;have HN:=ξ0 hn;have HL:=ξ0 hl;have hw:∀O1 O2,Below w.heap.size w ((w.alloc O1).alloc O2):=λO1 O2=>((Ξp _ _).alloc (Ξo _) _).alloc (by simp) _;have HW:=ξ0 hw;clear h hn hl hw;go_enter func72,ntmps72;go_wp2_with (at_builtin;refine ξ1N rfl _ _ 36 rfl (w.heap.size+2) 5 i0 (.int .u8 0) 1 1 underlying36 am aq au aw rfl (by decide) _ 0 [] rfl (Ξr _ _ _ _) a m cap (cellsOf L) rfl ?al HN.out ?ac (cells_one L) ?b1 ?b2 ?b3 ?next)
 case al=>rw[ξw,HA.out.2.1];omega
 case ac=>exact ξz (HA.out.1.below (HW.out _ _))
 case b1=>unfold maxLen;omega
 case b2=>omega
 case b3=>simp
 case next=>
  intro v1 w1 ah ae;have hx:w1.heap[w.heap.size]?=some (.cells #[.int .i64 s,.int .i64 t,.int .i64 l,.int .i64 q,.bool st,.slice a m cap] 38 (0,0)):=
   (ae.block _ (by simp;omega) (by simp[Value.ownBlock])).trans ((Below.heap_alloc _ _ _ (by simp)).trans (heap_alloc_new w _))
  have hy:w1.heap[w.heap.size+1]?=some (.cells #[.int .i64 0,.int .i64 0,.int .i64 0,.int .i64 0,.bool false,.slice none 0 0] 38 (0,0)):=by
   refine(ae.block _ (by simp) (by simp[Value.ownBlock])).trans ?_;have:=heap_alloc_new (w.alloc (.cells #[.int .i64 s,.int .i64 t,.int .i64 l,.int .i64 q,.bool st,.slice a m cap] 38)) (.cells #[.int .i64 0,.int .i64 0,.int .i64 0,.int .i64 0,.bool false,.slice none 0 0] 38);simpa using this
  have aj:Hid (Below w.heap.size w w1):=(HW.out _ _).grown ae (by simp;omega) (by simp[Value.ownBlock]);obtain⟨a',c',rfl,_,_,_,ai⟩:=ξy (L:=L) ah HL.out (by omega);have HO:Hid (w1.ownsRow (w.heap.size+2) 5 1 (.slice a' m c') m (cellsOf L)):=ah;have HX:=ξ0 hx;have HY:=ξ0 hy;have HF:=ξ0 ai;clear ah ae ai hx hy;obtain⟨⟨c0,c1,c2,c3,c4,c5⟩,f0,f1,f2,f3,f4,f5⟩:=A6b HX.out;obtain⟨⟨d0,d1,d2,d3,d4,d5⟩,g0,g1,g2,g3,g4,g5⟩:=A6b HY.out;go_wp2_with fail;have hz:(w1.setCell ⟨w.heap.size,5,none⟩ (.slice a' m c')).heap[w.heap.size+1]?=some (.cells #[.int .i64 0,.int .i64 0,.int .i64 0,.int .i64 0,.bool false,.slice none 0 0] 38 (0,0)):=(Below.heap_setCell _ _ _ _ (by simp)).trans HY.out;have ho:Only [w.heap.size,w.heap.size+1] w1 _:=A6a (g:=w.heap.size+1) ((Only.refl _ w1).setCell (p:=⟨w.heap.size,5,none⟩) (by simp) (.slice a' m c')) (by simp) (.int .i64 s) (.int .i64 t) (.int .i64 l) (.int .i64 q) (.bool st) (.slice a' m c');refine bodyPost_ret (ξ56 (g:=w.heap.size+1) rfl rfl (A8j hz s t l q st _)) rfl ?_;refine⟨a',c',rfl,ξv (ho.owns HO.out ?_) (Nat.zero_le _),aj.out.trans (ho.below aj.out.size (by simp))⟩;intro k hk hc;cases a' with
  | none=>simp[Value.ownBlock]at hk
  | some ad=>
    obtain⟨g,rfl,hg⟩:=HF.out ad rfl;simp[Value.ownBlock]at hk;simp at hc;omega
def A1a(w:World)(h:Nat)(n:Int)(g:Bool)(s t l q:Int)(st:Bool)(bv:Value):Prop:=w.heap[h]?=some (.cells #[.int .i64 n,.bool g,.int .i64 s,.int .i64 t,.int .i64 l,.int .i64 q,.bool st,bv] 82 (0,0))
theorem A1a.new(w:World)(n:Int)(g:Bool)(s t l q:Int)(st:Bool)(bv:Value):A1a (w.alloc (.cells #[.int .i64 n,.bool g,.int .i64 s,.int .i64 t,.int .i64 l,.int .i64 q,.bool st,bv] 82)) w.heap.size n g s t l q st bv:=heap_alloc_new w _
theorem A1a.lt{g:Bool}(hx:A1a w h n g s t l q st bv):h<w.heap.size:=lt_of_block hx
theorem A1a.below{g:Bool}(hx:A1a w h n g s t l q st bv)(hb:Below B w w')(hB:h<B):A1a w' h n g s t l q st bv:=(hb.block h hB).trans hx
theorem A1a.alloc{g:Bool}(hx:A1a w h n g s t l q st bv)(o:Obj):A1a (w.alloc o) h n g s t l q st bv:=(Below.heap_alloc _ _ _ hx.lt).trans hx
theorem A1a.cells{g:Bool}(hx:A1a w h n g s t l q st bv) :
 w.cell? ⟨h,0,none⟩=some (.int .i64 n)/\w.cell? ⟨h,1,none⟩=some (.bool g)/\w.cell? ⟨h,2,none⟩=some (.int .i64 s)/\w.cell? ⟨h,3,none⟩=some (.int .i64 t)/\w.cell? ⟨h,4,none⟩=some (.int .i64 l)/\w.cell? ⟨h,5,none⟩=some (.int .i64 q)/\w.cell? ⟨h,6,none⟩=some (.bool st)/\w.cell? ⟨h,7,none⟩=some bv:=by
 simp only[A1a]at hx;simp[World.cell?,hx]
theorem A1a.free{g:Bool}(hx:A1a w h n g s t l q st bv)(j:Nat):w.frozen? ⟨h,j,none⟩=false:=by
 simp only[A1a]at hx;simp[World.frozen?,hx]
theorem ξdn(b mb:Nat)(wt nw nx now n:Int)(g:Bool)(s t l q:Int)(st:Bool)(bv:Value)(M:Its)(w:World)(h:ξ1 w b mb wt nw nx M)(hn:n<nx) :
 Calls prog 71 #[.pointer (some ⟨b,0,none⟩),.agg #[.int .i64 n,.bool g,.int .i64 s,.int .i64 t,.int .i64 l,.int .i64 q,.bool st,bv],.int .i64 now] w λe w'=>e=.returned (.bool false)/\Below w.heap.size w w':=by
 have HX:=ξ0 (A1a.new w n g s t l q st bv);have HO:=ξ0 (h.alloc (.cells #[.int .i64 n,.bool g,.int .i64 s,.int .i64 t,.int .i64 l,.int .i64 q,.bool st,bv] 82));obtain⟨c0,c1,c2,c3⟩:=HO.out.cells;obtain⟨x0,_⟩:=HX.out.cells;have d:decide (n<nx)=true:=by simpa using hn
 clear h c0 c1 c3;go_enter func71,ntmps71;go_wp2_with fail
 go_quiet (fail)
 go_wp2_with fail
 go_ret;exact⟨rfl,below_drewN ((Ξp _ _).alloc (Ξo _) _) _⟩
def KSt(w W:World)(b mb:Nat)(wt nw nx:Int)(M:Its)(n:Int)(g:Bool)(s t l q:Int)(st:Bool)(bv:Value):Prop:=
 ξ1 W b mb wt nw nx M/\Below w.heap.size w W/\A1a W w.heap.size n g s t l q st bv
theorem ξdp(b mb:Nat)(wt nw nx now n:Int)(g:Bool)(s t l q:Int)(st:Bool)(bv:Value)(M:Its)(w:World)(h:ξ1 w b mb wt nw nx M)(hn:¬n<nx)(hw:(Lit.int .i64 n).wf=true)(hh:has M n=true) :
 Calls prog 71 #[.pointer (some ⟨b,0,none⟩),.agg #[.int .i64 n,.bool g,.int .i64 s,.int .i64 t,.int .i64 l,.int .i64 q,.bool st,bv],.int .i64 now] w λe w'=>e=.returned (.bool false)/\Below w.heap.size w w':=by
 have ae:Hid (KSt w (w.alloc (.cells #[.int .i64 n,.bool g,.int .i64 s,.int .i64 t,.int .i64 l,.int .i64 q,.bool st,bv] 82)) b mb wt nw nx M n g s t l q st bv):=⟨h.alloc _,(Ξp _ _).alloc (Ξo _) _,A1a.new w n g s t l q st bv⟩;have HH:Hid (∀W,(W.cell? ⟨w.heap.size,0,none⟩=some (.int .i64 n)/\W.cell? ⟨b,2,none⟩=some (.int .i64 nx)/\Hid (KSt w W b mb wt nw nx M n g s t l q st bv))->Calls prog 77 #[.pointer (some ⟨b,0,none⟩),.int .i64 n] W λe w'=>e=.returned (.bool true)/\(w'.cell? ⟨w.heap.size,0,none⟩=some (.int .i64 n)/\w'.cell? ⟨b,2,none⟩=some (.int .i64 nx)/\Hid (KSt w w' b mb wt nw nx M n g s t l q st bv))):=by
  refine ξ0 ?_;rintro W ⟨_,_,hS⟩;refine(ξI b mb wt nw nx n M W hS.out.1 hw).mono ?_;rintro e w' ⟨rfl,hb⟩;have ah:KSt w w' b mb wt nw nx M n g s t l q st bv:=⟨hS.out.1.below hb,hS.out.2.1.trans (hb.mono hS.out.2.1.size),hS.out.2.2.below hb hS.out.2.2.lt⟩;exact⟨by rw[hh],ah.2.2.cells.1,ah.1.cells.2.2.1,ah⟩
 have d:decide (n<nx)=false:=by simpa using hn
 clear h hh;have aj:((w.alloc (.cells #[.int .i64 n,.bool g,.int .i64 s,.int .i64 t,.int .i64 l,.int .i64 q,.bool st,bv] 82)).drew.cell? ⟨w.heap.size,0,none⟩=some (.int .i64 n)/\(w.alloc (.cells #[.int .i64 n,.bool g,.int .i64 s,.int .i64 t,.int .i64 l,.int .i64 q,.bool st,bv] 82)).drew.cell? ⟨b,2,none⟩=some (.int .i64 nx)/\Hid (KSt w (w.alloc (.cells #[.int .i64 n,.bool g,.int .i64 s,.int .i64 t,.int .i64 l,.int .i64 q,.bool st,bv] 82)).drew b mb wt nw nx M n g s t l q st bv)):=⟨ae.out.2.2.cells.1,ae.out.1.cells.2.2.1,ξ0 ⟨ae.out.1.below ((Ξp _ _).drew),ae.out.2.1.drew,ae.out.2.2⟩⟩;go_enter func71,ntmps71;go_wp2_with fail
 go_region_held3 (λw'=>w'.cell? ⟨w.heap.size,0,none⟩=some (.int .i64 n)/\w'.cell? ⟨b,2,none⟩=some (.int .i64 nx)/\Hid (KSt w w' b mb wt nw nx M n g s t l q st bv)) (with_reducible assumption) (first|(go_at_call 77;refine(HH.out _ (by with_reducible assumption)).mono ?_;rintro e w7 ⟨rfl,ai⟩))
 go_wp2_with fail
 go_ret;exact⟨rfl,ai.2.2.out.2.1⟩
theorem ξdo(b mb:Nat)(wt nw nx now n:Int)(g:Bool)(s t l q:Int)(st:Bool)(a:Option Addr)(m c:Nat)(L:List Nat)(M:Its)(w:World)(h:ξ1 w b mb wt nw nx M)(hl:M.length<=1000)(hn:¬n<nx)(hw:(Lit.int .i64 n).wf=true)(hh:has M n=false)(hB:Body w ⟨s,t,l,q,st,L,.slice a m c⟩) :
 Calls prog 71 #[.pointer (some ⟨b,0,none⟩),.agg #[.int .i64 n,.bool g,.int .i64 s,.int .i64 t,.int .i64 l,.int .i64 q,.bool st,.slice a m c],.int .i64 now] w λe w'=>e=.returned (.bool true)/\ξ1 w' b mb wt nw nx (M++[⟨n,g,⟨s,t,l,q,st,L,.slice a m c⟩,now⟩])/\Only [mb] w w':=by
 obtain⟨M2,ai⟩:∃M2:Its,M++[⟨n,g,⟨s,t,l,q,st,L,.slice a m c⟩,now⟩]=M2:=⟨_,rfl⟩;rw[ai];have ae:Hid (KSt w (w.alloc (.cells #[.int .i64 n,.bool g,.int .i64 s,.int .i64 t,.int .i64 l,.int .i64 q,.bool st,.slice a m c] 82)) b mb wt nw nx M n g s t l q st (.slice a m c)):=⟨h.alloc _,(Ξp _ _).alloc (Ξo _) _,A1a.new w n g s t l q st (.slice a m c)⟩;have HH:Hid (∀W,(W.cell? ⟨w.heap.size,0,none⟩=some (.int .i64 n)/\W.cell? ⟨b,2,none⟩=some (.int .i64 nx)/\Hid (KSt w W b mb wt nw nx M n g s t l q st (.slice a m c)))->Calls prog 77 #[.pointer (some ⟨b,0,none⟩),.int .i64 n] W λe w'=>e=.returned (.bool false)/\(w'.cell? ⟨w.heap.size,0,none⟩=some (.int .i64 n)/\w'.cell? ⟨b,2,none⟩=some (.int .i64 nx)/\Hid (KSt w w' b mb wt nw nx M n g s t l q st (.slice a m c)))):=by
  refine ξ0 ?_;rintro W ⟨_,_,hS⟩;refine(ξI b mb wt nw nx n M W hS.out.1 hw).mono ?_;rintro e w' ⟨rfl,hb⟩;have aj:KSt w w' b mb wt nw nx M n g s t l q st (.slice a m c):=⟨hS.out.1.below hb,hS.out.2.1.trans (hb.mono hS.out.2.1.size),hS.out.2.2.below hb hS.out.2.2.lt⟩;exact⟨by rw[hh],aj.2.2.cells.1,aj.1.cells.2.2.1,aj⟩
 have HSt:Hid (∀W,KSt w W b mb wt nw nx M n g s t l q st (.slice a m c)->∃w2,(Instr.mapUpdate 124 (.map (some mb)) (.int .i64 n) (.agg #[.int .i64 n,.bool g,.int .i64 s,.int .i64 t,.int .i64 l,.int .i64 q,.bool st,.slice a m c,.int .i64 now])).run prog W=.ok () w2/\Hid (ξ1 w2 b mb wt nw nx M2/\Only [mb] w w2)):=by
  refine ξ0 ?_;intro W hW;obtain⟨w2,h1,h2,h3⟩:=ξ3m hW.1 ⟨n,g,⟨s,t,l,q,st,L,.slice a m c⟩,now⟩ hh hw hl (hB.only (Only.of_below hW.2.1 []) (by simp));rw[ai]at h2;exact⟨w2,h1,h2,(Only.of_below hW.2.1 _).trans h3⟩
 have d:decide (n<nx)=false:=by simpa using hn
 clear h hh ai hB;have aq:((w.alloc (.cells #[.int .i64 n,.bool g,.int .i64 s,.int .i64 t,.int .i64 l,.int .i64 q,.bool st,.slice a m c] 82)).drew.cell? ⟨w.heap.size,0,none⟩=some (.int .i64 n)/\(w.alloc (.cells #[.int .i64 n,.bool g,.int .i64 s,.int .i64 t,.int .i64 l,.int .i64 q,.bool st,.slice a m c] 82)).drew.cell? ⟨b,2,none⟩=some (.int .i64 nx)/\Hid (KSt w (w.alloc (.cells #[.int .i64 n,.bool g,.int .i64 s,.int .i64 t,.int .i64 l,.int .i64 q,.bool st,.slice a m c] 82)).drew b mb wt nw nx M n g s t l q st (.slice a m c))):=⟨ae.out.2.2.cells.1,ae.out.1.cells.2.2.1,ξ0 ⟨ae.out.1.below ((Ξp _ _).drew),ae.out.2.1.drew,ae.out.2.2⟩⟩;go_enter func71,ntmps71;go_wp2_with fail
 go_region_held3 (λw'=>w'.cell? ⟨w.heap.size,0,none⟩=some (.int .i64 n)/\w'.cell? ⟨b,2,none⟩=some (.int .i64 nx)/\Hid (KSt w w' b mb wt nw nx M n g s t l q st (.slice a m c))) (with_reducible assumption) (first|(go_at_call 77;refine(HH.out _ (by with_reducible assumption)).mono ?_;rintro e w7 ⟨rfl,am⟩))
 have ah:=am.2.2;clear am aq ae HH;have au:Hid (KSt w w7.drew b mb wt nw nx M n g s t l q st (.slice a m c)):=ξ0 ⟨ah.out.1.below ((Ξp _ _).drew),ah.out.2.1.drew,ah.out.2.2⟩;obtain⟨w2,aw,HQ⟩:=HSt.out _ au.out;obtain⟨c0,c1,c2,c3⟩:=ah.out.1.cells;obtain⟨x0,x1,x2,x3,x4,x5,x6,x7⟩:=ah.out.2.2.cells;clear HSt;go_wp2_with fail;go_region
 all_goals go_wp2_with fail
 all_goals go_ret
 all_goals exact⟨rfl,HQ.out⟩
theorem ξ27(b mb:Nat)(wt nw nx now n:Int)(g:Bool)(s t l q:Int)(st:Bool)(a:Option Addr)(m c:Nat)(L:List Nat)(M:Its)(w:World)(h:ξ1 w b mb wt nw nx M)(hl:M.length<=1000)(hw:(Lit.int .i64 n).wf=true)(hB:Body w ⟨s,t,l,q,st,L,.slice a m c⟩) :
 Calls prog 71 #[.pointer (some ⟨b,0,none⟩),.agg #[.int .i64 n,.bool g,.int .i64 s,.int .i64 t,.int .i64 l,.int .i64 q,.bool st,.slice a m c],.int .i64 now] w λe w'=>e=.returned (.bool (kx nx n M))/\ξ1 w' b mb wt nw nx (if kx nx n M then M++[⟨n,g,⟨s,t,l,q,st,L,.slice a m c⟩,now⟩]else M)/\Only [mb] w w':=by
 by_cases hn:n<nx
 ·have e:kx nx n M=false:=by simp[kx];omega
  rw[e];refine(ξdn b mb wt nw nx now n g s t l q st _ M w h hn).mono ?_;rintro e w' ⟨rfl,hb⟩;exact⟨rfl,h.below hb,Only.of_below hb _⟩
 by_cases hh:has M n=true
 ·have e:kx nx n M=false:=by simp[kx,hh]
  rw[e];refine(ξdp b mb wt nw nx now n g s t l q st _ M w h hn hw hh).mono ?_;rintro e w' ⟨rfl,hb⟩;exact⟨rfl,h.below hb,Only.of_below hb _⟩
 ·have ae:has M n=false:=by simpa using hh
  have e:kx nx n M=true:=by simp[kx,ae];omega
  rw[e];exact ξdo b mb wt nw nx now n g s t l q st a m c L M w h hl hn hw ae hB
theorem ξ5O{P:Program}{k:TypeId}{R:Value->Option (DataW Value×List MemPlace)}{r n:Nat}{D:DataW Value}(h:w.ranges P k R b r n D left cnt)(j:Nat):(w.drewN j).rangeLeft b r=cnt:=by
 have h':(w.drewN j).ranges P k R b r n D left cnt:=h;exact h'.left_eq
def LSt(w wr:World)(mb it:Nat)(wt now od:Int)(M:Its)(D:DataW Value)(left:Lit->Bool)(cnt:Nat):Prop:=
 wr.ranges prog 3 wtR mb it M.length D left cnt/\Below w.heap.size w wr/\w.heap.size<=it/\-1<=od/\(∀i∈M,left (key i.n)=false->late wt now i=true->i.n<=od)/\(od=-1∨∃i∈M,late wt now i=true/\od=i.n)
theorem ξ4e{w1:World}{it cnt1:Nat}{od od':Int}{D:DataW Value}{j:Kp}(h:LSt w wr mb it wt now od M D left cnt)(hb:Below w.heap.size wr w1)
 (hr:w1.ranges prog 3 wtR mb it M.length D (λz=>left z&&!z.sameKey (key j.n)) cnt1) (hj:j∈M) (hone:Apart M) (h0:0<=j.n) (hod:od'=if late wt now j then max od j.n else od):LSt w w1 mb it wt now od' M D (λz=>left z&&!z.sameKey (key j.n)) cnt1:=by
 obtain⟨g1,g2,g3,g4,g5,g6⟩:=h;refine⟨hr,g2.trans hb,g3,?_,?_,?_⟩
 ·rw[hod];split<;>omega
 ·intro i hi hl ae;by_cases e:i.n=j.n
  ·obtain rfl:i=j:=by rw[<-ξ4J hone hi,e,ξ4J hone hj]
   rw[hod,ae];simp;omega
  ·have hs:(key i.n).sameKey (key j.n)=false:=sameKey_ne (λh=>e (key_inj h));simp only[hs,Bool.not_false,Bool.and_true]at hl;have:=g5 i hi hl ae;rw[hod];split<;>omega
 ·rw[hod];split
  ·rename_i ae;rcases Int.le_total od j.n with hle|hle
   ·rw[Int.max_eq_right hle];exact .inr ⟨j,hj,ae,rfl⟩
   ·rw[Int.max_eq_left hle];exact g6
  ·exact g6
theorem ξ69(b mb:Nat)(wt nw nx now od:Int)(M:Its)(w:World)(h:ξ1 w b mb wt nw nx M)(hI:OM.Inv nw nx M)(hO:Od wt now M od)(h0:0<=now)(h1:now<=1000000) :
 Calls prog 76 #[.pointer (some ⟨b,0,none⟩),.int .i64 now] w λe w'=>e=.returned (.int .i64 od)/\Below w.heap.size w w':=by
 obtain⟨c0,c1,c2,c3⟩:=h.cells;obtain⟨D,aj,hK,hE⟩:=h.map;have aL:=h.lt;have HB:=ξ0 h.box;have HO:=ξ0 aj;have HK:=ξ0 hK;have HE:=ξ0 hE;have HI:=ξ0 hI;have aM:=ξ0 hO;have aO:=ξ0 h.bod;clear h aj hK hE hI hO;go_enter func76,ntmps76;go_wp2_with (at_range;refine wpList_range_own _ rfl _ 124 rfl 3 188 A09 underlying124 _ mb M.length D rfl HO.out ?_;intro w0 am aD aP)
 go_frame
 have aE:Hid (LSt w w0 mb w.heap.size wt now (-1) M D (Maps.has D) (Maps.size D)):=
  ⟨am,(Ξp _ _).grown aD (Ξo _) (by simp),Ξo _,Int.le_refl _,(λi hi hl=>by rw[(HK.out (key i.n)).2 ⟨i,hi,rfl⟩]at hl;cases hl),.inl rfl⟩
 clear am aD aP HO c0 c1 c2 c3;go_loopw [5] (λg' wr=>∃(m:Int) (left:Lit->Bool) (cnt:Nat),g'=.int .i64 m/\Hid (LSt w wr mb w.heap.size wt now m M D left cnt)) (λ_ wr=>wr.rangeLeft mb w.heap.size)
 case atStart=>exact⟨_,_,_,rfl,aE⟩
 case round=>
  obtain⟨m,left,cnt,rfl,HS⟩:=hrel;clear aE;go_wp2_with (at_next;refine wpList_next_ranges _ rfl _ rfl 3 A09 wtR (Value.int .i64) (λv:Value=>v) (λkey kl ah=>by obtain⟨x,rfl,_⟩:=Maps.keyOf_int_inv underlying3 ah;exact⟨x,rfl⟩) (λv y hv=>⟨v,rfl⟩) mb w.heap.size M.length D left cnt rfl HS.out.1 ?_ ?_)
  ·intro _ aQ;go_wp2_with fail;go_ret;obtain⟨g1,g2,g3,g4,g5,g6⟩:=HS.out;have e:m=od:=by
    obtain⟨k1,k2,k3⟩:=aM.out;have a1:m<=od:=by
     rcases g6 with e|⟨i,hi,hl,e⟩
     ·omega
     ·have:=k2 i hi hl;omega
    have a2:od<=m:=by
     rcases k3 with e|⟨i,hi,hl,e⟩
     ·omega
     ·have:=g5 i hi (aQ _) hl;omega
    omega
   exact⟨by rw[<-e];rfl,g2⟩
  ·intro x v kl yd yp w1 ae ah aS hv ay aq aT aF aU aG;obtain⟨x',ex,rfl,aV⟩:=Maps.keyOf_int_inv underlying3 ah;cases ex;obtain⟨i,hi,ei⟩:=(HK.out (key x)).1 (has_true_of_atKey ay);have au:i.n=x:=(key_inj ei).symm;have az:v=lv i:=by
    have h1:=HE.out i hi (.held v);have h2:=ay (.held v);rw[au]at h1;rw[show key x=Lit.int .i64 x from rfl]at h1;rw[h1]at h2;have h3:=(ξ4Y hv).2;simp only[Prod.mk.injEq]at h3;rw[h3.1]at h2;simpa using h2.symm
   have hm:=HI.out.mem i hi;obtain⟨a,mm,c,aH,_⟩:=aO.out i hi;have aI:w1.ranges prog 3 wtR mb w.heap.size M.length D (λz=>left z&&!z.sameKey (key i.n)) ae:=by rw[au];exact aq
   have aA:Below w.heap.size wr w1:=(Ξp _ _).grown aF HS.out.2.1.size (by simp);have HL:Hid (∀W od',Below w.heap.size w1 W->(W.ranges prog 3 wtR mb w.heap.size M.length D (λz=>left z&&!z.sameKey (key i.n)) ae)->od'=(if late wt now i then max m i.n else m)->LSt w W mb w.heap.size wt now od' M D (λz=>left z&&!z.sameKey (key i.n)) ae):=ξ0 (λW od' hb hr he=>ξ4e HS.out (aA.trans hb) hr hi HI.out.one hm.1 he);have ax:=ξ0 aI;have aW:=ξ0 hi;have aC:Below w.heap.size w w1:=HS.out.2.1.trans aA;have aJ:=ξ0 aC;obtain⟨k0,k1,k2,k3⟩:=A6m ((aC.block b aL.1).trans HB.out);have aX:=λO=>ξj k1 O;have HX:=ξ0 au;clear aq aF ah aS hv ay ei aI aA aC hi k0 k2 k3;unfold lv at az;rw[aH]at az;subst az;have ai:late wt now i=decide (wt<=now-i.a):=rfl;have aw:=ξ0 ai;obtain⟨z,hz⟩:=nm i.a;rw[hz]at aG hm aw;rw[au]at aG hm;clear hz ai aH au;obtain⟨_,_,_,_,aY,aZ⟩:=hm;have bh:z<=1000000:=by have:=HI.out.c2;omega
   by_cases hl:wt<=now-z
   ·have d:decide (wt<=now-z)=true:=by simpa using hl
    rw[d]at aw;go_wp2_with fail;go_quiet (fail)
    go_wp2_with fail
    go_roundw
    case rel=>
     refine⟨max m x,_,ae,congrArg (Value.int .i64) (by split<;>omega),HL.out _ _ (below_drewN ((Ξp _ _).alloc aJ.out.size _) _) (ax.out.alloc _) ?_⟩;rw[aw.out,HX.out];rfl
    case measure=>rw[ξ5O (ax.out.alloc _),HS.out.1.left_eq];omega
   ·have d:decide (wt<=now-z)=false:=by simpa using hl
    rw[d]at aw;go_wp2_with fail;go_quiet (fail)
    go_wp2_with fail
    go_roundw
    case rel=>
     refine⟨m,_,ae,rfl,HL.out _ _ (below_drewN ((Ξp _ _).alloc aJ.out.size _) _) (ax.out.alloc _) ?_⟩;rw[aw.out];rfl
    case measure=>rw[ξ5O (ax.out.alloc _),HS.out.1.left_eq];omega
theorem A86{z6 z7:Value}(hh:W.heap[h]?=some (.cells #[z0,z1,z2,z3,z4,z5,z6,z7] 82 (0,0)))(n:Int)(g:Bool)(s t l q:Int)(st:Bool)(bv:Value) :
 A1a ((((((((W.setCell ⟨h,0,none⟩ (.int .i64 n)).setCell ⟨h,1,none⟩ (.bool g)).setCell ⟨h,2,none⟩ (.int .i64 s)).setCell ⟨h,3,none⟩ (.int .i64 t)).setCell ⟨h,4,none⟩ (.int .i64 l)).setCell ⟨h,5,none⟩ (.int .i64 q)).setCell ⟨h,6,none⟩ (.bool st)).setCell ⟨h,7,none⟩ bv) h n g s t l q st bv:=by
 have h0:(W.setCell ⟨h,0,none⟩ (.int .i64 n)).heap[h]?=some (.cells #[.int .i64 n,z1,z2,z3,z4,z5,z6,z7] 82 (0,0)):=heap_setCell_same _ _ 0 _ _ (.int .i64 n) hh;have h1:((W.setCell ⟨h,0,none⟩ (.int .i64 n)).setCell ⟨h,1,none⟩ (.bool g)).heap[h]?=some (.cells #[.int .i64 n,.bool g,z2,z3,z4,z5,z6,z7] 82 (0,0)):=heap_setCell_same _ _ 1 _ _ (.bool g) h0;have h2:(((W.setCell ⟨h,0,none⟩ (.int .i64 n)).setCell ⟨h,1,none⟩ (.bool g)).setCell ⟨h,2,none⟩ (.int .i64 s)).heap[h]?=some (.cells #[.int .i64 n,.bool g,.int .i64 s,z3,z4,z5,z6,z7] 82 (0,0)):=heap_setCell_same _ _ 2 _ _ (.int .i64 s) h1;have h3:((((W.setCell ⟨h,0,none⟩ (.int .i64 n)).setCell ⟨h,1,none⟩ (.bool g)).setCell ⟨h,2,none⟩ (.int .i64 s)).setCell ⟨h,3,none⟩ (.int .i64 t)).heap[h]?=some (.cells #[.int .i64 n,.bool g,.int .i64 s,.int .i64 t,z4,z5,z6,z7] 82 (0,0)):=heap_setCell_same _ _ 3 _ _ (.int .i64 t) h2;have h4:(((((W.setCell ⟨h,0,none⟩ (.int .i64 n)).setCell ⟨h,1,none⟩ (.bool g)).setCell ⟨h,2,none⟩ (.int .i64 s)).setCell ⟨h,3,none⟩ (.int .i64 t)).setCell ⟨h,4,none⟩ (.int .i64 l)).heap[h]?=some (.cells #[.int .i64 n,.bool g,.int .i64 s,.int .i64 t,.int .i64 l,z5,z6,z7] 82 (0,0)):=heap_setCell_same _ _ 4 _ _ (.int .i64 l) h3;have h5:((((((W.setCell ⟨h,0,none⟩ (.int .i64 n)).setCell ⟨h,1,none⟩ (.bool g)).setCell ⟨h,2,none⟩ (.int .i64 s)).setCell ⟨h,3,none⟩ (.int .i64 t)).setCell ⟨h,4,none⟩ (.int .i64 l)).setCell ⟨h,5,none⟩ (.int .i64 q)).heap[h]?=some (.cells #[.int .i64 n,.bool g,.int .i64 s,.int .i64 t,.int .i64 l,.int .i64 q,z6,z7] 82 (0,0)):=heap_setCell_same _ _ 5 _ _ (.int .i64 q) h4;have h6:(((((((W.setCell ⟨h,0,none⟩ (.int .i64 n)).setCell ⟨h,1,none⟩ (.bool g)).setCell ⟨h,2,none⟩ (.int .i64 s)).setCell ⟨h,3,none⟩ (.int .i64 t)).setCell ⟨h,4,none⟩ (.int .i64 l)).setCell ⟨h,5,none⟩ (.int .i64 q)).setCell ⟨h,6,none⟩ (.bool st)).heap[h]?=some (.cells #[.int .i64 n,.bool g,.int .i64 s,.int .i64 t,.int .i64 l,.int .i64 q,.bool st,z7] 82 (0,0)):=heap_setCell_same _ _ 6 _ _ (.bool st) h5;have h7:((((((((W.setCell ⟨h,0,none⟩ (.int .i64 n)).setCell ⟨h,1,none⟩ (.bool g)).setCell ⟨h,2,none⟩ (.int .i64 s)).setCell ⟨h,3,none⟩ (.int .i64 t)).setCell ⟨h,4,none⟩ (.int .i64 l)).setCell ⟨h,5,none⟩ (.int .i64 q)).setCell ⟨h,6,none⟩ (.bool st)).setCell ⟨h,7,none⟩ bv).heap[h]?=some (.cells #[.int .i64 n,.bool g,.int .i64 s,.int .i64 t,.int .i64 l,.int .i64 q,.bool st,bv] 82 (0,0)):=heap_setCell_same _ _ 7 _ _ bv h6;exact h7
theorem A1a.drew{g:Bool}(hx:A1a w h n g s t l q st bv):A1a w.drew h n g s t l q st bv:=hx
theorem A87(h:Only bs w W)(hg:g∈bs)(v0 v1 v2 v3 v4 v5 v6 v7:Value) :
 Only bs w ((((((((W.setCell ⟨g,0,none⟩ v0).setCell ⟨g,1,none⟩ v1).setCell ⟨g,2,none⟩ v2).setCell ⟨g,3,none⟩ v3).setCell ⟨g,4,none⟩ v4).setCell ⟨g,5,none⟩ v5).setCell ⟨g,6,none⟩ v6).setCell ⟨g,7,none⟩ v7):=by
 iterate 8 refine Only.setCell ?_ hg _
 exact h
theorem ξ35(h:ξ1 w b mb wt nw nx M){i:Kp}(hi:i∈M)(hw:(Lit.int .i64 i.n).wf=true) :
 (Instr.lookup 124 (.map (some mb)) (.int .i64 i.n) false).run prog w=.ok (lv i) w:=by
 obtain⟨D,ah,hK,hE⟩:=h.map;obtain⟨v',ps,ae,hr⟩:=ah.lookup A09 underlying124 (A85 w) (ξam 0 false 0 0 0 0 false none 0 0 0) (A05 hw);rw[hE i hi]at hr;have e:=(ξ4Y hr).2;simp only[Prod.mk.injEq,DataW.held.injEq]at e;rw[<-e.1]at ae;exact ae
theorem ξdP(w:World)(n:Int)(g:Bool)(s t l q:Int)(st:Bool)(a:Option Addr)(m c:Nat)(z:Int) :
 (Instr.field 188 (.agg #[.int .i64 n,.bool g,.int .i64 s,.int .i64 t,.int .i64 l,.int .i64 q,.bool st,.slice a m c,.int .i64 z]) 0).run prog w=.ok (.agg #[.int .i64 n,.bool g,.int .i64 s,.int .i64 t,.int .i64 l,.int .i64 q,.bool st,.slice a m c]) w:=by
 kernel_rfl
theorem ξ37{g:Bool}(hx:A1a w h n g s t l q st bv)(ho:ξ1 w b mb wt nw nx M):¬h=mb:=by
 obtain⟨D,h2,_⟩:=ho.map;obtain⟨es,c,h3⟩:=ξd h2;intro e;rw[A1a,e,h3]at hx;simp at hx
theorem ξ3k(b mb:Nat)(wt nw nx:Int)(M:Its)(w:World)(h:ξ1 w b mb wt nw nx M)(h1:Apart M)(h0:-1<=nx)(h2:nx<=1099511627777)(hh:has M nx=false) :
 Calls prog 78 #[.pointer (some ⟨b,0,none⟩)] w λe w'=>e=.returned (.agg #[.int .i64 nx,.bool true,.int .i64 0,.int .i64 0,.int .i64 0,.int .i64 0,.bool false,.slice none 0 0])/\ξ1 w' b mb wt nw (nx+1) (M.filter λi=>decide (i.n≠nx))/\Only [b,mb] w w':=by
 obtain⟨M2,ay⟩:∃M2:Its,(M.filter λi=>decide (i.n≠nx))=M2:=⟨_,rfl⟩;rw[ay];have aH:=ξJ (y:=nx) (by omega) (by omega);have HH:Hid (∀W,ξ1 W b mb wt nw nx M->Calls prog 77 #[.pointer (some ⟨b,0,none⟩),.int .i64 nx] W λe w'=>e=.returned (.bool false)/\Below W.heap.size W w'):=by
  refine ξ0 (λW hW=>(ξI b mb wt nw nx nx M W hW aH).mono ?_);rintro e w' ⟨rfl,hb⟩;exact⟨by rw[hh],hb⟩
 have HD:Hid (∀W,ξ1 W b mb wt nw nx M->∀ty,∃w2,(Builtin.delete_ #[124,3] ty #[.map (some mb),.int .i64 nx]).run prog W=.ok (.tuple #[]) w2/\ξ1 w2 b mb wt nw nx M2/\Only [mb] W w2):=by
  refine ξ0 (λW hW ty=>?_);obtain⟨D,az,hK,hE⟩:=hW.map;obtain⟨w2,aA,ah,ai⟩:=az.drop A09 underlying124 (A05 aH) ty;have ho:Only [mb] W w2:=(Only.refl [mb] _).grown ai.grown (by simp);exact⟨w2,aA,by rw[<-ay];exact ξ3N hW hK hE h1 ah ho,ho⟩
 have HO:=ξ0 h;have HA:=ξ0 (λO=>h.alloc O);have c2:=λO=>(HA.out O).cells.2.2.1;clear h hh ay;go_enter func78,ntmps78;go_wp2_with fail
 refine(ξ3b nx _).mono ?_;rintro e w1 ⟨rfl,aC⟩;have aD:=ξu aC;have aI:=(A1a.new w 0 false 0 0 0 0 false (.slice none 0 0)).below aC (by simp);have aq:=ξ0 (HO.out.below aD);have au:=ξ0 aD;have aw:=ξ0 aI;have k2:=λO=>(aq.out.alloc O).cells.2.2.1;clear aD aI aC c2 HA;go_wp2_with fail;refine(HH.out _ (aq.out.alloc _)).mono ?_;rintro e w2 ⟨rfl,aj⟩;have ax:=ξ0 ((aq.out.alloc (.cells #[.int .i64 nx,.bool true,.int .i64 0,.int .i64 0,.int .i64 0,.int .i64 0,.bool false,.slice none 0 0] 82)).below aj);have aQ:=ξ0 ((au.out.alloc au.out.size (.cells #[.int .i64 nx,.bool true,.int .i64 0,.int .i64 0,.int .i64 0,.int .i64 0,.bool false,.slice none 0 0] 82)).trans (aj.mono (by have:=au.out.size;simp;omega)));have aJ:=ξ0 ((A1a.new w1 nx true 0 0 0 0 false (.slice none 0 0)).below aj (by simp));have aL:=ξ0 ((aw.out.alloc (.cells #[.int .i64 nx,.bool true,.int .i64 0,.int .i64 0,.int .i64 0,.int .i64 0,.bool false,.slice none 0 0] 82)).below aj (by have:=aw.out.lt;simp;omega));have aT:w.heap.size<w1.heap.size:=aw.out.lt;clear aj k2 aq au aw;obtain⟨c0,c1,c2,c3⟩:=ax.out.cells;have aM:Hid (ξ1 w2.drew b mb wt nw nx M):=ax.out.below ((Ξp _ _).drew);obtain⟨w3,aS,aO,am⟩:=HD.out _ aM.out 0;have aE:=ξ0 aO;have aF:=ξ0 am;clear aO am aM;have aG:A1a w3 w1.heap.size nx true 0 0 0 0 false (.slice none 0 0):=aF.out.block aJ.out (by simp;exact ξ37 aJ.out ax.out);have ae:A1a w3 w.heap.size 0 false 0 0 0 0 false (.slice none 0 0):=aF.out.block aL.out (by simp;exact ξ37 aL.out ax.out);have aU:=ξ0 aG;have aP:=ξ0 ae;obtain⟨x0,x1,x2,x3,x4,x5,x6,x7⟩:=aG.cells;obtain⟨r0,r1,r2,r3,r4,r5,r6,r7⟩:=ae.cells;have f0:=ae.free 0;have f1:=ae.free 1;have f2:=ae.free 2;have f3:=ae.free 3;have f4:=ae.free 4;have f5:=ae.free 5;have f6:=ae.free 6;have f7:=ae.free 7;obtain⟨e0,e1,e2,e3⟩:=aE.out.cells;have fb:=A5l aE.out.box 2;have aV:=HO.out.lt.1;have HF:Hid (ξ1 (w3.setCell ⟨b,2,none⟩ (.int .i64 (nx+1))) b mb wt nw (nx+1) M2):=aE.out.set 2 _ rfl;clear aG ae c0 c1 e0 e1 e3;go_wp2_with fail;go_region
 all_goals go_wp2_with fail
 have ho:=A87 (g:=w.heap.size) (Only.refl [w.heap.size] (w3.setCell ⟨b,2,none⟩ (.int .i64 (nx+1)))) (by simp) (.int .i64 nx) (.bool true) (.int .i64 0) (.int .i64 0) (.int .i64 0) (.int .i64 0) (.bool false) (.slice none 0 0);have hb:=A86 (h:=w.heap.size) ((Below.heap_setCell w3 ⟨b,2,none⟩ (.int .i64 (nx+1)) w.heap.size (by simp;omega)).trans aP.out) nx true 0 0 0 0 false (.slice none 0 0);refine bodyPost_ret (ξ6H (g:=w.heap.size) rfl rfl hb) rfl ?_;have aW:=HO.out.lt;refine⟨rfl,HF.out.only ho (by simp;omega) (by simp;omega) ?_,past (((Only.of_below aQ.out _).trans ((aF.out.mono (by simp)))).setCell (by simp) _) ho (by simp)⟩;intro k hk cs fr e;simp at hk;subst hk;rw[Below.heap_setCell w3 ⟨b,2,none⟩ (.int .i64 (nx+1)) w.heap.size (by simp;omega),aP.out]at e;simp at e
theorem ξcy(b mb:Nat)(wt nw nx:Int)(M:Its)(w:World)(h:ξ1 w b mb wt nw nx M)(h1:Apart M)(h0:-1<=nx)(h2:nx<=1099511627777)(i:Kp)(hi:i∈M)(hin:i.n=nx)(g:Bool)(s t l q:Int)(st:Bool)(a:Option Addr)(m c:Nat)(hlv:lv i=.agg #[.int .i64 nx,.bool g,.int .i64 s,.int .i64 t,.int .i64 l,.int .i64 q,.bool st,.slice a m c,.int .i64 i.a]) :
 Calls prog 78 #[.pointer (some ⟨b,0,none⟩)] w λe w'=>e=.returned (.agg #[.int .i64 nx,.bool g,.int .i64 s,.int .i64 t,.int .i64 l,.int .i64 q,.bool st,.slice a m c])/\ξ1 w' b mb wt nw (nx+1) (M.filter λi=>decide (i.n≠nx))/\Only [b,mb] w w':=by
 obtain⟨M2,aE⟩:∃M2:Its,(M.filter λi=>decide (i.n≠nx))=M2:=⟨_,rfl⟩;rw[aE];have aF:=ξJ (y:=nx) (by omega) (by omega);have hh:has M nx=true:=ξn.2 ⟨i,hi,hin⟩;have bj:Hid (∀W,ξ1 W b mb wt nw nx M->(Instr.lookup 124 (.map (some mb)) (.int .i64 nx) false).run prog W=.ok (.agg #[.int .i64 nx,.bool g,.int .i64 s,.int .i64 t,.int .i64 l,.int .i64 q,.bool st,.slice a m c,.int .i64 i.a]) W):=by
  refine ξ0 (λW hW=>?_);have:=ξ35 hW hi (by rw[hin];exact aF);rw[hin,hlv]at this;exact this
 have HH:Hid (∀W,ξ1 W b mb wt nw nx M->Calls prog 77 #[.pointer (some ⟨b,0,none⟩),.int .i64 nx] W λe w'=>e=.returned (.bool true)/\Below W.heap.size W w'):=by
  refine ξ0 (λW hW=>(ξI b mb wt nw nx nx M W hW aF).mono ?_);rintro e w' ⟨rfl,hb⟩;exact⟨by rw[hh],hb⟩
 have HD:Hid (∀W,ξ1 W b mb wt nw nx M->∀ty,∃w2,(Builtin.delete_ #[124,3] ty #[.map (some mb),.int .i64 nx]).run prog W=.ok (.tuple #[]) w2/\ξ1 w2 b mb wt nw nx M2/\Only [mb] W w2):=by
  refine ξ0 (λW hW ty=>?_);obtain⟨D,aG,hK,hE⟩:=hW.map;obtain⟨w2,aH,aj,am⟩:=aG.drop A09 underlying124 (A05 aF) ty;have ho:Only [mb] W w2:=(Only.refl [mb] _).grown am.grown (by simp);exact⟨w2,aH,by rw[<-aE];exact ξ3N hW hK hE h1 aj ho,ho⟩
 have HO:=ξ0 h;have HA:=ξ0 (λO=>h.alloc O);have c2:=λO=>(HA.out O).cells.2.2.1;generalize i.a=ia at *;clear h hh aE hi hin hlv;go_enter func78,ntmps78;go_wp2_with fail
 refine(ξ3b nx _).mono ?_;rintro e w1 ⟨rfl,aI⟩;have aJ:=ξu aI;have aS:=(A1a.new w 0 false 0 0 0 0 false (.slice none 0 0)).below aI (by simp);have ax:=ξ0 (HO.out.below aJ);have ay:=ξ0 aJ;have az:=ξ0 aS;have k2:=λO=>(ax.out.alloc O).cells.2.2.1;clear aJ aS aI c2 HA;go_wp2_with fail;refine(HH.out _ (ax.out.alloc _)).mono ?_;rintro e w2 ⟨rfl,aq⟩;have aA:=ξ0 ((ax.out.alloc (.cells #[.int .i64 nx,.bool true,.int .i64 0,.int .i64 0,.int .i64 0,.int .i64 0,.bool false,.slice none 0 0] 82)).below aq);have aL:=ξ0 ((ay.out.alloc ay.out.size (.cells #[.int .i64 nx,.bool true,.int .i64 0,.int .i64 0,.int .i64 0,.int .i64 0,.bool false,.slice none 0 0] 82)).trans (aq.mono (by have:=ay.out.size;simp;omega)));have ae:=ξ0 ((A1a.new w1 nx true 0 0 0 0 false (.slice none 0 0)).below aq (by simp));have aT:=ξ0 ((az.out.alloc (.cells #[.int .i64 nx,.bool true,.int .i64 0,.int .i64 0,.int .i64 0,.int .i64 0,.bool false,.slice none 0 0] 82)).below aq (by have:=az.out.lt;simp;omega));have bA:w.heap.size<w1.heap.size:=az.out.lt;clear aq k2 ax ay az;obtain⟨c0,c1,c2,c3⟩:=aA.out.cells;have au:Hid (ξ1 w2.drew b mb wt nw nx M):=aA.out.below ((Ξp _ _).drew);have bq:=bj.out _ au.out;have bu:=ξdP w2.drew nx g s t l q st a m c ia;obtain⟨x0,x1,x2,x3,x4,x5,x6,x7⟩:=ae.out.cells;have f0:=ae.out.free 0;have f1:=ae.out.free 1;have f2:=ae.out.free 2;have f3:=ae.out.free 3;have f4:=ae.out.free 4;have f5:=ae.out.free 5;have f6:=ae.out.free 6;have f7:=ae.out.free 7;go_wp2_with fail
 go_region
 all_goals go_wp2_with fail
 obtain⟨w5,aC⟩:=nm (((((((((w2.setCell ⟨w1.heap.size,0,none⟩ (.int .i64 nx)).setCell ⟨w1.heap.size,1,none⟩ (.bool g)).setCell ⟨w1.heap.size,2,none⟩ (.int .i64 s)).setCell ⟨w1.heap.size,3,none⟩ (.int .i64 t)).setCell ⟨w1.heap.size,4,none⟩ (.int .i64 l)).setCell ⟨w1.heap.size,5,none⟩ (.int .i64 q)).setCell ⟨w1.heap.size,6,none⟩ (.bool st)).setCell ⟨w1.heap.size,7,none⟩ (.slice a m c)).drew);rw[aC];have ai:Only [w1.heap.size] w2 w5:=by rw[<-aC];exact(A87 (g:=w1.heap.size) (Only.refl [w1.heap.size] w2) (by simp) _ _ _ _ _ _ _ _).drew
 have aU:A1a w5 w1.heap.size nx g s t l q st (.slice a m c):=by rw[<-aC];exact(A86 (W:=w2) ae.out nx g s t l q st (.slice a m c)).drew
 have aM:=HO.out.lt;have aV:ξ1 w5 b mb wt nw nx M:=by
  refine aA.out.only ai (by simp;omega) (by simp;omega) ?_;intro k hk cs fr e;simp at hk;subst hk;rw[ae.out]at e;simp at e
 have aW:A1a w5 w.heap.size 0 false 0 0 0 0 false (.slice none 0 0):=ai.block aT.out (by simp;omega);have aX:Below w.heap.size w w5:=aL.out.trans (ai.below (B:=w.heap.size) aL.out.size (by simp;omega));have aY:=ξ0 aU;have aD:=ξ0 aV;have aZ:=ξ0 aW;have bz:=ξ0 aX;clear aC ai aU aV aW aX bq bu x0 x1 x2 x3 x4 x5 x6 x7 f0 f1 f2 f3 f4 f5 f6 f7 c0 c1 c2 c3 au ae aT aA aL aM;obtain⟨c0,c1,c2,c3⟩:=aD.out.cells;have au:Hid (ξ1 w5.drew b mb wt nw nx M):=aD.out.below ((Ξp _ _).drew);obtain⟨w3,b9,bh,aw⟩:=HD.out _ au.out 0;have aO:=ξ0 bh;have aP:=ξ0 aw;clear bh aw au;have aQ:A1a w3 w1.heap.size nx g s t l q st (.slice a m c):=aP.out.block aY.out (by simp;exact ξ37 aY.out aD.out);have ah:A1a w3 w.heap.size 0 false 0 0 0 0 false (.slice none 0 0):=aP.out.block aZ.out (by simp;exact ξ37 aZ.out aD.out);have bB:=ξ0 aQ;have bi:=ξ0 ah;obtain⟨x0,x1,x2,x3,x4,x5,x6,x7⟩:=aQ.cells;obtain⟨r0,r1,r2,r3,r4,r5,r6,r7⟩:=ah.cells;have f0:=ah.free 0;have f1:=ah.free 1;have f2:=ah.free 2;have f3:=ah.free 3;have f4:=ah.free 4;have f5:=ah.free 5;have f6:=ah.free 6;have f7:=ah.free 7;obtain⟨e0,e1,e2,e3⟩:=aO.out.cells;have fb:=A5l aO.out.box 2;have bC:=HO.out.lt.1;have HF:Hid (ξ1 (w3.setCell ⟨b,2,none⟩ (.int .i64 (nx+1))) b mb wt nw (nx+1) M2):=aO.out.set 2 _ rfl;clear aQ ah c0 c1 e0 e1 e3;go_wp2_with fail;go_region
 all_goals go_wp2_with fail
 have ho:=A87 (g:=w.heap.size) (Only.refl [w.heap.size] (w3.setCell ⟨b,2,none⟩ (.int .i64 (nx+1)))) (by simp) (.int .i64 nx) (.bool g) (.int .i64 s) (.int .i64 t) (.int .i64 l) (.int .i64 q) (.bool st) (.slice a m c);have hb:=A86 (h:=w.heap.size) ((Below.heap_setCell w3 ⟨b,2,none⟩ (.int .i64 (nx+1)) w.heap.size (by simp;omega)).trans bi.out) nx g s t l q st (.slice a m c);refine bodyPost_ret (ξ6H (g:=w.heap.size) rfl rfl hb) rfl ?_;have bD:=HO.out.lt;refine⟨rfl,HF.out.only ho (by simp;omega) (by simp;omega) ?_,past (((Only.of_below bz.out _).trans ((aP.out.mono (by simp)))).setCell (by simp) _) ho (by simp)⟩;intro k hk cs fr e;simp at hk;subst hk;rw[Below.heap_setCell w3 ⟨b,2,none⟩ (.int .i64 (nx+1)) w.heap.size (by simp;omega),bi.out]at e;simp at e
theorem infoIT:(prog.info? 82).map (λi=>(i.zero,i.size,i.bytes))=some (some (.agg #[.int .i64 0,.bool false,.int .i64 0,.int .i64 0,.int .i64 0,.int .i64 0,.bool false,.slice none 0 0]),8,80):=by kernel_rfl
theorem ξR(b mb:Nat)(wt nw nx:Int)(M:Its)(w:World)(h:ξ1 w b mb wt nw nx M)(h1:Apart M)(h0:-1<=nx)(h2:nx<=1099511627777)(g:Bool)(s t l q:Int)(st:Bool)(a:Option Addr)(m c:Nat)(hc:c8 (itm M nx)=[.int .i64 nx,.bool g,.int .i64 s,.int .i64 t,.int .i64 l,.int .i64 q,.bool st,.slice a m c]) :
 Calls prog 78 #[.pointer (some ⟨b,0,none⟩)] w λe w'=>e=.returned (.agg #[.int .i64 nx,.bool g,.int .i64 s,.int .i64 t,.int .i64 l,.int .i64 q,.bool st,.slice a m c])/\ξ1 w' b mb wt nw (nx+1) (M.filter λi=>decide (i.n≠nx))/\Only [b,mb] w w':=by
 by_cases hh:has M nx=true
 ·obtain⟨hi,hn⟩:=ξ2K hh;refine ξcy b mb wt nw nx M w h h1 h0 h2 (itm M nx) hi hn g s t l q st a m c ?_;simp only[c8,List.cons.injEq,Value.int.injEq,Value.bool.injEq,true_and,and_true]at hc;obtain⟨e1,e2,e3,e4,e5,e6,e7,e8⟩:=hc;unfold lv;rw[e1,e2,e3,e4,e5,e6,e7,e8]
 ·have ae:has M nx=false:=by simpa using hh
  rw[ξ2J ae]at hc;simp only[c8,gone,zpk,List.cons.injEq,Value.int.injEq,Value.bool.injEq,Value.slice.injEq,true_and,and_true]at hc;obtain⟨rfl,rfl,rfl,rfl,rfl,rfl,rfl,rfl,rfl⟩:=hc;exact ξ3k b mb wt nw nx M w h h1 h0 h2 ae
structure A4f(w wr:World)(B b mb:Nat)(wt now nx:Int)(M:Its)(k:Nat)(v:Value):Prop where
 ord:ξ1 wr b mb wt now (nx+(k:Int)) (rest M (nx+(k:Int)))
 row:wr.ownsRow B 82 8 v k (flat c8 (takes M nx k))
 bod:Bodies wr (takes M nx k)
 only:Only [b,mb] w wr
 lt1:b<B
 lt2:mb<B
 ltB:B<=wr.heap.size
 le:w.heap.size<=B
theorem A4f.below{wy:World}(h:A4f w wr B b mb wt now nx M k v)(hb:Below wr.heap.size wr wy):A4f w wy B b mb wt now nx M k v:=
 ⟨h.ord.below hb,(Only.of_below hb []).owns h.row (by simp),h.bod.only (Only.of_below hb []) (by simp),h.only.trans (Only.of_below hb _),h.lt1,h.lt2,Nat.le_trans h.ltB hb.size,h.le⟩
theorem A4f.step{w3:World}{v':Value}{O:Obj}(h:A4f w wr B b mb wt now nx M k v)(hI:Apart M)(ho:ξ1 w2 b mb wt now (nx+(k:Int)+1) ((rest M (nx+(k:Int))).filter λi=>decide (i.n≠nx+(k:Int))))(hon:Only [b,mb] wr w2)
 (hg:(w2.alloc O).grownBy w3 v.ownBlock) (hr:w3.ownsRow B 82 8 v' (k+1) (flat c8 (takes M nx k)++c8 (itm M (nx+(k:Int))))):A4f w w3 B b mb wt now nx M (k+1) v':=by
 have am:=h.ord.nob;have hB:∀j,v.ownBlock=some j->B<=j:=λj hj=>(h.row.lt j hj).1;have lt1:=h.lt1;have lt2:=h.lt2;have le:=h.le;have aj:Only v.ownBlock.toList w2 w3:=((Only.refl v.ownBlock.toList w2).alloc O).grown hg (by simp);have ae:w2.ownsRow B 82 8 v k (flat c8 (takes M nx k)):=hon.owns h.row (by intro j hj hc;have:=hB j hj;simp at hc;omega);have aq:∀j∈v.ownBlock.toList,∀cs fr,w2.heap[j]?≠some (.cells cs 5 fr):=by
  intro j hj cs fr e;rcases ae.2 with⟨hn,_⟩|⟨g,cap,cur,ev,_,hgg,_⟩
  ·rw[hn]at hj;simp[Value.ownBlock]at hj
  ·rw[ev]at hj;simp[Value.ownBlock]at hj;subst hj;rw[hgg]at e;simp at e
 have ah:b∉v.ownBlock.toList:=by intro hc;have:=hB b (by simpa using hc);omega
 have ai:mb∉v.ownBlock.toList:=by intro hc;have:=hB mb (by simpa using hc);omega
 have ec:nx+((k+1:Nat):Int)=nx+(k:Int)+1:=by omega
 refine⟨?_,?_,?_,past (h.only.trans hon) aj ?_,lt1,lt2,?_,le⟩
 ·rw[ec,ξaU];exact ho.only aj ah ai aq
 ·rw[ξ2S,ξ4i,ξ4h];exact hr
 ·have au:Bodies w2 (takes M nx k):=h.bod.only hon am;rw[ξ2S];refine(au.app ?_).only aj aq;have:=(h.ord.bod.only hon am).itm (nx+(k:Int));rw[ξ4a hI]at this;exact this
 ·intro j hj;have:=hB j (by simpa using hj);exact .inr (by omega)
 ·exact Nat.le_trans h.ltB (Nat.le_trans hon.2.2.2.1 aj.2.2.2.1)
theorem ξcS(b:Nat)(nw now:Int)(w:World)(h:w.cell? ⟨b,0,none⟩=some (.int .i64 nw))(ht:tf nw now≠0) :
 Calls prog 32 #[.pointer (some ⟨b,0,none⟩),.int .i64 now] w λe w'=>e=.returned (.tuple #[.slice none 0 0,A0a (tf nw now)])/\Below w.heap.size w w':=by
 have HC:=ξ0 (λw=>ξ3H nw now w ht);generalize tf nw now=f at *;have hc:=ξq f;have hg:=ξp f;have d:decide (f=0)=false:=by simpa using ht
 clear ht;go_enter func32,ntmps32;go_wp2_with fail
 refine(HC.out _).mono ?_;rintro e w1 ⟨rfl,ae⟩;have HB:=ξ0 ae;clear ae;go_wp2_with fail;go_ret2;exact⟨rfl,HB.out.alloc HB.out.size _⟩
theorem ξfZ(b mb:Nat)(wt nw nx now od:Int)(M:Its)(K:Nat)(w:World)(h:ξ1 w b mb wt nw nx M)(hI:OM.Inv nw nx M)(ht:tf nw now=0)(hO:Od wt now M od)(hK:Stop M od nx K)(hK2:K<=200) :
 Calls prog 32 #[.pointer (some ⟨b,0,none⟩),.int .i64 now] w λe w'=>∃av cv,e=.returned (.tuple #[.slice av K cv,.nilIface])/\w'.ownsRow w.heap.size 82 8 (.slice av K cv) K (flat c8 (takes M nx K))/\Bodies w' (takes M nx K)/\ξ1 w' b mb wt now (nx+(K:Int)) (rest M (nx+(K:Int)))/\Only [b,mb] w w':=by
 obtain⟨i0,aW,aX,aY,aZ⟩:=info_parts infoIT;obtain⟨t0,t1,t2⟩:=ξG ht;have HC:=ξ0 (λw=>ξV nw now w ht);have bh:=ξ0 (λW hW=>ξ69 b mb wt now nx now od M W hW (hI.later t2 t1) hO t0 t1);have HH:Hid (∀W (k:Nat),k<=K->ξ1 W b mb wt now (nx+(k:Int)) (rest M (nx+(k:Int)))->Calls prog 77 #[.pointer (some ⟨b,0,none⟩),.int .i64 (nx+(k:Int))] W λe w'=>e=.returned (.bool (has M (nx+(k:Int))))/\Below W.heap.size W w'):=by
  refine ξ0 (λW k hk hW=>?_);have x1:=hI.x1;have x2:=hI.x2;have:=ξI b mb wt now (nx+(k:Int)) (nx+(k:Int)) (rest M (nx+(k:Int))) W hW (ξJ (by omega) (by omega));rw[ξ6G]at this;exact this
 have HT:Hid (∀W (k:Nat),k<K->ξ1 W b mb wt now (nx+(k:Int)) (rest M (nx+(k:Int)))->∃g s t l q st a m c,c8 (itm M (nx+(k:Int)))=[.int .i64 (nx+(k:Int)),.bool g,.int .i64 s,.int .i64 t,.int .i64 l,.int .i64 q,.bool st,.slice a m c]/\Calls prog 78 #[.pointer (some ⟨b,0,none⟩)] W λe w'=>e=.returned (.agg #[.int .i64 (nx+(k:Int)),.bool g,.int .i64 s,.int .i64 t,.int .i64 l,.int .i64 q,.bool st,.slice a m c])/\ξ1 w' b mb wt now (nx+(k:Int)+1) ((rest M (nx+(k:Int))).filter λi=>decide (i.n≠nx+(k:Int)))/\Only [b,mb] W w'):=by
  refine ξ0 (λW k hk hW=>?_);have x1:=hI.x1;have gm:=ξ7g hI hO (hK.all k hk);obtain⟨a,m,c,e,_⟩:=hW.bod.itm (nx+(k:Int));rw[ξ4a hI.one]at e;have hc:c8 (itm M (nx+(k:Int)))=[.int .i64 (nx+(k:Int)),.bool (itm M (nx+(k:Int))).g,.int .i64 (itm M (nx+(k:Int))).p.s,.int .i64 (itm M (nx+(k:Int))).p.t,.int .i64 (itm M (nx+(k:Int))).p.l,.int .i64 (itm M (nx+(k:Int))).p.q,.bool (itm M (nx+(k:Int))).p.st,.slice a m c]:=by
   unfold c8;rw[e,ξee]
  refine⟨_,_,_,_,_,_,a,m,c,hc,?_⟩;exact ξR b mb wt now (nx+(k:Int)) (rest M (nx+(k:Int))) W hW (hI.one.filter _) (by omega) (by omega) _ _ _ _ _ _ a m c (by rw[ξ4a hI.one];exact hc)
 have HG:Hid (∀k:Nat,k<K->goes M od (nx+(k:Int))=true):=hK.all;have bu:Hid (goes M od (nx+(K:Int))=false):=hK.stop;have bz:=ξ0 h;have HI:=ξ0 hI;have b9:-1<=nx/\nx<=1099511627777:=⟨hI.x1,hI.x2⟩;have bA:ξ1 w b mb wt nw nx M:=h;have c0:=h.cells.1;have bB:=h.lt;clear h hI ht hO hK bA;obtain⟨bH,bI⟩:=b9;obtain⟨aJ,aL⟩:=bB;go_enter func32,ntmps32;go_wp2_with fail
 refine(HC.out _).mono ?_;rintro e w1 ⟨rfl,bi⟩;have HB:=ξ0 bi;clear bi c0;have ax:=bz.out.below HB.out;have bC:=ξ0 ax;have bD:b<w1.heap.size:=ax.lt.1;obtain⟨c0,_⟩:=(ax.alloc (.cells #[.int .i64 now] 89)).cells;have f0:=A5l (ax.alloc (.cells #[.int .i64 now] 89)).box 0;have aM:Hid (ξ1 ((w1.setCell ⟨b,0,none⟩ (.int .i64 now)).alloc (.cells #[.int .i64 now] 89)) b mb wt now nx M):=(ax.set 0 _ rfl).alloc _;have bj:Hid (Only [b,mb] w ((w1.setCell ⟨b,0,none⟩ (.int .i64 now)).alloc (.cells #[.int .i64 now] 89))):=((Only.of_below HB.out _).setCell (by simp) _).alloc _;clear ax;go_wp2_with fail;refine(bh.out _ (by exact aM.out)).mono ?_;rintro e w3 ⟨rfl,aO⟩;have bq:Hid (A4f w w3 w3.heap.size b mb wt now nx M 0 (.slice none 0 0)):=by
  have aH:=bj.out.trans (Only.of_below aO _);refine⟨?_,by simpa[takes,flat]using Ξr w3 w3.heap.size 82 8,λi hi=>by simp[takes]at hi,aH,Ξn aJ aH.2.2.2.1,Ξn aL aH.2.2.2.1,Ξo _,aH.2.2.2.1⟩;have e0:nx+((0:Nat):Int)=nx:=by omega
  rw[e0,ξ4b HI.out];exact aM.out.below aO
 clear aO bh HC bC aM bj c0 f0 bD;go_wp2_with fail;generalize w3.heap.size=B at *;go_loopg [9] K (λgh v' wr=>∃(k:Nat) (av:Option Addr) (cv:Nat),k+gh=K/\v'=.slice av k cv/\Hid (A4f w wr B b mb wt now nx M k (.slice av k cv)))
 case atStart=>exact⟨0,none,0,by omega,rfl,bq⟩
 case round=>
  obtain⟨k,av,cv,bJ,rfl,HS⟩:=hrel;clear bq;have aj:=ξ0 (HH.out wr k (by omega) HS.out.ord);obtain⟨xk,ay⟩:=nm (nx+(k:Int));have am:=ξ0 ay;have k2:=HS.out.ord.cells.2.2.1;rw[ay]at k2 aj;have bE:-1<=xk/\xk<=1099511627977:=by omega
  by_cases hk:k<K
  ·have az:=ξ0 (λW hW=>HT.out W k hk hW);have aI:=HG.out k hk;rw[ay]at aI az;clear ay;by_cases hh:has M xk=true
   ·rw[hh]at aj;clear hh aI;go_wp2_with fail;refine aj.out.mono ?_;rintro e w4 ⟨rfl,aq⟩;have ae:=ξ0 (HS.out.below aq);have k4:=ae.out.ord.cells.2.2.1;rw[am.out]at k4;clear aq aj;have au:=ae.out.ord;rw[am.out]at au;obtain⟨g,s,t,l,q,st,a,m,c,aA,hT⟩:=az.out w4 au;have aC:=ξ0 hT;have aP:=ξ0 aA;clear hT aA au az;go_wp2_with fail;refine aC.out.mono ?_;rintro e w5 ⟨rfl,aD,aE⟩;have aQ:=ξ0 aD;have aw:=ξ0 aE;clear aD aE aC k4;have bF:B<=w5.heap.size:=Nat.le_trans ae.out.ltB aw.out.2.2.2.1;have aS:Hid (w5.ownsRow B 82 8 (.slice av k cv) k (flat c8 (takes M nx k))):=aw.out.owns ae.out.row (by intro j hj hc;have:=(ae.out.row.lt j hj).1;have:=ae.out.lt1;have:=ae.out.lt2;simp at hc;omega);go_wp2_with (at_builtin;refine wpList_append_own _ rfl _ _ 77 rfl B 82 i0 _ 8 80 underlying77 aW aX aY aZ rfl (by decide) _ k (flat c8 (takes M nx k)) rfl ?own ⟨w5.heap.size,0,none⟩ 1 1 [.int .i64 xk,.bool g,.int .i64 s,.int .i64 t,.int .i64 l,.int .i64 q,.bool st,.slice a m c] rfl rfl ?c1 ?c2 ?b1 ?b2 ?b3 ?next)
    case own=>exact aS.out.alloc _
    case c1=>exact World.news_of_block (cs:=#[.int .i64 xk,.bool g,.int .i64 s,.int .i64 t,.int .i64 l,.int .i64 q,.bool st,.slice a m c]) (t:=82) (fr:=(0,0)) (heap_alloc_new w5 _)
    case c2=>intro u aF;simp at aF;rcases aF with rfl|rfl|rfl|rfl|rfl|rfl|rfl|rfl<;>rfl
    case b1=>unfold maxLen;omega
    case b2=>omega
    case b3=>simp;omega
    case next=>
     intro v' w6 ai ah _;obtain⟨g',c',rfl⟩:∃g' c',v'=.slice (some ⟨g',0,none⟩) (k+1) c':=by
      rcases ai.2 with⟨_,h⟩|⟨g',c',_,h,_⟩
      ·omega
      ·exact⟨g',c',h⟩
     have aT:Hid (A4f w w6 B b mb wt now nx M (k+1) (.slice (some ⟨g',0,none⟩) (k+1) c')):=
      ae.out.step HI.out.one (by rw[am.out];exact aQ.out) aw.out ah (by rw[am.out,aP.out];exact ai)
     clear ai ah;go_wp2_with fail;go_roundg (K-(k+1))
     case measure=>omega
     case rel=>exact⟨k+1,some ⟨g',0,none⟩,c',by omega,rfl,aT⟩
   ·have aU:has M xk=false:=by simpa using hh
    have bK:xk<od:=by simpa[goes,aU]using aI
    rw[aU]at aj;clear hh aU aI;go_wp2_with fail;refine aj.out.mono ?_;rintro e w4 ⟨rfl,aq⟩;have ae:=ξ0 (HS.out.below aq);have k4:=ae.out.ord.cells.2.2.1;rw[am.out]at k4;clear aq aj;have au:=ae.out.ord;rw[am.out]at au;obtain⟨g,s,t,l,q,st,a,m,c,aA,hT⟩:=az.out w4 au;have aC:=ξ0 hT;have aP:=ξ0 aA;clear hT aA au az;go_wp2_with fail;refine aC.out.mono ?_;rintro e w5 ⟨rfl,aD,aE⟩;have aQ:=ξ0 aD;have aw:=ξ0 aE;clear aD aE aC k4;have bF:B<=w5.heap.size:=Nat.le_trans ae.out.ltB aw.out.2.2.2.1;have aS:Hid (w5.ownsRow B 82 8 (.slice av k cv) k (flat c8 (takes M nx k))):=aw.out.owns ae.out.row (by intro j hj hc;have:=(ae.out.row.lt j hj).1;have:=ae.out.lt1;have:=ae.out.lt2;simp at hc;omega);go_wp2_with (at_builtin;refine wpList_append_own _ rfl _ _ 77 rfl B 82 i0 _ 8 80 underlying77 aW aX aY aZ rfl (by decide) _ k (flat c8 (takes M nx k)) rfl ?own ⟨w5.heap.size,0,none⟩ 1 1 [.int .i64 xk,.bool g,.int .i64 s,.int .i64 t,.int .i64 l,.int .i64 q,.bool st,.slice a m c] rfl rfl ?c1 ?c2 ?b1 ?b2 ?b3 ?next)
    case own=>exact aS.out.alloc _
    case c1=>exact World.news_of_block (cs:=#[.int .i64 xk,.bool g,.int .i64 s,.int .i64 t,.int .i64 l,.int .i64 q,.bool st,.slice a m c]) (t:=82) (fr:=(0,0)) (heap_alloc_new w5 _)
    case c2=>intro u aF;simp at aF;rcases aF with rfl|rfl|rfl|rfl|rfl|rfl|rfl|rfl<;>rfl
    case b1=>unfold maxLen;omega
    case b2=>omega
    case b3=>simp;omega
    case next=>
     intro v' w6 ai ah _;obtain⟨g',c',rfl⟩:∃g' c',v'=.slice (some ⟨g',0,none⟩) (k+1) c':=by
      rcases ai.2 with⟨_,h⟩|⟨g',c',_,h,_⟩
      ·omega
      ·exact⟨g',c',h⟩
     have aT:Hid (A4f w w6 B b mb wt now nx M (k+1) (.slice (some ⟨g',0,none⟩) (k+1) c')):=
      ae.out.step HI.out.one (by rw[am.out];exact aQ.out) aw.out ah (by rw[am.out,aP.out];exact ai)
     clear ai ah;go_wp2_with fail;go_roundg (K-(k+1))
     case measure=>omega
     case rel=>exact⟨k+1,some ⟨g',0,none⟩,c',by omega,rfl,aT⟩
  ·obtain rfl:k=K:=by omega
   have aV:=bu.out;rw[ay]at aV;simp only[goes,Bool.or_eq_false_iff,decide_eq_false_iff_not]at aV;obtain⟨aG,bG⟩:=aV;rw[aG]at aj;clear aG ay;go_wp2_with fail;refine aj.out.mono ?_;rintro e w4 ⟨rfl,aq⟩;have ae:=ξ0 (HS.out.below aq);have k4:=ae.out.ord.cells.2.2.1;rw[am.out]at k4;clear aq;go_wp2_with fail;go_ret2;exact⟨av,cv,rfl,ξv ae.out.row ae.out.le,ae.out.bod,ae.out.ord,ae.out.only⟩
theorem ξah(h:ξ1 w b mb wt nw nx M){o:Nat}{c:Int}(hc:w.cell? ⟨g,o,none⟩=some (.int .u8 c)):g∉[b,mb]:=by
 obtain⟨h1,⟨D,h2,_⟩,_⟩:=h;obtain⟨es,cl,h3⟩:=ξd h2;intro hg;simp only[Ξf,List.not_mem_nil,or_false]at hg;rcases hg with rfl|rfl
 ·simp only[World.cell?,h1]at hc
  match o,hc with
  | 0,hc=>simp at hc
  | 1,hc=>simp at hc
  | 2,hc=>simp at hc
  | 3,hc=>simp at hc
  | o+4,hc=>simp at hc
 ·simp[World.cell?,h3]at hc
theorem ξce(h:ξ1 w b mb wt nw nx M){L:List Nat}(hA:Arg w a m L)(ho:Only [b,mb] w W):Arg W a m L:=by
 refine⟨⟨hA.1.1,λj hj=>?_⟩,hA.2⟩;obtain⟨g,o,e,hc⟩:=hA.1.2 j hj;refine⟨g,o,e,?_⟩;have hk:=ξah h hc;have ae:=Ξq w ⟨g,o+j,none⟩ hc;have:=ho.2.2.2.2 g ae hk;simp only[World.cell?]at hc ⊢;rw[this];exact hc
theorem ξb0(b:Nat)(nw y now s t l q:Int)(st:Bool)(a:Option Addr)(m cap:Nat)(w:World)(h:w.cell? ⟨b,0,none⟩=some (.int .i64 nw))(ht:tf nw now≠0) :
 Calls prog 28 #[.pointer (some ⟨b,0,none⟩),.int .i64 y,.agg #[.int .i64 s,.int .i64 t,.int .i64 l,.int .i64 q,.bool st,.slice a m cap],.int .i64 now] w λe w'=>e=.returned (.tuple #[.bool false,A0a (tf nw now)])/\Below w.heap.size w w':=by
 have HC:=ξ0 (λw=>ξ3H nw now w ht);generalize tf nw now=f at *;have hc:=ξq f;have hg:=ξp f;have d:decide (f=0)=false:=by simpa using ht
 have c0:=λO=>ξj h O;clear ht h;go_enter func28,ntmps28;go_wp2_with fail
 refine(HC.out _).mono ?_;rintro e w1 ⟨rfl,ae⟩;have HB:=ξ0 (ξu ae);clear ae;go_wp2_with fail;go_ret2;exact⟨rfl,HB.out.alloc HB.out.size _⟩
theorem ξ9l(b:Nat)(nw y now s t l q:Int)(st:Bool)(a:Option Addr)(m cap:Nat)(w:World)(h:w.cell? ⟨b,0,none⟩=some (.int .i64 nw))(ht:tf nw now=0)(hy:y<0∨1099511627776<y) :
 Calls prog 28 #[.pointer (some ⟨b,0,none⟩),.int .i64 y,.agg #[.int .i64 s,.int .i64 t,.int .i64 l,.int .i64 q,.bool st,.slice a m cap],.int .i64 now] w λe w'=>e=.returned (.tuple #[.bool false,A0a 1])/\Below w.heap.size w w':=by
 have HC:=ξ0 (λw=>ξV nw now w ht);have HM:=ξ0 (λw=>ξ72 y w hy);have c0:=λO=>ξj h O;clear ht h hy;go_enter func28,ntmps28;go_wp2_with fail
 refine(HC.out _).mono ?_;rintro e w1 ⟨rfl,ae⟩;have HB:=ξ0 (ξu ae);clear ae;go_wp2_with fail;refine(HM.out _).mono ?_;rintro e w2 ⟨rfl,rfl⟩;go_wp2_with fail;go_ret2;exact⟨rfl,HB.out.alloc HB.out.size _⟩
theorem ξcR(b:Nat)(nw y now s t l q:Int)(st:Bool)(a:Option Addr)(m cap:Nat)(w:World)(h:w.cell? ⟨b,0,none⟩=some (.int .i64 nw))(ht:tf nw now=0)(h0:0<=y)(h1:y<=1099511627776)(hf:fault s t l q m≠0) :
 Calls prog 28 #[.pointer (some ⟨b,0,none⟩),.int .i64 y,.agg #[.int .i64 s,.int .i64 t,.int .i64 l,.int .i64 q,.bool st,.slice a m cap],.int .i64 now] w λe w'=>e=.returned (.tuple #[.bool false,A0a (fault s t l q m)])/\Below w.heap.size w w':=by
 have HC:=ξ0 (λw=>ξV nw now w ht);have HM:=ξ0 (λw=>ξ15 y w h0 h1);have HP:=ξ0 (λw=>ξa s t l q st a m cap w);generalize fault s t l q m=f at *;have hc:=ξq f;have hg:=ξp f;have d:decide (f=0)=false:=by simpa using hf
 have c0:=λO=>ξj h O;clear ht h hf;go_enter func28,ntmps28;go_wp2_with fail
 refine(HC.out _).mono ?_;rintro e w1 ⟨rfl,ae⟩;have ai:=ξ0 ((Box.new w s t l q st (.slice a m cap)).below ae (by simp));have HB:=ξ0 (ξu ae);obtain⟨x0,x1,x2,x3,x4,x5⟩:=(ai.out.alloc (.cells #[.int .i64 now] 89)).cells;clear ae;go_wp2_with fail;refine(HM.out _).mono ?_;rintro e w2 ⟨rfl,rfl⟩;go_wp2_with fail;refine(HP.out _).mono ?_;rintro e w3 ⟨rfl,ah⟩;have aj:=ξ0 ((HB.out.alloc HB.out.size _).trans (ah.mono (by have:=HB.out.size;simp;omega)));clear ah;go_wp2_with fail;go_ret2;exact⟨rfl,aj.out⟩
theorem ξb1(b mb:Nat)(wt nw nx y now s t l q:Int)(st:Bool)(a:Option Addr)(m cap:Nat)(M:Its)(w:World)(h:ξ1 w b mb wt nw nx M)(hI:OM.Inv nw nx M)(ht:tf nw now=0)(h0:0<=y)(h1:y<=1099511627776)(hf:fault s t l q m=0)(hr:far nx y=true) :
 Calls prog 28 #[.pointer (some ⟨b,0,none⟩),.int .i64 y,.agg #[.int .i64 s,.int .i64 t,.int .i64 l,.int .i64 q,.bool st,.slice a m cap],.int .i64 now] w λe w'=>e=.returned (.tuple #[.bool false,A0a 4])/\Below w.heap.size w w':=by
 have HC:=ξ0 (λw=>ξV nw now w ht);have HM:=ξ0 (λw=>ξ15 y w h0 h1);have hP:=λw=>ξa s t l q st a m cap w;rw[hf,ξ4]at hP;have HP:=ξ0 hP;have hT:=λw h=>ξ1r b nx y w h hI.x1 hI.x2 h0 h1;rw[hr]at hT;have HT:=ξ0 hT;have HO:=ξ0 h;have c0:=λO=>ξj h.cells.1 O;clear ht h hf hP hT hI hr;go_enter func28,ntmps28;go_wp2_with fail
 refine(HC.out _).mono ?_;rintro e w1 ⟨rfl,ae⟩;have aj:=ξ0 ((Box.new w s t l q st (.slice a m cap)).below ae (by simp));have HB:=ξ0 (ξu ae);obtain⟨x0,x1,x2,x3,x4,x5⟩:=(aj.out.alloc (.cells #[.int .i64 now] 89)).cells;clear ae;go_wp2_with fail;refine(HM.out _).mono ?_;rintro e w2 ⟨rfl,rfl⟩;go_wp2_with fail;refine(HP.out _).mono ?_;rintro e w3 ⟨rfl,ah⟩;have ai:=ξ0 ((HB.out.alloc HB.out.size _).trans (ah.mono (by have:=HB.out.size;simp;omega)));clear ah;go_wp2_with fail;refine(HT.out _ (HO.out.below ai.out).cells.2.2.1).mono ?_;rintro e w4 ⟨rfl,rfl⟩;go_wp2_with fail;go_ret2;exact⟨rfl,ai.out⟩
def PO(w w':World)(b mb:Nat)(wt now fv y:Int)(kv:Bool)(M:Its)(s t l q:Int)(st:Bool)(L:List Nat):Prop:=
 ∃bv,ξ1 w' b mb wt now fv (if kv then M++[⟨y,false,⟨s,t,l,q,st,L,bv⟩,now⟩]else M)/\Only [b,mb] w w'
theorem ξeF(b mb:Nat)(wt nw nx y now s t l q:Int)(st:Bool)(a:Option Addr)(m cap:Nat)(L:List Nat)(M:Its)(w:World)(h:ξ1 w b mb wt nw nx M)(hI:OM.Inv nw nx M)(hA:Arg w a m L)(hN:a=none->m=0/\cap=0)(ht:tf nw now=0)(h0:0<=y)(h1:y<=1099511627776)(hf:fault s t l q m=0)(hr:far nx y=false) :
 Calls prog 28 #[.pointer (some ⟨b,0,none⟩),.int .i64 y,.agg #[.int .i64 s,.int .i64 t,.int .i64 l,.int .i64 q,.bool st,.slice a m cap],.int .i64 now] w λe w'=>e=.returned (.tuple #[.bool (kx (fx nx y) y M),.nilIface])/\PO w w' b mb wt now (fx nx y) y (kx (fx nx y) y M) M s t l q st L:=by
 have hm:m<=1000:=by obtain⟨_,_,_,_,_,_,_,_,_,_,_,_,hm⟩:=ξs hf;exact hm
 have HC:=ξ0 (λw=>ξV nw now w ht);have HM:=ξ0 (λw=>ξ15 y w h0 h1);have hP:=λw=>ξa s t l q st a m cap w;rw[hf,ξ4]at hP;have HP:=ξ0 hP;have hT:=λw h=>ξ1r b nx y w h hI.x1 hI.x2 h0 h1;rw[hr]at hT;have HT:=ξ0 hT;have HO:=ξ0 h;have c0:=λO=>ξj h.cells.1 O;have hl:M.length<=1000:=by have:=hI.len;omega
 have aO:=ξJ (y:=y) (by omega) (by omega);have HK:Hid (∀W a' c',ξ1 W b mb wt now (fx nx y) M->W.ownsRow 0 5 1 (.slice a' m c') m (cellsOf L)->Calls prog 71 #[.pointer (some ⟨b,0,none⟩),.agg #[.int .i64 y,.bool false,.int .i64 s,.int .i64 t,.int .i64 l,.int .i64 q,.bool st,.slice a' m c'],.int .i64 now] W λe w'=>e=.returned (.bool (kx (fx nx y) y M))/\ξ1 w' b mb wt now (fx nx y) (if kx (fx nx y) y M then M++[⟨y,false,⟨s,t,l,q,st,L,.slice a' m c'⟩,now⟩]else M)/\Only [mb] W w'):=
  ξ0 (λW a' c' hW ho=>ξ27 b mb wt now (fx nx y) now y false s t l q st a' m c' L M W hW hl aO ⟨a',m,c',rfl,ho,hA.1.1,hm⟩)
 have HA:=ξ0 hA;have HN:=ξ0 hN;have aI:=ξ0 (λW hW=>ξ1X s t l q st a m cap L W hW hN hm);have aP:=h.lt;have aV:=hI.x1;have aJ:fx nx y=if nx=-1 then y else nx:=rfl
 have aL:=ξ0 aJ;generalize kx (fx nx y) y M=kv at *;generalize fx nx y=fv at *;clear ht h hf hP hT hI hr hA hN aJ;obtain⟨aQ,aS⟩:=aP;go_enter func28,ntmps28;go_wp2_with fail
 refine(HC.out _).mono ?_;rintro e w1 ⟨rfl,aA⟩;have am:=ξ0 ((Box.new w s t l q st (.slice a m cap)).below aA (by simp));have HB:=ξ0 (ξu aA);obtain⟨x0,x1,x2,x3,x4,x5⟩:=(am.out.alloc (.cells #[.int .i64 now] 89)).cells;clear aA;go_wp2_with fail;refine(HM.out _).mono ?_;rintro e w2 ⟨rfl,rfl⟩;go_wp2_with fail;refine(HP.out _).mono ?_;rintro e w3 ⟨rfl,az⟩;have ai:=ξ0 ((HB.out.alloc HB.out.size _).trans (az.mono (by have:=HB.out.size;simp;omega)));have aM:=ξ0 ((am.out.alloc (.cells #[.int .i64 now] 89)).below az (by have:=am.out.lt;simp;omega));have aW:w3.cell? ⟨w1.heap.size,0,none⟩=some (.int .i64 now):=by
  have hh:w3.heap[w1.heap.size]?=some (.cells #[.int .i64 now] 89 (0,0)):=(az.block _ (by simp)).trans (heap_alloc_new w1 _);simp[World.cell?,hh]
 have aT:w.heap.size<w1.heap.size:=am.out.lt;clear az x0 x1 x2 x3 x4 x5 am HB;go_wp2_with fail;refine(HT.out _ (HO.out.below ai.out).cells.2.2.1).mono ?_;rintro e w4 ⟨rfl,rfl⟩;obtain⟨k0,k1,k2,k3⟩:=(HO.out.below ai.out).cells;have f0:=A5l (HO.out.below ai.out).box 0;have f2:=A5l (HO.out.below ai.out).box 2;obtain⟨x0,x1,x2,x3,x4,x5⟩:=aM.out.cells;have HS:Hid (∀W,Only [b] w4 W->ξ1 W b mb wt now fv M->Only [b,mb] w W/\Arg W a m L/\Box W w.heap.size s t l q st (.slice a m cap)):=by
  refine ξ0 (λW hon hO=>?_);have ho:Only [b,mb] w W:=(Only.of_below ai.out _).trans (hon.mono (by simp));exact⟨ho,ξce HO.out HA.out ho,hon.block aM.out (by simp;omega)⟩
 have aU:b≠w.heap.size:=by omega
 by_cases hnx:nx=-1
 ·have aq:fv=y:=by have:=aL.out;rw[if_pos hnx]at this;exact this
  subst hnx;obtain⟨w5,ah⟩:=nm ((w4.setCell ⟨b,0,none⟩ (.int .i64 now)).setCell ⟨b,2,none⟩ (.int .i64 y));have au:Hid (ξ1 w5 b mb wt now fv M):=by rw[<-ah,aq];exact((HO.out.below ai.out).set 0 (.int .i64 now) rfl).set 2 (.int .i64 y) rfl
  have aw:=ξ0 (HS.out w5 (by rw[<-ah];exact((Only.refl _ w4).setCell (by simp) _).setCell (by simp) _) au.out);have aC:=ξ0 ah;clear ah aq;go_wp2_with fail;rw[aC.out];refine(aI.out _ aw.out.2.1).mono ?_;rintro e w6 ⟨a',c',rfl,ae,aj⟩;have aD:=ξ0 (au.out.below aj);have aE:=ξ0 (aw.out.1.trans (Only.of_below aj _));have aF:=ξ0 ae;clear aj ae;go_wp2_with fail;refine(HK.out _ a' c' aD.out aF.out).mono ?_;rintro e w7 ⟨rfl,ax,ay⟩;have aG:=ξ0 ax;have aH:=ξ0 ay;clear ax ay;go_wp2_with fail;go_ret2;exact⟨rfl,_,aG.out,aE.out.trans (aH.out.mono (by simp))⟩
 ·have aq:fv=nx:=by have:=aL.out;rw[if_neg hnx]at this;exact this
  have d1:(nx==-1)=false:=by simpa using hnx
  obtain⟨w5,ah⟩:=nm (w4.setCell ⟨b,0,none⟩ (.int .i64 now));have au:Hid (ξ1 w5 b mb wt now fv M):=by rw[<-ah,aq];exact(HO.out.below ai.out).set 0 (.int .i64 now) rfl
  have aw:=ξ0 (HS.out w5 (by rw[<-ah];exact(Only.refl _ w4).setCell (by simp) _) au.out);have aC:=ξ0 ah;clear ah aq hnx;go_wp2_with fail;rw[aC.out];refine(aI.out _ aw.out.2.1).mono ?_;rintro e w6 ⟨a',c',rfl,ae,aj⟩;have aD:=ξ0 (au.out.below aj);have aE:=ξ0 (aw.out.1.trans (Only.of_below aj _));have aF:=ξ0 ae;clear aj ae;go_wp2_with fail;refine(HK.out _ a' c' aD.out aF.out).mono ?_;rintro e w7 ⟨rfl,ax,ay⟩;have aG:=ξ0 ax;have aH:=ξ0 ay;clear ax ay;go_wp2_with fail;go_ret2;exact⟨rfl,_,aG.out,aE.out.trans (aH.out.mono (by simp))⟩
theorem ξ9m(b mb:Nat)(wt nw nx y now s t l q:Int)(st:Bool)(a:Option Addr)(m cap:Nat)(L:List Nat)(M:Its)(w:World)(h:ξ1 w b mb wt nw nx M)(hI:OM.Inv nw nx M)(hA:Arg w a m L)(hN:a=none->m=0/\cap=0) :
 Calls prog 28 #[.pointer (some ⟨b,0,none⟩),.int .i64 y,.agg #[.int .i64 s,.int .i64 t,.int .i64 l,.int .i64 q,.bool st,.slice a m cap],.int .i64 now] w λe w'=>e=.returned (.tuple #[.bool (px nw nx y now M (fault s t l q m)),A0a (pf nw nx y now (fault s t l q m))]) /\
  ∃bv,ξ1 w' b mb wt (pW nw nx y now (fault s t l q m)) (pX nw nx y now (fault s t l q m)) (pM nw nx y now M (fault s t l q m) ⟨s,t,l,q,st,L,bv⟩)/\Only [b,mb] w w':=by
 have same:∀w',pf nw nx y now (fault s t l q m)≠0->Below w.heap.size w w'->∃bv,ξ1 w' b mb wt (pW nw nx y now (fault s t l q m)) (pX nw nx y now (fault s t l q m)) (pM nw nx y now M (fault s t l q m) ⟨s,t,l,q,st,L,bv⟩)/\Only [b,mb] w w':=by
  intro w' hx hb;refine⟨.nilIface,?_,Only.of_below hb _⟩;unfold pW pX pM px;simp only[hx,decide_false,Bool.false_and,if_false];exact h.below hb
 have ae:pf nw nx y now (fault s t l q m)≠0->px nw nx y now M (fault s t l q m)=false:=by
  intro hx;simp[px,hx]
 by_cases ht:tf nw now=0
 case neg=>
  have e1:pf nw nx y now (fault s t l q m)=tf nw now:=by unfold pf;rw[if_pos ht]
  have hn:pf nw nx y now (fault s t l q m)≠0:=by rw[e1];exact ht
  refine(ξb0 b nw y now s t l q st a m cap w h.cells.1 ht).mono ?_;rintro e w' ⟨rfl,hb⟩;exact⟨by rw[ae hn,e1],same w' hn hb⟩
 by_cases hy:y<0∨1099511627776<y
 ·have e1:pf nw nx y now (fault s t l q m)=1:=by unfold pf;rw[if_neg (by omega),if_pos hy]
  have hn:pf nw nx y now (fault s t l q m)≠0:=by omega
  refine(ξ9l b nw y now s t l q st a m cap w h.cells.1 ht hy).mono ?_;rintro e w' ⟨rfl,hb⟩;exact⟨by rw[ae hn,e1],same w' hn hb⟩
 by_cases hc:fault s t l q m=0
 case neg=>
  have e1:pf nw nx y now (fault s t l q m)=fault s t l q m:=by unfold pf;rw[if_neg (by omega),if_neg hy,if_pos hc]
  have hn:pf nw nx y now (fault s t l q m)≠0:=by omega
  refine(ξcR b nw y now s t l q st a m cap w h.cells.1 ht (by omega) (by omega) hc).mono ?_;rintro e w' ⟨rfl,hb⟩;exact⟨by rw[ae hn,e1],same w' hn hb⟩
 by_cases hr:far nx y=true
 ·have e1:pf nw nx y now (fault s t l q m)=4:=by unfold pf;rw[if_neg (by omega),if_neg hy,if_neg (by omega),if_pos hr]
  have hn:pf nw nx y now (fault s t l q m)≠0:=by omega
  refine(ξb1 b mb wt nw nx y now s t l q st a m cap M w h hI ht (by omega) (by omega) hc hr).mono ?_;rintro e w' ⟨rfl,hb⟩;exact⟨by rw[ae hn,e1],same w' hn hb⟩
 ·have ah:far nx y=false:=by simpa using hr
  have e1:pf nw nx y now (fault s t l q m)=0:=ξ4B ht (by omega) (by omega) hc ah;refine(ξeF b mb wt nw nx y now s t l q st a m cap L M w h hI hA hN ht (by omega) (by omega) hc ah).mono ?_;rintro e w' ⟨rfl,bv,hO,ho⟩;refine⟨?_,bv,?_,ho⟩
  ·simp[px,e1,A0a]
  ·unfold pW pX pM px;simp only[e1,if_true,decide_true,Bool.true_and];exact hO
structure A65(wt nw nx now:Int)(M:Its)(K:Nat):Prop where
 le:K<=200
 yes:tf nw now=0->∃od,Od wt now M od/\Stop M od nx K
 no:tf nw now≠0->K=0
def qW(nw now:Int):Int:=if tf nw now=0 then now else nw
theorem ξdt{K:Nat}(h:OM.Inv nw nx M)(hK:A65 wt nw nx now M K):OM.Inv (qW nw now) (nx+(K:Int)) (rest M (nx+(K:Int))):=by
 unfold qW;by_cases ht:tf nw now=0
 ·obtain⟨od,ho,hs⟩:=hK.yes ht;rw[if_pos ht];exact ξf8 h ht ho hs.all
 ·have:=hK.no ht;subst this;rw[if_neg ht];simp only[Int.natCast_zero,Int.add_zero];rw[ξ4b h];exact h
theorem ξb4(b mb:Nat)(wt nw nx now:Int)(M:Its)(K:Nat)(w:World)(h:ξ1 w b mb wt nw nx M)(hI:OM.Inv nw nx M)(hK:A65 wt nw nx now M K) :
 Calls prog 32 #[.pointer (some ⟨b,0,none⟩),.int .i64 now] w λe w'=>∃av cv,e=.returned (.tuple #[.slice av K cv,A0a (tf nw now)])/\w'.ownsRow w.heap.size 82 8 (.slice av K cv) K (flat c8 (takes M nx K))/\Bodies w' (takes M nx K)/\ξ1 w' b mb wt (qW nw now) (nx+(K:Int)) (rest M (nx+(K:Int)))/\Only [b,mb] w w':=by
 unfold qW;by_cases ht:tf nw now=0
 ·obtain⟨od,ho,hs⟩:=hK.yes ht;rw[if_pos ht,ht,ξ4];exact ξfZ b mb wt nw nx now od M K w h hI ht ho hs hK.le
 ·have:=hK.no ht;subst this;rw[if_neg ht];refine(ξcS b nw now w h.cells.1 ht).mono ?_;rintro e w' ⟨rfl,hb⟩;refine⟨none,0,rfl,by simpa[takes,flat]using Ξr w' w.heap.size 82 8,λi hi=>by simp[takes]at hi,?_,Only.of_below hb _⟩;simp only[Int.natCast_zero,Int.add_zero];rw[ξ4b hI];exact h.below hb
theorem ξbL(b:Nat)(nw y now:Int)(w:World)(h:w.cell? ⟨b,0,none⟩=some (.int .i64 nw))(ht:tf nw now≠0) :
 Calls prog 31 #[.pointer (some ⟨b,0,none⟩),.int .i64 y,.int .i64 now] w λe w'=>e=.returned (A0a (tf nw now))/\Below w.heap.size w w':=by
 have HC:=ξ0 (λw=>ξ3H nw now w ht);generalize tf nw now=f at *;have hc:=ξq f;have hg:=ξp f;have d:decide (f=0)=false:=by simpa using ht
 clear ht;go_enter func31,ntmps31;go_wp2_with fail
 refine(HC.out _).mono ?_;rintro e w1 ⟨rfl,ae⟩;have HB:=ξ0 ae;clear ae;go_wp2_with fail;go_ret;exact⟨rfl,HB.out.alloc HB.out.size _⟩
theorem ξ9Y(b:Nat)(nw y now:Int)(w:World)(h:w.cell? ⟨b,0,none⟩=some (.int .i64 nw))(ht:tf nw now=0)(hy:y<0∨1099511627776<y) :
 Calls prog 31 #[.pointer (some ⟨b,0,none⟩),.int .i64 y,.int .i64 now] w λe w'=>e=.returned (A0a 1)/\Below w.heap.size w w':=by
 have HC:=ξ0 (λw=>ξV nw now w ht);have HM:=ξ0 (λw=>ξ72 y w hy);clear ht hy;go_enter func31,ntmps31;go_wp2_with fail
 refine(HC.out _).mono ?_;rintro e w1 ⟨rfl,ae⟩;have HB:=ξ0 ae;clear ae;go_wp2_with fail;refine(HM.out _).mono ?_;rintro e w2 ⟨rfl,rfl⟩;go_wp2_with fail;go_ret;exact⟨rfl,HB.out.alloc HB.out.size _⟩
theorem ξ9X(b mb:Nat)(wt nw y now:Int)(M:Its)(w:World)(h:ξ1 w b mb wt nw (-1) M)(ht:tf nw now=0)(h0:0<=y)(h1:y<=1099511627776) :
 Calls prog 31 #[.pointer (some ⟨b,0,none⟩),.int .i64 y,.int .i64 now] w λe w'=>e=.returned (A0a 6)/\Below w.heap.size w w':=by
 have HC:=ξ0 (λw=>ξV nw now w ht);have HM:=ξ0 (λw=>ξ15 y w h0 h1);have HO:=ξ0 h;have c0:=h.cells.1;clear ht h;go_enter func31,ntmps31;go_wp2_with fail
 refine(HC.out _).mono ?_;rintro e w1 ⟨rfl,ae⟩;have HB:=ξ0 ae;obtain⟨k0,k1,k2,k3⟩:=((HO.out.below ae).alloc (.cells #[.int .i64 now] 89)).cells;clear ae c0;go_wp2_with fail;refine(HM.out _).mono ?_;rintro e w2 ⟨rfl,rfl⟩;go_wp2_with fail;go_ret;exact⟨rfl,HB.out.alloc HB.out.size _⟩
theorem ξdC(b mb:Nat)(wt nw nx y now:Int)(M:Its)(w:World)(h:ξ1 w b mb wt nw nx M)(hI:OM.Inv nw nx M)(ht:tf nw now=0)(h0:0<=y)(h1:y<=1099511627776)(hn:nx≠-1)(hr:far nx y=true) :
 Calls prog 31 #[.pointer (some ⟨b,0,none⟩),.int .i64 y,.int .i64 now] w λe w'=>e=.returned .nilIface/\ξ1 w' b mb wt now nx M/\Only [b,mb] w w':=by
 have HC:=ξ0 (λw=>ξV nw now w ht);have HM:=ξ0 (λw=>ξ15 y w h0 h1);have hT:=λw h=>ξ1r b nx y w h hI.x1 hI.x2 h0 h1;rw[hr]at hT;have HT:=ξ0 hT;have HO:=ξ0 h;have c0:=h.cells.1;have d1:(nx==-1)=false:=by simpa using hn
 have am:=h.lt.1;clear ht h hT hI hr hn;go_enter func31,ntmps31;go_wp2_with fail
 refine(HC.out _).mono ?_;rintro e w1 ⟨rfl,ah⟩;have HB:=ξ0 ah;have ae:=HO.out.below ah;have aq:b<w1.heap.size:=ae.lt.1;obtain⟨k0,k1,k2,k3⟩:=(ae.alloc (.cells #[.int .i64 now] 89)).cells;have f0:=A5l (ae.alloc (.cells #[.int .i64 now] 89)).box 0;have ai:Hid (ξ1 ((w1.setCell ⟨b,0,none⟩ (.int .i64 now)).alloc (.cells #[.int .i64 now] 89)) b mb wt now nx M):=(ae.set 0 _ rfl).alloc _;have aj:Hid (Only [b,mb] w ((w1.setCell ⟨b,0,none⟩ (.int .i64 now)).alloc (.cells #[.int .i64 now] 89))):=((Only.of_below HB.out _).setCell (by simp) _).alloc _;clear ah c0 ae;go_wp2_with fail;refine(HM.out _).mono ?_;rintro e w2 ⟨rfl,rfl⟩;go_wp2_with fail;refine(HT.out _ (by exact ai.out.cells.2.2.1)).mono ?_;rintro e w4 ⟨rfl,rfl⟩;go_wp2_with fail;go_ret;exact⟨rfl,ai.out,aj.out⟩
def GO(w w':World)(b mb:Nat)(wt now nx y:Int)(kv:Bool)(M:Its):Prop:=ξ1 w' b mb wt now nx (if kv then M++[gone y now]else M)/\Only [b,mb] w w'
theorem ξfi(b mb:Nat)(wt nw nx y now:Int)(M:Its)(w:World)(h:ξ1 w b mb wt nw nx M)(hI:OM.Inv nw nx M)(ht:tf nw now=0)(h0:0<=y)(h1:y<=1099511627776)(hn:nx≠-1)(hr:far nx y=false) :
 Calls prog 31 #[.pointer (some ⟨b,0,none⟩),.int .i64 y,.int .i64 now] w λe w'=>e=.returned .nilIface/\GO w w' b mb wt now nx y (kx nx y M) M:=by
 have HC:=ξ0 (λw=>ξV nw now w ht);have HM:=ξ0 (λw=>ξ15 y w h0 h1);have hT:=λw h=>ξ1r b nx y w h hI.x1 hI.x2 h0 h1;rw[hr]at hT;have HT:=ξ0 hT;have HO:=ξ0 h;have c0:=h.cells.1;have d1:(nx==-1)=false:=by simpa using hn
 have ax:=h.lt.1;have hl:M.length<=1000:=by have:=hI.len;omega
 have am:=ξJ (y:=y) (by omega) (by omega);have HK:Hid (∀W,ξ1 W b mb wt now nx M->Calls prog 71 #[.pointer (some ⟨b,0,none⟩),.agg #[.int .i64 y,.bool true,.int .i64 0,.int .i64 0,.int .i64 0,.int .i64 0,.bool false,.slice none 0 0],.int .i64 now] W λe w'=>e=.returned (.bool (kx nx y M))/\Hid (ξ1 w' b mb wt now nx (if kx nx y M then M++[gone y now]else M)/\Only [mb] W w')):=
  ξ0 (λW hW=>(ξ27 b mb wt now nx now y true 0 0 0 0 false none 0 0 [] M W hW hl am (ξc7 W)).mono (λe w' ⟨h1,h2⟩=>⟨h1,h2⟩))
 generalize kx nx y M=kv at *;clear ht h hT hI hr hn;go_enter func31,ntmps31;go_wp2_with fail
 refine(HC.out _).mono ?_;rintro e w1 ⟨rfl,ah⟩;have HB:=ξ0 ah;have ae:=HO.out.below ah;have ay:b<w1.heap.size:=ae.lt.1;obtain⟨k0,k1,k2,k3⟩:=(ae.alloc (.cells #[.int .i64 now] 89)).cells;have f0:=A5l (ae.alloc (.cells #[.int .i64 now] 89)).box 0;have aj:Hid (ξ1 ((w1.setCell ⟨b,0,none⟩ (.int .i64 now)).alloc (.cells #[.int .i64 now] 89)) b mb wt now nx M):=(ae.set 0 _ rfl).alloc _;have aq:Hid (Only [b,mb] w ((w1.setCell ⟨b,0,none⟩ (.int .i64 now)).alloc (.cells #[.int .i64 now] 89))):=((Only.of_below HB.out _).setCell (by simp) _).alloc _;clear ah c0 ae;go_wp2_with fail;refine(HM.out _).mono ?_;rintro e w2 ⟨rfl,rfl⟩;go_wp2_with fail;refine(HT.out _ (by exact aj.out.cells.2.2.1)).mono ?_;rintro e w4 ⟨rfl,rfl⟩;go_wp2_with fail;refine(ξ3b y _).mono ?_;rintro e w5 ⟨rfl,ai⟩;have au:=ξ0 (aj.out.below ai);have aw:=ξ0 (aq.out.trans (Only.of_below ai _));clear ai;go_wp2_with fail;refine(HK.out _ au.out).mono ?_;rintro e w6 ⟨rfl,H6⟩;go_wp2_with fail;go_ret;exact⟨rfl,H6.out.1,aw.out.trans (H6.out.2.mono (by simp))⟩
theorem ξ7R(b mb:Nat)(wt nw nx y now:Int)(M:Its)(w:World)(h:ξ1 w b mb wt nw nx M)(hI:OM.Inv nw nx M) :
 Calls prog 31 #[.pointer (some ⟨b,0,none⟩),.int .i64 y,.int .i64 now] w λe w'=>e=.returned (A0a (gf nw nx y now))/\ξ1 w' b mb wt (gW nw nx y now) nx (gM nw nx y now M)/\Only [b,mb] w w':=by
 have same:∀w',gf nw nx y now≠0->Below w.heap.size w w'->ξ1 w' b mb wt (gW nw nx y now) nx (gM nw nx y now M)/\Only [b,mb] w w':=by
  intro w' hx hb;unfold gW gM gx;simp only[hx,decide_false,Bool.false_and,if_false];exact⟨h.below hb,Only.of_below hb _⟩
 by_cases ht:tf nw now=0
 case neg=>
  have e1:gf nw nx y now=tf nw now:=by unfold gf;rw[if_pos ht]
  refine(ξbL b nw y now w h.cells.1 ht).mono ?_;rintro e w' ⟨rfl,hb⟩;exact⟨by rw[e1],same w' (by rw[e1];exact ht) hb⟩
 by_cases hy:y<0∨1099511627776<y
 ·have e1:gf nw nx y now=1:=by unfold gf;rw[if_neg (by omega),if_pos hy]
  refine(ξ9Y b nw y now w h.cells.1 ht hy).mono ?_;rintro e w' ⟨rfl,hb⟩;exact⟨by rw[e1],same w' (by omega) hb⟩
 by_cases hn:nx=-1
 ·have e1:gf nw nx y now=6:=by unfold gf;rw[if_neg (by omega),if_neg hy,if_pos hn]
  have h':=h;rw[hn]at h';refine(ξ9X b mb wt nw y now M w h' ht (by omega) (by omega)).mono ?_;rintro e w' ⟨rfl,hb⟩;exact⟨by rw[e1],same w' (by omega) hb⟩
 have e1:gf nw nx y now=0:=by unfold gf;rw[if_neg (by omega),if_neg hy,if_neg hn]
 by_cases hr:far nx y=true
 ·refine(ξdC b mb wt nw nx y now M w h hI ht (by omega) (by omega) hn hr).mono ?_;rintro e w' ⟨rfl,hO,ho⟩;refine⟨by rw[e1];rfl,?_,ho⟩;unfold gW gM gx;simp only[e1,hr,if_true,Bool.not_true,Bool.false_and,Bool.and_false];exact hO
 ·have ae:far nx y=false:=by simpa using hr
  refine(ξfi b mb wt nw nx y now M w h hI ht (by omega) (by omega) hn ae).mono ?_;rintro e w' ⟨rfl,hO,ho⟩;refine⟨by rw[e1];rfl,?_,ho⟩;unfold gW gM gx;simp only[e1,ae,if_true,decide_true,Bool.not_false,Bool.true_and];exact hO
end Go.Proofs.YtpiamlgmadnepaaGreat.Order
