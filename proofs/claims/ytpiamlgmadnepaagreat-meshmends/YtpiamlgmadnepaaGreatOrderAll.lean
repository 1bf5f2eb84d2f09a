/-
 OrderB, OrderC, OrderD, OrderE in one text.
-/
import Derived.Test.YtpiamlgmadnepaaGreatOrderAP
import Derived.Deep.RegionHeld3
import Derived.Deep.LoopGhost
import Derived.Deep.AppendLies
open Go.Proofs.Tryz
set_option linter.unusedVariables false
set_option maxHeartbeats 4000000
set_option maxRecDepth 100000
namespace Go.Proofs.YtpiamlgmadnepaaGreat.Order
open Go.ChangeShapes Go.WideShapes Go.ChangeAt Go.RowKit Go.Maps PM Mem Pack OM
def IBox (w:World) (h:Nat) (n:Int) (g:Bool) (s t l q:Int) (st:Bool) (bv:Value):Prop:=w.heap[h]?=some (.cells #[.int .i64 n,.bool g,.int .i64 s,.int .i64 t,.int .i64 l,.int .i64 q,.bool st,bv] 82 (0,0))
theorem IBox.new (w:World) (n:Int) (g:Bool) (s t l q:Int) (st:Bool) (bv:Value):IBox (w.alloc (.cells #[.int .i64 n,.bool g,.int .i64 s,.int .i64 t,.int .i64 l,.int .i64 q,.bool st,bv] 82)) w.heap.size n g s t l q st bv:=heap_alloc_new w _
theorem IBox.lt {w:World} {h:Nat} {n:Int} {g:Bool} {s t l q:Int} {st:Bool} {bv:Value} (hx:IBox w h n g s t l q st bv):h<w.heap.size:=lt_of_block hx
theorem IBox.below {w w':World} {h B:Nat} {n:Int} {g:Bool} {s t l q:Int} {st:Bool} {bv:Value} (hx:IBox w h n g s t l q st bv) (hb:Below B w w') (hB:h<B):IBox w' h n g s t l q st bv:=(hb.block h hB).trans hx
theorem IBox.alloc {w:World} {h:Nat} {n:Int} {g:Bool} {s t l q:Int} {st:Bool} {bv:Value} (hx:IBox w h n g s t l q st bv) (o:Obj):IBox (w.alloc o) h n g s t l q st bv:=(Below.heap_alloc _ _ _ hx.lt).trans hx
theorem IBox.cells {w:World} {h:Nat} {n:Int} {g:Bool} {s t l q:Int} {st:Bool} {bv:Value} (hx:IBox w h n g s t l q st bv) :
 w.cell? ⟨h,0,none⟩=some (.int .i64 n)/\w.cell? ⟨h,1,none⟩=some (.bool g)/\w.cell? ⟨h,2,none⟩=some (.int .i64 s)/\w.cell? ⟨h,3,none⟩=some (.int .i64 t)/\w.cell? ⟨h,4,none⟩=some (.int .i64 l)/\w.cell? ⟨h,5,none⟩=some (.int .i64 q)/\w.cell? ⟨h,6,none⟩=some (.bool st)/\w.cell? ⟨h,7,none⟩=some bv:=by
 simp only [IBox] at hx
 simp [World.cell?,hx]
theorem IBox.free {w:World} {h:Nat} {n:Int} {g:Bool} {s t l q:Int} {st:Bool} {bv:Value} (hx:IBox w h n g s t l q st bv) (j:Nat):w.frozen? ⟨h,j,none⟩=false:=by
 simp only [IBox] at hx
 simp [World.frozen?,hx]
theorem ξcC (b mb:Nat) (wt nw nx now n:Int) (g:Bool) (s t l q:Int) (st:Bool) (bv:Value) (M:Its) (w:World) (h:ξ1 w b mb wt nw nx M) (hn:n<nx) :
 Calls prog 71 #[.pointer (some ⟨b,0,none⟩),.agg #[.int .i64 n,.bool g,.int .i64 s,.int .i64 t,.int .i64 l,.int .i64 q,.bool st,bv],.int .i64 now] w fun e w'=>e=.returned (.bool false)/\Below w.heap.size w w':=by
 have HX:=ξ0 (IBox.new w n g s t l q st bv)
 have HO:=ξ0 (h.alloc (.cells #[.int .i64 n,.bool g,.int .i64 s,.int .i64 t,.int .i64 l,.int .i64 q,.bool st,bv] 82))
 obtain ⟨c0,c1,c2,c3⟩:=HO.out.cells;obtain ⟨x0,_⟩:=HX.out.cells;have d:decide (n<nx)=true:=by simpa using hn
 clear h c0 c1 c3;go_enter func71,ntmps71
 go_wp2_with fail
 go_quiet (fail)
 go_wp2_with fail
 go_ret
 exact ⟨rfl,below_drewN ((Ξp _ _).alloc (Ξo _) _) _⟩
def KSt (w W:World) (b mb:Nat) (wt nw nx:Int) (M:Its) (n:Int) (g:Bool) (s t l q:Int) (st:Bool) (bv:Value):Prop:=
 ξ1 W b mb wt nw nx M/\Below w.heap.size w W/\IBox W w.heap.size n g s t l q st bv
theorem ξcE (b mb:Nat) (wt nw nx now n:Int) (g:Bool) (s t l q:Int) (st:Bool) (bv:Value) (M:Its) (w:World) (h:ξ1 w b mb wt nw nx M) (hn:¬ n<nx) (hw:(Lit.int .i64 n).wf=true) (hh:has M n=true) :
 Calls prog 71 #[.pointer (some ⟨b,0,none⟩),.agg #[.int .i64 n,.bool g,.int .i64 s,.int .i64 t,.int .i64 l,.int .i64 q,.bool st,bv],.int .i64 now] w fun e w'=>e=.returned (.bool false)/\Below w.heap.size w w':=by
 have HS0:Hid (KSt w (w.alloc (.cells #[.int .i64 n,.bool g,.int .i64 s,.int .i64 t,.int .i64 l,.int .i64 q,.bool st,bv] 82)) b mb wt nw nx M n g s t l q st bv):=⟨h.alloc _,(Ξp _ _).alloc (Ξo _) _,IBox.new w n g s t l q st bv⟩
 have HH:Hid (∀ W,(W.cell? ⟨w.heap.size,0,none⟩=some (.int .i64 n)/\W.cell? ⟨b,2,none⟩=some (.int .i64 nx)/\Hid (KSt w W b mb wt nw nx M n g s t l q st bv))->Calls prog 77 #[.pointer (some ⟨b,0,none⟩),.int .i64 n] W fun e w'=>e=.returned (.bool true)/\(w'.cell? ⟨w.heap.size,0,none⟩=some (.int .i64 n)/\w'.cell? ⟨b,2,none⟩=some (.int .i64 nx)/\Hid (KSt w w' b mb wt nw nx M n g s t l q st bv))):=by
  refine ξ0 ?_
  rintro W ⟨_,_,hS⟩;refine (ξN b mb wt nw nx n M W hS.out.1 hw).mono ?_
  rintro e w' ⟨rfl,hb⟩;have hS':KSt w w' b mb wt nw nx M n g s t l q st bv:=⟨hS.out.1.below hb,hS.out.2.1.trans (hb.mono hS.out.2.1.size),hS.out.2.2.below hb hS.out.2.2.lt⟩
  exact ⟨by rw [hh],hS'.2.2.cells.1,hS'.1.cells.2.2.1,hS'⟩
 have d:decide (n<nx)=false:=by simpa using hn
 clear h hh;have hS1:((w.alloc (.cells #[.int .i64 n,.bool g,.int .i64 s,.int .i64 t,.int .i64 l,.int .i64 q,.bool st,bv] 82)).drew.cell? ⟨w.heap.size,0,none⟩=some (.int .i64 n)/\(w.alloc (.cells #[.int .i64 n,.bool g,.int .i64 s,.int .i64 t,.int .i64 l,.int .i64 q,.bool st,bv] 82)).drew.cell? ⟨b,2,none⟩=some (.int .i64 nx)/\Hid (KSt w (w.alloc (.cells #[.int .i64 n,.bool g,.int .i64 s,.int .i64 t,.int .i64 l,.int .i64 q,.bool st,bv] 82)).drew b mb wt nw nx M n g s t l q st bv)):=⟨HS0.out.2.2.cells.1,HS0.out.1.cells.2.2.1,ξ0 ⟨HS0.out.1.below ((Ξp _ _).drew),HS0.out.2.1.drew,HS0.out.2.2⟩⟩
 go_enter func71,ntmps71
 go_wp2_with fail
 go_region_held3 (fun w'=>w'.cell? ⟨w.heap.size,0,none⟩=some (.int .i64 n)/\w'.cell? ⟨b,2,none⟩=some (.int .i64 nx)/\Hid (KSt w w' b mb wt nw nx M n g s t l q st bv)) (with_reducible assumption) (first | (go_at_call 77;refine (HH.out _ (by with_reducible assumption)).mono ?_;rintro e w7 ⟨rfl,hS7⟩))
 go_wp2_with fail
 go_ret
 exact ⟨rfl,hS7.2.2.out.2.1⟩
theorem ξcD (b mb:Nat) (wt nw nx now n:Int) (g:Bool) (s t l q:Int) (st:Bool) (a:Option Addr) (m c:Nat) (L:List Nat) (M:Its) (w:World) (h:ξ1 w b mb wt nw nx M) (hl:M.length<=1000) (hn:¬ n<nx) (hw:(Lit.int .i64 n).wf=true) (hh:has M n=false) (hB:Body w ⟨s,t,l,q,st,L,.slice a m c⟩) :
 Calls prog 71 #[.pointer (some ⟨b,0,none⟩),.agg #[.int .i64 n,.bool g,.int .i64 s,.int .i64 t,.int .i64 l,.int .i64 q,.bool st,.slice a m c],.int .i64 now] w fun e w'=>e=.returned (.bool true)/\ξ1 w' b mb wt nw nx (M++[⟨n,g,⟨s,t,l,q,st,L,.slice a m c⟩,now⟩])/\Only [mb] w w':=by
 obtain ⟨M2,hM2⟩:∃ M2:Its,M++[⟨n,g,⟨s,t,l,q,st,L,.slice a m c⟩,now⟩]=M2:=⟨_,rfl⟩;rw [hM2];have HS0:Hid (KSt w (w.alloc (.cells #[.int .i64 n,.bool g,.int .i64 s,.int .i64 t,.int .i64 l,.int .i64 q,.bool st,.slice a m c] 82)) b mb wt nw nx M n g s t l q st (.slice a m c)):=⟨h.alloc _,(Ξp _ _).alloc (Ξo _) _,IBox.new w n g s t l q st (.slice a m c)⟩
 have HH:Hid (∀ W,(W.cell? ⟨w.heap.size,0,none⟩=some (.int .i64 n)/\W.cell? ⟨b,2,none⟩=some (.int .i64 nx)/\Hid (KSt w W b mb wt nw nx M n g s t l q st (.slice a m c)))->Calls prog 77 #[.pointer (some ⟨b,0,none⟩),.int .i64 n] W fun e w'=>e=.returned (.bool false)/\(w'.cell? ⟨w.heap.size,0,none⟩=some (.int .i64 n)/\w'.cell? ⟨b,2,none⟩=some (.int .i64 nx)/\Hid (KSt w w' b mb wt nw nx M n g s t l q st (.slice a m c)))):=by
  refine ξ0 ?_
  rintro W ⟨_,_,hS⟩;refine (ξN b mb wt nw nx n M W hS.out.1 hw).mono ?_
  rintro e w' ⟨rfl,hb⟩;have hS':KSt w w' b mb wt nw nx M n g s t l q st (.slice a m c):=⟨hS.out.1.below hb,hS.out.2.1.trans (hb.mono hS.out.2.1.size),hS.out.2.2.below hb hS.out.2.2.lt⟩
  exact ⟨by rw [hh],hS'.2.2.cells.1,hS'.1.cells.2.2.1,hS'⟩
 have HSt:Hid (∀ W,KSt w W b mb wt nw nx M n g s t l q st (.slice a m c)->∃ w2,(Instr.mapUpdate 124 (.map (some mb)) (.int .i64 n) (.agg #[.int .i64 n,.bool g,.int .i64 s,.int .i64 t,.int .i64 l,.int .i64 q,.bool st,.slice a m c,.int .i64 now])).run prog W=.ok () w2/\Hid (ξ1 w2 b mb wt nw nx M2/\Only [mb] w w2)):=by
  refine ξ0 ?_
  intro W hW;obtain ⟨w2,h1,h2,h3⟩:=ξ37 hW.1 ⟨n,g,⟨s,t,l,q,st,L,.slice a m c⟩,now⟩ hh hw hl (hB.only (Only.of_below hW.2.1 []) (by simp))
  rw [hM2] at h2;exact ⟨w2,h1,h2,(Only.of_below hW.2.1 _).trans h3⟩
 have d:decide (n<nx)=false:=by simpa using hn
 clear h hh hM2 hB;have hS1:((w.alloc (.cells #[.int .i64 n,.bool g,.int .i64 s,.int .i64 t,.int .i64 l,.int .i64 q,.bool st,.slice a m c] 82)).drew.cell? ⟨w.heap.size,0,none⟩=some (.int .i64 n)/\(w.alloc (.cells #[.int .i64 n,.bool g,.int .i64 s,.int .i64 t,.int .i64 l,.int .i64 q,.bool st,.slice a m c] 82)).drew.cell? ⟨b,2,none⟩=some (.int .i64 nx)/\Hid (KSt w (w.alloc (.cells #[.int .i64 n,.bool g,.int .i64 s,.int .i64 t,.int .i64 l,.int .i64 q,.bool st,.slice a m c] 82)).drew b mb wt nw nx M n g s t l q st (.slice a m c))):=⟨HS0.out.2.2.cells.1,HS0.out.1.cells.2.2.1,ξ0 ⟨HS0.out.1.below ((Ξp _ _).drew),HS0.out.2.1.drew,HS0.out.2.2⟩⟩
 go_enter func71,ntmps71
 go_wp2_with fail
 go_region_held3 (fun w'=>w'.cell? ⟨w.heap.size,0,none⟩=some (.int .i64 n)/\w'.cell? ⟨b,2,none⟩=some (.int .i64 nx)/\Hid (KSt w w' b mb wt nw nx M n g s t l q st (.slice a m c))) (with_reducible assumption) (first | (go_at_call 77;refine (HH.out _ (by with_reducible assumption)).mono ?_;rintro e w7 ⟨rfl,hS7⟩))
 have HS7:=hS7.2.2
 clear hS7 hS1 HS0 HH;have HS8:Hid (KSt w w7.drew b mb wt nw nx M n g s t l q st (.slice a m c)):=ξ0 ⟨HS7.out.1.below ((Ξp _ _).drew),HS7.out.2.1.drew,HS7.out.2.2⟩
 obtain ⟨w2,hrun,HQ⟩:=HSt.out _ HS8.out;obtain ⟨c0,c1,c2,c3⟩:=HS7.out.1.cells;obtain ⟨x0,x1,x2,x3,x4,x5,x6,x7⟩:=HS7.out.2.2.cells;clear HSt;go_wp2_with fail
 go_region
 all_goals go_wp2_with fail
 all_goals go_ret
 all_goals exact ⟨rfl,HQ.out⟩
theorem ξ2X (b mb:Nat) (wt nw nx now n:Int) (g:Bool) (s t l q:Int) (st:Bool) (a:Option Addr) (m c:Nat) (L:List Nat) (M:Its) (w:World) (h:ξ1 w b mb wt nw nx M) (hl:M.length<=1000) (hw:(Lit.int .i64 n).wf=true) (hB:Body w ⟨s,t,l,q,st,L,.slice a m c⟩) :
 Calls prog 71 #[.pointer (some ⟨b,0,none⟩),.agg #[.int .i64 n,.bool g,.int .i64 s,.int .i64 t,.int .i64 l,.int .i64 q,.bool st,.slice a m c],.int .i64 now] w fun e w'=>e=.returned (.bool (kx nx n M))/\ξ1 w' b mb wt nw nx (if kx nx n M then M++[⟨n,g,⟨s,t,l,q,st,L,.slice a m c⟩,now⟩] else M)/\Only [mb] w w':=by
 by_cases hn:n<nx
 ·have e:kx nx n M=false:=by simp [kx];omega
  rw [e];refine (ξcC b mb wt nw nx now n g s t l q st _ M w h hn).mono ?_
  rintro e w' ⟨rfl,hb⟩;exact ⟨rfl,h.below hb,Only.of_below hb _⟩
 by_cases hh:has M n=true
 ·have e:kx nx n M=false:=by simp [kx,hh]
  rw [e];refine (ξcE b mb wt nw nx now n g s t l q st _ M w h hn hw hh).mono ?_
  rintro e w' ⟨rfl,hb⟩;exact ⟨rfl,h.below hb,Only.of_below hb _⟩
 ·have hh':has M n=false:=by simpa using hh
  have e:kx nx n M=true:=by simp [kx,hh'];omega
  rw [e];exact ξcD b mb wt nw nx now n g s t l q st a m c L M w h hl hn hw hh' hB
theorem ξ5w {P:Program} {k:TypeId} {R:Value->Option (DataW Value×List MemPlace)} {w:World} {b r n cnt:Nat} {D:DataW Value} {left:Lit->Bool} (h:w.ranges P k R b r n D left cnt) (j:Nat):(w.drewN j).rangeLeft b r=cnt:=by
 have h':(w.drewN j).ranges P k R b r n D left cnt:=h
 exact h'.left_eq
def LSt (w wr:World) (mb it:Nat) (wt now od:Int) (M:Its) (D:DataW Value) (left:Lit->Bool) (cnt:Nat):Prop:=
 wr.ranges prog 3 wtR mb it M.length D left cnt/\Below w.heap.size w wr/\w.heap.size<=it/\-1<=od/\(∀ i∈M,left (key i.n)=false->late wt now i=true->i.n<=od)/\(od=-1∨∃ i∈M,late wt now i=true/\od=i.n)
theorem ξ44 {w wr w1:World} {mb it cnt cnt1:Nat} {wt now od od':Int} {M:Its} {D:DataW Value} {left:Lit->Bool} {j:Kp} (h:LSt w wr mb it wt now od M D left cnt) (hb:Below w.heap.size wr w1)
 (hr:w1.ranges prog 3 wtR mb it M.length D (fun z=>left z&&!z.sameKey (key j.n)) cnt1) (hj:j∈M) (hone:Apart M) (h0:0<=j.n) (hod:od'=if late wt now j then max od j.n else od):LSt w w1 mb it wt now od' M D (fun z=>left z&&!z.sameKey (key j.n)) cnt1:=by
 obtain ⟨g1,g2,g3,g4,g5,g6⟩:=h;refine ⟨hr,g2.trans hb,g3,?_,?_,?_⟩
 ·rw [hod];split<;>omega
 ·intro i hi hl hlt;by_cases e:i.n=j.n
  ·obtain rfl:i=j:=by rw [<- ξ4x hone hi,e,ξ4x hone hj]
   rw [hod,hlt];simp;omega
  ·have hs:(key i.n).sameKey (key j.n)=false:=sameKey_ne (fun h=>e (key_inj h))
   simp only [hs,Bool.not_false,Bool.and_true] at hl
   have:=g5 i hi hl hlt
   rw [hod];split<;>omega
 ·rw [hod];split
  ·rename_i hlt
   rcases Int.le_total od j.n with hle | hle
   ·rw [Int.max_eq_right hle];exact .inr ⟨j,hj,hlt,rfl⟩
   ·rw [Int.max_eq_left hle];exact g6
  ·exact g6
theorem ξ5T (b mb:Nat) (wt nw nx now od:Int) (M:Its) (w:World) (h:ξ1 w b mb wt nw nx M) (hI:OM.Inv nw nx M) (hO:Od wt now M od) (h0:0<=now) (h1:now<=1000000) :
 Calls prog 76 #[.pointer (some ⟨b,0,none⟩),.int .i64 now] w fun e w'=>e=.returned (.int .i64 od)/\Below w.heap.size w w':=by
 obtain ⟨c0,c1,c2,c3⟩:=h.cells;obtain ⟨D,hown,hK,hE⟩:=h.map;have hlt:=h.lt
 have HB:=ξ0 h.box
 have HO:=ξ0 hown
 have HK:=ξ0 hK
 have HE:=ξ0 hE
 have HI:=ξ0 hI
 have HOd:=ξ0 hO
 have HBo:=ξ0 h.bod
 clear h hown hK hE hI hO;go_enter func76,ntmps76
 go_wp2_with (at_range;refine wpList_range_own _ rfl _ 124 rfl 3 188 law3 underlying124 _ mb M.length D rfl HO.out ?_;intro w0 hrg0 hg0 hs0)
 go_frame
 have HS0:Hid (LSt w w0 mb w.heap.size wt now (-1) M D (Maps.has D) (Maps.size D)):=
  ⟨hrg0,(Ξp _ _).grown hg0 (Ξo _) (by simp),Ξo _,Int.le_refl _,(fun i hi hl=>by rw [(HK.out (key i.n)).2 ⟨i,hi,rfl⟩] at hl;cases hl),.inl rfl⟩
 clear hrg0 hg0 hs0 HO c0 c1 c2 c3;go_loopw [5] (fun g' wr=>∃ (m:Int) (left:Lit->Bool) (cnt:Nat),g'=.int .i64 m/\Hid (LSt w wr mb w.heap.size wt now m M D left cnt)) (fun _ wr=>wr.rangeLeft mb w.heap.size)
 case atStart=>exact ⟨_,_,_,rfl,HS0⟩
 case round=>
  obtain ⟨m,left,cnt,rfl,HS⟩:=hrel;clear HS0;go_wp2_with (at_next;refine wpList_next_ranges _ rfl _ rfl 3 law3 wtR (Value.int .i64) (fun v:Value=>v) (fun key kl hkey=>by obtain ⟨x,rfl,_⟩:=Maps.keyOf_int_inv underlying3 hkey;exact ⟨x,rfl⟩) (fun v y hv=>⟨v,rfl⟩) mb w.heap.size M.length D left cnt rfl HS.out.1 ?_ ?_)
  ·intro _ hl0;go_wp2_with fail
   go_ret
   obtain ⟨g1,g2,g3,g4,g5,g6⟩:=HS.out;have e:m=od:=by
    obtain ⟨k1,k2,k3⟩:=HOd.out;have a1:m<=od:=by
     rcases g6 with e | ⟨i,hi,hl,e⟩
     ·omega
     ·have:=k2 i hi hl;omega
    have a2:od<=m:=by
     rcases k3 with e | ⟨i,hi,hl,e⟩
     ·omega
     ·have:=g5 i hi (hl0 _) hl;omega
    omega
   exact ⟨by rw [<- e];rfl,g2⟩
  ·intro x v kl yd yp w1 cnt1 hkey hlk hv hat hrg1 hlt1 hg1 hs1 hen;obtain ⟨x',ex,rfl,hwx⟩:=Maps.keyOf_int_inv underlying3 hkey;cases ex
   obtain ⟨i,hi,ei⟩:=(HK.out (key x)).1 (has_true_of_atKey hat);have hxi:i.n=x:=(key_inj ei).symm
   have hvi:v=lv i:=by
    have h1:=HE.out i hi (.held v)
    have h2:=hat (.held v)
    rw [hxi] at h1;rw [show key x=Lit.int .i64 x from rfl] at h1;rw [h1] at h2;have h3:=(ξ4M hv).2
    simp only [Prod.mk.injEq] at h3
    rw [h3.1] at h2;simpa using h2.symm
   have hm:=HI.out.mem i hi
   obtain ⟨a,mm,c,hbv,_⟩:=HBo.out i hi;have hR1:w1.ranges prog 3 wtR mb w.heap.size M.length D (fun z=>left z&&!z.sameKey (key i.n)) cnt1:=by rw [hxi];exact hrg1
   have hgB:Below w.heap.size wr w1:=(Ξp _ _).grown hg1 HS.out.2.1.size (by simp)
   have HL:Hid (∀ W od',Below w.heap.size w1 W->(W.ranges prog 3 wtR mb w.heap.size M.length D (fun z=>left z&&!z.sameKey (key i.n)) cnt1)->od'=(if late wt now i then max m i.n else m)->LSt w W mb w.heap.size wt now od' M D (fun z=>left z&&!z.sameKey (key i.n)) cnt1):=ξ0 (fun W od' hb hr he=>ξ44 HS.out (hgB.trans hb) hr hi HI.out.one hm.1 he)
   have HR1:=ξ0 hR1
   have HI1:=ξ0 hi
   have hB1:Below w.heap.size w w1:=HS.out.2.1.trans hgB
   have HB1:=ξ0 hB1
   obtain ⟨k0,k1,k2,k3⟩:=cells4 ((hB1.block b hlt.1).trans HB.out);have k1a:=fun O=>ξk k1 O
   have HX:=ξ0 hxi
   clear hrg1 hg1 hkey hlk hv hat ei hR1 hgB hB1 hi k0 k2 k3;unfold lv at hvi;rw [hbv] at hvi;subst hvi;have hlate:late wt now i=decide (wt<=now - i.a):=rfl
   have HLt:=ξ0 hlate
   obtain ⟨z,hz⟩:∃ z,i.a=z:=⟨_,rfl⟩;rw [hz] at hen hm HLt;rw [hxi] at hen hm;clear hz hlate hbv hxi;obtain ⟨_,_,_,_,hz0,hz1⟩:=hm;have hz2:z<=1000000:=by have:=HI.out.c2;omega
   by_cases hl:wt<=now - z
   ·have d:decide (wt<=now - z)=true:=by simpa using hl
    rw [d] at HLt;go_wp2_with fail
    go_quiet (fail)
    go_wp2_with fail
    go_roundw
    case rel=>
     refine ⟨max m x,_,cnt1,congrArg (Value.int .i64) (by split<;>omega),HL.out _ _ (below_drewN ((Ξp _ _).alloc HB1.out.size _) _) (HR1.out.alloc _) ?_⟩
     rw [HLt.out,HX.out];rfl
    case measure=>rw [ξ5w (HR1.out.alloc _),HS.out.1.left_eq];omega
   ·have d:decide (wt<=now - z)=false:=by simpa using hl
    rw [d] at HLt;go_wp2_with fail
    go_quiet (fail)
    go_wp2_with fail
    go_roundw
    case rel=>
     refine ⟨m,_,cnt1,rfl,HL.out _ _ (below_drewN ((Ξp _ _).alloc HB1.out.size _) _) (HR1.out.alloc _) ?_⟩
     rw [HLt.out];rfl
    case measure=>rw [ξ5w (HR1.out.alloc _),HS.out.1.left_eq];omega
theorem ibox8 {W:World} {h:Nat} {z0 z1 z2 z3 z4 z5 z6 z7:Value} (hh:W.heap[h]?=some (.cells #[z0,z1,z2,z3,z4,z5,z6,z7] 82 (0,0))) (n:Int) (g:Bool) (s t l q:Int) (st:Bool) (bv:Value) :
 IBox ((((((((W.setCell ⟨h,0,none⟩ (.int .i64 n)).setCell ⟨h,1,none⟩ (.bool g)).setCell ⟨h,2,none⟩ (.int .i64 s)).setCell ⟨h,3,none⟩ (.int .i64 t)).setCell ⟨h,4,none⟩ (.int .i64 l)).setCell ⟨h,5,none⟩ (.int .i64 q)).setCell ⟨h,6,none⟩ (.bool st)).setCell ⟨h,7,none⟩ bv) h n g s t l q st bv:=by
 have h0:(W.setCell ⟨h,0,none⟩ (.int .i64 n)).heap[h]?=some (.cells #[.int .i64 n,z1,z2,z3,z4,z5,z6,z7] 82 (0,0)):=heap_setCell_same _ _ 0 _ _ (.int .i64 n) hh
 have h1:((W.setCell ⟨h,0,none⟩ (.int .i64 n)).setCell ⟨h,1,none⟩ (.bool g)).heap[h]?=some (.cells #[.int .i64 n,.bool g,z2,z3,z4,z5,z6,z7] 82 (0,0)):=heap_setCell_same _ _ 1 _ _ (.bool g) h0
 have h2:(((W.setCell ⟨h,0,none⟩ (.int .i64 n)).setCell ⟨h,1,none⟩ (.bool g)).setCell ⟨h,2,none⟩ (.int .i64 s)).heap[h]?=some (.cells #[.int .i64 n,.bool g,.int .i64 s,z3,z4,z5,z6,z7] 82 (0,0)):=heap_setCell_same _ _ 2 _ _ (.int .i64 s) h1
 have h3:((((W.setCell ⟨h,0,none⟩ (.int .i64 n)).setCell ⟨h,1,none⟩ (.bool g)).setCell ⟨h,2,none⟩ (.int .i64 s)).setCell ⟨h,3,none⟩ (.int .i64 t)).heap[h]?=some (.cells #[.int .i64 n,.bool g,.int .i64 s,.int .i64 t,z4,z5,z6,z7] 82 (0,0)):=heap_setCell_same _ _ 3 _ _ (.int .i64 t) h2
 have h4:(((((W.setCell ⟨h,0,none⟩ (.int .i64 n)).setCell ⟨h,1,none⟩ (.bool g)).setCell ⟨h,2,none⟩ (.int .i64 s)).setCell ⟨h,3,none⟩ (.int .i64 t)).setCell ⟨h,4,none⟩ (.int .i64 l)).heap[h]?=some (.cells #[.int .i64 n,.bool g,.int .i64 s,.int .i64 t,.int .i64 l,z5,z6,z7] 82 (0,0)):=heap_setCell_same _ _ 4 _ _ (.int .i64 l) h3
 have h5:((((((W.setCell ⟨h,0,none⟩ (.int .i64 n)).setCell ⟨h,1,none⟩ (.bool g)).setCell ⟨h,2,none⟩ (.int .i64 s)).setCell ⟨h,3,none⟩ (.int .i64 t)).setCell ⟨h,4,none⟩ (.int .i64 l)).setCell ⟨h,5,none⟩ (.int .i64 q)).heap[h]?=some (.cells #[.int .i64 n,.bool g,.int .i64 s,.int .i64 t,.int .i64 l,.int .i64 q,z6,z7] 82 (0,0)):=heap_setCell_same _ _ 5 _ _ (.int .i64 q) h4
 have h6:(((((((W.setCell ⟨h,0,none⟩ (.int .i64 n)).setCell ⟨h,1,none⟩ (.bool g)).setCell ⟨h,2,none⟩ (.int .i64 s)).setCell ⟨h,3,none⟩ (.int .i64 t)).setCell ⟨h,4,none⟩ (.int .i64 l)).setCell ⟨h,5,none⟩ (.int .i64 q)).setCell ⟨h,6,none⟩ (.bool st)).heap[h]?=some (.cells #[.int .i64 n,.bool g,.int .i64 s,.int .i64 t,.int .i64 l,.int .i64 q,.bool st,z7] 82 (0,0)):=heap_setCell_same _ _ 6 _ _ (.bool st) h5
 have h7:((((((((W.setCell ⟨h,0,none⟩ (.int .i64 n)).setCell ⟨h,1,none⟩ (.bool g)).setCell ⟨h,2,none⟩ (.int .i64 s)).setCell ⟨h,3,none⟩ (.int .i64 t)).setCell ⟨h,4,none⟩ (.int .i64 l)).setCell ⟨h,5,none⟩ (.int .i64 q)).setCell ⟨h,6,none⟩ (.bool st)).setCell ⟨h,7,none⟩ bv).heap[h]?=some (.cells #[.int .i64 n,.bool g,.int .i64 s,.int .i64 t,.int .i64 l,.int .i64 q,.bool st,bv] 82 (0,0)):=heap_setCell_same _ _ 7 _ _ bv h6
 exact h7
theorem IBox.drew {w:World} {h:Nat} {n:Int} {g:Bool} {s t l q:Int} {st:Bool} {bv:Value} (hx:IBox w h n g s t l q st bv):IBox w.drew h n g s t l q st bv:=hx
theorem only8 {w W:World} {bs:List Nat} {g:Nat} (h:Only bs w W) (hg:g∈bs) (v0 v1 v2 v3 v4 v5 v6 v7:Value) :
 Only bs w ((((((((W.setCell ⟨g,0,none⟩ v0).setCell ⟨g,1,none⟩ v1).setCell ⟨g,2,none⟩ v2).setCell ⟨g,3,none⟩ v3).setCell ⟨g,4,none⟩ v4).setCell ⟨g,5,none⟩ v5).setCell ⟨g,6,none⟩ v6).setCell ⟨g,7,none⟩ v7):=by
 iterate 8 refine Only.setCell ?_ hg _
 exact h
theorem ξ2V {w:World} {b mb:Nat} {wt nw nx:Int} {M:Its} (h:ξ1 w b mb wt nw nx M) {i:Kp} (hi:i∈M) (hw:(Lit.int .i64 i.n).wf=true) :
 (Instr.lookup 124 (.map (some mb)) (.int .i64 i.n) false).run prog w=.ok (lv i) w:=by
 obtain ⟨D,hown,hK,hE⟩:=h.map;obtain ⟨v',ps,hrun,hr⟩:=hown.lookup law3 underlying124 (zeroWT w) (ξ9J 0 false 0 0 0 0 false none 0 0 0) (keyOf3 hw);rw [hE i hi] at hr;have e:=(ξ4M hr).2
 simp only [Prod.mk.injEq,DataW.held.injEq] at e
 rw [<- e.1] at hrun;exact hrun
theorem ξd2 (w:World) (n:Int) (g:Bool) (s t l q:Int) (st:Bool) (a:Option Addr) (m c:Nat) (z:Int) :
 (Instr.field 188 (.agg #[.int .i64 n,.bool g,.int .i64 s,.int .i64 t,.int .i64 l,.int .i64 q,.bool st,.slice a m c,.int .i64 z]) 0).run prog w=.ok (.agg #[.int .i64 n,.bool g,.int .i64 s,.int .i64 t,.int .i64 l,.int .i64 q,.bool st,.slice a m c]) w:=by
 kernel_rfl
theorem ξ2Z {w:World} {h b mb:Nat} {n:Int} {g:Bool} {s t l q:Int} {st:Bool} {bv:Value} {wt nw nx:Int} {M:Its} (hx:IBox w h n g s t l q st bv) (ho:ξ1 w b mb wt nw nx M):¬ h=mb:=by
 obtain ⟨D,h2,_⟩:=ho.map;obtain ⟨es,c,h3⟩:=ξc h2;intro e;rw [IBox,e,h3] at hx;simp at hx
theorem ξ35 (b mb:Nat) (wt nw nx:Int) (M:Its) (w:World) (h:ξ1 w b mb wt nw nx M) (h1:Apart M) (h0:-1<=nx) (h2:nx<=1099511627777) (hh:has M nx=false) :
 Calls prog 78 #[.pointer (some ⟨b,0,none⟩)] w fun e w'=>e=.returned (.agg #[.int .i64 nx,.bool true,.int .i64 0,.int .i64 0,.int .i64 0,.int .i64 0,.bool false,.slice none 0 0])/\ξ1 w' b mb wt nw (nx+1) (M.filter fun i=>decide (i.n≠nx))/\Only [b,mb] w w':=by
 obtain ⟨M2,hM2⟩:∃ M2:Its,(M.filter fun i=>decide (i.n≠nx))=M2:=⟨_,rfl⟩
 rw [hM2];have hwf:=ξL (y:=nx) (by omega) (by omega)
 have HH:Hid (∀ W,ξ1 W b mb wt nw nx M->Calls prog 77 #[.pointer (some ⟨b,0,none⟩),.int .i64 nx] W fun e w'=>e=.returned (.bool false)/\Below W.heap.size W w'):=by
  refine ξ0 (fun W hW=>(ξN b mb wt nw nx nx M W hW hwf).mono ?_)
  rintro e w' ⟨rfl,hb⟩;exact ⟨by rw [hh],hb⟩
 have HD:Hid (∀ W,ξ1 W b mb wt nw nx M->∀ ty,∃ w2,(Builtin.delete_ #[124,3] ty #[.map (some mb),.int .i64 nx]).run prog W=.ok (.tuple #[]) w2/\ξ1 w2 b mb wt nw nx M2/\Only [mb] W w2):=by
  refine ξ0 (fun W hW ty=>?_)
  obtain ⟨D,hown,hK,hE⟩:=hW.map;obtain ⟨w2,hrun,hown2,hturn⟩:=hown.drop law3 underlying124 (keyOf3 hwf) ty;have ho:Only [mb] W w2:=(Only.refl [mb] _).grown hturn.grown (by simp)
  exact ⟨w2,hrun,by rw [<- hM2];exact ξ3I hW hK hE h1 hown2 ho,ho⟩
 have HO:=ξ0 h
 have HA:=ξ0 (fun O=>h.alloc O)
 have c2:=fun O=>(HA.out O).cells.2.2.1
 clear h hh hM2;go_enter func78,ntmps78
 go_wp2_with fail
 refine (ξ4A nx _).mono ?_
 rintro e w1 ⟨rfl,hb1⟩;have hB1:=ξs hb1
 have hR1:=(IBox.new w 0 false 0 0 0 0 false (.slice none 0 0)).below hb1 (by simp)
 have HO1:=ξ0 (HO.out.below hB1)
 have HB1:=ξ0 hB1
 have HR1:=ξ0 hR1
 have k2:=fun O=>(HO1.out.alloc O).cells.2.2.1
 clear hB1 hR1 hb1 c2 HA;go_wp2_with fail
 refine (HH.out _ (HO1.out.alloc _)).mono ?_
 rintro e w2 ⟨rfl,hb2⟩;have HO2:=ξ0 ((HO1.out.alloc (.cells #[.int .i64 nx,.bool true,.int .i64 0,.int .i64 0,.int .i64 0,.int .i64 0,.bool false,.slice none 0 0] 82)).below hb2)
 have HB2:=ξ0 ((HB1.out.alloc HB1.out.size (.cells #[.int .i64 nx,.bool true,.int .i64 0,.int .i64 0,.int .i64 0,.int .i64 0,.bool false,.slice none 0 0] 82)).trans (hb2.mono (by have:=HB1.out.size;simp;omega)))
 have HX2:=ξ0 ((IBox.new w1 nx true 0 0 0 0 false (.slice none 0 0)).below hb2 (by simp))
 have HR2:=ξ0 ((HR1.out.alloc (.cells #[.int .i64 nx,.bool true,.int .i64 0,.int .i64 0,.int .i64 0,.int .i64 0,.bool false,.slice none 0 0] 82)).below hb2 (by have:=HR1.out.lt;simp;omega))
 have hs1:w.heap.size<w1.heap.size:=HR1.out.lt
 clear hb2 k2 HO1 HB1 HR1;obtain ⟨c0,c1,c2,c3⟩:=HO2.out.cells;have HO3:Hid (ξ1 w2.drew b mb wt nw nx M):=HO2.out.below ((Ξp _ _).drew)
 obtain ⟨w3,hdel,hO4,hon4⟩:=HD.out _ HO3.out 0;have HO4:=ξ0 hO4
 have HN4:=ξ0 hon4
 clear hO4 hon4 HO3;have hX3:IBox w3 w1.heap.size nx true 0 0 0 0 false (.slice none 0 0):=HN4.out.block HX2.out (by simp;exact ξ2Z HX2.out HO2.out)
 have hR3:IBox w3 w.heap.size 0 false 0 0 0 0 false (.slice none 0 0):=HN4.out.block HR2.out (by simp;exact ξ2Z HR2.out HO2.out)
 have HX3:=ξ0 hX3
 have HR3:=ξ0 hR3
 obtain ⟨x0,x1,x2,x3,x4,x5,x6,x7⟩:=hX3.cells;obtain ⟨r0,r1,r2,r3,r4,r5,r6,r7⟩:=hR3.cells;have f0:=hR3.free 0
 have f1:=hR3.free 1
 have f2:=hR3.free 2
 have f3:=hR3.free 3
 have f4:=hR3.free 4
 have f5:=hR3.free 5
 have f6:=hR3.free 6
 have f7:=hR3.free 7
 obtain ⟨e0,e1,e2,e3⟩:=HO4.out.cells;have fb:=freeb HO4.out.box 2
 have hbl:=HO.out.lt.1
 have HF:Hid (ξ1 (w3.setCell ⟨b,2,none⟩ (.int .i64 (nx+1))) b mb wt nw (nx+1) M2):=HO4.out.set 2 _ rfl
 clear hX3 hR3 c0 c1 e0 e1 e3;go_wp2_with fail
 go_region
 all_goals go_wp2_with fail
 have ho:=only8 (g:=w.heap.size) (Only.refl [w.heap.size] (w3.setCell ⟨b,2,none⟩ (.int .i64 (nx+1)))) (by simp) (.int .i64 nx) (.bool true) (.int .i64 0) (.int .i64 0) (.int .i64 0) (.int .i64 0) (.bool false) (.slice none 0 0)
 have hb:=ibox8 (h:=w.heap.size) ((Below.heap_setCell w3 ⟨b,2,none⟩ (.int .i64 (nx+1)) w.heap.size (by simp;omega)).trans HR3.out) nx true 0 0 0 0 false (.slice none 0 0)
 refine bodyPost_ret (ξ6m (g:=w.heap.size) rfl rfl hb) rfl ?_
 have hsz:=HO.out.lt
 refine ⟨rfl,HF.out.only ho (by simp;omega) (by simp;omega) ?_,past (((Only.of_below HB2.out _).trans ((HN4.out.mono (by simp)))).setCell (by simp) _) ho (by simp)⟩
 intro k hk cs fr e;simp at hk
 subst hk;rw [Below.heap_setCell w3 ⟨b,2,none⟩ (.int .i64 (nx+1)) w.heap.size (by simp;omega),HR3.out] at e
 simp at e
theorem ξbZ (b mb:Nat) (wt nw nx:Int) (M:Its) (w:World) (h:ξ1 w b mb wt nw nx M) (h1:Apart M) (h0:-1<=nx) (h2:nx<=1099511627777) (i:Kp) (hi:i∈M) (hin:i.n=nx) (g:Bool) (s t l q:Int) (st:Bool) (a:Option Addr) (m c:Nat) (hlv:lv i=.agg #[.int .i64 nx,.bool g,.int .i64 s,.int .i64 t,.int .i64 l,.int .i64 q,.bool st,.slice a m c,.int .i64 i.a]) :
 Calls prog 78 #[.pointer (some ⟨b,0,none⟩)] w fun e w'=>e=.returned (.agg #[.int .i64 nx,.bool g,.int .i64 s,.int .i64 t,.int .i64 l,.int .i64 q,.bool st,.slice a m c])/\ξ1 w' b mb wt nw (nx+1) (M.filter fun i=>decide (i.n≠nx))/\Only [b,mb] w w':=by
 obtain ⟨M2,hM2⟩:∃ M2:Its,(M.filter fun i=>decide (i.n≠nx))=M2:=⟨_,rfl⟩
 rw [hM2];have hwf:=ξL (y:=nx) (by omega) (by omega)
 have hh:has M nx=true:=ξg.2 ⟨i,hi,hin⟩
 have HLk:Hid (∀ W,ξ1 W b mb wt nw nx M->(Instr.lookup 124 (.map (some mb)) (.int .i64 nx) false).run prog W=.ok (.agg #[.int .i64 nx,.bool g,.int .i64 s,.int .i64 t,.int .i64 l,.int .i64 q,.bool st,.slice a m c,.int .i64 i.a]) W):=by
  refine ξ0 (fun W hW=>?_)
  have:=ξ2V hW hi (by rw [hin];exact hwf)
  rw [hin,hlv] at this;exact this
 have HH:Hid (∀ W,ξ1 W b mb wt nw nx M->Calls prog 77 #[.pointer (some ⟨b,0,none⟩),.int .i64 nx] W fun e w'=>e=.returned (.bool true)/\Below W.heap.size W w'):=by
  refine ξ0 (fun W hW=>(ξN b mb wt nw nx nx M W hW hwf).mono ?_)
  rintro e w' ⟨rfl,hb⟩;exact ⟨by rw [hh],hb⟩
 have HD:Hid (∀ W,ξ1 W b mb wt nw nx M->∀ ty,∃ w2,(Builtin.delete_ #[124,3] ty #[.map (some mb),.int .i64 nx]).run prog W=.ok (.tuple #[]) w2/\ξ1 w2 b mb wt nw nx M2/\Only [mb] W w2):=by
  refine ξ0 (fun W hW ty=>?_)
  obtain ⟨D,hown,hK,hE⟩:=hW.map;obtain ⟨w2,hrun,hown2,hturn⟩:=hown.drop law3 underlying124 (keyOf3 hwf) ty;have ho:Only [mb] W w2:=(Only.refl [mb] _).grown hturn.grown (by simp)
  exact ⟨w2,hrun,by rw [<- hM2];exact ξ3I hW hK hE h1 hown2 ho,ho⟩
 have HO:=ξ0 h
 have HA:=ξ0 (fun O=>h.alloc O)
 have c2:=fun O=>(HA.out O).cells.2.2.1
 generalize i.a=ia at *
 clear h hh hM2 hi hin hlv;go_enter func78,ntmps78
 go_wp2_with fail
 refine (ξ4A nx _).mono ?_
 rintro e w1 ⟨rfl,hb1⟩;have hB1:=ξs hb1
 have hR1:=(IBox.new w 0 false 0 0 0 0 false (.slice none 0 0)).below hb1 (by simp)
 have HO1:=ξ0 (HO.out.below hB1)
 have HB1:=ξ0 hB1
 have HR1:=ξ0 hR1
 have k2:=fun O=>(HO1.out.alloc O).cells.2.2.1
 clear hB1 hR1 hb1 c2 HA;go_wp2_with fail
 refine (HH.out _ (HO1.out.alloc _)).mono ?_
 rintro e w2 ⟨rfl,hb2⟩;have HO2:=ξ0 ((HO1.out.alloc (.cells #[.int .i64 nx,.bool true,.int .i64 0,.int .i64 0,.int .i64 0,.int .i64 0,.bool false,.slice none 0 0] 82)).below hb2)
 have HB2:=ξ0 ((HB1.out.alloc HB1.out.size (.cells #[.int .i64 nx,.bool true,.int .i64 0,.int .i64 0,.int .i64 0,.int .i64 0,.bool false,.slice none 0 0] 82)).trans (hb2.mono (by have:=HB1.out.size;simp;omega)))
 have HX2:=ξ0 ((IBox.new w1 nx true 0 0 0 0 false (.slice none 0 0)).below hb2 (by simp))
 have HR2:=ξ0 ((HR1.out.alloc (.cells #[.int .i64 nx,.bool true,.int .i64 0,.int .i64 0,.int .i64 0,.int .i64 0,.bool false,.slice none 0 0] 82)).below hb2 (by have:=HR1.out.lt;simp;omega))
 have hs1:w.heap.size<w1.heap.size:=HR1.out.lt
 clear hb2 k2 HO1 HB1 HR1;obtain ⟨c0,c1,c2,c3⟩:=HO2.out.cells;have HO3:Hid (ξ1 w2.drew b mb wt nw nx M):=HO2.out.below ((Ξp _ _).drew)
 have hlk:=HLk.out _ HO3.out
 have hfd:=ξd2 w2.drew nx g s t l q st a m c ia
 obtain ⟨x0,x1,x2,x3,x4,x5,x6,x7⟩:=HX2.out.cells;have f0:=HX2.out.free 0
 have f1:=HX2.out.free 1
 have f2:=HX2.out.free 2
 have f3:=HX2.out.free 3
 have f4:=HX2.out.free 4
 have f5:=HX2.out.free 5
 have f6:=HX2.out.free 6
 have f7:=HX2.out.free 7
 go_wp2_with fail
 go_region
 all_goals go_wp2_with fail
 obtain ⟨w5,hw5⟩:∃ w5,((((((((w2.setCell ⟨w1.heap.size,0,none⟩ (.int .i64 nx)).setCell ⟨w1.heap.size,1,none⟩ (.bool g)).setCell ⟨w1.heap.size,2,none⟩ (.int .i64 s)).setCell ⟨w1.heap.size,3,none⟩ (.int .i64 t)).setCell ⟨w1.heap.size,4,none⟩ (.int .i64 l)).setCell ⟨w1.heap.size,5,none⟩ (.int .i64 q)).setCell ⟨w1.heap.size,6,none⟩ (.bool st)).setCell ⟨w1.heap.size,7,none⟩ (.slice a m c)).drew=w5:=⟨_,rfl⟩;rw [hw5];have hon5:Only [w1.heap.size] w2 w5:=by rw [<- hw5];exact (only8 (g:=w1.heap.size) (Only.refl [w1.heap.size] w2) (by simp) _ _ _ _ _ _ _ _).drew
 have hX5:IBox w5 w1.heap.size nx g s t l q st (.slice a m c):=by rw [<- hw5];exact (ibox8 (W:=w2) HX2.out nx g s t l q st (.slice a m c)).drew
 have hbl0:=HO.out.lt
 have hO5:ξ1 w5 b mb wt nw nx M:=by
  refine HO2.out.only hon5 (by simp;omega) (by simp;omega) ?_
  intro k hk cs fr e;simp at hk
  subst hk;rw [HX2.out] at e;simp at e
 have hR5:IBox w5 w.heap.size 0 false 0 0 0 0 false (.slice none 0 0):=hon5.block HR2.out (by simp;omega)
 have hB5:Below w.heap.size w w5:=HB2.out.trans (hon5.below (B:=w.heap.size) HB2.out.size (by simp;omega))
 have HX5:=ξ0 hX5
 have HO5:=ξ0 hO5
 have HR5:=ξ0 hR5
 have HB5:=ξ0 hB5
 clear hw5 hon5 hX5 hO5 hR5 hB5 hlk hfd x0 x1 x2 x3 x4 x5 x6 x7 f0 f1 f2 f3 f4 f5 f6 f7 c0 c1 c2 c3 HO3 HX2 HR2 HO2 HB2 hbl0;obtain ⟨c0,c1,c2,c3⟩:=HO5.out.cells;have HO3:Hid (ξ1 w5.drew b mb wt nw nx M):=HO5.out.below ((Ξp _ _).drew)
 obtain ⟨w3,hdel,hO4,hon4⟩:=HD.out _ HO3.out 0;have HO4:=ξ0 hO4
 have HN4:=ξ0 hon4
 clear hO4 hon4 HO3;have hX3:IBox w3 w1.heap.size nx g s t l q st (.slice a m c):=HN4.out.block HX5.out (by simp;exact ξ2Z HX5.out HO5.out)
 have hR3:IBox w3 w.heap.size 0 false 0 0 0 0 false (.slice none 0 0):=HN4.out.block HR5.out (by simp;exact ξ2Z HR5.out HO5.out)
 have HX3:=ξ0 hX3
 have HR3:=ξ0 hR3
 obtain ⟨x0,x1,x2,x3,x4,x5,x6,x7⟩:=hX3.cells;obtain ⟨r0,r1,r2,r3,r4,r5,r6,r7⟩:=hR3.cells;have f0:=hR3.free 0
 have f1:=hR3.free 1
 have f2:=hR3.free 2
 have f3:=hR3.free 3
 have f4:=hR3.free 4
 have f5:=hR3.free 5
 have f6:=hR3.free 6
 have f7:=hR3.free 7
 obtain ⟨e0,e1,e2,e3⟩:=HO4.out.cells;have fb:=freeb HO4.out.box 2
 have hbl:=HO.out.lt.1
 have HF:Hid (ξ1 (w3.setCell ⟨b,2,none⟩ (.int .i64 (nx+1))) b mb wt nw (nx+1) M2):=HO4.out.set 2 _ rfl
 clear hX3 hR3 c0 c1 e0 e1 e3;go_wp2_with fail
 go_region
 all_goals go_wp2_with fail
 have ho:=only8 (g:=w.heap.size) (Only.refl [w.heap.size] (w3.setCell ⟨b,2,none⟩ (.int .i64 (nx+1)))) (by simp) (.int .i64 nx) (.bool g) (.int .i64 s) (.int .i64 t) (.int .i64 l) (.int .i64 q) (.bool st) (.slice a m c)
 have hb:=ibox8 (h:=w.heap.size) ((Below.heap_setCell w3 ⟨b,2,none⟩ (.int .i64 (nx+1)) w.heap.size (by simp;omega)).trans HR3.out) nx g s t l q st (.slice a m c)
 refine bodyPost_ret (ξ6m (g:=w.heap.size) rfl rfl hb) rfl ?_
 have hsz:=HO.out.lt
 refine ⟨rfl,HF.out.only ho (by simp;omega) (by simp;omega) ?_,past (((Only.of_below HB5.out _).trans ((HN4.out.mono (by simp)))).setCell (by simp) _) ho (by simp)⟩
 intro k hk cs fr e;simp at hk
 subst hk;rw [Below.heap_setCell w3 ⟨b,2,none⟩ (.int .i64 (nx+1)) w.heap.size (by simp;omega),HR3.out] at e
 simp at e
theorem infoIT:(prog.info? 82).map (fun i=>(i.zero,i.size,i.bytes))=some (some (.agg #[.int .i64 0,.bool false,.int .i64 0,.int .i64 0,.int .i64 0,.int .i64 0,.bool false,.slice none 0 0]),8,80):=by kernel_rfl
theorem ξ1p (b mb:Nat) (wt nw nx:Int) (M:Its) (w:World) (h:ξ1 w b mb wt nw nx M) (h1:Apart M) (h0:-1<=nx) (h2:nx<=1099511627777) (g:Bool) (s t l q:Int) (st:Bool) (a:Option Addr) (m c:Nat) (hc:c8 (itm M nx)=[.int .i64 nx,.bool g,.int .i64 s,.int .i64 t,.int .i64 l,.int .i64 q,.bool st,.slice a m c]) :
 Calls prog 78 #[.pointer (some ⟨b,0,none⟩)] w fun e w'=>e=.returned (.agg #[.int .i64 nx,.bool g,.int .i64 s,.int .i64 t,.int .i64 l,.int .i64 q,.bool st,.slice a m c])/\ξ1 w' b mb wt nw (nx+1) (M.filter fun i=>decide (i.n≠nx))/\Only [b,mb] w w':=by
 by_cases hh:has M nx=true
 ·obtain ⟨hi,hn⟩:=ξ2C hh;refine ξbZ b mb wt nw nx M w h h1 h0 h2 (itm M nx) hi hn g s t l q st a m c ?_
  simp only [c8,List.cons.injEq,Value.int.injEq,Value.bool.injEq,true_and,and_true] at hc
  obtain ⟨e1,e2,e3,e4,e5,e6,e7,e8⟩:=hc;unfold lv;rw [e1,e2,e3,e4,e5,e6,e7,e8]
 ·have hh':has M nx=false:=by simpa using hh
  rw [ξ3p hh'] at hc;simp only [c8,gone,zpk,List.cons.injEq,Value.int.injEq,Value.bool.injEq,Value.slice.injEq,true_and,and_true] at hc
  obtain ⟨rfl,rfl,rfl,rfl,rfl,rfl,rfl,rfl,rfl⟩:=hc;exact ξ35 b mb wt nw nx M w h h1 h0 h2 hh'
structure PopSt (w wr:World) (B b mb:Nat) (wt now nx:Int) (M:Its) (k:Nat) (v:Value):Prop where
 ord:ξ1 wr b mb wt now (nx+(k:Int)) (rest M (nx+(k:Int)))
 row:wr.ownsRow B 82 8 v k (flat c8 (takes M nx k))
 bod:Bodies wr (takes M nx k)
 only:Only [b,mb] w wr
 lt1:b<B
 lt2:mb<B
 ltB:B<=wr.heap.size
 le:w.heap.size<=B
theorem PopSt.below {w wr wy:World} {B b mb:Nat} {wt now nx:Int} {M:Its} {k:Nat} {v:Value} (h:PopSt w wr B b mb wt now nx M k v) (hb:Below wr.heap.size wr wy):PopSt w wy B b mb wt now nx M k v:=
 ⟨h.ord.below hb,(Only.of_below hb []).owns h.row (by simp),h.bod.only (Only.of_below hb []) (by simp),h.only.trans (Only.of_below hb _),h.lt1,h.lt2,Nat.le_trans h.ltB hb.size,h.le⟩
theorem PopSt.step {w wr w2 w3:World} {B b mb:Nat} {wt now nx:Int} {M:Its} {k:Nat} {v v':Value} {O:Obj} (h:PopSt w wr B b mb wt now nx M k v) (hI:Apart M) (ho:ξ1 w2 b mb wt now (nx+(k:Int)+1) ((rest M (nx+(k:Int))).filter fun i=>decide (i.n≠nx+(k:Int)))) (hon:Only [b,mb] wr w2)
 (hg:(w2.alloc O).grownBy w3 v.ownBlock) (hr:w3.ownsRow B 82 8 v' (k+1) (flat c8 (takes M nx k)++c8 (itm M (nx+(k:Int))))):PopSt w w3 B b mb wt now nx M (k+1) v':=by
 have hnb:=h.ord.nob
 have hB:∀ j,v.ownBlock=some j->B<=j:=fun j hj=>(h.row.lt j hj).1
 have lt1:=h.lt1
 have lt2:=h.lt2
 have le:=h.le
 have ho2:Only v.ownBlock.toList w2 w3:=((Only.refl v.ownBlock.toList w2).alloc O).grown hg (by simp)
 have hrow2:w2.ownsRow B 82 8 v k (flat c8 (takes M nx k)):=hon.owns h.row (by intro j hj hc;have:=hB j hj;simp at hc;omega)
 have hnr:∀ j∈v.ownBlock.toList,∀ cs fr,w2.heap[j]?≠some (.cells cs 5 fr):=by
  intro j hj cs fr e;rcases hrow2.2 with ⟨hn,_⟩ | ⟨g,cap,cur,ev,_,hgg,_⟩
  ·rw [hn] at hj;simp [Value.ownBlock] at hj
  ·rw [ev] at hj;simp [Value.ownBlock] at hj
   subst hj;rw [hgg] at e;simp at e
 have hnotb:b∉v.ownBlock.toList:=by intro hc;have:=hB b (by simpa using hc);omega
 have hnotm:mb∉v.ownBlock.toList:=by intro hc;have:=hB mb (by simpa using hc);omega
 have ec:nx+((k+1:Nat):Int)=nx+(k:Int)+1:=by omega
 refine ⟨?_,?_,?_,past (h.only.trans hon) ho2 ?_,lt1,lt2,?_,le⟩
 ·rw [ec,ξa9];exact ho.only ho2 hnotb hnotm hnr
 ·rw [ξ2L,ξ4a,ξ49];exact hr
 ·have hb2:Bodies w2 (takes M nx k):=h.bod.only hon hnb
  rw [ξ2L];refine (hb2.app ?_).only ho2 hnr
  have:=(h.ord.bod.only hon hnb).itm (nx+(k:Int))
  rw [ξ40 hI] at this;exact this
 ·intro j hj;have:=hB j (by simpa using hj)
  exact .inr (by omega)
 ·exact Nat.le_trans h.ltB (Nat.le_trans hon.2.2.2.1 ho2.2.2.2.1)
theorem ξci (b:Nat) (nw now:Int) (w:World) (h:w.cell? ⟨b,0,none⟩=some (.int .i64 nw)) (ht:tf nw now≠0) :
 Calls prog 32 #[.pointer (some ⟨b,0,none⟩),.int .i64 now] w fun e w'=>e=.returned (.tuple #[.slice none 0 0,errv (tf nw now)])/\Below w.heap.size w w':=by
 have HC:=ξ0 (fun w=>ξ4J nw now w ht)
 generalize tf nw now=f at *
 have hc:=ξr f
 have hg:=ξq f
 have d:decide (f=0)=false:=by simpa using ht
 clear ht;go_enter func32,ntmps32
 go_wp2_with fail
 refine (HC.out _).mono ?_
 rintro e w1 ⟨rfl,hb1⟩;have HB:=ξ0 hb1
 clear hb1;go_wp2_with fail
 go_ret2
 exact ⟨rfl,HB.out.alloc HB.out.size _⟩
theorem ξeV (b mb:Nat) (wt nw nx now od:Int) (M:Its) (K:Nat) (w:World) (h:ξ1 w b mb wt nw nx M) (hI:OM.Inv nw nx M) (ht:tf nw now=0) (hO:Od wt now M od) (hK:Stop M od nx K) (hK2:K<=200) :
 Calls prog 32 #[.pointer (some ⟨b,0,none⟩),.int .i64 now] w fun e w'=>∃ av cv,e=.returned (.tuple #[.slice av K cv,.nilIface])/\w'.ownsRow w.heap.size 82 8 (.slice av K cv) K (flat c8 (takes M nx K))/\Bodies w' (takes M nx K)/\ξ1 w' b mb wt now (nx+(K:Int)) (rest M (nx+(K:Int)))/\Only [b,mb] w w':=by
 obtain ⟨i0,hii,hz0,hz1,hz2⟩:=info_parts infoIT;obtain ⟨t0,t1,t2⟩:=ξE ht;have HC:=ξ0 (fun w=>ξ1r nw now w ht)
 have HOv:=ξ0 (fun W hW=>ξ5T b mb wt now nx now od M W hW (hI.later t2 t1) hO t0 t1)
 have HH:Hid (∀ W (k:Nat),k<=K->ξ1 W b mb wt now (nx+(k:Int)) (rest M (nx+(k:Int)))->Calls prog 77 #[.pointer (some ⟨b,0,none⟩),.int .i64 (nx+(k:Int))] W fun e w'=>e=.returned (.bool (has M (nx+(k:Int))))/\Below W.heap.size W w'):=by
  refine ξ0 (fun W k hk hW=>?_)
  have x1:=hI.x1
  have x2:=hI.x2
  have:=ξN b mb wt now (nx+(k:Int)) (nx+(k:Int)) (rest M (nx+(k:Int))) W hW (ξL (by omega) (by omega))
  rw [ξ6l] at this;exact this
 have HT:Hid (∀ W (k:Nat),k<K->ξ1 W b mb wt now (nx+(k:Int)) (rest M (nx+(k:Int)))->∃ g s t l q st a m c,c8 (itm M (nx+(k:Int)))=[.int .i64 (nx+(k:Int)),.bool g,.int .i64 s,.int .i64 t,.int .i64 l,.int .i64 q,.bool st,.slice a m c]/\Calls prog 78 #[.pointer (some ⟨b,0,none⟩)] W fun e w'=>e=.returned (.agg #[.int .i64 (nx+(k:Int)),.bool g,.int .i64 s,.int .i64 t,.int .i64 l,.int .i64 q,.bool st,.slice a m c])/\ξ1 w' b mb wt now (nx+(k:Int)+1) ((rest M (nx+(k:Int))).filter fun i=>decide (i.n≠nx+(k:Int)))/\Only [b,mb] W w'):=by
  refine ξ0 (fun W k hk hW=>?_)
  have x1:=hI.x1
  have gm:=ξ6T hI hO (hK.all k hk)
  obtain ⟨a,m,c,e,_⟩:=hW.bod.itm (nx+(k:Int));rw [ξ40 hI.one] at e;have hc:c8 (itm M (nx+(k:Int)))=[.int .i64 (nx+(k:Int)),.bool (itm M (nx+(k:Int))).g,.int .i64 (itm M (nx+(k:Int))).p.s,.int .i64 (itm M (nx+(k:Int))).p.t,.int .i64 (itm M (nx+(k:Int))).p.l,.int .i64 (itm M (nx+(k:Int))).p.q,.bool (itm M (nx+(k:Int))).p.st,.slice a m c]:=by
   unfold c8;rw [e,ξft]
  refine ⟨_,_,_,_,_,_,a,m,c,hc,?_⟩
  exact ξ1p b mb wt now (nx+(k:Int)) (rest M (nx+(k:Int))) W hW (hI.one.filter _) (by omega) (by omega) _ _ _ _ _ _ a m c (by rw [ξ40 hI.one];exact hc)
 have HG:Hid (∀ k:Nat,k<K->goes M od (nx+(k:Int))=true):=hK.all
 have HGs:Hid (goes M od (nx+(K:Int))=false):=hK.stop
 have HOr:=ξ0 h
 have HI:=ξ0 hI
 have hxb:-1<=nx/\nx<=1099511627777:=⟨hI.x1,hI.x2⟩
 have hb5:ξ1 w b mb wt nw nx M:=h
 have c0:=h.cells.1
 have hlt:=h.lt
 clear h hI ht hO hK hb5;obtain ⟨hx1,hx2⟩:=hxb;obtain ⟨hlt1,hlt2⟩:=hlt;go_enter func32,ntmps32
 go_wp2_with fail
 refine (HC.out _).mono ?_
 rintro e w1 ⟨rfl,hb1⟩;have HB:=ξ0 hb1
 clear hb1 c0;have hO1:=HOr.out.below HB.out
 have HO1:=ξ0 hO1
 have hlw:b<w1.heap.size:=hO1.lt.1
 obtain ⟨c0,_⟩:=(hO1.alloc (.cells #[.int .i64 now] 89)).cells;have f0:=freeb (hO1.alloc (.cells #[.int .i64 now] 89)).box 0
 have HO2:Hid (ξ1 ((w1.setCell ⟨b,0,none⟩ (.int .i64 now)).alloc (.cells #[.int .i64 now] 89)) b mb wt now nx M):=(hO1.set 0 _ rfl).alloc _
 have HN2:Hid (Only [b,mb] w ((w1.setCell ⟨b,0,none⟩ (.int .i64 now)).alloc (.cells #[.int .i64 now] 89))):=((Only.of_below HB.out _).setCell (by simp) _).alloc _
 clear hO1;go_wp2_with fail
 refine (HOv.out _ (by exact HO2.out)).mono ?_
 rintro e w3 ⟨rfl,hb3⟩;have HS0:Hid (PopSt w w3 w3.heap.size b mb wt now nx M 0 (.slice none 0 0)):=by
  have hB3:=HN2.out.trans (Only.of_below hb3 _)
  refine ⟨?_,by simpa [takes,flat] using Ξr w3 w3.heap.size 82 8,fun i hi=>by simp [takes] at hi,hB3,Ξn hlt1 hB3.2.2.2.1,Ξn hlt2 hB3.2.2.2.1,Ξo _,hB3.2.2.2.1⟩
  have e0:nx+((0:Nat):Int)=nx:=by omega
  rw [e0,ξ41 HI.out];exact HO2.out.below hb3
 clear hb3 HOv HC HO1 HO2 HN2 c0 f0 hlw;go_wp2_with fail
 generalize w3.heap.size=B at *
 go_loopg [9] K (fun gh v' wr=>∃ (k:Nat) (av:Option Addr) (cv:Nat),k+gh=K/\v'=.slice av k cv/\Hid (PopSt w wr B b mb wt now nx M k (.slice av k cv)))
 case atStart=>exact ⟨0,none,0,by omega,rfl,HS0⟩
 case round=>
  obtain ⟨k,av,cv,hkg,rfl,HS⟩:=hrel;clear HS0;have HHk:=ξ0 (HH.out wr k (by omega) HS.out.ord)
  obtain ⟨xk,hxk⟩:∃ xk,nx+(k:Int)=xk:=⟨_,rfl⟩;have HXk:=ξ0 hxk
  have k2:=HS.out.ord.cells.2.2.1
  rw [hxk] at k2 HHk;have hxk2:-1<=xk/\xk<=1099511627977:=by omega
  by_cases hk:k<K
  ·have HTk:=ξ0 (fun W hW=>HT.out W k hk hW)
   have hgo:=HG.out k hk
   rw [hxk] at hgo HTk;clear hxk;by_cases hh:has M xk=true
   ·rw [hh] at HHk;clear hh hgo;go_wp2_with fail
    refine HHk.out.mono ?_
    rintro e w4 ⟨rfl,hb4⟩;have HS4:=ξ0 (HS.out.below hb4)
    have k4:=HS4.out.ord.cells.2.2.1
    rw [HXk.out] at k4;clear hb4 HHk;have hO4:=HS4.out.ord
    rw [HXk.out] at hO4;obtain ⟨g,s,t,l,q,st,a,m,c,hc8,hT⟩:=HTk.out w4 hO4;have HT4:=ξ0 hT
    have HC8:=ξ0 hc8
    clear hT hc8 hO4 HTk;go_wp2_with fail
    refine HT4.out.mono ?_
    rintro e w5 ⟨rfl,hO5,hN5⟩;have HO5:=ξ0 hO5
    have HN5:=ξ0 hN5
    clear hO5 hN5 HT4 k4;have hBw:B<=w5.heap.size:=Nat.le_trans HS4.out.ltB HN5.out.2.2.2.1
    have HR5:Hid (w5.ownsRow B 82 8 (.slice av k cv) k (flat c8 (takes M nx k))):=HN5.out.owns HS4.out.row (by intro j hj hc;have:=(HS4.out.row.lt j hj).1;have:=HS4.out.lt1;have:=HS4.out.lt2;simp at hc;omega)
    go_wp2_with (at_builtin;refine wpList_append_own _ rfl _ _ 77 rfl B 82 i0 _ 8 80 underlying77 hii hz0 hz1 hz2 rfl (by decide) _ k (flat c8 (takes M nx k)) rfl ?own ⟨w5.heap.size,0,none⟩ 1 1 [.int .i64 xk,.bool g,.int .i64 s,.int .i64 t,.int .i64 l,.int .i64 q,.bool st,.slice a m c] rfl rfl ?c1 ?c2 ?b1 ?b2 ?b3 ?next)
    case own=>exact HR5.out.alloc _
    case c1=>exact World.news_of_block (cs:=#[.int .i64 xk,.bool g,.int .i64 s,.int .i64 t,.int .i64 l,.int .i64 q,.bool st,.slice a m c]) (t:=82) (fr:=(0,0)) (heap_alloc_new w5 _)
    case c2=>intro u hu';simp at hu';rcases hu' with rfl | rfl | rfl | rfl | rfl | rfl | rfl | rfl<;>rfl
    case b1=>unfold maxLen;omega
    case b2=>omega
    case b3=>simp;omega
    case next=>
     intro v' w6 hown hgrow _;obtain ⟨g',c',rfl⟩:∃ g' c',v'=.slice (some ⟨g',0,none⟩) (k+1) c':=by
      rcases hown.2 with ⟨_,h⟩ | ⟨g',c',_,h,_⟩
      ·omega
      ·exact ⟨g',c',h⟩
     have HS6:Hid (PopSt w w6 B b mb wt now nx M (k+1) (.slice (some ⟨g',0,none⟩) (k+1) c')):=
      HS4.out.step HI.out.one (by rw [HXk.out];exact HO5.out) HN5.out hgrow (by rw [HXk.out,HC8.out];exact hown)
     clear hown hgrow;go_wp2_with fail
     go_roundg (K - (k+1))
     case measure=>omega
     case rel=>exact ⟨k+1,some ⟨g',0,none⟩,c',by omega,rfl,HS6⟩
   ·have hh':has M xk=false:=by simpa using hh
    have hod:xk<od:=by simpa [goes,hh'] using hgo
    rw [hh'] at HHk;clear hh hh' hgo;go_wp2_with fail
    refine HHk.out.mono ?_
    rintro e w4 ⟨rfl,hb4⟩;have HS4:=ξ0 (HS.out.below hb4)
    have k4:=HS4.out.ord.cells.2.2.1
    rw [HXk.out] at k4;clear hb4 HHk;have hO4:=HS4.out.ord
    rw [HXk.out] at hO4;obtain ⟨g,s,t,l,q,st,a,m,c,hc8,hT⟩:=HTk.out w4 hO4;have HT4:=ξ0 hT
    have HC8:=ξ0 hc8
    clear hT hc8 hO4 HTk;go_wp2_with fail
    refine HT4.out.mono ?_
    rintro e w5 ⟨rfl,hO5,hN5⟩;have HO5:=ξ0 hO5
    have HN5:=ξ0 hN5
    clear hO5 hN5 HT4 k4;have hBw:B<=w5.heap.size:=Nat.le_trans HS4.out.ltB HN5.out.2.2.2.1
    have HR5:Hid (w5.ownsRow B 82 8 (.slice av k cv) k (flat c8 (takes M nx k))):=HN5.out.owns HS4.out.row (by intro j hj hc;have:=(HS4.out.row.lt j hj).1;have:=HS4.out.lt1;have:=HS4.out.lt2;simp at hc;omega)
    go_wp2_with (at_builtin;refine wpList_append_own _ rfl _ _ 77 rfl B 82 i0 _ 8 80 underlying77 hii hz0 hz1 hz2 rfl (by decide) _ k (flat c8 (takes M nx k)) rfl ?own ⟨w5.heap.size,0,none⟩ 1 1 [.int .i64 xk,.bool g,.int .i64 s,.int .i64 t,.int .i64 l,.int .i64 q,.bool st,.slice a m c] rfl rfl ?c1 ?c2 ?b1 ?b2 ?b3 ?next)
    case own=>exact HR5.out.alloc _
    case c1=>exact World.news_of_block (cs:=#[.int .i64 xk,.bool g,.int .i64 s,.int .i64 t,.int .i64 l,.int .i64 q,.bool st,.slice a m c]) (t:=82) (fr:=(0,0)) (heap_alloc_new w5 _)
    case c2=>intro u hu';simp at hu';rcases hu' with rfl | rfl | rfl | rfl | rfl | rfl | rfl | rfl<;>rfl
    case b1=>unfold maxLen;omega
    case b2=>omega
    case b3=>simp;omega
    case next=>
     intro v' w6 hown hgrow _;obtain ⟨g',c',rfl⟩:∃ g' c',v'=.slice (some ⟨g',0,none⟩) (k+1) c':=by
      rcases hown.2 with ⟨_,h⟩ | ⟨g',c',_,h,_⟩
      ·omega
      ·exact ⟨g',c',h⟩
     have HS6:Hid (PopSt w w6 B b mb wt now nx M (k+1) (.slice (some ⟨g',0,none⟩) (k+1) c')):=
      HS4.out.step HI.out.one (by rw [HXk.out];exact HO5.out) HN5.out hgrow (by rw [HXk.out,HC8.out];exact hown)
     clear hown hgrow;go_wp2_with fail
     go_roundg (K - (k+1))
     case measure=>omega
     case rel=>exact ⟨k+1,some ⟨g',0,none⟩,c',by omega,rfl,HS6⟩
  ·obtain rfl:k=K:=by omega
   have hst:=HGs.out
   rw [hxk] at hst;simp only [goes,Bool.or_eq_false_iff,decide_eq_false_iff_not] at hst
   obtain ⟨hst1,hst2⟩:=hst;rw [hst1] at HHk;clear hst1 hxk;go_wp2_with fail
   refine HHk.out.mono ?_
   rintro e w4 ⟨rfl,hb4⟩;have HS4:=ξ0 (HS.out.below hb4)
   have k4:=HS4.out.ord.cells.2.2.1
   rw [HXk.out] at k4;clear hb4;go_wp2_with fail
   go_ret2
   exact ⟨av,cv,rfl,ξu HS4.out.row HS4.out.le,HS4.out.bod,HS4.out.ord,HS4.out.only⟩
theorem ξ9D {w:World} {b mb:Nat} {wt nw nx:Int} {M:Its} (h:ξ1 w b mb wt nw nx M) {g o:Nat} {c:Int} (hc:w.cell? ⟨g,o,none⟩=some (.int .u8 c)):g∉[b,mb]:=by
 obtain ⟨h1,⟨D,h2,_⟩,_⟩:=h;obtain ⟨es,cl,h3⟩:=ξc h2;intro hg;simp only [Ξf,List.not_mem_nil,or_false] at hg
 rcases hg with rfl | rfl
 ·simp only [World.cell?,h1] at hc
  match o,hc with
  | 0,hc=>simp at hc
  | 1,hc=>simp at hc
  | 2,hc=>simp at hc
  | 3,hc=>simp at hc
  | o+4,hc=>simp at hc
 ·simp [World.cell?,h3] at hc
theorem ξbB {w W:World} {b mb:Nat} {wt nw nx:Int} {M:Its} (h:ξ1 w b mb wt nw nx M) {a:Option Addr} {m:Nat} {L:List Nat} (hA:Arg w a m L) (ho:Only [b,mb] w W):Arg W a m L:=by
 refine ⟨⟨hA.1.1,fun j hj=>?_⟩,hA.2⟩
 obtain ⟨g,o,e,hc⟩:=hA.1.2 j hj;refine ⟨g,o,e,?_⟩
 have hk:=ξ9D h hc
 have hlt:=Ξq w ⟨g,o+j,none⟩ hc
 have:=ho.2.2.2.2 g hlt hk
 simp only [World.cell?] at hc ⊢
 rw [this];exact hc
theorem ξah (b:Nat) (nw y now s t l q:Int) (st:Bool) (a:Option Addr) (m cap:Nat) (w:World) (h:w.cell? ⟨b,0,none⟩=some (.int .i64 nw)) (ht:tf nw now≠0) :
 Calls prog 28 #[.pointer (some ⟨b,0,none⟩),.int .i64 y,.agg #[.int .i64 s,.int .i64 t,.int .i64 l,.int .i64 q,.bool st,.slice a m cap],.int .i64 now] w fun e w'=>e=.returned (.tuple #[.bool false,errv (tf nw now)])/\Below w.heap.size w w':=by
 have HC:=ξ0 (fun w=>ξ4J nw now w ht)
 generalize tf nw now=f at *
 have hc:=ξr f
 have hg:=ξq f
 have d:decide (f=0)=false:=by simpa using ht
 have c0:=fun O=>ξk h O
 clear ht h;go_enter func28,ntmps28
 go_wp2_with fail
 refine (HC.out _).mono ?_
 rintro e w1 ⟨rfl,hb1⟩;have HB:=ξ0 (ξs hb1)
 clear hb1;go_wp2_with fail
 go_ret2
 exact ⟨rfl,HB.out.alloc HB.out.size _⟩
theorem ξ8N (b:Nat) (nw y now s t l q:Int) (st:Bool) (a:Option Addr) (m cap:Nat) (w:World) (h:w.cell? ⟨b,0,none⟩=some (.int .i64 nw)) (ht:tf nw now=0) (hy:y<0∨1099511627776<y) :
 Calls prog 28 #[.pointer (some ⟨b,0,none⟩),.int .i64 y,.agg #[.int .i64 s,.int .i64 t,.int .i64 l,.int .i64 q,.bool st,.slice a m cap],.int .i64 now] w fun e w'=>e=.returned (.tuple #[.bool false,errv 1])/\Below w.heap.size w w':=by
 have HC:=ξ0 (fun w=>ξ1r nw now w ht)
 have HM:=ξ0 (fun w=>ξcw y w hy)
 have c0:=fun O=>ξk h O
 clear ht h hy;go_enter func28,ntmps28
 go_wp2_with fail
 refine (HC.out _).mono ?_
 rintro e w1 ⟨rfl,hb1⟩;have HB:=ξ0 (ξs hb1)
 clear hb1;go_wp2_with fail
 refine (HM.out _).mono ?_
 rintro e w2 ⟨rfl,rfl⟩;go_wp2_with fail
 go_ret2
 exact ⟨rfl,HB.out.alloc HB.out.size _⟩
theorem ξch (b:Nat) (nw y now s t l q:Int) (st:Bool) (a:Option Addr) (m cap:Nat) (w:World) (h:w.cell? ⟨b,0,none⟩=some (.int .i64 nw)) (ht:tf nw now=0) (h0:0<=y) (h1:y<=1099511627776) (hf:fault s t l q m≠0) :
 Calls prog 28 #[.pointer (some ⟨b,0,none⟩),.int .i64 y,.agg #[.int .i64 s,.int .i64 t,.int .i64 l,.int .i64 q,.bool st,.slice a m cap],.int .i64 now] w fun e w'=>e=.returned (.tuple #[.bool false,errv (fault s t l q m)])/\Below w.heap.size w w':=by
 have HC:=ξ0 (fun w=>ξ1r nw now w ht)
 have HM:=ξ0 (fun w=>ξ1X y w h0 h1)
 have HP:=ξ0 (fun w=>ξe s t l q st a m cap w)
 generalize fault s t l q m=f at *
 have hc:=ξr f
 have hg:=ξq f
 have d:decide (f=0)=false:=by simpa using hf
 have c0:=fun O=>ξk h O
 clear ht h hf;go_enter func28,ntmps28
 go_wp2_with fail
 refine (HC.out _).mono ?_
 rintro e w1 ⟨rfl,hb1⟩;have HX1:=ξ0 ((Box.new w s t l q st (.slice a m cap)).below hb1 (by simp))
 have HB:=ξ0 (ξs hb1)
 obtain ⟨x0,x1,x2,x3,x4,x5⟩:=(HX1.out.alloc (.cells #[.int .i64 now] 89)).cells;clear hb1;go_wp2_with fail
 refine (HM.out _).mono ?_
 rintro e w2 ⟨rfl,rfl⟩;go_wp2_with fail
 refine (HP.out _).mono ?_
 rintro e w3 ⟨rfl,hb3⟩;have HB3:=ξ0 ((HB.out.alloc HB.out.size _).trans (hb3.mono (by have:=HB.out.size;simp;omega)))
 clear hb3;go_wp2_with fail
 go_ret2
 exact ⟨rfl,HB3.out⟩
theorem ξai (b mb:Nat) (wt nw nx y now s t l q:Int) (st:Bool) (a:Option Addr) (m cap:Nat) (M:Its) (w:World) (h:ξ1 w b mb wt nw nx M) (hI:OM.Inv nw nx M) (ht:tf nw now=0) (h0:0<=y) (h1:y<=1099511627776) (hf:fault s t l q m=0) (hr:far nx y=true) :
 Calls prog 28 #[.pointer (some ⟨b,0,none⟩),.int .i64 y,.agg #[.int .i64 s,.int .i64 t,.int .i64 l,.int .i64 q,.bool st,.slice a m cap],.int .i64 now] w fun e w'=>e=.returned (.tuple #[.bool false,errv 4])/\Below w.heap.size w w':=by
 have HC:=ξ0 (fun w=>ξ1r nw now w ht)
 have HM:=ξ0 (fun w=>ξ1X y w h0 h1)
 have hP:=fun w=>ξe s t l q st a m cap w
 rw [hf,ξ4] at hP;have HP:=ξ0 hP
 have hT:=fun w h=>ξ2D b nx y w h hI.x1 hI.x2 h0 h1
 rw [hr] at hT;have HT:=ξ0 hT
 have HO:=ξ0 h
 have c0:=fun O=>ξk h.cells.1 O
 clear ht h hf hP hT hI hr;go_enter func28,ntmps28
 go_wp2_with fail
 refine (HC.out _).mono ?_
 rintro e w1 ⟨rfl,hb1⟩;have HX1:=ξ0 ((Box.new w s t l q st (.slice a m cap)).below hb1 (by simp))
 have HB:=ξ0 (ξs hb1)
 obtain ⟨x0,x1,x2,x3,x4,x5⟩:=(HX1.out.alloc (.cells #[.int .i64 now] 89)).cells;clear hb1;go_wp2_with fail
 refine (HM.out _).mono ?_
 rintro e w2 ⟨rfl,rfl⟩;go_wp2_with fail
 refine (HP.out _).mono ?_
 rintro e w3 ⟨rfl,hb3⟩;have HB3:=ξ0 ((HB.out.alloc HB.out.size _).trans (hb3.mono (by have:=HB.out.size;simp;omega)))
 clear hb3;go_wp2_with fail
 refine (HT.out _ (HO.out.below HB3.out).cells.2.2.1).mono ?_
 rintro e w4 ⟨rfl,rfl⟩;go_wp2_with fail
 go_ret2
 exact ⟨rfl,HB3.out⟩
def PO (w w':World) (b mb:Nat) (wt now fv y:Int) (kv:Bool) (M:Its) (s t l q:Int) (st:Bool) (L:List Nat):Prop:=
 ∃ bv,ξ1 w' b mb wt now fv (if kv then M++[⟨y,false,⟨s,t,l,q,st,L,bv⟩,now⟩] else M)/\Only [b,mb] w w'
theorem ξdL (b mb:Nat) (wt nw nx y now s t l q:Int) (st:Bool) (a:Option Addr) (m cap:Nat) (L:List Nat) (M:Its) (w:World) (h:ξ1 w b mb wt nw nx M) (hI:OM.Inv nw nx M) (hA:Arg w a m L) (hN:a=none->m=0/\cap=0) (ht:tf nw now=0) (h0:0<=y) (h1:y<=1099511627776) (hf:fault s t l q m=0) (hr:far nx y=false) :
 Calls prog 28 #[.pointer (some ⟨b,0,none⟩),.int .i64 y,.agg #[.int .i64 s,.int .i64 t,.int .i64 l,.int .i64 q,.bool st,.slice a m cap],.int .i64 now] w fun e w'=>e=.returned (.tuple #[.bool (kx (fx nx y) y M),.nilIface])/\PO w w' b mb wt now (fx nx y) y (kx (fx nx y) y M) M s t l q st L:=by
 have hm:m<=1000:=by obtain ⟨_,_,_,_,_,_,_,_,_,_,_,_,hm⟩:=ξt hf;exact hm
 have HC:=ξ0 (fun w=>ξ1r nw now w ht)
 have HM:=ξ0 (fun w=>ξ1X y w h0 h1)
 have hP:=fun w=>ξe s t l q st a m cap w
 rw [hf,ξ4] at hP;have HP:=ξ0 hP
 have hT:=fun w h=>ξ2D b nx y w h hI.x1 hI.x2 h0 h1
 rw [hr] at hT;have HT:=ξ0 hT
 have HO:=ξ0 h
 have c0:=fun O=>ξk h.cells.1 O
 have hl:M.length<=1000:=by have:=hI.len;omega
 have hwf:=ξL (y:=y) (by omega) (by omega)
 have HK:Hid (∀ W a' c',ξ1 W b mb wt now (fx nx y) M->W.ownsRow 0 5 1 (.slice a' m c') m (cellsOf L)->Calls prog 71 #[.pointer (some ⟨b,0,none⟩),.agg #[.int .i64 y,.bool false,.int .i64 s,.int .i64 t,.int .i64 l,.int .i64 q,.bool st,.slice a' m c'],.int .i64 now] W fun e w'=>e=.returned (.bool (kx (fx nx y) y M))/\ξ1 w' b mb wt now (fx nx y) (if kx (fx nx y) y M then M++[⟨y,false,⟨s,t,l,q,st,L,.slice a' m c'⟩,now⟩] else M)/\Only [mb] W w'):=
  ξ0 (fun W a' c' hW ho=>ξ2X b mb wt now (fx nx y) now y false s t l q st a' m c' L M W hW hl hwf ⟨a',m,c',rfl,ho,hA.1.1,hm⟩)
 have HA:=ξ0 hA
 have HN:=ξ0 hN
 have HAp:=ξ0 (fun W hW=>ξ1T s t l q st a m cap L W hW hN hm)
 have hlt:=h.lt
 have hx1:=hI.x1
 have hfx:fx nx y=if nx=-1 then y else nx:=rfl
 have HFx:=ξ0 hfx
 generalize kx (fx nx y) y M=kv at *
 generalize fx nx y=fv at *
 clear ht h hf hP hT hI hr hA hN hfx;obtain ⟨hlt1,hlt2⟩:=hlt;go_enter func28,ntmps28
 go_wp2_with fail
 refine (HC.out _).mono ?_
 rintro e w1 ⟨rfl,hb1⟩;have HX1:=ξ0 ((Box.new w s t l q st (.slice a m cap)).below hb1 (by simp))
 have HB:=ξ0 (ξs hb1)
 obtain ⟨x0,x1,x2,x3,x4,x5⟩:=(HX1.out.alloc (.cells #[.int .i64 now] 89)).cells;clear hb1;go_wp2_with fail
 refine (HM.out _).mono ?_
 rintro e w2 ⟨rfl,rfl⟩;go_wp2_with fail
 refine (HP.out _).mono ?_
 rintro e w3 ⟨rfl,hb3⟩;have HB3:=ξ0 ((HB.out.alloc HB.out.size _).trans (hb3.mono (by have:=HB.out.size;simp;omega)))
 have HX3:=ξ0 ((HX1.out.alloc (.cells #[.int .i64 now] 89)).below hb3 (by have:=HX1.out.lt;simp;omega))
 have hck:w3.cell? ⟨w1.heap.size,0,none⟩=some (.int .i64 now):=by
  have hh:w3.heap[w1.heap.size]?=some (.cells #[.int .i64 now] 89 (0,0)):=(hb3.block _ (by simp)).trans (heap_alloc_new w1 _)
  simp [World.cell?,hh]
 have hbw1:w.heap.size<w1.heap.size:=HX1.out.lt
 clear hb3 x0 x1 x2 x3 x4 x5 HX1 HB;go_wp2_with fail
 refine (HT.out _ (HO.out.below HB3.out).cells.2.2.1).mono ?_
 rintro e w4 ⟨rfl,rfl⟩;obtain ⟨k0,k1,k2,k3⟩:=(HO.out.below HB3.out).cells;have f0:=freeb (HO.out.below HB3.out).box 0
 have f2:=freeb (HO.out.below HB3.out).box 2
 obtain ⟨x0,x1,x2,x3,x4,x5⟩:=HX3.out.cells;have HS:Hid (∀ W,Only [b] w4 W->ξ1 W b mb wt now fv M->Only [b,mb] w W/\Arg W a m L/\Box W w.heap.size s t l q st (.slice a m cap)):=by
  refine ξ0 (fun W hon hO=>?_)
  have ho:Only [b,mb] w W:=(Only.of_below HB3.out _).trans (hon.mono (by simp))
  exact ⟨ho,ξbB HO.out HA.out ho,hon.block HX3.out (by simp;omega)⟩
 have hbne:b≠w.heap.size:=by omega
 by_cases hnx:nx=-1
 ·have hfv:fv=y:=by have:=HFx.out;rw [if_pos hnx] at this;exact this
  subst hnx;obtain ⟨w5,hw5⟩:∃ w5,(w4.setCell ⟨b,0,none⟩ (.int .i64 now)).setCell ⟨b,2,none⟩ (.int .i64 y)=w5:=⟨_,rfl⟩;have HO5:Hid (ξ1 w5 b mb wt now fv M):=by rw [<- hw5,hfv];exact ((HO.out.below HB3.out).set 0 (.int .i64 now) rfl).set 2 (.int .i64 y) rfl
  have HQ5:=ξ0 (HS.out w5 (by rw [<- hw5];exact ((Only.refl _ w4).setCell (by simp) _).setCell (by simp) _) HO5.out)
  have HW5:=ξ0 hw5
  clear hw5 hfv;go_wp2_with fail
  rw [HW5.out];refine (HAp.out _ HQ5.out.2.1).mono ?_
  rintro e w6 ⟨a',c',rfl,hown,hb6⟩;have HO6:=ξ0 (HO5.out.below hb6)
  have HN6:=ξ0 (HQ5.out.1.trans (Only.of_below hb6 _))
  have HR6:=ξ0 hown
  clear hb6 hown;go_wp2_with fail
  refine (HK.out _ a' c' HO6.out HR6.out).mono ?_
  rintro e w7 ⟨rfl,hO7,hN7⟩;have HO7:=ξ0 hO7
  have HN7:=ξ0 hN7
  clear hO7 hN7;go_wp2_with fail
  go_ret2
  exact ⟨rfl,_,HO7.out,HN6.out.trans (HN7.out.mono (by simp))⟩
 ·have hfv:fv=nx:=by have:=HFx.out;rw [if_neg hnx] at this;exact this
  have d1:(nx==-1)=false:=by simpa using hnx
  obtain ⟨w5,hw5⟩:∃ w5,w4.setCell ⟨b,0,none⟩ (.int .i64 now)=w5:=⟨_,rfl⟩;have HO5:Hid (ξ1 w5 b mb wt now fv M):=by rw [<- hw5,hfv];exact (HO.out.below HB3.out).set 0 (.int .i64 now) rfl
  have HQ5:=ξ0 (HS.out w5 (by rw [<- hw5];exact (Only.refl _ w4).setCell (by simp) _) HO5.out)
  have HW5:=ξ0 hw5
  clear hw5 hfv hnx;go_wp2_with fail
  rw [HW5.out];refine (HAp.out _ HQ5.out.2.1).mono ?_
  rintro e w6 ⟨a',c',rfl,hown,hb6⟩;have HO6:=ξ0 (HO5.out.below hb6)
  have HN6:=ξ0 (HQ5.out.1.trans (Only.of_below hb6 _))
  have HR6:=ξ0 hown
  clear hb6 hown;go_wp2_with fail
  refine (HK.out _ a' c' HO6.out HR6.out).mono ?_
  rintro e w7 ⟨rfl,hO7,hN7⟩;have HO7:=ξ0 hO7
  have HN7:=ξ0 hN7
  clear hO7 hN7;go_wp2_with fail
  go_ret2
  exact ⟨rfl,_,HO7.out,HN6.out.trans (HN7.out.mono (by simp))⟩
theorem ξ8O (b mb:Nat) (wt nw nx y now s t l q:Int) (st:Bool) (a:Option Addr) (m cap:Nat) (L:List Nat) (M:Its) (w:World) (h:ξ1 w b mb wt nw nx M) (hI:OM.Inv nw nx M) (hA:Arg w a m L) (hN:a=none->m=0/\cap=0) :
 Calls prog 28 #[.pointer (some ⟨b,0,none⟩),.int .i64 y,.agg #[.int .i64 s,.int .i64 t,.int .i64 l,.int .i64 q,.bool st,.slice a m cap],.int .i64 now] w fun e w'=>e=.returned (.tuple #[.bool (px nw nx y now M (fault s t l q m)),errv (pf nw nx y now (fault s t l q m))]) /\
  ∃ bv,ξ1 w' b mb wt (pW nw nx y now (fault s t l q m)) (pX nw nx y now (fault s t l q m)) (pM nw nx y now M (fault s t l q m) ⟨s,t,l,q,st,L,bv⟩)/\Only [b,mb] w w':=by
 have same:∀ w',pf nw nx y now (fault s t l q m)≠0->Below w.heap.size w w'->∃ bv,ξ1 w' b mb wt (pW nw nx y now (fault s t l q m)) (pX nw nx y now (fault s t l q m)) (pM nw nx y now M (fault s t l q m) ⟨s,t,l,q,st,L,bv⟩)/\Only [b,mb] w w':=by
  intro w' hx hb;refine ⟨.nilIface,?_,Only.of_below hb _⟩
  unfold pW pX pM px;simp only [hx,decide_false,Bool.false_and,if_false]
  exact h.below hb
 have hpx:pf nw nx y now (fault s t l q m)≠0->px nw nx y now M (fault s t l q m)=false:=by
  intro hx;simp [px,hx]
 by_cases ht:tf nw now=0
 case neg=>
  have e1:pf nw nx y now (fault s t l q m)=tf nw now:=by unfold pf;rw [if_pos ht]
  have hn:pf nw nx y now (fault s t l q m)≠0:=by rw [e1];exact ht
  refine (ξah b nw y now s t l q st a m cap w h.cells.1 ht).mono ?_
  rintro e w' ⟨rfl,hb⟩;exact ⟨by rw [hpx hn,e1],same w' hn hb⟩
 by_cases hy:y<0∨1099511627776<y
 ·have e1:pf nw nx y now (fault s t l q m)=1:=by unfold pf;rw [if_neg (by omega),if_pos hy]
  have hn:pf nw nx y now (fault s t l q m)≠0:=by omega
  refine (ξ8N b nw y now s t l q st a m cap w h.cells.1 ht hy).mono ?_
  rintro e w' ⟨rfl,hb⟩;exact ⟨by rw [hpx hn,e1],same w' hn hb⟩
 by_cases hc:fault s t l q m=0
 case neg=>
  have e1:pf nw nx y now (fault s t l q m)=fault s t l q m:=by unfold pf;rw [if_neg (by omega),if_neg hy,if_pos hc]
  have hn:pf nw nx y now (fault s t l q m)≠0:=by omega
  refine (ξch b nw y now s t l q st a m cap w h.cells.1 ht (by omega) (by omega) hc).mono ?_
  rintro e w' ⟨rfl,hb⟩;exact ⟨by rw [hpx hn,e1],same w' hn hb⟩
 by_cases hr:far nx y=true
 ·have e1:pf nw nx y now (fault s t l q m)=4:=by unfold pf;rw [if_neg (by omega),if_neg hy,if_neg (by omega),if_pos hr]
  have hn:pf nw nx y now (fault s t l q m)≠0:=by omega
  refine (ξai b mb wt nw nx y now s t l q st a m cap M w h hI ht (by omega) (by omega) hc hr).mono ?_
  rintro e w' ⟨rfl,hb⟩;exact ⟨by rw [hpx hn,e1],same w' hn hb⟩
 ·have hr':far nx y=false:=by simpa using hr
  have e1:pf nw nx y now (fault s t l q m)=0:=ξ4q ht (by omega) (by omega) hc hr'
  refine (ξdL b mb wt nw nx y now s t l q st a m cap L M w h hI hA hN ht (by omega) (by omega) hc hr').mono ?_
  rintro e w' ⟨rfl,bv,hO,ho⟩;refine ⟨?_,bv,?_,ho⟩
  ·simp [px,e1,errv]
  ·unfold pW pX pM px;simp only [e1,if_true,decide_true,Bool.true_and]
   exact hO
structure Many (wt nw nx now:Int) (M:Its) (K:Nat):Prop where
 le:K<=200
 yes:tf nw now=0->∃ od,Od wt now M od/\Stop M od nx K
 no:tf nw now≠0->K=0
def qW (nw now:Int):Int:=if tf nw now=0 then now else nw
theorem ξcI {wt nw nx now:Int} {M:Its} {K:Nat} (h:OM.Inv nw nx M) (hK:Many wt nw nx now M K):OM.Inv (qW nw now) (nx+(K:Int)) (rest M (nx+(K:Int))):=by
 unfold qW;by_cases ht:tf nw now=0
 ·obtain ⟨od,ho,hs⟩:=hK.yes ht;rw [if_pos ht];exact ξe8 h ht ho hs.all
 ·have:=hK.no ht
  subst this;rw [if_neg ht];simp only [Int.natCast_zero,Int.add_zero]
  rw [ξ41 h];exact h
theorem ξam (b mb:Nat) (wt nw nx now:Int) (M:Its) (K:Nat) (w:World) (h:ξ1 w b mb wt nw nx M) (hI:OM.Inv nw nx M) (hK:Many wt nw nx now M K) :
 Calls prog 32 #[.pointer (some ⟨b,0,none⟩),.int .i64 now] w fun e w'=>∃ av cv,e=.returned (.tuple #[.slice av K cv,errv (tf nw now)])/\w'.ownsRow w.heap.size 82 8 (.slice av K cv) K (flat c8 (takes M nx K))/\Bodies w' (takes M nx K)/\ξ1 w' b mb wt (qW nw now) (nx+(K:Int)) (rest M (nx+(K:Int)))/\Only [b,mb] w w':=by
 unfold qW;by_cases ht:tf nw now=0
 ·obtain ⟨od,ho,hs⟩:=hK.yes ht;rw [if_pos ht,ht,ξ4];exact ξeV b mb wt nw nx now od M K w h hI ht ho hs hK.le
 ·have:=hK.no ht
  subst this;rw [if_neg ht];refine (ξci b nw now w h.cells.1 ht).mono ?_
  rintro e w' ⟨rfl,hb⟩;refine ⟨none,0,rfl,by simpa [takes,flat] using Ξr w' w.heap.size 82 8,fun i hi=>by simp [takes] at hi,?_,Only.of_below hb _⟩
  simp only [Int.natCast_zero,Int.add_zero]
  rw [ξ41 hI];exact h.below hb
end Go.Proofs.YtpiamlgmadnepaaGreat.Order
