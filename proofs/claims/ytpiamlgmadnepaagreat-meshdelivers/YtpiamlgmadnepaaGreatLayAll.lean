/-
 What the proof needs.
-/
import Derived.Test.YtpiamlgmadnepaaGreatLayerAP
import Derived.Test.YtpiamlgmadnepaaGreatOutAP
open Go.Proofs.Tryz
set_option linter.unusedVariables false
set_option maxHeartbeats 4000000
set_option maxRecDepth 100000
namespace Go.Proofs.YtpiamlgmadnepaaGreat.Layer
open ChangeShapes WideShapes ChangeAt RowKit PM Mem Pack LM
variable {w:World}{h:Nat}{n s t l q:Int}{g st:Bool}{bv:Value}
def A1a(w:World)(h:Nat)(n:Int)(g:Bool)(s t l q:Int)(st:Bool)(bv:Value):Prop:=w.heap[h]?=some (.cells #[.int .i64 n,.bool g,.int .i64 s,.int .i64 t,.int .i64 l,.int .i64 q,.bool st,bv] 82 (0,0))
theorem A1a.new(w:World)(n:Int)(g:Bool)(s t l q:Int)(st:Bool)(bv:Value):A1a (w.alloc (.cells #[.int .i64 n,.bool g,.int .i64 s,.int .i64 t,.int .i64 l,.int .i64 q,.bool st,bv] 82)) w.heap.size n g s t l q st bv:=heap_alloc_new w _
theorem A1a.lt(hx:A1a w h n g s t l q st bv):h<w.heap.size:=lt_of_block hx
theorem A1a.below{w':World}{B:Nat}(hx:A1a w h n g s t l q st bv)(hb:Below B w w')(hB:h<B):A1a w' h n g s t l q st bv:=(hb.block h hB).trans hx
theorem A1a.cells(hx:A1a w h n g s t l q st bv) :
 w.cell? ⟨h,0,none⟩=some (.int .i64 n)/\w.cell? ⟨h,1,none⟩=some (.bool g)/\w.cell? ⟨h,2,none⟩=some (.int .i64 s)/\w.cell? ⟨h,3,none⟩=some (.int .i64 t)/\w.cell? ⟨h,4,none⟩=some (.int .i64 l)/\w.cell? ⟨h,5,none⟩=some (.int .i64 q)/\w.cell? ⟨h,6,none⟩=some (.bool st)/\w.cell? ⟨h,7,none⟩=some bv:=by
 simp only[A1a]at hx;simp[World.cell?,hx]
theorem ξa(b:Nat)(m nw la n:Int)(br g:Bool)(s t l q:Int)(st:Bool)(a:Option Addr)(k c:Nat)(w:World)(h:ξ5 w b m nw la br) :
 Calls prog 79 #[.pointer (some ⟨b,0,none⟩),.agg #[.int .i64 n,.bool g,.int .i64 s,.int .i64 t,.int .i64 l,.int .i64 q,.bool st,.slice a k c]] w λe w'=>e=.returned (A0a (tkf la n g (fault s t l q k)))/\Below w.heap.size w w':=by
 have HL:=ξ0 (h.alloc (.cells #[.int .i64 n,.bool g,.int .i64 s,.int .i64 t,.int .i64 l,.int .i64 q,.bool st,.slice a k c] 82));have HX:=ξ0 (A1a.new w n g s t l q st (.slice a k c));clear h;by_cases p0:n<0
 ·have d0:decide (n<0)=true:=by simpa using p0
  rw[ξ5n (.inl p0)];go_enter func79,ntmps79;go_wp2_with fail
  go_ret;exact⟨rfl,(Ξp _ _).alloc (Ξo _) _⟩
 have d0:decide (n<0)=false:=by simpa using p0
 by_cases p1:1099511627776<n
 ·have d1:decide (1099511627776<n)=true:=by simpa using p1
  rw[ξ5n (.inr p1)];go_enter func79,ntmps79;go_wp2_with fail
  go_ret;exact⟨rfl,(Ξp _ _).alloc (Ξo _) _⟩
 have d1:decide (1099511627776<n)=false:=by simpa using p1
 obtain⟨c0,c1,c2,c3⟩:=HL.out.cells;obtain⟨x0,x1,x2,x3,x4,x5,x6,x7⟩:=HX.out.cells;clear c0 c1 c3;by_cases p2:n<=la
 ·have d2:decide (n<=la)=true:=by simpa using p2
  rw[ξay (by omega) (by omega) p2];go_enter func79,ntmps79;go_wp2_with fail
  go_quiet (fail)
  go_wp2_with fail
  go_ret;exact⟨rfl,below_drewN ((Ξp _ _).alloc (Ξo _) _) _⟩
 have d2:decide (n<=la)=false:=by simpa using p2
 cases g with
 | true=>
   rw[ξ6s (by omega) (by omega) p2];clear p0 p1 p2;go_enter func79,ntmps79;go_wp2_with fail
   go_quiet (fail)
   go_wp2_with fail
   go_ret;exact⟨rfl,below_drewN ((Ξp _ _).alloc (Ξo _) _) _⟩
 | false=>
   rw[ξ6r (by omega) (by omega) p2];clear p0 p1 p2;have HC:=ξ0 (λW=>Pack.ξa s t l q st a k c W);generalize fault s t l q k=ft at *;go_enter func79,ntmps79;go_wp2_with fail
   go_quiet (fail)
   go_wp2_with fail
   refine(HC.out _).mono ?_;rintro e w2 ⟨rfl,hb⟩;go_wp2_with fail;go_ret;have ae:Below w.heap.size w ((w.alloc (.cells #[.int .i64 n,.bool false,.int .i64 s,.int .i64 t,.int .i64 l,.int .i64 q,.bool st,.slice a k c] 82)).drewN nq):=below_drewN ((Ξp _ _).alloc (Ξo _) _) _;exact⟨rfl,ae.trans (hb.mono ae.size)⟩
theorem ξ9u(b:Nat)(m nw la:Int)(br:Bool)(s t l q:Int)(st:Bool)(bv:Value)(w:World)(h:ξ5 w b m nw la br)(hl:m<l) :
 Calls prog 80 #[.pointer (some ⟨b,0,none⟩),.agg #[.int .i64 s,.int .i64 t,.int .i64 l,.int .i64 q,.bool st,bv]] w λe w'=>e=.returned (.bool false)/\Below w.heap.size w w':=by
 have HL:=ξ0 (h.alloc (.cells #[.int .i64 s,.int .i64 t,.int .i64 l,.int .i64 q,.bool st,bv] 38));have HX:=ξ0 (Box.new w s t l q st bv);have ae:=h.lt;clear h;obtain⟨c0,c1,c2,c3⟩:=HL.out.cells;obtain⟨x0,x1,x2,x3,x4,x5⟩:=HX.out.cells;clear x0 x1 x3 x5 c1 c2 c3;have d:decide (m<l)=true:=by simpa using hl
 clear x4;go_enter func80,ntmps80;go_wp2_with fail
 go_quiet (fail)
 go_wp2_with fail
 go_ret;exact⟨rfl,below_drewN ((Ξp _ _).alloc (Ξo _) _) _⟩
theorem ξb8(b:Nat)(m nw la:Int)(br:Bool)(s t l q:Int)(bv:Value)(w:World)(h:ξ5 w b m nw la br)(hl:¬m<l)(hn:l=nw) :
 Calls prog 80 #[.pointer (some ⟨b,0,none⟩),.agg #[.int .i64 s,.int .i64 t,.int .i64 l,.int .i64 q,.bool false,bv]] w λe w'=>e=.returned (.bool (!br))/\Below w.heap.size w w':=by
 have HL:=ξ0 (h.alloc (.cells #[.int .i64 s,.int .i64 t,.int .i64 l,.int .i64 q,.bool false,bv] 38));have HX:=ξ0 (Box.new w s t l q false bv);have am:=h.lt;clear h;obtain⟨c0,c1,c2,c3⟩:=HL.out.cells;obtain⟨x0,x1,x2,x3,x4,x5⟩:=HX.out.cells;clear x0 x1 x3 x5 c1 c2 c3;have d:decide (m<l)=false:=by simpa using hl
 subst hn;have d1:(l==l)=true:=by simp
 go_enter func80,ntmps80;go_wp2_with fail
 go_quiet (fail)
 obtain⟨wq,ae⟩:=nm ((w.alloc (.cells #[.int .i64 s,.int .i64 t,.int .i64 l,.int .i64 q,.bool false,bv] 38)).drewN nq);have ah:Hid (ξ5 wq b m l la br):=by rw[<-ae];exact HL.out.below (below_drewN (Ξp _ _) _)
 have ai:Hid (Box wq w.heap.size s t l q false bv):=by rw[<-ae];exact HX.out.below (below_drewN (Ξp _ _) _) HX.out.lt
 have aj:Hid (Below w.heap.size w wq):=by rw[<-ae];exact below_drewN ((Ξp _ _).alloc (Ξo _) _) _
 rw[ae];clear ae HL HX c0 x2 x4;obtain⟨c0,c1,c2,c3⟩:=ah.out.cells;obtain⟨x0,x1,x2,x3,x4,x5⟩:=ai.out.cells;clear x0 x1 x3 x5 c2;go_wp2_with fail;go_quiet (fail)
 go_wp2_with fail
 go_ret;exact⟨rfl,below_drewN aj.out _⟩
theorem ξ9s(b:Nat)(m nw la:Int)(br:Bool)(s t l q:Int)(bv:Value)(w:World)(h:ξ5 w b m nw la br)(hl:¬m<l)(hn:¬l=nw) :
 Calls prog 80 #[.pointer (some ⟨b,0,none⟩),.agg #[.int .i64 s,.int .i64 t,.int .i64 l,.int .i64 q,.bool false,bv]] w λe w'=>e=.returned (.bool (false))/\Below w.heap.size w w':=by
 have HL:=ξ0 (h.alloc (.cells #[.int .i64 s,.int .i64 t,.int .i64 l,.int .i64 q,.bool false,bv] 38));have HX:=ξ0 (Box.new w s t l q false bv);have am:=h.lt;clear h;obtain⟨c0,c1,c2,c3⟩:=HL.out.cells;obtain⟨x0,x1,x2,x3,x4,x5⟩:=HX.out.cells;clear x0 x1 x3 x5 c1 c2 c3;have d:decide (m<l)=false:=by simpa using hl
 have d1:(l==nw)=false:=by simpa using hn
 have d2:decide (l=nw)=false:=by simpa using hn
 clear hn;go_enter func80,ntmps80;go_wp2_with fail
 go_quiet (fail)
 obtain⟨wq,ae⟩:=nm ((w.alloc (.cells #[.int .i64 s,.int .i64 t,.int .i64 l,.int .i64 q,.bool false,bv] 38)).drewN nq);have ah:Hid (ξ5 wq b m nw la br):=by rw[<-ae];exact HL.out.below (below_drewN (Ξp _ _) _)
 have ai:Hid (Box wq w.heap.size s t l q false bv):=by rw[<-ae];exact HX.out.below (below_drewN (Ξp _ _) _) HX.out.lt
 have aj:Hid (Below w.heap.size w wq):=by rw[<-ae];exact below_drewN ((Ξp _ _).alloc (Ξo _) _) _
 rw[ae];clear ae HL HX c0 x2 x4;obtain⟨c0,c1,c2,c3⟩:=ah.out.cells;obtain⟨x0,x1,x2,x3,x4,x5⟩:=ai.out.cells;clear x0 x1 x3 x5 c2;go_wp2_with fail;go_quiet (fail)
 go_wp2_with fail
 go_ret;exact⟨rfl,below_drewN aj.out _⟩
theorem ξeL(b:Nat)(m nw la:Int)(br:Bool)(s t l q:Int)(bv:Value)(w:World)(h:ξ5 w b m nw la br)(hl:¬m<l)(hn:l<nw)(hw:wants m nw br=false) :
 Calls prog 80 #[.pointer (some ⟨b,0,none⟩),.agg #[.int .i64 s,.int .i64 t,.int .i64 l,.int .i64 q,.bool true,bv]] w λe w'=>e=.returned (.bool false)/\Below w.heap.size w w':=by
 have HL:=ξ0 (h.alloc (.cells #[.int .i64 s,.int .i64 t,.int .i64 l,.int .i64 q,.bool true,bv] 38));have HX:=ξ0 (Box.new w s t l q true bv);have am:=h.lt;clear h;obtain⟨c0,c1,c2,c3⟩:=HL.out.cells;obtain⟨x0,x1,x2,x3,x4,x5⟩:=HX.out.cells;clear x0 x1 x3 x5 c1 c2 c3;have d:decide (m<l)=false:=by simpa using hl
 have d1:decide (l<nw)=true:=by simpa using hn
 have HW:Hid (∀W,ξ5 W b m nw la br->Calls prog 108 #[.pointer (some ⟨b,0,none⟩)] W λe w'=>e=.returned (.bool false)/\∃k,w'=W.drewN k):=ξ0 (λW hW=>by have:=ξ2w b m nw la br W hW;rw[hw]at this;exact this);clear hw;go_enter func80,ntmps80;go_wp2_with fail
 go_quiet (fail)
 obtain⟨wq,ae⟩:=nm ((w.alloc (.cells #[.int .i64 s,.int .i64 t,.int .i64 l,.int .i64 q,.bool true,bv] 38)).drewN nq);have ah:Hid (ξ5 wq b m nw la br):=by rw[<-ae];exact HL.out.below (below_drewN (Ξp _ _) _)
 have ai:Hid (Box wq w.heap.size s t l q true bv):=by rw[<-ae];exact HX.out.below (below_drewN (Ξp _ _) _) HX.out.lt
 have aj:Hid (Below w.heap.size w wq):=by rw[<-ae];exact below_drewN ((Ξp _ _).alloc (Ξo _) _) _
 rw[ae];clear ae HL HX c0 x2 x4;obtain⟨c0,c1,c2,c3⟩:=ah.out.cells;obtain⟨x0,x1,x2,x3,x4,x5⟩:=ai.out.cells;clear x0 x1 x3 x5 c2;go_wp2_with fail;go_quiet ((go_at_call 108;exact Calls.quiet_of (HW.out _ (by exact ah.out))))
 go_wp2_with fail
 go_ret;exact⟨rfl,below_drewN aj.out _⟩
theorem ξb9(b:Nat)(m nw la:Int)(br:Bool)(s t l q:Int)(bv:Value)(w:World)(h:ξ5 w b m nw la br)(hl:¬m<l)(hn:l<nw)(hw:wants m nw br=true) :
 Calls prog 80 #[.pointer (some ⟨b,0,none⟩),.agg #[.int .i64 s,.int .i64 t,.int .i64 l,.int .i64 q,.bool true,bv]] w λe w'=>e=.returned (.bool true)/\ξ5 w' b m l la false/\Only [b] w w':=by
 have HL:=ξ0 (h.alloc (.cells #[.int .i64 s,.int .i64 t,.int .i64 l,.int .i64 q,.bool true,bv] 38));have HX:=ξ0 (Box.new w s t l q true bv);have ax:=h.lt;clear h;obtain⟨c0,c1,c2,c3⟩:=HL.out.cells;obtain⟨x0,x1,x2,x3,x4,x5⟩:=HX.out.cells;clear x0 x1 x3 x5 c1 c2 c3;have d:decide (m<l)=false:=by simpa using hl
 have d1:decide (l<nw)=true:=by simpa using hn
 have HW:Hid (∀W,ξ5 W b m nw la br->Calls prog 108 #[.pointer (some ⟨b,0,none⟩)] W λe w'=>e=.returned (.bool true)/\∃k,w'=W.drewN k):=ξ0 (λW hW=>by have:=ξ2w b m nw la br W hW;rw[hw]at this;exact this);clear hw;go_enter func80,ntmps80;go_wp2_with fail
 go_quiet (fail)
 obtain⟨wq,ae⟩:=nm ((w.alloc (.cells #[.int .i64 s,.int .i64 t,.int .i64 l,.int .i64 q,.bool true,bv] 38)).drewN nq);have ai:Hid (ξ5 wq b m nw la br):=by rw[<-ae];exact HL.out.below (below_drewN (Ξp _ _) _)
 have aj:Hid (Box wq w.heap.size s t l q true bv):=by rw[<-ae];exact HX.out.below (below_drewN (Ξp _ _) _) HX.out.lt
 have aq:Hid (Below w.heap.size w wq):=by rw[<-ae];exact below_drewN ((Ξp _ _).alloc (Ξo _) _) _
 rw[ae];clear ae HL HX c0 x2 x4;obtain⟨c0,c1,c2,c3⟩:=ai.out.cells;obtain⟨x0,x1,x2,x3,x4,x5⟩:=aj.out.cells;clear x0 x1 x3 x5 c2;go_wp2_with fail;go_quiet ((go_at_call 108;exact Calls.quiet_of (HW.out _ (by exact ai.out))))
 obtain⟨wp,ah⟩:=nm (wq.drewN nq);have am:Hid (ξ5 wp b m nw la br):=by rw[<-ah];exact ai.out.below (below_drewN (Ξp _ _) _)
 have au:Hid (Box wp w.heap.size s t l q true bv):=by rw[<-ah];exact aj.out.below (below_drewN (Ξp _ _) _) aj.out.lt
 have aw:Hid (Below w.heap.size w wp):=by rw[<-ah];exact below_drewN aq.out _
 rw[ah];clear ah ai aj aq c0 c1 c3 x2 x4;obtain⟨c0,c1,c2,c3⟩:=am.out.cells;obtain⟨x0,x1,x2,x3,x4,x5⟩:=au.out.cells;have f1:=am.out.free 1;have f3:=am.out.free 3;clear x0 x1 x3 x4 x5 c0 c2;go_wp2_with fail;go_ret;exact⟨rfl,(am.out.A4u l).setB false,((Only.of_below aw.out [b]).setCell (by simp) _).setCell (by simp) _⟩
theorem ξeK(b:Nat)(m nw la:Int)(br:Bool)(s t l q:Int)(bv:Value)(w:World)(h:ξ5 w b m nw la br)(hl:¬m<l)(hn:¬l<nw) :
 Calls prog 80 #[.pointer (some ⟨b,0,none⟩),.agg #[.int .i64 s,.int .i64 t,.int .i64 l,.int .i64 q,.bool true,bv]] w λe w'=>e=.returned (.bool true)/\ξ5 w' b m l la false/\Only [b] w w':=by
 have HL:=ξ0 (h.alloc (.cells #[.int .i64 s,.int .i64 t,.int .i64 l,.int .i64 q,.bool true,bv] 38));have HX:=ξ0 (Box.new w s t l q true bv);have ax:=h.lt;clear h;obtain⟨c0,c1,c2,c3⟩:=HL.out.cells;obtain⟨x0,x1,x2,x3,x4,x5⟩:=HX.out.cells;clear x0 x1 x3 x5 c1 c2 c3;have d:decide (m<l)=false:=by simpa using hl
 have d1:decide (l<nw)=false:=by simpa using hn
 go_enter func80,ntmps80;go_wp2_with fail
 go_quiet (fail)
 obtain⟨wq,ae⟩:=nm ((w.alloc (.cells #[.int .i64 s,.int .i64 t,.int .i64 l,.int .i64 q,.bool true,bv] 38)).drewN nq);have am:Hid (ξ5 wq b m nw la br):=by rw[<-ae];exact HL.out.below (below_drewN (Ξp _ _) _)
 have ai:Hid (Box wq w.heap.size s t l q true bv):=by rw[<-ae];exact HX.out.below (below_drewN (Ξp _ _) _) HX.out.lt
 have aq:Hid (Below w.heap.size w wq):=by rw[<-ae];exact below_drewN ((Ξp _ _).alloc (Ξo _) _) _
 rw[ae];clear ae HL HX c0 x2 x4;obtain⟨c0,c1,c2,c3⟩:=am.out.cells;obtain⟨x0,x1,x2,x3,x4,x5⟩:=ai.out.cells;clear x0 x1 x3 x5 c2;go_wp2_with fail;go_quiet (fail)
 obtain⟨wp,ah⟩:=nm (wq.drewN nq);have aj:Hid (ξ5 wp b m nw la br):=by rw[<-ah];exact am.out.below (below_drewN (Ξp _ _) _)
 have au:Hid (Box wp w.heap.size s t l q true bv):=by rw[<-ah];exact ai.out.below (below_drewN (Ξp _ _) _) ai.out.lt
 have aw:Hid (Below w.heap.size w wp):=by rw[<-ah];exact below_drewN aq.out _
 rw[ah];clear ah am ai aq c0 c1 c3 x2 x4;obtain⟨c0,c1,c2,c3⟩:=aj.out.cells;obtain⟨x0,x1,x2,x3,x4,x5⟩:=au.out.cells;have f1:=aj.out.free 1;have f3:=aj.out.free 3;clear x0 x1 x3 x4 x5 c0 c2;go_wp2_with fail;go_ret;exact⟨rfl,(aj.out.A4u l).setB false,((Only.of_below aw.out [b]).setCell (by simp) _).setCell (by simp) _⟩
theorem ξ9t(b:Nat)(m nw la:Int)(br:Bool)(s t l q:Int)(st:Bool)(bv:Value)(w:World)(h:ξ5 w b m nw la br)(hl:0<=l) :
 Calls prog 80 #[.pointer (some ⟨b,0,none⟩),.agg #[.int .i64 s,.int .i64 t,.int .i64 l,.int .i64 q,.bool st,bv]] w λe w'=>e=.returned (.bool (goes m nw l br st))/\ξ5 w' b m (if goes m nw l br st&&st then l else nw) la (if goes m nw l br st&&st then false else br)/\Only [b] w w':=by
 by_cases p0:m<l
 ·have e:goes m nw l br st=false:=by simp[goes];omega
  rw[e];refine(ξ9u b m nw la br s t l q st bv w h p0).mono ?_;rintro e w' ⟨rfl,hb⟩;exact⟨rfl,h.below hb,Only.of_below hb _⟩
 have ae:l<=m:=by omega
 cases st with
 | false=>
   have e:goes m nw l br false=(decide (l=nw)&&!br):=by simp[goes,ae]
   rw[e];by_cases p1:l=nw
   ·refine(ξb8 b m nw la br s t l q bv w h p0 p1).mono ?_;rintro e w' ⟨rfl,hb⟩;refine⟨by simp[p1],?_,Only.of_below hb _⟩;simpa using h.below hb
   ·refine(ξ9s b m nw la br s t l q bv w h p0 p1).mono ?_;rintro e w' ⟨rfl,hb⟩;refine⟨by simp[p1],?_,Only.of_below hb _⟩;simpa using h.below hb
 | true=>
   by_cases p1:l<nw
   ·have e:goes m nw l br true=wants m nw br:=by
     have h1:¬nw<=l:=by omega
     have h2:¬nw=-1:=by omega
     simp[goes,wants,ae,h1,h2]
    rw[e];cases hw:wants m nw br with
    | false=>
      refine(ξeL b m nw la br s t l q bv w h p0 p1 hw).mono ?_;rintro e w' ⟨rfl,hb⟩;exact⟨rfl,h.below hb,Only.of_below hb _⟩
    | true=>
      refine(ξb9 b m nw la br s t l q bv w h p0 p1 hw).mono ?_;rintro e w' ⟨rfl,hb,ho⟩;exact⟨rfl,hb,ho⟩
   ·have e:goes m nw l br true=true:=by
     have h1:nw<=l:=by omega
     simp[goes,ae,h1]
    rw[e];refine(ξeK b m nw la br s t l q bv w h p0 p1).mono ?_;rintro e w' ⟨rfl,hb,ho⟩;exact⟨rfl,hb,ho⟩
theorem ξcz(b:Nat)(m nw la n:Int)(br g:Bool)(s t l q:Int)(st:Bool)(a:Option Addr)(k c:Nat)(w:World)(h:ξ5 w b m nw la br)(hf:tkf la n g (fault s t l q k)≠0) :
 Calls prog 33 #[.pointer (some ⟨b,0,none⟩),.agg #[.int .i64 n,.bool g,.int .i64 s,.int .i64 t,.int .i64 l,.int .i64 q,.bool st,.slice a k c]] w λe w'=>e=.returned (.tuple #[.bool false,A0a (tkf la n g (fault s t l q k))])/\Below w.heap.size w w':=by
 have HL:=ξ0 (h.alloc (.cells #[.int .i64 n,.bool g,.int .i64 s,.int .i64 t,.int .i64 l,.int .i64 q,.bool st,.slice a k c] 82));have HX:=ξ0 (A1a.new w n g s t l q st (.slice a k c));have ah:=h.lt;have HC:Hid (∀W,ξ5 W b m nw la br->Calls prog 79 #[.pointer (some ⟨b,0,none⟩),.agg #[.int .i64 n,.bool g,.int .i64 s,.int .i64 t,.int .i64 l,.int .i64 q,.bool st,.slice a k c]] W λe w'=>e=.returned (A0a (tkf la n g (fault s t l q k)))/\Below W.heap.size W w'):=ξ0 (λW hW=>ξa b m nw la n br g s t l q st a k c W hW);clear h;generalize tkf la n g (fault s t l q k)=f at *;rw[ξb hf]at *;clear hf;obtain⟨x0,x1,x2,x3,x4,x5,x6,x7⟩:=HX.out.cells;go_enter func33,ntmps33;go_wp2_with fail
 refine(HC.out _ HL.out).mono ?_;rintro e w1 ⟨rfl,hb⟩;have ae:Hid (Below w.heap.size w w1):=ξ0 (((Ξp _ _).alloc (Ξo _) _).trans (hb.mono (by simp)));have ai:=ξ0 (HX.out.below hb HX.out.lt);have aj:=ξ0 (HL.out.below hb);clear hb HC HL HX x0 x1 x2 x3 x4 x5 x6 x7;go_wp2_with fail;go_ret2;exact⟨rfl,ae.out⟩
theorem ξ3k(b:Nat)(m nw la n:Int)(br:Bool)(s t l q:Int)(st:Bool)(a:Option Addr)(k c:Nat)(w:World)(h:ξ5 w b m nw la br)(hf:tkf la n true (fault s t l q k)=0) :
 Calls prog 33 #[.pointer (some ⟨b,0,none⟩),.agg #[.int .i64 n,.bool true,.int .i64 s,.int .i64 t,.int .i64 l,.int .i64 q,.bool st,.slice a k c]] w λe w'=>e=.returned (.tuple #[.bool false,.nilIface])/\ξ5 w' b m nw n (decide (nw≠-1))/\Only [b] w w':=by
 have HL:=ξ0 (h.alloc (.cells #[.int .i64 n,.bool true,.int .i64 s,.int .i64 t,.int .i64 l,.int .i64 q,.bool st,.slice a k c] 82));have HX:=ξ0 (A1a.new w n true s t l q st (.slice a k c));have am:=h.lt;have HC:Hid (∀W,ξ5 W b m nw la br->Calls prog 79 #[.pointer (some ⟨b,0,none⟩),.agg #[.int .i64 n,.bool true,.int .i64 s,.int .i64 t,.int .i64 l,.int .i64 q,.bool st,.slice a k c]] W λe w'=>e=.returned (A0a (tkf la n true (fault s t l q k)))/\Below W.heap.size W w'):=ξ0 (λW hW=>ξa b m nw la n br true s t l q st a k c W hW);clear h;rw[hf,ξ4]at HC;clear hf;obtain⟨x0,x1,x2,x3,x4,x5,x6,x7⟩:=HX.out.cells;go_enter func33,ntmps33;go_wp2_with fail
 refine(HC.out _ HL.out).mono ?_;rintro e w1 ⟨rfl,hb⟩;have ah:Hid (Below w.heap.size w w1):=ξ0 (((Ξp _ _).alloc (Ξo _) _).trans (hb.mono (by simp)));have ai:=ξ0 (HX.out.below hb HX.out.lt);have ae:=ξ0 (HL.out.below hb);clear hb HC HL HX x0 x1 x2 x3 x4 x5 x6 x7;obtain⟨x0,x1,x2,x3,x4,x5,x6,x7⟩:=ai.out.cells;obtain⟨c0,c1,c2,c3⟩:=ae.out.cells;have f2:=ae.out.free 2;have f3:=ae.out.free 3;have aq:¬w.heap.size=b:=by omega
 have aj:¬b=w.heap.size:=by omega
 clear c0 x2 x3 x4 x5 x6 x7;go_wp2_with fail;go_ret2;have h1:=(ae.out.A5f n).setB (decide (nw≠-1));refine⟨rfl,?_,((Only.of_below ah.out [b]).setCell (by simp) _).setCell (by simp) _⟩;have e:(nw != -1)=decide (nw≠-1):=by by_cases p:nw=-1<;>simp[p]
 first|exact h1|(rw[e];exact h1)|(rw[<-e]at h1 ⊢;exact h1)
theorem ξaB(b:Nat)(m nw la n:Int)(br:Bool)(s t l q:Int)(st:Bool)(a:Option Addr)(k c:Nat)(w:World)(h:ξ5 w b m nw la br)(hf:tkf la n false (fault s t l q k)=0)(hl:0<=l) :
 Calls prog 33 #[.pointer (some ⟨b,0,none⟩),.agg #[.int .i64 n,.bool false,.int .i64 s,.int .i64 t,.int .i64 l,.int .i64 q,.bool st,.slice a k c]] w λe w'=>e=.returned (.tuple #[.bool (goes m nw l br st),.nilIface])/\ξ5 w' b m (if goes m nw l br st&&st then l else nw) n (if goes m nw l br st&&st then false else br)/\Only [b] w w':=by
 have HL:=ξ0 (h.alloc (.cells #[.int .i64 n,.bool false,.int .i64 s,.int .i64 t,.int .i64 l,.int .i64 q,.bool st,.slice a k c] 82));have HX:=ξ0 (A1a.new w n false s t l q st (.slice a k c));have au:=h.lt;have HC:Hid (∀W,ξ5 W b m nw la br->Calls prog 79 #[.pointer (some ⟨b,0,none⟩),.agg #[.int .i64 n,.bool false,.int .i64 s,.int .i64 t,.int .i64 l,.int .i64 q,.bool st,.slice a k c]] W λe w'=>e=.returned (A0a (tkf la n false (fault s t l q k)))/\Below W.heap.size W w'):=ξ0 (λW hW=>ξa b m nw la n br false s t l q st a k c W hW);clear h;rw[hf,ξ4]at HC;clear hf;have HP:Hid (∀W,ξ5 W b m nw n br->Calls prog 80 #[.pointer (some ⟨b,0,none⟩),.agg #[.int .i64 s,.int .i64 t,.int .i64 l,.int .i64 q,.bool st,.slice a k c]] W λe w'=>e=.returned (.bool (goes m nw l br st))/\ξ5 w' b m (if goes m nw l br st&&st then l else nw) n (if goes m nw l br st&&st then false else br)/\Only [b] W w'):=ξ0 (λW hW=>ξ9t b m nw n br s t l q st (.slice a k c) W hW hl);generalize (if goes m nw l br st&&st then l else nw)=nw2 at *;generalize (if goes m nw l br st&&st then false else br)=br2 at *;generalize goes m nw l br st=x at *;obtain⟨x0,x1,x2,x3,x4,x5,x6,x7⟩:=HX.out.cells;go_enter func33,ntmps33;go_wp2_with fail
 refine(HC.out _ HL.out).mono ?_;rintro e w1 ⟨rfl,hb⟩;have ah:Hid (Below w.heap.size w w1):=ξ0 (((Ξp _ _).alloc (Ξo _) _).trans (hb.mono (by simp)));have ai:=ξ0 (HX.out.below hb HX.out.lt);have ae:=ξ0 (HL.out.below hb);clear hb HC HL HX x0 x1 x2 x3 x4 x5 x6 x7;obtain⟨x0,x1,x2,x3,x4,x5,x6,x7⟩:=ai.out.cells;obtain⟨c0,c1,c2,c3⟩:=ae.out.cells;have f2:=ae.out.free 2;have aw:¬w.heap.size=b:=by omega
 have aj:¬b=w.heap.size:=by omega
 clear c0 c1 c3;go_wp2_with fail;refine(HP.out _ (ae.out.A5f n)).mono ?_;rintro e w2 ⟨rfl,h2,ho⟩;have am:=ξ0 h2;have aq:=ξ0 (((Only.of_below ah.out [b]).setCell (p:=⟨b,2,none⟩) (by simp) (.int .i64 n)).trans ho);clear h2 ho;go_wp2_with fail;go_ret2;exact⟨rfl,am.out,aq.out⟩
theorem ξR(b:Nat)(m nw la n:Int)(br g:Bool)(s t l q:Int)(st:Bool)(a:Option Addr)(k c:Nat)(w:World)(h:ξ5 w b m nw la br) :
 Calls prog 33 #[.pointer (some ⟨b,0,none⟩),.agg #[.int .i64 n,.bool g,.int .i64 s,.int .i64 t,.int .i64 l,.int .i64 q,.bool st,.slice a k c]] w λe w'=>e=.returned (.tuple #[.bool (tkx m nw la n br g (fault s t l q k) l st),A0a (tkf la n g (fault s t l q k))])/\ξ5 w' b m (tkN m nw la n br g (fault s t l q k) l st) (tkL la n g (fault s t l q k)) (tkB m nw la n br g (fault s t l q k) l st)/\Only [b] w w':=by
 by_cases hf:tkf la n g (fault s t l q k)=0
 ·cases g with
  | true=>
    obtain⟨e0,e1,e2,e3⟩:=ξ8h (m:=m) (nw:=nw) (br:=br) (l:=l) (st:=st) hf;rw[e0,e1,e2,e3,hf,ξ4];exact ξ3k b m nw la n br s t l q st a k c w h hf
  | false=>
    obtain⟨e0,e1,e2,e3⟩:=ξ8g (m:=m) (nw:=nw) (br:=br) (l:=l) (st:=st) hf;rw[e0,e1,e2,e3,hf,ξ4];obtain⟨_,_,z,_,_,_,hz,_⟩:=ξs ((ξ6q hf).2.2.2 rfl);exact ξaB b m nw la n br s t l q st a k c w h hf (by omega)
 ·obtain⟨e0,e1,e2,e3⟩:=ξfQ (m:=m) (nw:=nw) (br:=br) (l:=l) (st:=st) hf;rw[e0,e1,e2,e3];refine(ξcz b m nw la n br g s t l q st a k c w h hf).mono ?_;rintro e w' ⟨rfl,hb⟩;exact⟨rfl,h.below hb,Only.of_below hb _⟩
end Go.Proofs.YtpiamlgmadnepaaGreat.Layer
namespace Go.Proofs.YtpiamlgmadnepaaGreat.Out
open ChangeShapes WideShapes ChangeAt RowKit PM Mem Pack UM
variable {W w W':World}{g b k r:Nat}{bs:List Nat}{s t l q S T ly ow:Int}{st:Bool}{bv:Value}{p:Addr}
theorem A8j{z0 z1 z2 z3 z4 z5:Value}(hh:W.heap[g]?=some (.cells #[z0,z1,z2,z3,z4,z5] 38 (0,0)))(s t l v:Int)(st:Bool)(bv:Value) :
 Box ((((((W.setCell ⟨g,0,none⟩ (.int .i64 s)).setCell ⟨g,1,none⟩ (.int .i64 t)).setCell ⟨g,2,none⟩ (.int .i64 l)).setCell ⟨g,3,none⟩ (.int .i64 v)).setCell ⟨g,4,none⟩ (.bool st)).setCell ⟨g,5,none⟩ bv) g s t l v st bv:=by
 have h0:=heap_setCell_same _ _ 0 _ _ (.int .i64 s) hh;have h1:=heap_setCell_same _ _ 1 _ _ (.int .i64 t) h0;have h2:=heap_setCell_same _ _ 2 _ _ (.int .i64 l) h1;have h3:=heap_setCell_same _ _ 3 _ _ (.int .i64 v) h2;have h4:=heap_setCell_same _ _ 4 _ _ (.bool st) h3;have h5:=heap_setCell_same _ _ 5 _ _ bv h4;exact h5
theorem A6a(h:Only bs w W)(hg:g∈bs)(v0 v1 v2 v3 v4 v5:Value) :
 Only bs w ((((((W.setCell ⟨g,0,none⟩ v0).setCell ⟨g,1,none⟩ v1).setCell ⟨g,2,none⟩ v2).setCell ⟨g,3,none⟩ v3).setCell ⟨g,4,none⟩ v4).setCell ⟨g,5,none⟩ v5):=
 (((((h.setCell hg _).setCell hg _).setCell hg _).setCell hg _).setCell hg _).setCell hg _
theorem A95(h:Box w g s t l q st bv)(x:Int):Box (w.setCell ⟨g,0,none⟩ (.int .i64 x)) g x t l q st bv:=heap_setCell_same w g 0 _ _ _ h
theorem A97(h:Box w g s t l q st bv)(x:Int):Box (w.setCell ⟨g,1,none⟩ (.int .i64 x)) g s x l q st bv:=heap_setCell_same w g 1 _ _ _ h
theorem A98(h:Box w g s t l q st bv)(x:Value):Box (w.setCell ⟨g,5,none⟩ x) g s t l q st x:=heap_setCell_same w g 5 _ _ _ h
theorem A11(h:Box w g s t l q st bv)(hp:g≠p.block)(u:Value):Box (w.setCell p u) g s t l q st bv:=(Below.heap_setCell _ _ _ _ hp).trans h
theorem A24(h:Box w g s t l q st bv)(j:Nat):w.frozen? ⟨g,j,none⟩=false:=by
 simp only[Box]at h;simp[World.frozen?,h]
theorem A2n(h:A0p w b S k T ly ow)(hp:b≠p.block)(u:Value):A0p (w.setCell p u) b S k T ly ow:=(Below.heap_setCell _ _ _ _ hp).trans h
structure NSt(w W:World)(b g r:Nat)(S:Int)(k:Nat)(T ly ow s t l q:Int)(st:Bool)(bv:Value):Prop where
 out:A0p W b S k T ly ow
 box:Box W g s t l q st bv
 res:Box W r 0 0 0 0 false (.slice none 0 0)
 only:Only [b] w W
 hb:b<w.heap.size
 hg:w.heap.size<=g
 hr:w.heap.size<=r
 ne:g≠r
theorem NSt.start(h:A0p w b S k T ly ow)(s t l q:Int)(st:Bool)(bv:Value) :
 NSt w ((w.alloc (.cells #[.int .i64 s,.int .i64 t,.int .i64 l,.int .i64 q,.bool st,bv] 38)).alloc (.cells #[.int .i64 0,.int .i64 0,.int .i64 0,.int .i64 0,.bool false,.slice none 0 0] 38)) b w.heap.size (w.heap.size+1) S k T ly ow s t l q st bv:=by
 refine⟨(h.alloc _).alloc _,(Box.new w s t l q st bv).alloc _,?_,((Only.refl _ _).alloc _).alloc _,h.lt,Ξo _,Nat.le_succ _,by omega⟩;have:=Box.new (w.alloc (.cells #[.int .i64 s,.int .i64 t,.int .i64 l,.int .i64 q,.bool st,bv] 38)) 0 0 0 0 false (.slice none 0 0);simpa using this
theorem NSt.below(h:NSt w W b g r S k T ly ow s t l q st bv)(hb:Below W.heap.size W W'):NSt w W' b g r S k T ly ow s t l q st bv:=
 ⟨h.out.below hb,h.box.below hb h.box.lt,h.res.below hb h.res.lt,h.only.trans (Only.of_below hb _),h.hb,h.hg,h.hr,h.ne⟩
theorem NSt.ds(h:NSt w W b g r S k T ly ow s t l q st bv):¬b=g/\¬g=b/\¬b=r/\¬r=b/\¬g=r/\¬r=g:=by
 obtain⟨_,_,_,_,h1,h2,h3,h4⟩:=h;omega
theorem NSt.A52(h:NSt w W b g r S k T ly ow s t l q st bv)(x:Int):NSt w (W.setCell ⟨b,2,none⟩ (.int .i64 x)) b g r S k x ly ow s t l q st bv:=
 ⟨h.out.A52 x,A11 h.box h.ds.2.1 _,A11 h.res h.ds.2.2.2.1 _,h.only.setCell (by simp) _,h.hb,h.hg,h.hr,h.ne⟩
theorem NSt.A5f(h:NSt w W b g r S k T ly ow s t l q st bv)(x:Int):NSt w (W.setCell ⟨b,3,none⟩ (.int .i64 x)) b g r S k T x ow s t l q st bv:=
 ⟨h.out.A5f x,A11 h.box h.ds.2.1 _,A11 h.res h.ds.2.2.2.1 _,h.only.setCell (by simp) _,h.hb,h.hg,h.hr,h.ne⟩
theorem NSt.setO(h:NSt w W b g r S k T ly ow s t l q st bv)(x:Int):NSt w (W.setCell ⟨b,4,none⟩ (.int .i64 x)) b g r S k T ly x s t l q st bv:=
 ⟨h.out.setO x,A11 h.box h.ds.2.1 _,A11 h.res h.ds.2.2.2.1 _,h.only.setCell (by simp) _,h.hb,h.hg,h.hr,h.ne⟩
theorem NSt.setK(h:NSt w W b g r S k T ly ow s t l q st bv):NSt w (W.setCell ⟨b,1,none⟩ (.int .i64 ((k:Int)+1))) b g r S (k+1) T ly ow s t l q st bv:=
 ⟨h.out.setK,A11 h.box h.ds.2.1 _,A11 h.res h.ds.2.2.2.1 _,h.only.setCell (by simp) _,h.hb,h.hg,h.hr,h.ne⟩
theorem ξ19(h:Only bs w W)(hg:w.heap.size<=g)(j:Nat)(u:Value):Only bs w (W.setCell ⟨g,j,none⟩ u):=
 ⟨h.1,h.2.1,h.2.2.1,by simp[World.setCell];exact h.2.2.2.1,λk hk hn=>(Below.heap_setCell _ _ _ _ (by show k≠g;omega)).trans (h.2.2.2.2 k hk hn)⟩
theorem NSt.set0(h:NSt w W b g r S k T ly ow s t l q st bv)(x:Int):NSt w (W.setCell ⟨g,0,none⟩ (.int .i64 x)) b g r S k T ly ow x t l q st bv:=
 ⟨A2n h.out h.ds.1 _,A95 h.box x,A11 h.res h.ds.2.2.2.2.2 _,ξ19 h.only h.hg _ _,h.hb,h.hg,h.hr,h.ne⟩
theorem NSt.set1(h:NSt w W b g r S k T ly ow s t l q st bv)(x:Int):NSt w (W.setCell ⟨g,1,none⟩ (.int .i64 x)) b g r S k T ly ow s x l q st bv:=
 ⟨A2n h.out h.ds.1 _,A97 h.box x,A11 h.res h.ds.2.2.2.2.2 _,ξ19 h.only h.hg _ _,h.hb,h.hg,h.hr,h.ne⟩
theorem NSt.A6r(h:NSt w W b g r S k T ly ow s t l q st bv)(x:Value):NSt w (W.setCell ⟨g,5,none⟩ x) b g r S k T ly ow s t l q st x:=
 ⟨A2n h.out h.ds.1 _,A98 h.box x,A11 h.res h.ds.2.2.2.2.2 _,ξ19 h.only h.hg _ _,h.hb,h.hg,h.hr,h.ne⟩
theorem NSt.grown(h:NSt w W b g r S k T ly ow s t l q st bv)(hg:W.grownBy W' none):NSt w W' b g r S k T ly ow s t l q st bv:=
 h.below ((Ξp _ _).grown hg (Ξo _) (by simp))
theorem ξ8A(b:Nat)(S:Int)(k:Nat)(T ly ow:Int)(s t l q:Int)(st:Bool)(a:Option Addr)(n cap:Nat)(L:List Nat)(w:World)(h:A0p w b S k T ly ow)(hI:UM.Inv S k T ow)(hk:k<2199023255552)(hf:fault s t l q n=0)(hA:Arg w a n L)(hN:a=none->n=0/\cap=0) :
 Calls prog 34 #[.pointer (some ⟨b,0,none⟩),.agg #[.int .i64 s,.int .i64 t,.int .i64 l,.int .i64 q,.bool st,.slice a n cap]] w λe w'=>∃a' c',e=.returned (.tuple #[.agg #[.int .i64 (sq S k),.int .i64 (nt k T ly ow l t),.int .i64 l,.int .i64 q,.bool st,.slice a' n c'],.nilIface]) /\
  A0p w' b S (k+1) (nt k T ly ow l t) l t/\Arg w' a' n L/\(a'=none->n=0/\c'=0)/\Only [b] w w'/\∀ad,a'=some ad->w.heap.size<=ad.block:=by
 have HC:Hid (∀W,Calls prog 59 #[.agg #[.int .i64 s,.int .i64 t,.int .i64 l,.int .i64 q,.bool st,.slice a n cap]] W λe w'=>e=.returned .nilIface/\Below W.heap.size W w'):=ξ0 (λW=>by have:=Pack.ξa s t l q st a n cap W;rw[hf,ξ4]at this;exact this);have ht:0<=t/\t<=4294967295/\n<=1000:=by obtain⟨_,t',_,_,_,ht,_,_,_,aJ,_,_,hn⟩:=ξs hf;omega
 obtain⟨aQ,aJ,hn⟩:=ht;have HT:Hid (∀W,A0p W b S k T ly ow->Calls prog 81 #[.pointer (some ⟨b,0,none⟩),.agg #[.int .i64 s,.int .i64 t,.int .i64 l,.int .i64 q,.bool st,.slice a n cap]] W λe w'=>e=.returned (.int .i64 (nt k T ly ow l t))/\Below W.heap.size W w'):=ξ0 (λW hW=>ξ6t b S k T ly ow s t l q st _ W hW hI aQ aJ);obtain⟨i0,aS,aT,aU,aV⟩:=info_parts info5;have hl:∀x∈L,x<256:=hA.1.1;have HA:=ξ0 hA;have HO:=ξ0 h;have HN:=ξ0 hN;have HL:=ξ0 hl;have HS:=ξ0 (NSt.start h s t l q st (.slice a n cap));obtain⟨y1,y2,_,_,_,_,_⟩:=hI;generalize nt k T ly ow l t=T' at *;have HQ:Hid ((S+(k:Int))%65536=sq S k):=ξ0 rfl;generalize sq S k=Q at *;clear h hf hA hN hl;go_enter func34,ntmps34;go_wp2_with fail
 refine(HC.out _).mono ?_;rintro e w2 ⟨rfl,hb⟩;have aq:=ξ0 (HS.out.below hb);clear hb HS HC;obtain⟨x0,x1,x2,x3,x4,x5⟩:=aq.out.box.cells;obtain⟨n1,n2,n3,n4,n5,n6⟩:=aq.out.ds;go_wp2_with fail;refine(HT.out _ aq.out.out).mono ?_;rintro e w3 ⟨rfl,hb⟩;have az:=ξ0 (aq.out.below hb);clear hb aq HT x0 x1 x2 x3 x4 x5;obtain⟨c0,c1,c2,c3,c4⟩:=az.out.out.cells;have f2:=az.out.out.free 2;clear c0 c1 c3 c4;go_upto_region 5 with fail;obtain⟨w4,aE⟩:=nm (w3.setCell ⟨b,2,none⟩ (.int .i64 T'));have am:Hid (NSt w w4 b w.heap.size (w.heap.size+1) S k T' ly ow s t l q st (.slice a n cap)):=by rw[<-aE];exact az.out.A52 T'
 rw[aE];clear aE az c2 f2;obtain⟨x0,x1,x2,x3,x4,x5⟩:=am.out.box.cells;obtain⟨c0,c1,c2,c3,c4⟩:=am.out.out.cells;have f3:=am.out.out.free 3;have f4:=am.out.out.free 4;clear x0 x3 x4 x5 c0 c1 c2;go_region;obtain⟨w5,aF⟩:=nm (((w4.setCell ⟨b,3,none⟩ (.int .i64 l)).setCell ⟨b,4,none⟩ (.int .i64 t)).drew);have au:Hid (NSt w w5 b w.heap.size (w.heap.size+1) S k T' l t s t l q st (.slice a n cap)):=by rw[<-aF];exact((am.out.A5f l).setO t).below (below_drewN (Ξp _ _) 1)
 rw[aF];clear aF am x1 x2 c3 c4 f3 f4;obtain⟨x0,x1,x2,x3,x4,x5⟩:=au.out.box.cells;obtain⟨c0,c1,c2,c3,c4⟩:=au.out.out.cells;have f0:=A24 au.out.box 0;clear x1 x2 x3 x4 x5 c2 c3 c4;go_wp2_with fail;go_region
 obtain⟨w6,aG⟩:=nm ((w5.setCell ⟨w.heap.size,0,none⟩ (.int .i64 (bits .and .i64 (S+(k:Int)) 65535))).drew);have aw:Hid (NSt w w6 b w.heap.size (w.heap.size+1) S k T' l t Q t l q st (.slice a n cap)):=by
  rw[<-aG,ξ3I,HQ.out];exact(au.out.set0 Q).below (below_drewN (Ξp _ _) 1)
 rw[aG];clear aG au x0 c0 c1 f0;obtain⟨x0,x1,x2,x3,x4,x5⟩:=aw.out.box.cells;obtain⟨c0,c1,c2,c3,c4⟩:=aw.out.out.cells;have f1:=A24 aw.out.box 1;clear x0 x2 x3 x4 x5 c0 c1 c3 c4;go_upto_region 8 with fail;obtain⟨w7,aH⟩:=nm (w6.setCell ⟨w.heap.size,1,none⟩ (.int .i64 T'));have ax:Hid (NSt w w7 b w.heap.size (w.heap.size+1) S k T' l t Q T' l q st (.slice a n cap)):=by rw[<-aH];exact aw.out.set1 T'
 rw[aH];clear aH aw x1 c2 f1;obtain⟨x0,x1,x2,x3,x4,x5⟩:=ax.out.box.cells;clear x0 x1 x2 x3 x4;go_wp2_with (at_builtin;refine ξ1N rfl _ _ 36 rfl w7.heap.size 5 i0 (.int .u8 0) 1 1 underlying36 aS aT aU aV rfl (by decide) _ 0 [] rfl (Ξr _ _ _ _) a n cap (cellsOf L) rfl ?al HN.out ?ac (cells_one L) ?b1 ?b2 ?b3 ?next)
 case al=>rw[ξw,HA.out.2.1];omega
 case ac=>exact ξz (HO.out.arg ax.out.only HA.out).1
 case b1=>unfold maxLen;omega
 case b2=>omega
 case b3=>exact Ξo _
 case next=>
  intro v1 w8 aj ai;have aA:=ξ0 (ax.out.grown ai);have aL:=ξ0 (show w.heap.size+1<w7.heap.size from ax.out.res.lt);obtain⟨a',c',rfl,_,aM,_,ay⟩:=ξy (L:=L) aj HL.out (by omega);have HW:Hid (w8.ownsRow w7.heap.size 5 1 (.slice a' n c') n (cellsOf L)):=ξ0 (by simpa using aj);have HF:=ξ0 ay;have aW:=ξ0 aM;clear aj ai ay aM ax x5;obtain⟨x0,x1,x2,x3,x4,x5⟩:=aA.out.box.cells;have f5:=A24 aA.out.box 5;clear x0 x1 x2 x3 x4;go_upto_region 9 with fail;obtain⟨w9,aC⟩:=nm (w8.setCell ⟨w.heap.size,5,none⟩ (.slice a' n c'));have aD:Hid (NSt w w9 b w.heap.size (w.heap.size+1) S k T' l t Q T' l q st (.slice a' n c')):=by rw[<-aC];exact aA.out.A6r _
  have aO:Hid (Only [b,w.heap.size,w.heap.size+1] w8 w9):=by rw[<-aC];exact(Only.refl _ _).setCell (by simp) _
  rw[aC];clear aC aA x5 f5;obtain⟨c0,c1,c2,c3,c4⟩:=aD.out.out.cells;have f1:=aD.out.out.free 1;clear c0 c2 c3 c4;go_upto_region 10 with fail;obtain⟨aP,ah⟩:=nm (w9.setCell ⟨b,1,none⟩ (.int .i64 ((k:Int)+1)));have ae:Hid (NSt w aP b w.heap.size (w.heap.size+1) S (k+1) T' l t Q T' l q st (.slice a' n c')):=by rw[<-ah];exact aD.out.setK
  have aI:Hid (Only [b,w.heap.size,w.heap.size+1] w8 aP):=by rw[<-ah];exact aO.out.setCell (by simp) _
  rw[ah];clear ah aD aO c1 f1;obtain⟨x0,x1,x2,x3,x4,x5⟩:=ae.out.box.cells;obtain⟨z0,z1,z2,z3,z4,z5⟩:=ae.out.res.cells;have f0:=A24 ae.out.res 0;have f1:=A24 ae.out.res 1;have f2:=A24 ae.out.res 2;have f3:=A24 ae.out.res 3;have f4:=A24 ae.out.res 4;have f5:=A24 ae.out.res 5;go_wp2_with fail
  have ho:Only [b,w.heap.size,w.heap.size+1] w8 _:=A6a (g:=w.heap.size+1) aI.out (by simp) (.int .i64 Q) (.int .i64 T') (.int .i64 l) (.int .i64 q) (.bool st) (.slice a' n c');have aX:Only [b] w _:=ξ19 (g:=w.heap.size+1) (ξ19 (g:=w.heap.size+1) (ξ19 (g:=w.heap.size+1) (ξ19 (g:=w.heap.size+1) (ξ19 (g:=w.heap.size+1) (ξ19 (g:=w.heap.size+1) ae.out.only (by omega) 0 (.int .i64 Q)) (by omega) 1 (.int .i64 T')) (by omega) 2 (.int .i64 l)) (by omega) 3 (.int .i64 q)) (by omega) 4 (.bool st)) (by omega) 5 (.slice a' n c');have hu:A0p _ b S (k+1) T' l t:=A2n (A2n (A2n (A2n (A2n (A2n ae.out.out (p:=⟨w.heap.size+1,0,none⟩) n3 (.int .i64 Q)) (p:=⟨w.heap.size+1,1,none⟩) n3 (.int .i64 T')) (p:=⟨w.heap.size+1,2,none⟩) n3 (.int .i64 l)) (p:=⟨w.heap.size+1,3,none⟩) n3 (.int .i64 q)) (p:=⟨w.heap.size+1,4,none⟩) n3 (.bool st)) (p:=⟨w.heap.size+1,5,none⟩) n3 (.slice a' n c');refine bodyPost_ret (ξ4y (g:=w.heap.size+1) rfl rfl (A8j ae.out.res Q T' l q st (.slice a' n c'))) rfl ?_;have hW:=ho.owns HW.out (by
   intro j hj hc;cases a' with
   | none=>simp[Value.ownBlock]at hj
   | some ad=>
     obtain⟨g,rfl,hg⟩:=HF.out ad rfl;simp[Value.ownBlock]at hj;have:=aL.out;have:=ae.out.hb;simp at hc;omega)
  obtain⟨a2,c2,e2,aY,_⟩:=ξy hW HL.out (by omega);simp only[Value.slice.injEq]at e2;obtain⟨rfl,_,rfl⟩:=e2;refine⟨a',c',rfl,hu,aY,aW.out,aX,λad e=>?_⟩;obtain⟨g,rfl,hg⟩:=HF.out ad e;have:=aL.out;simp only;omega
end Go.Proofs.YtpiamlgmadnepaaGreat.Out
