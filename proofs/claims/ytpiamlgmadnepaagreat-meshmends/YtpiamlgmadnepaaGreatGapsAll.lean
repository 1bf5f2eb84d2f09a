/-
 GapsB, GapsC, GapsD, GapsE in one text.
-/
import Derived.Test.YtpiamlgmadnepaaGreatGapsAP
import Derived.RegionTactic
import Derived.Deep.AppendLies
import Derived.Deep.CutRange
open Go.Proofs.Tryz
set_option linter.unusedVariables false
set_option maxHeartbeats 4000000
set_option maxRecDepth 100000
namespace Go.Proofs.YtpiamlgmadnepaaGreat.Gaps
open Go.ChangeShapes Go.WideShapes Go.ChangeAt Go.RowKit Go.Maps Go.Sort Go.Shelf Mem GM
theorem ξ7.turned {w w':World} {b mb:Nat} {ag tr nw T:Int} {M M':Its} {gv:Value} {G:List Int} (h:ξ7 w b mb ag tr nw T M gv G) (ho:Only [mb] w w') (hm:∃ D,w'.ownsMap prog 3 akR mb M'.length D/\Keys D M'/\Elems D M'):ξ7 w' b mb ag tr nw T M' gv G:=by
 have hne:=h.ne
 exact ⟨ho.block h.box (by simp;exact hne.1),hm,ho.owns h.row (fun k hk=>by simp;exact (hne.2 k hk).2)⟩
theorem ξ37 {w:World} {b mb:Nat} {ag tr nw T:Int} {M:Its} {gv:Value} {G:List Int} (h:ξ7 w b mb ag tr nw T M gv G) (x:Lk) (hx:∀ i∈M,i.n≠x.n) (hw:(Lit.int .i64 x.n).wf=true) (hl:M.length<=1000) :
 ∃ w2,(Instr.mapUpdate 121 (.map (some mb)) (.int .i64 x.n) (.agg #[.int .i64 x.t,.int .i64 x.a])).run prog w=.ok () w2/\ξ7 w2 b mb ag tr nw T (M++[x]) gv G/\Only [mb] w w2:=by
 obtain ⟨D,hown,hK,hE⟩:=h.map;obtain ⟨w2,hrun,hown2,hturn⟩:=hown.store law3 underlying121 (by unfold maxLen;omega) (keyOf3 hw) (ξ2K x.t x.a)
 have ho:Only [mb] w w2:=(Only.refl _ _).grown hturn.grown (by simp)
 refine ⟨w2,hrun,h.turned ho ⟨_,?_,ξ1y hown.isMap hK x _,ξ1Z hown.isMap hE hx⟩,ho⟩
 simpa [lv] using hown2
theorem ξ5c {w:World} {b mb:Nat} {ag tr nw T:Int} {A B:Its} {gv:Value} {G:List Int} {x:Lk} (h:ξ7 w b mb ag tr nw T (A++x::B) gv G) (y:Lk) (hy:y.n=x.n) (hr:Ris (A++x::B)) (hr2:Ris (A++y::B)) (hw:(Lit.int .i64 x.n).wf=true) (hl:(A++x::B).length<=1000) :
 ∃ w2,(Instr.mapUpdate 121 (.map (some mb)) (.int .i64 x.n) (.agg #[.int .i64 y.t,.int .i64 y.a])).run prog w=.ok () w2/\ξ7 w2 b mb ag tr nw T (A++y::B) gv G/\Only [mb] w w2:=by
 obtain ⟨D,hown,hK,hE⟩:=h.map;obtain ⟨w2,hrun,hown2,hturn⟩:=hown.store law3 underlying121 (by unfold maxLen;omega) (keyOf3 hw) (ξ2K y.t y.a)
 have ho:Only [mb] w w2:=(Only.refl _ _).grown hturn.grown (by simp)
 have hK2:=ξcA hown.isMap hK hy (.held (.agg #[.int .i64 y.t,.int .i64 y.a]))
 refine ⟨w2,hrun,h.turned ho ⟨_,?_,hK2,ξbk hown.isMap hE hy (ξ5L hr)⟩,ho⟩
 have ht:=GM.tight hown2
 rw [hK2.size (hown2.entries law3) hr2.apart] at ht;exact ht
theorem ξ8n {w w2:World} {b mb n:Nat} {ag tr nw T:Int} {A B:Its} {gv:Value} {G:List Int} {x:Lk} {D:DataW Value} (h:ξ7 w b mb ag tr nw T (A++x::B) gv G) (hK:Keys D (A++x::B)) (hE:Elems D (A++x::B)) (hr:Ris (A++x::B)) (hown:w2.ownsMap prog 3 akR mb n (D.del (key x.n))) (ho:Only [mb] w w2):ξ7 w2 b mb ag tr nw T (A++B) gv G:=by
 have ha:=ξ5L hr
 have hK2:=ξcB hK ha
 refine h.turned ho ⟨_,?_,hK2,ξbl hE ha⟩
 have ht:=GM.tight hown
 have hr2:Ris (A++B):=by
  unfold Ris at hr ⊢;rw [List.pairwise_append,List.pairwise_cons] at hr;rw [List.pairwise_append];exact ⟨hr.1,hr.2.1.2,fun a h1 c h2=>hr.2.2 a h1 c (by simp [h2])⟩
 rw [hK2.size (hown.entries law3) hr2.apart] at ht;exact ht
theorem ξ3I {w w2:World} {b mb n:Nat} {ag tr nw T y:Int} {M:Its} {gv:Value} {G:List Int} {D:DataW Value} (h:ξ7 w b mb ag tr nw T M gv G) (hK:Keys D M) (hE:Elems D M) (hr:Ris M) (hown:w2.ownsMap prog 3 akR mb n (D.del (key y))) (ho:Only [mb] w w2):ξ7 w2 b mb ag tr nw T (M.filter fun i=>decide (i.n≠y)) gv G:=by
 have hK2:=ξ2t hK y
 refine h.turned ho ⟨_,?_,hK2,ξ2d hE y⟩
 have ht:=GM.tight hown
 have hr2:Ris (M.filter fun i=>decide (i.n≠y)):=hr.filter _
 rw [hK2.size (hown.entries law3) hr2.apart] at ht;exact ht
def RSt (w wr:World) (b mb:Nat) (ag tr nw T:Int) (M:Its) (gv:Value) (G:List Int) (k:Nat):Prop:=ξ7 wr b mb ag tr nw T (M++fresh T k) gv G/\Only [b,mb] w wr
theorem ξc9 {w wr:World} {b mb k:Nat} {ag tr nw T:Int} {M:Its} {gv:Value} {G:List Int} (h:RSt w wr b mb ag tr nw T M gv G k) (hm:∀ x∈M,x.n<=T) (h0:-1<=T) (h1:T<=1099511627776) (hl:M.length+k<=1000) :
 ∃ w2,(Instr.mapUpdate 121 (.map (some mb)) (.int .i64 (T+1+(k:Int))) (.agg #[.int .i64 0,.int .i64 0])).run prog wr=.ok () w2/\RSt w w2 b mb ag tr nw T M gv G (k+1):=by
 obtain ⟨g1,g2⟩:=h;obtain ⟨w2,hrun,hg,ho⟩:=ξ37 g1 ⟨T+1+(k:Int),0,0⟩ (by
  intro i hi;rcases Ξe.1 hi with hi | hi
  ·have:=hm i hi;simp only;omega
  ·obtain ⟨j,hj,rfl⟩:=ξ1g.1 hi;simp only
   omega) (ξL (by simp only;omega) (by simp only;omega)) (by rw [Ξh,ξ5B];omega)
 refine ⟨w2,hrun,?_,g2.trans (ho.mono (by simp))⟩
 rw [ξ9o,<- List.append_assoc];exact hg
theorem ξ2N (b mb:Nat) (ag tr nw T y:Int) (M:Its) (gv:Value) (G:List Int) (w:World) (h:ξ7 w b mb ag tr nw T M gv G) (hm:∀ x∈M,x.n<=T) (h0:-1<=T) (h1:T<=1099511627776) (h2:0<=y) (h3:y<=1099511627776) (hl:(M.length:Int)+lo T y<=200) :
 Calls prog 68 #[.pointer (some ⟨b,0,none⟩),.int .i64 y] w fun e w'=>e=.returned (.tuple #[])/\ξ7 w' b mb ag tr nw y (M++fresh T (lo T y).toNat) gv G/\Only [b,mb] w w':=by
 have HC:=ξ0 (fun w h=>ξ1v b T y w h h0 h1 h2 h3)
 have hlo:=@ξ62 T y
 obtain ⟨K,hK⟩:∃ K:Nat,lo T y=(K:Int):=⟨(lo T y).toNat,by omega⟩
 rw [hK] at HC hl ⊢;rw [Int.toNat_natCast];clear hK hlo;have HS0:Hid (RSt w w b mb ag tr nw T M gv G 0):=⟨by simpa [fresh] using h,Only.refl _ _⟩
 have HM:=ξ0 hm
 have c3:=h.cells.2.2.2.1
 clear h hm;go_enter func68,ntmps68
 go_wp2_with fail
 refine (HC.out _ (by exact c3)).mono ?_
 rintro e w1 ⟨rfl,rfl⟩;clear c3;go_wp2_with fail
 go_loopg [4,8] K (fun g _ i' wr=>∃ (k:Nat),k+g=K/\i'=.int .i64 (k:Int)/\Hid (RSt w1 wr b mb ag tr nw T M gv G k))
 case atStart=>exact ⟨0,by omega,rfl,HS0⟩
 case round=>
  obtain ⟨k,hkg,rfl,HS⟩:=hrel;clear HS0;obtain ⟨c0,c1,c2,c3,c4,c5⟩:=HS.out.1.cells;have f3:=free6 HS.out.1.box 3
  clear c0 c1 c2 c5;by_cases hk:k<K
  ·have hkz:(k:Int)<(K:Int):=by omega
   have HSd:Hid (RSt w1 wr.drew b mb ag tr nw T M gv G k):=⟨HS.out.1.below (Ξp _ _).drew,HS.out.2.drew⟩
   obtain ⟨w2,hrun,hst⟩:=ξc9 HSd.out HM.out h0 h1 (by omega)
   have HS2:=ξ0 hst
   clear hst HSd HS;go_wp2_with fail
   go_region
   all_goals go_wp2_with fail
   go_roundg (K - (k+1))
   case measure=>omega
   case rel=>exact ⟨k+1,by omega,by go_num,HS2⟩
  ·have hkz:¬ (k:Int)<(K:Int):=by omega
   obtain rfl:k=K:=by omega
   go_wp2_with fail
   go_end0
   exact ⟨rfl,HS.out.1.set 3 _ rfl,HS.out.2.setCell (by simp) _⟩
theorem ξ6U (b mb:Nat) (ag tr nw T:Int) (M:Its) (gv:Value) (G:List Int) (w:World) (h:ξ7 w b mb ag tr nw T M gv G) (hl:G.length<=1000000) :
 Calls prog 30 #[.pointer (some ⟨b,0,none⟩)] w fun e w'=>e=.returned gv/\ξ7 w' b mb ag tr nw T M (.slice none 0 0) []/\w'.ownsRow 0 3 1 gv G.length (ic (G.mergeSort fun x y=>decide (x<=y)))/\Only (blks b mb gv) w w':=by
 obtain ⟨c0,c1,c2,c3,c4,c5⟩:=h.cells;have f5:=free6 h.box 5
 have hne:=h.ne
 have HG:Hid (ξ7 (w.setCell ⟨b,5,none⟩ (.slice none 0 0)) b mb ag tr nw T M (.slice none 0 0) []):=by
  have ho:Only [b] w (w.setCell ⟨b,5,none⟩ (.slice none 0 0)):=(Only.refl _ _).setCell (by simp) _
  refine ⟨setb h.box 5 _,?_,Ξr _ _ _ _⟩
  obtain ⟨D,⟨es,clock,h4,h5⟩,h6⟩:=h.map;exact ⟨D,⟨es,clock,ho.block h4 (by simp;exact fun e=>hne.1 e.symm),h5⟩,h6⟩
 have HO:Hid ((w.setCell ⟨b,5,none⟩ (.slice none 0 0)).ownsRow 0 3 1 gv G.length (ic G)):=
  ((Only.refl [b] w).setCell (p:=⟨b,5,none⟩) (by simp) _).owns h.row (fun k hk=>by simp;exact (hne.2 k hk).1)
 have HN:=ξ0 hne
 obtain ⟨a,cap,rfl,_⟩:=ξo h.row (by omega)
 clear h hne c0 c1 c2 c3 c4;go_enter func30,ntmps30
 go_wp2_with fail
 refine (ξ1G _ 0 G.length G _ HO.out (by omega)).mono ?_
 rintro e w1 ⟨rfl,hrow,hgrow⟩;have HR:=ξ0 hrow
 have HGr:=ξ0 hgrow
 clear hrow hgrow;go_wp2_with fail
 go_ret
 refine ⟨rfl,HG.out.only ((Only.refl (Value.slice a G.length cap).ownBlock.toList _).grown HGr.out (by simp)) ?_,HR.out,(((Only.refl _ w).setCell (p:=⟨b,5,none⟩) (by simp [blks]) _).grown HGr.out (by intro k hk;simp [blks,hk]))⟩
 intro k hk hc;simp only [Option.mem_toList] at hc
 have:=HN.out.2 k hc
 simp [blks,Value.ownBlock] at hk
 omega
theorem ξ4J (nw now:Int) (w:World) (h:tf nw now≠0) :
 Calls prog 66 #[.agg #[.int .i64 nw],.int .i64 now] w fun e w'=>e=.returned (.tuple #[.agg #[.int .i64 0],errv (tf nw now)])/\Below w.heap.size w w':=by
 have:=ξF nw now w
 rw [if_neg h] at this;exact this
theorem ξ1r (nw now:Int) (w:World) (h:tf nw now=0) :
 Calls prog 66 #[.agg #[.int .i64 nw],.int .i64 now] w fun e w'=>e=.returned (.tuple #[.agg #[.int .i64 now],.nilIface])/\Below w.heap.size w w':=by
 have:=ξF nw now w
 rw [if_pos h,h,ξ4] at this;exact this
theorem ξb5 (b:Nat) (nw y now:Int) (w:World) (h:w.cell? ⟨b,0,none⟩=some (.int .i64 nw)) (ht:tf nw now≠0) :
 Calls prog 27 #[.pointer (some ⟨b,0,none⟩),.int .i64 y,.int .i64 now] w fun e w'=>e=.returned (.tuple #[.bool false,errv (tf nw now)])/\Below w.heap.size w w':=by
 have HC:=ξ0 (fun w=>ξ4J nw now w ht)
 generalize tf nw now=f at *
 have hc:=ξr f
 have hg:=ξq f
 have d:decide (f=0)=false:=by simpa using ht
 clear ht;go_enter func27,ntmps27
 go_wp2_with fail
 refine (HC.out _).mono ?_
 rintro e w1 ⟨rfl,hb1⟩;have HB:=ξ0 hb1
 clear hb1;go_wp2_with fail
 go_ret2
 exact ⟨rfl,HB.out.alloc HB.out.size _⟩
theorem ξ9j (b:Nat) (nw y now:Int) (w:World) (h:w.cell? ⟨b,0,none⟩=some (.int .i64 nw)) (ht:tf nw now=0) (hy:y<0∨1099511627776<y) :
 Calls prog 27 #[.pointer (some ⟨b,0,none⟩),.int .i64 y,.int .i64 now] w fun e w'=>e=.returned (.tuple #[.bool false,errv 1])/\Below w.heap.size w w':=by
 have HC:=ξ0 (fun w=>ξ1r nw now w ht)
 clear ht;by_cases c:y<0
 ·clear hy;go_enter func27,ntmps27
  go_wp2_with fail
  refine (HC.out _).mono ?_
  rintro e w1 ⟨rfl,hb1⟩;have HB:=ξ0 hb1
  clear hb1;go_wp2_with fail
  go_ret2
  exact ⟨rfl,HB.out.alloc HB.out.size _⟩
 ·have c':1099511627776<y:=by omega
  clear hy;go_enter func27,ntmps27
  go_wp2_with fail
  refine (HC.out _).mono ?_
  rintro e w1 ⟨rfl,hb1⟩;have HB:=ξ0 hb1
  clear hb1;go_wp2_with fail
  go_ret2
  exact ⟨rfl,HB.out.alloc HB.out.size _⟩
theorem ξb7 (b mb:Nat) (ag tr nw T y now:Int) (M:Its) (gv:Value) (G:List Int) (w:World) (h:ξ7 w b mb ag tr nw T M gv G) (hI:GM.Inv ag tr nw T M) (ht:tf nw now=0) (h0:0<=y) (h1:y<=1099511627776) (hl:200<(M.length:Int)+lo T y) :
 Calls prog 27 #[.pointer (some ⟨b,0,none⟩),.int .i64 y,.int .i64 now] w fun e w'=>e=.returned (.tuple #[.bool false,errv 4])/\Below w.heap.size w w':=by
 have HC:=ξ0 (fun w=>ξ1r nw now w ht)
 have HL:=ξ0 (fun w h=>ξ1v b T y w h hI.t1 hI.t2 h0 h1)
 have HG:=ξ0 h
 have c0:=h.cells.1
 have hlen:=hI.len
 have hlo:0<=lo T y/\lo T y<=2199023255552:=by
  have:=hI.t1
  have:=hI.t2
  refine ⟨ξ62,?_⟩
  unfold lo;split<;>omega
 have HI:=ξ0 hI
 generalize lo T y=k at *
 obtain ⟨hk0,hk1⟩:=hlo;clear ht h hI;go_enter func27,ntmps27
 go_wp2_with fail
 refine (HC.out _).mono ?_
 rintro e w1 ⟨rfl,hb1⟩;have HB:=ξ0 hb1
 clear hb1 c0;have HG1:Hid (ξ7 (w1.alloc (.cells #[.int .i64 now] 89)) b mb ag tr nw T M gv G):=(HG.out.below HB.out).below ((Ξp _ _).alloc (Ξo _) _)
 obtain ⟨c0,c1,c2,c3,c4,c5⟩:=HG1.out.cells;obtain ⟨D,hown,hK,hE⟩:=HG1.out.map;have hs:Maps.size D=M.length:=hK.size (hown.entries law3) HI.out.ris.apart
 have HO:=ξ0 hown
 have HS:=ξ0 hs
 clear hown hs hK hE;go_wp2_with (at_len;refine wpList_len_own _ rfl _ 121 rfl 3 139 underlying121 _ mb M.length D rfl HO.out ?_;rw [HS.out])
 refine (HL.out _ (by exact c3)).mono ?_
 rintro e w2 ⟨rfl,rfl⟩;go_wp2_with fail
 go_ret2
 exact ⟨rfl,HB.out.alloc HB.out.size _⟩
theorem ξb6 (b mb:Nat) (ag tr nw T y now:Int) (M:Its) (gv:Value) (G:List Int) (w:World) (h:ξ7 w b mb ag tr nw T M gv G) (hI:GM.Inv ag tr nw T M) (ht:tf nw now=0) (h0:0<=y) (h1:y<=1099511627776) (hl:(M.length:Int)+lo T y<=200) (hT:T<y) :
 Calls prog 27 #[.pointer (some ⟨b,0,none⟩),.int .i64 y,.int .i64 now] w fun e w'=>e=.returned (.tuple #[.bool true,.nilIface])/\ξ7 w' b mb ag tr now y (M++fresh T (lo T y).toNat) gv G/\Only [b,mb] w w':=by
 have HC:=ξ0 (fun w=>ξ1r nw now w ht)
 have HL:=ξ0 (fun w h=>ξ1v b T y w h hI.t1 hI.t2 h0 h1)
 have HRi:=ξ0 (fun w h=>ξ2N b mb ag tr now T y M gv G w h (fun x hx=>by have:=hI.mem x hx;omega) hI.t1 hI.t2 h0 h1 hl)
 have HG:=ξ0 h
 have c0:=h.cells.1
 have hlen:=hI.len
 have hlo:0<=lo T y:=ξ62
 have HI:=ξ0 hI
 obtain ⟨M2,hM2⟩:∃ M2,M++fresh T (lo T y).toNat=M2:=⟨_,rfl⟩;rw [hM2] at HRi ⊢;clear hM2;generalize lo T y=k at *
 clear ht h hI;go_enter func27,ntmps27
 go_wp2_with fail
 refine (HC.out _).mono ?_
 rintro e w1 ⟨rfl,hb1⟩;have HB:=ξ0 hb1
 clear hb1 c0;have HG1:Hid (ξ7 (w1.alloc (.cells #[.int .i64 now] 89)) b mb ag tr nw T M gv G):=(HG.out.below HB.out).below ((Ξp _ _).alloc (Ξo _) _)
 obtain ⟨c0,c1,c2,c3,c4,c5⟩:=HG1.out.cells;have f0:=free6 HG1.out.box 0
 obtain ⟨D,hown,hK,hE⟩:=HG1.out.map;have hs:Maps.size D=M.length:=hK.size (hown.entries law3) HI.out.ris.apart
 have HO:=ξ0 hown
 have HS:=ξ0 hs
 clear hown hs hK hE;go_wp2_with (at_len;refine wpList_len_own _ rfl _ 121 rfl 3 139 underlying121 _ mb M.length D rfl HO.out ?_;rw [HS.out])
 refine (HL.out _ (by exact c3)).mono ?_
 rintro e w2 ⟨rfl,rfl⟩;have hbw:b<w1.heap.size:=(HG.out.below HB.out).lt b (by simp [blks])
 have HG2:Hid (ξ7 ((w1.setCell ⟨b,0,none⟩ (.int .i64 now)).alloc (.cells #[.int .i64 now] 89)) b mb ag tr now T M gv G):=((HG.out.below HB.out).set 0 _ rfl).below ((Ξp _ _).alloc (Ξo _) _)
 have k3:=HG2.out.cells.2.2.2.1
 have HO2:Hid (Only [b,mb] w ((w1.setCell ⟨b,0,none⟩ (.int .i64 now)).alloc (.cells #[.int .i64 now] 89))):=((Only.of_below HB.out _).setCell (by simp) _).alloc _
 go_wp2_with fail
 refine (HRi.out _ (by exact HG2.out)).mono ?_
 rintro e w3 ⟨rfl,hg3,ho3⟩;have HG3:=ξ0 hg3
 have HO3:=ξ0 (HO2.out.trans ho3)
 clear hg3 ho3;go_wp2_with fail
 go_ret2
 exact ⟨rfl,HG3.out,HO3.out⟩
theorem ξcM (b mb:Nat) (ag tr nw T y now:Int) (M:Its) (gv:Value) (G:List Int) (w:World) (h:ξ7 w b mb ag tr nw T M gv G) (hI:GM.Inv ag tr nw T M) (ht:tf nw now=0) (h0:0<=y) (h1:y<=1099511627776) (hT:¬ T<y) :
 Calls prog 27 #[.pointer (some ⟨b,0,none⟩),.int .i64 y,.int .i64 now] w fun e w'=>e=.returned (.tuple #[.bool (has M y),.nilIface])/\ξ7 w' b mb ag tr now T (M.filter fun i=>decide (i.n≠y)) gv G/\Only [b,mb] w w':=by
 have HC:=ξ0 (fun w=>ξ1r nw now w ht)
 have hlo:lo T y=0:=by unfold lo;rw [if_pos (.inr (by omega))]
 have hL:=fun w h=>ξ1v b T y w h hI.t1 hI.t2 h0 h1
 rw [hlo] at hL;have HL:=ξ0 hL
 have HG:=ξ0 h
 have c0:=h.cells.1
 have hlen:=hI.len
 have HI:=ξ0 hI
 have hwf:=ξL (y:=y) (by omega) (by omega)
 obtain ⟨hb,hhb⟩:∃ hb,has M y=hb:=⟨_,rfl⟩;rw [hhb];have HHb:=ξ0 hhb
 clear ht h hI hlo hL hhb;go_enter func27,ntmps27
 go_wp2_with fail
 refine (HC.out _).mono ?_
 rintro e w1 ⟨rfl,hb1⟩;have HB:=ξ0 hb1
 clear hb1 c0;have HG1:Hid (ξ7 (w1.alloc (.cells #[.int .i64 now] 89)) b mb ag tr nw T M gv G):=(HG.out.below HB.out).below ((Ξp _ _).alloc (Ξo _) _)
 obtain ⟨c0,c1,c2,c3,c4,c5⟩:=HG1.out.cells;have f0:=free6 HG1.out.box 0
 obtain ⟨D,hown,hK,hE⟩:=HG1.out.map;have hs:Maps.size D=M.length:=hK.size (hown.entries law3) HI.out.ris.apart
 have HO:=ξ0 hown
 have HS:=ξ0 hs
 have HK:=ξ0 hK
 have HE:=ξ0 hE
 clear hown hs hK hE;go_wp2_with (at_len;refine wpList_len_own _ rfl _ 121 rfl 3 139 underlying121 _ mb M.length D rfl HO.out ?_;rw [HS.out])
 refine (HL.out _ (by exact c3)).mono ?_
 rintro e w2 ⟨rfl,rfl⟩;have hbw:b<w1.heap.size:=(HG.out.below HB.out).lt b (by simp [blks])
 have HG2:Hid (ξ7 ((w1.setCell ⟨b,0,none⟩ (.int .i64 now)).alloc (.cells #[.int .i64 now] 89)) b mb ag tr now T M gv G):=((HG.out.below HB.out).set 0 _ rfl).below ((Ξp _ _).alloc (Ξo _) _)
 have HO2:Hid (Only [b,mb] w ((w1.setCell ⟨b,0,none⟩ (.int .i64 now)).alloc (.cells #[.int .i64 now] 89))):=((Only.of_below HB.out _).setCell (by simp) _).alloc _
 have HOw2:Hid (((w1.setCell ⟨b,0,none⟩ (.int .i64 now)).alloc (.cells #[.int .i64 now] 89)).ownsMap prog 3 akR mb M.length D):=by
  have hne:=HG1.out.ne.1
  have ho:Only [b] w1 (w1.setCell ⟨b,0,none⟩ (.int .i64 now)):=(Only.refl _ _).setCell (by simp) _
  obtain ⟨es,clock,h4,h5⟩:=HO.out;have hmb:mb<w1.heap.size:=(HG.out.below HB.out).lt mb (by simp [blks])
  rw [Below.heap_alloc _ _ _ hmb] at h4;exact World.ownsMap.alloc ⟨es,clock,ho.block h4 (by simp;exact fun e=>hne e.symm),h5⟩ _
 obtain ⟨v',ps,hrun,hr⟩:=HOw2.out.look_ok law3 underlying121 (zeroAK _) (ξ2K 0 0) (keyOf3 hwf);obtain ⟨⟨t',a',rfl⟩,_⟩:=ξ3K hr;rw [HK.out.at,HHb.out] at hrun;have HOw3:Hid (∀ O,((((w1.setCell ⟨b,0,none⟩ (.int .i64 now)).alloc (.cells #[.int .i64 now] 89))).alloc O).ownsMap prog 3 akR mb M.length D):=ξ0 (fun O=>HOw2.out.alloc O)
 have HG3:=ξ0 (fun O=>HG2.out.below ((Ξp _ _).alloc (Ξo _) O))
 have k3:=HG2.out.cells.2.2.2.1
 have k40:=HG2.out.cells.2.2.2.2.1
 have k4:=fun O=>(HG3.out O).cells.2.2.2.2.1
 clear hr;go_wp2_with (at_delete;refine wpList_delete_own _ rfl _ _ 121 3 rfl 139 law3 underlying121 _ mb M.length D rfl (HOw3.out _) _ _ rfl (keyOf3 hwf) ?_;intro w4 hown4 hturn4)
 go_wp2_with fail
 go_ret2
 have ho4:=(Only.refl [mb] _).grown hturn4.grown (by simp)
 exact ⟨rfl,ξ3I (HG3.out _) HK.out HE.out HI.out.ris hown4 ho4,(HO2.out.alloc _).trans (ho4.mono (by simp))⟩
theorem ξe4 {w:World} {b mb:Nat} {ag tr nw T:Int} {M:Its} {gv:Value} {G:List Int} (h:ξ7 w b mb ag tr nw T M gv G) {x:Lk} (hx:x∈M) (hw:(Lit.int .i64 x.n).wf=true) :
 (Instr.lookup 121 (.map (some mb)) (.int .i64 x.n) false).run prog w=.ok (.agg #[.int .i64 x.t,.int .i64 x.a]) w:=by
 obtain ⟨D,hown,hK,hE⟩:=h.map;obtain ⟨v',ps,hrun,hr⟩:=hown.lookup law3 underlying121 (zeroAK w) (ξ2K 0 0) (keyOf3 hw);rw [hE x hx] at hr;have e:=(ξ3K hr).2
 simp only [Prod.mk.injEq,DataW.held.injEq] at e
 rw [hrun,<- e.1];rfl
theorem cells2 {w:World} {b:Nat} {v0 v1:Value} {t:TypeId} (h:w.heap[b]?=some (.cells #[v0,v1] t (0,0))):w.cell? ⟨b,0,none⟩=some v0/\w.cell? ⟨b,1,none⟩=some v1:=by
 refine ⟨?_,?_⟩<;>simp [World.cell?,h]
structure DSt (w wr:World) (B b mb:Nat) (ag tr now T:Int) (M:Its) (gv:Value) (G:List Int) (k:Nat) (kv dv gv2:Value):Prop where
 gaps:ξ7 wr b mb ag tr now T (dM ag tr now (M.take k)++M.drop k) gv2 (G++gaveL ag tr now (M.take k))
 keys:wr.ownsRow w.heap.size 3 1 kv M.length (ic (nums M))
 due:wr.ownsRow B 3 1 dv (dueL ag tr now (M.take k)).length (ic (dueL ag tr now (M.take k)))
 kb:∀ j,kv.ownBlock=some j->w.heap.size<=j/\j<B
 gb:∀ j,gv2.ownBlock=some j->(gv.ownBlock=some j/\j<w.heap.size)∨(B<=j/\dv.ownBlock≠some j)
 s1:w.heap.size<=B
 s2:B<=wr.heap.size
 only:Only (blks b mb gv) w wr
 bb:b<w.heap.size
 mm:mb<w.heap.size
theorem DSt.below {w wr wy:World} {B b mb:Nat} {ag tr now T:Int} {M:Its} {gv:Value} {G:List Int} {k:Nat} {kv dv gv2:Value} (h:DSt w wr B b mb ag tr now T M gv G k kv dv gv2) (hb:Below wr.heap.size wr wy):DSt w wy B b mb ag tr now T M gv G k kv dv gv2:=
 { h with gaps:=h.gaps.below hb,keys:=(Only.of_below hb []).owns h.keys (by simp),due:=(Only.of_below hb []).owns h.due (by simp),s2:=Nat.le_trans h.s2 hb.size,only:=h.only.trans (Only.of_below hb _) }
theorem ξS {M:Its} {k:Nat} {x:Lk} (hx:M[k]?=some x):M.take (k+1)=M.take k++[x]/\M.drop k=x::M.drop (k+1):=by
 have hk:k<M.length:=(List.getElem?_eq_some_iff.1 hx).1
 have e:M[k]=x:=(List.getElem?_eq_some_iff.1 hx).2
 refine ⟨?_,?_⟩
 ·rw [List.take_add_one,hx];rfl
 ·rw [List.drop_eq_getElem_cons hk,e]
theorem DSt.stay {w wr:World} {B b mb:Nat} {ag tr now T:Int} {M:Its} {gv:Value} {G:List Int} {k:Nat} {kv dv gv2:Value} {x:Lk} (h:DSt w wr B b mb ag tr now T M gv G k kv dv gv2) (hx:M[k]?=some x) (hs:stays ag now x=true):DSt w wr B b mb ag tr now T M gv G (k+1) kv dv gv2:=by
 obtain ⟨e1,e2⟩:=ξS hx;obtain ⟨o1,o2,o3⟩:=ξ5q (tr:=tr) hs;refine { h with gaps:=?_,due:=?_ }
 ·rw [e1,ξ75,ξ3r,o1,o3,Ξu,List.append_assoc];have:=h.gaps
  rw [e2] at this;exact this
 ·rw [e1,ξ1l,o2,Ξu];exact h.due
theorem ξ26 {ag tr nw T now:Int} {M:Its} (hI:GM.Inv ag tr nw T M) {k:Nat} {x:Lk} (hx:M[k]?=some x):Ris (dM ag tr now (M.take k)++x::M.drop (k+1)):=by
 obtain ⟨e1,e2⟩:=ξS hx;have hr:=hI.ris
 have hM:M=M.take k++M.drop k:=(List.take_append_drop k M).symm
 rw [e2] at hM;rw [hM] at hr;unfold Ris at hr ⊢;rw [List.pairwise_append] at hr ⊢;refine ⟨?_,hr.2.1,?_⟩
 ·unfold dM;rw [List.pairwise_map];exact (hr.1.filter _).imp fun q=>by rw [ξ3i,ξ3i];exact q
 ·intro a ha c hc;obtain ⟨y,hy,rfl⟩:=Ξi.1 ha;rw [ξ3i];exact hr.2.2 y (Ξj.1 hy).1 c hc
theorem ξ6j {A B:Its} {x y:Lk} (h:Ris (A++x::B)) (hy:y.n=x.n):Ris (A++y::B):=by
 unfold Ris at h ⊢;rw [List.pairwise_append,List.pairwise_cons] at h ⊢;refine ⟨h.1,⟨fun a ha=>?_,h.2.1.2⟩,fun a ha c hc=>?_⟩
 ·rw [hy];exact h.2.1.1 a ha
 ·rcases Ξf.1 hc with rfl | hc
  ·rw [hy];exact h.2.2 a ha x (by simp)
  ·exact h.2.2 a ha c (by simp [hc])
theorem ξ85 {ag tr now:Int} {M:Its} {k:Nat} {x:Lk} (hx:M[k]?=some x):(dM ag tr now (M.take k)++x::M.drop (k+1)).length<=M.length:=by
 have hk:k<M.length:=(List.getElem?_eq_some_iff.1 hx).1
 have:=List.length_filter_le (fun x=>!gives ag tr now x) (M.take k)
 simp [dM] at this ⊢
 omega
theorem DSt.give {w wr w4 w6:World} {B b mb g n cap:Nat} {ag tr now T:Int} {M:Its} {gv:Value} {G:List Int} {k:Nat} {kv dv gv2:Value} {x:Lk} {O:Obj} (h:DSt w wr B b mb ag tr now T M gv G k kv dv gv2) (hx:M[k]?=some x) (hs:stays ag now x=false) (ht:x.t=tr)
 (h4:ξ7 w4 b mb ag tr now T (dM ag tr now (M.take k)++M.drop (k+1)) gv2 (G++gaveL ag tr now (M.take k))) (ho4:Only [mb] wr w4)
 (hn:n=(G++gaveL ag tr now (M.take k)).length) (hown:w6.ownsRow 0 3 1 (.slice (some ⟨g,0,none⟩) (n+1) cap) (n+1) (ic (G++gaveL ag tr now (M.take k))++[.int .i64 x.n])) (hgrow:(w4.alloc O).grownBy w6 gv2.ownBlock) (hat:gv2.ownBlock=some g∨g=w4.heap.size+1) :
 DSt w (w6.setCell ⟨b,5,none⟩ (.slice (some ⟨g,0,none⟩) (n+1) cap)) B b mb ag tr now T M gv G (k+1) kv dv (.slice (some ⟨g,0,none⟩) (n+1) cap):=by
 obtain ⟨e1,e2⟩:=ξS hx;obtain ⟨o1,o2,o3⟩:=ξ3f hs ht;have hsz:w4.heap.size=w4.heap.size:=rfl
 have h4s:wr.heap.size<=w4.heap.size:=ho4.2.2.2.1
 have oA:Only gv2.ownBlock.toList w4 w6:=((Only.refl _ w4).alloc O).trans ((Only.refl _ _).grown hgrow (by simp))
 have hne:=h4.ne
 have hbx:=h4.box
 have lt4:=h4.lt
 have s1:=h.s1
 have s2:=h.s2
 have gb:=h.gb
 have kb:=h.kb
 have bb:=h.bb
 have mm:=h.mm
 have hgb:g≠b:=by
  rcases hat with hat | hat
  ·exact (hne.2 g hat).1
  ·have:=lt4 b (by simp [blks]);omega
 have hgm:g≠mb:=by
  rcases hat with hat | hat
  ·exact (hne.2 g hat).2
  ·have:=lt4 mb (by simp [blks]);omega
 have oS:Only (b::gv2.ownBlock.toList) w4 (w6.setCell ⟨b,5,none⟩ (.slice (some ⟨g,0,none⟩) (n+1) cap)):=(oA.mono (by intro k hk;simp at hk;simp [hk])).setCell (by simp) _
 have oB:Only [b] w6 (w6.setCell ⟨b,5,none⟩ (.slice (some ⟨g,0,none⟩) (n+1) cap)):=(Only.refl _ _).setCell (by simp) _
 have oAll:Only (mb::b::gv2.ownBlock.toList) wr (w6.setCell ⟨b,5,none⟩ (.slice (some ⟨g,0,none⟩) (n+1) cap)):=(ho4.mono (by simp)).trans (oS.mono (by intro k hk;exact List.mem_cons_of_mem _ hk))
 have gsz:∀ j,gv2.ownBlock=some j->j<wr.heap.size:=fun j hj=>h.gaps.lt j (by simp [blks,hj])
 refine { h with gaps:=⟨?_,?_,?_⟩,keys:=?_,due:=?_,gb:=?_,s2:=Nat.le_trans s2 oAll.2.2.2.1,only:=?_ }
 ·have hb6:=oA.block hbx (by intro hc;simp at hc;exact (hne.2 b hc).1 rfl)
  exact setb hb6 5 _
 ·rw [e1,ξ75,o1,Ξu];obtain ⟨D,⟨es,clock,m4,m5⟩,m6⟩:=h4.map;exact ⟨D,⟨es,clock,oS.block m4 (by intro hc;simp at hc;rcases hc with hc | hc;exact hne.1 hc.symm;exact (hne.2 mb hc).2 rfl),m5⟩,m6⟩
 ·rw [e1,ξ3r,o3,<- List.append_assoc,Ξh,List.length_singleton,<- hn,ξ2G];exact oB.owns hown (by intro j hj hc;simp [Value.ownBlock] at hj hc;omega)
 ·refine oAll.owns h.keys ?_
  intro j hj hc;have:=kb j hj
  simp at hc
  rcases hc with hc | hc | hc
  ·omega
  ·omega
  ·rcases gb j hc with q | q<;>omega
 ·rw [e1,ξ1l,o2,Ξu];refine oAll.owns h.due ?_
  intro j hj hc;have:=(h.due.lt j hj).1
  simp at hc
  rcases hc with hc | hc | hc
  ·omega
  ·omega
  ·rcases gb j hc with q | q
   ·omega
   ·exact q.2 hj
 ·intro j hj;simp [Value.ownBlock] at hj
  subst hj;rcases hat with hat | hat
  ·exact gb _ hat
  ·refine .inr ⟨by omega,fun hd=>?_⟩
   have:=(h.due.lt _ hd).2
   omega
 ·refine past h.only oAll ?_
  intro j hj;simp at hj
  rcases hj with rfl | rfl | hj
  ·exact .inl (by simp [blks])
  ·exact .inl (by simp [blks])
  ·rcases gb j hj with q | q
   ·exact .inl (by simp [blks,q.1])
   ·exact .inr (by omega)
theorem DSt.ask {w wr w4 w6:World} {B b mb g n cap:Nat} {ag tr now T:Int} {M:Its} {gv:Value} {G:List Int} {k:Nat} {kv dv gv2:Value} {x:Lk} {O:Obj} (h:DSt w wr B b mb ag tr now T M gv G k kv dv gv2) (hx:M[k]?=some x) (hs:stays ag now x=false) (ht:x.t≠tr)
 (h4:ξ7 w4 b mb ag tr now T (dM ag tr now (M.take k)++⟨x.n,x.t+1,now⟩::M.drop (k+1)) gv2 (G++gaveL ag tr now (M.take k))) (ho4:Only [mb] wr w4)
 (hn:n=(dueL ag tr now (M.take k)).length) (hown:w6.ownsRow B 3 1 (.slice (some ⟨g,0,none⟩) (n+1) cap) (n+1) (ic (dueL ag tr now (M.take k))++[.int .i64 x.n])) (hgrow:(w4.alloc O).grownBy w6 dv.ownBlock) (hat:dv.ownBlock=some g∨g=w4.heap.size+1) :
 DSt w w6 B b mb ag tr now T M gv G (k+1) kv (.slice (some ⟨g,0,none⟩) (n+1) cap) gv2:=by
 obtain ⟨e1,e2⟩:=ξS hx;obtain ⟨o1,o2,o3⟩:=ξ43 hs ht;have h4s:wr.heap.size<=w4.heap.size:=ho4.2.2.2.1
 have oA:Only dv.ownBlock.toList w4 w6:=((Only.refl _ w4).alloc O).trans ((Only.refl _ _).grown hgrow (by simp))
 have s1:=h.s1
 have s2:=h.s2
 have gb:=h.gb
 have kb:=h.kb
 have bb:=h.bb
 have mm:=h.mm
 have db:∀ j,dv.ownBlock=some j->B<=j/\j<wr.heap.size:=fun j hj=>h.due.lt j hj
 have oAll:Only (mb::dv.ownBlock.toList) wr w6:=(ho4.mono (by simp)).trans (oA.mono (by intro k hk;simp at hk;simp [hk]))
 refine { h with gaps:=?_,keys:=?_,due:=?_,gb:=?_,s2:=Nat.le_trans s2 oAll.2.2.2.1,only:=?_ }
 ·rw [e1,ξ75,ξ3r,o1,o3,Ξu,List.append_assoc];refine h4.only oA ?_
  intro j hj hc;simp at hc
  have:=db j hc
  simp only [blks,Ξf,Option.mem_toList] at hj
  rcases hj with rfl | rfl | hj
  ·omega
  ·omega
  ·rcases gb j hj with q | q
   ·omega
   ·exact q.2 hc
 ·refine oAll.owns h.keys ?_
  intro j hj hc;have:=kb j hj
  simp at hc
  rcases hc with hc | hc
  ·omega
  ·have:=db j hc;omega
 ·rw [e1,ξ1l,o2,Ξh,List.length_singleton,<- hn,ξ2G];exact hown
 ·intro j hj;rcases gb j hj with q | q
  ·exact .inl q
  ·refine .inr ⟨q.1,?_⟩
   intro hd;simp [Value.ownBlock] at hd
   rcases hat with hat | hat
   ·exact q.2 (by rw [hat,hd])
   ·have:=h.gaps.lt j (by simp [blks,hj]);omega
 ·refine past h.only oAll ?_
  intro j hj;simp at hj
  rcases hj with rfl | hj
  ·exact .inl (by simp [blks])
  ·have:=db j hj
   exact .inr (by omega)
theorem ξ3w (b mb:Nat) (ag tr nw T now:Int) (M:Its) (gv:Value) (G:List Int) (w:World) (h:ξ7 w b mb ag tr nw T M gv G) (hI:GM.Inv ag tr nw T M) (ht:tf nw now=0) (hG:G.length+M.length<=1000000) :
 Calls prog 29 #[.pointer (some ⟨b,0,none⟩),.int .i64 now] w fun e w'=>∃ dv,e=.returned (.tuple #[dv,.nilIface])/\∃ gv2,ξ7 w' b mb ag tr now T (dM ag tr now M) gv2 (G++gaveL ag tr now M) /\
  w'.ownsRow w.heap.size 3 1 dv (dueL ag tr now M).length (ic (dueL ag tr now M))/\(∀ j,gv2.ownBlock=some j->(gv.ownBlock=some j∨w.heap.size<=j)/\dv.ownBlock≠some j)/\Only (blks b mb gv) w w':=by
 obtain ⟨i0,hii,hz0,hz1,hz2⟩:=info_parts info3;have HC:=ξ0 (fun w=>ξ1r nw now w ht)
 obtain ⟨ht0,ht1,ht2⟩:=ξE ht;have HG:=ξ0 h
 have HI:=ξ0 hI
 have c0:=h.cells.1
 have hlen:=hI.len
 have hr1:=hI.r1
 have hr2:=hI.r2
 have ha1:=hI.a1
 have ha2:=hI.a2
 have HLt:=ξ0 h.lt
 clear h hI ht;go_enter func29,ntmps29
 go_wp2_with fail
 refine (HC.out _).mono ?_
 rintro e w1 ⟨rfl,hb1⟩;have HB:=ξ0 hb1
 clear hb1 c0;have HG1:Hid (ξ7 (w1.alloc (.cells #[.int .i64 now] 89)) b mb ag tr nw T M gv G):=(HG.out.below HB.out).below ((Ξp _ _).alloc (Ξo _) _)
 have f0:=free6 HG1.out.box 0
 have c00:=HG1.out.cells.1
 have hbw:b<w1.heap.size:=(HG.out.below HB.out).lt b (by simp [blks])
 have HG2:Hid (ξ7 ((w1.setCell ⟨b,0,none⟩ (.int .i64 now)).alloc (.cells #[.int .i64 now] 89)) b mb ag tr now T M gv G):=((HG.out.below HB.out).set 0 _ rfl).below ((Ξp _ _).alloc (Ξo _) _)
 have HO2:Hid (Only (blks b mb gv) w ((w1.setCell ⟨b,0,none⟩ (.int .i64 now)).alloc (.cells #[.int .i64 now] 89))):=((Only.of_below HB.out _).setCell (by simp [blks]) _).alloc _
 go_wp2_with fail
 refine (ξ7p b mb ag tr now T M gv G _ (by exact HG2.out) HI.out.ris (by omega)).mono ?_
 rintro e w3 ⟨kv,rfl,hrow,hb3⟩;obtain ⟨ka,kcap,rfl,hka,_,_,hkg⟩:=ξo hrow (by omega)
 have HS0:Hid (DSt w w3 w3.heap.size b mb ag tr now T M gv G 0 (.slice ka M.length kcap) (.slice none 0 0) gv):=by
  have hsz:w.heap.size<=((w1.setCell ⟨b,0,none⟩ (.int .i64 now)).alloc (.cells #[.int .i64 now] 89)).heap.size:=HO2.out.2.2.2.1
  refine ⟨?_,ξu hrow hsz,?_,?_,?_,Nat.le_trans hsz hb3.size,Ξo _,HO2.out.trans (Only.of_below hb3 _),HLt.out b (by simp [blks]),HLt.out mb (by simp [blks])⟩
  ·simpa [dM,gaveL,nums] using HG2.out.below hb3
  ·simpa [dueL,nums,ic] using Ξr w3 w3.heap.size 3 1
  ·intro j hj;have:=hrow.lt j hj
   omega
  ·intro j hj;exact .inl ⟨hj,HLt.out j (by simp [blks,hj])⟩
 clear hrow hb3 hka hkg HG2 HO2 HG1 HC c00 f0;obtain ⟨B,hB⟩:∃ B,w3.heap.size=B:=⟨_,rfl⟩;rw [hB] at HS0;clear hB;go_wp2_with fail
 go_loopg [8,10,11,31] M.length (fun g dv' _ _ i' wr=>∃ (k m:Nat) (da:Option Addr) (dc:Nat) (gv2:Value),k+g=M.length/\dv'=.slice da m dc/\i'=.int .i64 (k:Int)/\Hid (m=(dueL ag tr now (M.take k)).length/\DSt w wr B b mb ag tr now T M gv G k (.slice ka M.length kcap) (.slice da m dc) gv2))
 case atStart=>exact ⟨0,0,none,0,gv,by omega,rfl,rfl,by simp [dueL,nums],HS0⟩
 case round=>
  obtain ⟨k,m,da,dc,gv2,hkg,rfl,rfl,HS⟩:=hrel;clear HS0;by_cases hk:k<M.length
  ·have hkz:(k:Int)<(M.length:Int):=by omega
   have hm200:m<=200:=by have:=HS.out.1;have:=ξ8m ag tr now (M.take k);simp at this;omega
   obtain ⟨x,hx⟩:∃ x,M[k]?=some x:=⟨_,Ξd hk⟩;have hxm:=HI.out.mem x (List.mem_of_getElem? hx)
   have ht2':=HI.out.t2
   have hwf:=ξL (y:=x.n) (by omega) (by omega)
   obtain ⟨ka',kcap',ek,hka,_,_,_⟩:=ξo HS.out.2.keys (by omega)
   cases ek
   obtain ⟨kg,ko,rfl,hcell⟩:=hka.at (by omega)
   have ck:=hcell k hk
   have ex:(nums M).getD k 0=x.n:=by
    rw [Ξa,nums,List.getElem?_map,hx];rfl
   rw [ex] at ck;have hmid:(dM ag tr now (M.take k)++M.drop k)=dM ag tr now (M.take k)++x::M.drop (k+1):=by rw [(ξS hx).2]
   have hlook:=ξe4 HS.out.2.gaps (x:=x) (by rw [hmid];simp) hwf
   obtain ⟨c0,c1,c2,c3,c4,c5⟩:=HS.out.2.gaps.cells;have HX:=ξ0 hx
   have HMid:=ξ0 hmid
   have hxt0:0<=x.t:=hxm.2.2.1
   have hxt1:x.t<=tr:=hxm.2.2.2.1
   have hxa0:0<=x.a:=hxm.2.2.2.2.1
   have hxa1:x.a<=nw:=hxm.2.2.2.2.2
   have hgl:G.length+(gaveL ag tr now (M.take k)).length<=999999:=by have:=ξcT ag tr now (M.take k);simp at this;omega
   clear hcell hka ex hmid hx hxm c0 c3 c5;have HSA:Hid (DSt w (wr.alloc (.cells #[.int .i64 x.t,.int .i64 x.a] 139)) B b mb ag tr now T M gv G k (.slice (some ⟨kg,ko,none⟩) M.length kcap) (.slice da m dc) gv2):=HS.out.2.below ((Ξp _ _).alloc (Ξo _) _)
   have e1:=ξk c1 (.cells #[.int .i64 x.t,.int .i64 x.a] 139)
   have e2:=ξk c2 (.cells #[.int .i64 x.t,.int .i64 x.a] 139)
   have HM:=ξ0 HS.out.1
   clear HS;obtain ⟨xn,hxn⟩:∃ xn,x.n=xn:=⟨_,rfl⟩;obtain ⟨xt,hxt⟩:∃ xt,x.t=xt:=⟨_,rfl⟩;obtain ⟨xa,hxa⟩:∃ xa,x.a=xa:=⟨_,rfl⟩;rw [hxt,hxa] at HSA e1 e2 hlook;rw [hxn] at hlook ck hwf;rw [hxt] at hxt0 hxt1;rw [hxa] at hxa0 hxa1;have HXn:=ξ0 hxn
   have HXt:=ξ0 hxt
   have HXa:=ξ0 hxa
   clear hxn hxt hxa;by_cases hs:0<xt/\now - xa<ag
   ·have d1:decide (0<xt)=true:=by simpa using hs.1
    have d2:decide (now - xa<ag)=true:=by simpa using hs.2
    have HStay:Hid (stays ag now x=true):=by unfold stays;rw [HXt.out,HXa.out,d1,d2];rfl
    clear hs;go_wp2_with fail
    go_quiet (fail)
    go_wp2_with fail
    go_roundg (M.length - (k+1))
    case measure=>omega
    case rel=>
     have HF:=ξ0 ((HSA.out.below (below_drewN (Ξp _ _) nq)).stay HX.out HStay.out)
     exact ⟨k+1,m,da,dc,gv2,by omega,rfl,by go_num,by have:=HM.out;rw [(ξS HX.out).1,ξ1l,(ξ5q (tr:=tr) HStay.out).2.1,Ξu];exact this,HF.out⟩
   ·have HNo:Hid (stays ag now x=false):=by
     refine ξ0 ?_
     unfold stays;rw [HXt.out,HXa.out];by_cases q:0<xt
     ·have q2:¬ now - xa<ag:=fun h=>hs ⟨q,h⟩
      simp [q2]
     ·simp [q]
    by_cases hp:0<xt
    ·by_cases hxe:xt=tr
     ·have d1:decide (0<xt)=true:=by simpa using hp
      have d2:decide (now - xa<ag)=false:=by simp;omega
      clear hs hp;have dq:(xt==tr)=true:=by simpa using hxe
      have HXe:=ξ0 hxe
      clear hxe;go_wp2_with fail
      go_quiet (fail)
      obtain ⟨wq,hwq⟩:∃ wq,(wr.alloc (.cells #[.int .i64 xt,.int .i64 xa] 139)).drewN nq=wq:=⟨_,rfl⟩;have hcx:wq.cell? ⟨wr.heap.size,0,none⟩=some (.int .i64 xt):=by rw [<- hwq];exact (cells2 (heap_alloc_new wr (.cells #[.int .i64 xt,.int .i64 xa] 139))).1
      have HSq:Hid (DSt w wq B b mb ag tr now T M gv G k (.slice (some ⟨kg,ko,none⟩) M.length kcap) (.slice da m dc) gv2):=by rw [<- hwq];exact HSA.out.below (below_drewN (Ξp _ _) _)
      rw [hwq];clear hwq HSA e1 e2 hlook ck;obtain ⟨c0,c1,c2,c3,c4,c5⟩:=HSq.out.gaps.cells;go_wp2_with fail
      go_quiet (fail)
      obtain ⟨wp,hwp⟩:∃ wp,wq.drewN nq=wp:=⟨_,rfl⟩;have HSp:Hid (DSt w wp B b mb ag tr now T M gv G k (.slice (some ⟨kg,ko,none⟩) M.length kcap) (.slice da m dc) gv2):=by rw [<- hwp];exact HSq.out.below (below_drewN (Ξp _ _) _)
      rw [hwp];clear hwp HSq c0 c1 c2 c3 c4 c5 hcx;obtain ⟨c0,c1,c2,c3,c4,c5⟩:=HSp.out.gaps.cells;obtain ⟨n,hn⟩:∃ n,n=(G++gaveL ag tr now (M.take k)).length:=⟨_,rfl⟩;have hn9:n<=999999:=by rw [hn,Ξh];exact hgl
      have HN:=ξ0 hn
      have hrow2:wp.ownsRow 0 3 1 gv2 n (ic (G++gaveL ag tr now (M.take k))):=by rw [hn];exact HSp.out.gaps.row
      clear hn;obtain ⟨g2a,g2c,eg2,_⟩:=ξo hrow2 (by omega)
      subst eg2;clear hrow2;obtain ⟨D,hown,hK,hE⟩:=HSp.out.gaps.map;have HO:=ξ0 hown
      have HDel:Hid (∀ w4,w4.ownsMap prog 3 akR mb (dM ag tr now (M.take k)++M.drop k).length (D.del (key xn))->wp.mapTurned w4 mb->ξ7 w4 b mb ag tr now T (dM ag tr now (M.take k)++M.drop (k+1)) (.slice g2a n g2c) (G++gaveL ag tr now (M.take k))/\Only [mb] wp w4):=by
       refine ξ0 (fun w4 hown4 hturn4=>?_)
       have ho4:Only [mb] wp w4:=(Only.refl [mb] _).grown hturn4.grown (by simp)
       refine ⟨ξ8n (x:=x) (D:=D) ?_ ?_ ?_ (ξ26 HI.out HX.out) (by rw [HXn.out];exact hown4) ho4,ho4⟩
       ·rw [<- HMid.out];exact HSp.out.gaps
       ·rw [<- HMid.out];exact hK
       ·rw [<- HMid.out];exact hE
      clear hown hK hE;go_wp2_with (first
       | (at_delete;refine wpList_delete_own _ rfl _ _ 121 3 rfl 139 law3 underlying121 _ mb _ D rfl HO.out _ _ rfl (keyOf3 hwf) ?_;intro w4 hown4 hturn4;have HG4:=ξ0 (HDel.out w4 hown4 hturn4).1;have HO4:=ξ0 (HDel.out w4 hown4 hturn4).2;have k5:=HG4.out.cells.2.2.2.2.2;have HRow:Hid (w4.ownsRow 0 3 1 (.slice g2a n g2c) n (ic (G++gaveL ag tr now (M.take k)))):=(by rw [HN.out];rw [HN.out] at HG4;exact HG4.out.row);clear hown4 hturn4)
       | (at_builtin;refine wpList_append_lies _ rfl _ _ 35 rfl 0 3 i0 _ 1 8 underlying35 hii hz0 hz1 hz2 rfl (by decide) _ n (ic (G++gaveL ag tr now (M.take k))) rfl (HRow.out.alloc _) ⟨w4.heap.size,0,none⟩ 1 1 [.int .i64 xn] rfl rfl (World.news_of_block (cs:=#[.int .i64 xn]) (t:=3) (fr:=(0,0)) (heap_alloc_new w4 _)) ?c2 (by omega) ?b1 ?b2 (Nat.zero_le _) (w4.heap.size+1) (by simp) ?next))
      case c2=>intro u hu';simp at hu';subst hu';rfl
      case b1=>unfold maxLen;omega
      case b2=>omega
      case next=>
       intro gg cap6 w6 hown6 hgrow6 hat6 hlt6;have hbb:b<w4.heap.size:=HG4.out.lt b (by simp [blks])
       have hb6:w6.heap[b]?=_:=(hgrow6.block b (by simp;omega) (by intro e;have:=(HG4.out.ne.2 b e.symm).1;omega)).trans ((Below.heap_alloc _ _ _ hbb).trans HG4.out.box)
       have k6:=(cells6 hb6).2.2.2.2.2
       have f6:=free6 hb6 5
       have HF:Hid (DSt w (w6.setCell ⟨b,5,none⟩ (.slice (some ⟨gg,0,none⟩) (n+1) cap6)) B b mb ag tr now T M gv G (k+1) (.slice (some ⟨kg,ko,none⟩) M.length kcap) (.slice da m dc) (.slice (some ⟨gg,0,none⟩) (n+1) cap6)):=
        HSp.out.give HX.out HNo.out (by rw [HXt.out];exact HXe.out) HG4.out HO4.out HN.out (by rw [HXn.out];exact hown6) hgrow6 hat6
       clear hown6 hgrow6 hat6 hlt6 hb6;go_wp2_with fail
       go_roundg (M.length - (k+1))
       case measure=>omega
       case rel=>exact ⟨k+1,m,da,dc,_,by omega,rfl,by go_num,by have:=HM.out;rw [(ξS HX.out).1,ξ1l,(ξ3f HNo.out (HXt.out.trans HXe.out)).2.1,Ξu];exact this,HF.out⟩
     ·have d1:decide (0<xt)=true:=by simpa using hp
      have d2:decide (now - xa<ag)=false:=by simp;omega
      clear hs hp;have dq:(xt==tr)=false:=by simpa using hxe
      have HXe:=ξ0 hxe
      clear hxe;go_wp2_with fail
      go_quiet (fail)
      obtain ⟨wq,hwq⟩:∃ wq,(wr.alloc (.cells #[.int .i64 xt,.int .i64 xa] 139)).drewN nq=wq:=⟨_,rfl⟩;have hcx:wq.cell? ⟨wr.heap.size,0,none⟩=some (.int .i64 xt):=by rw [<- hwq];exact (cells2 (heap_alloc_new wr (.cells #[.int .i64 xt,.int .i64 xa] 139))).1
      have HSq:Hid (DSt w wq B b mb ag tr now T M gv G k (.slice (some ⟨kg,ko,none⟩) M.length kcap) (.slice da m dc) gv2):=by rw [<- hwq];exact HSA.out.below (below_drewN (Ξp _ _) _)
      rw [hwq];clear hwq HSA e1 e2 hlook ck;obtain ⟨c0,c1,c2,c3,c4,c5⟩:=HSq.out.gaps.cells;go_wp2_with fail
      go_quiet (fail)
      obtain ⟨wp,hwp⟩:∃ wp,wq.drewN nq=wp:=⟨_,rfl⟩;have HSp:Hid (DSt w wp B b mb ag tr now T M gv G k (.slice (some ⟨kg,ko,none⟩) M.length kcap) (.slice da m dc) gv2):=by rw [<- hwp];exact HSq.out.below (below_drewN (Ξp _ _) _)
      have hcy:wp.cell? ⟨wr.heap.size,0,none⟩=some (.int .i64 xt):=by rw [<- hwp];exact hcx
      rw [hwp];clear hwp HSq c0 c1 c2 c3 c4 c5 hcx;obtain ⟨c0,c1,c2,c3,c4,c5⟩:=HSp.out.gaps.cells;have HSd:Hid (DSt w wp.drew B b mb ag tr now T M gv G k (.slice (some ⟨kg,ko,none⟩) M.length kcap) (.slice da m dc) gv2):=HSp.out.below (Ξp _ _).drew
      obtain ⟨w4,hrun4,hg4,ho4⟩:=ξ5c (A:=dM ag tr now (M.take k)) (B:=M.drop (k+1)) (x:=x) (by rw [<- HMid.out];exact HSd.out.gaps) ⟨x.n,x.t+1,now⟩ rfl (ξ26 HI.out HX.out) (ξ6j (ξ26 HI.out HX.out) rfl) (by rw [HXn.out];exact hwf) (by have:=ξ85 (ag:=ag) (tr:=tr) (now:=now) HX.out;omega)
      rw [HXn.out,HXt.out] at hrun4;have HG4:=ξ0 hg4
      have HO4:=ξ0 ho4
      clear hg4 ho4;go_wp2_with fail
      go_region
      all_goals go_wp2_with (at_builtin;refine wpList_append_lies _ rfl _ _ 35 rfl B 3 i0 _ 1 8 underlying35 hii hz0 hz1 hz2 rfl (by decide) _ m (ic (dueL ag tr now (M.take k))) rfl ?own ⟨w4.heap.size,0,none⟩ 1 1 [.int .i64 xn] rfl rfl (World.news_of_block (cs:=#[.int .i64 xn]) (t:=3) (fr:=(0,0)) (heap_alloc_new w4 _)) ?c2 (by omega) ?b1 ?b2 ?b3 (w4.heap.size+1) (by simp) ?next)
      case own=>
       have hd:=HSd.out.due
       rw [<- HM.out] at hd;refine (HO4.out.owns hd ?_).alloc _
       intro j hj hc;have h1:=(hd.lt j hj).1
       have h2:=HSd.out.mm
       have h3:=HSd.out.s1
       simp at hc
       omega
      case c2=>intro u hu';simp at hu';subst hu';rfl
      case b1=>unfold maxLen;omega
      case b2=>omega
      case b3=>have h1:=HSd.out.s2;have h2:=HO4.out.2.2.2.1;simp;omega
      case next=>
       intro gg cap6 w6 hown6 hgrow6 hat6 hlt6;have HF:Hid (DSt w w6 B b mb ag tr now T M gv G (k+1) (.slice (some ⟨kg,ko,none⟩) M.length kcap) (.slice (some ⟨gg,0,none⟩) (m+1) cap6) gv2):=
        HSd.out.ask HX.out HNo.out (by rw [HXt.out];exact HXe.out) HG4.out HO4.out HM.out (by rw [HXn.out];exact hown6) hgrow6 hat6
       clear hown6 hgrow6 hat6 hlt6;go_wp2_with fail
       go_roundg (M.length - (k+1))
       case measure=>omega
       case rel=>exact ⟨k+1,m+1,some ⟨gg,0,none⟩,cap6,gv2,by omega,rfl,by go_num,by have:=HM.out;rw [(ξS HX.out).1,ξ1l,(ξ43 HNo.out (by rw [HXt.out];exact HXe.out)).2.1,Ξh,List.length_singleton,<- this],HF.out⟩
    ·by_cases hxe:xt=tr
     ·have d1:decide (0<xt)=false:=by simpa using hp
      clear hs hp;have dq:(xt==tr)=true:=by simpa using hxe
      have HXe:=ξ0 hxe
      clear hxe;go_wp2_with fail
      go_quiet (fail)
      obtain ⟨wq,hwq⟩:∃ wq,(wr.alloc (.cells #[.int .i64 xt,.int .i64 xa] 139)).drewN nq=wq:=⟨_,rfl⟩;have hcx:wq.cell? ⟨wr.heap.size,0,none⟩=some (.int .i64 xt):=by rw [<- hwq];exact (cells2 (heap_alloc_new wr (.cells #[.int .i64 xt,.int .i64 xa] 139))).1
      have HSq:Hid (DSt w wq B b mb ag tr now T M gv G k (.slice (some ⟨kg,ko,none⟩) M.length kcap) (.slice da m dc) gv2):=by rw [<- hwq];exact HSA.out.below (below_drewN (Ξp _ _) _)
      rw [hwq];clear hwq HSA e1 e2 hlook ck;obtain ⟨c0,c1,c2,c3,c4,c5⟩:=HSq.out.gaps.cells;go_wp2_with fail
      go_quiet (fail)
      obtain ⟨wp,hwp⟩:∃ wp,wq.drewN nq=wp:=⟨_,rfl⟩;have HSp:Hid (DSt w wp B b mb ag tr now T M gv G k (.slice (some ⟨kg,ko,none⟩) M.length kcap) (.slice da m dc) gv2):=by rw [<- hwp];exact HSq.out.below (below_drewN (Ξp _ _) _)
      rw [hwp];clear hwp HSq c0 c1 c2 c3 c4 c5 hcx;obtain ⟨c0,c1,c2,c3,c4,c5⟩:=HSp.out.gaps.cells;obtain ⟨n,hn⟩:∃ n,n=(G++gaveL ag tr now (M.take k)).length:=⟨_,rfl⟩;have hn9:n<=999999:=by rw [hn,Ξh];exact hgl
      have HN:=ξ0 hn
      have hrow2:wp.ownsRow 0 3 1 gv2 n (ic (G++gaveL ag tr now (M.take k))):=by rw [hn];exact HSp.out.gaps.row
      clear hn;obtain ⟨g2a,g2c,eg2,_⟩:=ξo hrow2 (by omega)
      subst eg2;clear hrow2;obtain ⟨D,hown,hK,hE⟩:=HSp.out.gaps.map;have HO:=ξ0 hown
      have HDel:Hid (∀ w4,w4.ownsMap prog 3 akR mb (dM ag tr now (M.take k)++M.drop k).length (D.del (key xn))->wp.mapTurned w4 mb->ξ7 w4 b mb ag tr now T (dM ag tr now (M.take k)++M.drop (k+1)) (.slice g2a n g2c) (G++gaveL ag tr now (M.take k))/\Only [mb] wp w4):=by
       refine ξ0 (fun w4 hown4 hturn4=>?_)
       have ho4:Only [mb] wp w4:=(Only.refl [mb] _).grown hturn4.grown (by simp)
       refine ⟨ξ8n (x:=x) (D:=D) ?_ ?_ ?_ (ξ26 HI.out HX.out) (by rw [HXn.out];exact hown4) ho4,ho4⟩
       ·rw [<- HMid.out];exact HSp.out.gaps
       ·rw [<- HMid.out];exact hK
       ·rw [<- HMid.out];exact hE
      clear hown hK hE;go_wp2_with (first
       | (at_delete;refine wpList_delete_own _ rfl _ _ 121 3 rfl 139 law3 underlying121 _ mb _ D rfl HO.out _ _ rfl (keyOf3 hwf) ?_;intro w4 hown4 hturn4;have HG4:=ξ0 (HDel.out w4 hown4 hturn4).1;have HO4:=ξ0 (HDel.out w4 hown4 hturn4).2;have k5:=HG4.out.cells.2.2.2.2.2;have HRow:Hid (w4.ownsRow 0 3 1 (.slice g2a n g2c) n (ic (G++gaveL ag tr now (M.take k)))):=(by rw [HN.out];rw [HN.out] at HG4;exact HG4.out.row);clear hown4 hturn4)
       | (at_builtin;refine wpList_append_lies _ rfl _ _ 35 rfl 0 3 i0 _ 1 8 underlying35 hii hz0 hz1 hz2 rfl (by decide) _ n (ic (G++gaveL ag tr now (M.take k))) rfl (HRow.out.alloc _) ⟨w4.heap.size,0,none⟩ 1 1 [.int .i64 xn] rfl rfl (World.news_of_block (cs:=#[.int .i64 xn]) (t:=3) (fr:=(0,0)) (heap_alloc_new w4 _)) ?c2 (by omega) ?b1 ?b2 (Nat.zero_le _) (w4.heap.size+1) (by simp) ?next))
      case c2=>intro u hu';simp at hu';subst hu';rfl
      case b1=>unfold maxLen;omega
      case b2=>omega
      case next=>
       intro gg cap6 w6 hown6 hgrow6 hat6 hlt6;have hbb:b<w4.heap.size:=HG4.out.lt b (by simp [blks])
       have hb6:w6.heap[b]?=_:=(hgrow6.block b (by simp;omega) (by intro e;have:=(HG4.out.ne.2 b e.symm).1;omega)).trans ((Below.heap_alloc _ _ _ hbb).trans HG4.out.box)
       have k6:=(cells6 hb6).2.2.2.2.2
       have f6:=free6 hb6 5
       have HF:Hid (DSt w (w6.setCell ⟨b,5,none⟩ (.slice (some ⟨gg,0,none⟩) (n+1) cap6)) B b mb ag tr now T M gv G (k+1) (.slice (some ⟨kg,ko,none⟩) M.length kcap) (.slice da m dc) (.slice (some ⟨gg,0,none⟩) (n+1) cap6)):=
        HSp.out.give HX.out HNo.out (by rw [HXt.out];exact HXe.out) HG4.out HO4.out HN.out (by rw [HXn.out];exact hown6) hgrow6 hat6
       clear hown6 hgrow6 hat6 hlt6 hb6;go_wp2_with fail
       go_roundg (M.length - (k+1))
       case measure=>omega
       case rel=>exact ⟨k+1,m,da,dc,_,by omega,rfl,by go_num,by have:=HM.out;rw [(ξS HX.out).1,ξ1l,(ξ3f HNo.out (HXt.out.trans HXe.out)).2.1,Ξu];exact this,HF.out⟩
     ·have d1:decide (0<xt)=false:=by simpa using hp
      clear hs hp;have dq:(xt==tr)=false:=by simpa using hxe
      have HXe:=ξ0 hxe
      clear hxe;go_wp2_with fail
      go_quiet (fail)
      obtain ⟨wq,hwq⟩:∃ wq,(wr.alloc (.cells #[.int .i64 xt,.int .i64 xa] 139)).drewN nq=wq:=⟨_,rfl⟩;have hcx:wq.cell? ⟨wr.heap.size,0,none⟩=some (.int .i64 xt):=by rw [<- hwq];exact (cells2 (heap_alloc_new wr (.cells #[.int .i64 xt,.int .i64 xa] 139))).1
      have HSq:Hid (DSt w wq B b mb ag tr now T M gv G k (.slice (some ⟨kg,ko,none⟩) M.length kcap) (.slice da m dc) gv2):=by rw [<- hwq];exact HSA.out.below (below_drewN (Ξp _ _) _)
      rw [hwq];clear hwq HSA e1 e2 hlook ck;obtain ⟨c0,c1,c2,c3,c4,c5⟩:=HSq.out.gaps.cells;go_wp2_with fail
      go_quiet (fail)
      obtain ⟨wp,hwp⟩:∃ wp,wq.drewN nq=wp:=⟨_,rfl⟩;have HSp:Hid (DSt w wp B b mb ag tr now T M gv G k (.slice (some ⟨kg,ko,none⟩) M.length kcap) (.slice da m dc) gv2):=by rw [<- hwp];exact HSq.out.below (below_drewN (Ξp _ _) _)
      have hcy:wp.cell? ⟨wr.heap.size,0,none⟩=some (.int .i64 xt):=by rw [<- hwp];exact hcx
      rw [hwp];clear hwp HSq c0 c1 c2 c3 c4 c5 hcx;obtain ⟨c0,c1,c2,c3,c4,c5⟩:=HSp.out.gaps.cells;have HSd:Hid (DSt w wp.drew B b mb ag tr now T M gv G k (.slice (some ⟨kg,ko,none⟩) M.length kcap) (.slice da m dc) gv2):=HSp.out.below (Ξp _ _).drew
      obtain ⟨w4,hrun4,hg4,ho4⟩:=ξ5c (A:=dM ag tr now (M.take k)) (B:=M.drop (k+1)) (x:=x) (by rw [<- HMid.out];exact HSd.out.gaps) ⟨x.n,x.t+1,now⟩ rfl (ξ26 HI.out HX.out) (ξ6j (ξ26 HI.out HX.out) rfl) (by rw [HXn.out];exact hwf) (by have:=ξ85 (ag:=ag) (tr:=tr) (now:=now) HX.out;omega)
      rw [HXn.out,HXt.out] at hrun4;have HG4:=ξ0 hg4
      have HO4:=ξ0 ho4
      clear hg4 ho4;go_wp2_with fail
      go_region
      all_goals go_wp2_with (at_builtin;refine wpList_append_lies _ rfl _ _ 35 rfl B 3 i0 _ 1 8 underlying35 hii hz0 hz1 hz2 rfl (by decide) _ m (ic (dueL ag tr now (M.take k))) rfl ?own ⟨w4.heap.size,0,none⟩ 1 1 [.int .i64 xn] rfl rfl (World.news_of_block (cs:=#[.int .i64 xn]) (t:=3) (fr:=(0,0)) (heap_alloc_new w4 _)) ?c2 (by omega) ?b1 ?b2 ?b3 (w4.heap.size+1) (by simp) ?next)
      case own=>
       have hd:=HSd.out.due
       rw [<- HM.out] at hd;refine (HO4.out.owns hd ?_).alloc _
       intro j hj hc;have h1:=(hd.lt j hj).1
       have h2:=HSd.out.mm
       have h3:=HSd.out.s1
       simp at hc
       omega
      case c2=>intro u hu';simp at hu';subst hu';rfl
      case b1=>unfold maxLen;omega
      case b2=>omega
      case b3=>have h1:=HSd.out.s2;have h2:=HO4.out.2.2.2.1;simp;omega
      case next=>
       intro gg cap6 w6 hown6 hgrow6 hat6 hlt6;have HF:Hid (DSt w w6 B b mb ag tr now T M gv G (k+1) (.slice (some ⟨kg,ko,none⟩) M.length kcap) (.slice (some ⟨gg,0,none⟩) (m+1) cap6) gv2):=
        HSd.out.ask HX.out HNo.out (by rw [HXt.out];exact HXe.out) HG4.out HO4.out HM.out (by rw [HXn.out];exact hown6) hgrow6 hat6
       clear hown6 hgrow6 hat6 hlt6;go_wp2_with fail
       go_roundg (M.length - (k+1))
       case measure=>omega
       case rel=>exact ⟨k+1,m+1,some ⟨gg,0,none⟩,cap6,gv2,by omega,rfl,by go_num,by have:=HM.out;rw [(ξS HX.out).1,ξ1l,(ξ43 HNo.out (by rw [HXt.out];exact HXe.out)).2.1,Ξh,List.length_singleton,<- this],HF.out⟩
  ·have hkz:¬ (k:Int)<(M.length:Int):=by omega
   obtain rfl:k=M.length:=by omega
   go_wp2_with fail
   go_ret2
   have hf:=HS.out.2
   have hm:=HS.out.1
   refine ⟨_,rfl,gv2,?_,?_,?_,hf.only⟩
   ·have:=hf.gaps
    rw [List.take_length,List.drop_length,Ξu] at this;exact this
   ·have:=hf.due
    rw [List.take_length] at this;exact ξu this hf.s1
   ·intro j hj;rcases hf.gb j hj with q | q
    ·refine ⟨.inl q.1,fun hd=>?_⟩
     have h1:=(hf.due.lt j hd).1
     have h2:=hf.s1
     omega
    ·exact ⟨.inr (by have h2:=hf.s1;omega),q.2⟩
theorem ξ9k (b mb:Nat) (ag tr nw T y now:Int) (M:Its) (gv:Value) (G:List Int) (w:World) (h:ξ7 w b mb ag tr nw T M gv G) (hI:GM.Inv ag tr nw T M) :
 Calls prog 27 #[.pointer (some ⟨b,0,none⟩),.int .i64 y,.int .i64 now] w fun e w'=>e=.returned (.tuple #[.bool (hB nw T M y now),errv (hf nw T M y now)]) /\
  ξ7 w' b mb ag tr (hN nw T M y now) (hU nw T M y now) (hL nw T M y now) gv G/\Only [b,mb] w w':=by
 have same:∀ w',hf nw T M y now≠0->Below w.heap.size w w'->hB nw T M y now=false/\ξ7 w' b mb ag tr (hN nw T M y now) (hU nw T M y now) (hL nw T M y now) gv G/\Only [b,mb] w w':=by
  intro w' h0 hb;unfold hB hN hU hL;simp only [h0,decide_false,Bool.false_and,if_false]
  exact ⟨trivial,h.below hb,Only.of_below hb _⟩
 by_cases ht:tf nw now=0
 case neg=>
  have e1:hf nw T M y now=tf nw now:=by unfold hf;rw [if_pos ht]
  refine (ξb5 b nw y now w h.cells.1 ht).mono ?_
  rintro e w' ⟨rfl,hb⟩;obtain ⟨q1,q2⟩:=same w' (by rw [e1];exact ht) hb
  exact ⟨by rw [q1,e1],q2⟩
 by_cases hy:y<0∨1099511627776<y
 ·have e1:hf nw T M y now=1:=by unfold hf;rw [if_neg (by simp [ht]),if_pos hy]
  refine (ξ9j b nw y now w h.cells.1 ht hy).mono ?_
  rintro e w' ⟨rfl,hb⟩;obtain ⟨q1,q2⟩:=same w' (by rw [e1];omega) hb
  exact ⟨by rw [q1,e1],q2⟩
 by_cases hl:200<(M.length:Int)+lo T y
 ·have e1:hf nw T M y now=4:=by unfold hf;rw [if_neg (by simp [ht]),if_neg hy,if_pos hl]
  refine (ξb7 b mb ag tr nw T y now M gv G w h hI ht (by omega) (by omega) hl).mono ?_
  rintro e w' ⟨rfl,hb⟩;obtain ⟨q1,q2⟩:=same w' (by rw [e1];omega) hb
  exact ⟨by rw [q1,e1],q2⟩
 have e1:hf nw T M y now=0:=by unfold hf;rw [if_neg (by simp [ht]),if_neg hy,if_neg hl]
 have eN:hN nw T M y now=now:=by unfold hN;rw [if_pos e1]
 by_cases hT:T<y
 ·have eB:hB nw T M y now=true:=by unfold hB hx;simp [e1,hT]
  have eU:hU nw T M y now=y:=by unfold hU GM.hT;rw [if_pos e1,if_pos hT]
  have eL:hL nw T M y now=M++fresh T (lo T y).toNat:=by unfold hL hM;rw [if_pos e1,if_pos hT]
  refine (ξb6 b mb ag tr nw T y now M gv G w h hI ht (by omega) (by omega) (by omega) hT).mono ?_
  rintro e w' ⟨rfl,h1,h2⟩;rw [eB,e1,eN,eU,eL];exact ⟨rfl,h1,h2⟩
 ·have eB:hB nw T M y now=has M y:=by unfold hB hx;simp [e1,hT]
  have eU:hU nw T M y now=T:=by unfold hU GM.hT;rw [if_pos e1,if_neg hT]
  have eL:hL nw T M y now=M.filter fun i=>decide (i.n≠y):=by unfold hL hM;rw [if_pos e1,if_neg hT]
  refine (ξcM b mb ag tr nw T y now M gv G w h hI ht (by omega) (by omega) hT).mono ?_
  rintro e w' ⟨rfl,h1,h2⟩;rw [eB,e1,eN,eU,eL];exact ⟨rfl,h1,h2⟩
end Go.Proofs.YtpiamlgmadnepaaGreat.Gaps
