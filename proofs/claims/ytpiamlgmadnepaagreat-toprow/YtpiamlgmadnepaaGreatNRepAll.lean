/-
 NRepA, NRepB, NRepC in one text.
-/
import Derived.Test.YtpiamlgmadnepaaGreatNodeEnd
import Derived.Test.YtpiamlgmadnepaaGreatBackEnd
import Derived.Deep.RegionHeld3
set_option linter.unusedVariables false
set_option maxHeartbeats 1000000
set_option maxRecDepth 100000
namespace Go.Proofs.YtpiamlgmadnepaaGreat.ND
open Go.ChangeShapes Go.WideShapes Go.ChangeAt Go.RowKit Go.Maps Go.Lib Mem NO
def sq (L:List Int):List Int:=L.map fun y=>y%65536
theorem ξdv (k t:Int) (a:Option Addr) (n cap:Nat) (u:Int) (L:List Int) (w:World) (h:Back.IArg w a n L) (hn:a=none->n=0/\cap=0) (hf:Back.efault k t L u=0) (hlen:(Back.ebytes k t L u).length<=2000) :
 Calls Tryz.prog 184 #[.agg #[.int .i64 k,.int .i64 t,.slice a n cap,.int .i64 u]] w fun e w'=>∃ a' m c',e=.returned (.tuple #[.slice a' m c',.nilIface])/\Arg w' a' m (Back.ebytes k t L u)/\m<=c'/\m<=2000/\Below w.heap.size w w'/\∀ ad,a'=some ad->w.heap.size<=ad.block:=by
 obtain ⟨hc,hp⟩:=Back.ξQ hf;obtain ⟨hk,t1,t8,u0,um,_⟩:=Back.ξ16 hc;obtain ⟨k',rfl⟩:∃ x:Nat,k=x:=⟨k.toNat,by omega⟩
 obtain ⟨t',rfl⟩:∃ x:Nat,t=x:=⟨t.toNat,by omega⟩
 obtain ⟨u',rfl⟩:∃ x:Nat,u=x:=⟨u.toNat,by omega⟩
 refine (Back.ξ1E k' t' a n cap u' L w h hn hf).mono ?_
 rintro e w' ⟨v',rfl,ho,hb⟩;obtain ⟨a',c',rfl,hA,h0,h1,h2⟩:=ξu ho (Back.ξ5h (by omega) (by omega)) (by omega)
 exact ⟨a',_,c',rfl,hA,h1,hlen,hb,fun ad e=>by obtain ⟨g,rfl,hg⟩:=h2 ad e;exact hg⟩
theorem ξ6P (n b i:Nat) (o:Nat->Tg) (P:NP) (N:Nd) (tr:Tr) (k t u:Int) (a:Option Addr) (m cap:Nat) (L:List Int) (w:World) (hn:n≠0) (hN:NAt w o n b P N) (hi:i<8) (ht:N.tr i=some tr) (hpa:tr.pa≠-1) (hA:Back.IArg w a m L) (hno:a=none->m=0/\cap=0) (hf:Back.efault k t L u=0) (hlen:(Back.ebytes k t L u).length<=2000) (hl:N.lt.length<=1000000) :
 Calls Tryz.prog 152 #[.pointer (some ⟨b,0,none⟩),.pointer (some ⟨(P.tp i).p,0,none⟩),.agg #[.int .i64 k,.int .i64 t,.slice a m cap,.int .i64 u]] w fun e w'=>e=.returned (.tuple #[])/\Wrote w w' o n b P { N with lt:=N.lt++[(tr.pa,Back.ebytes k t L u)] }:=by
 obtain ⟨W0,hW0⟩:∃ W0,w.alloc (.cells #[.int .i64 k,.int .i64 t,.slice a m cap,.int .i64 u] 242)=W0:=⟨_,rfl⟩;have hB0:Below w.heap.size w W0:=by rw [<- hW0];exact (Below.refl _ _).alloc (Nat.le_refl _) _
 have hbx:W0.heap[w.heap.size]?=some (.cells #[.int .i64 k,.int .i64 t,.slice a m cap,.int .i64 u] 242 (0,0)):=by rw [<- hW0];exact heap_alloc_new w _
 have d0:W0.cell? ⟨w.heap.size,0,none⟩=some (.int .i64 k):=by simp [World.cell?,hbx]
 have d1:W0.cell? ⟨w.heap.size,1,none⟩=some (.int .i64 t):=by simp [World.cell?,hbx]
 have d2:W0.cell? ⟨w.heap.size,2,none⟩=some (.slice a m cap):=by simp [World.cell?,hbx]
 have d3:W0.cell? ⟨w.heap.size,3,none⟩=some (.int .i64 u):=by simp [World.cell?,hbx]
 have hT:=(hN.trs i hi tr ht).1
 have hbt:=(hB0.block (P.tp i).p (lt_of_block hT.box)).trans hT.box
 have t2:W0.cell? ⟨(P.tp i).p,2,none⟩=some (.int .i64 tr.pa):=by simp [World.cell?,hbt]
 have CE:=ξ0 (ξdv k t a m cap u L W0 (hA.below hB0) hno hf hlen)
 obtain ⟨F,hFF⟩:∃ F,Back.ebytes k t L u=F:=⟨_,rfl⟩;rw [hFF] at CE;rw [hFF];obtain ⟨pp,hpp⟩:∃ pp,(P.tp i).p=pp:=⟨_,rfl⟩;rw [hpp] at t2 hbt;rw [hpp];obtain ⟨pa,hpa'⟩:∃ pa,tr.pa=pa:=⟨_,rfl⟩;rw [hpa'] at t2 hpa;rw [hpa'];have e1:(pa==-1)=false:=by simpa using hpa
 obtain ⟨pb,hpb⟩:∃ pb,w.heap.size=pb:=⟨_,rfl⟩;rw [hpb] at d0 d1 d2 d3;have HB0:=ξ0 hB0
 have HW:=ξ0 hW0
 have HN:=ξ0 hN
 have HBT:=ξ0 hbt
 have HL:=ξ0 hl
 clear hA hno hf hlen hB0 hW0 hbx hFF hpp hN hT hbt ht hpa hpa' hl;go_enter Tryz.func152,Tryz.ntmps152
 go_upto_region 1 with fail
 rw [HW.out];go_wp2_with fail
 refine CE.out.mono ?_
 rintro e w1 ⟨a',m',c',rfl,hA1,hcp1,hcp2,hb1,hfr⟩;have hb01:=HB0.out.trans (hb1.mono HB0.out.size)
 have CW:=ξ0 (ξ3o n b (grow o w ξ2) P N pa a' m' c' F w1 hn (HN.out.chg (S:=fun _=>False) (Chg.of_below hb01 _ _) (fun g hg=>hg.elim) (ξ5 o w ξ2)) hA1 (fun _ ad e=>by rw [ξe (by have:=hfr ad e;have:=HB0.out.size;omega)]) ⟨hcp1,hcp2⟩ HL.out)
 have t3:=ξ9 hb1 t2
 have HB1:=ξ0 hb01
 clear hb1 hb01 hA1 hfr hcp1 hcp2 t2 d0 d1 d2 d3;go_wp2_with fail
 refine CW.out.mono ?_
 rintro e w2 ⟨rfl,o2,P2,r1,r2,r3⟩;have HD:Hid (Wrote w w2 o n b P { N with lt:=N.lt++[(pa,F)] }):=ξ0 ⟨o2,P2,r1,(ξ5 o w ξ2).trans r2 HB1.out.size,(Chg.of_below HB1.out _ _).trans r3 (ξ5 o w ξ2)⟩
 clear r1 r2 r3;go_wp2_with fail
 go_end0
 exact ⟨rfl,HD.out⟩
theorem ξ6Z (a:Option Addr) (n cap:Nat) (L:List Int) (x:Int) (w:World) (h:Gaps.IArg w a n L) :
 Calls Tryz.prog 185 #[.slice a n cap,.int .i64 x] w fun e w'=>∃ j:Int,e=.returned (.int .i64 j)/\(0<=j↔x∈L)/\w'=w:=by
 have hl:=h.2.1
 have hmax:=h.2.2
 have HH:=ξ0 h
 clear h;go_enter Tryz.func185,Tryz.ntmps185
 go_wp2_with fail
 go_loopg [8] n (fun g y wr=>∃ j:Nat,j+g=n/\y=.int .i64 (j:Int)/\x∉L.take j/\w=wr)
 case atStart=>exact ⟨0,by omega,rfl,by simp,rfl⟩
 case round=>
  obtain ⟨j,hjg,rfl,hno,rfl⟩:=hrel;by_cases hj:j<n
  ·have hjz:(j:Int)<(n:Int):=by omega
   obtain ⟨b,o,rfl,hcs⟩:=HH.out.at (by omega)
   have c0:=hcs j hj
   clear hcs;have hjl:j<L.length:=by omega
   obtain ⟨y,hy⟩:∃ y,L.getD j 0=y:=⟨_,rfl⟩;rw [hy] at c0;have hyj:L[j]?=some y:=by rw [<- hy,List.getD_eq_getElem?_getD,List.getElem?_eq_getElem hjl];rfl
   by_cases hxy:x=y
   ·have e1:(x==y)=true:=by simpa using hxy
    have hin:x∈L:=by rw [hxy];exact List.mem_of_getElem? hyj
    have HI:=ξ0 hin
    clear hxy hy hyj hno hin;go_wp2_with fail
    go_ret
    exact ⟨_,rfl,⟨fun _=>HI.out,fun _=>by omega⟩,rfl⟩
   ·have e1:(x==y)=false:=by simpa using hxy
    have hnx:x∉L.take (j+1):=by
     rw [List.take_add_one,hyj];simp [hno,hxy]
    have HX:=ξ0 hnx
    clear hxy hy hyj hno hnx;go_wp2_with fail
    go_roundg (n - (j+1))
    case measure=>omega
    case rel=>exact ⟨j+1,by omega,by go_num,HX.out,rfl⟩
  ·have hjz:¬ (j:Int)<(n:Int):=by omega
   have hnx:x∉L:=by rwa [List.take_of_length_le (by omega)] at hno
   have HX:=ξ0 hnx
   clear hno hnx;go_wp2_with fail
   go_ret
   exact ⟨_,rfl,⟨fun h=>absurd h (by omega),fun h=>absurd h HX.out⟩,rfl⟩
theorem ξ2o (a:Option Addr) (n cap:Nat) (L:List Int) (x:Int) (w:World) (h:Gaps.IArg w a n L) :
 Calls Tryz.prog 150 #[.slice a n cap,.int .i64 x] w fun e w'=>e=.returned (.bool (decide (x∈L)))/\w'=w:=by
 have C:=ξ0 (ξ6Z a n cap L x w h)
 clear h;go_enter Tryz.func150,Tryz.ntmps150
 go_wp2_with fail
 refine C.out.mono ?_
 rintro e w1 ⟨j,rfl,hj,rfl⟩;have hj':decide (0<=j)=decide (x∈L):=by simp only [hj]
 clear hj;go_wp2_with fail
 go_ret
 exact ⟨rfl,rfl⟩
theorem ξbD {w:World} {P:TP} {t:Tr} (h:TrAt w P t) {i:Int×RM.Pk} (hi:i∈t.rM) (hw:(Lit.int .i64 i.1).wf=true) :
 (Instr.lookup 172 (.map (some P.wm)) (.int .i64 i.1) false).run Tryz.prog w=.ok (.agg #[.int .i64 (t.wy i.1).1,.int .i64 (t.wy i.1).2]) w:=by
 obtain ⟨D,hown,hK,hE⟩:=h.way;obtain ⟨v',ps,hrun,hr⟩:=hown.lookup Gaps.law3 Tryz.underlying172 (zeroWY w) (GM.ξ2r 0 0) (Gaps.keyOf3 hw);have he:D.atKey (GM.key i.1) (.held (.agg #[.int .i64 0,.int .i64 0]))=.held (wv (t.wy i.1)):=hE i hi _
 rw [he] at hr;have e:=(GM.ξ3n hr).2
 simp only [Prod.mk.injEq,DataW.held.injEq] at e
 rw [hrun,<- e.1];rfl
def AgS (w':World) (pb pp wm:Nat) (p:RM.Pk) (a:Option Addr) (m c:Nat) (y og h:Int):Prop:=
 (w'.cell? ⟨pb,0,none⟩=some (.int .i64 p.s)/\w'.cell? ⟨pb,1,none⟩=some (.int .i64 p.t)/\w'.cell? ⟨pb,2,none⟩=some (.int .i64 p.l)/\w'.cell? ⟨pb,3,none⟩=some (.int .i64 p.q)/\w'.cell? ⟨pb,4,none⟩=some (.bool p.st)/\w'.cell? ⟨pb,5,none⟩=some (.slice a m c))/\w'.cell? ⟨pp,6,none⟩=some (.map (some wm))/\(Instr.lookup 172 (.map (some wm)) (.int .i64 y) false).run Tryz.prog w'=.ok (.agg #[.int .i64 og,.int .i64 h]) w'
theorem ags {W:World} {o:Nat->Tg} {n b i:Nat} {P:NP} {N:Nd} {tr:Tr} {pb:Nat} {p:RM.Pk} {a:Option Addr} {m c:Nat} {y og h:Int} (hN:NAt W o n b P N) (hi:i<8) (ht:N.tr i=some tr) (hbx:W.heap[pb]?=some (.cells #[.int .i64 p.s,.int .i64 p.t,.int .i64 p.l,.int .i64 p.q,.bool p.st,.slice a m c] 38 (0,0))) (hp:(y,p)∈tr.rM) (hw:tr.wy y=(og,h)) (hwf:(Lit.int .i64 y).wf=true):AgS W pb (P.tp i).p (P.tp i).wm p a m c y og h:=by
 have hT:=(hN.trs i hi tr ht).1
 have hl:=ξbD hT hp hwf
 rw [hw] at hl;refine ⟨⟨?_,?_,?_,?_,?_,?_⟩,?_,hl⟩
 any_goals (simp [World.cell?,hbx];done)
 simp [World.cell?,hT.box]
theorem ξ2h {i:Nat} (hi:i<8):wrap64 ((i:Int)+1 - 1)=(i:Int)/\wrap64 (i:Int)=(i:Int)/\(i:Int)<8:=by
 unfold wrap64;omega
end Go.Proofs.YtpiamlgmadnepaaGreat.ND
