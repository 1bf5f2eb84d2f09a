/-
 What the clock's At and Ask of package pull return, and what they leave in memory. Their condition: what is kept is such as it may be.
-/
import Derived.Test.YtpiamlgmadnepaaGreatPullAP
open Go.Proofs.Tryz
set_option linter.unusedVariables false
set_option maxHeartbeats 2000000
set_option maxRecDepth 100000
namespace Go.Proofs.YtpiamlgmadnepaaGreat.Pull
open Go.ChangeShapes Go.WideShapes Go.ChangeAt Go.RowKit Go.Maps Mem PU
theorem ξQ {fn:Func} {tmps:Array Value} {w:World} {g i j:Nat} {x:Int} (hf:fn.results=#[.cell i 89,.tmp j]) (hi:tmps.getD i undef=.pointer (some ⟨g,0,none⟩)) (hb:w.cell? ⟨g,0,none⟩=some (.int .i64 x)) :
 (results fn tmps).run prog w=.ok (.tuple #[.agg #[.int .i64 x],tmps.getD j undef]) w:=by
 have hi':tmps[i]?.getD undef=.pointer (some ⟨g,0,none⟩):=by simpa using hi
 simp [results,hf,hi',go_sem,hb]
theorem ξH (w:World) (x:Int) (O:Obj):((w.alloc O).alloc (.cells #[.int .i64 x] 89)).cell? ⟨w.heap.size+1,0,none⟩=some (.int .i64 x):=by
 have h:=heap_alloc_new (w.alloc O) (.cells #[.int .i64 x] 89)
 simp only [World.size_alloc] at h
 unfold World.cell?;simp only [h]
 simp
theorem ξC (w:World) (O1 O2:Obj):Below w.heap.size w ((w.alloc O1).alloc O2):=
 ((Ξp _ _).alloc (Ξo _) _).alloc (by simp) _
theorem ξF (nw now:Int) (w:World) :
 Calls prog 66 #[.agg #[.int .i64 nw],.int .i64 now] w fun e w'=>e=.returned (.tuple #[.agg #[.int .i64 (if tf nw now=0 then now else 0)],errv (tf nw now)])/\Below w.heap.size w w':=by
 by_cases c:now<0
 ·have e:tf nw now=1:=by unfold tf;rw [if_pos (.inl c)]
  rw [e];clear e;go_enter func66,ntmps66
  go_wp2_with fail
  refine bodyPost_ret (ξQ (g:=w.heap.size+1) rfl rfl (ξH w _ _)) rfl ?_
  exact ⟨rfl,ξC w _ _⟩
 by_cases c1:1000000<now
 ·have e:tf nw now=1:=by unfold tf;rw [if_pos (.inr c1)]
  rw [e];clear e;go_enter func66,ntmps66
  go_wp2_with fail
  refine bodyPost_ret (ξQ (g:=w.heap.size+1) rfl rfl (ξH w _ _)) rfl ?_
  exact ⟨rfl,ξC w _ _⟩
 by_cases c2:now<nw
 ·have e:tf nw now=6:=by unfold tf;rw [if_neg (by omega),if_pos c2]
  rw [e];clear e;go_enter func66,ntmps66
  go_wp2_with fail
  refine bodyPost_ret (ξQ (g:=w.heap.size+1) rfl rfl (ξH w _ _)) rfl ?_
  exact ⟨rfl,ξC w _ _⟩
 ·have e:tf nw now=0:=by unfold tf;rw [if_neg (by omega),if_neg c2]
  rw [e];clear e;go_enter func66,ntmps66
  go_wp2_with fail
  refine bodyPost_ret (ξQ (g:=w.heap.size+1) rfl rfl (ξH w _ _)) rfl ?_
  exact ⟨rfl,ξC w _ _⟩
theorem ξby (p:Value) (t now:Int) (w:World) (h:t<1∨8<t) :
 Calls prog 157 #[p,.int .i64 t,.int .i64 now] w fun e w'=>e=.returned (.tuple #[.bool false,errv 1])/\w'=w:=by
 have C1:=ξl t w
 have d:(decide (1<=t)&&decide (t<=8))=false:=by
  by_cases q:1<=t
  ·rw [decide_eq_false (show ¬ t<=8 by omega),Bool.and_false]
  ·rw [decide_eq_false q,Bool.false_and]
 rw [d] at C1;have HC1:=ξ0 C1
 clear C1 d h;go_enter func157,ntmps157
 go_wp2_with fail
 refine HC1.out.mono ?_
 rintro e w1 ⟨rfl,rfl⟩;go_wp2_with fail
 go_ret2
 exact ⟨rfl,rfl⟩
theorem ξdf (b:Nat) (nw t now:Int) (w:World) (c0:w.cell? ⟨b,0,none⟩=some (.int .i64 nw)) (h1:1<=t) (h2:t<=8) (ht:tf nw now≠0) :
 Calls prog 157 #[.pointer (some ⟨b,0,none⟩),.int .i64 t,.int .i64 now] w fun e w'=>e=.returned (.tuple #[.bool false,errv (tf nw now)])/\Below w.heap.size w w':=by
 have C1:=ξl t w
 rw [decide_eq_true h1,decide_eq_true h2] at C1;have HC1:=ξ0 C1
 have C2:=ξF nw now w
 rw [if_neg ht] at C2;have hcm:=fun w=>ξr (tf nw now) w
 have hgr:=fun o w=>ξq (tf nw now) o w
 rw [decide_eq_false ht] at hcm;clear C1;generalize errv (tf nw now)=ev at *
 have HC2:=ξ0 C2
 clear C2 ht h1 h2;go_enter func157,ntmps157
 go_wp2_with fail
 refine HC1.out.mono ?_
 rintro e w1 ⟨rfl,rfl⟩;go_wp2_with fail
 refine HC2.out.mono ?_
 rintro e w2 ⟨rfl,hb⟩;have HB:=ξ0 (ξa hb (.cells #[.int .i64 0] 89))
 clear hb;go_wp2_with fail
 go_ret2
 exact ⟨rfl,HB.out⟩
theorem ξfh (b i:Nat) (mb:Nat->Nat) (th nw now:Int) (td ak:Nat->Int) (L:Wts) (w:World) (h:ξ8 w b mb th nw td ak L) (hI:PU.Inv L) (hA:AInv th nw ak) (hi:i<8) (ht:tf nw now=0) (hl:L.length<=1000) :
 Calls prog 157 #[.pointer (some ⟨b,0,none⟩),.int .i64 ((i:Int)+1),.int .i64 now] w fun e w'=>∃ r ev,e=.returned (.tuple #[.bool r,ev])/\Hid ((of L ((i:Int)+1)=[]/\r=false/\ev=errv 5/\ξ8 w' b mb th nw td ak L/\Only (pblks b mb) w w') ∨
  (of L ((i:Int)+1)≠[]/\r=thru th (ak i) now/\ev=.nilIface/\ξ8 w' b mb th now td (if r=true then upd ak i now else ak) L/\Only (pblks b mb) w w')):=by
 obtain ⟨j1,j2,j3⟩:=ξE ht;have C1:=ξl ((i:Int)+1) w
 rw [decide_eq_true (show 1<=(i:Int)+1 by omega),decide_eq_true (show (i:Int)+1<=8 by omega)] at C1
 have HC1:=ξ0 C1
 have C2:=ξF nw now w
 rw [if_pos ht,ht,ξ4] at C2;have HC2:=ξ0 C2
 have HC3:=ξ0 (fun w=>ξ6D b i w hi)
 have HP:=ξ0 h
 have c0:=h.cells.1
 have hbw:=h.lt
 have ha:=hA.a1 i
 have hn2:=hA.n2
 have ht1:=hA.t1
 have ht2:=hA.t2
 obtain ⟨q,hq⟩:∃ q,thru th (ak i) now=q:=⟨_,rfl⟩;have hqd:=ξbX (th:=th) (a:=ak i) j1
 rw [hq] at hqd;have HQ:=ξ0 hq
 obtain ⟨lv,hlv⟩:∃ lv,lst th (ak i)=lv:=⟨_,rfl⟩;rw [hlv] at hqd;have hlb:-1000000<=lv/\lv<=1000000:=by rw [<- hlv];unfold lst;split<;>omega
 have HLv:=ξ0 hlv
 have HI:=ξ0 hI
 clear C1 C2 h hq hlv ht hA hI;go_enter func157,ntmps157
 go_wp2_with fail
 refine HC1.out.mono ?_
 rintro e w1 ⟨rfl,rfl⟩;go_wp2_with fail
 refine HC2.out.mono ?_
 rintro e w2 ⟨rfl,hb⟩;have HP2:Hid (ξ8 (w2.alloc (.cells #[.int .i64 now] 89)) b mb th nw td ak L):=(HP.out.below hb).below (ξa (Ξp _ _) _)
 have HB2:Hid (Below w1.heap.size w1 (w2.alloc (.cells #[.int .i64 now] 89))):=ξa hb _
 have HPw:Hid (ξ8 w2 b mb th nw td ak L):=HP.out.below hb
 have HBw:Hid (Below w1.heap.size w1 w2):=hb
 have HG:Hid (b<w2.heap.size):=Ξn hbw hb.size
 clear hb c0;go_wp2_with fail
 refine (HC3.out _).mono ?_
 rintro e w3 ⟨rfl,rfl⟩;have ct:=(HP2.out.track hi).1
 obtain ⟨D,hown,hK,hS⟩:=HP2.out.size HI.out hi;have HO:=ξ0 hown
 have HS:=ξ0 hS
 have hln:=ξaC L ((i:Int)+1)
 clear hown hK hS;obtain ⟨m,hm⟩:∃ m,(of L ((i:Int)+1)).length=m:=⟨_,rfl⟩;have HM:=ξ0 hm
 rw [hm] at hln;clear hm;by_cases hz:m=0
 ·subst hz;go_wp2_with (at_len;refine wpList_len_own _ rfl _ 196 rfl 3 3 underlying196 _ (mb i) (Maps.size D) D rfl HO.out ?_;rw [HS.out,HM.out])
  go_ret2
  exact ⟨_,_,rfl,.inl ⟨Ξk HM.out,rfl,rfl,HP2.out,Only.of_below HB2.out _⟩⟩
 ·have dz:((m:Int)==0)=false:=by simp;omega
  have dz2:(m==0)=false:=by simpa using hz
  have HNe:Hid (of L ((i:Int)+1)≠[]):=fun e=>hz (by have:=HM.out;rw [e] at this;exact this.symm)
  have k0:=HP2.out.cells.1
  have f0:=HP2.out.free 0
  have hG:=HG.out
  have HP3:Hid (ξ8 ((w2.setCell ⟨b,0,none⟩ (.int .i64 now)).alloc (.cells #[.int .i64 now] 89)) b mb th now td ak L):=(HPw.out.setN now).below (ξa (Ξp _ _) _)
  have HO3:Hid (Only (pblks b mb) w1 ((w2.setCell ⟨b,0,none⟩ (.int .i64 now)).alloc (.cells #[.int .i64 now] 89))):=((Only.of_below HBw.out _).setCell (ξ1f.2 (.inl rfl)) _).alloc _
  go_wp2_with (at_len;refine wpList_len_own _ rfl _ 196 rfl 3 3 underlying196 _ (mb i) (Maps.size D) D rfl HO.out ?_;rw [HS.out,HM.out])
  obtain ⟨w5,hw5⟩:∃ w5,(w2.setCell ⟨b,0,none⟩ (.int .i64 now)).alloc (.cells #[.int .i64 now] 89)=w5:=⟨_,rfl⟩;rw [hw5] at HP3 HO3 ⊢;clear hw5 HP2 HB2 HPw HBw HG HO HS k0 f0 hG ct dz dz2 hz HC1 HC2 HC3 HP;have r1:=HP3.out.cells.2
  have r2:=(HP3.out.track hi).2.2
  rw [HLv.out] at r2;have f2:=HP3.out.free (2+i*3+2)
  cases q with
  | false=>
    simp only [Bool.not_false] at hqd
    go_quiet (fail)
    go_wp2_with fail
    go_ret2
    refine ⟨_,_,rfl,.inr ⟨HNe.out,HQ.out.symm,rfl,?_,HO3.out.drewN _⟩⟩
    exact HP3.out.below (below_drewN (Ξp _ _) _)
  | true=>
    simp only [Bool.not_true] at hqd
    go_quiet (fail)
    go_wp2_with fail
    go_ret2
    refine ⟨_,_,rfl,.inr ⟨HNe.out,HQ.out.symm,rfl,?_,?_⟩⟩
    ·exact (HP3.out.below (below_drewN (Ξp _ _) _)).setA hi j1
    ·exact (HO3.out.drewN _).setCell (ξ1f.2 (.inl rfl)) _
theorem ξbA (b:Nat) (mb:Nat->Nat) (th nw t now:Int) (td ak:Nat->Int) (L:Wts) (w:World) (h:ξ8 w b mb th nw td ak L) (hI:PU.Inv L) (hA:AInv th nw ak) (hl:L.length<=1000) :
 Calls prog 157 #[.pointer (some ⟨b,0,none⟩),.int .i64 t,.int .i64 now] w fun e w'=>e=.returned (.tuple #[.bool (aB L th nw ak t now),errv (af L nw t now)])/\ξ8 w' b mb th (aN L nw t now) td (aK L th nw ak t now) L/\Only (pblks b mb) w w':=by
 have same:af L nw t now≠0->aB L th nw ak t now=false/\aN L nw t now=nw/\aK L th nw ak t now=ak:=by
  intro h0;have h1:aB L th nw ak t now=false:=by unfold aB;rw [decide_eq_false h0,Bool.false_and]
  refine ⟨h1,by unfold aN;rw [if_neg h0],by unfold aK;rw [h1,if_neg (by simp)]⟩
 by_cases h1:t<1∨8<t
 ·have e:af L nw t now=1:=by unfold af;rw [if_pos h1]
  obtain ⟨q1,q2,q3⟩:=same (by omega)
  rw [q1,q2,q3,e];refine (ξby _ t now w h1).mono ?_
  rintro e w' ⟨rfl,rfl⟩;exact ⟨rfl,h,Only.refl _ _⟩
 by_cases h2:tf nw now=0
 case neg=>
  have e:af L nw t now=tf nw now:=by unfold af;rw [if_neg h1,if_pos h2]
  obtain ⟨q1,q2,q3⟩:=same (by omega)
  rw [q1,q2,q3,e];refine (ξdf b nw t now w h.cells.1 (by omega) (by omega) h2).mono ?_
  rintro e w' ⟨rfl,hb⟩;exact ⟨rfl,h.below hb,Only.of_below hb _⟩
 obtain ⟨i,rfl⟩:∃ i:Nat,t=(i:Int)+1:=⟨(t - 1).toNat,by omega⟩
 have hi:i<8:=by omega
 have hx:ix ((i:Int)+1)=i:=by unfold ix;omega
 refine (ξfh b i mb th nw now td ak L w h hI hA hi h2 hl).mono ?_
 rintro e w' ⟨r,ev,rfl,hh⟩;rcases hh.out with ⟨g1,g2,g3,g4,g5⟩ | ⟨g1,g2,g3,g4,g5⟩
 ·have e:af L nw ((i:Int)+1) now=5:=by unfold af;rw [if_neg h1,if_neg (by simp [h2]),if_pos ((ξ5s hI).2 g1)]
  obtain ⟨q1,q2,q3⟩:=same (by omega)
  rw [q1,q2,q3,e,g2,g3];exact ⟨rfl,g4,g5⟩
 ·have e:af L nw ((i:Int)+1) now=0:=by unfold af;rw [if_neg h1,if_neg (by simp [h2]),if_neg (fun q=>g1 ((ξ5s hI).1 q))]
  have e1:aB L th nw ak ((i:Int)+1) now=r:=by unfold aB;rw [decide_eq_true e,Bool.true_and,hx,g2]
  have e2:aN L nw ((i:Int)+1) now=now:=by unfold aN;rw [if_pos e]
  have e3:aK L th nw ak ((i:Int)+1) now=if r=true then upd ak i now else ak:=by unfold aK;rw [e1,hx]
  rw [e1,e2,e3,e,g3];exact ⟨rfl,g4,g5⟩
end Go.Proofs.YtpiamlgmadnepaaGreat.Pull
