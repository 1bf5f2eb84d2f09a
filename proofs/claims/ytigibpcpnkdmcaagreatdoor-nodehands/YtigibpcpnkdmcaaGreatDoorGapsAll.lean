/-
  GapsB, GapsC, GapsE in one text.
-/
import Derived.Test.YtigibpcpnkdmcaaGreatDoorGapsAP
import Derived.RegionTactic
import Derived.Deep.AppendLies
import Derived.Deep.CutRange

namespace Go.Proofs.YtigibpcpnkdmcaaGreatDoor.Gaps
open Go.ChangeShapes Go.WideShapes Go.ChangeAt Go.RowKit Go.Maps Go.Sort Go.Shelf Go.Proofs.YtigibpcpnkdmcaaGreatDoor.Mem Go.Proofs.YtigibpcpnkdmcaaGreatDoor.GM
set_option linter.unusedVariables false
theorem GapsAt.turned {w w':World} {b mb:Nat} {ag tr nw T:Int} {M M':Its} {gv:Value} {G:List Int} (h:GapsAt w b mb ag tr nw T M gv G) (ho:Only [mb] w w') (hm:∃ D,w'.ownsMap Tryz.prog 3 akR mb M'.length D∧Keys D M'∧Elems D M'):GapsAt w' b mb ag tr nw T M' gv G:=by
  have hne:=h.ne
  exact ⟨ho.block h.box (by simp;exact hne.1),hm,ho.owns h.row (fun k hk=>by simp;exact (hne.2 k hk).2)⟩
theorem store_new {w:World} {b mb:Nat} {ag tr nw T:Int} {M:Its} {gv:Value} {G:List Int} (h:GapsAt w b mb ag tr nw T M gv G) (x:Lk) (hx:∀ i∈M,i.n≠x.n) (hw:(Lit.int .i64 x.n).wf=true) (hl:M.length≤1000) :
    ∃ w2,(Instr.mapUpdate 117 (.map (some mb)) (.int .i64 x.n) (.agg #[.int .i64 x.t,.int .i64 x.a])).run Tryz.prog w=.ok () w2∧GapsAt w2 b mb ag tr nw T (M++[x]) gv G∧Only [mb] w w2:=by
  obtain ⟨D,hown,hK,hE⟩:=h.map
  obtain ⟨w2,hrun,hown2,hturn⟩:=hown.store law3 Tryz.underlying117 (by unfold maxLen;omega) (keyOf3 hw) (akR_mk x.t x.a)
  have ho:Only [mb] w w2:=(Only.refl _ _).grown hturn.grown (by simp)
  refine ⟨w2,hrun,h.turned ho ⟨_,?_,keys_put hown.isMap hK x _,elems_put hown.isMap hE hx⟩,ho⟩
  simpa [lv] using hown2
theorem del_any {w w2:World} {b mb n:Nat} {ag tr nw T y:Int} {M:Its} {gv:Value} {G:List Int} {D:DataW Value} (h:GapsAt w b mb ag tr nw T M gv G) (hK:Keys D M) (hE:Elems D M) (hr:Ris M) (hown:w2.ownsMap Tryz.prog 3 akR mb n (D.del (key y))) (ho:Only [mb] w w2):GapsAt w2 b mb ag tr nw T (M.filter fun i=>decide (i.n≠y)) gv G:=by
  have hK2:=keys_strike hK y
  refine h.turned ho ⟨_,?_,hK2,elems_strike hE y⟩
  have ht:=GM.tight hown
  have hr2:Ris (M.filter fun i=>decide (i.n≠y)):=hr.filter _
  rw [hK2.size (hown.entries law3) hr2.apart] at ht
  exact ht
def RSt (w wr:World) (b mb:Nat) (ag tr nw T:Int) (M:Its) (gv:Value) (G:List Int) (k:Nat):Prop:=GapsAt wr b mb ag tr nw T (M++fresh T k) gv G∧Only [b,mb] w wr
theorem rst_step {w wr:World} {b mb k:Nat} {ag tr nw T:Int} {M:Its} {gv:Value} {G:List Int} (h:RSt w wr b mb ag tr nw T M gv G k) (hm:∀ x∈M,x.n≤T) (h0:-1≤T) (h1:T≤1099511627776) (hl:M.length+k≤1000) :
    ∃ w2,(Instr.mapUpdate 117 (.map (some mb)) (.int .i64 (T+1+(k:Int))) (.agg #[.int .i64 0,.int .i64 0])).run Tryz.prog wr=.ok () w2∧RSt w w2 b mb ag tr nw T M gv G (k+1):=by
  obtain ⟨g1,g2⟩:=h
  obtain ⟨w2,hrun,hg,ho⟩:=store_new g1 ⟨T+1+(k:Int),0,0⟩ (by
    intro i hi
    rcases List.mem_append.1 hi with hi | hi
    · have:=hm i hi;simp only;omega
    · obtain ⟨j,hj,rfl⟩:=mem_fresh.1 hi
      simp only
      omega) (wf_of (by simp only;omega) (by simp only;omega)) (by rw [List.length_append,fresh_len];omega)
  refine ⟨w2,hrun,?_,g2.trans (ho.mono (by simp))⟩
  rw [fresh_succ,← List.append_assoc]
  exact hg
set_option maxHeartbeats 1000000 in
set_option maxRecDepth 100000 in
theorem rise_calls (b mb:Nat) (ag tr nw T y:Int) (M:Its) (gv:Value) (G:List Int) (w:World) (h:GapsAt w b mb ag tr nw T M gv G) (hm:∀ x∈M,x.n≤T) (h0:-1≤T) (h1:T≤1099511627776) (h2:0≤y) (h3:y≤1099511627776) (hl:(M.length:Int)+lo T y≤200) :
    Calls Tryz.prog 59 #[.pointer (some ⟨b,0,none⟩),.int .i64 y] w fun e w'=>e=.returned (.tuple #[])∧GapsAt w' b mb ag tr nw y (M++fresh T (lo T y).toNat) gv G∧Only [b,mb] w w':=by
  have HC:=hidden (fun w h=>leftOut_calls b T y w h h0 h1 h2 h3)
  have hlo:=@lo_nn T y
  obtain ⟨K,hK⟩:∃ K:Nat,lo T y=(K:Int):=⟨(lo T y).toNat,by omega⟩
  rw [hK] at HC hl ⊢
  rw [Int.toNat_natCast]
  clear hK hlo
  have HS0:Hid (RSt w w b mb ag tr nw T M gv G 0):=⟨by simpa [fresh] using h,Only.refl _ _⟩
  have HM:=hidden hm
  have c3:=h.cells.2.2.2.1
  clear h hm
  go_enter Tryz.func59,Tryz.ntmps59
  go_wp2_with fail
  refine (HC.out _ (by exact c3)).mono ?_
  rintro e w1 ⟨rfl,rfl⟩
  clear c3
  go_wp2_with fail
  go_loopg [4,8] K (fun g _ i' wr=>∃ (k:Nat),k+g=K∧i'=.int .i64 (k:Int)∧Hid (RSt w1 wr b mb ag tr nw T M gv G k))
  case atStart=>exact ⟨0,by omega,rfl,HS0⟩
  case round=>
    obtain ⟨k,hkg,rfl,HS⟩:=hrel
    clear HS0
    obtain ⟨c0,c1,c2,c3,c4,c5⟩:=HS.out.1.cells
    have f3:=free6 HS.out.1.box 3
    clear c0 c1 c2 c5
    by_cases hk:k<K
    · have hkz:(k:Int)<(K:Int):=by omega
      have HSd:Hid (RSt w1 wr.drew b mb ag tr nw T M gv G k):=⟨HS.out.1.below (Below.refl _ _).drew,HS.out.2.drew⟩
      obtain ⟨w2,hrun,hst⟩:=rst_step HSd.out HM.out h0 h1 (by omega)
      have HS2:=hidden hst
      clear hst HSd HS
      go_wp2_with fail
      go_region
      all_goals go_wp2_with fail
      go_roundg (K - (k+1))
      case measure=>omega
      case rel=>exact ⟨k+1,by omega,by go_num,HS2⟩
    · have hkz:¬ (k:Int)<(K:Int):=by omega
      obtain rfl:k=K:=by omega
      go_wp2_with fail
      go_end0
      exact ⟨rfl,HS.out.1.set 3 _ rfl,HS.out.2.setCell (by simp) _⟩
theorem at_bad (nw now:Int) (w:World) (h:tf nw now≠0) :
    Calls Tryz.prog 23 #[.agg #[.int .i64 nw],.int .i64 now] w fun e w'=>e=.returned (.tuple #[.agg #[.int .i64 0],errv (tf nw now)])∧Below w.heap.size w w':=by
  have:=at_calls nw now w
  rw [if_neg h] at this
  exact this
theorem at_ok (nw now:Int) (w:World) (h:tf nw now=0) :
    Calls Tryz.prog 23 #[.agg #[.int .i64 nw],.int .i64 now] w fun e w'=>e=.returned (.tuple #[.agg #[.int .i64 now],.nilIface])∧Below w.heap.size w w':=by
  have:=at_calls nw now w
  rw [if_pos h,h,errv_zero] at this
  exact this
set_option maxHeartbeats 1000000 in
set_option maxRecDepth 100000 in
theorem hear_time (b:Nat) (nw y now:Int) (w:World) (h:w.cell? ⟨b,0,none⟩=some (.int .i64 nw)) (ht:tf nw now≠0) :
    Calls Tryz.prog 42 #[.pointer (some ⟨b,0,none⟩),.int .i64 y,.int .i64 now] w fun e w'=>e=.returned (.tuple #[.bool false,errv (tf nw now)])∧Below w.heap.size w w':=by
  have HC:=hidden (fun w=>at_bad nw now w ht)
  generalize tf nw now=f at *
  have hc:=cmp_ne f
  have hg:=grd_ne f
  have d:decide (f=0)=false:=by simpa using ht
  clear ht
  go_enter Tryz.func42,Tryz.ntmps42
  go_wp2_with fail
  refine (HC.out _).mono ?_
  rintro e w1 ⟨rfl,hb1⟩
  have HB:=hidden hb1
  clear hb1
  go_wp2_with fail
  go_ret2
  exact ⟨rfl,HB.out.alloc HB.out.size _⟩
set_option maxHeartbeats 1000000 in
set_option maxRecDepth 100000 in
theorem hear_range (b:Nat) (nw y now:Int) (w:World) (h:w.cell? ⟨b,0,none⟩=some (.int .i64 nw)) (ht:tf nw now=0) (hy:y<0∨1099511627776<y) :
    Calls Tryz.prog 42 #[.pointer (some ⟨b,0,none⟩),.int .i64 y,.int .i64 now] w fun e w'=>e=.returned (.tuple #[.bool false,errv 1])∧Below w.heap.size w w':=by
  have HC:=hidden (fun w=>at_ok nw now w ht)
  clear ht
  by_cases c:y<0
  · clear hy
    go_enter Tryz.func42,Tryz.ntmps42
    go_wp2_with fail
    refine (HC.out _).mono ?_
    rintro e w1 ⟨rfl,hb1⟩
    have HB:=hidden hb1
    clear hb1
    go_wp2_with fail
    go_ret2
    exact ⟨rfl,HB.out.alloc HB.out.size _⟩
  · have c':1099511627776<y:=by omega
    clear hy
    go_enter Tryz.func42,Tryz.ntmps42
    go_wp2_with fail
    refine (HC.out _).mono ?_
    rintro e w1 ⟨rfl,hb1⟩
    have HB:=hidden hb1
    clear hb1
    go_wp2_with fail
    go_ret2
    exact ⟨rfl,HB.out.alloc HB.out.size _⟩
set_option maxHeartbeats 1000000 in
set_option maxRecDepth 100000 in
theorem hear_full (b mb:Nat) (ag tr nw T y now:Int) (M:Its) (gv:Value) (G:List Int) (w:World) (h:GapsAt w b mb ag tr nw T M gv G) (hI:GM.Inv ag tr nw T M) (ht:tf nw now=0) (h0:0≤y) (h1:y≤1099511627776) (hl:200<(M.length:Int)+lo T y) :
    Calls Tryz.prog 42 #[.pointer (some ⟨b,0,none⟩),.int .i64 y,.int .i64 now] w fun e w'=>e=.returned (.tuple #[.bool false,errv 4])∧Below w.heap.size w w':=by
  have HC:=hidden (fun w=>at_ok nw now w ht)
  have HL:=hidden (fun w h=>leftOut_calls b T y w h hI.t1 hI.t2 h0 h1)
  have HG:=hidden h
  have c0:=h.cells.1
  have hlen:=hI.len
  have hlo:0≤lo T y∧lo T y≤2199023255552:=by
    have:=hI.t1
    have:=hI.t2
    refine ⟨lo_nn,?_⟩
    unfold lo;split<;>omega
  have HI:=hidden hI
  generalize lo T y=k at *
  obtain ⟨hk0,hk1⟩:=hlo
  clear ht h hI
  go_enter Tryz.func42,Tryz.ntmps42
  go_wp2_with fail
  refine (HC.out _).mono ?_
  rintro e w1 ⟨rfl,hb1⟩
  have HB:=hidden hb1
  clear hb1 c0
  have HG1:Hid (GapsAt (w1.alloc (.cells #[.int .i64 now] 51)) b mb ag tr nw T M gv G):=(HG.out.below HB.out).below ((Below.refl _ _).alloc (Nat.le_refl _) _)
  obtain ⟨c0,c1,c2,c3,c4,c5⟩:=HG1.out.cells
  obtain ⟨D,hown,hK,hE⟩:=HG1.out.map
  have hs:Maps.size D=M.length:=hK.size (hown.entries law3) HI.out.ris.apart
  have HO:=hidden hown
  have HS:=hidden hs
  clear hown hs hK hE
  go_wp2_with (at_len;refine wpList_len_own _ rfl _ 117 rfl 3 136 Tryz.underlying117 _ mb M.length D rfl HO.out ?_;rw [HS.out])
  refine (HL.out _ (by exact c3)).mono ?_
  rintro e w2 ⟨rfl,rfl⟩
  go_wp2_with fail
  go_ret2
  exact ⟨rfl,HB.out.alloc HB.out.size _⟩
set_option maxHeartbeats 2000000 in
set_option maxRecDepth 100000 in
theorem hear_rise (b mb:Nat) (ag tr nw T y now:Int) (M:Its) (gv:Value) (G:List Int) (w:World) (h:GapsAt w b mb ag tr nw T M gv G) (hI:GM.Inv ag tr nw T M) (ht:tf nw now=0) (h0:0≤y) (h1:y≤1099511627776) (hl:(M.length:Int)+lo T y≤200) (hT:T<y) :
    Calls Tryz.prog 42 #[.pointer (some ⟨b,0,none⟩),.int .i64 y,.int .i64 now] w fun e w'=>e=.returned (.tuple #[.bool true,.nilIface])∧GapsAt w' b mb ag tr now y (M++fresh T (lo T y).toNat) gv G∧Only [b,mb] w w':=by
  have HC:=hidden (fun w=>at_ok nw now w ht)
  have HL:=hidden (fun w h=>leftOut_calls b T y w h hI.t1 hI.t2 h0 h1)
  have HRi:=hidden (fun w h=>rise_calls b mb ag tr now T y M gv G w h (fun x hx=>by have:=hI.mem x hx;omega) hI.t1 hI.t2 h0 h1 hl)
  have HG:=hidden h
  have c0:=h.cells.1
  have hlen:=hI.len
  have hlo:0≤lo T y:=lo_nn
  have HI:=hidden hI
  obtain ⟨M2,hM2⟩:∃ M2,M++fresh T (lo T y).toNat=M2:=⟨_,rfl⟩
  rw [hM2] at HRi ⊢
  clear hM2
  generalize lo T y=k at *
  clear ht h hI
  go_enter Tryz.func42,Tryz.ntmps42
  go_wp2_with fail
  refine (HC.out _).mono ?_
  rintro e w1 ⟨rfl,hb1⟩
  have HB:=hidden hb1
  clear hb1 c0
  have HG1:Hid (GapsAt (w1.alloc (.cells #[.int .i64 now] 51)) b mb ag tr nw T M gv G):=(HG.out.below HB.out).below ((Below.refl _ _).alloc (Nat.le_refl _) _)
  obtain ⟨c0,c1,c2,c3,c4,c5⟩:=HG1.out.cells
  have f0:=free6 HG1.out.box 0
  obtain ⟨D,hown,hK,hE⟩:=HG1.out.map
  have hs:Maps.size D=M.length:=hK.size (hown.entries law3) HI.out.ris.apart
  have HO:=hidden hown
  have HS:=hidden hs
  clear hown hs hK hE
  go_wp2_with (at_len;refine wpList_len_own _ rfl _ 117 rfl 3 136 Tryz.underlying117 _ mb M.length D rfl HO.out ?_;rw [HS.out])
  refine (HL.out _ (by exact c3)).mono ?_
  rintro e w2 ⟨rfl,rfl⟩
  have hbw:b<w1.heap.size:=(HG.out.below HB.out).lt b (by simp [blks])
  have HG2:Hid (GapsAt ((w1.setCell ⟨b,0,none⟩ (.int .i64 now)).alloc (.cells #[.int .i64 now] 51)) b mb ag tr now T M gv G):=((HG.out.below HB.out).set 0 _ rfl).below ((Below.refl _ _).alloc (Nat.le_refl _) _)
  have k3:=HG2.out.cells.2.2.2.1
  have HO2:Hid (Only [b,mb] w ((w1.setCell ⟨b,0,none⟩ (.int .i64 now)).alloc (.cells #[.int .i64 now] 51))):=((Only.of_below HB.out _).setCell (by simp) _).alloc _
  go_wp2_with fail
  refine (HRi.out _ (by exact HG2.out)).mono ?_
  rintro e w3 ⟨rfl,hg3,ho3⟩
  have HG3:=hidden hg3
  have HO3:=hidden (HO2.out.trans ho3)
  clear hg3 ho3
  go_wp2_with fail
  go_ret2
  exact ⟨rfl,HG3.out,HO3.out⟩
set_option maxHeartbeats 2000000 in
set_option maxRecDepth 100000 in
theorem hear_old (b mb:Nat) (ag tr nw T y now:Int) (M:Its) (gv:Value) (G:List Int) (w:World) (h:GapsAt w b mb ag tr nw T M gv G) (hI:GM.Inv ag tr nw T M) (ht:tf nw now=0) (h0:0≤y) (h1:y≤1099511627776) (hT:¬ T<y) :
    Calls Tryz.prog 42 #[.pointer (some ⟨b,0,none⟩),.int .i64 y,.int .i64 now] w fun e w'=>e=.returned (.tuple #[.bool (has M y),.nilIface])∧GapsAt w' b mb ag tr now T (M.filter fun i=>decide (i.n≠y)) gv G∧Only [b,mb] w w':=by
  have HC:=hidden (fun w=>at_ok nw now w ht)
  have hlo:lo T y=0:=by unfold lo;rw [if_pos (.inr (by omega))]
  have hL:=fun w h=>leftOut_calls b T y w h hI.t1 hI.t2 h0 h1
  rw [hlo] at hL
  have HL:=hidden hL
  have HG:=hidden h
  have c0:=h.cells.1
  have hlen:=hI.len
  have HI:=hidden hI
  have hwf:=wf_of (y:=y) (by omega) (by omega)
  obtain ⟨hb,hhb⟩:∃ hb,has M y=hb:=⟨_,rfl⟩
  rw [hhb]
  have HHb:=hidden hhb
  clear ht h hI hlo hL hhb
  go_enter Tryz.func42,Tryz.ntmps42
  go_wp2_with fail
  refine (HC.out _).mono ?_
  rintro e w1 ⟨rfl,hb1⟩
  have HB:=hidden hb1
  clear hb1 c0
  have HG1:Hid (GapsAt (w1.alloc (.cells #[.int .i64 now] 51)) b mb ag tr nw T M gv G):=(HG.out.below HB.out).below ((Below.refl _ _).alloc (Nat.le_refl _) _)
  obtain ⟨c0,c1,c2,c3,c4,c5⟩:=HG1.out.cells
  have f0:=free6 HG1.out.box 0
  obtain ⟨D,hown,hK,hE⟩:=HG1.out.map
  have hs:Maps.size D=M.length:=hK.size (hown.entries law3) HI.out.ris.apart
  have HO:=hidden hown
  have HS:=hidden hs
  have HK:=hidden hK
  have HE:=hidden hE
  clear hown hs hK hE
  go_wp2_with (at_len;refine wpList_len_own _ rfl _ 117 rfl 3 136 Tryz.underlying117 _ mb M.length D rfl HO.out ?_;rw [HS.out])
  refine (HL.out _ (by exact c3)).mono ?_
  rintro e w2 ⟨rfl,rfl⟩
  have hbw:b<w1.heap.size:=(HG.out.below HB.out).lt b (by simp [blks])
  have HG2:Hid (GapsAt ((w1.setCell ⟨b,0,none⟩ (.int .i64 now)).alloc (.cells #[.int .i64 now] 51)) b mb ag tr now T M gv G):=((HG.out.below HB.out).set 0 _ rfl).below ((Below.refl _ _).alloc (Nat.le_refl _) _)
  have HO2:Hid (Only [b,mb] w ((w1.setCell ⟨b,0,none⟩ (.int .i64 now)).alloc (.cells #[.int .i64 now] 51))):=((Only.of_below HB.out _).setCell (by simp) _).alloc _
  have HOw2:Hid (((w1.setCell ⟨b,0,none⟩ (.int .i64 now)).alloc (.cells #[.int .i64 now] 51)).ownsMap Tryz.prog 3 akR mb M.length D):=by
    have hne:=HG1.out.ne.1
    have ho:Only [b] w1 (w1.setCell ⟨b,0,none⟩ (.int .i64 now)):=(Only.refl _ _).setCell (by simp) _
    obtain ⟨es,clock,h4,h5⟩:=HO.out
    have hmb:mb<w1.heap.size:=(HG.out.below HB.out).lt mb (by simp [blks])
    rw [Below.heap_alloc _ _ _ hmb] at h4
    exact World.ownsMap.alloc ⟨es,clock,ho.block h4 (by simp;exact fun e=>hne e.symm),h5⟩ _
  obtain ⟨v',ps,hrun,hr⟩:=HOw2.out.look_ok law3 Tryz.underlying117 (zeroAK _) (akR_mk 0 0) (keyOf3 hwf)
  obtain ⟨⟨t',a',rfl⟩,_⟩:=akR_inv hr
  rw [HK.out.at,HHb.out] at hrun
  have HOw3:Hid (∀ O,((((w1.setCell ⟨b,0,none⟩ (.int .i64 now)).alloc (.cells #[.int .i64 now] 51))).alloc O).ownsMap Tryz.prog 3 akR mb M.length D):=hidden (fun O=>HOw2.out.alloc O)
  have HG3:=hidden (fun O=>HG2.out.below ((Below.refl _ _).alloc (Nat.le_refl _) O))
  have k3:=HG2.out.cells.2.2.2.1
  have k40:=HG2.out.cells.2.2.2.2.1
  have k4:=fun O=>(HG3.out O).cells.2.2.2.2.1
  clear hr
  go_wp2_with (at_delete;refine wpList_delete_own _ rfl _ _ 117 3 rfl 136 law3 Tryz.underlying117 _ mb M.length D rfl (HOw3.out _) _ _ rfl (keyOf3 hwf) ?_;intro w4 hown4 hturn4)
  go_wp2_with fail
  go_ret2
  have ho4:=(Only.refl [mb] _).grown hturn4.grown (by simp)
  exact ⟨rfl,del_any (HG3.out _) HK.out HE.out HI.out.ris hown4 ho4,(HO2.out.alloc _).trans (ho4.mono (by simp))⟩
theorem hear_calls (b mb:Nat) (ag tr nw T y now:Int) (M:Its) (gv:Value) (G:List Int) (w:World) (h:GapsAt w b mb ag tr nw T M gv G) (hI:GM.Inv ag tr nw T M) :
    Calls Tryz.prog 42 #[.pointer (some ⟨b,0,none⟩),.int .i64 y,.int .i64 now] w fun e w'=>e=.returned (.tuple #[.bool (hB nw T M y now),errv (hf nw T M y now)]) ∧
      GapsAt w' b mb ag tr (hN nw T M y now) (hU nw T M y now) (hL nw T M y now) gv G∧Only [b,mb] w w':=by
  have same:∀ w',hf nw T M y now≠0→Below w.heap.size w w'→hB nw T M y now=false∧GapsAt w' b mb ag tr (hN nw T M y now) (hU nw T M y now) (hL nw T M y now) gv G∧Only [b,mb] w w':=by
    intro w' h0 hb
    unfold hB hN hU hL
    simp only [h0,decide_false,Bool.false_and,if_false]
    exact ⟨trivial,h.below hb,Only.of_below hb _⟩
  by_cases ht:tf nw now=0
  case neg=>
    have e1:hf nw T M y now=tf nw now:=by unfold hf;rw [if_pos ht]
    refine (hear_time b nw y now w h.cells.1 ht).mono ?_
    rintro e w' ⟨rfl,hb⟩
    obtain ⟨q1,q2⟩:=same w' (by rw [e1];exact ht) hb
    exact ⟨by rw [q1,e1],q2⟩
  by_cases hy:y<0∨1099511627776<y
  · have e1:hf nw T M y now=1:=by unfold hf;rw [if_neg (by simp [ht]),if_pos hy]
    refine (hear_range b nw y now w h.cells.1 ht hy).mono ?_
    rintro e w' ⟨rfl,hb⟩
    obtain ⟨q1,q2⟩:=same w' (by rw [e1];omega) hb
    exact ⟨by rw [q1,e1],q2⟩
  by_cases hl:200<(M.length:Int)+lo T y
  · have e1:hf nw T M y now=4:=by unfold hf;rw [if_neg (by simp [ht]),if_neg hy,if_pos hl]
    refine (hear_full b mb ag tr nw T y now M gv G w h hI ht (by omega) (by omega) hl).mono ?_
    rintro e w' ⟨rfl,hb⟩
    obtain ⟨q1,q2⟩:=same w' (by rw [e1];omega) hb
    exact ⟨by rw [q1,e1],q2⟩
  have e1:hf nw T M y now=0:=by unfold hf;rw [if_neg (by simp [ht]),if_neg hy,if_neg hl]
  have eN:hN nw T M y now=now:=by unfold hN;rw [if_pos e1]
  by_cases hT:T<y
  · have eB:hB nw T M y now=true:=by unfold hB hx;simp [e1,hT]
    have eU:hU nw T M y now=y:=by unfold hU GM.hT;rw [if_pos e1,if_pos hT]
    have eL:hL nw T M y now=M++fresh T (lo T y).toNat:=by unfold hL hM;rw [if_pos e1,if_pos hT]
    refine (hear_rise b mb ag tr nw T y now M gv G w h hI ht (by omega) (by omega) (by omega) hT).mono ?_
    rintro e w' ⟨rfl,h1,h2⟩
    rw [eB,e1,eN,eU,eL]
    exact ⟨rfl,h1,h2⟩
  · have eB:hB nw T M y now=has M y:=by unfold hB hx;simp [e1,hT]
    have eU:hU nw T M y now=T:=by unfold hU GM.hT;rw [if_pos e1,if_neg hT]
    have eL:hL nw T M y now=M.filter fun i=>decide (i.n≠y):=by unfold hL hM;rw [if_pos e1,if_neg hT]
    refine (hear_old b mb ag tr nw T y now M gv G w h hI ht (by omega) (by omega) hT).mono ?_
    rintro e w' ⟨rfl,h1,h2⟩
    rw [eB,e1,eN,eU,eL]
    exact ⟨rfl,h1,h2⟩
end Go.Proofs.YtigibpcpnkdmcaaGreatDoor.Gaps
