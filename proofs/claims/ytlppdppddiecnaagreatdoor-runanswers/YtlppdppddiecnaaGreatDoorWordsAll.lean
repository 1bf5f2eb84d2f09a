/-
  RunW, RunX, RunE, RunB in one text.
-/
import Derived.Test.YtlppdppddiecnaaGreatDoorRunIP
import Derived.Test.YtlppdppddiecnaaGreatDoorShelfBP
import Derived.Lib.AppendIntMem
import Derived.Test.YtlppdppddiecnaaGreatDoorTreeAll
import Derived.LoopTactic
import Derived.Deep.LoopGhost
import Derived.Deep.AppendLies
import Derived.Deep.RegionHeld3
import Derived.Deep.RegionLaw

namespace Go.Proofs.YtlppdppddiecnaaGreatDoor.Run
open Go.ChangeShapes Go.WideShapes Go.ChangeAt Go.RowKit Go.Proofs.YtlppdppddiecnaaGreatDoor.Mem Go.Proofs.YtlppdppddiecnaaGreatDoor.RN Go.Proofs.YtlppdppddiecnaaGreatDoor.RC
set_option linter.unusedVariables false

theorem next_calls (b:Nat) (W:Ws) (w:World) (h:WAt w b W) :
    Calls Tryz.prog 48 #[.pointer (some ⟨b,0,none⟩)] w fun e w'=>e=.returned (.string (bs W.next.1))∧WAt w' b W.next.2∧Only [b] w w':=by
  obtain ⟨a,cap,hb,hc,hc2,hs,hn⟩:=h.ex
  obtain ⟨c0,c1⟩:=cells2 hb
  have f0:=free2 hb 0
  have f1:=free2 hb 1
  have HH:=hidden h
  obtain ⟨R,bd⟩:=W
  cases R with
  | nil=>
    have e1:(Ws.mk [] bd).next=([],(Ws.mk [] bd).ill):=rfl
    rw [e1]
    clear e1 hs hb h
    go_enter Tryz.func48,Tryz.ntmps48
    go_wp2_with fail
    go_ret
    exact ⟨rfl,HH.out.ill,(Only.refl _ _).setCell (by simp) _⟩
  | cons x r=>
    have e1:(Ws.mk (x::r) bd).next=(x,⟨r,bd⟩):=rfl
    rw [e1]
    obtain ⟨bb,o,rfl,hx⟩:=hs.head
    have HT:=hidden hs.tail
    have HN:Hid (bb<b):=hidden (hn _ rfl)
    have hr:r.length+1≤cap:=by simpa using hc
    have HC:Hid (r.length≤cap - 1∧cap - 1≤4294967296):=hidden ⟨by omega,by omega⟩
    simp only [List.length_cons] at c0
    obtain ⟨n,hnn⟩:∃ n,r.length=n:=⟨_,rfl⟩
    rw [hnn] at c0 hr HC
    have HL:=hidden hnn
    clear e1 hs hb h hn hc hnn hc2
    by_cases hk:cap=1
    · subst hk
      have n0:n=0:=by omega
      subst n0
      go_enter Tryz.func48,Tryz.ntmps48
      go_wp2_with fail
      go_ret
      obtain rfl:=List.eq_nil_of_length_eq_zero HL.out
      exact ⟨rfl,HH.out.take (a':=some ⟨bb,o,none⟩) (c':=0) (by simp) (by simp) (SArg.nil _ _) (fun ad e=>by cases e;exact HN.out),(Only.refl _ _).setCell (by simp) _⟩
    · go_enter Tryz.func48,Tryz.ntmps48
      go_wp2_with fail
      go_ret
      have h2:=HH.out.take (a':=some ⟨bb,o+1,none⟩) (c':=cap - 1) (by rw [HL.out];exact HC.out.1) HC.out.2 HT.out (fun ad e=>by cases e;exact HN.out)
      rw [HL.out] at h2
      exact ⟨rfl,h2,(Only.refl _ _).setCell (by simp) _⟩

theorem itoa_calls (ea:Addr) (n:Int) (w:World) (g:GW ea w) (h0:-9223372036854775808≤n) (h1:n≤9223372036854775807) :
    Calls Tryz.prog 79 #[.int .i64 n] w fun e w'=>e=.returned (.string (bs (Lib.itoa n)))∧Below w.heap.size w w':=by
  refine (Tryz.strconv_Itoa n h0 h1 w g.tab).mono ?_
  rintro e w' ⟨rfl,k,os,rfl⟩
  exact ⟨rfl,Lib.below_grow _ _ (Nat.le_refl _) _ _⟩
theorem bs_toList (l:List UInt8):(bs l).toList=l:=ByteArray.toList_mk l
theorem str_no {y x:List UInt8} (h:y≠x):((bs y).toList==(bs x).toList)=false:=by rw [bs_toList,bs_toList];simpa using h
theorem bs_size (l:List UInt8):(bs l).size=l.length:=by simp [bs,ByteArray.size]
theorem atoi_ok (ea:Addr) (x:List UInt8) (v:Int) (w:World) (hx:x.length≤3000) (h:Lib.atoiAll x=.ok v) :
    Calls Tryz.prog 135 #[.string (bs x)] w fun e w'=>e=.returned (.tuple #[.int .i64 v,.nilIface])∧Below w.heap.size w w':=by
  have hd:=bs_data x
  have hz:=bs_size x
  refine (Tryz.strconv_Atoi_ok (bs x) (by omega) v (by rw [hd];exact h) w).mono ?_
  rintro e w' ⟨rfl,hw⟩
  refine ⟨rfl,?_⟩
  rcases hw with rfl | ⟨t,rfl⟩
  · exact Below.refl _ _
  · exact Lib.bytesWorld_below _ _ _
theorem atoi_bad (ea:Addr) (x:List UInt8) (w:World) (g:GW ea w) (hx:x.length≤3000) (h:∀ v,Lib.atoiAll x≠.ok v) :
    Calls Tryz.prog 135 #[.string (bs x)] w fun e w'=>∃ n tp p,e=.returned (.tuple #[.int .i64 n,.iface tp (.pointer (some p))])∧Below w.heap.size w w':=by
  have hd:=bs_data x
  have hz:=bs_size x
  cases h2:Lib.atoiAll x with
  | ok v=>exact absurd h2 (h v)
  | «syntax»=>
    obtain ⟨tp,p,hc⟩:=g.syn
    refine (Tryz.strconv_Atoi_syntax (bs x) (by omega) (by rw [hd];exact h2) _ w hc (.inr ⟨_,_,rfl⟩)).mono ?_
    rintro e w' ⟨N,rfl,_,_,hb⟩
    exact ⟨_,_,_,rfl,hb⟩
  | range=>
    obtain ⟨tp,p,hc⟩:=g.rng
    refine (Tryz.strconv_Atoi_range (bs x) (by omega) (by rw [hd];exact h2) _ w hc (.inr ⟨_,_,rfl⟩)).mono ?_
    rintro e w' ⟨N,rfl,_,_,hb⟩
    exact ⟨_,_,_,rfl,hb⟩
theorem numberOf_bad (ea:Addr) (b:Nat) (W:Ws) (x:List UInt8) (w:World) (h:WAt w b W) (g:GW ea w) (hx:x.length≤3000) (hv:∀ v,Lib.atoiAll x≠.ok v) :
    Calls Tryz.prog 104 #[.pointer (some ⟨b,0,none⟩),.string (bs x)] w fun e w'=>e=.returned (.int .i64 (W.numberOf x).1)∧WAt w' b (W.numberOf x).2∧Only [b] w w':=by
  have hnum:numL x=none:=by
    unfold numL
    cases h2:Lib.atoiAll x with
    | ok v=>exact absurd h2 (hv v)
    | «syntax»=>rfl
    | range=>rfl
  have e1:W.numberOf x=(0,W.ill):=by simp [Ws.numberOf,hnum]
  rw [e1]
  have C:=hidden (atoi_bad ea x w g hx hv)
  have H:=hidden h
  clear h e1 hnum hv g hx
  go_enter Tryz.func104,Tryz.ntmps104
  go_wp2_with fail
  refine C.out.mono ?_
  rintro e w1 ⟨n,tp,p,rfl,hb⟩
  have h1:=H.out.below hb
  obtain ⟨a,cap,hb1,-⟩:=h1.ex
  obtain ⟨-,c1⟩:=cells2 hb1
  have f1:=free2 hb1 1
  have H1:=hidden h1
  have HB:=hidden hb
  clear h1 hb hb1
  go_wp2_with fail
  go_ret
  exact ⟨rfl,H1.out.ill,(Only.of_below HB.out _).setCell (by simp) _⟩
theorem numberOf_ok (ea:Addr) (b:Nat) (W:Ws) (x:List UInt8) (w:World) (v:Int) (h:WAt w b W) (g:GW ea w) (hx:x.length≤3000) (hv:Lib.atoiAll x=.ok v) (h0:-9223372036854775808≤v) (h1:v≤9223372036854775807) :
    Calls Tryz.prog 104 #[.pointer (some ⟨b,0,none⟩),.string (bs x)] w fun e w'=>e=.returned (.int .i64 (W.numberOf x).1)∧WAt w' b (W.numberOf x).2∧Only [b] w w':=by
  have C:=hidden (atoi_ok ea x v w hx hv)
  have H:=hidden h
  have G:=hidden g
  have hnum:numL x=if v < -999999999∨999999999<v∨Lib.itoa v≠x then none else some v:=by simp [numL,hv]
  clear h g hx hv
  by_cases k1:v < -999999999
  · have e1:W.numberOf x=(0,W.ill):=by unfold Ws.numberOf;rw [hnum,if_pos (.inl k1)]
    rw [e1]
    have d1:decide (v < -999999999)=true:=by simpa using k1
    clear e1 hnum h0 h1 k1
    go_enter Tryz.func104,Tryz.ntmps104
    go_wp2_with fail
    refine C.out.mono ?_
    rintro e w1 ⟨rfl,hb⟩
    have h1:=H.out.below hb
    obtain ⟨a,cap,hb1,-⟩:=h1.ex
    obtain ⟨-,c1⟩:=cells2 hb1
    have f1:=free2 hb1 1
    have H1:=hidden h1
    have HB:=hidden hb
    clear h1 hb hb1
    go_wp2_with fail
    go_ret
    exact ⟨rfl,H1.out.ill,(Only.of_below HB.out _).setCell (by simp) _⟩
  · have d1:decide (v < -999999999)=false:=by simpa using k1
    by_cases k2:999999999<v
    · have e1:W.numberOf x=(0,W.ill):=by unfold Ws.numberOf;rw [hnum,if_pos (.inr (.inl k2))]
      rw [e1]
      have d2:decide (999999999<v)=true:=by simpa using k2
      clear e1 hnum h0 h1 k1 k2
      go_enter Tryz.func104,Tryz.ntmps104
      go_wp2_with fail
      refine C.out.mono ?_
      rintro e w1 ⟨rfl,hb⟩
      have h1:=H.out.below hb
      obtain ⟨a,cap,hb1,-⟩:=h1.ex
      obtain ⟨-,c1⟩:=cells2 hb1
      have f1:=free2 hb1 1
      have H1:=hidden h1
      have HB:=hidden hb
      clear h1 hb hb1
      go_wp2_with fail
      go_ret
      exact ⟨rfl,H1.out.ill,(Only.of_below HB.out _).setCell (by simp) _⟩
    · have d2:decide (999999999<v)=false:=by simpa using k2
      by_cases k3:Lib.itoa v=x
      · have e1:W.numberOf x=(v,W):=by unfold Ws.numberOf;rw [hnum,if_neg (by rintro (k | k | k);exact k1 k;exact k2 k;exact k k3)]
        rw [e1]
        have I:Hid (∀ w1,GW ea w1→_):=hidden (fun w1 g1=>itoa_calls ea v w1 g1 h0 h1)
        rw [k3] at I
        clear e1 hnum h0 h1 k1 k2
        go_enter Tryz.func104,Tryz.ntmps104
        go_wp2_with fail
        refine C.out.mono ?_
        rintro e w1 ⟨rfl,hb⟩
        have H1:=hidden (H.out.below hb)
        have HB:=hidden hb
        have I1:=hidden (I.out w1 (G.out.below hb))
        clear hb
        go_wp2_with fail
        refine I1.out.mono ?_
        rintro e w2 ⟨rfl,hb2⟩
        have H2:=hidden (H1.out.below hb2)
        have HB2:=hidden (Only.trans (Only.of_below HB.out [b]) (Only.of_below hb2 [b]))
        clear hb2
        go_wp2_with fail
        go_ret
        exact ⟨rfl,H2.out,HB2.out⟩
      · have e1:W.numberOf x=(0,W.ill):=by unfold Ws.numberOf;rw [hnum,if_pos (.inr (.inr k3))]
        rw [e1]
        have I:Hid (∀ w1,GW ea w1→_):=hidden (fun w1 g1=>itoa_calls ea v w1 g1 h0 h1)
        obtain ⟨y,hy⟩:∃ y,Lib.itoa v=y:=⟨_,rfl⟩
        rw [hy] at I k3
        have k4:=str_no k3
        clear e1 hnum h0 h1 k1 k2 hy k3
        go_enter Tryz.func104,Tryz.ntmps104
        go_wp2_with fail
        refine C.out.mono ?_
        rintro e w1 ⟨rfl,hb⟩
        have H1:=hidden (H.out.below hb)
        have HB:=hidden hb
        have I1:=hidden (I.out w1 (G.out.below hb))
        clear hb
        go_wp2_with fail
        refine I1.out.mono ?_
        rintro e w2 ⟨rfl,hb2⟩
        have h1:=H1.out.below hb2
        obtain ⟨a,cap,hb1,-⟩:=h1.ex
        obtain ⟨-,c1⟩:=cells2 hb1
        have f1:=free2 hb1 1
        have H2:=hidden h1
        have HB2:=hidden (Only.trans (Only.of_below HB.out [b]) (Only.of_below hb2 [b]))
        clear hb2 hb1 h1
        go_wp2_with fail
        go_ret
        exact ⟨rfl,H2.out.ill,HB2.out.setCell (by simp) _⟩
theorem atoi_lt {x:List UInt8} {v:Int} (h:Lib.atoiAll x=.ok v):-9223372036854775808≤v∧v≤9223372036854775807:=by
  cases x with
  | nil=>simp [Lib.atoiAll] at h
  | cons c r=>
    simp only [Lib.atoiAll] at h
    generalize Lib.parseMag _=pm at h
    cases pm with
    | «syntax»=>cases h
    | range=>cases h
    | ok u=>
      simp only at h
      by_cases hc:c.toNat=45
      · by_cases hu:9223372036854775808<u
        · simp [hc,hu] at h
        · simp [hc,hu] at h;omega
      · by_cases hu:9223372036854775808≤u
        · simp [hc,hu] at h
        · simp [hc,hu] at h;omega
theorem numberOf_calls (ea:Addr) (b:Nat) (W:Ws) (x:List UInt8) (w:World) (h:WAt w b W) (g:GW ea w) (hx:x.length≤3000) :
    Calls Tryz.prog 104 #[.pointer (some ⟨b,0,none⟩),.string (bs x)] w fun e w'=>e=.returned (.int .i64 (W.numberOf x).1)∧WAt w' b (W.numberOf x).2∧Only [b] w w':=by
  cases hv:Lib.atoiAll x with
  | ok v=>exact numberOf_ok ea b W x w v h g hx hv (atoi_lt hv).1 (atoi_lt hv).2
  | «syntax»=>exact numberOf_bad ea b W x w h g hx (by simp [hv])
  | range=>exact numberOf_bad ea b W x w h g hx (by simp [hv])
theorem next_sz {w:World} {b:Nat} {W:Ws} (h:WAt w b W):W.next.1.length≤3000:=by
  obtain ⟨R,bd⟩:=W
  cases R with
  | nil=>simp [Ws.next]
  | cons x r=>exact h.sz x (by simp)
theorem number_calls (ea:Addr) (b:Nat) (W:Ws) (w:World) (h:WAt w b W) (g:GW ea w) (hb:10≤b) :
    Calls Tryz.prog 76 #[.pointer (some ⟨b,0,none⟩)] w fun e w'=>e=.returned (.int .i64 W.number.1)∧WAt w' b W.number.2∧Only [b] w w':=by
  have C:=hidden (next_calls b W w h)
  have hz:=next_sz h
  have D:=hidden (fun w1 h1 g1=>numberOf_calls ea b W.next.2 W.next.1 w1 h1 g1 hz)
  have G:=hidden (fun w1 (ho:Only [b] w w1)=>g.only ho (by simpa using hb))
  have e1:W.next.2.numberOf W.next.1=W.number:=rfl
  rw [e1] at D
  generalize W.number=NW at D
  generalize W.next=XW at C D
  clear h g hz hb e1
  go_enter Tryz.func76,Tryz.ntmps76
  go_wp2_with fail
  refine C.out.mono ?_
  rintro e w1 ⟨rfl,h1,ho⟩
  have D1:=hidden (D.out w1 h1 (G.out w1 ho))
  have HO:=hidden ho
  clear h1 ho
  go_wp2_with fail
  refine D1.out.mono ?_
  rintro e w2 ⟨rfl,h2,ho2⟩
  have H2:=hidden h2
  have HO2:=hidden ho2
  clear h2 ho2
  go_wp2_with fail
  go_ret
  exact ⟨rfl,H2.out,HO.out.trans HO2.out⟩
theorem flag_calls (ea:Addr) (b:Nat) (W:Ws) (w:World) (h:WAt w b W) (g:GW ea w) (hb:10≤b) :
    Calls Tryz.prog 94 #[.pointer (some ⟨b,0,none⟩)] w fun e w'=>e=.returned (.bool W.flag.1)∧WAt w' b W.flag.2∧Only [b] w w':=by
  have C:=hidden (number_calls ea b W w h g hb)
  have e1:W.flag=(decide (W.number.1=1),if W.number.1≠0∧W.number.1≠1 then W.number.2.ill else W.number.2):=rfl
  rw [e1]
  obtain ⟨NW,hN⟩:∃ x,W.number=x:=⟨_,rfl⟩
  rw [hN] at C ⊢
  obtain ⟨n,V⟩:=NW
  simp only at C ⊢
  clear h g hb e1 hN
  by_cases k0:n=0
  · subst k0
    go_enter Tryz.func94,Tryz.ntmps94
    go_wp2_with fail
    refine C.out.mono ?_
    rintro e w1 ⟨rfl,h1,ho⟩
    have H1:=hidden h1
    have HO:=hidden ho
    clear h1 ho
    go_wp2_with fail
    go_ret
    exact ⟨rfl,H1.out,HO.out⟩
  · by_cases k1:n=1
    · subst k1
      go_enter Tryz.func94,Tryz.ntmps94
      go_wp2_with fail
      refine C.out.mono ?_
      rintro e w1 ⟨rfl,h1,ho⟩
      have H1:=hidden h1
      have HO:=hidden ho
      clear h1 ho
      go_wp2_with fail
      go_ret
      exact ⟨rfl,H1.out,HO.out⟩
    · rw [if_pos ⟨k0,k1⟩]
      have d0:decide (n=0)=false:=by simpa using k0
      have d1:decide (n=1)=false:=by simpa using k1
      have b0:(n==0)=false:=by simpa using k0
      have b1:(n==1)=false:=by simpa using k1
      have b2:(n != 0)=true:=by simpa using k0
      have b3:(n != 1)=true:=by simpa using k1
      rw [d1]
      go_enter Tryz.func94,Tryz.ntmps94
      go_wp2_with fail
      refine C.out.mono ?_
      rintro e w1 ⟨rfl,h1,ho⟩
      obtain ⟨a,cap,hb1,-⟩:=h1.ex
      obtain ⟨-,c1⟩:=cells2 hb1
      have f1:=free2 hb1 1
      have H1:=hidden h1
      have HO:=hidden ho
      clear h1 ho hb1
      go_wp2_with fail
      go_ret
      exact ⟨rfl,H1.out.ill,HO.out.setCell (by simp) _⟩
theorem end_calls (ea:Addr) (b:Nat) (W:Ws) (w:World) (h:WAt w b W) (g:GW ea w) :
    Calls Tryz.prog 77 #[.pointer (some ⟨b,0,none⟩)] w fun e w'=>e=.returned (if W.left then badV ea else .nilIface)∧w'=w:=by
  obtain ⟨a,cap,hb,-⟩:=h.ex
  obtain ⟨c0,c1⟩:=cells2 hb
  have cb:=g.bad
  have e1:W.left=(W.bad||decide (0<W.rest.length)):=rfl
  rw [e1]
  clear e1 hb h g
  generalize W.bad=bd at c1 ⊢
  generalize W.rest.length=n at c0 ⊢
  unfold badV at cb ⊢
  cases bd with
  | true=>
    clear c0
    go_enter Tryz.func77,Tryz.ntmps77
    go_wp2_with fail
    go_ret
    exact ⟨rfl,rfl⟩
  | false=>
    by_cases k:0<n
    · have d1:decide (0<n)=true:=by simpa using k
      go_enter Tryz.func77,Tryz.ntmps77
      go_wp2_with fail
      go_ret
      exact ⟨by simp,rfl⟩
    · have d1:decide (0<n)=false:=by simpa using k
      obtain rfl:n=0:=by omega
      go_enter Tryz.func77,Tryz.ntmps77
      go_wp2_with fail
      go_ret
      exact ⟨by simp,rfl⟩

theorem str_ne {x:List UInt8} (h:x≠[]):(bs x).toList.isEmpty=false:=by rw [bs_toList];simpa using h
theorem split_calls (ea:Addr) (c:UInt8) (x:List UInt8) (w:World) (g:GW ea w) (hx:x.length≤3000) :
    Calls Tryz.prog 75 #[.string (bs x),.string ⟨#[c]⟩] w fun e w'=>e=.returned (.slice (some ⟨w.heap.size,0,none⟩) (cutL c x).length (cutL c x).length)∧w'=w.alloc (.cells ((cutL c x).map fun y=>Value.string (bs y)).toArray 9):=by
  obtain ⟨m,hm⟩:=g.most
  refine (Tryz.strings_Split (bs x) ⟨#[c]⟩ m w (by rw [bs_size];omega) hm (Nat.le_refl 1)).mono ?_
  rintro e w' ⟨rfl,rfl⟩
  have h1:Lib.countB (bs x) ⟨#[c]⟩+1=(cutL c x).length:=by
    rw [cutL_len c x.length x (Nat.le_refl _)]
    unfold Lib.countB
    rw [bs_data]
  rw [cut_bs,h1,List.map_map]
  exact ⟨rfl,rfl⟩
theorem newWords_calls (ea:Addr) (x:List UInt8) (w:World) (g:GW ea w) (hx:x.length≤3000) :
    Calls Tryz.prog 47 #[.string (bs x)] w fun e w'=>∃ b,e=.returned (.pointer (some ⟨b,0,none⟩))∧w.heap.size≤b∧WAt w' b (ws0 x)∧Below w.heap.size w w':=by
  have C:=hidden (split_calls ea 32 x w g hx)
  have hl:=cutL_many 32 x
  have hs:=cutL_sz 32 x.length x (Nat.le_refl _)
  have e0:ws0 x=⟨cutL 32 x,false⟩:=rfl
  rw [e0]
  generalize cutL 32 x=l at C hl hs ⊢
  have HS:Hid (∀ y∈l,y.length≤3000):=hidden (fun y hy=>by have:=hs y hy;omega)
  have HL:Hid (l.length≤4294967296):=hidden (by omega)
  clear g hx hl hs e0
  go_enter Tryz.func47,Tryz.ntmps47
  go_wp2_with fail
  refine C.out.mono ?_
  rintro e w1 ⟨rfl,h1⟩
  have hb:Below w.heap.size w w1:=by rw [h1];exact (Below.refl _ _).alloc (Nat.le_refl _) _
  have hA:SArg w1 (some ⟨w.heap.size,0,none⟩) l:=by rw [h1];exact sarg_new w l 9
  have hz:w1.heap.size=w.heap.size+1:=by rw [h1];simp
  have HB:=hidden hb
  have HA:=hidden hA
  have HZ:=hidden hz
  clear h1 hb hA hz
  go_wp2_with fail
  go_ret
  refine ⟨w1.heap.size,rfl,HB.out.size,⟨⟨_,l.length,heap_alloc_new _ _,Nat.le_refl _,HL.out,?_,?_⟩,HS.out⟩,HB.out.alloc HB.out.size _⟩
  · exact HA.out.only ((Only.refl [] w1).alloc _) (fun _ _=>by simp)
  · rintro ad e
    cases e
    show w.heap.size<w1.heap.size
    have:=HZ.out;omega

structure LSt (w wr:World) (b B:Nat) (V:Ws) (P:List (List UInt8)) (L:List Int) (v:Value):Prop where
  ws:WAt wr b V
  only:Only [b] w wr
  own:wr.ownsRow (B+1) 3 1 v L.length (Tree.ic L)
  parts:SArg wr (some ⟨B,0,none⟩) P
  lt:b<w.heap.size∧w.heap.size≤B∧B<wr.heap.size
theorem LSt.num {w wr w':World} {b B:Nat} {V V':Ws} {P:List (List UInt8)} {L:List Int} {v:Value} (h:LSt w wr b B V P L v) (hw:WAt w' b V') (ho:Only [b] wr w'):LSt w w' b B V' P L v:=
  ⟨hw,h.only.trans ho,ho.owns h.own (fun k hk=>by have:=(h.own.lt k hk).1;have:=h.lt;simp;omega),h.parts.only ho (fun ad e=>by cases e;have:=h.lt;simp;omega),h.lt.1,h.lt.2.1,Nat.lt_of_lt_of_le h.lt.2.2 ho.2.2.2.1⟩
theorem LSt.app {w wr w':World} {b B:Nat} {V:Ws} {P:List (List UInt8)} {L:List Int} {v v':Value} {O:Obj} {y:Int} (h:LSt w wr b B V P L v)
    (hown:w'.ownsRow (B+1) 3 1 v' (L.length+1) (Tree.ic L++[.int .i64 y])) (hg:(wr.alloc O).grownBy w' v.ownBlock):LSt w w' b B V P (L++[y]) v':=by
  obtain ⟨l1,l2,l3⟩:=h.lt
  obtain ⟨R,hR,ho⟩:∃ R:List Nat,(∀ k∈R,B<k)∧Only R wr w':=by
    cases hv:v.ownBlock with
    | none=>exact ⟨[],by simp,((Only.refl [] wr).alloc O).grown hg (fun k e=>by rw [hv] at e;cases e)⟩
    | some k=>exact ⟨[k],by have:=(h.own.lt k hv).1;simp;omega,((Only.refl [k] wr).alloc O).grown hg (fun j e=>by rw [hv] at e;cases e;simp)⟩
  refine ⟨h.ws.over ho (fun k hk=>by have:=hR k hk;omega),?_,?_,h.parts.only ho (fun ad e hm=>by cases e;have:=hR _ hm;simp at this),l1,l2,Nat.lt_of_lt_of_le l3 ho.2.2.2.1⟩
  · have hs:=h.only.2.2.2.1
    refine ⟨ho.1.trans h.only.1,ho.2.1.trans h.only.2.1,ho.2.2.1.trans h.only.2.2.1,Nat.le_trans hs ho.2.2.2.1,fun k hk hm=>?_⟩
    rw [ho.2.2.2.2 k (by omega) (fun hm2=>by have:=hR k hm2;omega)]
    exact h.only.2.2.2.2 k hk hm
  · rw [List.length_append,Tree.ic_app]
    exact hown
theorem getD_take_succ {P:List (List UInt8)} {i:Nat} (h:i<P.length):P.take (i+1)=P.take i++[P.getD i []]:=by
  rw [List.getD_eq_getElem?_getD,List.getElem?_eq_getElem h,Option.getD_some,List.take_append_getElem h]
set_option maxRecDepth 100000 in
set_option maxHeartbeats 1000000 in
theorem list_some (ea:Addr) (b:Nat) (W:Ws) (w:World) (h:WAt w b W) (g:GW ea w) (hb:10≤b) (hne:W.next.1≠[]) :
    Calls Tryz.prog 86 #[.pointer (some ⟨b,0,none⟩)] w fun e w'=>∃ v,e=.returned v∧w'.ownsRow w.heap.size 3 1 v W.list.1.length (Tree.ic W.list.1)∧WAt w' b W.list.2∧Only [b] w w':=by
  have C:=hidden (next_calls b W w h)
  have hlt:=h.lt
  have hz:=next_sz h
  have e1:W.list=W.next.2.nums (cutL 44 W.next.1):=by unfold Ws.list;rw [if_neg hne]
  rw [e1]
  have G:=hidden (fun w1 (ho:Only [b] w w1)=>g.only ho (by simpa using hb))
  obtain ⟨XW,hXW⟩:∃ X,W.next=X:=⟨_,rfl⟩
  rw [hXW] at C hz hne ⊢
  obtain ⟨x,V⟩:=XW
  simp only at C hz hne ⊢
  have hs:=cutL_sz 44 x.length x (Nat.le_refl _)
  have hm:=cutL_many 44 x
  have S:=hidden (fun w1 g1=>split_calls ea 44 x w1 g1 hz)
  generalize cutL 44 x=P at S hs hm ⊢
  have HP:Hid (∀ i,i<P.length→(P.getD i []).length≤3000):=hidden (fun i hi=>by
    have:=hs (P.getD i []) (by rw [List.getD_eq_getElem?_getD,List.getElem?_eq_getElem hi];simp)
    omega)
  have HM:Hid (P.length≤4000):=hidden (by omega)
  have hx0:=str_ne hne
  have HLT:=hidden hlt
  have HGB:=hidden hb
  clear h g e1 hz hne hs hm hlt hb hXW
  obtain ⟨i0,hii,hz0,hz1,hz2⟩:=info_parts Tree.info3
  obtain ⟨n,hn⟩:∃ n,P.length=n:=⟨_,rfl⟩
  rw [hn] at HP HM S
  have hn4:n≤4000:=HM.out
  have HNN:=hidden hn
  clear hn
  go_enter Tryz.func86,Tryz.ntmps86
  go_wp2_with fail
  refine C.out.mono ?_
  rintro e w1 ⟨rfl,h1,ho⟩
  have S1:=hidden (S.out w1 (G.out w1 ho))
  have H1:=hidden h1
  have HO:=hidden ho
  clear h1 ho
  go_wp2_with fail
  refine S1.out.mono ?_
  rintro e w2 ⟨rfl,h2⟩
  have H0:Hid (LSt w w2 b w1.heap.size (V.nums (P.take 0)).2 P (V.nums (P.take 0)).1 (.slice none 0 0)):=by
    have hz:w1.heap.size<w2.heap.size:=by rw [h2];simp
    have o2:Only [] w1 w2:=by rw [h2];exact (Only.refl [] w1).alloc _
    refine ⟨H1.out.over o2 (by simp),HO.out.trans (o2.mono (by simp)),World.ownsRow_nil _ _ _ _,?_,HLT.out,HO.out.2.2.2.1,hz⟩
    rw [h2];exact sarg_new w1 P 9
  obtain ⟨B,hB⟩:∃ B,w1.heap.size=B:=⟨_,rfl⟩
  rw [hB] at H0 ⊢
  have HG2:Hid (∀ wr,Only [b] w wr→GW ea wr):=G
  clear h2 hB
  go_wp2_with fail
  go_loopg [4,14] n (fun g u y wr=>∃ (i:Nat) (v:Value),i+g=n∧v=u∧y=.int .i64 (i:Int)∧Hid (LSt w wr b B (V.nums (P.take i)).2 P (V.nums (P.take i)).1 v))
  case atStart=>exact ⟨0,_,by omega,rfl,rfl,H0⟩
  case round=>
    obtain ⟨i,v,hig,rfl,rfl,HS⟩:=hrel
    by_cases hi:i<n
    · have hiz:(i:Int)<(n:Int):=by omega
      obtain ⟨bb,oo,ea',c0⟩:=HS.out.parts i (by have:=HNN.out;omega)
      cases ea'
      have hst:=Ws.nums_snoc (P.getD i []) (P.take i) V
      rw [← getD_take_succ (by have:=HNN.out;omega)] at hst
      have N:=hidden (numberOf_calls ea b _ (P.getD i []) wr HS.out.ws (HG2.out wr HS.out.only) (HP.out i hi))
      have hln:=Ws.nums_len (P.take i) V
      obtain ⟨y,hy⟩:∃ y,P.getD i []=y:=⟨_,rfl⟩
      rw [hy] at c0 hst N
      obtain ⟨VL,hVL⟩:∃ VL,V.nums (P.take i)=VL:=⟨_,rfl⟩
      rw [hVL] at hst HS N hln
      have HT:=hidden hst
      have HLN:=hidden hln
      clear hst hy hVL hln
      rw [Nat.zero_add] at c0
      go_wp2_with fail
      refine N.out.mono ?_
      rintro e w3 ⟨rfl,h3,ho3⟩
      have HS3:=hidden (HS.out.num h3 ho3)
      have hbase:B+1≤w3.heap.size:=HS3.out.lt.2.2
      have hll:VL.1.length=i:=by rw [HLN.out,List.length_take];have:=HNN.out;omega
      obtain ⟨z,hz⟩:∃ z,(VL.2.numberOf y).1=z:=⟨_,rfl⟩
      rw [hz]
      have HZ:=hidden hz
      clear h3 ho3 hz
      go_wp2_with (at_builtin;refine wpList_append_own _ rfl _ _ 47 rfl (B+1) 3 i0 _ 1 8 Tryz.underlying47 hii hz0 hz1 hz2 rfl (by decide) _ VL.1.length (Tree.ic VL.1) rfl (HS3.out.own.alloc _) ⟨w3.heap.size,0,none⟩ 1 1 [.int .i64 z] rfl rfl ?cc ?one ?b1 ?b2 ?b3 ?next)
      case cc=>exact Tree.lit1 _
      case one=>simp [Value.oneCell']
      case b1=>unfold maxLen;omega
      case b2=>omega
      case b3=>simp;omega
      case next=>
      intro v3 w4 hown hgrow _
      have HSn:Hid (LSt w w4 b B (V.nums (P.take (i+1))).2 P (V.nums (P.take (i+1))).1 v3):=by
        rw [HT.out]
        simp only
        rw [HZ.out]
        exact HS3.out.app (by rw [hll];exact hown) hgrow
      clear hown hgrow hbase hll
      go_wp2_with fail
      go_roundg (n - (i+1))
      case measure=>omega
      case rel=>exact ⟨i+1,v3,by omega,rfl,by go_num,HSn⟩
    · have hiz:¬ (i:Int)<(n:Int):=by omega
      obtain rfl:i=n:=by omega
      go_wp2_with fail
      go_ret
      have h9:=HS.out
      rw [List.take_of_length_le (by have:=HNN.out;omega)] at h9
      exact ⟨v,rfl,Tree.own_base h9.own (by have:=h9.lt;omega),h9.ws,h9.only⟩
theorem list_none (ea:Addr) (b:Nat) (W:Ws) (w:World) (h:WAt w b W) (hne:W.next.1=[]) :
    Calls Tryz.prog 86 #[.pointer (some ⟨b,0,none⟩)] w fun e w'=>∃ v,e=.returned v∧w'.ownsRow w.heap.size 3 1 v W.list.1.length (Tree.ic W.list.1)∧WAt w' b W.list.2∧Only [b] w w':=by
  have C:=hidden (next_calls b W w h)
  have e1:W.list=([],W.next.2):=by unfold Ws.list;rw [if_pos hne]
  rw [e1]
  rw [hne] at C
  have hx0:(bs []).toList.isEmpty=true:=by rw [bs_toList];rfl
  generalize W.next.2=V at C ⊢
  clear h e1 hne
  go_enter Tryz.func86,Tryz.ntmps86
  go_wp2_with fail
  refine C.out.mono ?_
  rintro e w1 ⟨rfl,h1,ho⟩
  have H1:=hidden h1
  have HO:=hidden ho
  clear h1 ho
  go_wp2_with fail
  go_ret
  exact ⟨_,rfl,World.ownsRow_nil _ _ _ _,H1.out,HO.out⟩
theorem list_calls (ea:Addr) (b:Nat) (W:Ws) (w:World) (h:WAt w b W) (g:GW ea w) (hb:10≤b) :
    Calls Tryz.prog 86 #[.pointer (some ⟨b,0,none⟩)] w fun e w'=>∃ v,e=.returned v∧w'.ownsRow w.heap.size 3 1 v W.list.1.length (Tree.ic W.list.1)∧WAt w' b W.list.2∧Only [b] w w':=by
  by_cases hne:W.next.1=[]
  · exact list_none ea b W w h hne
  · exact list_some ea b W w h g hb hne

theorem undIS:Tryz.prog.underlying 47=some (.slice (Tryz.prog.elem 47)):=by kernel_rfl
theorem elemIS:Tryz.prog.elem 47=3:=by kernel_rfl
theorem size3 (w:World):(sizeOf 3).run Tryz.prog w=.ok 1 w:=by
  obtain ⟨i0,hii,hz0,hz1,hz2⟩:=info_parts Tree.info3
  simp [sizeOf,typeInfo,hii,hz1]
def cutTo (a:Option Addr) (cap l:Nat):Option Addr:=if cap=l then a else a.map (·.add l)
theorem cut_ints (a:Option Addr) (len cap l:Nat) (hl:l≤len) (w:World) :
    (Instr.slice 47 (.slice a len cap) (some (.int .i64 (l:Int))) none none).run Tryz.prog w=.ok (.slice (cutTo a cap l) (len - l) (cap - l)) w:=by
  rw [run_slice_l w 47 a len cap undIS .i64 l (by omega) (by omega),elemIS,size3]
  simp [Result.andThen,sliced,cutTo]
theorem ints_drop {w:World} {a:Option Addr} {cap l:Nat} {L:List Int} (h:Tree.Ints w a L) (hc:L.length≤cap) (hl:l≤L.length):Tree.Ints w (cutTo a cap l) (L.drop l):=by
  intro j hj
  rw [List.length_drop] at hj
  obtain ⟨b,o,rfl,hx⟩:=h (l+j) (by omega)
  have hne:cap≠l:=by omega
  refine ⟨b,o+l,by simp [cutTo,hne,Addr.add],?_⟩
  rw [show o+l+j=o+(l+j) by omega,hx]
  simp [TM.dg,List.getD_eq_getElem?_getD]

structure ESt (w wr:World) (b B:Nat) (V:Ws) (R:List Int) (a:Option Addr) (c:Nat) (E:List TM.Ed) (v:Value):Prop where
  ws:WAt wr b V
  only:Only [b] w wr
  own:wr.ownsRow B 92 3 v E.length (Tree.mc E)
  rest:Tree.Ints wr a R
  cap:R.length≤c
  low:∀ ad,a=some ad→ad.block<B
  lt:b<w.heap.size∧w.heap.size≤B∧B≤wr.heap.size
theorem ints_only {w w':World} {a:Option Addr} {R:List Int} {L:List Nat} (h:Tree.Ints w a R) (ho:Only L w w') (hL:∀ ad,a=some ad→ad.block∉L):Tree.Ints w' a R:=by
  intro j hj
  obtain ⟨b,o,e,hc⟩:=h j hj
  exact ⟨b,o,e,cell_only ho (hL _ e) hc⟩
theorem cutTo_low {a:Option Addr} {c l B:Nat} (h:∀ ad,a=some ad→ad.block<B):∀ ad,cutTo a c l=some ad→ad.block<B:=by
  intro ad e
  unfold cutTo at e
  split at e
  · exact h ad e
  · cases a with
    | none=>cases e
    | some x=>cases e;have:=h x rfl;show (x.add l).block<B;unfold Addr.add;split<;>exact this
theorem ESt.app {w wr w':World} {b B:Nat} {V:Ws} {R:List Int} {a:Option Addr} {c l:Nat} {E:List TM.Ed} {v v':Value} {O:Obj} {y:TM.Ed} (h:ESt w wr b B V R a c E v) (hl:l≤R.length)
    (hown:w'.ownsRow B 92 3 v' (E.length+1) (Tree.mc E++[.int .i64 y.a,.int .i64 y.b,.int .i64 y.c])) (hg:((wr.alloc O).drew).grownBy w' v.ownBlock):ESt w w' b B V (R.drop l) (cutTo a c l) (c - l) (E++[y]) v':=by
  obtain ⟨l1,l2,l3⟩:=h.lt
  obtain ⟨N,hN,ho⟩:∃ N:List Nat,(∀ k∈N,B≤k)∧Only N wr w':=by
    cases hv:v.ownBlock with
    | none=>exact ⟨[],by simp,(((Only.refl [] wr).alloc O).drew).grown hg (fun k e=>by rw [hv] at e;cases e)⟩
    | some k=>exact ⟨[k],by have:=(h.own.lt k hv).1;simp;omega,(((Only.refl [k] wr).alloc O).drew).grown hg (fun j e=>by rw [hv] at e;cases e;simp)⟩
  refine ⟨h.ws.over ho (fun k hk=>by have:=hN k hk;omega),?_,?_,ints_drop (ints_only h.rest ho (fun ad e hm=>by have:=hN _ hm;have:=h.low _ e;omega)) h.cap hl,by have:=h.cap;simp;omega,cutTo_low h.low,l1,l2,Nat.le_trans l3 ho.2.2.2.1⟩
  · have hs:=h.only.2.2.2.1
    refine ⟨ho.1.trans h.only.1,ho.2.1.trans h.only.2.1,ho.2.2.1.trans h.only.2.2.1,Nat.le_trans hs ho.2.2.2.1,fun k hk hm=>?_⟩
    rw [ho.2.2.2.2 k (by omega) (fun hm2=>by have:=hN k hm2;omega)]
    exact h.only.2.2.2.2 k hk hm
  · rw [List.length_append,Tree.mc_app,Tree.mc_one]
    exact hown
theorem three_parts {L:List Int} (h:3≤L.length):∃ x y z r,L=x::y::z::r:=by
  match L,h with
  | x::y::z::r,_=>exact ⟨x,y,z,r,rfl⟩
set_option maxRecDepth 100000 in
set_option maxHeartbeats 2000000 in
theorem edges_ok (ea:Addr) (b:Nat) (W:Ws) (w:World) (h:WAt w b W) (g:GW ea w) (hb:10≤b) (h3:W.list.1.length%3=0) (hM:W.list.1.length≤100000) :
    Calls Tryz.prog 96 #[.pointer (some ⟨b,0,none⟩)] w fun e w'=>∃ v,e=.returned v∧w'.ownsRow w.heap.size 92 3 v W.edges.1.length (Tree.mc W.edges.1)∧WAt w' b W.edges.2∧Only [b] w w':=by
  have C:=hidden (list_calls ea b W w h g hb)
  have e1:W.edges=(threes W.list.1,W.list.2):=by unfold Ws.edges;rw [if_neg (by omega)]
  rw [e1]
  have HLT:=hidden h.lt
  obtain ⟨XW,hXW⟩:∃ X,W.list=X:=⟨_,rfl⟩
  rw [hXW] at C h3 hM ⊢
  obtain ⟨L,V⟩:=XW
  simp only at C h3 hM ⊢
  clear h g e1 hb hXW
  obtain ⟨i0,hii,hz0,hz1,hz2⟩:=info_parts Tree.infoED
  obtain ⟨n,hn⟩:∃ n,L.length=n:=⟨_,rfl⟩
  rw [hn] at h3 hM C
  have HNN:=hidden hn
  have d0:(n:Int)%3=0:=by omega
  have d1:((n:Int).tmod 3)=0:=by rw [Int.tmod_eq_emod_of_nonneg (by omega)];omega
  clear hn
  go_enter Tryz.func96,Tryz.ntmps96
  go_wp2_with fail
  refine C.out.mono ?_
  rintro e w1 ⟨v,rfl,h1,h2,h3'⟩
  obtain ⟨a,cap,rfl,hA,hnn,hcap,hlow⟩:=Tree.own_ints h1 (by omega)
  have H0:Hid (ESt w w1 b w1.heap.size V L a cap [] (.slice none 0 0)):=hidden
    ⟨h2,h3',World.ownsRow_nil _ _ _ _,hA.1,by rw [HNN.out];exact hcap,fun ad e=>by obtain ⟨g,rfl,_,hg⟩:=hlow ad e;exact hg,HLT.out,h3'.2.2.2.1,Nat.le_refl _⟩
  clear h1 h2 h3' hA hnn hcap hlow
  go_wp2_with fail
  go_loopg [3,4] n (fun g u y wr=>∃ (R:List Int) (a:Option Addr) (c:Nat) (E:List TM.Ed) (v:Value),R.length=g∧g%3=0∧g≤n∧u=.slice a g c∧v=y∧Hid (ESt w wr b w1.heap.size V R a c E v)∧Hid (E++threes R=threes L)∧Hid (E.length≤100000 - g))
  case atStart=>exact ⟨L,a,cap,[],_,HNN.out,h3,Nat.le_refl _,rfl,rfl,H0,rfl,by show 0≤100000 - n;omega⟩
  case round=>
    obtain ⟨R,a,c,E,v,hR,hg3,hgn,rfl,rfl,HS,HT,HE⟩:=hrel
    by_cases hi:0<gk
    · have d2:decide (0<gk)=true:=by simpa using hi
      obtain ⟨x,y,z,r,rfl⟩:=three_parts (L:=R) (by omega)
      have HR:=hidden hR
      obtain ⟨bb,oo,rfl,r0⟩:=HS.out.rest 0 (by simp)
      obtain ⟨bb',oo',e1,r1⟩:=HS.out.rest 1 (by simp)
      cases e1
      obtain ⟨bb',oo',e1,r2⟩:=HS.out.rest 2 (by simp)
      cases e1
      have c0:wr.cell? ⟨bb,oo,none⟩=some (.int .i64 x):=r0
      have c1:wr.cell? ⟨bb,oo+1,none⟩=some (.int .i64 y):=r1
      have c2:wr.cell? ⟨bb,oo+2,none⟩=some (.int .i64 z):=r2
      clear r0 r1 r2
      have hE:E.length≤100000:=by have:=HE.out;omega
      have hsz:=HS.out.lt.2.2
      obtain ⟨m,hm⟩:∃ m,E.length=m:=⟨_,rfl⟩
      have HM:=hidden hm
      rw [hm] at hE
      clear hm hR
      have es:∀ W,(Instr.slice 47 (.slice (some ⟨bb,oo,none⟩) gk c) (some (.int .i64 3)) none none).run Tryz.prog W=.ok (.slice (cutTo (some ⟨bb,oo,none⟩) c 3) (gk - 3) (c - 3)) W:=fun W=>cut_ints _ _ _ 3 (by omega) W
      have HOW:Hid (wr.ownsRow w1.heap.size 92 3 v m (Tree.mc E)):=by rw [← HM.out];exact HS.out.own
      have i1:(1:Int)<(gk:Int):=by omega
      have i2:(2:Int)<(gk:Int):=by omega
      have hms:m≤100000 - gk:=by rw [← HM.out];exact HE.out
      clear hE HE
      go_wp2_with fail
      go_region_law (refine step_append_lies _ (by rfl) _ _ _ (by rfl) w1.heap.size 92 i0 _ 3 24 Tryz.underlying90 hii hz0 hz1 hz2 rfl (by omega) _ m (Tree.mc E) (by rfl) ((HOW.out.alloc _).drew) ⟨wr.heap.size,0,none⟩ 1 1 [.int .i64 x,.int .i64 y,.int .i64 z] (by rfl) (by rfl) (World.news_of_block (cs:=#[.int .i64 x,.int .i64 y,.int .i64 z]) (t:=92) (fr:=(0,0)) (heap_alloc_new wr _)) (by simp [Value.oneCell']) (by omega) (by unfold maxLen;omega) (by omega) (by simp;omega) (wr.heap.size+1) (by simp) ?_;intro gg c3 w3 hown hgrow hat hlt)
      all_goals (
        have HSn:Hid (ESt w w3 b w1.heap.size V r (cutTo (some ⟨bb,oo,none⟩) c 3) (c - 3) (E++[⟨x,y,z⟩]) (.slice (some ⟨gg,0,none⟩) (m+1) c3)):=by
          have:=HS.out.app (l:=3) (y:=⟨x,y,z⟩) (by simp) (by rw [HM.out];exact hown) hgrow
          exact hidden (by simpa using this)
        have HTn:Hid ((E++[⟨x,y,z⟩])++threes r=threes L):=by
          have:=HT.out
          simp only [threes] at this
          show _=_
          rw [List.append_assoc]
          exact this
        have hrl:r.length=gk - 3:=by have:=HR.out;simp at this;omega
        have hEn:(E++[(⟨x,y,z⟩:TM.Ed)]).length≤100000 - (gk - 3):=by rw [List.length_append,HM.out];simp only [List.length_cons,List.length_nil];omega
        clear hown hgrow hat hlt
        go_wp2_with fail
        go_roundg (gk - 3)
        case measure=>omega
        case rel=>exact ⟨r,_,c - 3,_,_,hrl,by omega,by omega,rfl,rfl,HSn,HTn,hEn⟩)
    · have d2:decide (0<gk)=false:=by simpa using hi
      obtain rfl:gk=0:=by omega
      obtain rfl:=List.eq_nil_of_length_eq_zero hR
      go_wp2_with fail
      go_ret
      have h2:=HT.out
      simp only [threes,List.append_nil] at h2
      have h1:=HS.out.own
      rw [h2] at h1
      exact ⟨_,rfl,Tree.own_base h1 HS.out.lt.2.1,HS.out.ws,HS.out.only⟩
theorem list_len {w:World} {b:Nat} {W:Ws} (h:WAt w b W):W.list.1.length≤3001:=by
  have h1:=next_sz h
  unfold Ws.list
  split
  · simp
  · rw [Ws.nums_len]
    have:=cutL_many 44 W.next.1
    omega
theorem edges_bad (ea:Addr) (b:Nat) (W:Ws) (w:World) (h:WAt w b W) (g:GW ea w) (hb:10≤b) (h3:W.list.1.length%3≠0) :
    Calls Tryz.prog 96 #[.pointer (some ⟨b,0,none⟩)] w fun e w'=>∃ v,e=.returned v∧w'.ownsRow w.heap.size 92 3 v W.edges.1.length (Tree.mc W.edges.1)∧WAt w' b W.edges.2∧Only [b] w w':=by
  have C:=hidden (list_calls ea b W w h g hb)
  have hM:=list_len h
  have e1:W.edges=([],W.list.2.ill):=by unfold Ws.edges;rw [if_pos h3]
  rw [e1]
  obtain ⟨XW,hXW⟩:∃ X,W.list=X:=⟨_,rfl⟩
  rw [hXW] at C h3 hM ⊢
  obtain ⟨L,V⟩:=XW
  simp only at C h3 hM ⊢
  clear h g e1 hb hXW
  obtain ⟨n,hn⟩:∃ n,L.length=n:=⟨_,rfl⟩
  rw [hn] at h3 hM C
  obtain ⟨m,hm,hm2⟩:∃ m:Nat,((n:Int).tmod 3)=(m:Int)∧m≠0:=⟨n%3,by rw [Int.tmod_eq_emod_of_nonneg (by omega)];omega,h3⟩
  have d2:((m:Int)==0)=false:=by simpa using hm2
  have d3:((m:Int) != 0)=true:=by simpa using hm2
  have d4:((n:Int)%3)=(m:Int):=by rw [← hm,Int.tmod_eq_emod_of_nonneg (by omega)]
  have hmz:¬ (m:Int)=0:=by omega
  clear hn h3
  go_enter Tryz.func96,Tryz.ntmps96
  go_wp2_with fail
  refine C.out.mono ?_
  rintro e w1 ⟨v,rfl,h1,h2,h3'⟩
  obtain ⟨a,cap,rfl,hA,hnn,hcap,hlow⟩:=Tree.own_ints h1 (by omega)
  obtain ⟨a2,cap2,hb1,-⟩:=h2.ex
  obtain ⟨-,c1⟩:=cells2 hb1
  have f1:=free2 hb1 1
  have H1:=hidden h2
  have HO:=hidden h3'
  clear h1 h2 h3' hA hnn hcap hlow hb1
  go_wp2_with fail
  go_ret
  exact ⟨_,rfl,World.ownsRow_nil _ _ _ _,H1.out.ill,HO.out.setCell (by simp) _⟩
theorem edges_calls (ea:Addr) (b:Nat) (W:Ws) (w:World) (h:WAt w b W) (g:GW ea w) (hb:10≤b) :
    Calls Tryz.prog 96 #[.pointer (some ⟨b,0,none⟩)] w fun e w'=>∃ v,e=.returned v∧w'.ownsRow w.heap.size 92 3 v W.edges.1.length (Tree.mc W.edges.1)∧WAt w' b W.edges.2∧Only [b] w w':=by
  have hM:=list_len h
  by_cases h3:W.list.1.length%3=0
  · exact edges_ok ea b W w h g hb h3 (by omega)
  · exact edges_bad ea b W w h g hb h3

theorem index_calls (a:UInt8) (w:World) :
    Calls Tryz.prog 42 #[.string ⟨#[48,49,50,51,52,53,54,55,56,57,97,98,99,100,101,102]⟩,.int .u8 (a.toNat:Int)] w fun e w'=>e=.returned (.int .i64 (Lib.indexByte hexs a))∧w'=w:=by
  have:=Tryz.strings_IndexByte ⟨#[48,49,50,51,52,53,54,55,56,57,97,98,99,100,101,102]⟩ (a.toNat:Int) w
  have e:((a.toNat:Int).toNat).toUInt8=a:=by simp
  rw [e] at this
  exact this
theorem index_lt (a:UInt8):-1≤Lib.indexByte hexs a∧Lib.indexByte hexs a<16:=by
  rcases indexByte_one a hexs with ⟨h,_⟩ | ⟨i,h,h2,_⟩
  · rw [h];decide
  · rw [h];simp [hexs] at h2;omega
theorem idx_str (l:List UInt8) (i:Nat) (h:i<l.length) (W:World):(Instr.index 9 (.string (bs l)) (.int .i64 (i:Int))).run Tryz.prog W=.ok (.int .u8 ((l.getD i 0).toNat:Int)) W:=by
  rw [run_index_string W 9 (bs l) .i64 i (by kernel_rfl),dif_pos ⟨by omega,by rw [bs_size];omega⟩]
  have e:(bs l)[(i:Int).toNat]'(by rw [bs_size];simpa using h)=l.getD i 0:=by
    rw [List.getD_eq_getElem?_getD,List.getElem?_eq_getElem h]
    rfl
  rw [e]
theorem cut_str (l:List UInt8) (i:Nat) (h:i≤l.length) (W:World):(Instr.slice 9 (.string (bs l)) (some (.int .i64 (i:Int))) none none).run Tryz.prog W=.ok (.string (bs (l.drop i))) W:=by
  rw [run_slice_string_from_if W 9 (bs l) .i64 i (by kernel_rfl),if_pos ⟨by omega,by rw [bs_size];omega⟩]
  congr 2
  rw [← bs_of ((bs l).extract _ _),Lib.extract_to_end,bs_data]
  rfl
theorem or_nib:∀ (i j:Fin 16),bits BinOp.or IntKind.i64 ((i.val:Int)*16) (j.val:Int)=((i.val*16+j.val:Nat):Int):=by decide +kernel
theorem two_parts {L:List UInt8} (h:2≤L.length):∃ x y r,L=x::y::r:=by
  match L,h with
  | x::y::r,_=>exact ⟨x,y,r,rfl⟩
theorem info5:(Tryz.prog.info? 5).map (fun i=>(i.zero,i.size,i.bytes))=some (some (.int .u8 0),1,1):=by kernel_rfl
def hexW (o:Option (List Nat)) (V:Ws):List Nat×Ws:=
  match o with
  | some L=>(L,V)
  | none=>([],V.ill)
structure BSt (w wr:World) (b B:Nat) (V:Ws) (E:List Nat) (v:Value):Prop where
  ws:WAt wr b V
  only:Only [b] w wr
  own:wr.ownsRow B 5 1 v E.length (cellsOf E)
  lt:b<w.heap.size∧w.heap.size≤B∧B≤wr.heap.size
theorem BSt.app {w wr w':World} {b B:Nat} {V:Ws} {E:List Nat} {v v':Value} {O:Obj} {y:Nat} (h:BSt w wr b B V E v)
    (hown:w'.ownsRow B 5 1 v' (E.length+1) (cellsOf E++[.int .u8 (y:Int)])) (hg:(wr.alloc O).grownBy w' v.ownBlock):BSt w w' b B V (E++[y]) v':=by
  obtain ⟨l1,l2,l3⟩:=h.lt
  obtain ⟨N,hN,ho⟩:∃ N:List Nat,(∀ k∈N,B≤k)∧Only N wr w':=by
    cases hv:v.ownBlock with
    | none=>exact ⟨[],by simp,((Only.refl [] wr).alloc O).grown hg (fun k e=>by rw [hv] at e;cases e)⟩
    | some k=>exact ⟨[k],by have:=(h.own.lt k hv).1;simp;omega,((Only.refl [k] wr).alloc O).grown hg (fun j e=>by rw [hv] at e;cases e;simp)⟩
  refine ⟨h.ws.over ho (fun k hk=>by have:=hN k hk;omega),?_,?_,l1,l2,Nat.le_trans l3 ho.2.2.2.1⟩
  · have hs:=h.only.2.2.2.1
    refine ⟨ho.1.trans h.only.1,ho.2.1.trans h.only.2.1,ho.2.2.1.trans h.only.2.2.1,Nat.le_trans hs ho.2.2.2.1,fun k hk hm=>?_⟩
    rw [ho.2.2.2.2 k (by omega) (fun hm2=>by have:=hN k hm2;omega)]
    exact h.only.2.2.2.2 k hk hm
  · rw [List.length_append]
    have e:cellsOf (E++[y])=cellsOf E++[.int .u8 (y:Int)]:=by simp [cellsOf]
    rw [e]
    exact hown
set_option maxRecDepth 100000 in
set_option maxHeartbeats 2000000 in
theorem bytes_even (b:Nat) (W:Ws) (w:World) (h:WAt w b W) (h2:W.next.1.length%2=0) :
    Calls Tryz.prog 82 #[.pointer (some ⟨b,0,none⟩)] w fun e w'=>∃ v,e=.returned v∧w'.ownsRow w.heap.size 5 1 v W.bytes.1.length (cellsOf W.bytes.1)∧WAt w' b W.bytes.2∧Only [b] w w':=by
  have C:=hidden (next_calls b W w h)
  have hz:=next_sz h
  have e1:W.bytes=hexW (unhex W.next.1) W.next.2:=by
    unfold Ws.bytes hexW
    rw [if_neg (by omega)]
    cases unhex W.next.1<;>rfl
  rw [e1]
  have HLT:=hidden h.lt
  obtain ⟨XW,hXW⟩:∃ X,W.next=X:=⟨_,rfl⟩
  rw [hXW] at C h2 hz ⊢
  obtain ⟨x,V⟩:=XW
  simp only at C h2 hz ⊢
  clear h e1 hXW
  obtain ⟨i0,hii,hz0,hz1,hz2⟩:=info_parts info5
  obtain ⟨n,hn⟩:∃ n,x.length=n:=⟨_,rfl⟩
  have hbz:(bs x).size=n:=by rw [bs_size];exact hn
  rw [hn] at h2 hz
  have HNN:=hidden hn
  have d0:(n:Int)%2=0:=by omega
  have d1:((n:Int).tmod 2)=0:=by rw [Int.tmod_eq_emod_of_nonneg (by omega)];omega
  clear hn
  go_enter Tryz.func82,Tryz.ntmps82
  go_wp2_with fail
  refine C.out.mono ?_
  rintro e w1 ⟨rfl,h1,h3⟩
  have H0:Hid (BSt w w1 b w1.heap.size V [] (.slice none 0 0)):=hidden ⟨h1,h3,World.ownsRow_nil _ _ _ _,HLT.out,h3.2.2.2.1,Nat.le_refl _⟩
  clear h1 h3
  go_wp2_with fail
  go_loopg [3,4] n (fun g u y wr=>∃ (R:List UInt8) (E:List Nat) (v:Value),R.length=g∧g%2=0∧g≤n∧u=.string (bs R)∧v=y∧Hid (BSt w wr b w1.heap.size V E v)∧Hid (unhex x=(unhex R).map (E++·))∧Hid (E.length≤3000 - g))
  case atStart=>exact ⟨x,[],_,HNN.out,h2,Nat.le_refl _,rfl,rfl,H0,by show _=_;cases unhex x<;>simp,by show 0≤3000 - n;omega⟩
  case round=>
    obtain ⟨R,E,v,hR,hg2,hgn,rfl,rfl,HS,HT,HE⟩:=hrel
    by_cases hi:0<gk
    · obtain ⟨p,q,r,rfl⟩:=two_parts (L:=R) (by omega)
      have HR:=hidden hR
      have hne:=str_ne (x:=p::q::r) (by simp)
      have hsz:(bs (p::q::r)).size=gk:=by rw [bs_size];exact hR
      have I1:=hidden (fun W=>index_calls p W)
      have I2:=hidden (fun W=>index_calls q W)
      have hp:=index_lt p
      have hq:=index_lt q
      have hE:E.length≤3000 - gk:=HE.out
      have e0:∀ W,(Instr.index 9 (.string (bs (p::q::r))) (.int .i64 0)).run Tryz.prog W=.ok (.int .u8 (p.toNat:Int)) W:=fun W=>idx_str (p::q::r) 0 (by simp) W
      have e1:∀ W,(Instr.index 9 (.string (bs (p::q::r))) (.int .i64 1)).run Tryz.prog W=.ok (.int .u8 (q.toNat:Int)) W:=fun W=>idx_str (p::q::r) 1 (by simp) W
      have e2:∀ W,(Instr.slice 9 (.string (bs (p::q::r))) (some (.int .i64 2)) none none).run Tryz.prog W=.ok (.string (bs r)) W:=fun W=>cut_str (p::q::r) 2 (by simp) W
      clear hR
      obtain ⟨hx,hhx⟩:∃ y,Lib.indexByte hexs p=y:=⟨_,rfl⟩
      obtain ⟨hy,hhy⟩:∃ y,Lib.indexByte hexs q=y:=⟨_,rfl⟩
      rw [hhx] at I1 hp
      rw [hhy] at I2 hq
      have hu:unhex (p::q::r)=if hx<0∨hy<0 then none else (unhex r).map ((hx*16+hy).toNat::·):=by rw [unhex,hhx,hhy]
      by_cases k1:hx<0
      · have d1:decide (hx<0)=true:=by simpa using k1
        rw [if_pos (.inl k1)] at hu
        have HU:=hidden hu
        clear hu hhx hhy k1 hE
        go_wp2_with fail
        refine (I1.out _).mono ?_
        rintro e w2 ⟨rfl,hw2⟩
        rw [hw2]
        go_wp2_with fail
        refine (I2.out _).mono ?_
        rintro e w3 ⟨rfl,hw3⟩
        rw [hw3]
        obtain ⟨a2,cap2,hb1,-⟩:=HS.out.ws.ex
        obtain ⟨-,c1⟩:=cells2 hb1
        have f1:=free2 hb1 1
        clear hw2 hw3 hb1
        go_wp2_with fail
        go_ret
        have h5:=HT.out
        rw [HU.out] at h5
        have h6:unhex x=none:=h5
        rw [h6]
        exact ⟨_,rfl,World.ownsRow_nil _ _ _ _,HS.out.ws.ill,HS.out.only.setCell (by simp) _⟩
      · have d1:decide (hx<0)=false:=by simpa using k1
        by_cases k2:hy<0
        · have d2:decide (hy<0)=true:=by simpa using k2
          rw [if_pos (.inr k2)] at hu
          have HU:=hidden hu
          clear hu hhx hhy k1 k2 hE
          go_wp2_with fail
          refine (I1.out _).mono ?_
          rintro e w2 ⟨rfl,hw2⟩
          rw [hw2]
          go_wp2_with fail
          refine (I2.out _).mono ?_
          rintro e w3 ⟨rfl,hw3⟩
          rw [hw3]
          obtain ⟨a2,cap2,hb1,-⟩:=HS.out.ws.ex
          obtain ⟨-,c1⟩:=cells2 hb1
          have f1:=free2 hb1 1
          clear hw2 hw3 hb1
          go_wp2_with fail
          go_ret
          have h5:=HT.out
          rw [HU.out] at h5
          have h6:unhex x=none:=h5
          rw [h6]
          exact ⟨_,rfl,World.ownsRow_nil _ _ _ _,HS.out.ws.ill,HS.out.only.setCell (by simp) _⟩
        · have d2:decide (hy<0)=false:=by simpa using k2
          rw [if_neg (by rintro (k | k);exact k1 k;exact k2 k)] at hu
          have HU:=hidden hu
          obtain ⟨ix,rfl⟩:∃ n:Nat,hx=n:=⟨hx.toNat,by omega⟩
          obtain ⟨iy,rfl⟩:∃ n:Nat,hy=n:=⟨hy.toNat,by omega⟩
          clear hu hhx hhy k1 k2
          go_wp2_with fail
          refine (I1.out _).mono ?_
          rintro e w2 ⟨rfl,hw2⟩
          rw [hw2]
          go_wp2_with fail
          refine (I2.out _).mono ?_
          rintro e w3 ⟨rfl,hw3⟩
          rw [hw3]
          clear hw2 hw3
          obtain ⟨y,hy⟩:∃ y,ix*16+iy=y:=⟨_,rfl⟩
          have hor:bits BinOp.or IntKind.i64 ((ix:Int)*16) (iy:Int)=(y:Int):=by
            rw [← hy]
            exact or_nib ⟨ix,by omega⟩ ⟨iy,by omega⟩
          have hmod:(y:Int)%256=(y:Int):=by omega
          have HY:Hid (((ix:Int)*16+(iy:Int)).toNat=y):=hidden (by omega)
          have hbase:=HS.out.lt.2.2
          obtain ⟨m,hm⟩:∃ m,E.length=m:=⟨_,rfl⟩
          rw [hm] at hE
          have HM:=hidden hm
          have HOW:Hid (wr.ownsRow w1.heap.size 5 1 v m (cellsOf E)):=hidden (by rw [← hm];exact HS.out.own)
          clear hy hm
          go_wp2_with (at_builtin;refine wpList_append_own _ rfl _ _ 31 rfl w1.heap.size 5 i0 _ 1 1 Tryz.underlying31 hii hz0 hz1 hz2 rfl (by decide) _ m (cellsOf E) rfl (HOW.out.alloc _) ⟨wr.heap.size,0,none⟩ 1 1 [.int .u8 (y:Int)] rfl rfl ?cc ?one ?b1 ?b2 ?b3 ?next)
          case cc=>exact Tree.lit1 _
          case one=>simp [Value.oneCell']
          case b1=>unfold maxLen;omega
          case b2=>omega
          case b3=>simp;omega
          case next=>
          intro v3 w4 hown hgrow _
          have HSn:Hid (BSt w w4 b w1.heap.size V (E++[y]) v3):=HS.out.app (by rw [HM.out];exact hown) hgrow
          have HTn:Hid (unhex x=(unhex r).map ((E++[y])++·)):=by
            have h5:=HT.out
            rw [HU.out,HY.out] at h5
            show _=_
            rw [h5,Option.map_map]
            congr 1
            funext z
            simp
          have hrl:r.length=gk - 2:=by have:=HR.out;simp at this;omega
          have hEn:(E++[y]).length≤3000 - (gk - 2):=by rw [List.length_append,HM.out];simp only [List.length_cons,List.length_nil];omega
          clear hown hgrow hbase
          go_wp2_with fail
          go_roundg (gk - 2)
          case measure=>omega
          case rel=>exact ⟨r,_,_,hrl,by omega,by omega,rfl,rfl,HSn,HTn,hEn⟩
    · obtain rfl:gk=0:=by omega
      obtain rfl:=List.eq_nil_of_length_eq_zero hR
      have hx0:(bs []).toList.isEmpty=true:=by rw [bs_toList];rfl
      go_wp2_with fail
      go_ret
      have h5:unhex x=some E:=by have:=HT.out;simpa [unhex] using this
      rw [h5]
      exact ⟨_,rfl,Tree.own_base HS.out.own HS.out.lt.2.1,HS.out.ws,HS.out.only⟩
theorem bytes_odd (b:Nat) (W:Ws) (w:World) (h:WAt w b W) (h2:W.next.1.length%2≠0) :
    Calls Tryz.prog 82 #[.pointer (some ⟨b,0,none⟩)] w fun e w'=>∃ v,e=.returned v∧w'.ownsRow w.heap.size 5 1 v W.bytes.1.length (cellsOf W.bytes.1)∧WAt w' b W.bytes.2∧Only [b] w w':=by
  have C:=hidden (next_calls b W w h)
  have hz:=next_sz h
  have e1:W.bytes=([],W.next.2.ill):=by unfold Ws.bytes;rw [if_pos h2]
  rw [e1]
  obtain ⟨XW,hXW⟩:∃ X,W.next=X:=⟨_,rfl⟩
  rw [hXW] at C h2 hz ⊢
  obtain ⟨x,V⟩:=XW
  simp only at C h2 hz ⊢
  clear h e1 hXW
  obtain ⟨n,hn⟩:∃ n,x.length=n:=⟨_,rfl⟩
  have hbz:(bs x).size=n:=by rw [bs_size];exact hn
  rw [hn] at h2 hz
  have d1:((n:Int).tmod 2)=1:=by rw [Int.tmod_eq_emod_of_nonneg (by omega)];omega
  have d2:(n:Int)%2=1:=by omega
  clear hn h2
  go_enter Tryz.func82,Tryz.ntmps82
  go_wp2_with fail
  refine C.out.mono ?_
  rintro e w1 ⟨rfl,h1,h3⟩
  obtain ⟨a2,cap2,hb1,-⟩:=h1.ex
  obtain ⟨-,c1⟩:=cells2 hb1
  have f1:=free2 hb1 1
  have H1:=hidden h1
  have HO:=hidden h3
  clear h1 h3 hb1
  go_wp2_with fail
  go_ret
  exact ⟨_,rfl,World.ownsRow_nil _ _ _ _,H1.out.ill,HO.out.setCell (by simp) _⟩
theorem bytes_calls (b:Nat) (W:Ws) (w:World) (h:WAt w b W) :
    Calls Tryz.prog 82 #[.pointer (some ⟨b,0,none⟩)] w fun e w'=>∃ v,e=.returned v∧w'.ownsRow w.heap.size 5 1 v W.bytes.1.length (cellsOf W.bytes.1)∧WAt w' b W.bytes.2∧Only [b] w w':=by
  by_cases h2:W.next.1.length%2=0
  · exact bytes_even b W w h h2
  · exact bytes_odd b W w h h2
end Go.Proofs.YtlppdppddiecnaaGreatDoor.Run
