/-
  The words of a line, read one by one: what each method returns, and what it leaves in memory.
-/
import Derived.Test.YtbadpjgiogghdaaGreatDoorRunIP
import Derived.Test.YtbadpjgiogghdaaGreatDoorShelfBP
import Derived.Lib.AppendIntMem
namespace Go.Proofs.YtbadpjgiogghdaaGreatDoor.Run
open Go.ChangeShapes Go.WideShapes Go.ChangeAt Go.RowKit Go.Proofs.YtbadpjgiogghdaaGreatDoor.Mem Go.Proofs.YtbadpjgiogghdaaGreatDoor.RN Go.Proofs.YtbadpjgiogghdaaGreatDoor.RC
set_option linter.unusedVariables false

theorem next_calls (b:Nat) (W:Ws) (w:World) (h:WAt w b W) :
    Calls Tryz.prog 55 #[.pointer (some ⟨b,0,none⟩)] w fun e w'=>e=.returned (.string (bs W.next.1))∧WAt w' b W.next.2∧Only [b] w w':=by
  obtain ⟨a,cap,hb,hc,hc2,hs,hn⟩:=h.ex
  obtain ⟨c0,c1⟩:=cells2 hb
  have f0:=free2 hb 0
  have f1:=free2 hb 1
  have HH:=hidden h
  obtain ⟨R,bd⟩:=W
  cases R with
  | nil=>
    have e1:(Ws.mk [] bd).next=([],(Ws.mk [] bd).ill):=rfl
    rw [e1]
    clear e1 hs hb h
    go_enter Tryz.func55,Tryz.ntmps55
    go_wp2_with fail
    go_ret
    exact ⟨rfl,HH.out.ill,(Only.refl _ _).setCell (by simp) _⟩
  | cons x r=>
    have e1:(Ws.mk (x::r) bd).next=(x,⟨r,bd⟩):=rfl
    rw [e1]
    obtain ⟨bb,o,rfl,hx⟩:=hs.head
    have HT:=hidden hs.tail
    have HN:Hid (bb<b):=hidden (hn _ rfl)
    have hr:r.length+1≤cap:=by simpa using hc
    have HC:Hid (r.length≤cap - 1∧cap - 1≤4294967296):=hidden ⟨by omega,by omega⟩
    simp only [List.length_cons] at c0
    obtain ⟨n,hnn⟩:∃ n,r.length=n:=⟨_,rfl⟩
    rw [hnn] at c0 hr HC
    have HL:=hidden hnn
    clear e1 hs hb h hn hc hnn hc2
    by_cases hk:cap=1
    · subst hk
      have n0:n=0:=by omega
      subst n0
      go_enter Tryz.func55,Tryz.ntmps55
      go_wp2_with fail
      go_ret
      obtain rfl:=List.eq_nil_of_length_eq_zero HL.out
      exact ⟨rfl,HH.out.take (a':=some ⟨bb,o,none⟩) (c':=0) (by simp) (by simp) (SArg.nil _ _) (fun ad e=>by cases e;exact HN.out),(Only.refl _ _).setCell (by simp) _⟩
    · go_enter Tryz.func55,Tryz.ntmps55
      go_wp2_with fail
      go_ret
      have h2:=HH.out.take (a':=some ⟨bb,o+1,none⟩) (c':=cap - 1) (by rw [HL.out];exact HC.out.1) HC.out.2 HT.out (fun ad e=>by cases e;exact HN.out)
      rw [HL.out] at h2
      exact ⟨rfl,h2,(Only.refl _ _).setCell (by simp) _⟩

theorem itoa_calls (ea:Addr) (n:Int) (w:World) (g:GW ea w) (h0:-9223372036854775808≤n) (h1:n≤9223372036854775807) :
    Calls Tryz.prog 87 #[.int .i64 n] w fun e w'=>e=.returned (.string (bs (Lib.itoa n)))∧Below w.heap.size w w':=by
  refine (Tryz.strconv_Itoa n h0 h1 w g.tab).mono ?_
  rintro e w' ⟨rfl,k,os,rfl⟩
  exact ⟨rfl,Lib.below_grow _ _ (Nat.le_refl _) _ _⟩
theorem bs_toList (l:List UInt8):(bs l).toList=l:=ByteArray.toList_mk l
theorem str_no {y x:List UInt8} (h:y≠x):((bs y).toList==(bs x).toList)=false:=by rw [bs_toList,bs_toList];simpa using h
theorem bs_size (l:List UInt8):(bs l).size=l.length:=by simp [bs,ByteArray.size]
theorem atoi_ok (ea:Addr) (x:List UInt8) (v:Int) (w:World) (hx:x.length≤3000) (h:Lib.atoiAll x=.ok v) :
    Calls Tryz.prog 141 #[.string (bs x)] w fun e w'=>e=.returned (.tuple #[.int .i64 v,.nilIface])∧Below w.heap.size w w':=by
  have hd:=bs_data x
  have hz:=bs_size x
  refine (Tryz.strconv_Atoi_ok (bs x) (by omega) v (by rw [hd];exact h) w).mono ?_
  rintro e w' ⟨rfl,hw⟩
  refine ⟨rfl,?_⟩
  rcases hw with rfl | ⟨t,rfl⟩
  · exact Below.refl _ _
  · exact Lib.bytesWorld_below _ _ _
theorem atoi_bad (ea:Addr) (x:List UInt8) (w:World) (g:GW ea w) (hx:x.length≤3000) (h:∀ v,Lib.atoiAll x≠.ok v) :
    Calls Tryz.prog 141 #[.string (bs x)] w fun e w'=>∃ n tp p,e=.returned (.tuple #[.int .i64 n,.iface tp (.pointer (some p))])∧Below w.heap.size w w':=by
  have hd:=bs_data x
  have hz:=bs_size x
  cases h2:Lib.atoiAll x with
  | ok v=>exact absurd h2 (h v)
  | «syntax»=>
    obtain ⟨tp,p,hc⟩:=g.syn
    refine (Tryz.strconv_Atoi_syntax (bs x) (by omega) (by rw [hd];exact h2) _ w hc (.inr ⟨_,_,rfl⟩)).mono ?_
    rintro e w' ⟨N,rfl,_,_,hb⟩
    exact ⟨_,_,_,rfl,hb⟩
  | range=>
    obtain ⟨tp,p,hc⟩:=g.rng
    refine (Tryz.strconv_Atoi_range (bs x) (by omega) (by rw [hd];exact h2) _ w hc (.inr ⟨_,_,rfl⟩)).mono ?_
    rintro e w' ⟨N,rfl,_,_,hb⟩
    exact ⟨_,_,_,rfl,hb⟩
theorem numberOf_bad (ea:Addr) (b:Nat) (W:Ws) (x:List UInt8) (w:World) (h:WAt w b W) (g:GW ea w) (hx:x.length≤3000) (hv:∀ v,Lib.atoiAll x≠.ok v) :
    Calls Tryz.prog 111 #[.pointer (some ⟨b,0,none⟩),.string (bs x)] w fun e w'=>e=.returned (.int .i64 (W.numberOf x).1)∧WAt w' b (W.numberOf x).2∧Only [b] w w':=by
  have hnum:numL x=none:=by
    unfold numL
    cases h2:Lib.atoiAll x with
    | ok v=>exact absurd h2 (hv v)
    | «syntax»=>rfl
    | range=>rfl
  have e1:W.numberOf x=(0,W.ill):=by simp [Ws.numberOf,hnum]
  rw [e1]
  have C:=hidden (atoi_bad ea x w g hx hv)
  have H:=hidden h
  clear h e1 hnum hv g hx
  go_enter Tryz.func111,Tryz.ntmps111
  go_wp2_with fail
  refine C.out.mono ?_
  rintro e w1 ⟨n,tp,p,rfl,hb⟩
  have h1:=H.out.below hb
  obtain ⟨a,cap,hb1,-⟩:=h1.ex
  obtain ⟨-,c1⟩:=cells2 hb1
  have f1:=free2 hb1 1
  have H1:=hidden h1
  have HB:=hidden hb
  clear h1 hb hb1
  go_wp2_with fail
  go_ret
  exact ⟨rfl,H1.out.ill,(Only.of_below HB.out _).setCell (by simp) _⟩
theorem numberOf_ok (ea:Addr) (b:Nat) (W:Ws) (x:List UInt8) (w:World) (v:Int) (h:WAt w b W) (g:GW ea w) (hx:x.length≤3000) (hv:Lib.atoiAll x=.ok v) (h0:-9223372036854775808≤v) (h1:v≤9223372036854775807) :
    Calls Tryz.prog 111 #[.pointer (some ⟨b,0,none⟩),.string (bs x)] w fun e w'=>e=.returned (.int .i64 (W.numberOf x).1)∧WAt w' b (W.numberOf x).2∧Only [b] w w':=by
  have C:=hidden (atoi_ok ea x v w hx hv)
  have H:=hidden h
  have G:=hidden g
  have hnum:numL x=if v < -999999999∨999999999<v∨Lib.itoa v≠x then none else some v:=by simp [numL,hv]
  clear h g hx hv
  by_cases k1:v < -999999999
  · have e1:W.numberOf x=(0,W.ill):=by unfold Ws.numberOf;rw [hnum,if_pos (.inl k1)]
    rw [e1]
    have d1:decide (v < -999999999)=true:=by simpa using k1
    clear e1 hnum h0 h1 k1
    go_enter Tryz.func111,Tryz.ntmps111
    go_wp2_with fail
    refine C.out.mono ?_
    rintro e w1 ⟨rfl,hb⟩
    have h1:=H.out.below hb
    obtain ⟨a,cap,hb1,-⟩:=h1.ex
    obtain ⟨-,c1⟩:=cells2 hb1
    have f1:=free2 hb1 1
    have H1:=hidden h1
    have HB:=hidden hb
    clear h1 hb hb1
    go_wp2_with fail
    go_ret
    exact ⟨rfl,H1.out.ill,(Only.of_below HB.out _).setCell (by simp) _⟩
  · have d1:decide (v < -999999999)=false:=by simpa using k1
    by_cases k2:999999999<v
    · have e1:W.numberOf x=(0,W.ill):=by unfold Ws.numberOf;rw [hnum,if_pos (.inr (.inl k2))]
      rw [e1]
      have d2:decide (999999999<v)=true:=by simpa using k2
      clear e1 hnum h0 h1 k1 k2
      go_enter Tryz.func111,Tryz.ntmps111
      go_wp2_with fail
      refine C.out.mono ?_
      rintro e w1 ⟨rfl,hb⟩
      have h1:=H.out.below hb
      obtain ⟨a,cap,hb1,-⟩:=h1.ex
      obtain ⟨-,c1⟩:=cells2 hb1
      have f1:=free2 hb1 1
      have H1:=hidden h1
      have HB:=hidden hb
      clear h1 hb hb1
      go_wp2_with fail
      go_ret
      exact ⟨rfl,H1.out.ill,(Only.of_below HB.out _).setCell (by simp) _⟩
    · have d2:decide (999999999<v)=false:=by simpa using k2
      by_cases k3:Lib.itoa v=x
      · have e1:W.numberOf x=(v,W):=by unfold Ws.numberOf;rw [hnum,if_neg (by rintro (k | k | k);exact k1 k;exact k2 k;exact k k3)]
        rw [e1]
        have I:Hid (∀ w1,GW ea w1→_):=hidden (fun w1 g1=>itoa_calls ea v w1 g1 h0 h1)
        rw [k3] at I
        clear e1 hnum h0 h1 k1 k2
        go_enter Tryz.func111,Tryz.ntmps111
        go_wp2_with fail
        refine C.out.mono ?_
        rintro e w1 ⟨rfl,hb⟩
        have H1:=hidden (H.out.below hb)
        have HB:=hidden hb
        have I1:=hidden (I.out w1 (G.out.below hb))
        clear hb
        go_wp2_with fail
        refine I1.out.mono ?_
        rintro e w2 ⟨rfl,hb2⟩
        have H2:=hidden (H1.out.below hb2)
        have HB2:=hidden (Only.trans (Only.of_below HB.out [b]) (Only.of_below hb2 [b]))
        clear hb2
        go_wp2_with fail
        go_ret
        exact ⟨rfl,H2.out,HB2.out⟩
      · have e1:W.numberOf x=(0,W.ill):=by unfold Ws.numberOf;rw [hnum,if_pos (.inr (.inr k3))]
        rw [e1]
        have I:Hid (∀ w1,GW ea w1→_):=hidden (fun w1 g1=>itoa_calls ea v w1 g1 h0 h1)
        obtain ⟨y,hy⟩:∃ y,Lib.itoa v=y:=⟨_,rfl⟩
        rw [hy] at I k3
        have k4:=str_no k3
        clear e1 hnum h0 h1 k1 k2 hy k3
        go_enter Tryz.func111,Tryz.ntmps111
        go_wp2_with fail
        refine C.out.mono ?_
        rintro e w1 ⟨rfl,hb⟩
        have H1:=hidden (H.out.below hb)
        have HB:=hidden hb
        have I1:=hidden (I.out w1 (G.out.below hb))
        clear hb
        go_wp2_with fail
        refine I1.out.mono ?_
        rintro e w2 ⟨rfl,hb2⟩
        have h1:=H1.out.below hb2
        obtain ⟨a,cap,hb1,-⟩:=h1.ex
        obtain ⟨-,c1⟩:=cells2 hb1
        have f1:=free2 hb1 1
        have H2:=hidden h1
        have HB2:=hidden (Only.trans (Only.of_below HB.out [b]) (Only.of_below hb2 [b]))
        clear hb2 hb1 h1
        go_wp2_with fail
        go_ret
        exact ⟨rfl,H2.out.ill,HB2.out.setCell (by simp) _⟩
theorem atoi_lt {x:List UInt8} {v:Int} (h:Lib.atoiAll x=.ok v):-9223372036854775808≤v∧v≤9223372036854775807:=by
  cases x with
  | nil=>simp [Lib.atoiAll] at h
  | cons c r=>
    simp only [Lib.atoiAll] at h
    generalize Lib.parseMag _=pm at h
    cases pm with
    | «syntax»=>cases h
    | range=>cases h
    | ok u=>
      simp only at h
      by_cases hc:c.toNat=45
      · by_cases hu:9223372036854775808<u
        · simp [hc,hu] at h
        · simp [hc,hu] at h;omega
      · by_cases hu:9223372036854775808≤u
        · simp [hc,hu] at h
        · simp [hc,hu] at h;omega
theorem numberOf_calls (ea:Addr) (b:Nat) (W:Ws) (x:List UInt8) (w:World) (h:WAt w b W) (g:GW ea w) (hx:x.length≤3000) :
    Calls Tryz.prog 111 #[.pointer (some ⟨b,0,none⟩),.string (bs x)] w fun e w'=>e=.returned (.int .i64 (W.numberOf x).1)∧WAt w' b (W.numberOf x).2∧Only [b] w w':=by
  cases hv:Lib.atoiAll x with
  | ok v=>exact numberOf_ok ea b W x w v h g hx hv (atoi_lt hv).1 (atoi_lt hv).2
  | «syntax»=>exact numberOf_bad ea b W x w h g hx (by simp [hv])
  | range=>exact numberOf_bad ea b W x w h g hx (by simp [hv])
theorem next_sz {w:World} {b:Nat} {W:Ws} (h:WAt w b W):W.next.1.length≤3000:=by
  obtain ⟨R,bd⟩:=W
  cases R with
  | nil=>simp [Ws.next]
  | cons x r=>exact h.sz x (by simp)
theorem number_calls (ea:Addr) (b:Nat) (W:Ws) (w:World) (h:WAt w b W) (g:GW ea w) (hb:10≤b) :
    Calls Tryz.prog 84 #[.pointer (some ⟨b,0,none⟩)] w fun e w'=>e=.returned (.int .i64 W.number.1)∧WAt w' b W.number.2∧Only [b] w w':=by
  have C:=hidden (next_calls b W w h)
  have hz:=next_sz h
  have D:=hidden (fun w1 h1 g1=>numberOf_calls ea b W.next.2 W.next.1 w1 h1 g1 hz)
  have G:=hidden (fun w1 (ho:Only [b] w w1)=>g.only ho (by simpa using hb))
  have e1:W.next.2.numberOf W.next.1=W.number:=rfl
  rw [e1] at D
  generalize W.number=NW at D
  generalize W.next=XW at C D
  clear h g hz hb e1
  go_enter Tryz.func84,Tryz.ntmps84
  go_wp2_with fail
  refine C.out.mono ?_
  rintro e w1 ⟨rfl,h1,ho⟩
  have D1:=hidden (D.out w1 h1 (G.out w1 ho))
  have HO:=hidden ho
  clear h1 ho
  go_wp2_with fail
  refine D1.out.mono ?_
  rintro e w2 ⟨rfl,h2,ho2⟩
  have H2:=hidden h2
  have HO2:=hidden ho2
  clear h2 ho2
  go_wp2_with fail
  go_ret
  exact ⟨rfl,H2.out,HO.out.trans HO2.out⟩
theorem flag_calls (ea:Addr) (b:Nat) (W:Ws) (w:World) (h:WAt w b W) (g:GW ea w) (hb:10≤b) :
    Calls Tryz.prog 101 #[.pointer (some ⟨b,0,none⟩)] w fun e w'=>e=.returned (.bool W.flag.1)∧WAt w' b W.flag.2∧Only [b] w w':=by
  have C:=hidden (number_calls ea b W w h g hb)
  have e1:W.flag=(decide (W.number.1=1),if W.number.1≠0∧W.number.1≠1 then W.number.2.ill else W.number.2):=rfl
  rw [e1]
  obtain ⟨NW,hN⟩:∃ x,W.number=x:=⟨_,rfl⟩
  rw [hN] at C ⊢
  obtain ⟨n,V⟩:=NW
  simp only at C ⊢
  clear h g hb e1 hN
  by_cases k0:n=0
  · subst k0
    go_enter Tryz.func101,Tryz.ntmps101
    go_wp2_with fail
    refine C.out.mono ?_
    rintro e w1 ⟨rfl,h1,ho⟩
    have H1:=hidden h1
    have HO:=hidden ho
    clear h1 ho
    go_wp2_with fail
    go_ret
    exact ⟨rfl,H1.out,HO.out⟩
  · by_cases k1:n=1
    · subst k1
      go_enter Tryz.func101,Tryz.ntmps101
      go_wp2_with fail
      refine C.out.mono ?_
      rintro e w1 ⟨rfl,h1,ho⟩
      have H1:=hidden h1
      have HO:=hidden ho
      clear h1 ho
      go_wp2_with fail
      go_ret
      exact ⟨rfl,H1.out,HO.out⟩
    · rw [if_pos ⟨k0,k1⟩]
      have d0:decide (n=0)=false:=by simpa using k0
      have d1:decide (n=1)=false:=by simpa using k1
      have b0:(n==0)=false:=by simpa using k0
      have b1:(n==1)=false:=by simpa using k1
      have b2:(n != 0)=true:=by simpa using k0
      have b3:(n != 1)=true:=by simpa using k1
      rw [d1]
      go_enter Tryz.func101,Tryz.ntmps101
      go_wp2_with fail
      refine C.out.mono ?_
      rintro e w1 ⟨rfl,h1,ho⟩
      obtain ⟨a,cap,hb1,-⟩:=h1.ex
      obtain ⟨-,c1⟩:=cells2 hb1
      have f1:=free2 hb1 1
      have H1:=hidden h1
      have HO:=hidden ho
      clear h1 ho hb1
      go_wp2_with fail
      go_ret
      exact ⟨rfl,H1.out.ill,HO.out.setCell (by simp) _⟩
theorem end_calls (ea:Addr) (b:Nat) (W:Ws) (w:World) (h:WAt w b W) (g:GW ea w) :
    Calls Tryz.prog 85 #[.pointer (some ⟨b,0,none⟩)] w fun e w'=>e=.returned (if W.left then badV ea else .nilIface)∧w'=w:=by
  obtain ⟨a,cap,hb,-⟩:=h.ex
  obtain ⟨c0,c1⟩:=cells2 hb
  have cb:=g.bad
  have e1:W.left=(W.bad||decide (0<W.rest.length)):=rfl
  rw [e1]
  clear e1 hb h g
  generalize W.bad=bd at c1 ⊢
  generalize W.rest.length=n at c0 ⊢
  unfold badV at cb ⊢
  cases bd with
  | true=>
    clear c0
    go_enter Tryz.func85,Tryz.ntmps85
    go_wp2_with fail
    go_ret
    exact ⟨rfl,rfl⟩
  | false=>
    by_cases k:0<n
    · have d1:decide (0<n)=true:=by simpa using k
      go_enter Tryz.func85,Tryz.ntmps85
      go_wp2_with fail
      go_ret
      exact ⟨by simp,rfl⟩
    · have d1:decide (0<n)=false:=by simpa using k
      obtain rfl:n=0:=by omega
      go_enter Tryz.func85,Tryz.ntmps85
      go_wp2_with fail
      go_ret
      exact ⟨by simp,rfl⟩
end Go.Proofs.YtbadpjgiogghdaaGreatDoor.Run

