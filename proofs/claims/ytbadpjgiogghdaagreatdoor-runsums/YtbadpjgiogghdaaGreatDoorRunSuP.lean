/-
  RunSums: a session opens what is sealed, and nothing that is changed.
-/
import Derived.Test.YtbadpjgiogghdaaGreatDoorRunZP
import Derived.Test.YtbadpjgiogghdaaGreatDoorRunHxP
import Derived.Test.YtbadpjgiogghdaaGreatDoorCrcAll
import Derived.Test.YtbadpjgiogghdaaGreatDoorOpenP
import Derived.LoopTactic
import Derived.RegionTactic
namespace Go.Proofs.YtbadpjgiogghdaaGreatDoor.Run
open Go.ChangeShapes Go.WideShapes Go.ChangeAt Go.RowKit Go.Proofs.YtbadpjgiogghdaaGreatDoor.Mem Go.Proofs.YtbadpjgiogghdaaGreatDoor.RN Go.Proofs.YtbadpjgiogghdaaGreatDoor.RC
set_option linter.unusedVariables false
theorem bs_lit (l:List UInt8):(⟨l.toArray⟩:ByteArray)=bs l:=rfl
theorem run_sealed (D:Far) (hD:D.Ok) (ea:Addr) (L:List Nat) (hL:∀ c∈L,c<256) (hl:L.length≤200) (W:World) (g:GW ea W) :
    Calls Tryz.prog 7 #[.string (⟨#[99,114,99,32]⟩++bs (hexOf L)++⟨#[10,111,112,101,110,32]⟩++bs (hexOf (L++CM.be4 (CM.go 0 L)))++⟨#[10]⟩)] W fun e w'=>
      e=.returned (.string (bs (Lib.itoa (CM.go 0 L:Nat))++⟨#[10]⟩++bs (hexOf L)++⟨#[10]⟩))∧Below W.heap.size W w':=by
  have h4:(CM.be4 (CM.go 0 L)).length=4:=rfl
  have hle:([99,114,99,32]++hexOf L++[10,111,112,101,110,32]++hexOf (L++CM.be4 (CM.go 0 L))++[10]).length≤3000:=by
    simp only [List.length_append,hexOf_len,h4,List.length_cons,List.length_nil]
    omega
  have h:=run_calls D hD ea _ (Nat.le_trans hle (by decide)) W g
  rw [runOf,if_neg (by omega),answers_sums D L hL] at h
  have e1:(⟨#[99,114,99,32]⟩++bs (hexOf L)++⟨#[10,111,112,101,110,32]⟩++bs (hexOf (L++CM.be4 (CM.go 0 L)))++⟨#[10]⟩:ByteArray)=bs ([99,114,99,32]++hexOf L++[10,111,112,101,110,32]++hexOf (L++CM.be4 (CM.go 0 L))++[10]):=by
    rw [← bs_app,← bs_app,← bs_app,← bs_app];rfl
  have e2:(bs (Lib.itoa (CM.go 0 L:Nat))++⟨#[10]⟩++bs (hexOf L)++⟨#[10]⟩:ByteArray)=bs (Lib.itoa (CM.go 0 L:Nat)++[10]++hexOf L++[10]):=by
    rw [← bs_app,← bs_app,← bs_app];rfl
  rw [e1,e2]
  exact h
theorem run_changed (D:Far) (hD:D.Ok) (ea:Addr) (V:List Nat) (hV:∀ c∈V,c<256) (hl:V.length≤204) (h9:oF V=9) (W:World) (g:GW ea W) :
    Calls Tryz.prog 7 #[.string (⟨#[111,112,101,110,32]⟩++bs (hexOf V)++⟨#[10]⟩)] W fun e w'=>e=.returned (.string (bs [69,114,114,83,117,109,10]))∧Below W.heap.size W w':=by
  have hle:([111,112,101,110,32]++hexOf V++[10]).length≤3000:=by
    simp only [List.length_append,hexOf_len,List.length_cons,List.length_nil]
    omega
  have h:=run_calls D hD ea _ (Nat.le_trans hle (by decide)) W g
  rw [runOf,if_neg (by omega),answers_changed D V hV h9] at h
  have e1:(⟨#[111,112,101,110,32]⟩++bs (hexOf V)++⟨#[10]⟩:ByteArray)=bs ([111,112,101,110,32]++hexOf V++[10]):=by
    rw [← bs_app,← bs_app];rfl
  rw [e1]
  exact h
set_option maxHeartbeats 4000000 in
set_option maxRecDepth 100000 in
theorem sums_calls (D:Far) (hD:D.Ok) (ea:Addr) (a:Option Addr) (n cap:Nat) (L:List Nat) (at0:Int) (tb:Nat) (w:World) (g:GW ea w) (hA:Arg w a n L) (hn:a=none→n=0∧cap=0) (hto:tb<256) :
    Calls Tryz.prog 6 #[.slice a n cap,.int .i64 at0,.int .u8 (tb:Int)] w fun e w'=>e=.returned (.bool true)∧Below w.heap.size w w':=by
  by_cases h2:200<n
  · have d0:decide ((200:Int)<(n:Int))=true:=by simp;omega
    go_enter Tryz.func6,Tryz.ntmps6
    go_wp2_with fail
    go_ret
    exact ⟨rfl,Below.refl _ _⟩
  · have d0:decide ((200:Int)<(n:Int))=false:=by simp;omega
    have HA:=hidden hA
    have HG:=hidden g
    have hL:=hA.1.1
    have hLn:=hA.2.1
    have S:=hidden (Crc.seal_calls a n cap L w hA hn (by omega))
    have HX:Hid (∀ W,Below w.heap.size w W→_):=hidden (fun W hb=>hex_calls a n cap L W (HA.out.below hb) (by omega))
    have HS:Hid (∀ W,Below w.heap.size w W→_):=hidden (fun W hb=>Crc.sum_arg (cap:=cap) (HA.out.below hb))
    have HDg:Hid (∀ W,_):=hidden (fun W=>digits_nat (CM.go 0 L) (Nat.le_trans (Nat.le_of_lt (CM.go_lt (by decide) hL)) (by decide)) W)
    have HR:Hid (∀ W,Below w.heap.size w W→_):=hidden (fun W hb=>run_sealed D hD ea L hL (by omega) W (HG.out.below hb))
    have hit:=Lib.itoa_length_le (CM.go 0 L:Nat) (by omega) (by have:=CM.go_lt (s:=0) (by decide) hL;omega)
    have hV:=sealed_lt hL
    have hch:=fun i t hi ht hne=>open_changed L hL i t hi ht hne
    have hVl:(L++CM.be4 (CM.go 0 L)).length=n+4:=by rw [List.length_append,hLn];rfl
    obtain ⟨V,hVV⟩:∃ V,L++CM.be4 (CM.go 0 L)=V:=⟨_,rfl⟩
    rw [hVV] at S HR hV hVl hch
    have hHV:(bs (hexOf V)).size≤408:=by rw [bs_size,hexOf_len];omega
    have hHL:(bs (hexOf L)).size≤400:=by rw [bs_size,hexOf_len];omega
    have hNN:(bs (Lib.itoa (CM.go 0 L:Nat))).size≤21:=by rw [bs_size];exact hit
    obtain ⟨s,hs⟩:∃ s,CM.go 0 L=s:=⟨_,rfl⟩
    rw [hs] at HS HDg HR hNN
    generalize bs (Lib.itoa (s:Int))=N' at *
    generalize bs (hexOf L)=X' at *
    obtain ⟨Y',hY⟩:∃ Y,bs (hexOf V)=Y:=⟨_,rfl⟩
    rw [hY] at HR hHV
    have HV:=hidden hV
    have HVL:=hidden hVl
    have HCH:=hidden hch
    have HYY:=hidden hY
    have H2:Hid (n≤200):=hidden (by omega)
    clear hA g hL hLn hit hV hVl hVV hch hs hY h2
    go_enter Tryz.func6,Tryz.ntmps6
    go_wp2_with fail
    refine S.out.mono ?_
    rintro e w1 ⟨rfl,hrow,hb1⟩
    have HRow:=hidden hrow
    have HB1:=hidden hb1
    clear hrow hb1
    go_wp2_with fail
    refine (HX.out w1 HB1.out).mono ?_
    rintro e w2 ⟨rfl,hb2⟩
    have HB2:=hidden (HB1.out.trans (hb2.mono HB1.out.size))
    have HRow2:=hidden (HRow.out.only (Only.of_below hb2 []) (by simp))
    clear hb2
    have HH:Hid (∀ (W:World) (U:List Nat),Row W w.heap.size U→(∀ c∈U,c<256)→U.length=n+4→_):=hidden (fun W U hR hU hl=>hex_calls (some ⟨w.heap.size,0,none⟩) (n+4) (n+4) U W ⟨hR.bys hU,hl,by have:=H2.out;omega⟩ (by have:=H2.out;omega))
    go_wp2_with fail
    (refine (HH.out w2 _ HRow2.out HV.out HVL.out).mono ?_)
    rintro e w3 ⟨rfl,hb3⟩
    rw [HYY.out]
    have HB3:=hidden (HB2.out.trans (hb3.mono HB2.out.size))
    have HRow3:=hidden (HRow2.out.only (Only.of_below hb3 []) (by simp))
    clear hb3
    go_wp2_with fail
    (refine (HS.out w3 HB3.out).mono ?_)
    rintro e w4 ⟨rfl,hw4⟩
    obtain rfl:=hw4.symm
    go_wp2_with fail
    (refine (HDg.out w3).mono ?_)
    rintro e w4 ⟨rfl,hw4⟩
    obtain rfl:=hw4.symm
    have s1:¬ 9223372036854775807<4+X'.size:=by omega
    have s2:¬ 9223372036854775807<4+X'.size+6:=by omega
    have s3:¬ 9223372036854775807<4+X'.size+6+Y'.size:=by omega
    have s4:¬ 9223372036854775807<4+X'.size+6+Y'.size+1:=by omega
    have t1:¬ 9223372036854775807<N'.size+1:=by omega
    have t2:¬ 9223372036854775807<N'.size+1+X'.size:=by omega
    have t3:¬ 9223372036854775807<N'.size+1+X'.size+1:=by omega
    go_wp2_with fail
    refine (HR.out w3 HB3.out).mono ?_
    rintro e w4 ⟨rfl,hb4⟩
    have HB4:=hidden (HB3.out.trans (hb4.mono HB3.out.size))
    have HRow4:=hidden (HRow3.out.only (Only.of_below hb4 []) (by simp))
    clear hb4
    have qq:((N'++⟨#[10]⟩++X'++⟨#[10]⟩:ByteArray).toList==(N'++⟨#[10]⟩++X'++⟨#[10]⟩:ByteArray).toList)=true:=by simp
    by_cases ha:at0<0
    · have e1:decide (at0<0)=true:=by simpa using ha
      go_loud (go_wp2_with fail)
      go_loud (go_ret)
      exact ⟨rfl,HB4.out⟩
    · have e1:decide (at0<0)=false:=by simpa using ha
      obtain ⟨i,rfl⟩:∃ i:Nat,at0=(i:Int):=⟨at0.toNat,by omega⟩
      by_cases hb:n+4≤i
      · have e2:decide (((n:Int)+4)≤(i:Int))=true:=by simp;omega
        have e3:decide (((n+4:Nat):Int)≤(i:Int))=true:=by simp;omega
        go_loud (go_wp2_with fail)
        go_loud (go_ret)
        exact ⟨rfl,HB4.out⟩
      · have e2:decide (((n:Int)+4)≤(i:Int))=false:=by simp;omega
        have e3:decide (((n+4:Nat):Int)≤(i:Int))=false:=by simp;omega
        have c0:=HRow4.out.cell i (by rw [HVL.out];omega)
        have fz:=HRow4.out.free i
        by_cases hv:V.getD i 0=tb
        · rw [hv] at c0
          have e4:(((tb:Int))==((tb:Int)))=true:=by simp
          go_loud (go_wp2_with fail)
          go_loud (go_ret)
          exact ⟨rfl,HB4.out⟩
        · have H9:=HCH.out i tb (by rw [HVL.out];omega) hto hv
          obtain ⟨v,hvv⟩:∃ v,V.getD i 0=v:=⟨_,rfl⟩
          rw [hvv] at c0 hv
          have e4:(((v:Int))==((tb:Int)))=false:=by simp;omega
          have hR5:=HRow4.out.set i tb
          have hB5:Below w.heap.size w (w4.setCell ⟨w.heap.size,i,none⟩ (.int .u8 (tb:Int))):=HB4.out.setCell (Nat.le_refl _) _
          have hU:∀ c∈V.set i tb,c<256:=fun c hc=>by
            rcases List.mem_or_eq_of_mem_set hc with h | h
            · exact HV.out c h
            · omega
          have HX2:=hidden (HH.out _ _ hR5 hU (by rw [List.length_set];exact HVL.out))
          have HR2:=hidden (fun W hb=>run_changed D hD ea (V.set i tb) hU (by have:=HVL.out;have:=H2.out;rw [List.length_set];omega) H9 W (HG.out.below hb))
          have hZZ:(bs (hexOf (V.set i tb))).size≤408:=by have:=HVL.out;have:=H2.out;rw [bs_size,hexOf_len,List.length_set];omega
          generalize bs (hexOf (V.set i tb))=Z' at *
          have HB5:=hidden hB5
          have u1:¬ 9223372036854775807<5+Z'.size:=by omega
          have u2:¬ 9223372036854775807<5+Z'.size+1:=by omega
          have q9:((bs [69,114,114,83,117,109,10]).toList==[69,114,114,83,117,109,10])=true:=by decide +kernel
          clear hR5 hB5 hU hvv H9
          go_loud (go_wp2_with fail)
          (refine HX2.out.mono ?_)
          rintro e w5 ⟨rfl,hb5⟩
          have HB6:=hidden (HB5.out.trans (hb5.mono HB5.out.size))
          clear hb5
          go_wp2_with fail
          (refine (HR2.out w5 HB6.out).mono ?_)
          rintro e w6 ⟨rfl,hb6⟩
          have HB7:=hidden (HB6.out.trans (hb6.mono HB6.out.size))
          clear hb6
          go_loud (go_wp2_with fail)
          go_loud (go_ret)
          exact ⟨rfl,HB7.out⟩
theorem sums_row (D:Far) (hD:D.Ok) (ea:Addr) (a:Option Addr) (n cap:Nat) (zs:List Int) (at0 z:Int) (w:World) (g:GW ea w) (h:Open.IsRow w a n cap zs) (hz:(Lit.int .u8 z).wf=true) :
    Calls Tryz.prog 6 #[.slice a n cap,.int .i64 at0,.int .u8 z] w fun e w'=>e=.returned (.bool true)∧Below w.heap.size w w':=by
  have hb:=bounds_u8 hz
  obtain ⟨t,rfl⟩:∃ t:Nat,z=t:=⟨z.toNat,by omega⟩
  exact sums_calls D hD ea a n cap _ at0 t w g (Open.bytes_of h).1 (Open.none_of h) (by omega)
end Go.Proofs.YtbadpjgiogghdaaGreatDoor.Run

