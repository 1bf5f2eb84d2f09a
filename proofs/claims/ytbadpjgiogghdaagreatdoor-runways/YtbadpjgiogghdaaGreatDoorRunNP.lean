/-
  What is answered to lines that need no session: unwrap, crc, open, pairs, fair, way.
-/
import Derived.Test.YtbadpjgiogghdaaGreatDoorRunMath2P
import Derived.Test.YtbadpjgiogghdaaGreatDoorRunEP
import Derived.Test.YtbadpjgiogghdaaGreatDoorTellAll
import Derived.Test.YtbadpjgiogghdaaGreatDoorCrcAll
import Derived.Test.YtbadpjgiogghdaaGreatDoorBackAll
import Derived.Test.YtbadpjgiogghdaaGreatDoorRateCP
import Derived.Test.YtbadpjgiogghdaaGreatDoorTreeEnd
namespace Go.Proofs.YtbadpjgiogghdaaGreatDoor.Run
open Go.ChangeShapes Go.WideShapes Go.ChangeAt Go.RowKit Go.Proofs.YtbadpjgiogghdaaGreatDoor.Mem Go.Proofs.YtbadpjgiogghdaaGreatDoor.RN Go.Proofs.YtbadpjgiogghdaaGreatDoor.RC
set_option linter.unusedVariables false

def TellsE (ea:Addr) (r:An) (e:Ending):Prop:=∃ s,e=.returned (.tuple #[.string (bs s),anV ea r])∧(∀ t,r=.ok t→s=t)∧s.length≤1000000
theorem anV_bad (ea:Addr):anV ea .bad=badV ea:=rfl
theorem anV_err (ea:Addr) (n:Nat):anV ea (.err n)=.iface 115 (.int .i64 (n:Int)):=rfl
theorem anV_ok (ea:Addr) (s:List UInt8):anV ea (.ok s)=.nilIface:=rfl
theorem badV_eq (ea:Addr):badV ea=.iface 298 (.pointer (some ea)):=rfl
theorem itoa_len {n:Int} (h0:-9223372036854775808≤n) (h1:n≤9223372036854775807):(Lib.itoa n).length≤1000000:=by have:=Lib.itoa_length_le n h0 h1;omega
theorem join_len (c:UInt8) (T:List (List UInt8)) (hT:T.length≤5000) (hl:∀ x∈T,x.length≤100):(joined T c).length≤1000000:=by
  unfold joined
  split
  · simp
  · cases T with
    | nil=>simp [Lib.join_nil]
    | cons x r=>
      rw [Lib.join_length]
      have:∀ L:List (List UInt8),(∀ y∈L,y.length≤100)→Lib.lens L≤100*L.length:=by
        intro L
        induction L with
        | nil=>intro _;simp [Lib.lens]
        | cons y s ih=>
          intro hy
          have h1:=hy y (by simp)
          have h2:=ih (fun z hz=>hy z (by simp [hz]))
          simp only [Lib.lens,List.map_cons,List.sum_cons,List.length_cons] at h2 ⊢
          omega
      have:=this (x::r) hl
      simp only [List.length_cons,List.length_nil] at *
      omega
theorem int_an (ea:Addr) (r:An) (w w':World) (b:Nat) (e:Ending) (h:TellsE ea r e) (ho:Only [b] w w'):TellsE ea r e∧Only [b] w w':=⟨h,ho⟩
set_option maxHeartbeats 1000000 in
set_option maxRecDepth 100000 in
theorem unwrap_calls (ea:Addr) (b:Nat) (W:Ws) (w:World) (h:WAt w b W) (g:GW ea w) (hb:10≤b) :
    Calls Tryz.prog 56 #[.pointer (some ⟨b,0,none⟩)] w fun e w'=>TellsE ea (aUnwrap W) e∧Only [b] w w':=by
  have C1:=hidden (number_calls ea b W w h g hb)
  have C2:=hidden (fun w1 h1 g1=>number_calls ea b W.number.2 w1 h1 g1 hb)
  have E:=hidden (fun w1 h1 g1=>end_calls ea b W.number.2.number.2 w1 h1 g1)
  have G:=hidden (fun w1 (ho:Only [b] w w1)=>g.only ho (by simpa using hb))
  unfold aUnwrap
  generalize W.number.2.number=N2 at C2 E ⊢
  generalize W.number=N1 at C1 C2 ⊢
  obtain ⟨n1,V1⟩:=N1
  obtain ⟨n2,V2⟩:=N2
  simp only at C1 C2 E ⊢
  clear h g hb
  by_cases hl:V2.left
  · rw [if_pos hl]
    rw [if_pos hl,badV_eq] at E
    go_enter Tryz.func56,Tryz.ntmps56
    go_wp2_with fail
    refine C1.out.mono ?_
    rintro e w1 ⟨rfl,h1,ho1⟩
    have C2':=hidden (C2.out w1 h1 (G.out w1 ho1))
    have HO1:=hidden ho1
    clear h1 ho1
    go_wp2_with fail
    refine C2'.out.mono ?_
    rintro e w2 ⟨rfl,h2,ho2⟩
    have HO2:=hidden (HO1.out.trans ho2)
    have E':=hidden (E.out w2 h2 (G.out w2 HO2.out))
    clear h2 ho2
    go_wp2_with fail
    refine E'.out.mono ?_
    rintro e w3 ⟨rfl,rfl⟩
    go_wp2_with fail
    go_ret2
    exact ⟨⟨[],rfl,by simp,by simp⟩,HO2.out⟩
  · rw [if_neg hl]
    rw [if_neg hl] at E
    have I:Hid (∀ n w1,-9223372036854775808≤n→n≤9223372036854775807→Only [b] w w1→_):=hidden (fun n w1 h0 h1 ho=>itoa_calls ea n w1 (G.out w1 ho) h0 h1)
    by_cases hu:uF n1 n2=0
    · rw [An.of_ok hu]
      have hr:0≤n1∧n1≤1099511627776∧0≤n2∧n2≤65535:=by unfold uF at hu;split at hu<;>omega
      obtain ⟨hr1,hr2,hr3,hr4⟩:=hr
      have U:=hidden (fun w1=>Ser.unwrap_ok n1 n2 w1 hr1 hr2 hr3 hr4)
      have hbd:-9223372036854775808≤Ser.unw n1 n2∧Ser.unw n1 n2≤9223372036854775807:=by
        have:=Ser.bey_bd n2 n1
        unfold Ser.unw
        split<;>omega
      generalize Ser.unw n1 n2=m at U hbd ⊢
      have HBD:=hidden hbd
      clear hu hr1 hr2 hr3 hr4 hbd hl
      go_enter Tryz.func56,Tryz.ntmps56
      go_wp2_with fail
      refine C1.out.mono ?_
      rintro e w1 ⟨rfl,h1,ho1⟩
      have C2':=hidden (C2.out w1 h1 (G.out w1 ho1))
      have HO1:=hidden ho1
      clear h1 ho1
      go_wp2_with fail
      refine C2'.out.mono ?_
      rintro e w2 ⟨rfl,h2,ho2⟩
      have HO2:=hidden (HO1.out.trans ho2)
      have E':=hidden (E.out w2 h2 (G.out w2 HO2.out))
      clear h2 ho2
      go_wp2_with fail
      refine E'.out.mono ?_
      rintro e w3 ⟨rfl,rfl⟩
      go_wp2_with fail
      refine (U.out _).mono ?_
      rintro e w4 ⟨rfl,rfl⟩
      have I':=hidden (I.out m w4 HBD.out.1 HBD.out.2 HO2.out)
      go_wp2_with fail
      refine I'.out.mono ?_
      rintro e w5 ⟨rfl,hb5⟩
      have HO5:=hidden (HO2.out.trans (Only.of_below hb5 [b]))
      clear hb5
      go_wp2_with fail
      go_ret2
      exact ⟨⟨Lib.itoa m,rfl,by simp,itoa_len HBD.out.1 HBD.out.2⟩,HO5.out⟩
    · rw [An.of_err hu]
      have hr:n1<0∨1099511627776<n1∨n2<0∨65535<n2:=by unfold uF at hu;split at hu<;>first | assumption | omega
      have hu1:uF n1 n2=1:=by unfold uF;rw [if_pos hr]
      rw [hu1]
      have U:=hidden (fun w1=>Ser.unwrap_err n1 n2 w1 hr)
      clear hu hu1 hr hl
      go_enter Tryz.func56,Tryz.ntmps56
      go_wp2_with fail
      refine C1.out.mono ?_
      rintro e w1 ⟨rfl,h1,ho1⟩
      have C2':=hidden (C2.out w1 h1 (G.out w1 ho1))
      have HO1:=hidden ho1
      clear h1 ho1
      go_wp2_with fail
      refine C2'.out.mono ?_
      rintro e w2 ⟨rfl,h2,ho2⟩
      have HO2:=hidden (HO1.out.trans ho2)
      have E':=hidden (E.out w2 h2 (G.out w2 HO2.out))
      clear h2 ho2
      go_wp2_with fail
      refine E'.out.mono ?_
      rintro e w3 ⟨rfl,rfl⟩
      go_wp2_with fail
      refine (U.out _).mono ?_
      rintro e w4 ⟨rfl,rfl⟩
      have I':=hidden (I.out 0 w4 (by omega) (by omega) HO2.out)
      go_wp2_with fail
      refine I'.out.mono ?_
      rintro e w5 ⟨rfl,hb5⟩
      have HO5:=hidden (HO2.out.trans (Only.of_below hb5 [b]))
      clear hb5
      go_wp2_with fail
      go_ret2
      exact ⟨⟨Lib.itoa 0,rfl,by simp,itoa_len (by omega) (by omega)⟩,HO5.out⟩
end Go.Proofs.YtbadpjgiogghdaaGreatDoor.Run

