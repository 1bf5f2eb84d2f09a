/-
  RunN, RunP in one text.
-/
import Derived.Test.YtlppdppddiecnaaGreatDoorRunMath2P
import Derived.Test.YtlppdppddiecnaaGreatDoorWordsAll
import Derived.Test.YtlppdppddiecnaaGreatDoorTellAll
import Derived.Test.YtlppdppddiecnaaGreatDoorCrcAll
import Derived.Test.YtlppdppddiecnaaGreatDoorBackAll
import Derived.Test.YtlppdppddiecnaaGreatDoorRateAll
import Derived.Test.YtlppdppddiecnaaGreatDoorTreeEnd
namespace Go.Proofs.YtlppdppddiecnaaGreatDoor.Run
open Go.ChangeShapes Go.WideShapes Go.ChangeAt Go.RowKit Go.Proofs.YtlppdppddiecnaaGreatDoor.Mem Go.Proofs.YtlppdppddiecnaaGreatDoor.RN Go.Proofs.YtlppdppddiecnaaGreatDoor.RC
set_option linter.unusedVariables false

def TellsE (ea:Addr) (r:An) (e:Ending):Prop:=∃ s,e=.returned (.tuple #[.string (bs s),anV ea r])∧(∀ t,r=.ok t→s=t)∧s.length≤1000000
theorem anV_bad (ea:Addr):anV ea .bad=badV ea:=rfl
theorem anV_err (ea:Addr) (n:Nat):anV ea (.err n)=.iface 107 (.int .i64 (n:Int)):=rfl
theorem anV_ok (ea:Addr) (s:List UInt8):anV ea (.ok s)=.nilIface:=rfl
theorem badV_eq (ea:Addr):badV ea=.iface 295 (.pointer (some ea)):=rfl
theorem itoa_len {n:Int} (h0:-9223372036854775808≤n) (h1:n≤9223372036854775807):(Lib.itoa n).length≤1000000:=by have:=Lib.itoa_length_le n h0 h1;omega
theorem join_len (c:UInt8) (T:List (List UInt8)) (hT:T.length≤5000) (hl:∀ x∈T,x.length≤100):(joined T c).length≤1000000:=by
  unfold joined
  split
  · simp
  · cases T with
    | nil=>simp [Lib.join_nil]
    | cons x r=>
      rw [Lib.join_length]
      have:∀ L:List (List UInt8),(∀ y∈L,y.length≤100)→Lib.lens L≤100*L.length:=by
        intro L
        induction L with
        | nil=>intro _;simp [Lib.lens]
        | cons y s ih=>
          intro hy
          have h1:=hy y (by simp)
          have h2:=ih (fun z hz=>hy z (by simp [hz]))
          simp only [Lib.lens,List.map_cons,List.sum_cons,List.length_cons] at h2 ⊢
          omega
      have:=this (x::r) hl
      simp only [List.length_cons,List.length_nil] at *
      omega
theorem int_an (ea:Addr) (r:An) (w w':World) (b:Nat) (e:Ending) (h:TellsE ea r e) (ho:Only [b] w w'):TellsE ea r e∧Only [b] w w':=⟨h,ho⟩
set_option maxHeartbeats 1000000 in
set_option maxRecDepth 100000 in
theorem unwrap_calls (ea:Addr) (b:Nat) (W:Ws) (w:World) (h:WAt w b W) (g:GW ea w) (hb:10≤b) :
    Calls Tryz.prog 49 #[.pointer (some ⟨b,0,none⟩)] w fun e w'=>TellsE ea (aUnwrap W) e∧Only [b] w w':=by
  have C1:=hidden (number_calls ea b W w h g hb)
  have C2:=hidden (fun w1 h1 g1=>number_calls ea b W.number.2 w1 h1 g1 hb)
  have E:=hidden (fun w1 h1 g1=>end_calls ea b W.number.2.number.2 w1 h1 g1)
  have G:=hidden (fun w1 (ho:Only [b] w w1)=>g.only ho (by simpa using hb))
  unfold aUnwrap
  generalize W.number.2.number=N2 at C2 E ⊢
  generalize W.number=N1 at C1 C2 ⊢
  obtain ⟨n1,V1⟩:=N1
  obtain ⟨n2,V2⟩:=N2
  simp only at C1 C2 E ⊢
  clear h g hb
  by_cases hl:V2.left
  · rw [if_pos hl]
    rw [if_pos hl,badV_eq] at E
    go_enter Tryz.func49,Tryz.ntmps49
    go_wp2_with fail
    refine C1.out.mono ?_
    rintro e w1 ⟨rfl,h1,ho1⟩
    have C2':=hidden (C2.out w1 h1 (G.out w1 ho1))
    have HO1:=hidden ho1
    clear h1 ho1
    go_wp2_with fail
    refine C2'.out.mono ?_
    rintro e w2 ⟨rfl,h2,ho2⟩
    have HO2:=hidden (HO1.out.trans ho2)
    have E':=hidden (E.out w2 h2 (G.out w2 HO2.out))
    clear h2 ho2
    go_wp2_with fail
    refine E'.out.mono ?_
    rintro e w3 ⟨rfl,rfl⟩
    go_wp2_with fail
    go_ret2
    exact ⟨⟨[],rfl,by simp,by simp⟩,HO2.out⟩
  · rw [if_neg hl]
    rw [if_neg hl] at E
    have I:Hid (∀ n w1,-9223372036854775808≤n→n≤9223372036854775807→Only [b] w w1→_):=hidden (fun n w1 h0 h1 ho=>itoa_calls ea n w1 (G.out w1 ho) h0 h1)
    by_cases hu:uF n1 n2=0
    · rw [An.of_ok hu]
      have hr:0≤n1∧n1≤1099511627776∧0≤n2∧n2≤65535:=by unfold uF at hu;split at hu<;>omega
      obtain ⟨hr1,hr2,hr3,hr4⟩:=hr
      have U:=hidden (fun w1=>Ser.unwrap_ok n1 n2 w1 hr1 hr2 hr3 hr4)
      have hbd:-9223372036854775808≤Ser.unw n1 n2∧Ser.unw n1 n2≤9223372036854775807:=by
        have:=Ser.bey_bd n2 n1
        unfold Ser.unw
        split<;>omega
      generalize Ser.unw n1 n2=m at U hbd ⊢
      have HBD:=hidden hbd
      clear hu hr1 hr2 hr3 hr4 hbd hl
      go_enter Tryz.func49,Tryz.ntmps49
      go_wp2_with fail
      refine C1.out.mono ?_
      rintro e w1 ⟨rfl,h1,ho1⟩
      have C2':=hidden (C2.out w1 h1 (G.out w1 ho1))
      have HO1:=hidden ho1
      clear h1 ho1
      go_wp2_with fail
      refine C2'.out.mono ?_
      rintro e w2 ⟨rfl,h2,ho2⟩
      have HO2:=hidden (HO1.out.trans ho2)
      have E':=hidden (E.out w2 h2 (G.out w2 HO2.out))
      clear h2 ho2
      go_wp2_with fail
      refine E'.out.mono ?_
      rintro e w3 ⟨rfl,rfl⟩
      go_wp2_with fail
      refine (U.out _).mono ?_
      rintro e w4 ⟨rfl,rfl⟩
      have I':=hidden (I.out m w4 HBD.out.1 HBD.out.2 HO2.out)
      go_wp2_with fail
      refine I'.out.mono ?_
      rintro e w5 ⟨rfl,hb5⟩
      have HO5:=hidden (HO2.out.trans (Only.of_below hb5 [b]))
      clear hb5
      go_wp2_with fail
      go_ret2
      exact ⟨⟨Lib.itoa m,rfl,by simp,itoa_len HBD.out.1 HBD.out.2⟩,HO5.out⟩
    · rw [An.of_err hu]
      have hr:n1<0∨1099511627776<n1∨n2<0∨65535<n2:=by unfold uF at hu;split at hu<;>first | assumption | omega
      have hu1:uF n1 n2=1:=by unfold uF;rw [if_pos hr]
      rw [hu1]
      have U:=hidden (fun w1=>Ser.unwrap_err n1 n2 w1 hr)
      clear hu hu1 hr hl
      go_enter Tryz.func49,Tryz.ntmps49
      go_wp2_with fail
      refine C1.out.mono ?_
      rintro e w1 ⟨rfl,h1,ho1⟩
      have C2':=hidden (C2.out w1 h1 (G.out w1 ho1))
      have HO1:=hidden ho1
      clear h1 ho1
      go_wp2_with fail
      refine C2'.out.mono ?_
      rintro e w2 ⟨rfl,h2,ho2⟩
      have HO2:=hidden (HO1.out.trans ho2)
      have E':=hidden (E.out w2 h2 (G.out w2 HO2.out))
      clear h2 ho2
      go_wp2_with fail
      refine E'.out.mono ?_
      rintro e w3 ⟨rfl,rfl⟩
      go_wp2_with fail
      refine (U.out _).mono ?_
      rintro e w4 ⟨rfl,rfl⟩
      have I':=hidden (I.out 0 w4 (by omega) (by omega) HO2.out)
      go_wp2_with fail
      refine I'.out.mono ?_
      rintro e w5 ⟨rfl,hb5⟩
      have HO5:=hidden (HO2.out.trans (Only.of_below hb5 [b]))
      clear hb5
      go_wp2_with fail
      go_ret2
      exact ⟨⟨Lib.itoa 0,rfl,by simp,itoa_len (by omega) (by omega)⟩,HO5.out⟩

theorem unhex_lt:∀ (n:Nat) (l:List UInt8),l.length≤n→∀ L,unhex l=some L→∀ c∈L,c<256:=by
  intro n
  induction n with
  | zero=>
    intro l h L hL c hc
    obtain rfl:=List.eq_nil_of_length_eq_zero (Nat.le_zero.1 h)
    simp [unhex] at hL
    subst hL
    simp at hc
  | succ n ih=>
    intro l h L hL c hc
    match l,h,hL with
    | [],_,hL=>simp [unhex] at hL;subst hL;simp at hc
    | [_],_,hL=>simp [unhex] at hL;subst hL;simp at hc
    | a::b::r,h,hL=>
      have h1:=index_lt a
      have h2:=index_lt b
      rw [unhex] at hL
      split at hL
      · cases hL
      · rename_i hn
        cases hu:unhex r with
        | none=>rw [hu] at hL;cases hL
        | some K=>
          rw [hu] at hL
          cases hL
          rcases List.mem_cons.1 hc with rfl | hc
          · have e0:¬ Lib.indexByte hexs a<0:=fun e=>hn (.inl e)
            have e1:¬ Lib.indexByte hexs b<0:=fun e=>hn (.inr e)
            omega
          · exact ih r (by simp at h;omega) K hu c hc
theorem bytes_lt (W:Ws):∀ c∈W.bytes.1,c<256:=by
  intro c hc
  unfold Ws.bytes at hc
  split at hc
  · simp at hc
  · split at hc
    · rename_i L hL
      exact unhex_lt _ _ (Nat.le_refl _) L hL c hc
    · simp at hc
theorem unhex_len:∀ (n:Nat) (l:List UInt8),l.length≤n→∀ L,unhex l=some L→L.length≤l.length:=by
  intro n
  induction n with
  | zero=>
    intro l h L hL
    obtain rfl:=List.eq_nil_of_length_eq_zero (Nat.le_zero.1 h)
    simp [unhex] at hL
    subst hL
    simp
  | succ n ih=>
    intro l h L hL
    match l,h,hL with
    | [],_,hL=>simp [unhex] at hL;subst hL;simp
    | [_],_,hL=>simp [unhex] at hL;subst hL;simp
    | a::b::r,h,hL=>
      rw [unhex] at hL
      split at hL
      · cases hL
      · cases hu:unhex r with
        | none=>rw [hu] at hL;cases hL
        | some K=>
          rw [hu] at hL
          cases hL
          have:=ih r (by simp at h;omega) K hu
          simp;omega
theorem bytes_len {w:World} {b:Nat} {W:Ws} (h:WAt w b W):W.bytes.1.length≤3000:=by
  have hz:=next_sz h
  unfold Ws.bytes
  split
  · simp
  · split
    · rename_i L hL
      have:=unhex_len _ _ (Nat.le_refl _) L hL
      show L.length≤3000
      omega
    · simp
theorem copen_calls (a:Option Addr) (n cap:Nat) (L:List Nat) (w:World) (h:Arg w a n L) (hc:n≤cap) (hn:n≤100000) :
    Calls Tryz.prog 84 #[.slice a n cap] w fun e w'=>∃ v,e=.returned (.tuple #[v,Tree.errv (oF L)])∧w'.ownsRow w.heap.size 5 1 v (if oF L=0 then n - 4 else 0) (cellsOf (if oF L=0 then L.take (n - 4) else []))∧Below w.heap.size w w':=by
  have hl:=h.2.1
  by_cases h4:n<4
  · have e:oF L=8:=by unfold oF;rw [if_pos (by omega)]
    rw [e]
    refine (Crc.open_short a n cap w h4).mono ?_
    rintro e w' ⟨rfl,rfl⟩
    exact ⟨_,rfl,World.ownsRow_nil _ _ _ _,Below.refl _ _⟩
  · obtain ⟨m,rfl⟩:∃ m,n=m+4:=⟨n - 4,by omega⟩
    obtain ⟨b,o,rfl,_⟩:=h.1.2 0 (by omega)
    obtain ⟨B,t0,t1,t2,t3,rfl,hB⟩:∃ B t0 t1 t2 t3,L=B++[t0,t1,t2,t3]∧B.length=m:=by
      have hd:(L.drop m).length=4:=by simp;omega
      match hq:L.drop m,hd with
      | [x,y,z,u],_=>exact ⟨L.take m,x,y,z,u,by rw [← hq,List.take_append_drop],by simp;omega⟩
    have hx:(B++[t0,t1,t2,t3]).length - 4=m:=by simp;omega
    have hof:oF (B++[t0,t1,t2,t3])=if CM.num 0 [t0,t1,t2,t3]=CM.go 0 B then 0 else 9:=by
      unfold oF
      rw [if_neg (by omega),hx,List.drop_left' hB,List.take_left' hB]
    have htk:(B++[t0,t1,t2,t3]).take (m+4 - 4)=B:=by rw [Nat.add_sub_cancel,List.take_left' hB]
    by_cases he:CM.num 0 [t0,t1,t2,t3]=CM.go 0 B
    · rw [hof,if_pos he,htk]
      refine (Crc.open_good b o cap m B t0 t1 t2 t3 w hB h hc he (by omega)).mono ?_
      rintro e w' ⟨v,rfl,ho,hb⟩
      exact ⟨v,rfl,by simpa using ho,hb⟩
    · rw [hof,if_neg he]
      refine (Crc.open_bad b o cap m B t0 t1 t2 t3 w hB h hc he).mono ?_
      rintro e w' ⟨rfl,k,rfl⟩
      exact ⟨_,rfl,World.ownsRow_nil _ _ _ _,Tree.below_drewN' (Below.refl _ _) k⟩
set_option maxHeartbeats 2000000 in
set_option maxRecDepth 100000 in
theorem sum_calls (ea:Addr) (b:Nat) (W:Ws) (w:World) (h:WAt w b W) (g:GW ea w) (hb:10≤b) :
    Calls Tryz.prog 51 #[.pointer (some ⟨b,0,none⟩)] w fun e w'=>TellsE ea (aSum W) e∧Only [b] w w':=by
  have C1:=hidden (bytes_calls b W w h)
  have hlt:=bytes_lt W
  have hln:=bytes_len h
  have E:=hidden (fun w1 h1 g1=>end_calls ea b W.bytes.2 w1 h1 g1)
  have G:=hidden (fun w1 (ho:Only [b] w w1)=>g.only ho (by simpa using hb))
  obtain ⟨r,hr⟩:∃ r,r=aSum W:=⟨_,rfl⟩
  rw [← hr]
  unfold aSum at hr
  generalize W.bytes=N1 at C1 hlt hln E hr
  obtain ⟨L,V⟩:=N1
  simp only at C1 hlt hln E hr
  have HR:=hidden hr
  have HLT:=hidden hlt
  clear h g hb hr hlt
  go_enter Tryz.func51,Tryz.ntmps51
  go_wp2_with fail
  refine C1.out.mono ?_
  rintro e w1 ⟨v,rfl,hv,h1,ho1⟩
  obtain ⟨a,cap,rfl,hA,-,hcap,-⟩:=own_slice hv HLT.out (by omega)
  have E':=hidden (E.out w1 h1 (G.out w1 ho1))
  have HO:=hidden ho1
  have S:=hidden (Crc.sum_arg (cap:=cap) hA)
  have hgo:CM.go 0 L<4294967296:=CM.go_lt (by decide) hA.1.1
  have I:=hidden (itoa_calls ea ((CM.go 0 L:Nat):Int) w1 (G.out w1 ho1) (by omega) (by omega))
  generalize CM.go 0 L=m at S hgo I HR
  have HM:=hidden hgo
  clear hv h1 ho1 hA hcap hgo
  go_wp2_with fail
  refine E'.out.mono ?_
  rintro e w2 ⟨he,rfl⟩
  by_cases hl:V.left
  · rw [if_pos hl,badV_eq] at he
    subst he
    have HL:=hidden hl
    clear hl
    go_wp2_with fail
    go_ret2
    refine ⟨?_,HO.out⟩
    rw [HR.out,if_pos HL.out]
    exact ⟨[],rfl,by simp,by simp⟩
  · rw [if_neg hl] at he
    subst he
    have HL:=hidden hl
    clear hl
    go_wp2_with fail
    refine S.out.mono ?_
    rintro e w3 ⟨rfl,rfl⟩
    go_wp2_with fail
    refine I.out.mono ?_
    rintro e w4 ⟨rfl,hb4⟩
    have HO4:=hidden (HO.out.trans (Only.of_below hb4 [b]))
    clear hb4
    go_wp2_with fail
    go_ret2
    refine ⟨?_,HO4.out⟩
    rw [HR.out,if_neg HL.out]
    exact ⟨Lib.itoa (m:Int),rfl,by simp,itoa_len (by omega) (by have:=HM.out;omega)⟩
set_option maxHeartbeats 2000000 in
set_option maxRecDepth 100000 in
theorem open_calls (ea:Addr) (b:Nat) (W:Ws) (w:World) (h:WAt w b W) (g:GW ea w) (hb:10≤b) :
    Calls Tryz.prog 52 #[.pointer (some ⟨b,0,none⟩)] w fun e w'=>TellsE ea (aOpen W) e∧Only [b] w w':=by
  have C1:=hidden (bytes_calls b W w h)
  have hlt:=bytes_lt W
  have hln:=bytes_len h
  have E:=hidden (fun w1 h1 g1=>end_calls ea b W.bytes.2 w1 h1 g1)
  have G:=hidden (fun w1 (ho:Only [b] w w1)=>g.only ho (by simpa using hb))
  obtain ⟨r,hr⟩:∃ r,r=aOpen W:=⟨_,rfl⟩
  rw [← hr]
  unfold aOpen at hr
  generalize W.bytes=N1 at C1 hlt hln E hr
  obtain ⟨L,V⟩:=N1
  simp only at C1 hlt hln E hr
  have HR:=hidden hr
  have HLT:=hidden hlt
  have HLN:=hidden hln
  clear h g hb hr hlt
  go_enter Tryz.func52,Tryz.ntmps52
  go_wp2_with fail
  refine C1.out.mono ?_
  rintro e w1 ⟨v,rfl,hv,h1,ho1⟩
  obtain ⟨a,cap,rfl,hA,-,hcap,-⟩:=own_slice hv HLT.out (by omega)
  have E':=hidden (E.out w1 h1 (G.out w1 ho1))
  have HO:=hidden ho1
  have S:=hidden (copen_calls a L.length cap L w1 hA hcap (by omega))
  generalize L.length=n at S HLN hln HR
  clear hv h1 ho1 hA hcap hln
  go_wp2_with fail
  refine E'.out.mono ?_
  rintro e w2 ⟨he,rfl⟩
  by_cases hl:V.left
  · rw [if_pos hl,badV_eq] at he
    subst he
    have HL:=hidden hl
    clear hl
    go_wp2_with fail
    go_ret2
    refine ⟨?_,HO.out⟩
    rw [HR.out,if_pos HL.out]
    exact ⟨[],rfl,by simp,by simp⟩
  · rw [if_neg hl] at he
    subst he
    have HL:=hidden hl
    clear hl
    go_wp2_with fail
    refine S.out.mono ?_
    rintro e w3 ⟨v,rfl,hv,hb3⟩
    obtain ⟨a3,cap3,rfl,hA3,-,hcap3,-⟩:=own_slice hv (fun c hc=>by
      split at hc
      · exact HLT.out c (List.mem_of_mem_take hc)
      · simp at hc) (by have:=HLN.out;split<;>omega)
    have X:=hidden (hexOf_calls a3 _ cap3 _ w3 hA3 (by have:=HLN.out;split<;>omega))
    have HO3:=hidden (HO.out.trans (Only.of_below hb3 [b]))
    generalize hn3:(if oF L=0 then n - 4 else 0)=n3 at X
    have HN3:=hidden hn3
    generalize hL3:(if oF L=0 then L.take (n - 4) else [])=L3 at X
    have HL3:=hidden hL3
    have hln3:L3.length≤3000:=by
      have:=HLN.out
      rw [← hL3];split<;>simp;omega
    have HLN3:=hidden hln3
    generalize hf:oF L=f at HR HN3 HL3
    clear hv hb3 hA3 hcap3 hn3 hL3 hf hln3
    go_wp2_with fail
    refine X.out.mono ?_
    rintro e w4 ⟨rfl,hb4⟩
    have HO4:=hidden (HO3.out.trans (Only.of_below hb4 [b]))
    clear hb4
    go_wp2_with fail
    go_ret2
    refine ⟨?_,HO4.out⟩
    rw [HR.out,if_neg HL.out]
    have hx:=hexOf_len L3
    have hy:=HLN3.out
    by_cases h0:f=0
    · subst h0
      have:=HL3.out
      rw [if_pos rfl] at this
      rw [An.of_ok rfl,this]
      exact ⟨_,rfl,by simp,by omega⟩
    · rw [An.of_err h0]
      refine ⟨_,by rw [Tree.errv_pos h0];rfl,by simp,by omega⟩
theorem step_len (l:List (Int×Nat)) (n:Int):(BM.step l n).length≤l.length+1:=by
  unfold BM.step
  split
  · simp
  · split
    · simp
    · simp
theorem pairs_len (S:List Int):(BM.pairs S).length≤S.length:=by
  have:∀ (S:List Int) (l:List (Int×Nat)),(S.foldl BM.step l).length≤l.length+S.length:=by
    intro S
    induction S with
    | nil=>intro l;simp
    | cons x r ih=>
      intro l
      have h1:=ih (BM.step l x)
      have h2:=step_len l x
      simp only [List.foldl_cons,List.length_cons] at *
      omega
  have:=this S []
  simpa [BM.pairs] using this
theorem pairs_fit (L:List Int):(Back.pr (Back.prsOf L)).length≤200∧∀ p∈Back.pr (Back.prsOf L),(-9223372036854775808≤p.1∧p.1≤9223372036854775807)∧(-9223372036854775808≤p.2∧p.2≤9223372036854775807):=by
  unfold Back.prsOf
  split
  · rename_i hf
    have hf2:=hf
    unfold Back.pfault at hf2
    split at hf2
    · omega
    · split at hf2
      · omega
      · rename_i hn hr
        have hr2:=Back.in_range (by simpa using hr)
        have hfit:=BM.fit_pairs _ ((BM.norm_of L).1)
        have h1:=pairs_len (BM.norm L)
        have h2:=BM.norm_len L
        refine ⟨by rw [Back.pr_len];omega,?_⟩
        intro p hp
        unfold Back.pr at hp
        obtain ⟨q,hq,rfl⟩:=List.mem_map.1 hp
        have h3:=hfit.mask q hq
        have h4:=hr2 _ (((BM.norm_of L).2 _).1 (hfit.base q hq))
        simp only
        omega
  · exact ⟨by simp [Back.pr],by simp [Back.pr]⟩
set_option maxHeartbeats 2000000 in
set_option maxRecDepth 100000 in
theorem pairs_calls (ea:Addr) (b:Nat) (W:Ws) (w:World) (h:WAt w b W) (g:GW ea w) (hb:10≤b) :
    Calls Tryz.prog 53 #[.pointer (some ⟨b,0,none⟩)] w fun e w'=>TellsE ea (aPairs W) e∧Only [b] w w':=by
  have C1:=hidden (list_calls ea b W w h g hb)
  have hln:=list_len h
  have E:=hidden (fun w1 h1 g1=>end_calls ea b W.list.2 w1 h1 g1)
  have G:=hidden (fun w1 (ho:Only [b] w w1)=>g.only ho (by simpa using hb))
  obtain ⟨r,hr⟩:∃ r,r=aPairs W:=⟨_,rfl⟩
  rw [← hr]
  unfold aPairs at hr
  generalize W.list=N1 at C1 hln E hr
  obtain ⟨L,V⟩:=N1
  simp only at C1 hln E hr
  have HR:=hidden hr
  clear h g hb hr
  go_enter Tryz.func53,Tryz.ntmps53
  go_wp2_with fail
  refine C1.out.mono ?_
  rintro e w1 ⟨v,rfl,hv,h1,ho1⟩
  obtain ⟨a,cap,rfl,hA,hnn,hcap,-⟩:=Back.own_ints hv (by omega)
  have E':=hidden (E.out w1 h1 (G.out w1 ho1))
  have HO:=hidden ho1
  have S:=hidden (Back.pairs_gen a L.length cap L w1 hA hnn)
  have hfit:=hidden (pairs_fit L)
  generalize L.length=n at S hln
  generalize Back.pfault L=f at S HR
  generalize Back.pr (Back.prsOf L)=P at S HR hfit
  clear hv h1 ho1 hA hcap hln hnn
  go_wp2_with fail
  refine E'.out.mono ?_
  rintro e w2 ⟨he,rfl⟩
  by_cases hl:V.left
  · rw [if_pos hl,badV_eq] at he
    subst he
    have HL:=hidden hl
    clear hl
    go_wp2_with fail
    go_ret2
    refine ⟨?_,HO.out⟩
    rw [HR.out,if_pos HL.out]
    exact ⟨[],rfl,by simp,by simp⟩
  · rw [if_neg hl] at he
    subst he
    have HL:=hidden hl
    clear hl
    go_wp2_with fail
    refine S.out.mono ?_
    rintro e w3 ⟨a3,m,c3,rfl,hA3,-,hcap3,hb3⟩
    have HO3:=hidden (HO.out.trans (Only.of_below hb3 [b]))
    have X:=hidden (joinedP_calls ea 32 a3 m c3 P w3 (G.out w3 HO3.out) hA3 (by have:=hfit.out.1;have:=hA3.2.1;omega) hfit.out.2)
    clear hA3 hcap3 hb3
    go_wp2_with fail
    refine X.out.mono ?_
    rintro e w4 ⟨rfl,hb4⟩
    have HO4:=hidden (HO3.out.trans (Only.of_below hb4 [b]))
    clear hb4
    go_wp2_with fail
    go_ret2
    refine ⟨?_,HO4.out⟩
    rw [HR.out,if_neg HL.out]
    have hx:(joined (P.map pairText) 32).length≤1000000:=join_len 32 _ (by have:=hfit.out.1;simp;omega) (fun x hx=>by
      obtain ⟨y,hy,rfl⟩:=List.mem_map.1 hx
      have h1:=Lib.itoa_length_le y.1 (hfit.out.2 y hy).1.1 (hfit.out.2 y hy).1.2
      have h2:=Lib.itoa_length_le y.2 (hfit.out.2 y hy).2.1 (hfit.out.2 y hy).2.2
      unfold pairText
      simp
      omega)
    by_cases h0:f=0
    · subst h0
      rw [An.of_ok rfl]
      exact ⟨_,rfl,by simp,hx⟩
    · rw [An.of_err h0]
      refine ⟨_,by rw [Back.errv_pos h0];rfl,by simp,hx⟩
theorem fair_fit (A:Int) (L:List Int) (h:RT.rf A L 200=0):(Rate.shr A L).length≤200∧∀ x∈Rate.shr A L,-9223372036854775808≤x∧x≤9223372036854775807:=by
  obtain ⟨h1,h2,h3,h4⟩:=RT.rf_zero h
  have hlev:=Rate.shr_lev h2 h3
  have hm:0≤(RT.lv A (Rate.srt L)).1:=hlev.m0
  unfold Rate.shr
  rw [RT.sh_len]
  refine ⟨h1,fun x hx=>?_⟩
  obtain ⟨j,hj,rfl⟩:=List.getElem_of_mem hx
  rw [RT.sh_len] at hj
  have h5:=RT.sh_one hm (RT.lv A (Rate.srt L)).2 L j h2 hj
  have h6:=h2 (L.getD j 0) (by rw [List.getD_eq_getElem?_getD,List.getElem?_eq_getElem hj];simp)
  rw [List.getD_eq_getElem?_getD,List.getElem?_eq_getElem (by rw [RT.sh_len];exact hj),Option.getD_some] at h5
  omega
set_option maxHeartbeats 2000000 in
set_option maxRecDepth 100000 in
theorem fair_calls (ea:Addr) (b:Nat) (W:Ws) (w:World) (h:WAt w b W) (g:GW ea w) (hb:10≤b) :
    Calls Tryz.prog 54 #[.pointer (some ⟨b,0,none⟩)] w fun e w'=>TellsE ea (aFair W) e∧Only [b] w w':=by
  have C1:=hidden (number_calls ea b W w h g hb)
  have C2:=hidden (fun w1 h1 g1=>list_calls ea b W.number.2 w1 h1 g1 hb)
  have HLN:=hidden (fun w1 (h1:WAt w1 b W.number.2)=>list_len h1)
  have E:=hidden (fun w1 h1 g1=>end_calls ea b W.number.2.list.2 w1 h1 g1)
  have G:=hidden (fun w1 (ho:Only [b] w w1)=>g.only ho (by simpa using hb))
  obtain ⟨r,hr⟩:∃ r,r=aFair W:=⟨_,rfl⟩
  rw [← hr]
  unfold aFair at hr
  generalize W.number.2.list=N2 at C2 HLN E hr
  generalize W.number=N1 at C1 C2 HLN hr
  obtain ⟨A,V1⟩:=N1
  obtain ⟨L,V⟩:=N2
  simp only at C1 C2 HLN E hr
  have HR:=hidden hr
  clear h g hb hr
  go_enter Tryz.func54,Tryz.ntmps54
  go_wp2_with fail
  refine C1.out.mono ?_
  rintro e w1 ⟨rfl,h1,ho1⟩
  have C2':=hidden (C2.out w1 h1 (G.out w1 ho1))
  have hln:=HLN.out w1 h1
  have HO1:=hidden ho1
  clear h1 ho1
  go_wp2_with fail
  refine C2'.out.mono ?_
  rintro e w2 ⟨v,rfl,hv,h2,ho2⟩
  obtain ⟨a,cap,rfl,hA,hnn,hcap,-⟩:=Rate.own_ints hv (by omega)
  have HO:=hidden (HO1.out.trans ho2)
  have E':=hidden (E.out w2 h2 (G.out w2 HO.out))
  have S:=hidden (Rate.fair_calls A a L.length cap L w2 hA)
  have hfit:=hidden (fair_fit A L)
  have HL1:Hid (L.length=L.length):=hidden rfl
  generalize hn:L.length=n at S hln
  have HN:=hidden hn
  unfold Rate.FPost at S
  generalize RT.rf A L 200=f at S HR hfit
  generalize Rate.shr A L=P at S HR hfit
  clear hv h2 ho2 hA hcap hln hnn hn HL1
  go_wp2_with fail
  refine E'.out.mono ?_
  rintro e w3 ⟨he,rfl⟩
  by_cases hl:V.left
  · rw [if_pos hl,badV_eq] at he
    subst he
    have HL:=hidden hl
    clear hl
    go_wp2_with fail
    go_ret2
    refine ⟨?_,HO.out⟩
    rw [HR.out,if_pos HL.out]
    exact ⟨[],rfl,by simp,by simp⟩
  · rw [if_neg hl] at he
    subst he
    have HL:=hidden hl
    clear hl
    go_wp2_with fail
    refine S.out.mono ?_
    rintro e w4 hS
    rcases hS with ⟨h0,v,rfl,hv,hb4⟩ | ⟨h0,rfl,rfl⟩
    · have hP:=hfit.out h0
      have hln:=hP.1
      have hPl:P.length=n:=by have:=hv.1;simpa [Rate.ic] using this
      obtain ⟨a4,c4,rfl,hA4,-,hcap4,-⟩:=Tree.own_ints hv (by omega)
      have HO3:=hidden (HO.out.trans (Only.of_below hb4 [b]))
      have X:=hidden (joinedN_calls ea 44 a4 n c4 P w4 (G.out w4 HO3.out) hA4 (by omega) hP.2)
      have HP:=hidden hP
      have H0:=hidden h0
      clear hv hb4 hA4 hcap4 hP hln hPl h0
      go_wp2_with fail
      refine X.out.mono ?_
      rintro e w5 ⟨rfl,hb5⟩
      have HO4:=hidden (HO3.out.trans (Only.of_below hb5 [b]))
      clear hb5
      go_wp2_with fail
      go_ret2
      refine ⟨?_,HO4.out⟩
      rw [HR.out,if_neg HL.out,H0.out,An.of_ok rfl]
      exact ⟨_,rfl,by simp,join_len 44 _ (by have:=HP.out.1;simp;omega) (fun x hx=>by
        obtain ⟨y,hy,rfl⟩:=List.mem_map.1 hx
        have:=Lib.itoa_length_le y (HP.out.2 y hy).1 (HP.out.2 y hy).2
        omega)⟩
    · have X:=hidden (joinedN_none 44 none 0 w4)
      have H0:=hidden h0
      rw [Rate.errv_pos h0]
      clear h0
      go_wp2_with fail
      refine X.out.mono ?_
      rintro e w5 ⟨rfl,hb5⟩
      have HO4:=hidden (HO.out.trans (Only.of_below hb5 [b]))
      clear hb5
      go_wp2_with fail
      go_ret2
      refine ⟨?_,HO4.out⟩
      rw [HR.out,if_neg HL.out,An.of_err H0.out]
      exact ⟨_,rfl,by simp,by simp [joined]⟩
theorem own_eds {w:World} {base n:Nat} {v:Value} {L:List TM.Ed} (h:w.ownsRow base 92 3 v n (Tree.mc L)) (hn:n≤9223372036854775807) :
    ∃ a cap,v=.slice a n cap∧Tree.EArg w a n L∧n≤cap:=by
  have hl:L.length=n:=by have:=h.1;rw [Tree.mc_len] at this;omega
  rcases h.2 with ⟨rfl,rfl⟩ | ⟨g,cap,cur,rfl,hg,hb,hc,hm,hs,ht⟩
  · have:L=[]:=List.eq_nil_of_length_eq_zero hl
    subst this
    exact ⟨none,0,rfl,⟨fun j h=>absurd h (by simp),rfl,by omega⟩,Nat.le_refl _⟩
  · refine ⟨_,cap,rfl,⟨fun j hj=>⟨g,0,rfl,?_⟩,hl,hn⟩,hc⟩
    obtain ⟨h1,h2,h3⟩:=Tree.mc_get L j hj
    refine ⟨?_,?_,?_⟩
    · rw [Nat.zero_add,h.cellAt _ (by omega),h1]
    · rw [Nat.zero_add,h.cellAt _ (by omega),h2]
    · rw [Nat.zero_add,h.cellAt _ (by omega),h3]
theorem edges_len {w:World} {b:Nat} {W:Ws} (h:WAt w b W):W.edges.1.length≤3001:=by
  have h1:=list_len h
  have h2:∀ (n:Nat) (l:List Int),l.length≤n→(threes l).length≤l.length:=by
    intro n
    induction n with
    | zero=>intro l h;obtain rfl:=List.eq_nil_of_length_eq_zero (Nat.le_zero.1 h);simp [threes]
    | succ n ih=>
      intro l h
      match l,h with
      | [],_=>simp [threes]
      | [_],_=>simp [threes]
      | [_,_],_=>simp [threes]
      | a::b::c::r,h=>
        have:=ih r (by simp at h;omega)
        simp [threes];omega
  unfold Ws.edges
  split
  · simp
  · have:=h2 _ W.list.1 (Nat.le_refl _)
    show (threes W.list.1).length≤3001
    omega
set_option maxHeartbeats 2000000 in
set_option maxRecDepth 100000 in
theorem way_calls (D:Far) (hD:D.Ok) (ea:Addr) (b:Nat) (W:Ws) (w:World) (h:WAt w b W) (g:GW ea w) (hb:10≤b) :
    Calls Tryz.prog 58 #[.pointer (some ⟨b,0,none⟩)] w fun e w'=>TellsE ea (aWay D W) e∧Only [b] w w':=by
  have C1:=hidden (number_calls ea b W w h g hb)
  have C2:=hidden (fun w1 h1 g1=>edges_calls ea b W.number.2 w1 h1 g1 hb)
  have HLN:=hidden (fun w1 (h1:WAt w1 b W.number.2)=>edges_len h1)
  have E:=hidden (fun w1 h1 g1=>end_calls ea b W.number.2.edges.2 w1 h1 g1)
  have G:=hidden (fun w1 (ho:Only [b] w w1)=>g.only ho (by simpa using hb))
  obtain ⟨r,hr⟩:∃ r,r=aWay D W:=⟨_,rfl⟩
  rw [← hr]
  unfold aWay at hr
  generalize W.number.2.edges=N2 at C2 HLN E hr
  generalize W.number=N1 at C1 C2 HLN hr
  obtain ⟨A,V1⟩:=N1
  obtain ⟨L,V⟩:=N2
  simp only at C1 C2 HLN E hr
  have HR:=hidden hr
  have HD:=hidden (hD A L)
  clear h g hb hr hD
  go_enter Tryz.func58,Tryz.ntmps58
  go_wp2_with fail
  refine C1.out.mono ?_
  rintro e w1 ⟨rfl,h1,ho1⟩
  have C2':=hidden (C2.out w1 h1 (G.out w1 ho1))
  have hln:=HLN.out w1 h1
  have HO1:=hidden ho1
  clear h1 ho1
  go_wp2_with fail
  refine C2'.out.mono ?_
  rintro e w2 ⟨v,rfl,hv,h2,ho2⟩
  obtain ⟨a,cap,rfl,hA,hcap⟩:=own_eds hv (by omega)
  have HO:=hidden (HO1.out.trans ho2)
  have E':=hidden (E.out w2 h2 (G.out w2 HO.out))
  have S:=hidden (Tree.build_calls A 0 a L.length cap L w2 hA hcap)
  generalize L.length=n at S
  clear hv h2 ho2 hA hcap hln
  go_wp2_with fail
  refine E'.out.mono ?_
  rintro e w3 ⟨he,rfl⟩
  by_cases hl:V.left
  · rw [if_pos hl,badV_eq] at he
    subst he
    have HL:=hidden hl
    clear hl
    go_wp2_with fail
    go_ret2
    refine ⟨?_,HO.out⟩
    rw [HR.out,if_pos HL.out]
    exact ⟨[],rfl,by simp,by simp⟩
  · rw [if_neg hl] at he
    subst he
    have HL:=hidden hl
    clear hl
    go_wp2_with fail
    refine S.out.mono ?_
    rintro e w4 ⟨vp,vd,p,d,rfl,hQ⟩
    have hd16:=hQ.bp.len.2
    obtain ⟨a4,c4,rfl,hA4,-,hcap4,-⟩:=Tree.own_ints hQ.own2 (by omega)
    have HO3:=hidden (HO.out.trans (Only.of_below hQ.bel [b]))
    have hdb:∀ x∈d,-9223372036854775808≤x∧x≤9223372036854775807:=by
      intro x hx
      by_cases h0:TM.lf A L 0=0
      · obtain ⟨h1,-,h2⟩:=hQ.bp.2 h0
        obtain ⟨j,hj,rfl⟩:=List.getElem_of_mem hx
        have h3:=h1.low j
        have h4:=h2 j
        rw [TM.dg,List.getD_eq_getElem?_getD,List.getElem?_eq_getElem hj,Option.getD_some] at h3 h4
        omega
      · rw [(hQ.bp.1 h0).2] at hx;simp at hx
    have X:=hidden (joinedN_calls ea 44 a4 d.length c4 d w4 (G.out w4 HO3.out) hA4 (by omega) hdb)
    have HDB:=hidden hdb
    have HD16:=hidden hd16
    have HBP:=hidden hQ.bp
    generalize d.length=dn at X
    generalize hf:TM.lf A L 0=f at HR HD
    have HF:=hidden hf
    clear hQ hA4 hcap4 hdb hd16 hf
    go_wp2_with fail
    refine X.out.mono ?_
    rintro e w5 ⟨rfl,hb5⟩
    have HO4:=hidden (HO3.out.trans (Only.of_below hb5 [b]))
    clear hb5
    go_wp2_with fail
    go_ret2
    refine ⟨?_,HO4.out⟩
    rw [HR.out,if_neg HL.out]
    have hx:(joined (d.map Lib.itoa) 44).length≤1000000:=join_len 44 _ (by have:=HD16.out;simp;omega) (fun x hx=>by
        obtain ⟨y,hy,rfl⟩:=List.mem_map.1 hx
        have:=Lib.itoa_length_le y (HDB.out y hy).1 (HDB.out y hy).2
        omega)
    by_cases h0:f=0
    · subst h0
      have he:=((HBP.out.2 HF.out).1).uniq (HD.out rfl)
      rw [← he,An.of_ok rfl]
      exact ⟨_,rfl,by simp,hx⟩
    · rw [An.of_err h0]
      refine ⟨_,by rw [Tree.errv_pos h0];rfl,by simp,hx⟩
end Go.Proofs.YtlppdppddiecnaaGreatDoor.Run
