/-
  RunU, RunV in one text.
-/
import Derived.Test.YtlppdppddiecnaaGreatDoorLinesAll
import Derived.Test.YtlppdppddiecnaaGreatDoorSesAll
namespace Go.Proofs.YtlppdppddiecnaaGreatDoor.Run
open Go.ChangeShapes Go.WideShapes Go.ChangeAt Go.RowKit Go.Proofs.YtlppdppddiecnaaGreatDoor.Mem Go.Proofs.YtlppdppddiecnaaGreatDoor.RN Go.Proofs.YtlppdppddiecnaaGreatDoor.RC
set_option linter.unusedVariables false

theorem eq_no {y x:List UInt8} (h:y≠x):((bs y).toList==x)=false:=by
  rw [bs_toList]
  simpa using h
theorem eq_yes (y:List UInt8):((bs y).toList==y)=true:=by
  rw [bs_toList]
  simp
def DoneE (ea:Addr) (r:An×Ss) (sb wb vb lb:Nat) (mo:Option Nat) (w:World) (e:Ending) (w':World):Prop:=
  TellsE ea r.1 e∧∃ mo',SsAt w' sb wb vb lb mo' r.2∧Only [wb,vb,lb] w w'∧(mo'=mo∨∃ m,mo'=some m∧w.heap.size≤m)
theorem only_new {w w1 w2:World} {b:Nat} {L:List Nat} (h1:Below w.heap.size w w1) (h2:Only (b::L) w1 w2) (hb:w.heap.size≤b):Only L w w2:=by
  have hs:=h1.size
  refine ⟨h2.1.trans h1.os,h2.2.1.trans h1.tape,h2.2.2.1.trans h1.output,Nat.le_trans hs h2.2.2.2.1,fun k hk hm=>?_⟩
  rw [h2.2.2.2.2 k (by omega) (by simp only [List.mem_cons,not_or];exact ⟨by omega,hm⟩)]
  exact h1.block k hk
theorem slow_of {w:World} {sb wb vb lb b:Nat} {mo:Option Nat} {S:Ss} (h:SsAt w sb wb vb lb mo S) (hb:w.heap.size≤b) (hlo:10≤sb∧10≤wb∧10≤vb∧10≤lb):SLow sb wb vb lb mo b:=
  ⟨Nat.lt_of_lt_of_le (lt_of_block h.box) hb,Nat.lt_of_lt_of_le (lt_of_block h.win) hb,Nat.lt_of_lt_of_le h.vo.lt hb,Nat.lt_of_lt_of_le h.ly.lt hb,fun m e=>by subst e;exact Nat.lt_of_lt_of_le h.vo.map.lt hb,hlo⟩
set_option maxHeartbeats 2000000 in
set_option maxRecDepth 100000 in
theorem do_unwrap (D:Far) (hD:D.Ok) (ea:Addr) (sb wb vb lb:Nat) (mo:Option Nat) (S:Ss) (x:List UInt8) (w:World) (g:GW ea w) (hx:x.length≤3000) (hS:SsAt w sb wb vb lb mo S) (hO:S.Ok) (hlo:10≤sb∧10≤wb∧10≤vb∧10≤lb) (hy:(ws0 x).next.1=[117,110,119,114,97,112]) :
    Calls Tryz.prog 12 #[.pointer (some ⟨sb,0,none⟩),.string (bs x)] w (DoneE ea (line D S x) sb wb vb lb mo w):=by
  have C1:=hidden (newWords_calls ea x w g hx)
  have C2:=hidden (fun b w1 h1=>next_calls b (ws0 x) w1 h1)
  rw [hy] at C2
  obtain ⟨r,hr⟩:∃ r,r=line D S x:=⟨_,rfl⟩
  rw [← hr]
  unfold line aDo at hr
  rw [hy] at hr
  rw [if_pos rfl] at hr
  have q0:((bs [117,110,119,114,97,112]).toList==[117,110,119,114,97,112])=true:=eq_yes _
  have GG:=hidden g
  have HS:=hidden hS
  have HO:=hidden hO
  have HLO:=hidden hlo
  have HR:=hidden hr
  clear g hx hS hO hlo hr hy
  go_enter Tryz.func12,Tryz.ntmps12
  go_wp2_with fail
  refine C1.out.mono ?_
  rintro e w1 ⟨b,rfl,hb,h1,hb1⟩
  have C2':=hidden (C2.out b w1 h1)
  have HB:=hidden hb
  have HB1:=hidden hb1
  clear hb h1 hb1
  go_wp2_with fail
  refine C2'.out.mono ?_
  rintro e w2 ⟨rfl,h2,ho2⟩
  have HO2:=hidden (only_new HB1.out ho2 HB.out)
  have HSb:=hidden (HS.out.below HB1.out)
  have HSc:=hidden (HSb.out.words (slow_of HS.out HB.out HLO.out) ho2)
  have g2:GW ea w2:=(GG.out.below HB1.out).only ho2 (fun y hy=>by simp at hy;have:=GG.out.size;have:=HB.out;omega)
  have hG:10≤b:=by have:=GG.out.size;have:=HB.out;omega
  have C3:=hidden (unwrap_calls ea b _ w2 h2 g2 hG)
  have HO2':=hidden ho2
  clear h2 ho2 g2 hG
  go_wp2_with fail
  refine C3.out.mono ?_
  rintro e w3 ⟨⟨s,rfl,ht,hl⟩,ho3⟩
  have HT:Hid (∀ t,r.1=.ok t→s=t):=hidden (by rw [HR.out];exact ht)
  have HLL:=hidden hl
  have HS3:Hid (SsAt w3 sb wb vb lb mo r.2):=hidden (by rw [HR.out];exact HSc.out.words (slow_of HS.out HB.out HLO.out) ho3)
  have HO3:Hid (Only [wb,vb,lb] w w3):=hidden ((only_new HB1.out (HO2'.out.trans ho3) HB.out).mono (by simp))
  have hra:r.1=aUnwrap (ws0 x).next.2:=by rw [HR.out]
  rw [← hra]
  obtain ⟨rv,hrv⟩:∃ v,anV ea r.1=v:=⟨_,rfl⟩
  rw [hrv]
  have HRV:=hidden hrv
  clear ht hl ho3 hra hrv
  go_wp2_with fail
  go_ret2
  refine ⟨⟨s,by rw [HRV.out];rfl,HT.out,HLL.out⟩,mo,HS3.out,HO3.out,.inl rfl⟩
set_option maxHeartbeats 2000000 in
set_option maxRecDepth 100000 in
theorem do_seen (D:Far) (hD:D.Ok) (ea:Addr) (sb wb vb lb:Nat) (mo:Option Nat) (S:Ss) (x:List UInt8) (w:World) (g:GW ea w) (hx:x.length≤3000) (hS:SsAt w sb wb vb lb mo S) (hO:S.Ok) (hlo:10≤sb∧10≤wb∧10≤vb∧10≤lb) (hy:(ws0 x).next.1=[115,101,101,110]) :
    Calls Tryz.prog 12 #[.pointer (some ⟨sb,0,none⟩),.string (bs x)] w (DoneE ea (line D S x) sb wb vb lb mo w):=by
  have C1:=hidden (newWords_calls ea x w g hx)
  have C2:=hidden (fun b w1 h1=>next_calls b (ws0 x) w1 h1)
  rw [hy] at C2
  obtain ⟨r,hr⟩:∃ r,r=line D S x:=⟨_,rfl⟩
  rw [← hr]
  unfold line aDo at hr
  rw [hy] at hr
  rw [if_neg (by decide)] at hr
  rw [if_pos rfl] at hr
  have q0:((bs [115,101,101,110]).toList==[117,110,119,114,97,112])=false:=eq_no (by decide)
  have q1:((bs [115,101,101,110]).toList==[115,101,101,110])=true:=eq_yes _
  have GG:=hidden g
  have HS:=hidden hS
  have HO:=hidden hO
  have HLO:=hidden hlo
  have HR:=hidden hr
  clear g hx hS hO hlo hr hy
  go_enter Tryz.func12,Tryz.ntmps12
  go_wp2_with fail
  refine C1.out.mono ?_
  rintro e w1 ⟨b,rfl,hb,h1,hb1⟩
  have C2':=hidden (C2.out b w1 h1)
  have HB:=hidden hb
  have HB1:=hidden hb1
  clear hb h1 hb1
  go_wp2_with fail
  refine C2'.out.mono ?_
  rintro e w2 ⟨rfl,h2,ho2⟩
  have HO2:=hidden (only_new HB1.out ho2 HB.out)
  have HSb:=hidden (HS.out.below HB1.out)
  have HSc:=hidden (HSb.out.words (slow_of HS.out HB.out HLO.out) ho2)
  have g2:GW ea w2:=(GG.out.below HB1.out).only ho2 (fun y hy=>by simp at hy;have:=GG.out.size;have:=HB.out;omega)
  have hG:10≤b:=by have:=GG.out.size;have:=HB.out;omega
  have C3:=hidden (seen_calls ea b sb wb vb lb mo S _ w2 h2 g2 hG HSc.out HO.out (slow_of HS.out HB.out HLO.out))
  have HO2':=hidden ho2
  clear h2 ho2 g2 hG
  go_wp2_with fail
  refine C3.out.mono ?_
  rintro e w3 ⟨⟨s,rfl,ht,hl⟩,mo',hs3,ho3,hm3⟩
  have HT:Hid (∀ t,r.1=.ok t→s=t):=hidden (by rw [HR.out];exact ht)
  have HLL:=hidden hl
  have HS3:Hid (SsAt w3 sb wb vb lb mo' r.2):=hidden (by rw [HR.out];exact hs3)
  have HO3:Hid (Only [wb,vb,lb] w w3):=hidden (only_new HB1.out ((HO2'.out.mono (by simp)).trans ho3) HB.out)
  have HM3:Hid (mo'=mo∨∃ m,mo'=some m∧w.heap.size≤m):=hidden (by
    rcases hm3 with h | ⟨m,h1,h2⟩
    · exact .inl h
    · exact .inr ⟨m,h1,Nat.le_trans HO2.out.2.2.2.1 h2⟩)
  have hra:r.1=(aSeen S (ws0 x).next.2).1:=by rw [HR.out]
  rw [← hra]
  obtain ⟨rv,hrv⟩:∃ v,anV ea r.1=v:=⟨_,rfl⟩
  rw [hrv]
  have HRV:=hidden hrv
  clear ht hl hs3 ho3 hm3 hra hrv
  go_wp2_with fail
  go_ret2
  refine ⟨⟨s,by rw [HRV.out];rfl,HT.out,HLL.out⟩,mo',HS3.out,HO3.out,HM3.out⟩
set_option maxHeartbeats 2000000 in
set_option maxRecDepth 100000 in
theorem do_crc (D:Far) (hD:D.Ok) (ea:Addr) (sb wb vb lb:Nat) (mo:Option Nat) (S:Ss) (x:List UInt8) (w:World) (g:GW ea w) (hx:x.length≤3000) (hS:SsAt w sb wb vb lb mo S) (hO:S.Ok) (hlo:10≤sb∧10≤wb∧10≤vb∧10≤lb) (hy:(ws0 x).next.1=[99,114,99]) :
    Calls Tryz.prog 12 #[.pointer (some ⟨sb,0,none⟩),.string (bs x)] w (DoneE ea (line D S x) sb wb vb lb mo w):=by
  have C1:=hidden (newWords_calls ea x w g hx)
  have C2:=hidden (fun b w1 h1=>next_calls b (ws0 x) w1 h1)
  rw [hy] at C2
  obtain ⟨r,hr⟩:∃ r,r=line D S x:=⟨_,rfl⟩
  rw [← hr]
  unfold line aDo at hr
  rw [hy] at hr
  rw [if_neg (by decide)] at hr
  rw [if_neg (by decide)] at hr
  rw [if_pos rfl] at hr
  have q0:((bs [99,114,99]).toList==[117,110,119,114,97,112])=false:=eq_no (by decide)
  have q1:((bs [99,114,99]).toList==[115,101,101,110])=false:=eq_no (by decide)
  have q2:((bs [99,114,99]).toList==[99,114,99])=true:=eq_yes _
  have GG:=hidden g
  have HS:=hidden hS
  have HO:=hidden hO
  have HLO:=hidden hlo
  have HR:=hidden hr
  clear g hx hS hO hlo hr hy
  go_enter Tryz.func12,Tryz.ntmps12
  go_wp2_with fail
  refine C1.out.mono ?_
  rintro e w1 ⟨b,rfl,hb,h1,hb1⟩
  have C2':=hidden (C2.out b w1 h1)
  have HB:=hidden hb
  have HB1:=hidden hb1
  clear hb h1 hb1
  go_wp2_with fail
  refine C2'.out.mono ?_
  rintro e w2 ⟨rfl,h2,ho2⟩
  have HO2:=hidden (only_new HB1.out ho2 HB.out)
  have HSb:=hidden (HS.out.below HB1.out)
  have HSc:=hidden (HSb.out.words (slow_of HS.out HB.out HLO.out) ho2)
  have g2:GW ea w2:=(GG.out.below HB1.out).only ho2 (fun y hy=>by simp at hy;have:=GG.out.size;have:=HB.out;omega)
  have hG:10≤b:=by have:=GG.out.size;have:=HB.out;omega
  have C3:=hidden (sum_calls ea b _ w2 h2 g2 hG)
  have HO2':=hidden ho2
  clear h2 ho2 g2 hG
  go_wp2_with fail
  refine C3.out.mono ?_
  rintro e w3 ⟨⟨s,rfl,ht,hl⟩,ho3⟩
  have HT:Hid (∀ t,r.1=.ok t→s=t):=hidden (by rw [HR.out];exact ht)
  have HLL:=hidden hl
  have HS3:Hid (SsAt w3 sb wb vb lb mo r.2):=hidden (by rw [HR.out];exact HSc.out.words (slow_of HS.out HB.out HLO.out) ho3)
  have HO3:Hid (Only [wb,vb,lb] w w3):=hidden ((only_new HB1.out (HO2'.out.trans ho3) HB.out).mono (by simp))
  have hra:r.1=aSum (ws0 x).next.2:=by rw [HR.out]
  rw [← hra]
  obtain ⟨rv,hrv⟩:∃ v,anV ea r.1=v:=⟨_,rfl⟩
  rw [hrv]
  have HRV:=hidden hrv
  clear ht hl ho3 hra hrv
  go_wp2_with fail
  go_ret2
  refine ⟨⟨s,by rw [HRV.out];rfl,HT.out,HLL.out⟩,mo,HS3.out,HO3.out,.inl rfl⟩
set_option maxHeartbeats 2000000 in
set_option maxRecDepth 100000 in
theorem do_open (D:Far) (hD:D.Ok) (ea:Addr) (sb wb vb lb:Nat) (mo:Option Nat) (S:Ss) (x:List UInt8) (w:World) (g:GW ea w) (hx:x.length≤3000) (hS:SsAt w sb wb vb lb mo S) (hO:S.Ok) (hlo:10≤sb∧10≤wb∧10≤vb∧10≤lb) (hy:(ws0 x).next.1=[111,112,101,110]) :
    Calls Tryz.prog 12 #[.pointer (some ⟨sb,0,none⟩),.string (bs x)] w (DoneE ea (line D S x) sb wb vb lb mo w):=by
  have C1:=hidden (newWords_calls ea x w g hx)
  have C2:=hidden (fun b w1 h1=>next_calls b (ws0 x) w1 h1)
  rw [hy] at C2
  obtain ⟨r,hr⟩:∃ r,r=line D S x:=⟨_,rfl⟩
  rw [← hr]
  unfold line aDo at hr
  rw [hy] at hr
  rw [if_neg (by decide)] at hr
  rw [if_neg (by decide)] at hr
  rw [if_neg (by decide)] at hr
  rw [if_pos rfl] at hr
  have q0:((bs [111,112,101,110]).toList==[117,110,119,114,97,112])=false:=eq_no (by decide)
  have q1:((bs [111,112,101,110]).toList==[115,101,101,110])=false:=eq_no (by decide)
  have q2:((bs [111,112,101,110]).toList==[99,114,99])=false:=eq_no (by decide)
  have q3:((bs [111,112,101,110]).toList==[111,112,101,110])=true:=eq_yes _
  have GG:=hidden g
  have HS:=hidden hS
  have HO:=hidden hO
  have HLO:=hidden hlo
  have HR:=hidden hr
  clear g hx hS hO hlo hr hy
  go_enter Tryz.func12,Tryz.ntmps12
  go_wp2_with fail
  refine C1.out.mono ?_
  rintro e w1 ⟨b,rfl,hb,h1,hb1⟩
  have C2':=hidden (C2.out b w1 h1)
  have HB:=hidden hb
  have HB1:=hidden hb1
  clear hb h1 hb1
  go_wp2_with fail
  refine C2'.out.mono ?_
  rintro e w2 ⟨rfl,h2,ho2⟩
  have HO2:=hidden (only_new HB1.out ho2 HB.out)
  have HSb:=hidden (HS.out.below HB1.out)
  have HSc:=hidden (HSb.out.words (slow_of HS.out HB.out HLO.out) ho2)
  have g2:GW ea w2:=(GG.out.below HB1.out).only ho2 (fun y hy=>by simp at hy;have:=GG.out.size;have:=HB.out;omega)
  have hG:10≤b:=by have:=GG.out.size;have:=HB.out;omega
  have C3:=hidden (open_calls ea b _ w2 h2 g2 hG)
  have HO2':=hidden ho2
  clear h2 ho2 g2 hG
  go_wp2_with fail
  refine C3.out.mono ?_
  rintro e w3 ⟨⟨s,rfl,ht,hl⟩,ho3⟩
  have HT:Hid (∀ t,r.1=.ok t→s=t):=hidden (by rw [HR.out];exact ht)
  have HLL:=hidden hl
  have HS3:Hid (SsAt w3 sb wb vb lb mo r.2):=hidden (by rw [HR.out];exact HSc.out.words (slow_of HS.out HB.out HLO.out) ho3)
  have HO3:Hid (Only [wb,vb,lb] w w3):=hidden ((only_new HB1.out (HO2'.out.trans ho3) HB.out).mono (by simp))
  have hra:r.1=aOpen (ws0 x).next.2:=by rw [HR.out]
  rw [← hra]
  obtain ⟨rv,hrv⟩:∃ v,anV ea r.1=v:=⟨_,rfl⟩
  rw [hrv]
  have HRV:=hidden hrv
  clear ht hl ho3 hra hrv
  go_wp2_with fail
  go_ret2
  refine ⟨⟨s,by rw [HRV.out];rfl,HT.out,HLL.out⟩,mo,HS3.out,HO3.out,.inl rfl⟩
set_option maxHeartbeats 2000000 in
set_option maxRecDepth 100000 in
theorem do_pairs (D:Far) (hD:D.Ok) (ea:Addr) (sb wb vb lb:Nat) (mo:Option Nat) (S:Ss) (x:List UInt8) (w:World) (g:GW ea w) (hx:x.length≤3000) (hS:SsAt w sb wb vb lb mo S) (hO:S.Ok) (hlo:10≤sb∧10≤wb∧10≤vb∧10≤lb) (hy:(ws0 x).next.1=[112,97,105,114,115]) :
    Calls Tryz.prog 12 #[.pointer (some ⟨sb,0,none⟩),.string (bs x)] w (DoneE ea (line D S x) sb wb vb lb mo w):=by
  have C1:=hidden (newWords_calls ea x w g hx)
  have C2:=hidden (fun b w1 h1=>next_calls b (ws0 x) w1 h1)
  rw [hy] at C2
  obtain ⟨r,hr⟩:∃ r,r=line D S x:=⟨_,rfl⟩
  rw [← hr]
  unfold line aDo at hr
  rw [hy] at hr
  rw [if_neg (by decide)] at hr
  rw [if_neg (by decide)] at hr
  rw [if_neg (by decide)] at hr
  rw [if_neg (by decide)] at hr
  rw [if_pos rfl] at hr
  have q0:((bs [112,97,105,114,115]).toList==[117,110,119,114,97,112])=false:=eq_no (by decide)
  have q1:((bs [112,97,105,114,115]).toList==[115,101,101,110])=false:=eq_no (by decide)
  have q2:((bs [112,97,105,114,115]).toList==[99,114,99])=false:=eq_no (by decide)
  have q3:((bs [112,97,105,114,115]).toList==[111,112,101,110])=false:=eq_no (by decide)
  have q4:((bs [112,97,105,114,115]).toList==[112,97,105,114,115])=true:=eq_yes _
  have GG:=hidden g
  have HS:=hidden hS
  have HO:=hidden hO
  have HLO:=hidden hlo
  have HR:=hidden hr
  clear g hx hS hO hlo hr hy
  go_enter Tryz.func12,Tryz.ntmps12
  go_wp2_with fail
  refine C1.out.mono ?_
  rintro e w1 ⟨b,rfl,hb,h1,hb1⟩
  have C2':=hidden (C2.out b w1 h1)
  have HB:=hidden hb
  have HB1:=hidden hb1
  clear hb h1 hb1
  go_wp2_with fail
  refine C2'.out.mono ?_
  rintro e w2 ⟨rfl,h2,ho2⟩
  have HO2:=hidden (only_new HB1.out ho2 HB.out)
  have HSb:=hidden (HS.out.below HB1.out)
  have HSc:=hidden (HSb.out.words (slow_of HS.out HB.out HLO.out) ho2)
  have g2:GW ea w2:=(GG.out.below HB1.out).only ho2 (fun y hy=>by simp at hy;have:=GG.out.size;have:=HB.out;omega)
  have hG:10≤b:=by have:=GG.out.size;have:=HB.out;omega
  have C3:=hidden (pairs_calls ea b _ w2 h2 g2 hG)
  have HO2':=hidden ho2
  clear h2 ho2 g2 hG
  go_wp2_with fail
  refine C3.out.mono ?_
  rintro e w3 ⟨⟨s,rfl,ht,hl⟩,ho3⟩
  have HT:Hid (∀ t,r.1=.ok t→s=t):=hidden (by rw [HR.out];exact ht)
  have HLL:=hidden hl
  have HS3:Hid (SsAt w3 sb wb vb lb mo r.2):=hidden (by rw [HR.out];exact HSc.out.words (slow_of HS.out HB.out HLO.out) ho3)
  have HO3:Hid (Only [wb,vb,lb] w w3):=hidden ((only_new HB1.out (HO2'.out.trans ho3) HB.out).mono (by simp))
  have hra:r.1=aPairs (ws0 x).next.2:=by rw [HR.out]
  rw [← hra]
  obtain ⟨rv,hrv⟩:∃ v,anV ea r.1=v:=⟨_,rfl⟩
  rw [hrv]
  have HRV:=hidden hrv
  clear ht hl ho3 hra hrv
  go_wp2_with fail
  go_ret2
  refine ⟨⟨s,by rw [HRV.out];rfl,HT.out,HLL.out⟩,mo,HS3.out,HO3.out,.inl rfl⟩
set_option maxHeartbeats 2000000 in
set_option maxRecDepth 100000 in
theorem do_fair (D:Far) (hD:D.Ok) (ea:Addr) (sb wb vb lb:Nat) (mo:Option Nat) (S:Ss) (x:List UInt8) (w:World) (g:GW ea w) (hx:x.length≤3000) (hS:SsAt w sb wb vb lb mo S) (hO:S.Ok) (hlo:10≤sb∧10≤wb∧10≤vb∧10≤lb) (hy:(ws0 x).next.1=[102,97,105,114]) :
    Calls Tryz.prog 12 #[.pointer (some ⟨sb,0,none⟩),.string (bs x)] w (DoneE ea (line D S x) sb wb vb lb mo w):=by
  have C1:=hidden (newWords_calls ea x w g hx)
  have C2:=hidden (fun b w1 h1=>next_calls b (ws0 x) w1 h1)
  rw [hy] at C2
  obtain ⟨r,hr⟩:∃ r,r=line D S x:=⟨_,rfl⟩
  rw [← hr]
  unfold line aDo at hr
  rw [hy] at hr
  rw [if_neg (by decide)] at hr
  rw [if_neg (by decide)] at hr
  rw [if_neg (by decide)] at hr
  rw [if_neg (by decide)] at hr
  rw [if_neg (by decide)] at hr
  rw [if_pos rfl] at hr
  have q0:((bs [102,97,105,114]).toList==[117,110,119,114,97,112])=false:=eq_no (by decide)
  have q1:((bs [102,97,105,114]).toList==[115,101,101,110])=false:=eq_no (by decide)
  have q2:((bs [102,97,105,114]).toList==[99,114,99])=false:=eq_no (by decide)
  have q3:((bs [102,97,105,114]).toList==[111,112,101,110])=false:=eq_no (by decide)
  have q4:((bs [102,97,105,114]).toList==[112,97,105,114,115])=false:=eq_no (by decide)
  have q5:((bs [102,97,105,114]).toList==[102,97,105,114])=true:=eq_yes _
  have GG:=hidden g
  have HS:=hidden hS
  have HO:=hidden hO
  have HLO:=hidden hlo
  have HR:=hidden hr
  clear g hx hS hO hlo hr hy
  go_enter Tryz.func12,Tryz.ntmps12
  go_wp2_with fail
  refine C1.out.mono ?_
  rintro e w1 ⟨b,rfl,hb,h1,hb1⟩
  have C2':=hidden (C2.out b w1 h1)
  have HB:=hidden hb
  have HB1:=hidden hb1
  clear hb h1 hb1
  go_wp2_with fail
  refine C2'.out.mono ?_
  rintro e w2 ⟨rfl,h2,ho2⟩
  have HO2:=hidden (only_new HB1.out ho2 HB.out)
  have HSb:=hidden (HS.out.below HB1.out)
  have HSc:=hidden (HSb.out.words (slow_of HS.out HB.out HLO.out) ho2)
  have g2:GW ea w2:=(GG.out.below HB1.out).only ho2 (fun y hy=>by simp at hy;have:=GG.out.size;have:=HB.out;omega)
  have hG:10≤b:=by have:=GG.out.size;have:=HB.out;omega
  have C3:=hidden (fair_calls ea b _ w2 h2 g2 hG)
  have HO2':=hidden ho2
  clear h2 ho2 g2 hG
  go_wp2_with fail
  refine C3.out.mono ?_
  rintro e w3 ⟨⟨s,rfl,ht,hl⟩,ho3⟩
  have HT:Hid (∀ t,r.1=.ok t→s=t):=hidden (by rw [HR.out];exact ht)
  have HLL:=hidden hl
  have HS3:Hid (SsAt w3 sb wb vb lb mo r.2):=hidden (by rw [HR.out];exact HSc.out.words (slow_of HS.out HB.out HLO.out) ho3)
  have HO3:Hid (Only [wb,vb,lb] w w3):=hidden ((only_new HB1.out (HO2'.out.trans ho3) HB.out).mono (by simp))
  have hra:r.1=aFair (ws0 x).next.2:=by rw [HR.out]
  rw [← hra]
  obtain ⟨rv,hrv⟩:∃ v,anV ea r.1=v:=⟨_,rfl⟩
  rw [hrv]
  have HRV:=hidden hrv
  clear ht hl ho3 hra hrv
  go_wp2_with fail
  go_ret2
  refine ⟨⟨s,by rw [HRV.out];rfl,HT.out,HLL.out⟩,mo,HS3.out,HO3.out,.inl rfl⟩
set_option maxHeartbeats 2000000 in
set_option maxRecDepth 100000 in
theorem do_hear (D:Far) (hD:D.Ok) (ea:Addr) (sb wb vb lb:Nat) (mo:Option Nat) (S:Ss) (x:List UInt8) (w:World) (g:GW ea w) (hx:x.length≤3000) (hS:SsAt w sb wb vb lb mo S) (hO:S.Ok) (hlo:10≤sb∧10≤wb∧10≤vb∧10≤lb) (hy:(ws0 x).next.1=[104,101,97,114]) :
    Calls Tryz.prog 12 #[.pointer (some ⟨sb,0,none⟩),.string (bs x)] w (DoneE ea (line D S x) sb wb vb lb mo w):=by
  have C1:=hidden (newWords_calls ea x w g hx)
  have C2:=hidden (fun b w1 h1=>next_calls b (ws0 x) w1 h1)
  rw [hy] at C2
  obtain ⟨r,hr⟩:∃ r,r=line D S x:=⟨_,rfl⟩
  rw [← hr]
  unfold line aDo at hr
  rw [hy] at hr
  rw [if_neg (by decide)] at hr
  rw [if_neg (by decide)] at hr
  rw [if_neg (by decide)] at hr
  rw [if_neg (by decide)] at hr
  rw [if_neg (by decide)] at hr
  rw [if_neg (by decide)] at hr
  rw [if_pos rfl] at hr
  have q0:((bs [104,101,97,114]).toList==[117,110,119,114,97,112])=false:=eq_no (by decide)
  have q1:((bs [104,101,97,114]).toList==[115,101,101,110])=false:=eq_no (by decide)
  have q2:((bs [104,101,97,114]).toList==[99,114,99])=false:=eq_no (by decide)
  have q3:((bs [104,101,97,114]).toList==[111,112,101,110])=false:=eq_no (by decide)
  have q4:((bs [104,101,97,114]).toList==[112,97,105,114,115])=false:=eq_no (by decide)
  have q5:((bs [104,101,97,114]).toList==[102,97,105,114])=false:=eq_no (by decide)
  have q6:((bs [104,101,97,114]).toList==[104,101,97,114])=true:=eq_yes _
  have GG:=hidden g
  have HS:=hidden hS
  have HO:=hidden hO
  have HLO:=hidden hlo
  have HR:=hidden hr
  clear g hx hS hO hlo hr hy
  go_enter Tryz.func12,Tryz.ntmps12
  go_wp2_with fail
  refine C1.out.mono ?_
  rintro e w1 ⟨b,rfl,hb,h1,hb1⟩
  have C2':=hidden (C2.out b w1 h1)
  have HB:=hidden hb
  have HB1:=hidden hb1
  clear hb h1 hb1
  go_wp2_with fail
  refine C2'.out.mono ?_
  rintro e w2 ⟨rfl,h2,ho2⟩
  have HO2:=hidden (only_new HB1.out ho2 HB.out)
  have HSb:=hidden (HS.out.below HB1.out)
  have HSc:=hidden (HSb.out.words (slow_of HS.out HB.out HLO.out) ho2)
  have g2:GW ea w2:=(GG.out.below HB1.out).only ho2 (fun y hy=>by simp at hy;have:=GG.out.size;have:=HB.out;omega)
  have hG:10≤b:=by have:=GG.out.size;have:=HB.out;omega
  have C3:=hidden (hear_calls ea b sb wb vb lb mo S _ w2 h2 g2 hG HSc.out HO.out (slow_of HS.out HB.out HLO.out))
  have HO2':=hidden ho2
  clear h2 ho2 g2 hG
  go_wp2_with fail
  refine C3.out.mono ?_
  rintro e w3 ⟨⟨s,rfl,ht,hl⟩,mo',hs3,ho3,hm3⟩
  have HT:Hid (∀ t,r.1=.ok t→s=t):=hidden (by rw [HR.out];exact ht)
  have HLL:=hidden hl
  have HS3:Hid (SsAt w3 sb wb vb lb mo' r.2):=hidden (by rw [HR.out];exact hs3)
  have HO3:Hid (Only [wb,vb,lb] w w3):=hidden (only_new HB1.out ((HO2'.out.mono (by simp)).trans ho3) HB.out)
  have HM3:Hid (mo'=mo∨∃ m,mo'=some m∧w.heap.size≤m):=hidden (by
    rcases hm3 with h | ⟨m,h1,h2⟩
    · exact .inl h
    · exact .inr ⟨m,h1,Nat.le_trans HO2.out.2.2.2.1 h2⟩)
  have hra:r.1=(aHear S (ws0 x).next.2).1:=by rw [HR.out]
  rw [← hra]
  obtain ⟨rv,hrv⟩:∃ v,anV ea r.1=v:=⟨_,rfl⟩
  rw [hrv]
  have HRV:=hidden hrv
  clear ht hl hs3 ho3 hm3 hra hrv
  go_wp2_with fail
  go_ret2
  refine ⟨⟨s,by rw [HRV.out];rfl,HT.out,HLL.out⟩,mo',HS3.out,HO3.out,HM3.out⟩
set_option maxHeartbeats 2000000 in
set_option maxRecDepth 100000 in
theorem do_take (D:Far) (hD:D.Ok) (ea:Addr) (sb wb vb lb:Nat) (mo:Option Nat) (S:Ss) (x:List UInt8) (w:World) (g:GW ea w) (hx:x.length≤3000) (hS:SsAt w sb wb vb lb mo S) (hO:S.Ok) (hlo:10≤sb∧10≤wb∧10≤vb∧10≤lb) (hy:(ws0 x).next.1=[116,97,107,101]) :
    Calls Tryz.prog 12 #[.pointer (some ⟨sb,0,none⟩),.string (bs x)] w (DoneE ea (line D S x) sb wb vb lb mo w):=by
  have C1:=hidden (newWords_calls ea x w g hx)
  have C2:=hidden (fun b w1 h1=>next_calls b (ws0 x) w1 h1)
  rw [hy] at C2
  obtain ⟨r,hr⟩:∃ r,r=line D S x:=⟨_,rfl⟩
  rw [← hr]
  unfold line aDo at hr
  rw [hy] at hr
  rw [if_neg (by decide)] at hr
  rw [if_neg (by decide)] at hr
  rw [if_neg (by decide)] at hr
  rw [if_neg (by decide)] at hr
  rw [if_neg (by decide)] at hr
  rw [if_neg (by decide)] at hr
  rw [if_neg (by decide)] at hr
  rw [if_pos rfl] at hr
  have q0:((bs [116,97,107,101]).toList==[117,110,119,114,97,112])=false:=eq_no (by decide)
  have q1:((bs [116,97,107,101]).toList==[115,101,101,110])=false:=eq_no (by decide)
  have q2:((bs [116,97,107,101]).toList==[99,114,99])=false:=eq_no (by decide)
  have q3:((bs [116,97,107,101]).toList==[111,112,101,110])=false:=eq_no (by decide)
  have q4:((bs [116,97,107,101]).toList==[112,97,105,114,115])=false:=eq_no (by decide)
  have q5:((bs [116,97,107,101]).toList==[102,97,105,114])=false:=eq_no (by decide)
  have q6:((bs [116,97,107,101]).toList==[104,101,97,114])=false:=eq_no (by decide)
  have q7:((bs [116,97,107,101]).toList==[116,97,107,101])=true:=eq_yes _
  have GG:=hidden g
  have HS:=hidden hS
  have HO:=hidden hO
  have HLO:=hidden hlo
  have HR:=hidden hr
  clear g hx hS hO hlo hr hy
  go_enter Tryz.func12,Tryz.ntmps12
  go_wp2_with fail
  refine C1.out.mono ?_
  rintro e w1 ⟨b,rfl,hb,h1,hb1⟩
  have C2':=hidden (C2.out b w1 h1)
  have HB:=hidden hb
  have HB1:=hidden hb1
  clear hb h1 hb1
  go_wp2_with fail
  refine C2'.out.mono ?_
  rintro e w2 ⟨rfl,h2,ho2⟩
  have HO2:=hidden (only_new HB1.out ho2 HB.out)
  have HSb:=hidden (HS.out.below HB1.out)
  have HSc:=hidden (HSb.out.words (slow_of HS.out HB.out HLO.out) ho2)
  have g2:GW ea w2:=(GG.out.below HB1.out).only ho2 (fun y hy=>by simp at hy;have:=GG.out.size;have:=HB.out;omega)
  have hG:10≤b:=by have:=GG.out.size;have:=HB.out;omega
  have C3:=hidden (take_calls ea b sb wb vb lb mo S _ w2 h2 g2 hG HSc.out HO.out (slow_of HS.out HB.out HLO.out))
  have HO2':=hidden ho2
  clear h2 ho2 g2 hG
  go_wp2_with fail
  refine C3.out.mono ?_
  rintro e w3 ⟨⟨s,rfl,ht,hl⟩,mo',hs3,ho3,hm3⟩
  have HT:Hid (∀ t,r.1=.ok t→s=t):=hidden (by rw [HR.out];exact ht)
  have HLL:=hidden hl
  have HS3:Hid (SsAt w3 sb wb vb lb mo' r.2):=hidden (by rw [HR.out];exact hs3)
  have HO3:Hid (Only [wb,vb,lb] w w3):=hidden (only_new HB1.out ((HO2'.out.mono (by simp)).trans ho3) HB.out)
  have HM3:Hid (mo'=mo∨∃ m,mo'=some m∧w.heap.size≤m):=hidden (by
    rcases hm3 with h | ⟨m,h1,h2⟩
    · exact .inl h
    · exact .inr ⟨m,h1,Nat.le_trans HO2.out.2.2.2.1 h2⟩)
  have hra:r.1=(aTake S (ws0 x).next.2).1:=by rw [HR.out]
  rw [← hra]
  obtain ⟨rv,hrv⟩:∃ v,anV ea r.1=v:=⟨_,rfl⟩
  rw [hrv]
  have HRV:=hidden hrv
  clear ht hl hs3 ho3 hm3 hra hrv
  go_wp2_with fail
  go_ret2
  refine ⟨⟨s,by rw [HRV.out];rfl,HT.out,HLL.out⟩,mo',HS3.out,HO3.out,HM3.out⟩
set_option maxHeartbeats 2000000 in
set_option maxRecDepth 100000 in
theorem do_gone (D:Far) (hD:D.Ok) (ea:Addr) (sb wb vb lb:Nat) (mo:Option Nat) (S:Ss) (x:List UInt8) (w:World) (g:GW ea w) (hx:x.length≤3000) (hS:SsAt w sb wb vb lb mo S) (hO:S.Ok) (hlo:10≤sb∧10≤wb∧10≤vb∧10≤lb) (hy:(ws0 x).next.1=[103,111,110,101]) :
    Calls Tryz.prog 12 #[.pointer (some ⟨sb,0,none⟩),.string (bs x)] w (DoneE ea (line D S x) sb wb vb lb mo w):=by
  have C1:=hidden (newWords_calls ea x w g hx)
  have C2:=hidden (fun b w1 h1=>next_calls b (ws0 x) w1 h1)
  rw [hy] at C2
  obtain ⟨r,hr⟩:∃ r,r=line D S x:=⟨_,rfl⟩
  rw [← hr]
  unfold line aDo at hr
  rw [hy] at hr
  rw [if_neg (by decide)] at hr
  rw [if_neg (by decide)] at hr
  rw [if_neg (by decide)] at hr
  rw [if_neg (by decide)] at hr
  rw [if_neg (by decide)] at hr
  rw [if_neg (by decide)] at hr
  rw [if_neg (by decide)] at hr
  rw [if_neg (by decide)] at hr
  rw [if_pos rfl] at hr
  have q0:((bs [103,111,110,101]).toList==[117,110,119,114,97,112])=false:=eq_no (by decide)
  have q1:((bs [103,111,110,101]).toList==[115,101,101,110])=false:=eq_no (by decide)
  have q2:((bs [103,111,110,101]).toList==[99,114,99])=false:=eq_no (by decide)
  have q3:((bs [103,111,110,101]).toList==[111,112,101,110])=false:=eq_no (by decide)
  have q4:((bs [103,111,110,101]).toList==[112,97,105,114,115])=false:=eq_no (by decide)
  have q5:((bs [103,111,110,101]).toList==[102,97,105,114])=false:=eq_no (by decide)
  have q6:((bs [103,111,110,101]).toList==[104,101,97,114])=false:=eq_no (by decide)
  have q7:((bs [103,111,110,101]).toList==[116,97,107,101])=false:=eq_no (by decide)
  have q8:((bs [103,111,110,101]).toList==[103,111,110,101])=true:=eq_yes _
  have GG:=hidden g
  have HS:=hidden hS
  have HO:=hidden hO
  have HLO:=hidden hlo
  have HR:=hidden hr
  clear g hx hS hO hlo hr hy
  go_enter Tryz.func12,Tryz.ntmps12
  go_wp2_with fail
  refine C1.out.mono ?_
  rintro e w1 ⟨b,rfl,hb,h1,hb1⟩
  have C2':=hidden (C2.out b w1 h1)
  have HB:=hidden hb
  have HB1:=hidden hb1
  clear hb h1 hb1
  go_wp2_with fail
  refine C2'.out.mono ?_
  rintro e w2 ⟨rfl,h2,ho2⟩
  have HO2:=hidden (only_new HB1.out ho2 HB.out)
  have HSb:=hidden (HS.out.below HB1.out)
  have HSc:=hidden (HSb.out.words (slow_of HS.out HB.out HLO.out) ho2)
  have g2:GW ea w2:=(GG.out.below HB1.out).only ho2 (fun y hy=>by simp at hy;have:=GG.out.size;have:=HB.out;omega)
  have hG:10≤b:=by have:=GG.out.size;have:=HB.out;omega
  have C3:=hidden (gone_calls ea b sb wb vb lb mo S _ w2 h2 g2 hG HSc.out HO.out (slow_of HS.out HB.out HLO.out))
  have HO2':=hidden ho2
  clear h2 ho2 g2 hG
  go_wp2_with fail
  refine C3.out.mono ?_
  rintro e w3 ⟨⟨s,rfl,ht,hl⟩,mo',hs3,ho3,hm3⟩
  have HT:Hid (∀ t,r.1=.ok t→s=t):=hidden (by rw [HR.out];exact ht)
  have HLL:=hidden hl
  have HS3:Hid (SsAt w3 sb wb vb lb mo' r.2):=hidden (by rw [HR.out];exact hs3)
  have HO3:Hid (Only [wb,vb,lb] w w3):=hidden (only_new HB1.out ((HO2'.out.mono (by simp)).trans ho3) HB.out)
  have HM3:Hid (mo'=mo∨∃ m,mo'=some m∧w.heap.size≤m):=hidden (by
    rcases hm3 with h | ⟨m,h1,h2⟩
    · exact .inl h
    · exact .inr ⟨m,h1,Nat.le_trans HO2.out.2.2.2.1 h2⟩)
  have hra:r.1=(aGone S (ws0 x).next.2).1:=by rw [HR.out]
  rw [← hra]
  obtain ⟨rv,hrv⟩:∃ v,anV ea r.1=v:=⟨_,rfl⟩
  rw [hrv]
  have HRV:=hidden hrv
  clear ht hl hs3 ho3 hm3 hra hrv
  go_wp2_with fail
  go_ret2
  refine ⟨⟨s,by rw [HRV.out];rfl,HT.out,HLL.out⟩,mo',HS3.out,HO3.out,HM3.out⟩
set_option maxHeartbeats 2000000 in
set_option maxRecDepth 100000 in
theorem do_way (D:Far) (hD:D.Ok) (ea:Addr) (sb wb vb lb:Nat) (mo:Option Nat) (S:Ss) (x:List UInt8) (w:World) (g:GW ea w) (hx:x.length≤3000) (hS:SsAt w sb wb vb lb mo S) (hO:S.Ok) (hlo:10≤sb∧10≤wb∧10≤vb∧10≤lb) (hy:(ws0 x).next.1=[119,97,121]) :
    Calls Tryz.prog 12 #[.pointer (some ⟨sb,0,none⟩),.string (bs x)] w (DoneE ea (line D S x) sb wb vb lb mo w):=by
  have C1:=hidden (newWords_calls ea x w g hx)
  have C2:=hidden (fun b w1 h1=>next_calls b (ws0 x) w1 h1)
  rw [hy] at C2
  obtain ⟨r,hr⟩:∃ r,r=line D S x:=⟨_,rfl⟩
  rw [← hr]
  unfold line aDo at hr
  rw [hy] at hr
  rw [if_neg (by decide)] at hr
  rw [if_neg (by decide)] at hr
  rw [if_neg (by decide)] at hr
  rw [if_neg (by decide)] at hr
  rw [if_neg (by decide)] at hr
  rw [if_neg (by decide)] at hr
  rw [if_neg (by decide)] at hr
  rw [if_neg (by decide)] at hr
  rw [if_neg (by decide)] at hr
  rw [if_pos rfl] at hr
  have q0:((bs [119,97,121]).toList==[117,110,119,114,97,112])=false:=eq_no (by decide)
  have q1:((bs [119,97,121]).toList==[115,101,101,110])=false:=eq_no (by decide)
  have q2:((bs [119,97,121]).toList==[99,114,99])=false:=eq_no (by decide)
  have q3:((bs [119,97,121]).toList==[111,112,101,110])=false:=eq_no (by decide)
  have q4:((bs [119,97,121]).toList==[112,97,105,114,115])=false:=eq_no (by decide)
  have q5:((bs [119,97,121]).toList==[102,97,105,114])=false:=eq_no (by decide)
  have q6:((bs [119,97,121]).toList==[104,101,97,114])=false:=eq_no (by decide)
  have q7:((bs [119,97,121]).toList==[116,97,107,101])=false:=eq_no (by decide)
  have q8:((bs [119,97,121]).toList==[103,111,110,101])=false:=eq_no (by decide)
  have q9:((bs [119,97,121]).toList==[119,97,121])=true:=eq_yes _
  have GG:=hidden g
  have HS:=hidden hS
  have HO:=hidden hO
  have HLO:=hidden hlo
  have HR:=hidden hr
  clear g hx hS hO hlo hr hy
  have HD:=hidden hD
  go_enter Tryz.func12,Tryz.ntmps12
  go_wp2_with fail
  refine C1.out.mono ?_
  rintro e w1 ⟨b,rfl,hb,h1,hb1⟩
  have C2':=hidden (C2.out b w1 h1)
  have HB:=hidden hb
  have HB1:=hidden hb1
  clear hb h1 hb1
  go_wp2_with fail
  refine C2'.out.mono ?_
  rintro e w2 ⟨rfl,h2,ho2⟩
  have HO2:=hidden (only_new HB1.out ho2 HB.out)
  have HSb:=hidden (HS.out.below HB1.out)
  have HSc:=hidden (HSb.out.words (slow_of HS.out HB.out HLO.out) ho2)
  have g2:GW ea w2:=(GG.out.below HB1.out).only ho2 (fun y hy=>by simp at hy;have:=GG.out.size;have:=HB.out;omega)
  have hG:10≤b:=by have:=GG.out.size;have:=HB.out;omega
  have C3:=hidden (way_calls D HD.out ea b _ w2 h2 g2 hG)
  have HO2':=hidden ho2
  clear h2 ho2 g2 hG
  go_wp2_with fail
  refine C3.out.mono ?_
  rintro e w3 ⟨⟨s,rfl,ht,hl⟩,ho3⟩
  have HT:Hid (∀ t,r.1=.ok t→s=t):=hidden (by rw [HR.out];exact ht)
  have HLL:=hidden hl
  have HS3:Hid (SsAt w3 sb wb vb lb mo r.2):=hidden (by rw [HR.out];exact HSc.out.words (slow_of HS.out HB.out HLO.out) ho3)
  have HO3:Hid (Only [wb,vb,lb] w w3):=hidden ((only_new HB1.out (HO2'.out.trans ho3) HB.out).mono (by simp))
  have hra:r.1=aWay D (ws0 x).next.2:=by rw [HR.out]
  rw [← hra]
  obtain ⟨rv,hrv⟩:∃ v,anV ea r.1=v:=⟨_,rfl⟩
  rw [hrv]
  have HRV:=hidden hrv
  clear ht hl ho3 hra hrv
  go_wp2_with fail
  go_ret2
  refine ⟨⟨s,by rw [HRV.out];rfl,HT.out,HLL.out⟩,mo,HS3.out,HO3.out,.inl rfl⟩
set_option maxHeartbeats 2000000 in
set_option maxRecDepth 100000 in
theorem do_none (D:Far) (hD:D.Ok) (ea:Addr) (sb wb vb lb:Nat) (mo:Option Nat) (S:Ss) (x:List UInt8) (w:World) (g:GW ea w) (hx:x.length≤3000) (hS:SsAt w sb wb vb lb mo S) (hO:S.Ok) (hlo:10≤sb∧10≤wb∧10≤vb∧10≤lb) (n0:(ws0 x).next.1≠[117,110,119,114,97,112]) (n1:(ws0 x).next.1≠[115,101,101,110]) (n2:(ws0 x).next.1≠[99,114,99]) (n3:(ws0 x).next.1≠[111,112,101,110]) (n4:(ws0 x).next.1≠[112,97,105,114,115]) (n5:(ws0 x).next.1≠[102,97,105,114]) (n6:(ws0 x).next.1≠[104,101,97,114]) (n7:(ws0 x).next.1≠[116,97,107,101]) (n8:(ws0 x).next.1≠[103,111,110,101]) (n9:(ws0 x).next.1≠[119,97,121]) :
    Calls Tryz.prog 12 #[.pointer (some ⟨sb,0,none⟩),.string (bs x)] w (DoneE ea (line D S x) sb wb vb lb mo w):=by
  have C1:=hidden (newWords_calls ea x w g hx)
  have C2:=hidden (fun b w1 h1=>next_calls b (ws0 x) w1 h1)
  obtain ⟨r,hr⟩:∃ r,r=line D S x:=⟨_,rfl⟩
  rw [← hr]
  unfold line aDo at hr
  rw [if_neg n0] at hr
  rw [if_neg n1] at hr
  rw [if_neg n2] at hr
  rw [if_neg n3] at hr
  rw [if_neg n4] at hr
  rw [if_neg n5] at hr
  rw [if_neg n6] at hr
  rw [if_neg n7] at hr
  rw [if_neg n8] at hr
  rw [if_neg n9] at hr
  have q0:((bs (ws0 x).next.1).toList==[117,110,119,114,97,112])=false:=eq_no n0
  have q1:((bs (ws0 x).next.1).toList==[115,101,101,110])=false:=eq_no n1
  have q2:((bs (ws0 x).next.1).toList==[99,114,99])=false:=eq_no n2
  have q3:((bs (ws0 x).next.1).toList==[111,112,101,110])=false:=eq_no n3
  have q4:((bs (ws0 x).next.1).toList==[112,97,105,114,115])=false:=eq_no n4
  have q5:((bs (ws0 x).next.1).toList==[102,97,105,114])=false:=eq_no n5
  have q6:((bs (ws0 x).next.1).toList==[104,101,97,114])=false:=eq_no n6
  have q7:((bs (ws0 x).next.1).toList==[116,97,107,101])=false:=eq_no n7
  have q8:((bs (ws0 x).next.1).toList==[103,111,110,101])=false:=eq_no n8
  have q9:((bs (ws0 x).next.1).toList==[119,97,121])=false:=eq_no n9
  generalize (ws0 x).next=XW at C2 q0 q1 q2 q3 q4 q5 q6 q7 q8 q9
  have GG:=hidden g
  have HS:=hidden hS
  have HLO:=hidden hlo
  have HR:=hidden hr
  clear g hx hS hO hlo hr n0 n1 n2 n3 n4 n5 n6 n7 n8 n9
  go_enter Tryz.func12,Tryz.ntmps12
  go_wp2_with fail
  refine C1.out.mono ?_
  rintro e w1 ⟨b,rfl,hb,h1,hb1⟩
  have C2':=hidden (C2.out b w1 h1)
  have HB:=hidden hb
  have HB1:=hidden hb1
  clear hb h1 hb1
  go_wp2_with fail
  refine C2'.out.mono ?_
  rintro e w2 ⟨rfl,h2,ho2⟩
  have HO2:=hidden (only_new HB1.out ho2 HB.out)
  have HSb:=hidden (HS.out.below HB1.out)
  have HSc:=hidden (HSb.out.words (slow_of HS.out HB.out HLO.out) ho2)
  have g2:GW ea w2:=(GG.out.below HB1.out).only ho2 (fun y hy=>by simp at hy;have:=GG.out.size;have:=HB.out;omega)
  have hbad:=g2.bad
  rw [badV_eq] at hbad
  clear h2 ho2 g2
  go_wp2_with fail
  go_quiet (fail)
  go_wp2_with fail
  go_ret2
  refine ⟨?_,mo,?_,HO2.out.mono (by simp),.inl rfl⟩
  · rw [HR.out]
    exact ⟨[],rfl,by simp,by simp⟩
  · rw [HR.out]
    exact HSc.out.only ((Only.refl [] w2).drewN _) (by simp) (by simp) (by simp) (by simp) (by simp)
theorem do_calls (D:Far) (hD:D.Ok) (ea:Addr) (sb wb vb lb:Nat) (mo:Option Nat) (S:Ss) (x:List UInt8) (w:World) (g:GW ea w) (hx:x.length≤3000) (hS:SsAt w sb wb vb lb mo S) (hO:S.Ok) (hlo:10≤sb∧10≤wb∧10≤vb∧10≤lb) :
    Calls Tryz.prog 12 #[.pointer (some ⟨sb,0,none⟩),.string (bs x)] w (DoneE ea (line D S x) sb wb vb lb mo w):=by
  by_cases n0:(ws0 x).next.1=[117,110,119,114,97,112]
  · exact do_unwrap D hD ea sb wb vb lb mo S x w g hx hS hO hlo n0
  by_cases n1:(ws0 x).next.1=[115,101,101,110]
  · exact do_seen D hD ea sb wb vb lb mo S x w g hx hS hO hlo n1
  by_cases n2:(ws0 x).next.1=[99,114,99]
  · exact do_crc D hD ea sb wb vb lb mo S x w g hx hS hO hlo n2
  by_cases n3:(ws0 x).next.1=[111,112,101,110]
  · exact do_open D hD ea sb wb vb lb mo S x w g hx hS hO hlo n3
  by_cases n4:(ws0 x).next.1=[112,97,105,114,115]
  · exact do_pairs D hD ea sb wb vb lb mo S x w g hx hS hO hlo n4
  by_cases n5:(ws0 x).next.1=[102,97,105,114]
  · exact do_fair D hD ea sb wb vb lb mo S x w g hx hS hO hlo n5
  by_cases n6:(ws0 x).next.1=[104,101,97,114]
  · exact do_hear D hD ea sb wb vb lb mo S x w g hx hS hO hlo n6
  by_cases n7:(ws0 x).next.1=[116,97,107,101]
  · exact do_take D hD ea sb wb vb lb mo S x w g hx hS hO hlo n7
  by_cases n8:(ws0 x).next.1=[103,111,110,101]
  · exact do_gone D hD ea sb wb vb lb mo S x w g hx hS hO hlo n8
  by_cases n9:(ws0 x).next.1=[119,97,121]
  · exact do_way D hD ea sb wb vb lb mo S x w g hx hS hO hlo n9
  exact do_none D hD ea sb wb vb lb mo S x w g hx hS hO hlo n0 n1 n2 n3 n4 n5 n6 n7 n8 n9

theorem ss0_ok:ss0.Ok:=⟨by decide,by decide,by decide,VO.inv_zero,⟨by decide,by decide,by decide,by decide,by decide,by decide,by decide⟩⟩
theorem rise_lt (s d:Nat):Win.riseS s d<18446744073709551616:=by
  unfold Win.riseS
  exact Nat.or_lt_two_pow (n:=64) (Nat.mod_lt _ (by decide)) (by decide)
theorem take1_ok {S:Ss} (h:S.Ok) (n:Int) (g:Bool) (p:Nat) (l:Int) (st:Bool) (hl:p=0→0≤l∧l≤3):(take1 S n g p l st).2.Ok:=
  ⟨h.t0,h.t1,h.s1,h.vo,LM.inv_take h.ly hl⟩
theorem seen_ok {S:Ss} (h:S.Ok) (W:Ws):(aSeen S W).2.Ok:=by
  unfold aSeen
  split
  · exact h
  · refine ⟨?_,?_,?_,h.vo,h.ly⟩
    · show -1≤wT S.top W.number.1
      unfold wT
      split
      · have:=h.t0;omega
      · exact h.t0
    · show wT S.top W.number.1≤1099511627776
      unfold wT
      split
      · rename_i hq
        have:=hq.1
        unfold wF at this
        split at this<;>omega
      · exact h.t1
    · show wS S.top W.number.1 S.seen<18446744073709551616
      unfold wS
      split
      · rename_i hq
        split
        · exact rise_lt _ _
        · have h8:¬ 8≤S.top - W.number.1:=by
            intro h8
            unfold wF at hq
            split at hq
            · omega
            · simp at hq
          exact Nat.or_lt_two_pow (n:=64) h.s1 (Nat.pow_lt_pow_right (by decide) (by omega))
      · exact h.s1
theorem line_ok {D:Far} {S:Ss} (h:S.Ok) (x:List UInt8):(line D S x).2.Ok:=by
  unfold line aDo
  generalize (ws0 x).next.1=y
  generalize (ws0 x).next.2=W
  iterate 11
    first
      | exact h
      | (split
         · first
           | exact h
           | exact seen_ok h W
           | (unfold aHear
              split
              · exact h
              · exact ⟨h.t0,h.t1,h.s1,VO.inv_st h.vo _,h.ly⟩)
           | (unfold aTake
              split
              · exact h
              · exact take1_ok h _ _ _ _ _ (fun hp=>by
                  obtain ⟨s,t,l,v,h1,h2,h3,h4,h5,h6,h7,h8,h9⟩:=PM.fault_zero hp
                  omega))
           | (unfold aGone
              split
              · exact h
              · exact take1_ok h _ _ _ _ _ (fun _=>by decide)))
theorem after_ok {D:Far}:∀ (L:List (List UInt8)) {S:Ss},S.Ok→(after D S L).Ok
  | [],_,h=>h
  | x::r,_,h=>after_ok r (line_ok h x)
set_option maxHeartbeats 1000000 in
set_option maxRecDepth 100000 in
theorem newSession_calls (w:World) :
    Calls Tryz.prog 8 #[] w fun e w'=>∃ sb wb vb lb,e=.returned (.pointer (some ⟨sb,0,none⟩))∧SsAt w' sb wb vb lb none ss0∧Below w.heap.size w w'∧w.heap.size≤sb∧w.heap.size≤wb∧w.heap.size≤vb∧w.heap.size≤lb:=by
  have C1:=hidden (Win.new_ok 8 w (by decide) (by decide))
  have C2:=hidden (fun W=>Voice.new_ok 2 W (by decide) (by decide))
  have C3:=hidden (fun W=>Layer.new_ok 1 W (by decide) (by decide))
  go_enter Tryz.func8,Tryz.ntmps8
  go_wp2_with fail
  refine C1.out.mono ?_
  rintro e w1 ⟨rfl,h1⟩
  have hb1:Below w.heap.size w w1:=by rw [h1];exact (Below.refl _ _).alloc (Nat.le_refl _) _
  have hw1:WinAt w1 w.heap.size (-1) 0:=by rw [h1];exact heap_alloc_new _ _
  have hz1:w1.heap.size=w.heap.size+1:=by rw [h1];simp
  have HB1:=hidden hb1
  have HW1:=hidden hw1
  have HZ1:=hidden hz1
  have C2':=hidden (C2.out w1)
  clear h1 hb1 hw1 hz1
  go_wp2_with fail
  refine C2'.out.mono ?_
  rintro e w2 ⟨rfl,hv,hb2⟩
  have HV:=hidden hv
  have HB2:=hidden hb2
  have C3':=hidden (C3.out w2)
  clear hv hb2
  go_wp2_with fail
  refine C3'.out.mono ?_
  rintro e w3 ⟨lb,rfl,hlb,hly,hb3⟩
  have HLB:=hidden hlb
  have HLY:=hidden hly
  have HB3:=hidden hb3
  clear hlb hly hb3
  go_wp2_with fail
  go_ret
  have hbx:Below w3.heap.size w3 (w3.alloc (.cells #[.pointer (some ⟨w.heap.size,0,none⟩),.pointer (some ⟨w1.heap.size,0,none⟩),.pointer (some ⟨lb,0,none⟩)] 105)):=(Below.refl _ _).alloc (Nat.le_refl _) _
  have s1:=HB1.out.size
  have s2:=HB2.out.size
  have s3:=HB3.out.size
  have z1:=HZ1.out
  have v2:=HV.out.lt
  have l2:=HLB.out
  have l3:=HLY.out.lt
  refine ⟨w3.heap.size,w.heap.size,w1.heap.size,lb,rfl,⟨heap_alloc_new _ _,?_,?_,?_,?_⟩,?_,?_,?_,?_,?_⟩
  · have o2:=Only.of_below HB2.out []
    have o3:=Only.of_below HB3.out []
    have o4:=Only.of_below hbx []
    exact o4.block (o3.block (o2.block HW1.out (by simp)) (by simp)) (by simp)
  · exact (HV.out.below HB3.out).below hbx
  · exact HLY.out.below hbx
  · omega
  · exact ((HB1.out.trans (HB2.out.mono s1)).trans (HB3.out.mono (by omega))).trans (hbx.mono (by omega))
  · omega
  · omega
  · omega
  · omega
end Go.Proofs.YtlppdppddiecnaaGreatDoor.Run
