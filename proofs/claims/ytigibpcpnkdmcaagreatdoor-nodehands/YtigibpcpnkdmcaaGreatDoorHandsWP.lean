/-
  The walk of the law NodeHands: it returns true. Its condition: package errors' variable errorType is as its text lays it.
-/
import Derived.Test.YtigibpcpnkdmcaaGreatDoorHandsAll
import Derived.Test.YtigibpcpnkdmcaaGreatDoorRPackP
import Derived.Test.YtigibpcpnkdmcaaGreatDoorToldP
import Derived.LoopTactic
import Derived.Deep.CutBlock
import Derived.Deep.CutRange
import Derived.Deep.LoopGhost
import Derived.Deep.AppendLies
import Derived.Deep.QuietTactic
import Derived.BigQuiet
namespace Go.Proofs.YtigibpcpnkdmcaaGreatDoor.ND
open Go.ChangeShapes Go.WideShapes Go.ChangeAt Go.RowKit Go.Maps Go.Proofs.YtigibpcpnkdmcaaGreatDoor.Mem Go.Proofs.YtigibpcpnkdmcaaGreatDoor.NO
set_option linter.unusedVariables false
set_option maxHeartbeats 8000000 in
set_option maxRecDepth 100000 in
theorem nhands_walk (most:Int) (va:Option Addr) (ln cn:Nat) (X:List AU.Pk) (w:World) (hg:w.cell? ⟨0,0,none⟩=some (.iface 183 (.agg #[.pointer (some ⟨1,25,none⟩)]))) (hC:Audit.Came w va ln cn X) :
    Calls Tryz.prog 3 #[.int .i64 most,.slice va ln cn] w fun e w'=>e=.returned (.bool true)∧Below w.heap.size w w':=by
  have HG:=hidden hg
  have HC:=hidden hC
  have hln:=hC.1.2.1
  have C1:=hidden (h_new (Below.refl w.heap.size w))
  obtain ⟨i0,hii,hz0,hz1,hz2⟩:=info_parts Audit.infoPK
  clear hg hC
  go_enter Tryz.func3,Tryz.ntmps3
  go_wp2_with fail
  refine C1.out.mono ?_
  rintro e w1 ⟨b,rfl,h1⟩
  have C2:=hidden (h_plan h1 1 (.inl rfl))
  clear h1 C1
  go_wp2_with fail
  refine C2.out.mono ?_
  rintro e w2 ⟨rfl,h2⟩
  have C3:=hidden (h_sub p51 1 1 0 5 h2 (.inl ⟨rfl,rfl⟩) ⟨by omega,by omega⟩)
  clear h2 C2
  go_wp2_with fail
  refine C3.out.mono ?_
  rintro e w3 ⟨rfl,h3⟩
  have H3':=hidden h3
  have C4:=hidden (packet51 w3)
  clear h3 C3
  go_wp2_with fail
  refine C4.out.mono ?_
  rintro e w4 ⟨g,rfl,hA,hgl,hb4⟩
  have C5:=hidden (fact_send H3'.out hb4 hA hgl)
  clear C4 H3' hA hgl hb4
  go_wp2_with fail
  refine C5.out.mono ?_
  rintro e w5 ⟨rfl,h5⟩
  have C6:=hidden (fact_got h5)
  clear h5 C5
  go_wp2_with fail
  refine C6.out.mono ?_
  rintro e w6 ⟨gb,go,cp,t,ba,bo,m,cc,rfl,x0,x1,x5,hm,xc,hb6⟩
  have HB6:=hidden hb6
  have C7:=hidden (h_new hb6)
  have hm':(0:Int)<(m:Int):=by omega
  clear C6 hb6
  go_wp2_with fail
  refine C7.out.mono ?_
  rintro e w7 ⟨b2,rfl,h7⟩
  have C8:=hidden (h_plan h7 2 (.inr rfl))
  clear h7 C7 x0 x1 x5 xc hm hm' HB6
  go_wp2_with fail
  refine C8.out.mono ?_
  rintro e w8 ⟨rfl,h8⟩
  by_cases hmt:most<0∨3<most
  · have C9:=h_subBad 2 most h8 (.inr rfl) hmt
    rw [errv_pos (by omega)] at C9
    have C9:=hidden C9
    clear h8 C8
    go_wp2_with fail
    refine C9.out.mono ?_
    rintro e w9 ⟨rfl,hb9⟩
    clear C9
    by_cases d0:most<0
    · have d1:decide (most<0)=true:=by simpa using d0
      clear hmt
      go_wp2_with fail
      go_ret
      exact ⟨rfl,hb9⟩
    · have d1:decide (most<0)=false:=by simpa using d0
      have d2:3<most:=by omega
      have d3:decide (3<most)=true:=by simpa using d2
      clear hmt
      go_wp2_with fail
      go_ret
      exact ⟨rfl,hb9⟩
  have hm:0≤most∧most≤3:=by omega
  have HM:=hidden hm
  have C9:=hidden (h_sub (nS X) 2 most 1 0 h8 (.inr ⟨rfl,rfl⟩) hm)
  clear h8 C8 hmt
  go_wp2_with fail
  refine C9.out.mono ?_
  rintro e w9 ⟨rfl,h9⟩
  have H9:=hidden (HL.start h9)
  clear h9 C9 hm
  go_wp2_with fail
  go_loopg [13,14] 60 (fun g u13 u14 wr=>∃ (i:Nat) (sv:Value),i+g=60∧i≤ln∧sv=u13∧u14=.int .i64 (i:Int)∧Hid (HL w wr b2 X most i i sv))
  case atStart=>exact ⟨0,_,by omega,by omega,rfl,rfl,H9⟩
  case round=>
  obtain ⟨i,sv,hig,hil,rfl,rfl,HS⟩:=hrel
  clear H9
  by_cases hi:i<ln∧i<60
  case pos=>
    obtain ⟨hi1,hi2⟩:=hi
    have hiz:(i:Int)<(ln:Int):=by omega
    have di:decide ((i:Int)<(ln:Int))=true:=by simpa using hiz
    have hiz2:(i:Int)<60:=by omega
    have hi0:(0:Int)≤(i:Int):=by omega
    obtain ⟨vb,vo,rfl,hat⟩:=HC.out.1.at (by omega)
    obtain ⟨hat,hok⟩:=hat i hi1
    have hno:(X.getD i AU.noPk).a=none→(X.getD i AU.noPk).m=0∧(X.getD i AU.noPk).c=0:=HC.out.2.2.2 _ (by
      have hl:=HC.out.1.1
      rw [List.getD_eq_getElem?_getD,List.getElem?_eq_getElem (by omega)]
      exact List.getElem_mem _)
    have hsend:=fun (O:Obj) (W:World) (hW:wr.alloc O=W)=>HS.out.send HM.out hi2 O hW
    have hbad:=fun (W:World) (hW:Below wr.heap.size wr W)=>HS.out.bad hi2 hW
    have hnq:nq X i={ X.getD i AU.noPk with s:=(i:Int) }:=rfl
    obtain ⟨⟨s,t,l,q,st,ad,m,cp,L⟩,hp⟩:∃ p,X.getD i AU.noPk=p:=⟨_,rfl⟩
    rw [hp] at hat hok hno hsend hnq
    simp only at hno hsend hnq
    obtain ⟨j0,j1,j2,j3,j4,j5⟩:=hat.below HS.out.bel
    simp only at j0 j1 j2 j3 j4 j5
    have HNQ:=hidden hnq
    have HSend:Hid (∀ O W,wr.alloc O=W→PM.fault (i:Int) t l q m=0→Calls Tryz.prog 7 #[.pointer (some ⟨b2,0,none⟩),.int .i64 2,.agg #[.int .i64 (i:Int),.int .i64 t,.int .i64 l,.int .i64 q,.bool st,.slice ad m cp],.int .i64 (i:Int)] W fun e w'=>e=.returned .nilIface∧w'.heap[wr.heap.size]?=W.heap[wr.heap.size]?∧HL w w' b2 X most (i+1) i sv):=hidden (fun O W hW hf=>hsend O W hW hok hno hf)
    have HBad:=hidden hbad
    clear hsend hbad hat hnq hno hp hok
    go_upto_region 25 with fail
    obtain ⟨W4,hW4⟩:∃ W4,wr.alloc (.cells #[.int .i64 (i:Int),.int .i64 t,.int .i64 l,.int .i64 q,.bool st,.slice ad m cp] 34)=W4:=⟨_,rfl⟩
    have HB4:Hid (Below wr.heap.size wr W4):=by rw [← hW4];exact hidden ((Below.refl _ _).alloc (Nat.le_refl _) _)
    have hbx:W4.heap[wr.heap.size]?=some (.cells #[.int .i64 (i:Int),.int .i64 t,.int .i64 l,.int .i64 q,.bool st,.slice ad m cp] 34 (0,0)):=by
      rw [← hW4]
      exact heap_alloc_new wr _
    have HW4:=hidden hW4
    obtain ⟨xb,hxb⟩:∃ xb,wr.heap.size=xb:=⟨_,rfl⟩
    rw [hxb] at hbx HSend
    rw [hW4,hxb]
    clear hW4 j0 j1 j2 j3 j4 j5
    have HX:=hidden hbx
    have x0:W4.cell? ⟨xb,0,none⟩=some (.int .i64 (i:Int)):=by simp [World.cell?,hbx]
    have x1:W4.cell? ⟨xb,1,none⟩=some (.int .i64 t):=by simp [World.cell?,hbx]
    have x2:W4.cell? ⟨xb,2,none⟩=some (.int .i64 l):=by simp [World.cell?,hbx]
    have x3:W4.cell? ⟨xb,3,none⟩=some (.int .i64 q):=by simp [World.cell?,hbx]
    have x4:W4.cell? ⟨xb,4,none⟩=some (.bool st):=by simp [World.cell?,hbx]
    have x5:W4.cell? ⟨xb,5,none⟩=some (.slice ad m cp):=by simp [World.cell?,hbx]
    clear hbx
    by_cases hf:PM.fault (i:Int) t l q m=0
    case neg=>
      have CB:=hidden (HBad.out W4 HB4.out (i:Int) t l q st ad m cp hf)
      have HF:=hidden hf
      clear HSend HBad hf
      go_wp2_with fail
      refine CB.out.mono ?_
      rintro e w5 ⟨f,rfl,hf0,hst,hb5⟩
      have hbx5:w5.heap[xb]?=some (.cells #[.int .i64 (i:Int),.int .i64 t,.int .i64 l,.int .i64 q,.bool st,.slice ad m cp] 34 (0,0)):=(hst xb (lt_of_block HX.out)).trans HX.out
      have HB5:=hidden hb5
      rw [errv_pos (by omega)]
      clear CB hst x0 x1 x2 x3 x4 x5 hb5
      have x0:w5.cell? ⟨xb,0,none⟩=some (.int .i64 (i:Int)):=by simp [World.cell?,hbx5]
      have x1:w5.cell? ⟨xb,1,none⟩=some (.int .i64 t):=by simp [World.cell?,hbx5]
      have x2:w5.cell? ⟨xb,2,none⟩=some (.int .i64 l):=by simp [World.cell?,hbx5]
      have x3:w5.cell? ⟨xb,3,none⟩=some (.int .i64 q):=by simp [World.cell?,hbx5]
      have x4:w5.cell? ⟨xb,4,none⟩=some (.bool st):=by simp [World.cell?,hbx5]
      have x5:w5.cell? ⟨xb,5,none⟩=some (.slice ad m cp):=by simp [World.cell?,hbx5]
      clear hbx5
      have CP:=hidden (RPack.rpacket_calls (i:Int) t l q st ad m cp w5)
      go_wp2_with fail
      refine CP.out.mono ?_
      rintro e w6 ⟨rfl,hb6⟩
      obtain ⟨ff,hff⟩:∃ ff,PM.fault (i:Int) t l q m=ff:=⟨_,rfl⟩
      rw [hff] at HF
      rw [hff]
      have hz:¬ ((ff:Int)=0):=by have:=HF.out;omega
      have HB6:=hidden (HB5.out.trans (hb6.mono HB5.out.size))
      clear CP hb6 hff x0 x1 x2 x3 x4 x5
      go_wp2_with fail
      go_ret
      exact ⟨rfl,HB6.out⟩
    case pos=>
      have CB:=hidden (HSend.out _ W4 HW4.out hf)
      have HF:=hidden hf
      clear HSend HBad hf HW4
      go_wp2_with fail
      refine CB.out.mono ?_
      rintro e w5 ⟨rfl,hst,h5⟩
      have hbx5:w5.heap[xb]?=some (.cells #[.int .i64 (i:Int),.int .i64 t,.int .i64 l,.int .i64 q,.bool st,.slice ad m cp] 34 (0,0)):=hst.trans HX.out
      have H5:=hidden h5
      have HX5:=hidden hbx5
      clear CB hst x0 x1 x2 x3 x4 x5 h5 HS
      have x0:w5.cell? ⟨xb,0,none⟩=some (.int .i64 (i:Int)):=by simp [World.cell?,hbx5]
      have x1:w5.cell? ⟨xb,1,none⟩=some (.int .i64 t):=by simp [World.cell?,hbx5]
      have x2:w5.cell? ⟨xb,2,none⟩=some (.int .i64 l):=by simp [World.cell?,hbx5]
      have x3:w5.cell? ⟨xb,3,none⟩=some (.int .i64 q):=by simp [World.cell?,hbx5]
      have x4:w5.cell? ⟨xb,4,none⟩=some (.bool st):=by simp [World.cell?,hbx5]
      have x5:w5.cell? ⟨xb,5,none⟩=some (.slice ad m cp):=by simp [World.cell?,hbx5]
      clear hbx5
      have CP:=RPack.rpacket_calls (i:Int) t l q st ad m cp w5
      rw [HF.out] at CP
      have CP:=hidden CP
      go_wp2_with fail
      refine CP.out.mono ?_
      rintro e w6 ⟨rfl,hb6⟩
      have hbx6:w6.heap[xb]?=some (.cells #[.int .i64 (i:Int),.int .i64 t,.int .i64 l,.int .i64 q,.bool st,.slice ad m cp] 34 (0,0)):=(hb6.block xb (lt_of_block HX5.out)).trans HX5.out
      have H6:=hidden (H5.out.below hb6)
      clear CP hb6 x0 x1 x2 x3 x4 x5 H5
      have x0:w6.cell? ⟨xb,0,none⟩=some (.int .i64 (i:Int)):=by simp [World.cell?,hbx6]
      have x1:w6.cell? ⟨xb,1,none⟩=some (.int .i64 t):=by simp [World.cell?,hbx6]
      have x2:w6.cell? ⟨xb,2,none⟩=some (.int .i64 l):=by simp [World.cell?,hbx6]
      have x3:w6.cell? ⟨xb,3,none⟩=some (.int .i64 q):=by simp [World.cell?,hbx6]
      have x4:w6.cell? ⟨xb,4,none⟩=some (.bool st):=by simp [World.cell?,hbx6]
      have x5:w6.cell? ⟨xb,5,none⟩=some (.slice ad m cp):=by simp [World.cell?,hbx6]
      clear hbx6
      go_upto_region 32 with fail
      go_wp2_with (at_builtin;refine wpList_append_lies _ rfl _ _ 22 rfl w.heap.size 34 i0 _ 6 64 Tryz.underlying22 hii hz0 hz1 hz2 rfl (by decide) sv i (Audit.flat (nL X i)) rfl (H6.out.own.alloc _) ⟨w6.heap.size,0,none⟩ 1 1 (Audit.pc ⟨(i:Int),t,l,q,st,ad,m,cp,L⟩) rfl rfl (Audit.lit6 ⟨(i:Int),t,l,q,st,ad,m,cp,L⟩) (Audit.pc_one _) (by decide) ?b1 ?b2 ?b3 (w6.heap.size+1) (by simp) ?next)
      case b1=>unfold maxLen;omega
      case b2=>omega
      case b3=>have:=H6.out.bel.size;simp;omega
      case next=>
      intro g7 cap7 w7 hown hgrow hlies hlt
      have H7:Hid (HL w w7 b2 X most (i+1) (i+1) (.slice (some ⟨g7,0,none⟩) (i+1) cap7)):=hidden (H6.out.add (by rw [HNQ.out];exact hown) hgrow hlies hlt)
      clear hown hgrow hlies hlt x0 x1 x2 x3 x4 x5 H6
      go_wp2_with fail
      go_roundg (60 - (i+1))
      case measure=>omega
      case rel=>exact ⟨i+1,_,by omega,by omega,rfl,by go_num,H7⟩
  case neg=>
    have hi60:i≤60:=by omega
    have HI:Hid (i≤60):=hidden hi60
    have C10:=hidden (HS.out.got HM.out hi60 (fun j hj=>(HC.out.1.at (by omega)).elim fun vb h=>h.elim fun vo h=>(h.2 j (by omega)).2))
    have hi3:¬ ((i:Int)<(ln:Int)∧(i:Int)<60):=by omega
    have K10:Hid (¬ ((i:Int)<(ln:Int)∧(i:Int)<60)):=hidden hi3
    clear HS hi hi3 hi60 hig hil
    go_upto_region 21 with fail
    go_cut [112] from 105 to 112 (fun s wx=>s=.bool false∧wr=wx)
    case first=>
      by_cases z1:(i:Int)<(ln:Int)
      · have d1:decide ((i:Int)<(ln:Int))=true:=by simpa using z1
        have z2:¬ (i:Int)<60:=fun h=>K10.out ⟨z1,h⟩
        go_wp2_with fail
        go_meet
        exact ⟨rfl,rfl⟩
      · have d1:decide ((i:Int)<(ln:Int))=false:=by simpa using z1
        go_wp2_with fail
        go_meet
        exact ⟨rfl,rfl⟩
    case rest=>
    obtain ⟨rfl,rfl⟩:=hcut
    clear K10
    go_wp2_with fail
    refine C10.out.mono ?_
    rintro e w10 ⟨a,n,cp,G,c,bs,sa,sc,rfl,hn,hP,hv,h3,hsv,hsc,hsN,hS⟩
    subst hn
    subst hsv
    have H10:=hidden h3
    have HV:=hidden hv
    have HP:=hidden hP
    have C11:=hidden (gv_check hv HI.out sa sc a cp w10 hS hsc hsN hP)
    clear C10 h3 hS hsc hsN hv hP
    go_wp2_with fail
    refine C11.out.mono ?_
    rintro e w11 ⟨rfl,hb11⟩
    have H11:=hidden (H10.out.below hb11)
    have HP11:=hidden (HP.out.below hb11)
    have C12:=hidden (gv_row HV.out HI.out a cp w11 HP11.out)
    clear C11 hb11 H10 HP
    go_wp2_with fail
    refine C12.out.mono ?_
    rintro e w12 ⟨rfl,hb12⟩
    have H12:=hidden (H11.out.below hb12)
    have HP12:=hidden (HP11.out.below hb12)
    clear C12 hb12 H11 HP11
    have hcl:c.length≤60:=Nat.le_trans HV.out.ci HI.out
    go_wp2_with fail
    go_loopg [19] c.length (fun g y wq=>∃ j:Nat,j+g=c.length∧y=.int .i64 (j:Int)∧Hid (H3 w wq b2 bs)∧Hid (Audit.PArg wq a c.length G))
    case atStart=>exact ⟨0,by omega,rfl,H12,HP12⟩
    case round=>
    obtain ⟨j,hjg,rfl,HJ,HPJ⟩:=hrel
    clear H12 HP12
    by_cases hj:j<c.length
    case pos=>
      have hjz:(j:Int)<(c.length:Int):=by omega
      have hj0:(0:Int)≤(j:Int):=by omega
      obtain ⟨gb,go,rfl,hat⟩:=HPJ.out.at (by omega)
      obtain ⟨e1,e2⟩:=HV.out.lay j hj
      obtain ⟨_,f1,_,f3,_⟩:=HV.out.at' j hj
      have hpr:∀ k,j=k+1→(G.getD k AU.noPk).l=(nS X (c.getD k 0)).l:=fun k e=>(HV.out.at' k (by omega)).2.1
      rw [← f1] at e1
      rw [← f1,← f3] at e2
      have hat0:=(hat j hj).1
      obtain ⟨⟨s,t,l,q,st,ad,m,cc,L⟩,hp⟩:∃ p,G.getD j AU.noPk=p:=⟨_,rfl⟩
      rw [hp] at e1 e2 hat0
      simp only at e1 e2
      obtain ⟨j0,j1,j2,j3,j4,j5⟩:=hat0
      simp only at j0 j1 j2 j3 j4 j5
      have HAT:=hidden hat
      clear hp f1 f3 hat
      go_upto_region 42 with fail
      obtain ⟨W4,hW4⟩:∃ W4,wr.alloc (.cells #[.int .i64 s,.int .i64 t,.int .i64 l,.int .i64 q,.bool st,.slice ad m cc] 34)=W4:=⟨_,rfl⟩
      have HB4:Hid (Below wr.heap.size wr W4):=by rw [← hW4];exact hidden ((Below.refl _ _).alloc (Nat.le_refl _) _)
      have hbx:W4.heap[wr.heap.size]?=some (.cells #[.int .i64 s,.int .i64 t,.int .i64 l,.int .i64 q,.bool st,.slice ad m cc] 34 (0,0)):=by
        rw [← hW4]
        exact heap_alloc_new wr _
      have HJ4:=hidden (HJ.out.below HB4.out)
      have HPJ4:=hidden (HPJ.out.below HB4.out)
      rw [hW4]
      obtain ⟨xb,hxb⟩:∃ xb,wr.heap.size=xb:=⟨_,rfl⟩
      rw [hxb] at hbx
      rw [hxb]
      clear hW4 hxb j0 j1 j2 j3 j4 j5
      have x2:W4.cell? ⟨xb,2,none⟩=some (.int .i64 l):=by simp [World.cell?,hbx]
      have x4:W4.cell? ⟨xb,4,none⟩=some (.bool st):=by simp [World.cell?,hbx]
      clear hbx
      have dl:¬ (most<l):=by omega
      have dl':decide (most<l)=false:=by simpa using dl
      cases st with
      | true=>
        clear e2 hpr HAT
        go_quiet (fail)
        go_wp2_with fail
        go_roundg (c.length - (j+1))
        case measure=>omega
        case rel=>exact ⟨j+1,by omega,by go_num,hidden (HJ4.out.below (Audit.below_drewN' (Below.refl _ _) _)),hidden (HPJ4.out.below (Audit.below_drewN' (Below.refl _ _) _))⟩
      | false=>
        have e3:0<j∧(nS X (c.getD (j - 1) 0)).l=l:=e2.resolve_left (by simp)
        obtain ⟨k,hk⟩:∃ k,j - 1=k:=⟨_,rfl⟩
        have hjk:j=k+1:=by omega
        have hz:¬ ((j:Int)=0):=by omega
        have dz:decide ((j:Int)=0)=false:=by simpa using hz
        have hjn:¬ (j=0):=by omega
        have djn:decide (j=0)=false:=by simpa using hjn
        have dbn:(j==0)=false:=by simpa using hjn
        have dbz:((j:Int)==0)=false:=by simpa using hjn
        have hix:(j:Int) - 1=(k:Int):=by omega
        have hkn:k<c.length:=by omega
        have hwr:IntKind.i64.wrap ((j:Int) - 1)=(k:Int):=by rw [IntKind.wrap_i64];omega
        have hk2:(G.getD k AU.noPk).l=l:=by rw [hpr k hjk,← hk];exact e3.2
        have hc2:=((HAT.out k hkn).1.below HB4.out).2.2.1
        rw [hk2] at hc2
        clear hk hjk
        clear e2 e3 hpr HAT hk2
        go_quiet (fail)
        go_wp2_with fail
        go_roundg (c.length - (j+1))
        case measure=>omega
        case rel=>exact ⟨j+1,by omega,by go_num,hidden (HJ4.out.below (Audit.below_drewN' (Below.refl _ _) _)),hidden (HPJ4.out.below (Audit.below_drewN' (Below.refl _ _) _))⟩
    case neg=>
      obtain rfl:j=c.length:=by omega
      have hjz:¬ ((c.length:Int)<(c.length:Int)):=by omega
      have C13:=hidden HJ.out.got
      clear hj hjg HJ
      go_wp2_with fail
      refine C13.out.mono ?_
      rintro e w13 ⟨a13,cp13,rfl,h13⟩
      have C14:=hidden h13.unsub
      clear C13 h13
      go_wp2_with fail
      refine C14.out.mono ?_
      rintro e w14 ⟨rfl,h14⟩
      have C15:=h14.unsub
      rw [errv_pos (by omega)] at C15
      have C15:=hidden C15
      clear C14 h14
      go_wp2_with fail
      refine C15.out.mono ?_
      rintro e w15 ⟨rfl,hb15⟩
      have HB15:=hidden hb15
      have C16:=hidden (Told.same_err 5 5 w15 (by decide) (by decide) ((hb15.cell (p:=⟨0,0,none⟩) (World.block_lt_of_cell? w _ HG.out)).trans HG.out))
      clear C15 hb15
      go_wp2_with fail
      refine C16.out.mono ?_
      rintro e w16 ⟨rfl,hb16⟩
      have HB16:=hidden (HB15.out.trans (hb16.mono HB15.out.size))
      clear C16 hb16
      go_wp2_with fail
      go_ret
      exact ⟨rfl,HB16.out⟩
end Go.Proofs.YtigibpcpnkdmcaaGreatDoor.ND
