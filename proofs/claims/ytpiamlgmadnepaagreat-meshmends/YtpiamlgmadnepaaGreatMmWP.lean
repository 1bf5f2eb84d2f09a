/-
 The walk of the Go function MeshMends: it returns true.
-/
import Derived.Test.YtpiamlgmadnepaaGreatMmEnd
import Derived.LoopTactic
import Derived.Deep.CutRange
import Derived.Deep.LoopGhost
import Derived.BigQuiet
import Derived.Deep.AppendLies
open Go.Proofs.Tryz
set_option linter.unusedVariables false
set_option maxHeartbeats 8000000
set_option maxRecDepth 100000
namespace Go.Proofs.YtpiamlgmadnepaaGreat.MS
open Go.ChangeShapes Go.WideShapes Go.ChangeAt Go.RowKit Go.Maps PM Mem Pack NO ND
theorem ξaN (n r v:Int) (vl:Value) (w:World)  (hc:n<1) :
 Calls prog 3 #[.int .i64 n,.int .i64 r,.int .i64 v,vl] w fun e w'=>e=.returned (.bool true)/\Below w.heap.size w w':=by
 have dc:decide (n<1)=true:=decide_eq_true hc
 go_enter func3,ntmps3
 go_wp2_with fail
 go_ret
 exact ⟨rfl,Ξp _ _⟩
theorem ξaM (n r v:Int) (vl:Value) (w:World) (p0:¬ n<1) (hc:10<n) :
 Calls prog 3 #[.int .i64 n,.int .i64 r,.int .i64 v,vl] w fun e w'=>e=.returned (.bool true)/\Below w.heap.size w w':=by
 have d0:decide (n<1)=false:=decide_eq_false p0
 have dc:decide (10<n)=true:=decide_eq_true hc
 go_enter func3,ntmps3
 go_wp2_with fail
 go_ret
 exact ⟨rfl,Ξp _ _⟩
theorem ξaL (n r v:Int) (vl:Value) (w:World) (p0:¬ n<1) (p1:¬ 10<n) (hc:r<0) :
 Calls prog 3 #[.int .i64 n,.int .i64 r,.int .i64 v,vl] w fun e w'=>e=.returned (.bool true)/\Below w.heap.size w w':=by
 have d0:decide (n<1)=false:=decide_eq_false p0
 have d1:decide (10<n)=false:=decide_eq_false p1
 have dc:decide (r<0)=true:=decide_eq_true hc
 go_enter func3,ntmps3
 go_wp2_with fail
 go_ret
 exact ⟨rfl,Ξp _ _⟩
theorem ξaK (n r v:Int) (vl:Value) (w:World) (p0:¬ n<1) (p1:¬ 10<n) (p2:¬ r<0) (hc:n<=r) :
 Calls prog 3 #[.int .i64 n,.int .i64 r,.int .i64 v,vl] w fun e w'=>e=.returned (.bool true)/\Below w.heap.size w w':=by
 have d0:decide (n<1)=false:=decide_eq_false p0
 have d1:decide (10<n)=false:=decide_eq_false p1
 have d2:decide (r<0)=false:=decide_eq_false p2
 have dc:decide (n<=r)=true:=decide_eq_true hc
 go_enter func3,ntmps3
 go_wp2_with fail
 go_ret
 exact ⟨rfl,Ξp _ _⟩
theorem ξaJ (n r v:Int) (vl:Value) (w:World) (p0:¬ n<1) (p1:¬ 10<n) (p2:¬ r<0) (p3:¬ n<=r) (hc:v<0) :
 Calls prog 3 #[.int .i64 n,.int .i64 r,.int .i64 v,vl] w fun e w'=>e=.returned (.bool true)/\Below w.heap.size w w':=by
 have d0:decide (n<1)=false:=decide_eq_false p0
 have d1:decide (10<n)=false:=decide_eq_false p1
 have d2:decide (r<0)=false:=decide_eq_false p2
 have d3:decide (n<=r)=false:=decide_eq_false p3
 have dc:decide (v<0)=true:=decide_eq_true hc
 go_enter func3,ntmps3
 go_wp2_with fail
 go_ret
 exact ⟨rfl,Ξp _ _⟩
theorem ξaI (n r v:Int) (vl:Value) (w:World) (p0:¬ n<1) (p1:¬ 10<n) (p2:¬ r<0) (p3:¬ n<=r) (p4:¬ v<0) (hc:n<=v) :
 Calls prog 3 #[.int .i64 n,.int .i64 r,.int .i64 v,vl] w fun e w'=>e=.returned (.bool true)/\Below w.heap.size w w':=by
 have d0:decide (n<1)=false:=decide_eq_false p0
 have d1:decide (10<n)=false:=decide_eq_false p1
 have d2:decide (r<0)=false:=decide_eq_false p2
 have d3:decide (n<=r)=false:=decide_eq_false p3
 have d4:decide (v<0)=false:=decide_eq_false p4
 have dc:decide (n<=v)=true:=decide_eq_true hc
 go_enter func3,ntmps3
 go_wp2_with fail
 go_ret
 exact ⟨rfl,Ξp _ _⟩
theorem ξfs (n r v:Nat) (va:Option Addr) (ln cn:Nat) (In:Nat->Int) (w:World) (hIn:Open.NRows w va ln In) (h1:1<=n) (h10:n<=10) (hr:r<n) (hv:v<n) :
 Calls prog 3 #[.int .i64 (n:Int),.int .i64 (r:Int),.int .i64 (v:Int),.slice va ln cn] w fun e w'=>e=.returned (.bool true)/\Below w.heap.size w w':=by
 have d0:decide ((n:Int)<1)=false:=decide_eq_false (by omega)
 have d1:decide (10<(n:Int))=false:=decide_eq_false (by omega)
 have d2:decide ((r:Int)<0)=false:=decide_eq_false (by omega)
 have d3:decide ((n:Int)<=(r:Int))=false:=decide_eq_false (by omega)
 have d4:decide ((v:Int)<0)=false:=decide_eq_false (by omega)
 have d5:decide ((n:Int)<=(v:Int))=false:=decide_eq_false (by omega)
 have e0:¬ (n:Int)<1:=by omega
 have e1:¬ 10<(n:Int):=by omega
 have e3:¬ (n:Int)<=(r:Int):=by omega
 have e5:¬ (n:Int)<=(v:Int):=by omega
 have f1:¬ 10<n:=by omega
 have f3:¬ n<=r:=by omega
 have f5:¬ n<=v:=by omega
 have HA:=ξ0 hIn
 have HC:=ξ0 (ξ7E n h1 h10 w)
 obtain ⟨i0,hii,hz0,hz1,hz2⟩:=info_parts Audit.infoPK;clear hIn;go_enter func3,ntmps3
 go_wp2_with fail
 refine HC.out.mono ?_
 rintro e w1 ⟨ea,ec,rfl,hEA,hen,hec,hb⟩;have HN:=ξ0 (ξf2 (r:=r) hb h1 h10 ea ec hEA hen hec)
 clear hEA hen hec hb HC;go_wp2_with fail
 refine HN.out.mono ?_
 rintro e w2 ⟨b,rfl,hP⟩;have HP:=ξ0 (ξf1 h1 h10 hr hP)
 clear hP HN;go_wp2_with fail
 refine HP.out.mono ?_
 rintro e w3 ⟨rfl,p,d,hT,hP⟩;have HS:=ξ0 (ξf0 hT hv hP)
 have HZ:Hid ((Zmm n r v p d).Ok):=ξ9I hT hv
 clear hT hP HP;go_wp2_with fail
 refine HS.out.mono ?_
 rintro e w4 ⟨rfl,hW⟩;have HL0:Hid (LW w w4 b (Zmm n r v p d) 0 0 (.slice none 0 0) []):=⟨[],[],hW,SR.nil⟩
 clear hW HS;obtain ⟨Z,hZe⟩:∃ Z,Zmm n r v p d=Z:=⟨_,rfl⟩;have HZS:Hid (Z.S=LP.pkN):=by rw [<- hZe];exact (rfl:(Zmm n r v p d).S=LP.pkN)
 have HZa:Hid (Z.at'=v/\Z.rt=r):=by rw [<- hZe];exact (⟨rfl,rfl⟩:(Zmm n r v p d).at'=v/\(Zmm n r v p d).rt=r)
 rw [hZe] at HZ HL0;clear hZe;go_wp2_with fail
 go_loopg [14,15] 60 (fun g u14 u15 wr=>∃ (i m:Nat) (sv:Value) (Y:List AU.Pk),i+g=60/\m<=50/\sv=u14/\u15=.int .i64 (i:Int)/\Hid (LW w wr b Z m (16*i) sv Y))
 case atStart=>exact ⟨0,0,_,[],rfl,by omega,rfl,rfl,HL0⟩
 case round=>
 obtain ⟨i,m,sv,Y,hig,hm50,rfl,rfl,HL⟩:=hrel;clear HL0;obtain ⟨sa,sc,hsv⟩:=ξcm HL.out.own;subst hsv;by_cases hc:(i:Int)<(ln:Int)/\(i:Int)<60
 case neg=>
  have K6:=ξ0 hc
  clear hc;go_upto_region 12 with fail
  go_cut [80] from 73 to 80 (fun s wx=>s=.bool false/\wr=wx)
  case first=>
   by_cases y1:(i:Int)<(ln:Int)
   ·have e1:decide ((i:Int)<(ln:Int))=true:=by simpa using y1
    have y2:¬ (i:Int)<60:=fun h=>K6.out ⟨y1,h⟩
    go_wp2_with fail
    go_meet
    exact ⟨rfl,rfl⟩
   ·have e1:decide ((i:Int)<(ln:Int))=false:=by simpa using y1
    go_wp2_with fail
    go_meet
    exact ⟨rfl,rfl⟩
  case rest=>
  obtain ⟨rfl,rfl⟩:=hcut;clear K6;have HPk:=ξ0 (HL.out.packet (by omega))
  clear HL;go_wp2_with fail
  refine HPk.out.mono ?_
  rintro e w6 ⟨g,rfl,h6⟩;have HP6:=ξ0 h6.box
  clear h6 HPk;go_upto_region 27 with fail
  obtain ⟨xb,hxb⟩:∃ xb,w6.heap.size=xb:=⟨_,rfl⟩;obtain ⟨w7,hw7⟩:∃ w7,w6.alloc (.cells #[.int .i64 (m:Int),.int .i64 (m:Int),.int .i64 0,.int .i64 0,.bool true,.slice (some ⟨g,0,none⟩) 2 2] 38)=w7:=⟨_,rfl⟩;rw [hxb,hw7] at HP6;rw [hxb,hw7];clear hxb hw7;obtain ⟨x0,x1,x2,x3,x4,x5⟩:=HP6.out.bx.cells;have HS:=ξ0 (HP6.out.send HZ.out HZS.out (by omega) (by omega))
  clear HP6;go_wp2_with fail
  refine HS.out.mono ?_
  rintro e w8 ⟨rfl,h8⟩;have HP8:=ξ0 h8
  clear h8 HS x0 x1 x2 x3 x4 x5;obtain ⟨x0,x1,x2,x3,x4,x5⟩:=HP8.out.bx.cells;go_wp2_with (at_builtin;refine wpList_append_lies _ rfl _ _ 33 rfl w.heap.size 38 i0 _ 6 64 underlying33 hii hz0 hz1 hz2 rfl (by decide) (.slice sa m sc) m (Audit.flat Y) rfl (HP8.out.own.1.alloc _) ⟨w8.heap.size,0,none⟩ 1 1 (Audit.pc (pkM m g)) rfl rfl (Audit.lit6 (pkM m g)) (Audit.ξ3c _) (by decide) ?b1 ?b2 ?b3 (w8.heap.size+1) (by simp) ?next)
  case b1=>unfold maxLen;omega
  case b2=>omega
  case b3=>have:=HP8.out.own.2;simp;omega
  case next=>
  intro g9 cap9 w9 hown hgrow hlies hlt;have HC9:=ξ0 ((HP8.out.add hown hgrow hlies hlt).calm HZ.out (by omega) (by omega))
  clear hown hgrow hlies hlt x0 x1 x2 x3 x4 x5 HP8;go_wp2_with fail
  refine HC9.out.mono ?_
  rintro e w10 ⟨q,rfl,f,tm,h10⟩;have HG:=ξ0 (h10.got HZ.out HZS.out)
  clear h10 HC9;go_wp2_with fail
  refine HG.out.mono ?_
  rintro e w11 ⟨a,c,rfl,hF⟩;have HF0:=ξ0 hF
  have hfm:=hF.fm
  clear hF HG;obtain ⟨K,hK⟩:∃ K,m+1 - f=K:=⟨_,rfl⟩;have hK1:1<=K:=by omega
  have hK2:K<=m+1:=by omega
  have p1:decide ((K:Int)<1)=false:=by simp;omega
  have p2:decide (((m:Int)+1)<(K:Int))=false:=by simp;omega
  rw [hK];have hkf:(m:Int)+1 - (K:Int)=(f:Int):=by omega
  go_upto_region 34 with fail
  clear hkf;go_wp2_with fail
  go_loopg [24] K (fun g u24 wz=>∃ (j:Nat),j+g=K/\u24=.int .i64 (j:Int)/\Hid (Fin w wz Z (m+1) f (.slice (some ⟨g9,0,none⟩) (m+1) cap9) a c))
  case atStart=>exact ⟨0,by omega,rfl,HF0⟩
  case round=>
  obtain ⟨j,hjK,rfl,HF⟩:=hrel;clear HF0;by_cases hj:j<K
  case neg=>
   have hjz:¬ (j:Int)<(K:Int):=by omega
   have hb:=HF.out.bel
   have hfr:=HF.out.fr
   by_cases hvr:v=r
   ·have hf0:f=0:=hfr (by rw [HZa.out.1,HZa.out.2];exact hvr)
    subst hf0;have q1:((v:Int) != (r:Int))=false:=by simp [hvr]
    go_wp2_with fail
    go_ret
    exact ⟨rfl,hb⟩
   ·have q1:((v:Int) != (r:Int))=true:=by simp;omega
    go_wp2_with fail
    go_ret
    exact ⟨rfl,hb⟩
  case pos=>
  have hjz:(j:Int)<(K:Int):=by omega
  obtain ⟨g,g1,n1,c1,gs',cc',g2,c2,rfl,hsl,k0,k5,k6,hA1,hA2⟩:=HF.out.at' j (by omega)
  obtain ⟨rfl,rfl⟩:gs'=g9/\cc'=cap9:=by simpa [eq_comm] using hsl
  have s1:=fun q=>ξ3Z (cap:=c1) (ξ7b hA1 q)
  have s2:=fun q=>ξ3Z (cap:=c2) (ξ7b hA2 q)
  have HFn:=ξ0 (fun q=>HF.out.drewN q)
  generalize str (LP.pL (f+j))=SB at *
  clear hA1 hA2 hsl HF;have hjf:f+j<m+1:=by omega
  go_wp2_with fail
  go_quiet (fail)
  go_wp2_with fail
  go_roundg (K - (j+1))
  case measure=>omega
  case rel=>exact ⟨j+1,by omega,by go_num,HFn.out _⟩
 case pos=>
 obtain ⟨z1,z2⟩:=hc;obtain ⟨ib,io,ra,rl,rc,rfl,hib,hcell0,hrow⟩:=HA.out.2 i (by omega)
 have HCell:=ξ0 hcell0
 have HRow:=ξ0 hrow
 clear hcell0 hrow;have HV0:=ξ0 HL.out.vec
 clear HL;go_upto_region 15 with fail
 obtain ⟨vb,hvb⟩:∃ vb,wr.heap.size=vb:=⟨_,rfl⟩;obtain ⟨w5,hw5⟩:∃ w5,wr.alloc (.cells #[.int .i64 0,.int .i64 0,.int .i64 0] 34)=w5:=⟨_,rfl⟩;rw [hvb,hw5] at HV0;rw [hvb,hw5];clear hvb hw5;go_wp2_with fail
 go_loopg [17] 2 (fun g u17 wv=>∃ (j:Nat) (a0 a1:Int),j+g=2/\u17=.int .i64 (j:Int)/\Hid (LV w wv b Z m (16*i) (.slice sa m sc) Y vb a0 a1))
 case atStart=>exact ⟨0,0,0,rfl,rfl,HV0⟩
 case round=>
 obtain ⟨j,a0,a1,hjg,rfl,HV⟩:=hrel;clear HV0;have hcell:=(HV.out.lw.bel.cell (Ξq _ _ HCell.out)).trans HCell.out
 by_cases hj:(j:Int)<(rl:Int)/\(j:Int)<2
 case pos=>
  obtain ⟨y1,y2⟩:=hj;obtain ⟨rb,ro,x,rfl,hrb,hrc⟩:=HRow.out.2 j (by omega)
  have hrc':=(HV.out.lw.bel.cell (Ξq _ _ hrc)).trans hrc
  clear hrc;obtain ⟨x0,hx0⟩:=HV.out.v3.cell (j:=j) (by omega)
  have hfr:=HV.out.v3.free j
  have HVn:=ξ0 (HV.out.put' (j:=j) (by omega) x)
  clear HV;go_wp2_with fail
  go_roundg (2 - (j+1))
  case measure=>omega
  case rel=>
   obtain ⟨c0,c1,h⟩:=HVn.out;exact ⟨j+1,c0,c1,by omega,by go_num,h⟩
 case neg=>
 have K6:=ξ0 hj
 clear hj;go_upto_region 16 with fail
 go_cut [93] from 83 to 93 (fun s wx=>s=.bool false/\wr=wx)
 case first=>
  by_cases y1:(j:Int)<(rl:Int)
  ·have e1:decide ((j:Int)<(rl:Int))=true:=by simpa using y1
   have y2:¬ (j:Int)<2:=fun h=>K6.out ⟨y1,h⟩
   go_wp2_with fail
   go_meet
   exact ⟨rfl,rfl⟩
  ·have e1:decide ((j:Int)<(rl:Int))=false:=by simpa using y1
   go_wp2_with fail
   go_meet
   exact ⟨rfl,rfl⟩
 case rest=>
 obtain ⟨rfl,rfl⟩:=hcut;clear K6;obtain ⟨c0,c1,c2⟩:=HV.out.v3.cells;have HLf:Hid (LW w wr b Z m (16*(i+1)) (.slice sa m sc) Y):=HV.out.lw.few (by omega)
 by_cases g0:a0<0
 case pos=>
  have e1:decide (a0<0)=true:=by simpa using g0
  clear HV hcell;go_wp2_with fail
  go_roundg (60 - (i+1))
  case measure=>omega
  case rel=>exact ⟨i+1,m,_,Y,by omega,hm50,rfl,by go_num,HLf⟩
 case neg=>
 have e1:decide (a0<0)=false:=by simpa using g0
 by_cases g6:6<a0
 case pos=>
  have e2:decide (6<a0)=true:=by simpa using g6
  clear HV hcell;go_wp2_with fail
  go_roundg (60 - (i+1))
  case measure=>omega
  case rel=>exact ⟨i+1,m,_,Y,by omega,hm50,rfl,by go_num,HLf⟩
 case neg=>
 have e2:decide (6<a0)=false:=by simpa using g6
 by_cases g2:a0<2
 case pos=>
  have e3:decide (a0<2)=true:=by simpa using g2
  by_cases g5:(50:Int)<=(m:Int)
  case pos=>
   have e4:decide ((50:Int)<=(m:Int))=true:=by simpa using g5
   clear HV hcell;go_wp2_with fail
   go_roundg (60 - (i+1))
   case measure=>omega
   case rel=>exact ⟨i+1,m,_,Y,by omega,hm50,rfl,by go_num,HLf⟩
  case neg=>
  have e4:decide ((50:Int)<=(m:Int))=false:=by simpa using g5
  have HPk:=ξ0 (HV.out.packet (by omega))
  clear HV HLf hcell;go_wp2_with fail
  refine HPk.out.mono ?_
  rintro e w6 ⟨g,rfl,h6⟩;have HP6:=ξ0 h6.box
  clear h6 HPk;go_upto_region 21 with fail
  obtain ⟨xb,hxb⟩:∃ xb,w6.heap.size=xb:=⟨_,rfl⟩;obtain ⟨w7,hw7⟩:∃ w7,w6.alloc (.cells #[.int .i64 (m:Int),.int .i64 (m:Int),.int .i64 0,.int .i64 0,.bool true,.slice (some ⟨g,0,none⟩) 2 2] 38)=w7:=⟨_,rfl⟩;rw [hxb,hw7] at HP6;rw [hxb,hw7];clear hxb hw7;obtain ⟨k0,k1,k2⟩:=HP6.out.bx.2.cells;obtain ⟨x0,x1,x2,x3,x4,x5⟩:=HP6.out.bx.1.cells;have HAct:=ξ0 (HP6.out.act HZ.out HZS.out (by omega) (by omega) (by omega) (by omega))
  clear HP6;go_wp2_with fail
  refine HAct.out.mono ?_
  rintro e w8 ⟨rfl,h8⟩;rw [if_pos (show a0<2 by omega)] at h8
  have HP8:=ξ0 h8
  clear h8 HAct k0 k1 k2 x0 x1 x2 x3 x4 x5;obtain ⟨k0,k1,k2⟩:=HP8.out.bx.2.cells;obtain ⟨x0,x1,x2,x3,x4,x5⟩:=HP8.out.bx.1.cells;go_wp2_with (at_builtin;refine wpList_append_lies _ rfl _ _ 33 rfl w.heap.size 38 i0 _ 6 64 underlying33 hii hz0 hz1 hz2 rfl (by decide) (.slice sa m sc) m (Audit.flat Y) rfl (HP8.out.own.1.alloc _) ⟨w8.heap.size,0,none⟩ 1 1 (Audit.pc (pkM m g)) rfl rfl (Audit.lit6 (pkM m g)) (Audit.ξ3c _) (by decide) ?b1 ?b2 ?b3 (w8.heap.size+1) (by simp) ?next)
  case b1=>unfold maxLen;omega
  case b2=>omega
  case b3=>have:=HP8.out.own.2;simp;omega
  case next=>
  intro g9 cap9 w9 hown hgrow hlies hlt;have HL9:=ξ0 (HP8.out.add rfl hown hgrow hlies hlt)
  clear hown hgrow hlies hlt x0 x1 x2 x3 x4 x5 k0 k1 k2 HP8;go_wp2_with fail
  go_roundg (60 - (i+1))
  case measure=>omega
  case rel=>exact ⟨i+1,m+1,_,_,by omega,by omega,rfl,by go_num,HL9⟩
 case neg=>
 have e3:decide (a0<2)=false:=by simpa using g2
 have HPk:=ξ0 (HV.out.packet (by omega))
 clear HV HLf hcell;go_wp2_with fail
 refine HPk.out.mono ?_
 rintro e w6 ⟨g,rfl,h6⟩;have HP6:=ξ0 h6.box
 clear h6 HPk;go_upto_region 21 with fail
 obtain ⟨xb,hxb⟩:∃ xb,w6.heap.size=xb:=⟨_,rfl⟩;obtain ⟨w7,hw7⟩:∃ w7,w6.alloc (.cells #[.int .i64 (m:Int),.int .i64 (m:Int),.int .i64 0,.int .i64 0,.bool true,.slice (some ⟨g,0,none⟩) 2 2] 38)=w7:=⟨_,rfl⟩;rw [hxb,hw7] at HP6;rw [hxb,hw7];clear hxb hw7;obtain ⟨k0,k1,k2⟩:=HP6.out.bx.2.cells;obtain ⟨x0,x1,x2,x3,x4,x5⟩:=HP6.out.bx.1.cells;have HAct:=ξ0 (HP6.out.act HZ.out HZS.out (by omega) (by omega) (by omega) (by omega))
 clear HP6;go_wp2_with fail
 refine HAct.out.mono ?_
 rintro e w8 ⟨rfl,h8⟩;rw [if_neg (show ¬ a0<2 by omega)] at h8
 have HL8:=ξ0 (h8.lw rfl)
 obtain ⟨k3,k4,k5⟩:=h8.bx.2.cells;clear h8 HAct k0 k1 k2 x0 x1 x2 x3 x4 x5;go_wp2_with fail
 go_roundg (60 - (i+1))
 case measure=>omega
 case rel=>exact ⟨i+1,m,_,Y,by omega,hm50,rfl,by go_num,HL8⟩
theorem ξdX (n r v:Int) (va:Option Addr) (ln cn:Nat) (In:Nat->Int) (w:World) (hIn:Open.NRows w va ln In) :
 Calls prog 3 #[.int .i64 n,.int .i64 r,.int .i64 v,.slice va ln cn] w fun e w'=>e=.returned (.bool true)/\Below w.heap.size w w':=by
 by_cases p0:n<1
 ·exact ξaN n r v _ w p0
 by_cases p1:10<n
 ·exact ξaM n r v _ w p0 p1
 by_cases p2:r<0
 ·exact ξaL n r v _ w p0 p1 p2
 by_cases p3:n<=r
 ·exact ξaK n r v _ w p0 p1 p2 p3
 by_cases p4:v<0
 ·exact ξaJ n r v _ w p0 p1 p2 p3 p4
 by_cases p5:n<=v
 ·exact ξaI n r v _ w p0 p1 p2 p3 p4 p5
 obtain ⟨n',rfl⟩:∃ n':Nat,n=(n':Int):=⟨n.toNat,by omega⟩
 obtain ⟨r',rfl⟩:∃ r':Nat,r=(r':Int):=⟨r.toNat,by omega⟩
 obtain ⟨v',rfl⟩:∃ v':Nat,v=(v':Int):=⟨v.toNat,by omega⟩
 exact ξfs n' r' v' va ln cn In w hIn (by omega) (by omega) (by omega) (by omega)
end Go.Proofs.YtpiamlgmadnepaaGreat.MS
