/-
 What the proof needs.
-/
import Derived.Test.YtpiamlgmadnepaaGreatMdTop
import Derived.Test.YtpiamlgmadnepaaGreatOpenSP
open Go.Proofs.Tryz
set_option linter.unusedVariables false
set_option maxHeartbeats 16000000
set_option maxRecDepth 100000
namespace Go.Proofs.YtpiamlgmadnepaaGreat.MS
open ChangeShapes WideShapes ChangeAt RowKit Maps PM Mem Pack NO ND
theorem bxc{W:World}{xb m g:Nat}{l:Int}{st:Bool}(h:Box W xb (m:Int) (m:Int) l 0 st (.slice (some ⟨g,0,none⟩) 2 2)) :
 (W.cell? ⟨xb,0,none⟩=some (.int .i64 (m:Int))/\W.cell? ⟨xb,1,none⟩=some (.int .i64 (m:Int))/\W.cell? ⟨xb,2,none⟩=some (.int .i64 l)/\W.cell? ⟨xb,3,none⟩=some (.int .i64 0)/\W.cell? ⟨xb,4,none⟩=some (.bool st)/\W.cell? ⟨xb,5,none⟩=some (.slice (some ⟨g,0,none⟩) 2 2))/\∀j,W.frozen? ⟨xb,j,none⟩=false:=by
 unfold Box at h;refine⟨by simp[World.cell?,h],λj=>by simp[World.frozen?,h]⟩
def B0g(w W:World)(b:Nat)(Z:Zd)(i m:Nat)(sv:Value)(Y:List AU.Pk)(vb:Nat)(a0 a1 a2:Int)(g xb:Nat):Prop:=∃(l:Int) (st:Bool) (bs cs:List Nat),Z.S m=⟨(m:Int),(m:Int),l,0,st,LP.pL m⟩/\DX w W b Z m i m sv Y vb a0 a1 a2 g xb l st bs cs
theorem ξeW(n:Int)(ea:Option Addr)(el ec:Nat)(E:List TM.Ed)(r at' mo:Int)(va:Option Addr)(ln cn:Nat)(In:Nat->Int)(pa:Option Addr)(lp cp:Nat)(P:List AU.Pk)(w:World)(hE:Tree.A1t w ea el E)(hec:el<=ec)(hen:ea=none->el=0/\ec=0)(hIn:Open.B06 w va ln In)(hP:Audit.Came w pa lp cp P) :
 Calls prog 4 #[.int .i64 n,.slice ea el ec,.int .i64 r,.int .i64 at',.int .i64 mo,.slice va ln cn,.slice pa lp cp] w λe w'=>e=.returned (.bool true)/\Below w.heap.size w w':=by
 obtain⟨i0,cF,cG,cH,cI⟩:=info_parts Audit.A6k;have HA:=ξ0 hIn;have aO:=ξ0 hP;have HE:=ξ0 (And.intro hE (And.intro hec hen));have HC:=ξ0 (ξ7u w);clear hIn hP hE hec hen;go_enter func4,ntmps4;go_wp2_with fail
 refine HC.out.mono ?_;rintro e w1 ⟨fa,fc,rfl,bI,bJ,bK,hb⟩;have H1:=ξ0 (f1 hb fa fc bI bJ bK);clear bI bJ bK hb HC;go_wp2_with fail;refine H1.out.mono ?_;rintro e w2 ⟨b1,rfl,h2⟩;have H2:=ξ0 (f2 h2.out);clear h2 H1;go_wp2_with fail;refine H2.out.mono ?_;rintro e w3 ⟨rfl,h3⟩;have H3:=ξ0 (f3 h3.out);clear h3 H2;go_wp2_with fail;refine H3.out.mono ?_;rintro e w4 ⟨rfl,h4⟩;have bM:=ξ0 (A9v w4);clear H3;go_wp2_with fail;refine bM.out.mono ?_;rintro e w5 ⟨g5,rfl,bN,bO,bP⟩;have H5:=ξ0 (f4 h4.out bP bO bN);clear h4 bM bN bO bP;go_wp2_with fail;refine H5.out.mono ?_;rintro e w6 ⟨rfl,h6⟩;have H6:=ξ0 (f5 h6.out);clear h6 H5;go_wp2_with fail;refine H6.out.mono ?_;rintro e w7 ⟨rfl,h7⟩;have H7:=ξ0 (f6 h7.out);clear h7 H6;go_wp2_with fail;refine H7.out.mono ?_;rintro e w8 ⟨g8,c8,q8,o8,m8,d8,rfl,x5,hm,xc,ay⟩;have bQ:(0:Int)<(m8:Int):=by omega
 clear H7;by_cases hf:TM.ef n E=0
 case neg=>
  have C1:=ξ0 (ξeV n ea el ec E w8 (HE.out.1.below ay.out) HE.out.2.1 hf);have C2:=ξ0 (λW (hW:Below w.heap.size w W)=>Tree.ξa n ea el ec E W (HE.out.1.below hW) HE.out.2.1);rw[show Tree.A0a (TM.ef n E)=ND.A0a (TM.ef n E)from rfl]at C2;rw[ND.ξb hf]at C1 C2;generalize TM.ef n E=f at *;go_wp2_with fail
  refine C1.out.mono ?_;rintro e w9 ⟨rfl,bR⟩;have aT:=ξ0 (ay.out.trans (bR.mono ay.out.size));clear C1 bR x5 hm xc bQ;go_wp2_with fail;refine(C2.out w9 aT.out).mono ?_;rintro e az ⟨rfl,aA⟩;have aU:=ξ0 (aT.out.trans (aA.mono aT.out.size));clear C2 aA;go_wp2_with fail;go_ret;exact⟨rfl,aU.out⟩
 case pos=>
 have aC:=(TM.ξ2d.1 hf);obtain⟨nn,rfl⟩:∃nn:Nat,n=(nn:Int):=⟨n.toNat,by have:=aC.1;omega⟩;have HF:=ξ0 hf;have HN:=ξ0 (ξgv (n:=nn) (w:=w) (W:=w8) r.toNat P ay.out ea el ec (HE.out.1.below ay.out) HE.out.2.2 HE.out.2.1 hf);clear hf aC ay;go_wp2_with fail;refine HN.out.mono ?_;rintro e w9 ⟨b,rfl,h9⟩;have H9:=ξ0 h9;clear HN h9 x5 hm xc bQ;by_cases hr:0<=r/\r<(nn:Int)
 case neg=>
  have C:=ξ0 (ξd5 H9.out r hr);rw[ND.ξb (by omega)]at C;have HB:=ξ0 H9.out.bel;clear H9;by_cases r0:r<0
  ·have e0:decide (r<0)=true:=decide_eq_true r0;clear hr;go_wp2_with fail;refine C.out.mono ?_;rintro e az ⟨rfl,hw⟩;obtain rfl:w9=az:=hw.symm;go_wp2_with fail;go_ret;exact⟨rfl,HB.out⟩
  ·have e0:decide (r<0)=false:=decide_eq_false r0;have r1:(nn:Int)<=r:=by omega
   have e1:decide ((nn:Int)<=r)=true:=decide_eq_true r1;clear hr;go_wp2_with fail;refine C.out.mono ?_;rintro e az ⟨rfl,hw⟩;obtain rfl:w9=az:=hw.symm;go_wp2_with fail;go_ret;exact⟨rfl,HB.out⟩
 case pos=>
 obtain⟨rr,rfl⟩:∃rr:Nat,r=(rr:Int):=⟨r.toNat,by omega⟩;rw[Int.toNat_natCast]at H9;have bS:=ξ0 (ξgu H9.out (by omega) HF.out);clear H9;go_wp2_with fail;refine bS.out.mono ?_;rintro e az ⟨rfl,p,d,hT,bT⟩;have aD:=ξ0 bT;have HT:=ξ0 hT;clear bS bT hT;by_cases hs:B05 nn d at' mo
 case neg=>
  have C:=ξ0 (ξd4 aD.out at' mo hs);have HB:=ξ0 aD.out.bel;have HS:=ξ0 hs;clear aD hs;go_wp2_with fail;refine C.out.mono ?_;rintro e cJ ⟨f,cL,rfl,aE⟩;have am:=ξ0 (HB.out.trans (aE.mono HB.out.size));have bU:=ξ0 (ξeP HT.out ea el ec (HE.out.1.below am.out) HE.out.2.1 HF.out);rw[ND.ξb cL];clear C HB aE;go_wp2_with fail;refine bU.out.mono ?_;rintro e cM ⟨vp,da,dc,rfl,aF,hI⟩;have ae:=ξ0 (am.out.trans (aF.mono am.out.size));have HI:=ξ0 hI;clear bU am aF hI;by_cases u0:at'<0
  ·have e0:decide (at'<0)=true:=decide_eq_true u0;go_wp2_with fail
   go_ret;exact⟨rfl,ae.out⟩
  have e0:decide (at'<0)=false:=decide_eq_false u0;by_cases u1:(nn:Int)<=at'
  ·have e1:decide ((nn:Int)<=at')=true:=decide_eq_true u1;go_wp2_with fail
   go_ret;exact⟨rfl,ae.out⟩
  have e1:decide ((nn:Int)<=at')=false:=decide_eq_false u1;by_cases u2:mo<0
  ·have e2:decide (mo<0)=true:=decide_eq_true u2;go_wp2_with fail
   go_ret;exact⟨rfl,ae.out⟩
  have e2:decide (mo<0)=false:=decide_eq_false u2;by_cases u3:3<mo
  ·have e3:decide (3<mo)=true:=decide_eq_true u3;go_wp2_with fail
   go_ret;exact⟨rfl,ae.out⟩
  have e3:decide (3<mo)=false:=decide_eq_false u3;obtain⟨v,rfl⟩:∃v:Nat,at'=(v:Int):=⟨at'.toNat,by omega⟩;obtain⟨db,dO,rfl,aq⟩:=HI.out.at (by omega);have k0:=aq v (by omega);have dl:TM.dg d v<0:=by
   rcases Int.lt_or_le (TM.dg d v) 0 with c|c
   ·exact c
   ·exact absurd ⟨⟨by omega,by omega⟩,⟨by omega,by omega⟩,by rw[Int.toNat_natCast];exact c⟩ HS.out
  have e4:decide (TM.dg d v<0)=true:=decide_eq_true dl;have v0:(0:Int)<=(v:Int):=by omega
  have v1:(v:Int)<(nn:Int):=by omega
  generalize TM.dg d v=dv at *;clear aq;go_wp2_with fail;go_ret;exact⟨rfl,ae.out⟩
 case pos=>
 obtain⟨⟨s1,s2⟩,aV,s4⟩:=hs;obtain⟨v,rfl⟩:∃v:Nat,at'=(v:Int):=⟨at'.toNat,by omega⟩;rw[Int.toNat_natCast]at s4;have cN:Hid (0<=mo/\mo<=3):=ξ0 aV;have HS:=ξ0 (ξgt HT.out aD.out (by omega) s4 aV);have aW:=ξ0 (ξea (mo:=mo) (P:=P) HT.out (show v<nn by omega) s4);clear aD s1 s2 s4 aV;go_wp2_with fail;refine HS.out.mono ?_;rintro e cJ ⟨rfl,hW⟩;have aX:=ξ0 hW;clear hW HS;obtain⟨Z,aY⟩:=nm (Zq nn rr v mo E p d P);have aG:Hid (Z.S=SP P/\Z.mo=mo):=by rw[<-aY];exact ξ0 (⟨rfl,rfl⟩:(Zq nn rr v mo E p d P).S=SP P/\(Zq nn rr v mo E p d P).mo=mo)
 rw[aY]at aW aX;clear aY HT HF HE;have HZ:Hid (Z.Ok):=aW;have bV:Hid (0<=Z.mo/\Z.mo<=3):=by rw[aG.out.2];exact cN
 clear aW;go_wp2_with fail;go_loopg [29,30] 80 (λg u29 u30 wr=>∃(i m:Nat) (sv:Value) (Y:List AU.Pk),i+g=80/\m<=i/\sv=u29/\u30=.int .i64 (i:Int)/\Hid (DL w wr b Z m i sv Y))
 case atStart=>exact⟨0,0,_,[],rfl,by omega,rfl,rfl,aX⟩
 case round=>
 obtain⟨i,m,sv,Y,du,dx,rfl,rfl,HL⟩:=hrel;clear aX;obtain⟨sa,sc,cO⟩:=formO HL.out.own;subst cO;by_cases hc:(i:Int)<(ln:Int)/\(i:Int)<80
 case neg=>
  have K6:=ξ0 hc;clear hc;go_upto_region 23 with fail;go_cut [174]from 167 to 174 (λs wx=>s=.bool false/\wr=wx)
  case first=>
   by_cases y1:(i:Int)<(ln:Int)
   ·have e1:decide ((i:Int)<(ln:Int))=true:=by simpa using y1
    have y2:¬(i:Int)<80:=λh=>K6.out ⟨y1,h⟩;go_wp2_with fail
    go_meet;exact⟨rfl,rfl⟩
   ·have e1:decide ((i:Int)<(ln:Int))=false:=by simpa using y1
    go_wp2_with fail
    go_meet;exact⟨rfl,rfl⟩
  case rest=>
  obtain⟨rfl,rfl⟩:=hcut;clear K6;have au:m<=80:=by omega
  have aZ:=ξ0 au;have bW:=ξ0 (HL.out.calm HZ.out bV.out (by omega));clear HL au;go_wp2_with fail;refine bW.out.mono ?_;rintro e cM ⟨q,rfl,bX⟩;have HG:=ξ0 (bX.got HZ.out);clear bX bW;go_wp2_with fail;refine HG.out.mono ?_;rintro e d9 ⟨a,k,c,G,cP,cQ,rfl,bY,hF⟩;obtain⟨rfl,rfl⟩:sa=cP/\sc=cQ:=by simpa using bY
  have HK:=ξ0 (hF.check (λj hj=>by rw[aG.out.1];exact⟨rfl,rfl⟩) aZ.out k);clear hF HG bY;go_wp2_with fail;refine HK.out.mono ?_;rintro e dA ⟨rfl,hF⟩;have HR:=ξ0 (hF.row k);clear hF HK;go_wp2_with fail;refine HR.out.mono ?_;rintro e dB ⟨rfl,hF⟩;have bZ:=ξ0 hF;have dC:=hF.gv.ci;clear hF HR;go_wp2_with fail;go_loopg [42] c.length (λg u wz=>∃(j:Nat),j+g=c.length/\u=.int .i64 (j:Int)/\Hid (A41 w wz Z m sa sc Y a c G))
  case atStart=>exact⟨0,by omega,rfl,bZ⟩
  case round=>
  obtain⟨j,dD,rfl,HF⟩:=hrel;clear bZ;by_cases hj:j<c.length
  case neg=>
   have cT:¬(j:Int)<(c.length:Int):=by omega
   have hb:=HF.out.bel;go_wp2_with fail
   go_ret;exact⟨rfl,hb⟩
  case pos=>
   have cT:(j:Int)<(c.length:Int):=by omega
   have dE:(0:Int)<=(j:Int):=by omega
   obtain⟨gb,go,rfl,aq⟩:=HF.out.gp.at (by omega);obtain⟨e1,e2⟩:=HF.out.gv.lay j hj;obtain⟨_,f1,_,f3,_⟩:=HF.out.gv.at' j hj;have bh:∀k,j=k+1->(G.getD k AU.A0l).l=(Z.S (c.getD k 0)).l:=λk e=>(HF.out.gv.at' k (by omega)).2.1;have cf:=ξ0 (λq=>HF.out.drew q);rw[<-f1,aG.out.2]at e1;rw[<-f1,<-f3]at e2;have ah:=(aq j hj).1;obtain⟨⟨s,t,l,q1,st,ad,m1,cc,L⟩,hp⟩:∃p,G.getD j AU.A0l=p:=⟨_,rfl⟩;rw[hp]at e1 e2 ah;simp only at e1 e2;obtain⟨j0,j1,j2,j3,j4,j5⟩:=ah;simp only at j0 j1 j2 j3 j4 j5;have bi:=ξ0 aq
   clear hp f1 f3 aq j0 j1 j3 j5;have dl:¬(mo<l):=by omega
   have dG:decide (mo<l)=false:=by simpa using dl
   cases st with
   | true=>
     clear e2 bh bi HF;go_wp2_with fail;go_quiet (fail)
     go_wp2_with fail
     go_roundg (c.length-(j+1))
     case measure=>omega
     case rel=>exact⟨j+1,by omega,by go_num,cf.out _⟩
   | false=>
     have e3:0<j/\(Z.S (c.getD (j-1) 0)).l=l:=e2.resolve_left (by simp);obtain⟨k1,hk⟩:=nm (j-1);have cj:j=k1+1:=by omega
     have hz:¬((j:Int)=0):=by omega
     have dz:decide ((j:Int)=0)=false:=by simpa using hz
     have bj:¬(j=0):=by omega
     have dH:decide (j=0)=false:=by simpa using bj
     have dI:(j==0)=false:=by simpa using bj
     have dJ:((j:Int)==0)=false:=by simpa using bj
     have dK:(j:Int)-1=(k1:Int):=by omega
     have cU:k1<c.length:=by omega
     have cV:(k1:Int)<(c.length:Int):=by omega
     have dL:IntKind.i64.wrap ((j:Int)-1)=(k1:Int):=by rw[IntKind.wrap_i64];omega
     have cu:(G.getD k1 AU.A0l).l=l:=by rw[bh k1 cj,<-hk];exact e3.2
     have cW:=(bi.out k1 cU).1.2.2.1;rw[cu]at cW;clear hk cj e2 e3 bh bi cu HF;go_wp2_with fail;go_quiet (fail)
     go_wp2_with fail
     go_roundg (c.length-(j+1))
     case measure=>omega
     case rel=>exact⟨j+1,by omega,by go_num,cf.out _⟩
 case pos=>
 obtain⟨z1,z2⟩:=hc;obtain⟨ib,io,ra,rl,rc,rfl,dN,ai,aH⟩:=HA.out.2 i (by omega);have aj:=ξ0 ai;have aI:=ξ0 aH;clear ai aH;have bq:=ξ0 HL.out.vec;clear HL;go_upto_region 26 with fail;obtain⟨vb,bu⟩:=nm wr.heap.size;obtain⟨w5,bz⟩:=nm (wr.alloc (.cells #[.int .i64 0,.int .i64 0,.int .i64 0] 34));rw[bu,bz]at bq;rw[bu,bz];clear bu bz;go_wp2_with fail;go_loopg [32] 3 (λg u32 wv=>∃(j:Nat) (a0 a1 a2:Int),j+g=3/\u32=.int .i64 (j:Int)/\Hid (DV w wv b Z m i (.slice sa m sc) Y vb a0 a1 a2))
 case atStart=>exact⟨0,0,0,0,rfl,rfl,bq⟩
 case round=>
 obtain⟨j,a0,a1,a2,dP,rfl,HV⟩:=hrel;clear bq;have aJ:=(HV.out.dl.bel.cell (Ξq _ _ aj.out)).trans aj.out;by_cases hj:(j:Int)<(rl:Int)/\(j:Int)<3
 case pos=>
  obtain⟨y1,y2⟩:=hj;obtain⟨rb,ro,x,rfl,dQ,b9⟩:=aI.out.2 j (by omega);have cX:=(HV.out.dl.bel.cell (Ξq _ _ b9)).trans b9;clear b9;obtain⟨x0,dR⟩:=HV.out.v4.cell (j:=j) (by omega);have dS:=HV.out.v4.free j;have cY:=ξ0 (HV.out.put' (j:=j) (by omega) x);clear HV;go_wp2_with fail;go_roundg (3-(j+1))
  case measure=>omega
  case rel=>
   obtain⟨c0,c1,c2,h⟩:=cY.out;exact⟨j+1,c0,c1,c2,by omega,by go_num,ξ0 h⟩
 case neg=>
 have K6:=ξ0 hj;clear hj;go_upto_region 27 with fail;go_cut [187]from 177 to 187 (λs wx=>s=.bool false/\wr=wx)
 case first=>
  by_cases y1:(j:Int)<(rl:Int)
  ·have e1:decide ((j:Int)<(rl:Int))=true:=by simpa using y1
   have y2:¬(j:Int)<3:=λh=>K6.out ⟨y1,h⟩;go_wp2_with fail
   go_meet;exact⟨rfl,rfl⟩
  ·have e1:decide ((j:Int)<(rl:Int))=false:=by simpa using y1
   go_wp2_with fail
   go_meet;exact⟨rfl,rfl⟩
 case rest=>
 obtain⟨rfl,rfl⟩:=hcut;clear K6 aJ aj aI;have au:m<80:=by omega
 have bA:i<80:=by omega
 have cw:=ξ0 (HV.out.packet (by omega));clear HV;go_wp2_with fail;refine cw.out.mono ?_;rintro e w6 ⟨g,rfl,h6⟩;have aP:=ξ0 h6.box;clear h6 cw;go_upto_region 31 with fail;obtain⟨xb,bB⟩:=nm w6.heap.size;obtain⟨w7,bC⟩:=nm (w6.alloc (.cells #[.int .i64 (m:Int),.int .i64 (m:Int),.int .i64 0,.int .i64 0,.bool true,.slice (some ⟨g,0,none⟩) 2 2] 38));rw[bB,bC]at aP;rw[bB,bC];clear bB bC;obtain⟨tb,cy⟩:=nm (decide (0<lp));have bD:=ξ0 cy;go_upto_if 204 with fail
 clear cy;go_cut [34]from 205 to 226 (λs wx=>Hid (B0g w wx b Z i m (.slice sa m sc) Y vb a0 a1 a2 g xb))
 case first=>
  obtain⟨bs,cs,h7⟩:=aP.out;clear aP;cases tb with
  | false=>
    have cZ:lp=0:=by
     have:=of_decide_eq_false bD.out;omega
    have HX:Hid (B0g w w7 b Z i m (.slice sa m sc) Y vb a0 a1 a2 g xb):=by
     refine ξ0 ⟨0,true,bs,cs,?_,h7⟩;have bE:=aO.out.1.1;rw[aG.out.1];unfold SP A7v stP;rw[if_pos (by omega),if_pos (by omega)]
    clear h7 cZ;go_wp2_with fail;go_meet;exact HX
  | true=>
    have e0:0<lp:=of_decide_eq_true bD.out;have dU:¬(lp:Int)=0:=by omega
    have bE:=aO.out.1.1;have cz:=aO.out.1.2.1;obtain⟨k,hk⟩:=nm (m%lp);have dd:k<lp:=by rw[<-hk];exact Nat.mod_lt _ (by omega)
    have cV:(k:Int)<(lp:Int):=by omega
    have df:(m:Int).tmod (lp:Int)=(k:Int):=by rw[<-hk];rfl
    have hS:Z.S m=⟨(m:Int),(m:Int),if 0<=(P.getD k AU.A0l).l/\(P.getD k AU.A0l).l<=3 then(P.getD k AU.A0l).l else 0,0,(P.getD k AU.A0l).st,LP.pL m⟩:=by
     have c9:¬P.length=0:=by omega
     rw[aG.out.1];unfold SP A7v stP;rw[if_neg c9,if_neg c9,bE,hk]
    obtain⟨pb,po,rfl,aq⟩:=aO.out.1.at (by omega);have ah:=(aq k dd).1.below h7.bel;obtain⟨⟨s,t,l,q,st,ad,m1,cc,L⟩,hp⟩:∃p,P.getD k AU.A0l=p:=⟨_,rfl⟩;rw[hp]at hS ah;simp only at hS;obtain⟨j0,j1,j2,j3,j4,j5⟩:=ah;simp only at j0 j1 j2 j3 j4 j5;have H7:=ξ0 h7;have HS:=ξ0 hS;clear hp aq hk hS h7 bE;go_upto_region 33 with fail;obtain⟨yb,bF⟩:=nm w7.heap.size;obtain⟨w8,aQ⟩:=nm (w7.alloc (.cells #[.int .i64 s,.int .i64 t,.int .i64 l,.int .i64 q,.bool st,.slice ad m1 cc] 38));have H8:=ξ0 (H7.out.new (.cells #[.int .i64 s,.int .i64 t,.int .i64 l,.int .i64 q,.bool st,.slice ad m1 cc] 38));have bG:=heap_alloc_new w7 (.cells #[.int .i64 s,.int .i64 t,.int .i64 l,.int .i64 q,.bool st,.slice ad m1 cc] 38);have dh:yb≠xb:=by
     have:=H7.out.dw.lt xb (.inl H7.out.xi);omega
    rw[aQ]at H8;rw[bF,aQ]at bG;rw[bF,aQ];have aS:=ξ0 bG;clear bF aQ j0 j1 j2 j3 j4 j5 bG;have y2:w8.cell? ⟨yb,2,none⟩=some (.int .i64 l):=by simp[World.cell?,aS.out]
    have y4:w8.cell? ⟨yb,4,none⟩=some (.bool st):=by simp[World.cell?,aS.out]
    obtain⟨⟨x0,x1,x2,x3,x4,x5⟩,xf⟩:=bxc H8.out.bx;have di:=xf 2;have cA:=xf 4;by_cases hl:0<=l/\l<=3
    ·obtain⟨l1,l2⟩:=hl;have u1:decide (0<=l)=true:=decide_eq_true l1;have u2:decide (l<=3)=true:=decide_eq_true l2;obtain⟨h9,cB⟩:=H8.out.A5f rfl l;have H9:=ξ0 h9;have cC:=(cB yb dh (lt_of_block aS.out)).trans aS.out;have cD:=ξ0 cC;clear h9 cB cC xf;go_upto_region 35 with fail;obtain⟨w9,bH⟩:=nm (w8.setCell ⟨xb,2,none⟩ (.int .i64 l));rw[bH]at H9 cD;rw[bH];clear bH x0 x1 x2 x3 x4 x5 di cA y2 y4;have y4:w9.cell? ⟨yb,4,none⟩=some (.bool st):=by simp[World.cell?,cD.out]
     obtain⟨⟨x0,x1,x2,x3,x4,x5⟩,xf⟩:=bxc H9.out.bx;have cA:=xf 4;have HX:Hid (B0g w (w9.setCell ⟨xb,4,none⟩ (.bool st)) b Z i m (.slice sa m sc) Y vb a0 a1 a2 g xb):=by
      refine ξ0 ⟨l,st,bs,cs,?_,(H9.out.A47 rfl st).1⟩;rw[HS.out,if_pos ⟨l1,l2⟩]
     clear xf;go_wp2_with fail;go_meet;exact HX
    ·have HX:Hid (B0g w (w8.setCell ⟨xb,4,none⟩ (.bool st)) b Z i m (.slice sa m sc) Y vb a0 a1 a2 g xb):=by
      refine ξ0 ⟨0,st,bs,cs,?_,(H8.out.A47 rfl st).1⟩;rw[HS.out,if_neg hl]
     clear xf;by_cases l1:0<=l
     ·have l2:¬l<=3:=λh=>hl ⟨l1,h⟩;have u1:decide (0<=l)=true:=decide_eq_true l1;have u2:decide (l<=3)=false:=decide_eq_false l2;clear hl;go_wp2_with fail;go_meet;exact HX
     ·have u1:decide (0<=l)=false:=decide_eq_false l1;clear hl;go_wp2_with fail;go_meet;exact HX
 case rest=>
 clear aP bD;obtain⟨l,st,bs,cs,hS,h7⟩:=hcut.out;clear hcut;have HS:=ξ0 hS;have H7:=ξ0 h7;clear hS h7;obtain⟨k0,k1,k2⟩:=H7.out.v4.cells;obtain⟨⟨x0,x1,x2,x3,x4,x5⟩,xf⟩:=bxc H7.out.bx;clear xf;have aL:=ξ0 (H7.out.act HZ.out bV.out HS.out au bA);clear H7;go_wp2_with fail;refine aL.out.mono ?_;rintro e w8 ⟨rfl,h8⟩;have H8:=ξ0 h8;clear h8 aL k0 k1 k2 x0 x1 x2 x3 x4 x5;obtain⟨k0,k1,k2⟩:=H8.out.v4.cells;by_cases s01:a0=0∨a0=1
 case neg=>
  have t0:¬a0=0:=λe=>s01 (.inl e);have t1:¬a0=1:=λe=>s01 (.inr e);have d0:decide (a0=0)=false:=decide_eq_false t0;have d1:decide (a0=1)=false:=decide_eq_false t1;have q0:(a0==0)=false:=by simpa using t0
  have q1:(a0==1)=false:=by simpa using t1
  have dm:Hid (DL w w8 b Z m (i+1) (.slice sa m sc) Y):=ξ0 (H8.out.dl (by unfold isS;rw[if_neg s01];rfl));clear H8 s01;go_wp2_with fail;go_roundg (80-(i+1))
  case measure=>omega
  case rel=>exact⟨i+1,m,_,Y,by omega,by omega,rfl,by go_num,dm⟩
 case pos=>
  have K8:=ξ0 s01;go_upto_region 39 with fail
  go_cut [240]from 233 to 240 (λs wx=>s=.bool true/\w8=wx)
  case first=>
   rcases s01 with rfl|rfl
   ·go_wp2_with fail
    go_meet;exact⟨rfl,rfl⟩
   ·go_wp2_with fail
    go_meet;exact⟨rfl,rfl⟩
  case rest=>
  obtain⟨rfl,rfl⟩:=hcut;have he:m+isS a0=m+1:=by unfold isS;rw[if_pos K8.out]
  clear s01 k0 k1 k2;obtain⟨⟨x0,x1,x2,x3,x4,x5⟩,xf⟩:=bxc H8.out.bx;clear xf;go_wp2_with (at_builtin;refine wpList_append_lies _ rfl _ _ 33 rfl w.heap.size 38 i0 _ 6 64 underlying33 cF cG cH cI rfl (by decide) (.slice sa m sc) m (Audit.flat Y) rfl (H8.out.own.1.alloc _) ⟨w8.heap.size,0,none⟩ 1 1 (Audit.pc ⟨(m:Int),(m:Int),l,0,st,some ⟨g,0,none⟩,2,2,LP.pL m⟩) rfl rfl (Audit.lit6 ⟨(m:Int),(m:Int),l,0,st,some ⟨g,0,none⟩,2,2,LP.pL m⟩) (Audit.ξ4C _) (by decide) ?b1 ?b2 ?b3 (w8.heap.size+1) (by simp) ?next)
  case b1=>unfold maxLen;omega
  case b2=>omega
  case b3=>have:=H8.out.own.2;simp;omega
  case next=>
  intro g9 dr w9 aM aw ax cE;have dt:=ξ0 (H8.out.add HS.out he aM aw ax cE);clear aM aw ax cE x0 x1 x2 x3 x4 x5 H8;go_wp2_with fail;go_roundg (80-(i+1))
  case measure=>omega
  case rel=>exact⟨i+1,m+1,_,_,by omega,by omega,rfl,by go_num,dt⟩
end Go.Proofs.YtpiamlgmadnepaaGreat.MS
