/-
 The walk of the Go function TopRow: it returns true.
-/
import Derived.Test.YtpiamlgmadnepaaGreatTopRAll
set_option linter.unusedVariables false
set_option maxHeartbeats 8000000
set_option maxRecDepth 100000
namespace Go.Proofs.YtpiamlgmadnepaaGreat.TR
open Go.ChangeShapes Go.WideShapes Go.ChangeAt Go.RowKit Go.Maps PM Mem Pack
theorem ξcB (S:Int) (va:Option Addr) (ln cn:Nat) (In:List Int) (w:World) (hIn:Tree.IArg w va ln In) (h0:0<=S) (h1:S<=1000000000) :
 Calls Tryz.prog 5 #[.slice va ln cn,.int .i64 S] w fun e w'=>e=.returned (.bool true)/\Below w.heap.size w w':=by
 have HO:=ξ0 (MS.ξ2X w)
 have d0:decide (S<0)=false:=by simp;omega
 have d1:decide (1000000000<S)=false:=by simp;omega
 have hzb:=zeroB
 have HA:=ξ0 hIn
 obtain ⟨i0,hii,hz0,hz1,hz2⟩:=info_parts Audit.infoPK;clear hIn;go_enter Tryz.func5,Tryz.ntmps5
 go_wp2_with fail
 refine HO.out.mono ?_
 rintro e w1 ⟨rfl,hb⟩;have HB:=ξ0 hb
 clear hb HO;go_wp2_with fail
 refine (ξ3D HB.out).mono ?_
 rintro e w2 ⟨gb,mb,rfl,h2⟩;clear HB;go_wp2_with fail
 refine h2.next.mono ?_
 rintro e w3 ⟨ob,om,rfl,h3⟩;clear h2;go_wp2_with fail
 refine h3.next.mono ?_
 rintro e w4 ⟨yb,rfl,h4⟩;clear h3;go_wp2_with fail
 refine h4.next.mono ?_
 rintro e w5 ⟨ub,rfl,h5⟩;have HT0:=ξ0 (h5.start (L:=S+100) (by omega) (by omega))
 have HL:=ξ0 h5.s3.s2.s1.bel
 clear h4 h5;obtain ⟨L,hL⟩:∃ L,S+100=L:=⟨_,rfl⟩;rw [hL] at HT0;have HLe:=ξ0 hL
 clear hL;go_upto_region 13 with fail
 rw [HLe.out];have hl0:100<=L:=HT0.out.l0
 have hl1:L<=2000000000:=HT0.out.l1
 obtain ⟨cb,hcb⟩:∃ cb,w5.heap.size=cb:=⟨_,rfl⟩;obtain ⟨w6,hw6⟩:∃ w6,w5.alloc (.cells zsB 65)=w6:=⟨_,rfl⟩;rw [hcb,hw6] at HT0;rw [hcb,hw6];clear hcb hw6 HL;go_wp2_with fail
 go_loopg [16,18] 64 (fun g u16 u18 wr=>∃ (sv:Value) (Y:List AU.Pk),Y.length+g=64/\sv=u16/\u18=.int .i64 (Y.length:Int)/\Hid (TB w wr ⟨gb,mb,ob,om,yb,ub,cb⟩ L 0 (-1) st0 (.slice none 0 0) sv [] Y))
 case atStart=>exact ⟨_,[],rfl,rfl,rfl,HT0⟩
 case round=>
 obtain ⟨sv,Y,hYg,rfl,rfl,HT⟩:=hrel;clear HT0;by_cases hi:Y.length<64
 case pos=>
  have hiz:(Y.length:Int)<64:=by omega
  have hlit:∀ j u,(Audit.pc (⟨(L+(Y.length:Int))%65536,0,0,0,true,some ⟨wr.heap.size,0,none⟩,1,1,[Y.length]⟩:AU.Pk))[j]?=some u->((wr.alloc (.cells #[.int .u8 (Y.length:Int)] 5)).alloc (.cells #[.int .i64 ((L+(Y.length:Int))%65536),.int .i64 0,.int .i64 0,.int .i64 0,.bool true,.slice (some ⟨wr.heap.size,0,none⟩) 1 1] 38)).cell? ((⟨wr.heap.size+1,0,none⟩:Addr).add j)=some u:=by
   intro j u hu;have h6:=Audit.lit6 (w:=wr.alloc (.cells #[.int .u8 (Y.length:Int)] 5)) (⟨(L+(Y.length:Int))%65536,0,0,0,true,some ⟨wr.heap.size,0,none⟩,1,1,[Y.length]⟩:AU.Pk) j u hu
   rw [World.size_alloc] at h6;exact h6
  have HLit:=ξ0 hlit
  clear hlit;go_wp2_with (at_builtin;refine wpList_append_lies _ rfl _ _ 33 rfl w.heap.size 38 i0 _ 6 64 Tryz.underlying33 hii hz0 hz1 hz2 rfl (by decide) sv Y.length (Audit.flat Y) rfl ((HT.out.rws.snt.alloc _).alloc _) ⟨wr.heap.size+1,0,none⟩ 1 1 (Audit.pc (⟨(L+(Y.length:Int))%65536,0,0,0,true,some ⟨wr.heap.size,0,none⟩,1,1,[Y.length]⟩:AU.Pk)) rfl rfl HLit.out (Audit.ξ2U _) (by decide) ?b1 ?b2 ?b3 (wr.heap.size+1+1) (by simp) ?next)
  case b1=>unfold maxLen;omega
  case b2=>omega
  case b3=>have:=HT.out.rws.bel.size;simp;omega
  case next=>
  intro g6 cap6 w7 hown hgrow hlies hlt;have HTn:=ξ0 (HT.out.sends (i:=Y.length) rfl hi hown hgrow hlies hlt)
  clear hown hgrow hlies hlt HLit;go_wp2_with fail
  go_roundg (64 - (Y.length+1))
  case measure=>omega
  case rel=>exact ⟨_,_,by rw [List.length_append,List.length_singleton];omega,rfl,by rw [List.length_append,List.length_singleton];go_num,HTn⟩
 case neg=>
 have hiz:¬ (Y.length:Int)<64:=by omega
 have hY:Y.length=64:=by omega
 have HR0:Hid (RS w wr ⟨gb,mb,ob,om,yb,ub,cb⟩ L 0 L 0 st0 (.slice none 0 0) sv [] Y):=⟨HT.out,fl0,fun h=>absurd rfl h,by omega,by omega,by omega,by omega,fun _=>rfl⟩
 clear hi hYg HT;go_wp2_with fail
 go_loopg [17,19,20,21] 72 (fun g u17 u19 u20 u21 wz=>∃ (t:Nat) (tp lk:Int) (s:Sv) (gv:Value) (X:List AU.Pk),t+g=72/\gv=u17/\u19=.int .i64 tp/\u20=.int .i64 lk/\u21=.int .i64 (t:Int)/\Hid (RS w wz ⟨gb,mb,ob,om,yb,ub,cb⟩ L t tp lk s gv sv X Y))
 case atStart=>exact ⟨0,L,0,st0,_,[],rfl,rfl,rfl,rfl,rfl,HR0⟩
 case round=>
 obtain ⟨t,tp,lk,s,gv,X,htg,rfl,rfl,rfl,rfl,HR⟩:=hrel;clear HR0;obtain ⟨z,hz⟩:∃ z,IntKind.i64.wrap ((ln:Int)+12)=z:=⟨_,rfl⟩;by_cases hc:(t:Int)<z/\(t:Int)<72
 case neg=>
  as_aux_lemma=>
   skip
   have K6:=ξ0 hc
   clear hc;go_upto_region 20 with fail
   go_cut [128] from 120 to 128 (fun s wx=>s=.bool false/\wr=wx)
   case first=>
    by_cases z1:(t:Int)<z
    ·have d1:decide ((t:Int)<z)=true:=by simpa using z1
     have z2:¬ (t:Int)<72:=fun h=>K6.out ⟨z1,h⟩
     go_wp2_with fail
     go_meet
     exact ⟨rfl,rfl⟩
    ·have d1:decide ((t:Int)<z)=false:=by simpa using z1
     go_wp2_with fail
     go_meet
     exact ⟨rfl,rfl⟩
   case rest=>
   obtain ⟨rfl,rfl⟩:=hcut;clear K6;have C1:=ξ0 (HR.out.tb.check hY)
   go_wp2_with fail
   refine C1.out.mono ?_
   rintro e w8 ⟨rfl,hb⟩;have HT8:=ξ0 (HR.out.tb.below hb)
   clear hb C1;have C2:=ξ0 HT8.out.row
   go_wp2_with fail
   refine C2.out.mono ?_
   rintro e w9 ⟨rfl,hb⟩;have HT9:=ξ0 (HT8.out.below hb)
   clear hb C2 HT8;obtain ⟨gg,cc,hgv⟩:∃ gg cc,gv=.slice gg X.length cc:=by
    obtain ⟨a,cap,e,_⟩:=Audit.ξ2e HT9.out.rws.got rfl (by have:=HT9.out.got.len;omega) (fun p hp=>(HT9.out.rws.bx p hp).1)
    exact ⟨a,cap,e⟩
   subst hgv;have hkz:=HR.out.kz
   have hgo:=HR.out.go
   by_cases hk:lk=0
   ·have d1:decide (lk=0)=true:=by simpa using hk
    go_wp2_with fail
    go_ret
    exact ⟨rfl,HT9.out.rws.bel⟩
   ·have d1:decide (lk=0)=false:=by simpa using hk
    have hx:0<X.length:=hgo (fun e=>hk (hkz e))
    have d2:decide (0<(X.length:Int))=true:=by simp;omega
    go_wp2_with fail
    go_ret
    exact ⟨rfl,HT9.out.rws.bel⟩
 case pos=>
 obtain ⟨z1,z2⟩:=hc;have d1:decide ((t:Int)<z)=true:=by simpa using z1
 have HX:Hid (AS w wr ⟨gb,mb,ob,om,yb,ub,cb⟩ L t tp lk s gv sv X Y):=⟨HR.out.tb,HR.out.fl,HR.out.p0,HR.out.p1,HR.out.kz⟩
 obtain ⟨c,hcd⟩:∃ c:Bool,decide ((t:Int)<(ln:Int)/\(t:Int)<60/\0<=TM.dg In t/\TM.dg In t<64)=c:=⟨_,rfl⟩;have HCd:=ξ0 hcd
 clear hcd;go_upto_region 22 with fail
 go_cut [152] from 131 to 152 (fun s wx=>s=.bool c/\wr=wx)
 case first=>
  as_aux_lemma=>
   skip
   have hcd:=HCd.out
   by_cases a1:(t:Int)<(ln:Int)
   ·have e1:decide ((t:Int)<(ln:Int))=true:=by simpa using a1
    by_cases a2:(t:Int)<60
    ·have e2:decide ((t:Int)<60)=true:=by simpa using a2
     obtain ⟨ib,io,rfl,hcs⟩:=HA.out.at (by omega)
     have hcell0:=hcs t (by omega)
     have hcell:=(HR.out.tb.rws.bel.cell (World.block_lt_of_cell? _ _ hcell0)).trans hcell0
     obtain ⟨y,hy⟩:∃ y,TM.dg In t=y:=⟨_,rfl⟩;rw [hy] at hcell hcd;clear hcs hcell0 hy;by_cases a3:0<=y
     ·have e3:decide (0<=y)=true:=by simpa using a3
      by_cases a4:y<64
      ·have e4:decide (y<64)=true:=by simpa using a4
       have hct:Hid (true=c):=by rw [<- hcd];exact (decide_eq_true ⟨a1,a2,a3,a4⟩).symm
       clear hcd;go_wp2_with fail
       go_meet
       exact ⟨by rw [hct.out],rfl⟩
      ·have e4:decide (y<64)=false:=by simpa using a4
       have hct:Hid (false=c):=by rw [<- hcd];exact (decide_eq_false (fun h=>a4 h.2.2.2)).symm
       clear hcd;go_wp2_with fail
       go_meet
       exact ⟨by rw [hct.out],rfl⟩
     ·have e3:decide (0<=y)=false:=by simpa using a3
      have hct:Hid (false=c):=by rw [<- hcd];exact (decide_eq_false (fun h=>a3 h.2.2.1)).symm
      clear hcd;go_wp2_with fail
      go_meet
      exact ⟨by rw [hct.out],rfl⟩
    ·have e2:decide ((t:Int)<60)=false:=by simpa using a2
     have hct:Hid (false=c):=by rw [<- hcd];exact (decide_eq_false (fun h=>a2 h.2.1)).symm
     clear hcd;go_wp2_with fail
     go_meet
     exact ⟨by rw [hct.out],rfl⟩
   ·have e1:decide ((t:Int)<(ln:Int))=false:=by simpa using a1
    have hct:Hid (false=c):=by rw [<- hcd];exact (decide_eq_false (fun h=>a1 h.1)).symm
    clear hcd;go_wp2_with fail
    go_meet
    exact ⟨by rw [hct.out],rfl⟩
 case rest=>
 obtain ⟨rfl,rfl⟩:=hcut;go_upto_if 152 with fail
 go_cut [19,22,23,24,25,26,27,28,29,30,31,32] from 153 to 229 (fun s19 s22 s23 s24 s25 s26 s27 s28 s29 s30 s31 s32 wx=>∃ (tp':Int) (s':Sv),s19=.int .i64 tp'/\Hid (AS w wx ⟨gb,mb,ob,om,yb,ub,cb⟩ L t tp' lk s' gv sv X Y))
 case first=>
  cases c with
  | false=>
    go_wp2_with fail
    go_meet
    exact ⟨tp,s,rfl,HX⟩
  | true=>
    as_aux_lemma=>
     skip
     obtain ⟨a1,a2,a3,a4⟩:=of_decide_eq_true HCd.out;obtain ⟨ib,io,rfl,hcs⟩:=HA.out.at (by omega)
     have hcell0:=hcs t (by omega)
     have hcell:=(HR.out.tb.rws.bel.cell (World.block_lt_of_cell? _ _ hcell0)).trans hcell0
     obtain ⟨i,hi⟩:∃ i:Nat,TM.dg In t=(i:Int):=⟨(TM.dg In t).toNat,by omega⟩
     rw [hi] at hcell a3 a4;have hi64:i<64:=by omega
     clear hcs hi hcell0;obtain ⟨sg,sc,m,cc,hsv,p0,p1,p2,p3,p4,p5,hArg,hN⟩:=HR.out.tb.pk hY hi64;subst hsv;have HC1:=ξ0 (HR.out.tb.enc hArg hN)
     clear hArg hN;go_wp2_with fail
     refine HC1.out.mono ?_
     rintro e w7 ⟨g1,rfl,hA1,hT1⟩;have HC2:=ξ0 (hT1.read hA1)
     clear hA1 hT1 HC1 hcell p0 p1 p2 p3 p4 p5;go_wp2_with fail
     refine HC2.out.mono ?_
     rintro e w8 ⟨a,c,rfl,hA2,hN2,hfa,hT2⟩;obtain ⟨w9,hw9⟩:∃ w9,w8.alloc (.cells #[.int .i64 ((L+(i:Int))%65536),.int .i64 0,.int .i64 0,.int .i64 0,.bool true,.slice a 1 c] 38)=w9:=⟨_,rfl⟩;have hbl:Below w8.heap.size w8 w9:=by rw [<- hw9];exact (Below.refl _ _).alloc (Nat.le_refl _) _
     have HT9:=ξ0 (hT2.below hbl)
     have HA9:Hid (Arg w9 a 1 [i]):=hA2.below hbl
     have HX9:Hid (Box w9 w8.heap.size ((L+(i:Int))%65536) 0 0 0 true (.slice a 1 c)):=by rw [<- hw9];exact Box.new w8 _ _ _ _ _ _
     have HW9:=ξ0 hw9
     have HN9:=ξ0 hN2
     have HFa:=ξ0 hfa
     have HXf:Hid (w8.heap.size∉Nm.F ⟨gb,mb,ob,om,yb,ub,cb⟩):=fun hm=>Nat.lt_irrefl _ (hT2.rws.hlt _ hm)
     clear hw9 hA2 hN2 hfa hT2 hbl HC2;go_upto_region 26 with fail
     rw [HW9.out];clear HW9;obtain ⟨xb,hxb⟩:∃ xb,w8.heap.size=xb:=⟨_,rfl⟩;rw [hxb] at HX9 HXf;rw [hxb];clear hxb;obtain ⟨x0,x1,x2,x3,x4,x5⟩:=HX9.out.cells;have HC3:=ξ0 (fun W=>unwraps (i:=i) hl0 hl1 hi64 HR.out.p0 HR.out.p1 W)
     go_wp2_with fail
     refine (HC3.out _).mono ?_
     rintro e w10 ⟨rfl,rfl⟩;have HC4:=ξ0 (HT9.out.hear HR.out.fl hi64)
     clear HC3;go_wp2_with fail
     refine HC4.out.mono ?_
     rintro e w11 ⟨b,rfl,s1,hT,hs1,hs2,hs3,hs4,hs5,hs6,hs7,hs8⟩;have HT11:Hid (TB w w11 ⟨gb,mb,ob,om,yb,ub,cb⟩ L t s1.nx s1 gv (.slice (some ⟨sg,0,none⟩) 64 sc) X Y):=by unfold Hid;rw [hs1];exact hT
     have HK1:Hid (s1.nx=-1->lk=0):=fun e=>HR.out.kz (hs1.symm.trans e)
     have HC11:=ξ0 hs2
     have HF11:=ξ0 (And.intro hs3 (And.intro hs4 hs5))
     have H6:=ξ0 hs6
     have H7:=ξ0 hs7
     have HA11:Hid (Arg w11 a 1 [i]):=ξco HA9.out hs8 HFa.out
     have HX11:Hid (Box w11 xb ((L+(i:Int))%65536) 0 0 0 true (.slice a 1 c)):=hs8.block HX9.out HXf.out
     clear hT hs1 hs2 hs3 hs4 hs5 hs6 hs7 hs8 x0 x1 x2 x3 x4 x5 HC4 HT9 HA9 HX9 HXf;go_upto_if 207 with fail
     go_cut [19] from 208 to 208 (fun s19 wx=>∃ tp',s19=.int .i64 tp'/\Hid (L<=tp'/\tp'<L+64)/\w11=wx)
     case first=>
      have hp0:=HR.out.p0
      have hp1:=HR.out.p1
      by_cases hgt:tp<L+(i:Int)
      ·go_wp2_with fail
       go_meet
       exact ⟨L+(i:Int),rfl,(by unfold Hid;omega),rfl⟩
      ·go_wp2_with fail
       go_meet
       exact ⟨tp,rfl,(by unfold Hid;omega),rfl⟩
     case rest=>
     obtain ⟨tp',rfl,HP,rfl⟩:=hcut;cases b with
     | false=>
       have HAS:Hid (AS w w11 ⟨gb,mb,ob,om,yb,ub,cb⟩ L t tp' lk s1 gv (.slice (some ⟨sg,0,none⟩) 64 sc) X Y):=⟨HT11.out,H6.out rfl,HP.out.1,HP.out.2,HK1.out⟩
       go_wp2_with fail
       go_meet
       exact ⟨tp',s1,rfl,HAS⟩
     | true=>
       have HC5:=ξ0 (HT11.out.push HF11.out hi64 HA11.out HN9.out (H7.out rfl).2)
       have H7c:=ξ0 (H7.out rfl).1
       clear H7;obtain ⟨x0,x1,x2,x3,x4,x5⟩:=HX11.out.cells;go_wp2_with fail
       refine HC5.out.mono ?_
       rintro e w12 ⟨b2,rfl,s2,hT2,hc2,hf2,hg2,hn2⟩;have hcc:w12.cell? ⟨cb,i,none⟩=some (.bool false):=by
        have:=hT2.mem.c.cell hi64
        rw [hc2,HC11.out,H7c.out] at this;exact this
       have hfr:w12.frozen? ⟨cb,i,none⟩=false:=hT2.mem.c.free i
       have HAS:Hid (AS w (w12.setCell ⟨cb,i,none⟩ (.bool true)) ⟨gb,mb,ob,om,yb,ub,cb⟩ L t tp' lk { s2 with C:=setC s2.C i } gv (.slice (some ⟨sg,0,none⟩) 64 sc) X Y):=⟨hT2.setCame (by rw [hc2] at hg2 ⊢;exact hg2) hi64,hf2,HP.out.1,HP.out.2,fun e=>absurd e hn2⟩
       clear hT2 hc2 hf2 hg2 hn2 x0 x1 x2 x3 x4 x5 HC5;cases b2 with
       | false=>
         go_wp2_with fail
         go_meet
         exact ⟨tp',_,rfl,HAS⟩
       | true=>
         go_wp2_with fail
         go_meet
         exact ⟨tp',_,rfl,HAS⟩
 case rest=>
 obtain ⟨tp',s',rfl,HX'⟩:=hcut;have hlk0:=HR.out.k0
 have hlk1:=HR.out.k1
 clear HX HR HCd;have HC:=ξ0 HX'.out.tb.due
 go_wp2_with fail
 refine HC.out.mono ?_
 rintro e w13 ⟨da,dn,dc,rfl,hn64,hnz,hD⟩;have HD:=ξ0 hD
 have HKz:Hid (s'.nx=-1->lk+(dn:Int)=0):=fun e=>by
  have h1:=HX'.out.kz e
  have h2:s'.T=-1:=Classical.byContradiction fun h=>HX'.out.fl.1 h e
  have h3:=hnz h2
  omega
 clear hD hnz HC;have HC2:=ξ0 (HD.out.gave HX'.out.fl)
 go_wp2_with fail
 refine HC2.out.mono ?_
 rintro e w14 ⟨ga,gn,gc,G,rfl,hNm,hGb,s2,hT2,hF2,hx2,hn2⟩;have HG0:Hid (TB w w14 ⟨gb,mb,ob,om,yb,ub,cb⟩ L t s2.nx s2 gv sv X Y/\Fl s2 X.length/\s2.nx=s'.nx/\Nums w14 ⟨gb,mb,ob,om,yb,ub,cb⟩ ga gn gc G):=⟨by rw [hx2];exact hT2,hF2,hx2,hNm⟩
 have HGb:=ξ0 hGb
 have hgn:gn<=64:=hNm.1
 have HN2:Hid (gn≠0->s'.nx≠-1):=by rw [<- hx2];exact hn2
 have HP:=ξ0 (And.intro HX'.out.p0 HX'.out.p1)
 clear hNm hGb hT2 hF2 hx2 hn2 HC2 HD HX';go_wp2_with fail
 go_loopg [34,36] gn (fun g u34 u36 wr=>∃ (j:Nat) (s3:Sv),j+g=gn/\u36=.int .i64 (j:Int)/\Hid (TB w wr ⟨gb,mb,ob,om,yb,ub,cb⟩ L t s3.nx s3 gv sv X Y/\Fl s3 X.length/\s3.nx=s'.nx/\Nums wr ⟨gb,mb,ob,om,yb,ub,cb⟩ ga gn gc G))
 case atStart=>exact ⟨0,s2,by omega,rfl,HG0⟩
 case round=>
 obtain ⟨j,s3,hjg,rfl,HG⟩:=hrel;clear HG0;by_cases hj:j<gn
 case pos=>
  as_aux_lemma=>
   skip
   have hjz:(j:Int)<(gn:Int):=by omega
   obtain ⟨gb',go',rfl,hcell⟩:=HG.out.2.2.2.at hj;have HCg:=ξ0 (HG.out.1.gone HG.out.2.1 (HGb.out j hj).1 (HGb.out j hj).2 (by rw [HG.out.2.2.1];exact HN2.out (by omega)))
   obtain ⟨y,hy⟩:∃ y,G.getD j 0=y:=⟨_,rfl⟩;rw [hy] at hcell HCg;clear hy;go_wp2_with fail
   refine HCg.out.mono ?_
   rintro e w15 ⟨rfl,s4,hT4,hF4,hx4,ho4⟩;have HG4:Hid (TB w w15 ⟨gb,mb,ob,om,yb,ub,cb⟩ L t s4.nx s4 gv sv X Y/\Fl s4 X.length/\s4.nx=s'.nx/\Nums w15 ⟨gb,mb,ob,om,yb,ub,cb⟩ (some ⟨gb',go',none⟩) gn gc G):=⟨hT4,hF4,hx4.trans HG.out.2.2.1,HG.out.2.2.2.only ho4⟩
   clear hT4 hF4 hx4 ho4 hcell HCg HG;go_wp2_with fail
   go_roundg (gn - (j+1))
   case measure=>omega
   case rel=>exact ⟨j+1,s4,by omega,by go_num,HG4⟩
 case neg=>
 have hjz:¬ (j:Int)<(gn:Int):=by omega
 obtain ⟨hT3,hF3,hx3,-⟩:=HG.out;have HKz3:Hid (s3.nx=-1->lk+(dn:Int)=0):=by rw [hx3];exact HKz.out
 have HC:=ξ0 (hT3.pop hF3)
 obtain ⟨nq,hnq⟩:∃ nq,s3.nx=nq:=⟨_,rfl⟩;rw [hnq] at HC HKz3;clear hT3 hF3 hx3 hnq HG HKz HN2 HGb hj hjg;go_wp2_with fail
 refine HC.out.mono ?_
 rintro e w15 ⟨pa,K,pq,I,rfl,hK,s5,hP⟩;have HP5:=ξ0 hP
 clear hP HC;go_wp2_with fail
 go_loopg [17,38] K (fun g u17 u38 wr=>∃ (j:Nat) (s6:Sv) (gv':Value) (X':List AU.Pk),j+g=K/\gv'=u17/\u38=.int .i64 (j:Int)/\Hid (PB w wr ⟨gb,mb,ob,om,yb,ub,cb⟩ L t nq K I (.slice pa K pq) j s6 gv' sv X' Y))
 case atStart=>exact ⟨0,s5,_,X,by omega,rfl,rfl,HP5⟩
 case round=>
 obtain ⟨j,s6,gv',X',hjg,rfl,rfl,HB⟩:=hrel;clear HP5;by_cases hj:j<K
 case neg=>
  have hjz:¬ (j:Int)<(K:Int):=by omega
  have hjK:j=K:=by omega
  subst hjK;have HRn:Hid (RS w wr ⟨gb,mb,ob,om,yb,ub,cb⟩ L (t+1) tp' (lk+(dn:Int)) s6 gv' sv X' Y):=by
   obtain ⟨q1,q2,q3,q4⟩:=HB.out.done;have q5:=q1.later (by omega)
   exact ⟨by rw [show ((t+1:Nat):Int)=(t:Int)+1 by omega];exact q5,q2,q3,HP.out.1,HP.out.2,by omega,by omega,fun e=>HKz3.out (q4 e)⟩
  clear HB;go_wp2_with fail
  go_roundg (72 - (t+1))
  case measure=>omega
  case rel=>exact ⟨t+1,tp',lk+(dn:Int),s6,_,X',by omega,rfl,rfl,rfl,by go_num,HRn⟩
 case pos=>
 have hjz:(j:Int)<(K:Int):=by omega
 obtain ⟨ig,ic,it,a,m,c,hv,hit,hgi,hin,hA,hN,hm,c0,c1,c2,c3,c4,c5,c6,c7⟩:=HB.out.kb.item hj;simp only [Value.slice.injEq,true_and] at hv
 obtain ⟨rfl,rfl⟩:=hv;have hfr:=(HB.out.kb.fr ig rfl).1
 have hHC:=HB.out.take hj hit hgi hin hA hN hm
 obtain ⟨n8,hn8⟩:∃ n8,it.n=n8:=⟨_,rfl⟩;obtain ⟨g8,hg8⟩:∃ g8,it.g=g8:=⟨_,rfl⟩;obtain ⟨s8,hs8⟩:∃ s8,it.p.s=s8:=⟨_,rfl⟩;obtain ⟨t8,ht8⟩:∃ t8,it.p.t=t8:=⟨_,rfl⟩;obtain ⟨l8,hl8⟩:∃ l8,it.p.l=l8:=⟨_,rfl⟩;obtain ⟨q8,hq8⟩:∃ q8,it.p.q=q8:=⟨_,rfl⟩;obtain ⟨b8,hb8⟩:∃ b8,it.p.st=b8:=⟨_,rfl⟩;rw [hn8,hg8,hs8,ht8,hl8,hq8,hb8] at hHC;rw [hn8] at c0;rw [hg8] at c1;rw [hs8] at c2;rw [ht8] at c3;rw [hl8] at c4;rw [hq8] at c5;rw [hb8] at c6;have HTk:=ξ0 hHC
 have HKeep:Hid (∀ W',Only [yb] wr W'->W'.cell? ⟨ig,j*8+1,none⟩=some (.bool g8)/\W'.cell? ⟨ig,j*8+2,none⟩=some (.int .i64 s8)/\W'.cell? ⟨ig,j*8+3,none⟩=some (.int .i64 t8)/\W'.cell? ⟨ig,j*8+4,none⟩=some (.int .i64 l8)/\W'.cell? ⟨ig,j*8+5,none⟩=some (.int .i64 q8)/\W'.cell? ⟨ig,j*8+6,none⟩=some (.bool b8)/\W'.cell? ⟨ig,j*8+7,none⟩=some (.slice a m c)):=by
  intro W' ho;have hg:ig∉[yb]:=fun hm=>hfr (by simp [Nm.F] at hm ⊢;simp [hm])
  exact ⟨ξ1b c1 ho hg,ξ1b c2 ho hg,ξ1b c3 ho hg,ξ1b c4 ho hg,ξ1b c5 ho hg,ξ1b c6 ho hg,ξ1b c7 ho hg⟩
 clear hHC hit hgi hin hA hN hm hfr hn8 hg8 hs8 ht8 hl8 hq8 hb8;have HBl:=ξ0 HB.out.kb.tb.rws.bel
 clear HB;cases g8 with
 | true=>
   as_aux_lemma=>
    skip
    go_wp2_with fail
    refine HTk.out.mono ?_
    rintro e w16 ⟨rfl,h1,-,ho⟩;obtain ⟨k1,-⟩:=HKeep.out w16 ho;obtain ⟨s9,hP9⟩:=h1 (by trivial)
    have HP9:=ξ0 hP9
    clear h1 ho hP9 HTk HKeep c0 c1 c2 c3 c4 c5 c6 c7;go_wp2_with fail
    go_roundg (K - (j+1))
    case measure=>omega
    case rel=>exact ⟨j+1,s9,_,X',by omega,rfl,by go_num,HP9⟩
 | false=>
   go_wp2_with fail
   refine HTk.out.mono ?_
   rintro e w16 ⟨rfl,-,h2,ho⟩;obtain ⟨k1,k2,k3,k4,k5,k6,k7⟩:=HKeep.out w16 ho;obtain ⟨rfl,rfl,rfl,rfl,rfl,s9,jj,hQ⟩:=h2 (by trivial)
   have HC:=ξ0 hQ.next
   simp only [Audit.pv] at HC
   have hX64:=hQ.kb.tb.got.len
   clear h2 ho hQ HTk HKeep c0 c1 c2 c3 c4 c5 c6 c7;go_wp2_with fail
   refine HC.out.mono ?_
   rintro e w17 ⟨p,rfl,s10,hR⟩;obtain ⟨w18,hw18⟩:∃ w18,w17.alloc (.cells #[.int .i64 p.s,.int .i64 p.t,.int .i64 p.l,.int .i64 p.q,.bool p.st,.slice p.a p.m p.c] 38)=w18:=⟨_,rfl⟩;have hbl:Below w17.heap.size w17 w18:=by rw [<- hw18];exact (Below.refl _ _).alloc (Nat.le_refl _) _
   have HR18:=ξ0 (hR.below hbl)
   have HX18:Hid (Box w18 w17.heap.size p.s p.t p.l p.q p.st (.slice p.a p.m p.c)):=by rw [<- hw18];exact Box.new w17 _ _ _ _ _ _
   have HW18:=ξ0 hw18
   clear hw18 hR hbl HC k1 k2 k3 k4 k5 k6 k7;go_upto_region 59 with fail
   rw [HW18.out];clear HW18;obtain ⟨xb,hxb⟩:∃ xb,w17.heap.size=xb:=⟨_,rfl⟩;rw [hxb] at HX18;rw [hxb];clear hxb;obtain ⟨x0,x1,x2,x3,x4,x5⟩:=HX18.out.cells;go_wp2_with (at_builtin;refine wpList_append_lies _ rfl _ _ 33 rfl w.heap.size 38 i0 _ 6 64 Tryz.underlying33 hii hz0 hz1 hz2 rfl (by decide) gv' X'.length (Audit.flat X') rfl (HR18.out.kb.tb.rws.got.alloc _) ⟨w18.heap.size,0,none⟩ 1 1 (Audit.pc p) rfl rfl (Audit.lit6 p) (Audit.ξ2U p) (by decide) ?b1 ?b2 ?b3 (w18.heap.size+1) (by simp) ?next)
   case b1=>unfold maxLen;omega
   case b2=>omega
   case b3=>have:=HR18.out.kb.tb.rws.bel.size;simp;omega
   case next=>
   intro g19 cap19 w19 hown hgrow hlies hlt;have HP19:=ξ0 (HR18.out.add hj hown hgrow hlies hlt)
   clear hown hgrow hlies hlt x0 x1 x2 x3 x4 x5 HX18 HR18;go_wp2_with fail
   go_roundg (K - (j+1))
   case measure=>omega
   case rel=>exact ⟨j+1,s10,_,_,by omega,rfl,by go_num,HP19⟩
theorem ξ9c (S:Int) (va:Option Addr) (ln cn:Nat) (In:List Int) (w:World) (hA:Tree.IArg w va ln In) :
 Calls Tryz.prog 5 #[.slice va ln cn,.int .i64 S] w fun e w'=>e=.returned (.bool true)/\Below w.heap.size w w':=by
 by_cases h0:S<0
 ·exact ξcD S _ w h0
 by_cases h1:1000000000<S
 ·exact ξcC S _ w h0 h1
 exact ξcB S va ln cn In w hA (by omega) (by omega)
end Go.Proofs.YtpiamlgmadnepaaGreat.TR
