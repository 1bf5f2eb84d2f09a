/-
  HandsA, HandsB, HandsC, HandsD, HandsE in one text.
-/
import Derived.Test.YtigibpcpnkdmcaaGreatDoorSubAll
import Derived.Test.YtigibpcpnkdmcaaGreatDoorGenOP
import Derived.Test.YtigibpcpnkdmcaaGreatDoorNPlans0P
import Derived.Test.YtigibpcpnkdmcaaGreatDoorAuditAll
namespace Go.Proofs.YtigibpcpnkdmcaaGreatDoor.ND
open Go.ChangeShapes Go.WideShapes Go.ChangeAt Go.RowKit Go.Maps Go.Proofs.YtigibpcpnkdmcaaGreatDoor.Mem Go.Proofs.YtigibpcpnkdmcaaGreatDoor.NO
set_option linter.unusedVariables false
def kpk (y now:Int) (p:Pk):OM.Kp:=⟨y,false,⟨p.s,p.t,p.l,p.q,p.st,p.L,.slice none 0 0⟩,now⟩
theorem gd_l {G:List Nat} {x j:Nat} (h:j<G.length):(G++[x]).getD j 0=G.getD j 0:=by simp [List.getD_eq_getElem?_getD,List.getElem?_append_left h]
theorem gd_r {G:List Nat} {x:Nat}:(G++[x]).getD G.length 0=x:=by simp [List.getD_eq_getElem?_getD]
theorem item_same5 (s:Sb) (i:OM.Kp):(s.item i).on=s.on∧(s.item i).ox=s.ox∧(s.item i).oM=s.oM∧(s.item i).tk=s.tk∧(s.item i).mo=s.mo:=by
  unfold Sb.item
  split<;>exact ⟨rfl,rfl,rfl,rfl,rfl⟩
theorem fold_same5 (I:OM.Its):∀ s:Sb,(I.foldl Sb.item s).on=s.on∧(I.foldl Sb.item s).ox=s.ox∧(I.foldl Sb.item s).oM=s.oM∧(I.foldl Sb.item s).tk=s.tk∧(I.foldl Sb.item s).mo=s.mo:=by
  induction I with
  | nil=>intro s;exact ⟨rfl,rfl,rfl,rfl,rfl⟩
  | cons i I ih=>
    intro s
    obtain ⟨h1,h2,h3,h4,h5⟩:=ih (s.item i)
    obtain ⟨k1,k2,k3,k4,k5⟩:=item_same5 s i
    simp only [List.foldl_cons]
    exact ⟨h1.trans k1,h2.trans k2,h3.trans k3,h4.trans k4,h5.trans k5⟩
structure HV (S:Nat→Pk) (tt mt:Int) (q i:Nat) (c:List Nat) (x:Sb):Prop where
  inv:SbI x
  on:0≤x.on∧x.on≤(i:Int)
  tk:x.tk=tt
  mo:x.mo=mt
  oM:x.oM=[]
  ox:x.ox=if i=0 then -1 else 65536+(q:Int)+(i:Int)
  br:x.br=false
  la:x.la≤65535+(q:Int)+(i:Int)
  ln:(c=[]→x.ln=-1)∧∀ j,j+1=c.length→x.ln=(S (c.getD j 0)).l
  uk:x.uk=c.length
  len:x.got.length=c.length
  ci:c.length≤i
  up:∀ j,j+1<c.length→c.getD j 0<c.getD (j+1) 0
  lt:∀ j,j<c.length→c.getD j 0<i
  got:∀ j,j<c.length→∃ g,x.got[j]?=some g∧g.s=(j:Int)∧g.l=(S (c.getD j 0)).l∧g.q=(S (c.getD j 0)).q∧g.st=(S (c.getD j 0)).st∧g.L=(S (c.getD j 0)).L∧PM.fault g.s g.t g.l g.q g.L.length=0
  lay:∀ j,j<c.length→(S (c.getD j 0)).l≤mt∧((S (c.getD j 0)).st=true∨(0<j∧(S (c.getD (j - 1) 0)).l=(S (c.getD j 0)).l))
theorem HV.start (S:Nat→Pk) (tk mo:Int) (q:Nat):HV S tk mo q 0 [] (s0 tk mo):=
  ⟨⟨OM.inv_start,UM.inv_start (by show (0:Int)≤0;omega) (by show (0:Int)≤_;omega) (by show (0:Int)≤0;omega) (by show (0:Int)≤_;omega)⟩,⟨Int.le_refl _,Int.le_refl _⟩,rfl,rfl,rfl,rfl,rfl,by show (-1:Int)≤_;omega,⟨fun _=>rfl,fun j h=>absurd h (by simp)⟩,rfl,rfl,by simp,fun j h=>absurd h (by simp),fun j h=>absurd h (by simp),fun j h=>absurd h (by simp),fun j h=>absurd h (by simp)⟩
theorem push_one {x:Sb} {q i:Nat} {now:Int} (hI:SbI x) (htf:OM.tf x.on now=0) (hn0:0≤now) (hn1:now≤1000000) (hM:x.oM=[]) (hox:x.ox=if i=0 then -1 else 65536+(q:Int)+(i:Int)) (hq:q≤100) (hi:i<60) (p:Pk) (hf:PM.fault p.s p.t p.l p.q p.L.length=0) :
    Order.Many 10 (x.pushed (65536+(q:Int)+(i:Int)) now p).on (x.pushed (65536+(q:Int)+(i:Int)) now p).ox now (x.pushed (65536+(q:Int)+(i:Int)) now p).oM 1∧(x.pushed (65536+(q:Int)+(i:Int)) now p).pop now 1=({ x with on:=now,ox:=65536+(q:Int)+(i:Int)+1,oM:=[] }:Sb).item (kpk (65536+(q:Int)+(i:Int)) now p):=by
  obtain ⟨y,hy⟩:∃ y:Int,65536+(q:Int)+(i:Int)=y:=⟨_,rfl⟩
  have hy0:0≤y:=by omega
  have hy1:y≤1099511627776:=by omega
  have hfx:OM.fx x.ox y=y:=by
    unfold OM.fx
    rw [hox]
    by_cases c:i=0
    · rw [if_pos c,if_pos rfl]
    · rw [if_neg c,if_neg (by omega)]
      omega
  have hfar:OM.far x.ox y=false:=by
    unfold OM.far
    rw [hox]
    by_cases c:i=0
    · rw [if_pos c]
      simp
    · rw [if_neg c,show y - (65536+(q:Int)+(i:Int))=0 by omega]
      simp
  have hpf:OM.pf x.on x.ox y now (PM.fault p.s p.t p.l p.q p.L.length)=0:=OM.pf_mk htf hy0 hy1 hf hfar
  have hpx:OM.px x.on x.ox y now x.oM (PM.fault p.s p.t p.l p.q p.L.length)=true:=by
    unfold OM.px OM.kx
    rw [hpf,hfx,hM]
    simp [OM.has]
  have e1:x.pushed y now p={ x with on:=now,ox:=y,oM:=[kpk y now p] }:=by
    unfold Sb.pushed OM.pW OM.pX OM.pM
    rw [if_pos hpf,if_pos hpf,if_pos hpx,hfx,hM]
    rfl
  have hI1:SbI (x.pushed y now p):=pushed_inv hI
  obtain ⟨K,hK⟩:=Order.many_ex 10 (now:=now) hI1.oi
  have htn:OM.tf now now=0:=by unfold OM.tf;rw [if_neg (by omega),if_neg (by omega)]
  have hK1:K=1:=by
    obtain ⟨od,hod,hst⟩:=hK.yes (by rw [e1];exact htn)
    rw [e1] at hod hst
    have hod1:od=-1:=by
      rcases hod.one with e | ⟨k,hk,hl,_⟩
      · exact e
      · simp only [List.mem_singleton] at hk
        subst hk
        simp [OM.late,kpk] at hl
    subst hod1
    have g1:OM.goes [kpk y now p] (-1) y=true:=by simp [OM.goes,OM.has,kpk]
    have g2:OM.goes [kpk y now p] (-1) (y+1)=false:=by
      simp [OM.goes,OM.has,kpk]
      omega
    rcases Nat.lt_trichotomy K 1 with h | h | h
    · obtain rfl:K=0:=by omega
      have:=hst.stop
      simp only at this
      have h2:OM.goes [kpk y now p] (-1) (y+((0:Nat):Int))=true:=by rw [show y+((0:Nat):Int)=y by omega];exact g1
      rw [show (OM.goes ({ x with on:=now,ox:=y,oM:=[kpk y now p] }:Sb).oM (-1) (({ x with on:=now,ox:=y,oM:=[kpk y now p] }:Sb).ox+((0:Nat):Int)))=true from h2] at this
      cases this
    · exact h
    · have:=hst.all 1 h
      rw [show (OM.goes ({ x with on:=now,ox:=y,oM:=[kpk y now p] }:Sb).oM (-1) (({ x with on:=now,ox:=y,oM:=[kpk y now p] }:Sb).ox+((1:Nat):Int)))=false from g2] at this
      cases this
  subst hK1
  rw [hy]
  refine ⟨hK,?_⟩
  rw [e1]
  have t1:OM.takes [kpk y now p] y 1=[kpk y now p]:=by
    simp [OM.takes,OM.itm,kpk,List.range_succ]
  have t2:OM.rest [kpk y now p] (y+1)=[]:=by
    simp [OM.rest,kpk]
    omega
  have t3:Order.qW now now=now:=by unfold Order.qW;split<;>rfl
  unfold Sb.pop Sb.popped
  show ((OM.takes [kpk y now p] y 1).foldl Sb.item ({ x with on:=Order.qW now now,ox:=y+((1:Nat):Int),oM:=OM.rest [kpk y now p] (y+((1:Nat):Int)) }:Sb))=_
  rw [t1,show y+((1:Nat):Int)=y+1 from rfl,t2,t3]
  rfl
theorem HV.step {S:Nat→Pk} {tt mt:Int} {q i:Nat} {c:List Nat} {x:Sb} (h:HV S tt mt q i c x) (hq:q≤100) (hi:i<60) (hm:0≤mt∧mt≤3) (hf:PM.fault (S i).s (S i).t (S i).l (S i).q (S i).L.length=0) :
    ∃ c',Order.Many 10 (x.pushed (65536+(q:Int)+(i:Int)) (i:Int) (S i)).on (x.pushed (65536+(q:Int)+(i:Int)) (i:Int) (S i)).ox (i:Int) (x.pushed (65536+(q:Int)+(i:Int)) (i:Int) (S i)).oM 1∧x.uk+1≤999∧x.got.length+1≤1000000∧OM.tf x.on (i:Int)=0∧(c=[]→(S i).l≤mt→(S i).st=true→c'=[i])∧HV S tt mt q (i+1) c' ((x.pushed (65536+(q:Int)+(i:Int)) (i:Int) (S i)).pop (i:Int) 1):=by
  have htf:OM.tf x.on (i:Int)=0:=by unfold OM.tf;rw [if_neg (by omega),if_neg (by have:=h.on;omega)]
  obtain ⟨hK,he⟩:=push_one (now:=(i:Int)) h.inv htf (by omega) (by omega) h.oM h.ox hq hi (S i) hf
  have hci:=h.ci
  have huk:=h.uk
  have hln:=h.len
  obtain ⟨sf,tf',lf,qf,e1,e2,e3,e4,b1,b2,b3,b4,b5⟩:=PM.fault_zero hf
  rw [he]
  obtain ⟨y,hy⟩:∃ y:Int,65536+(q:Int)+(i:Int)=y:=⟨_,rfl⟩
  rw [hy]
  have hoi:OM.Inv (i:Int) (y+1) []:=by
    have h1:=Order.inv_many (pushed_inv (y:=65536+(q:Int)+(i:Int)) (now:=(i:Int)) (p:=S i) h.inv).oi hK
    have h2:=(congrArg (fun s:Sb=>(s.on,s.ox,s.oM)) he)
    obtain ⟨i1,i2,i3,i4,i5⟩:=fold_same5 (OM.takes (x.pushed (65536+(q:Int)+(i:Int)) (i:Int) (S i)).oM (x.pushed (65536+(q:Int)+(i:Int)) (i:Int) (S i)).ox 1) ((x.pushed (65536+(q:Int)+(i:Int)) (i:Int) (S i)).popped (i:Int) 1)
    obtain ⟨j1,j2,j3,j4,j5⟩:=item_same5 ({ x with on:=(i:Int),ox:=65536+(q:Int)+(i:Int)+1,oM:=[] }:Sb) (kpk (65536+(q:Int)+(i:Int)) (i:Int) (S i))
    simp only [Prod.mk.injEq] at h2
    have k1:(Order.qW (x.pushed (65536+(q:Int)+(i:Int)) (i:Int) (S i)).on (i:Int))=(i:Int):=by have:=h2.1;rw [j1] at this;exact (i1.symm.trans this)
    have k2:(x.pushed (65536+(q:Int)+(i:Int)) (i:Int) (S i)).ox+((1:Nat):Int)=65536+(q:Int)+(i:Int)+1:=by have:=h2.2.1;rw [j2] at this;exact (i2.symm.trans this)
    have k3:OM.rest (x.pushed (65536+(q:Int)+(i:Int)) (i:Int) (S i)).oM ((x.pushed (65536+(q:Int)+(i:Int)) (i:Int) (S i)).ox+((1:Nat):Int))=[]:=by have:=h2.2.2;rw [j3] at this;exact (i3.symm.trans this)
    rw [k1,k3,k2] at h1
    rw [← hy]
    exact h1
  have hif:ifl (kpk y (i:Int) (S i))=0:=hf
  have hla:=h.la
  have htk:LM.tkf x.la y false 0=0:=by
    unfold LM.tkf
    rw [if_neg (by omega),if_neg (by omega)]
    rfl
  obtain ⟨x1,hx1⟩:∃ x1:Sb,({ x with on:=(i:Int),ox:=y+1,oM:=[] }:Sb)=x1:=⟨_,rfl⟩
  rw [hx1]
  have hthru:x1.thru (kpk y (i:Int) (S i))=LM.goes mt x.ln (S i).l false (S i).st:=by
    rw [← hx1]
    show LM.tkx x.mo x.ln x.la y x.br false (ifl (kpk y (i:Int) (S i))) (S i).l (S i).st=_
    rw [hif,h.mo,h.br]
    unfold LM.tkx
    rw [htk]
    simp
  have n1:LM.tkN x.mo x.ln x.la y x.br false (ifl (kpk y (i:Int) (S i))) (S i).l (S i).st=if (LM.goes mt x.ln (S i).l false (S i).st&&(S i).st)=true then (S i).l else x.ln:=by
    rw [hif,h.mo,h.br];exact (LM.tk_pack (m:=mt) (nw:=x.ln) (br:=false) (l:=(S i).l) (st:=(S i).st) htk).2.2.1
  have n2:LM.tkL x.la y false (ifl (kpk y (i:Int) (S i)))=y:=by
    rw [hif];exact (LM.tk_pack (m:=mt) (nw:=x.ln) (br:=false) (l:=(S i).l) (st:=(S i).st) htk).2.1
  have n3:LM.tkB x.mo x.ln x.la y x.br false (ifl (kpk y (i:Int) (S i))) (S i).l (S i).st=false:=by
    rw [hif,h.mo,h.br]
    have:=(LM.tk_pack (m:=mt) (nw:=x.ln) (br:=false) (l:=(S i).l) (st:=(S i).st) htk).2.2.2
    refine this.trans ?_
    split<;>rfl
  have hlaid:x1.laid (kpk y (i:Int) (S i))={ x1 with ln:=if (LM.goes mt x.ln (S i).l false (S i).st&&(S i).st)=true then (S i).l else x.ln,la:=y,br:=false }:=by
    rw [← hx1,← n1]
    show ({ x with on:=(i:Int),ox:=y+1,oM:=[],ln:=_,la:=LM.tkL x.la y false (ifl (kpk y (i:Int) (S i))),br:=LM.tkB x.mo x.ln x.la y x.br false (ifl (kpk y (i:Int) (S i))) (S i).l (S i).st }:Sb)=_
    rw [n2,n3]
    rfl
  have hui:=h.inv.ui
  cases hg:LM.goes mt x.ln (S i).l false (S i).st with
  | false=>
    have e:x1.item (kpk y (i:Int) (S i))={ x1 with la:=y,br:=false }:=by
      unfold Sb.item
      rw [hthru,hg,if_neg (by simp),hlaid,hg,Bool.false_and,if_neg (by simp),← hx1]
    refine ⟨c,by rw [← hy];exact hK,by omega,by omega,htf,fun q0 q1 q2=>absurd hg (by unfold LM.goes;rw [h.ln.1 q0,q2];simp;omega),?_⟩
    rw [e,← hx1]
    refine ⟨⟨hoi,hui⟩,⟨by show (0:Int)≤(i:Int);omega,by show (i:Int)≤_;omega⟩,h.tk,h.mo,rfl,?_,rfl,?_,h.ln,h.uk,h.len,by omega,h.up,fun j hj=>by have:=h.lt j hj;omega,h.got,h.lay⟩
    · show y+1=_
      rw [if_neg (by omega)]
      omega
    · show y≤_
      omega
  | true=>
    have hgl:(S i).l≤mt∧((S i).st=true∨((S i).l=x.ln)):=by
      unfold LM.goes at hg
      rw [Bool.and_eq_true,decide_eq_true_eq] at hg
      refine ⟨hg.1,?_⟩
      cases hst:(S i).st with
      | true=>exact .inl rfl
      | false=>
        rw [hst] at hg
        simp at hg
        exact .inr hg.2
    have hc0:(S i).st=false→0<c.length∧x.ln=(S i).l:=by
      intro hst
      rcases hgl.2 with h1 | h1
      · rw [hst] at h1;cases h1
      · refine ⟨?_,h1.symm⟩
        rcases Nat.eq_zero_or_pos c.length with h0 | h0
        · have:=h.ln.1 (List.eq_nil_of_length_eq_zero h0)
          omega
        · exact h0
    have e:x1.item (kpk y (i:Int) (S i))={ ({ x1 with ln:=(S i).l,la:=y,br:=false }:Sb).next (kpk y (i:Int) (S i)) with got:=x.got++[x1.outp (kpk y (i:Int) (S i))] }:=by
      unfold Sb.item
      rw [hthru,hg,if_pos rfl,hlaid,hg]
      have e2:(if (true&&(S i).st)=true then (S i).l else x.ln)=(S i).l:=by
        cases hst:(S i).st with
        | true=>rfl
        | false=>exact (hc0 hst).2
      rw [e2,← hx1]
    refine ⟨c++[i],by rw [← hy];exact hK,by omega,by omega,htf,fun q0 _ _=>by rw [q0];rfl,?_⟩
    have hui2:=hui.next (ly:=x.uy) (l:=(S i).l) (t:=(S i).t) (by omega) (by omega) (by omega)
    rw [e]
    have houtp:x1.outp (kpk y (i:Int) (S i))=⟨UM.sq 0 x.uk,UM.nt x.uk x.uT x.uy x.uo (S i).l (S i).t,(S i).l,(S i).q,(S i).st,(S i).L⟩:=by rw [← hx1];rfl
    have hntb:=UM.nt_bd (k:=x.uk) (ly:=x.uy) (ow:=x.uo) (l:=(S i).l) (t:=(S i).t) hui.t0 hui.t1
    have hsqb:=UM.sq_bd 0 x.uk
    have hsq:UM.sq 0 x.uk=(c.length:Int):=by rw [huk];unfold UM.sq;omega
    rw [houtp,← hx1]
    refine ⟨⟨hoi,hui2⟩,⟨by show (0:Int)≤(i:Int);omega,by show (i:Int)≤_;omega⟩,h.tk,h.mo,rfl,?_,rfl,?_,⟨fun hc=>by simp at hc,fun j hj=>?_⟩,?_,?_,?_,fun j hj=>?_,fun j hj=>?_,fun j hj=>?_,fun j hj=>?_⟩
    · show y+1=_
      rw [if_neg (by omega)]
      omega
    · show y≤_
      omega
    · rw [List.length_append,List.length_singleton] at hj
      obtain rfl:j=c.length:=by omega
      rw [gd_r]
      rfl
    · show x.uk+1=_
      rw [List.length_append,List.length_singleton,huk]
    · show (x.got++[_]).length=_
      rw [List.length_append,List.length_append,hln]
      rfl
    · rw [List.length_append,List.length_singleton]
      omega
    · rw [List.length_append,List.length_singleton] at hj
      by_cases hx:j+1<c.length
      · rw [gd_l hx,gd_l (by omega)];exact h.up j hx
      · rw [gd_l (by omega),show j+1=c.length by omega,gd_r];exact h.lt j (by omega)
    · rw [List.length_append,List.length_singleton] at hj
      by_cases hx:j<c.length
      · rw [gd_l hx];have:=h.lt j hx;omega
      · rw [show j=c.length by omega,gd_r];omega
    · rw [List.length_append,List.length_singleton] at hj
      by_cases hx:j<c.length
      · obtain ⟨g,g1,g2⟩:=h.got j hx
        rw [gd_l hx]
        exact ⟨g,by show (x.got++[_])[j]?=_;rw [List.getElem?_append_left (by omega)];exact g1,g2⟩
      · obtain rfl:j=c.length:=by omega
        rw [gd_r]
        refine ⟨⟨UM.sq 0 x.uk,UM.nt x.uk x.uT x.uy x.uo (S i).l (S i).t,(S i).l,(S i).q,(S i).st,(S i).L⟩,by show (x.got++[_])[c.length]?=_;rw [List.getElem?_append_right (by omega),hln,Nat.sub_self];rfl,hsq,rfl,rfl,rfl,rfl,?_⟩
        show PM.fault (UM.sq 0 x.uk) (UM.nt x.uk x.uT x.uy x.uo (S i).l (S i).t) (S i).l (S i).q (S i).L.length=0
        unfold PM.fault
        rw [if_pos ⟨hsqb.1,hsqb.2,hntb.1,hntb.2,by omega,by omega,by omega,by omega⟩,if_pos b5]
    · rw [List.length_append,List.length_singleton] at hj
      by_cases hx:j<c.length
      · rw [gd_l hx]
        have hl:=h.lay j hx
        by_cases h0:0<j
        · rw [gd_l (show j - 1<c.length by omega)];exact hl
        · refine ⟨hl.1,?_⟩
          rcases hl.2 with h2 | h2
          · exact .inl h2
          · exact absurd h2.1 h0
      · obtain rfl:j=c.length:=by omega
        rw [gd_r]
        refine ⟨hgl.1,?_⟩
        cases hst:(S i).st with
        | true=>exact .inl rfl
        | false=>
          obtain ⟨hc1,hc2⟩:=hc0 hst
          refine .inr ⟨hc1,?_⟩
          rw [gd_l (by omega),← hc2,h.ln.2 (c.length - 1) (by omega)]
def Nd.less (N:Nd) (x:Int):Nd:={ N with sb:=N.sb.filter fun y=>decide (y.1≠x) }
theorem ids_filter (l:List (Int×Sb)) (x:Int):ids (l.filter fun y=>decide (y.1≠x))=(ids l).filter fun y=>decide (y≠x):=by
  unfold ids
  rw [List.filter_map]
  rfl
set_option maxRecDepth 100000 in
theorem unsub_calls (n b:Nat) (o:Nat→Tg) (P:NP) (N:Nd) (x:Int) (w:World) (hn:n≠0) (hN:NAt w o n b P N) (hx:x∈ids N.sb) (hI:SInv N.sb N.ls) :
    Calls Tryz.prog 13 #[.pointer (some ⟨b,0,none⟩),.int .i64 x] w fun e w'=>e=.returned .nilIface∧Done w w' o n b (N.less x):=by
  obtain ⟨z,hz,hzx⟩:=List.mem_map.1 hx
  have hwf:=wf_of (y:=x) (by have:=hI.mem z hz;omega) (by have:=hI.mem z hz;have:=hI.ls1;omega)
  obtain ⟨D,hown,hS⟩:=hN.sbm
  have hl:=look_sub2 hown hS hx hwf
  have c10:=hN.cells.2.2.1
  have HO:=hidden hown
  have HD:Hid (∀ w4,w4.ownsMap Tryz.prog 3 ptR P.sm N.sb.length (D.del (GM.key x))→w.grownBy w4 (some P.sm)→Done w w4 o n b (N.less x)):=by
    refine hidden ?_
    intro w4 hown4 hturn
    have ho:Only [P.sm] w w4:=(Only.refl [P.sm] _).grown hturn (by simp)
    have hc:Chg o (fun g=>g=⟨n,0,1⟩) w w4:=Chg.of_only ho (by intro k hk;simp at hk;rw [hk];exact hN.smt) (by intro k hk;simp at hk;rw [hk];exact nobAt_map (RM.map_block hown))
    have he:=Ext.refl w o
    have h0:∀ g:Tg,g=⟨n,0,1⟩→g.n≠0:=by rintro g rfl;exact hn
    obtain ⟨cs,h1,h2⟩:=hN.box' hc (by simp)
    have hS2:=hS.del x
    have hsz:Maps.size (D.del (GM.key x))=(N.less x).sb.length:=by
      have:=hS2.keys.size (hown4.entries law3) (by
        rw [List.pairwise_map]
        exact (hI.ris.filter _).imp fun h=>by show _≠_;simp only [lk];omega)
      rw [this,List.length_map,← ids_filter]
      exact ids_len _
    have ht:=RM.tight hown4
    rw [hsz] at ht
    refine ⟨o,P,⟨⟨cs,h1,⟨h2.sz,h2.c0,h2.c1,h2.ct,h2.c10,h2.c11,h2.c12,h2.c13⟩⟩,hN.tag' he,fun i hi=>hN.trs' hc he hi (by simp),⟨D.del (GM.key x),ht,?_⟩,hN.smt' he,?_,hN.pul' hc (by simp),hN.put' he,hN.ltr' hc he h0 (by simp),hN.ltt' he⟩,he,chg_mine hc⟩
    · show SM _ (ids (N.sb.filter fun y=>decide (y.1≠x))) _
      rw [ids_filter]
      exact hS2
    · intro y hy
      exact hN.sbs' hc he h0 (List.mem_filter.1 hy).1 (by simp)
  clear hN hx hI hz hzx hown hS
  go_enter Tryz.func13,Tryz.ntmps13
  go_wp2_with (at_delete;refine wpList_delete_own _ rfl _ _ 49 3 rfl 66 law3 Tryz.underlying49 _ P.sm N.sb.length D rfl HO.out _ _ rfl (keyOf3 hwf) ?_;intro w4 hown4 hturn4;have HDn:=hidden (HD.out w4 hown4 hturn4.grown);clear hown4 hturn4)
  go_wp2_with fail
  go_ret
  exact ⟨rfl,HDn.out⟩
set_option maxHeartbeats 1000000 in
set_option maxRecDepth 100000 in
theorem send_badG (n b k:Nat) (o:Nat→Tg) (P:NP) (N:Nd) (tr:Tr) (now s t l q:Int) (st:Bool) (a:Option Addr) (m cap:Nat) (w:World) (hN:NAt w o n b P N) (hi:k<8) (ht:N.tr k=some tr) (hpa:tr.pa=-1) (hnow:GM.tf N.nw now=0) (hf:PM.fault s t l q m≠0) :
    Calls Tryz.prog 7 #[.pointer (some ⟨b,0,none⟩),.int .i64 ((k:Int)+1),.agg #[.int .i64 s,.int .i64 t,.int .i64 l,.int .i64 q,.bool st,.slice a m cap],.int .i64 now] w fun e w'=>e=.returned (errv (PM.fault s t l q m))∧Below w.heap.size w w':=by
  obtain ⟨W0,hW0⟩:∃ W0,w.alloc (.cells #[.int .i64 s,.int .i64 t,.int .i64 l,.int .i64 q,.bool st,.slice a m cap] 34)=W0:=⟨_,rfl⟩
  have hB0:Below w.heap.size w W0:=by rw [← hW0];exact (Below.refl _ _).alloc (Nat.le_refl _) _
  have hbx:W0.heap[w.heap.size]?=some (.cells #[.int .i64 s,.int .i64 t,.int .i64 l,.int .i64 q,.bool st,.slice a m cap] 34 (0,0)):=by rw [← hW0];exact heap_alloc_new w _
  have CT:=hidden (isTrack_calls ((k:Int)+1))
  rw [show okT ((k:Int)+1)=true from by simp [okT];omega] at CT
  have CA:=hidden (Gaps.at_calls N.nw now W0)
  rw [if_pos hnow,hnow] at CA
  have CC:=hidden (Pack.check_calls s t l q st a m cap)
  obtain ⟨f,hff⟩:∃ f,PM.fault s t l q m=f:=⟨_,rfl⟩
  rw [hff] at CC hf ⊢
  have q1:=cmp_ne f
  have q2:=grd_ne f
  have d0:decide (f=0)=false:=by simpa using hf
  have hk3:wrap64 ((k:Int)+1 - 1)=(k:Int):=by unfold wrap64;omega
  have hk5:wrap64 (k:Int)=(k:Int):=by unfold wrap64;omega
  have hk4:(k:Int)<8:=by omega
  have HN:=hidden hN
  have HB0:=hidden hB0
  have HW:=hidden hW0
  have HBX:=hidden hbx
  have c0:=(hN.below hB0).cells.1
  have HTr:=hidden ht
  obtain ⟨nw,hnw⟩:∃ nw,N.nw=nw:=⟨_,rfl⟩
  rw [hnw] at c0 CA
  obtain ⟨pp,hpp⟩:∃ pp,(P.tp k).p=pp:=⟨_,rfl⟩
  have HPP:=hidden hpp
  have HPA:=hidden hpa
  clear hN hnow hf hB0 hW0 hbx hnw hpp hpa ht hff
  go_enter Tryz.func7,Tryz.ntmps7
  go_upto_region 1 with fail
  rw [HW.out]
  go_wp2_with fail
  refine CA.out.mono ?_
  rintro e w1 ⟨rfl,hb1⟩
  rw [show Gaps.errv 0=Value.nilIface from rfl]
  obtain ⟨W1,hW1⟩:∃ W1,w1.alloc (.cells #[.int .i64 now] 51)=W1:=⟨_,rfl⟩
  have hB1:Below w.heap.size w W1:=by rw [← hW1];exact (HB0.out.trans (hb1.mono HB0.out.size)).alloc (by have:=HB0.out.size;have:=hb1.size;omega) _
  have hbk:W1.heap[w.heap.size]?=W0.heap[w.heap.size]?:=by
    rw [← hW1]
    exact (Below.heap_alloc _ _ _ (by have:=lt_of_block HBX.out;have:=hb1.size;omega)).trans (hb1.block _ (lt_of_block HBX.out))
  have HW1:=hidden hW1
  have HB1:=hidden hB1
  have hN1:=HN.out.below hB1
  have ct:=hN1.track hi
  have bx:=(hN1.trs k hi tr HTr.out).1.box
  rw [HTr.out] at ct
  simp only [tpv] at ct
  rw [HPP.out] at ct bx
  have cp:W1.cell? ⟨pp,2,none⟩=some (.int .i64 (-1)):=by rw [← HPA.out];simp [World.cell?,bx]
  have hbx1:=hbk.trans HBX.out
  have x0:W1.cell? ⟨w.heap.size,0,none⟩=some (.int .i64 s):=by simp [World.cell?,hbx1]
  have x1:W1.cell? ⟨w.heap.size,1,none⟩=some (.int .i64 t):=by simp [World.cell?,hbx1]
  have x2:W1.cell? ⟨w.heap.size,2,none⟩=some (.int .i64 l):=by simp [World.cell?,hbx1]
  have x3:W1.cell? ⟨w.heap.size,3,none⟩=some (.int .i64 q):=by simp [World.cell?,hbx1]
  have x4:W1.cell? ⟨w.heap.size,4,none⟩=some (.bool st):=by simp [World.cell?,hbx1]
  have x5:W1.cell? ⟨w.heap.size,5,none⟩=some (.slice a m cap):=by simp [World.cell?,hbx1]
  obtain ⟨cb,hcb⟩:∃ cb,w1.heap.size=cb:=⟨_,rfl⟩
  clear hb1 hW1 hB1 hbk c0 CA hN1 bx hbx1
  go_upto_region 4 with fail
  first | rw [HW1.out] | skip
  clear hcb
  go_wp2_with fail
  refine (CT.out _).mono ?_
  rintro e w2 ⟨rfl,rfl⟩
  go_wp2_with fail
  refine (CC.out _).mono ?_
  rintro e w2 ⟨rfl,hb2⟩
  rw [show Pack.errv f=errv f from rfl]
  have HB2:=hidden (HB1.out.trans (hb2.mono HB1.out.size))
  clear hb2
  go_wp2_with fail
  go_ret
  exact ⟨rfl,HB2.out⟩
theorem look_none2 {w:World} {sm m:Nat} {D:DataW Value} {X:List Int} {g:Int→Nat} (hown:w.ownsMap Tryz.prog 3 ptR sm m D) (hS:SM D X g) {x:Int} (hx:x∉X) (hw:(Lit.int .i64 x).wf=true) :
    (Instr.lookup 49 (.map (some sm)) (.int .i64 x) true).run Tryz.prog w=.ok (.tuple #[.pointer none,.bool false]) w:=by
  obtain ⟨v',ps,hrun,hr⟩:=hown.look_ok law3 Tryz.underlying49 (zeroSQ w) (ptR_mk none) (keyOf3 hw)
  have hh:Maps.has D (GM.key x)=false:=by
    rw [Bool.eq_false_iff]
    intro h
    obtain ⟨y,hy,e⟩:=(hS.keys (GM.key x)).1 h
    obtain ⟨z,hz,rfl⟩:=List.mem_map.1 hy
    exact hx (by cases e;exact hz)
  rw [atKey_of_not_has hh] at hr
  have e:=ptR_inv hr
  simp only [Prod.mk.injEq,DataW.held.injEq] at e
  have hrun':(Instr.lookup 49 (.map (some sm)) (.int .i64 x) true).run Tryz.prog w=.ok (.tuple #[v',.bool (Maps.has D (GM.key x))]) w:=hrun
  rw [hrun',hh,← e.1]
theorem unsub_none (n b:Nat) (o:Nat→Tg) (P:NP) (N:Nd) (x:Int) (w:World) (hN:NAt w o n b P N) (hx:x∉ids N.sb) (hw:(Lit.int .i64 x).wf=true) :
    Calls Tryz.prog 13 #[.pointer (some ⟨b,0,none⟩),.int .i64 x] w fun e w'=>e=.returned (errv 5)∧w'=w:=by
  obtain ⟨D,hown,hS⟩:=hN.sbm
  have hl:=look_none2 hown hS hx hw
  have c10:=hN.cells.2.2.1
  clear hN hx hown hS
  rw [errv_pos (by omega)]
  go_enter Tryz.func13,Tryz.ntmps13
  go_wp2_with fail
  go_ret
  exact ⟨rfl,rfl⟩
def OneR (w W:World) (b:Nat) (N:Nd) (bs:List Nat):Prop:=∃ o P,NAt W o 1 b P N∧(∀ k,k<w.heap.size→(o k).n=0)∧Below w.heap.size w W∧∀ k∈bs,(o k).n=2000∧k<W.heap.size
def Stay (bs:List Nat) (W W':World):Prop:=∀ k∈bs,W'.heap[k]?=W.heap[k]?
theorem One.r {w W:World} {b:Nat} {N:Nd} (h:One w W b N):OneR w W b N []:=by
  obtain ⟨o,P,h1,h2⟩:=h.at'
  exact ⟨o,P,h1,h2,h.bel,by simp⟩
theorem OneR.bel {w W:World} {b:Nat} {N:Nd} {bs:List Nat} (h:OneR w W b N bs):Below w.heap.size w W:=by obtain ⟨_,_,_,_,h,_⟩:=h;exact h
theorem OneR.below {w W W':World} {b:Nat} {N:Nd} {bs:List Nat} (h:OneR w W b N bs) (hb:Below W.heap.size W W'):OneR w W' b N bs∧Stay bs W W':=by
  obtain ⟨o,P,h1,h2,h3,h4⟩:=h
  exact ⟨⟨o,P,h1.below hb,h2,h3.trans (hb.mono h3.size),fun k hk=>⟨(h4 k hk).1,Nat.lt_of_lt_of_le (h4 k hk).2 hb.size⟩⟩,fun k hk=>hb.block k (h4 k hk).2⟩
theorem stay_chg {o:Nat→Tg} {bs:List Nat} {W W':World} (h4:∀ k∈bs,(o k).n=2000∧k<W.heap.size) (hc:Chg o (mine 1) W W'):Stay bs W W':=by
  intro k hk
  obtain ⟨cs,h1,h2,_⟩:=hc
  refine h1.2.2.2.2 k (h4 k hk).2 (fun hm=>?_)
  have:=h2 k hm
  unfold mine at this
  have:=(h4 k hk).1
  omega
theorem OneR.done {w W W':World} {b:Nat} {N':Nd} {bs:List Nat} {o:Nat→Tg} (h2:∀ k,k<w.heap.size→(o k).n=0) (h3:Below w.heap.size w W) (h4:∀ k∈bs,(o k).n=2000∧k<W.heap.size) (hd:Done W W' o 1 b N'):OneR w W' b N' bs∧Stay bs W W':=by
  obtain ⟨o',P',q1,q2,q3⟩:=hd
  have hs:=h3.size
  refine ⟨⟨o',P',q1,fun k hk=>by rw [q2 k (by omega)];exact h2 k hk,below_chg h3 hs q3 (fun k hk=>by rw [h2 k hk];omega),fun k hk=>⟨by rw [q2 k (h4 k hk).2];exact (h4 k hk).1,Nat.lt_of_lt_of_le (h4 k hk).2 q3.size⟩⟩,stay_chg h4 q3⟩
theorem OneR.own {w W W':World} {b:Nat} {N:Nd} {bs ks:List Nat} (h:OneR w W b N bs) (ho:Only ks W W') (hk:∀ k∈ks,k∈bs) (hn:Nob W ks) (new:List Nat) (hnew:∀ k∈new,W.heap.size≤k∧k<W'.heap.size):OneR w W' b N (bs++new):=by
  obtain ⟨o,P,h1,h2,h3,h4⟩:=h
  have hc:Chg o (fun g=>g.n=2000) W W':=Chg.of_only ho (fun k hm=>(h4 k (hk k hm)).1) hn
  have hs:=hc.size
  refine ⟨grow o W ⟨2000,0,0⟩,P,h1.chg hc (fun g hg=>by omega) (grow_ext o W _),fun k hl=>?_,?_,fun k hm=>?_⟩
  · rw [grow_old (Nat.lt_of_lt_of_le hl h3.size)]
    exact h2 k hl
  · refine h3.trans ⟨ho.1,ho.2.1,ho.2.2.1,ho.2.2.2.1,fun k hl=>ho.2.2.2.2 k (Nat.lt_of_lt_of_le hl h3.size) (fun hm=>?_)⟩
    have q1:=(h4 k (hk k hm)).1
    have q2:=h2 k hl
    omega
  · rcases List.mem_append.1 hm with hm | hm
    · obtain ⟨q1,q2⟩:=h4 k hm
      exact ⟨by rw [grow_old q2];exact q1,Nat.lt_of_lt_of_le q2 hs⟩
    · obtain ⟨q1,q2⟩:=hnew k hm
      exact ⟨by rw [grow_new q1],q2⟩
structure TW (tt:Int) (q i:Nat) (t:Tr):Prop where
  tk:t.tk=tt
  pa:t.pa=-1
  kid:t.kids=[]
  gi:GM.Inv 3 3 t.gn t.gT t.gM
  gn:t.gn≤(i:Int)
  gM:t.gM=[]
  gT:t.gT=if i=0 then -1 else 65535+(q:Int)+(i:Int)
  ri:RM.Inv 64 t.rT t.rM
  rT:t.rT=if i=0 then -1 else 65535+(q:Int)+(i:Int)
theorem TW.start (tt ep:Int) (q:Nat):TW tt q 0 ((tr0 tt ep).to (-1) []):=
  ⟨rfl,rfl,rfl,GM.inv_start (by omega) (by omega) (by omega) (by omega),Int.le_refl _,rfl,rfl,RM.inv_start (by omega) (by omega),rfl⟩
theorem TW.num {tt:Int} {q i:Nat} {t:Tr} (h:TW tt q i t) (hq:q≤100) (hi:i<60):num t.rT ((q+i:Nat):Int)=65536+(q:Int)+(i:Int):=by
  unfold ND.num
  rw [h.rT]
  by_cases c:i=0
  · subst c
    rw [if_pos rfl,if_pos (by omega)]
    omega
  · rw [if_neg c,if_neg (by omega)]
    unfold Ser.unw Ser.bey
    split<;>omega
theorem TW.hear {tt:Int} {q i:Nat} {t:Tr} (h:TW tt q i t) (hq:q≤100) (hi:i<60) (pk:RM.Pk) (wy:Int×Int) :
    GM.hB t.gn t.gT t.gM (65536+(q:Int)+(i:Int)) (i:Int)=true∧TW tt q (i+1) ((t.heard (65536+(q:Int)+(i:Int)) (i:Int)).keep (65536+(q:Int)+(i:Int)) pk wy):=by
  obtain ⟨y,hy⟩:∃ y:Int,65536+(q:Int)+(i:Int)=y:=⟨_,rfl⟩
  have hlt:t.gT<y:=by rw [h.gT];split<;>omega
  have hltr:t.rT<y:=by rw [h.rT];split<;>omega
  have hlo:GM.lo t.gT y=0:=by
    unfold GM.lo
    rw [h.gT]
    by_cases c:i=0
    · rw [if_pos c,if_pos (.inl rfl)]
    · rw [if_neg c]
      split<;>omega
  have hf:GM.hf t.gn t.gT t.gM y (i:Int)=0:=by
    have htf:GM.tf t.gn (i:Int)=0:=by unfold GM.tf;rw [if_neg (by omega),if_neg (by have:=h.gn;omega)]
    unfold GM.hf
    rw [h.gM,hlo]
    rw [if_neg (by omega),if_neg (by omega),if_neg (by simp)]
  have hx:RM.px 64 t.rT y t.rM 0=true:=by
    have hh:RM.has t.rM y=false:=by
      unfold RM.has
      rw [List.any_eq_false]
      intro k hk
      have:=(h.ri.mem k hk).2.1
      simp
      omega
    unfold RM.px
    rw [RM.pf_mk (by omega) (by omega) rfl (by omega),hh]
    rfl
  rw [hy]
  refine ⟨?_,?_⟩
  · unfold GM.hB GM.hx
    rw [hf]
    simp [hlt]
  · have hri:=RM.inv_step (y:=y) h.ri 0 pk
    unfold RM.pT RM.pM at hri
    rw [if_pos hx,if_pos hx] at hri
    have hgi:=GM.inv_hear2 (y:=y) (now:=(i:Int)) h.gi
    have e1:GM.hL t.gn t.gT t.gM y (i:Int)=[]:=by
      unfold GM.hL GM.hM
      rw [if_pos hf,h.gM,if_pos hlt,hlo]
      rfl
    have e2:GM.hU t.gn t.gT t.gM y (i:Int)=y:=by
      unfold GM.hU GM.hT
      rw [if_pos hf,if_pos hlt]
    have e3:GM.hN t.gn t.gT t.gM y (i:Int)≤((i+1:Nat):Int):=by
      unfold GM.hN
      rw [if_pos hf]
      omega
    rw [Tr.keep_yes (t:=t.heard y (i:Int)) hx]
    refine ⟨h.tk,h.pa,h.kid,hgi,e3,e1,?_,hri,?_⟩
    · show GM.hU t.gn t.gT t.gM y (i:Int)=_
      rw [e2,if_neg (by omega)]
      omega
    · show RM.top t.rT y=_
      unfold RM.top
      rw [if_pos hltr,if_neg (by omega)]
      omega
structure NW (S:Nat→Pk) (tt mt:Int) (kk q i:Nat) (c:List Nat) (t:Tr) (x:Sb) (N:Nd):Prop where
  nw:0≤N.nw∧N.nw≤(i:Int)
  tr:N.tr kk=some t
  tw:TW tt q i t
  sb:N.sb=[(1,x)]
  hv:HV S tt mt q i c x
  ls:N.ls=1
  lt:N.lt=[]
theorem sinv_one {x:Sb} (hm:0≤x.mo∧x.mo≤3):SInv [((1:Int),x)] 1:=⟨by simp [ids],by intro y hy;simp at hy;subst hy;exact ⟨by simp,by simp,hm⟩,by simp,by omega,by omega⟩
def H2 (w W:World) (b:Nat) (S:Nat→Pk) (tt mt:Int) (kk q i:Nat) (c bs:List Nat):Prop:=∃ N t x,OneR w W b N bs∧NW S tt mt kk q i c t x N
theorem H2.bel {w W:World} {b:Nat} {S:Nat→Pk} {tt mt:Int} {kk q i:Nat} {c bs:List Nat} (h:H2 w W b S tt mt kk q i c bs):Below w.heap.size w W:=by obtain ⟨_,_,_,h,_⟩:=h;exact h.bel
theorem H2.below {w W W':World} {b:Nat} {S:Nat→Pk} {tt mt:Int} {kk q i:Nat} {c bs:List Nat} (h:H2 w W b S tt mt kk q i c bs) (hb:Below W.heap.size W W'):H2 w W' b S tt mt kk q i c bs:=by
  obtain ⟨N,t,x,h1,h2⟩:=h
  exact ⟨N,t,x,(h1.below hb).1,h2⟩
theorem H2.own {w W W':World} {b:Nat} {S:Nat→Pk} {tt mt:Int} {kk q i:Nat} {c bs ks:List Nat} (h:H2 w W b S tt mt kk q i c bs) (ho:Only ks W W') (hk:∀ k∈ks,k∈bs) (hn:Nob W ks) (new:List Nat) (hnew:∀ k∈new,W.heap.size≤k∧k<W'.heap.size):H2 w W' b S tt mt kk q i c (bs++new):=by
  obtain ⟨N,t,x,h1,h2⟩:=h
  exact ⟨N,t,x,h1.own ho hk hn new hnew,h2⟩
theorem H2.send {w W0 W:World} {b:Nat} {S:Nat→Pk} {tt mt:Int} {kk q i:Nat} {c bs:List Nat} (h0:H2 w W0 b S tt mt kk q i c bs) (hb0:Below W0.heap.size W0 W) (hkk:kk<8) (htt:tt=(kk:Int)+1) (hm:0≤mt∧mt≤3) (hq:q≤100) (hi:i<60) (hs:(S i).s=((q+i:Nat):Int)) (hf:PM.fault (S i).s (S i).t (S i).l (S i).q (S i).L.length=0)
    (a:Option Addr) (m cap:Nat) (hA:Arg W a m (S i).L) (hno:a=none→m=0∧cap=0) (ha:0<m→∀ ad,a=some ad→ad.block<w.heap.size∨W0.heap.size≤ad.block) :
    Calls Tryz.prog 7 #[.pointer (some ⟨b,0,none⟩),.int .i64 tt,.agg #[.int .i64 (S i).s,.int .i64 (S i).t,.int .i64 (S i).l,.int .i64 (S i).q,.bool (S i).st,.slice a m cap],.int .i64 (i:Int)] W fun e w'=>e=.returned .nilIface∧Stay bs W0 w'∧∃ c',(c=[]→(S i).l≤mt→(S i).st=true→c'=[i])∧H2 w w' b S tt mt kk q (i+1) c' bs:=by
  obtain ⟨N,t,x,⟨o,P,k1,k2,k3,k4⟩,h2⟩:=h0
  have hs0:=hA.2.1
  have hnum:=h2.tw.num hq hi
  obtain ⟨hh1,hh2⟩:=h2.tw.hear hq hi ⟨(S i).s,(S i).t,(S i).l,(S i).q,(S i).st,(S i).L,.slice a m cap⟩ (N.id,1)
  obtain ⟨c',c1,c2,c3,c4,c6,c5⟩:=h2.hv.step hq hi hm hf
  have hxm:0≤x.mo∧x.mo≤3:=by rw [h2.hv.mo];exact hm
  have hnow:GM.tf N.nw (i:Int)=0:=by unfold GM.tf;rw [if_neg (by omega),if_neg (by have:=h2.nw;omega)]
  have m1:NAt W (grow o W0 nobody) 1 b P N:=k1.chg (S:=fun _=>False) (Chg.of_below hb0 _ _) (fun g hg=>hg.elim) (grow_ext o W0 nobody)
  have m2:∀ k,k<w.heap.size→(grow o W0 nobody k).n=0:=by
    intro k hk
    rw [grow_old (Nat.lt_of_lt_of_le hk k3.size)]
    exact k2 k hk
  have m3:0<m→∀ ad,a=some ad→(grow o W0 nobody ad.block).n=0:=by
    intro hm ad e
    rcases ha hm ad e with q | q
    · exact m2 _ q
    · rw [grow_new q]
  have m4:∀ k∈bs,(grow o W0 nobody k).n=2000∧k<W.heap.size:=by
    intro k hk
    obtain ⟨q1,q2⟩:=k4 k hk
    exact ⟨by rw [grow_old q2];exact q1,Nat.lt_of_lt_of_le q2 hb0.size⟩
  have hX:Alike t x (S i) (ND.num t.rT (S i).s) (i:Int) 1:=by
    rw [hs,hnum]
    exact ⟨h2.tw.kid,h2.hv.tk.trans h2.tw.tk.symm,h2.hv.inv,c4,c1,c2,c3⟩
  have C:=send_subs 1 b kk (grow o W0 nobody) P N t (i:Int) (S i).s (S i).t (S i).l (S i).q (S i).st a m cap (S i).L W (by omega) m1 hkk h2.tr h2.tw.pa hnow h2.tw.gi h2.tw.ri hA hno (by rw [← hs0];exact hf) m3 [1] x 1 h2.sb (by rw [h2.sb,h2.ls];exact sinv_one hxm) (by rw [h2.lt,h2.tw.kid];decide) hX
  rw [← htt] at C
  refine C.mono ?_
  rintro e w' ⟨rfl,hd⟩
  obtain ⟨z1,z2⟩:=OneR.done m2 (k3.trans (hb0.mono k3.size)) m4 hd
  refine ⟨rfl,fun k hk=>(z2 k hk).trans (hb0.block k (k4 k hk).2),c',c6,_,(t.heard (65536+(q:Int)+(i:Int)) (i:Int)).keep (65536+(q:Int)+(i:Int)) ⟨(S i).s,(S i).t,(S i).l,(S i).q,(S i).st,(S i).L,.slice a m cap⟩ (N.id,1),(x.pushed (65536+(q:Int)+(i:Int)) (i:Int) (S i)).pop (i:Int) 1,z1,?_⟩
  have he:ND.num t.rT (⟨(S i).s,(S i).t,(S i).l,(S i).q,(S i).st,(S i).L,.slice a m cap⟩:RM.Pk).s=65536+(q:Int)+(i:Int):=by show ND.num t.rT (S i).s=_;rw [hs,hnum]
  unfold Nd.tookS
  rw [he,if_pos hh1]
  exact ⟨⟨by show (0:Int)≤(i:Int);omega,by show (i:Int)≤_;omega⟩,by show updR N.tr kk _ kk=_;exact updR_at _ _ _,hh2,rfl,c5,h2.ls,h2.lt⟩
theorem H2.bad {w W0 W:World} {b:Nat} {S:Nat→Pk} {tt mt:Int} {kk q i:Nat} {c bs:List Nat} (h0:H2 w W0 b S tt mt kk q i c bs) (hb0:Below W0.heap.size W0 W) (hkk:kk<8) (htt:tt=(kk:Int)+1) (hi:i<60) (s t l q':Int) (st:Bool) (a:Option Addr) (m cap:Nat) (hf:PM.fault s t l q' m≠0) :
    Calls Tryz.prog 7 #[.pointer (some ⟨b,0,none⟩),.int .i64 tt,.agg #[.int .i64 s,.int .i64 t,.int .i64 l,.int .i64 q',.bool st,.slice a m cap],.int .i64 (i:Int)] W fun e w'=>∃ f,e=.returned (errv f)∧0<f∧Below W.heap.size W w':=by
  obtain ⟨N,tr,x,⟨o,P,k1,k2,k3,k4⟩,h2⟩:=h0
  have hnow:GM.tf N.nw (i:Int)=0:=by unfold GM.tf;rw [if_neg (by omega),if_neg (by have:=h2.nw;omega)]
  have C:=send_badG 1 b kk o P N tr (i:Int) s t l q' st a m cap W (k1.below hb0) hkk h2.tr h2.tw.pa hnow hf
  rw [← htt] at C
  refine C.mono ?_
  rintro e w' ⟨rfl,hbl⟩
  exact ⟨_,rfl,Nat.pos_of_ne_zero hf,hbl⟩
theorem h_new {w W:World} (hb:Below w.heap.size w W):Calls Tryz.prog 4 #[.int .i64 0] W fun e w'=>∃ b,e=.returned (.tuple #[.pointer (some ⟨b,0,none⟩),.nilIface])∧One w w' b (nd0 0):=by
  refine (new_ok 0 (fun _=>nobody) 1 W (by decide)).mono ?_
  rintro e w' h
  exact One.of_made hb h
theorem h_plan {w W:World} {b:Nat} (h:One w W b (nd0 0)) (tk:Int) (ht:tk=1∨tk=2):Calls Tryz.prog 5 #[.pointer (some ⟨b,0,none⟩),.int .i64 tk,.int .i64 (-1),.slice none 0 0,.int .i64 1] W fun e w'=>e=.returned .nilIface∧One w w' b ((nd0 0).plan tk (-1) [] 1):=by
  have hf:pF (nd0 0) tk (-1) [] 1=0:=by rcases ht with rfl | rfl<;>decide
  have C:=h.plan tk (-1) 1 none 0 0 [] ⟨fun j hj=>absurd hj (by simp),rfl,by omega⟩ (fun _=>⟨rfl,rfl⟩) ⟨by simp [nd0,ids],by simp [nd0],by simp [nd0],by simp [nd0],by simp [nd0]⟩ (by simp [nd0])
  rw [hf] at C
  refine C.mono ?_
  rintro e w' ⟨rfl,h1,_⟩
  exact ⟨rfl,h1 rfl⟩
theorem h_sF (tk mt:Int) (ht:tk=1∨tk=2):sF ((nd0 0).plan tk (-1) [] 1) tk mt=if mt<0∨3<mt then 1 else 0:=by
  have e1:okT tk=true:=by rcases ht with rfl | rfl<;>decide
  have e2:(((nd0 0).plan tk (-1) [] 1).at tk).isNone=false:=by rcases ht with rfl | rfl<;>rfl
  have e3:((nd0 0).plan tk (-1) [] 1).sb.length=0:=by rcases ht with rfl | rfl<;>rfl
  unfold sF
  rw [if_neg (by rw [e1];simp),e2,e3]
  rfl
theorem h_sinv (tk:Int) (ht:tk=1∨tk=2):SInv ((nd0 0).plan tk (-1) [] 1).sb ((nd0 0).plan tk (-1) [] 1).ls:=by
  have e3:((nd0 0).plan tk (-1) [] 1).sb=[]:=by rcases ht with rfl | rfl<;>rfl
  have e4:((nd0 0).plan tk (-1) [] 1).ls=0:=by rcases ht with rfl | rfl<;>rfl
  rw [e3,e4]
  exact ⟨by simp [ids],by simp,by simp,by simp,by simp⟩
theorem h_sub {w W:World} {b:Nat} (S:Nat→Pk) (tk mt:Int) (kk q:Nat) (h:One w W b ((nd0 0).plan tk (-1) [] 1)) (ht:tk=1∧kk=0∨tk=2∧kk=1) (hm:0≤mt∧mt≤3) :
    Calls Tryz.prog 6 #[.pointer (some ⟨b,0,none⟩),.int .i64 tk,.int .i64 mt] W fun e w'=>e=.returned (.tuple #[.int .i64 1,.nilIface])∧H2 w w' b S tk mt kk q 0 [] []:=by
  have ht':tk=1∨tk=2:=ht.imp And.left And.left
  have e4:((nd0 0).plan tk (-1) [] 1).ls=0:=by rcases ht' with rfl | rfl<;>rfl
  have hf:=h_sF tk mt ht'
  rw [if_neg (by omega)] at hf
  refine (h.sub tk mt (h_sinv tk ht') (by rw [e4];omega) hf).mono ?_
  rintro e w' ⟨rfl,q1⟩
  rw [e4]
  refine ⟨rfl,_,(tr0 tk 1).to (-1) [],s0 tk mt,q1.r,?_⟩
  rcases ht with ⟨rfl,rfl⟩ | ⟨rfl,rfl⟩
  · exact ⟨⟨by show (0:Int)≤0;omega,by show (0:Int)≤((0:Nat):Int);omega⟩,rfl,TW.start 1 1 q,rfl,HV.start S 1 mt q,rfl,rfl⟩
  · exact ⟨⟨by show (0:Int)≤0;omega,by show (0:Int)≤((0:Nat):Int);omega⟩,rfl,TW.start 2 1 q,rfl,HV.start S 2 mt q,rfl,rfl⟩
theorem h_subBad {w W:World} {b:Nat} (tk mt:Int) (h:One w W b ((nd0 0).plan tk (-1) [] 1)) (ht:tk=1∨tk=2) (hm:mt<0∨3<mt) :
    Calls Tryz.prog 6 #[.pointer (some ⟨b,0,none⟩),.int .i64 tk,.int .i64 mt] W fun e w'=>e=.returned (.tuple #[.int .i64 0,errv 1])∧Below w.heap.size w w':=by
  obtain ⟨o,P,k1,k2⟩:=h.at'
  have hf:=h_sF tk mt ht
  rw [if_pos hm] at hf
  have C:=sub_bad 1 b o P _ tk mt W k1 (h_sinv tk ht) (by rw [hf];omega)
  rw [hf] at C
  refine C.mono ?_
  rintro e w' ⟨rfl,hb⟩
  exact ⟨rfl,h.bel.trans (hb.mono h.bel.size)⟩
def toA (p:Pk) (a:Option Addr) (m c:Nat):AU.Pk:=⟨p.s,p.t,p.l,p.q,p.st,a,m,c,p.L⟩
theorem got_rows {W:World} {o:Nat→Tg}:∀ X:List (Pk×Value),(∀ x∈X,BodyAt W o x.2 x.1.L)→∃ G:List AU.Pk,G.length=X.length∧Audit.flat G=(X.flatMap fun x=>pc x.1 x.2)∧(∀ g∈G,Audit.PkOk W g)∧G.map (fun g=>(⟨g.s,g.t,g.l,g.q,g.st,g.L⟩:Pk))=X.map Prod.fst:=by
  intro X
  induction X with
  | nil=>intro _;exact ⟨[],rfl,rfl,by simp,rfl⟩
  | cons x r ih=>
    intro h
    obtain ⟨G,h1,h2,h3,h4⟩:=ih (fun y hy=>h y (List.mem_cons_of_mem _ hy))
    obtain ⟨a,m,c,e,hA,_⟩:=h x (List.mem_cons_self ..)
    refine ⟨toA x.1 a m c::G,by simp [h1],?_,?_,by simp [h4,toA]⟩
    · show Audit.flat (toA x.1 a m c::G)=_
      rw [List.flatMap_cons,← h2,e]
      rfl
    · intro g hg
      rcases List.mem_cons.1 hg with rfl | hg
      · exact hA
      · exact h3 g hg
structure Gv (S:Nat→Pk) (mt:Int) (c:List Nat) (i:Nat) (G:List AU.Pk):Prop where
  len:G.length=c.length
  ci:c.length≤i
  up:∀ j,j+1<c.length→c.getD j 0<c.getD (j+1) 0
  lt:∀ j,j<c.length→c.getD j 0<i
  at':∀ j,j<c.length→(G.getD j AU.noPk).s=(j:Int)∧(G.getD j AU.noPk).l=(S (c.getD j 0)).l∧(G.getD j AU.noPk).q=(S (c.getD j 0)).q∧(G.getD j AU.noPk).st=(S (c.getD j 0)).st∧(G.getD j AU.noPk).L=(S (c.getD j 0)).L∧PM.fault (G.getD j AU.noPk).s (G.getD j AU.noPk).t (G.getD j AU.noPk).l (G.getD j AU.noPk).q (G.getD j AU.noPk).L.length=0
  lay:∀ j,j<c.length→(S (c.getD j 0)).l≤mt∧((S (c.getD j 0)).st=true∨(0<j∧(S (c.getD (j - 1) 0)).l=(S (c.getD j 0)).l))
theorem gv_of {S:Nat→Pk} {tt mt:Int} {q i:Nat} {c:List Nat} {x:Sb} (h:HV S tt mt q i c x) {G:List AU.Pk} (hG:G.map (fun g=>(⟨g.s,g.t,g.l,g.q,g.st,g.L⟩:Pk))=x.got):Gv S mt c i G:=by
  have hl:G.length=c.length:=by rw [← h.len,← hG,List.length_map]
  refine ⟨hl,h.ci,h.up,h.lt,fun j hj=>?_,h.lay⟩
  obtain ⟨g,e1,e2,e3,e4,e5,e6,e7⟩:=h.got j hj
  rw [← hG,List.getElem?_map] at e1
  have hj':j<G.length:=by omega
  rw [List.getElem?_eq_getElem hj',Option.map_some,Option.some.injEq] at e1
  have e0:G.getD j AU.noPk=G[j]:=by rw [List.getD_eq_getElem?_getD,List.getElem?_eq_getElem hj'];rfl
  rw [e0]
  subst e1
  exact ⟨e2,e3,e4,e5,e6,e7⟩
def H3 (w W:World) (b:Nat) (bs:List Nat):Prop:=∃ N x,OneR w W b N bs∧N.sb=[(1,x)]∧x.got=[]∧N.ls=1∧0≤x.mo∧x.mo≤3
theorem oneR_gave {w W w':World} {b:Nat} {N':Nd} {bs:List Nat} {o:Nat→Tg} {lv:Value} {G:List Pk} (k2:∀ k,k<w.heap.size→(o k).n=0) (k3:Below w.heap.size w W) (k4:∀ k∈bs,(o k).n=2000∧k<W.heap.size) (hg:Gave W w' o 1 b N' lv G):OneR w w' b N' bs∧Stay bs W w'∧∃ o',GotAt w' o' lv G:=by
  obtain ⟨o',P',q1,q2,q3,q4,q5⟩:=hg
  refine ⟨⟨o',P',q1,fun k hk=>?_,below_chg k3 k3.size q5 (fun k hk=>by rw [k2 k hk];omega),fun k hk=>⟨?_,Nat.lt_of_lt_of_le (k4 k hk).2 q5.size⟩⟩,stay_chg k4 q5,o',q2⟩
  · rcases q4 k with e | ⟨e,_⟩
    · rw [e];exact k2 k hk
    · have:=k2 k hk;omega
  · rcases q4 k with e | ⟨e,_⟩
    · rw [e];exact (k4 k hk).1
    · have:=(k4 k hk).1;omega
theorem H2.got {w W:World} {b:Nat} {S:Nat→Pk} {tt mt:Int} {kk q i:Nat} {c bs:List Nat} (h:H2 w W b S tt mt kk q i c bs) (hm:0≤mt∧mt≤3) (hi:i≤60) :
    Calls Tryz.prog 9 #[.pointer (some ⟨b,0,none⟩),.int .i64 1] W fun e w'=>∃ a cp G,e=.returned (.tuple #[.slice a c.length cp,.nilIface])∧Audit.PArg w' a c.length G∧Gv S mt c i G∧Stay bs W w'∧H3 w w' b bs:=by
  obtain ⟨N,t,x,⟨o,P,k1,k2,k3,k4⟩,h2⟩:=h
  have hxm:0≤x.mo∧x.mo≤3:=by rw [h2.hv.mo];exact hm
  refine (got_calls 1 b o P N 1 x [] [] W (by omega) k1 h2.sb (by rw [h2.sb,h2.ls];exact sinv_one hxm)).mono ?_
  rintro e w' ⟨a,cp,rfl,hg⟩
  obtain ⟨z1,z2,o',X,x1,x2,x3⟩:=oneR_gave k2 k3 k4 hg
  obtain ⟨G,g1,g2,g3,g4⟩:=got_rows X x3
  rw [x1] at g4
  have hv:=gv_of h2.hv g4
  rw [← g2] at x2
  have hlen:=h2.hv.len
  have hci:=h2.hv.ci
  obtain ⟨a', cap', e', hP, _⟩ := Audit.own_pks x2 g1 (by have : X.length = x.got.length := by rw [← x1, List.length_map]
                                                          omega) g3
  have hXl:X.length=c.length:=by rw [← hlen,← x1,List.length_map]
  rw [hXl] at hP
  simp only [Value.slice.injEq] at e'
  obtain ⟨rfl,_,rfl⟩:=e'
  rw [hlen]
  exact ⟨_,_,G,rfl,hP,hv,z2,_,{ x with got:=[] },z1,rfl,rfl,h2.ls,hxm⟩
theorem H3.below {w W W':World} {b:Nat} {bs:List Nat} (h:H3 w W b bs) (hb:Below W.heap.size W W'):H3 w W' b bs:=by
  obtain ⟨N,x,h1,h2⟩:=h
  exact ⟨N,x,(h1.below hb).1,h2⟩
theorem H3.bel {w W:World} {b:Nat} {bs:List Nat} (h:H3 w W b bs):Below w.heap.size w W:=by
  obtain ⟨N,x,h1,h2⟩:=h
  exact h1.bel
theorem H3.got {w W:World} {b:Nat} {bs:List Nat} (h:H3 w W b bs) :
    Calls Tryz.prog 9 #[.pointer (some ⟨b,0,none⟩),.int .i64 1] W fun e w'=>∃ a cp,e=.returned (.tuple #[.slice a 0 cp,.nilIface])∧H3 w w' b bs:=by
  obtain ⟨N,x,⟨o,P,k1,k2,k3,k4⟩,e1,e2,e3,e4⟩:=h
  have C:=got_calls 1 b o P N 1 x [] [] W (by omega) k1 e1 (by rw [e1,e3];exact sinv_one e4)
  rw [e2] at C
  refine C.mono ?_
  rintro e w' ⟨a,cp,rfl,hg⟩
  obtain ⟨z1,z2,_⟩:=oneR_gave k2 k3 k4 hg
  exact ⟨_,_,rfl,_,{ x with got:=[] },z1,rfl,rfl,e3,e4⟩
def H4 (w W:World) (b:Nat) (bs:List Nat):Prop:=∃ N,OneR w W b N bs∧N.sb=[]
theorem H3.unsub {w W:World} {b:Nat} {bs:List Nat} (h:H3 w W b bs) :
    Calls Tryz.prog 13 #[.pointer (some ⟨b,0,none⟩),.int .i64 1] W fun e w'=>e=.returned .nilIface∧H4 w w' b bs:=by
  obtain ⟨N,x,⟨o,P,k1,k2,k3,k4⟩,e1,e2,e3,e4⟩:=h
  refine (unsub_calls 1 b o P N 1 W (by omega) k1 (by rw [e1];simp [ids]) (by rw [e1,e3];exact sinv_one e4)).mono ?_
  rintro e w' ⟨rfl,hd⟩
  obtain ⟨z1,z2⟩:=OneR.done k2 k3 k4 hd
  refine ⟨rfl,_,z1,?_⟩
  show (N.sb.filter fun y=>decide (y.1≠1))=[]
  rw [e1]
  rfl
theorem H4.unsub {w W:World} {b:Nat} {bs:List Nat} (h:H4 w W b bs) :
    Calls Tryz.prog 13 #[.pointer (some ⟨b,0,none⟩),.int .i64 1] W fun e w'=>e=.returned (errv 5)∧Below w.heap.size w w':=by
  obtain ⟨N,⟨o,P,k1,k2,k3,k4⟩,e1⟩:=h
  refine (unsub_none 1 b o P N 1 W k1 (by rw [e1];simp [ids]) (by decide)).mono ?_
  rintro e w' ⟨rfl,rfl⟩
  exact ⟨rfl,k3⟩
def nq (X:List AU.Pk) (j:Nat):AU.Pk:={ X.getD j AU.noPk with s:=(j:Int) }
def nS (X:List AU.Pk) (j:Nat):Pk:=⟨(j:Int),(X.getD j AU.noPk).t,(X.getD j AU.noPk).l,(X.getD j AU.noPk).q,(X.getD j AU.noPk).st,(X.getD j AU.noPk).L⟩
def nL (X:List AU.Pk) (i:Nat):List AU.Pk:=(List.range i).map (nq X)
theorem nL_len (X:List AU.Pk) (i:Nat):(nL X i).length=i:=by simp [nL]
theorem nL_at (X:List AU.Pk) {i j:Nat} (h:j<i):(nL X i).getD j AU.noPk=nq X j:=by
  unfold nL
  rw [List.getD_eq_getElem?_getD,List.getElem?_map,List.getElem?_range h]
  rfl
theorem nL_succ (X:List AU.Pk) (i:Nat):nL X (i+1)=nL X i++[nq X i]:=by simp [nL,List.range_succ]
theorem gv_check {X:List AU.Pk} {mt:Int} {c:List Nat} {i:Nat} {G:List AU.Pk} (h:Gv (nS X) mt c i G) (hi:i≤60) (a:Option Addr) (cap:Nat) (a2:Option Addr) (cap2:Nat) (W:World) (hS:Audit.PArg W a i (nL X i)) (hc:i≤cap) (hN:a=none→cap=0) (hG:Audit.PArg W a2 c.length G) :
    Calls Tryz.prog 11 #[.slice a i cap,.slice a2 c.length cap2] W fun e w'=>e=.returned (.tuple #[.int .i64 0,.nilIface])∧Below W.heap.size W w':=by
  have hl:=h.len
  have hci:=h.ci
  have hst:AU.Stop (nL X i) G G.length:=by
    refine AU.stop_of (c:=fun j=>c.getD j 0) (fun j hj=>?_) (fun j hj=>h.up j (by omega))
    have hlt:=h.lt j (by omega)
    obtain ⟨_,e1,e2,e3,e4,_⟩:=h.at' j (by omega)
    refine ⟨by rw [nL_len];exact hlt,?_⟩
    rw [nL_at X hlt]
    exact AU.like_iff.2 ⟨e1,e2,e3,e4⟩
  have hf:AU.cfault (nL X i) G G.length=0:=AU.cfault_ok (by rw [nL_len];omega) (by omega)
  have hat:AU.cat (nL X i) G G.length=0:=by unfold AU.cat;rw [hf];rfl
  have C:=Audit.check_calls a i cap (nL X i) a2 c.length cap2 G G.length W hS hc hN hG hst
  rw [hf,hat] at C
  exact C
theorem gv_row {S:Nat→Pk} {mt:Int} {c:List Nat} {i:Nat} {G:List AU.Pk} (h:Gv S mt c i G) (hi:i≤60) (a:Option Addr) (cap:Nat) (W:World) (hG:Audit.PArg W a c.length G) :
    Calls Tryz.prog 12 #[.slice a c.length cap] W fun e w'=>e=.returned (.tuple #[.int .i64 0,.nilIface])∧Below W.heap.size W w':=by
  have hl:=h.len
  have hci:=h.ci
  have hst:AU.RStop G G.length:=AU.rstop_all fun j hj=>by
    obtain ⟨e0,_,_,_,_,ef⟩:=h.at' j (by omega)
    obtain ⟨b,o,_,_,hok⟩:=hG.2.2 j (by omega)
    have hpf:AU.pf (G.getD j AU.noPk)=0:=by
      have hm:=hok.2.1
      unfold AU.pf
      rw [← hm]
      exact ef
    unfold AU.rfa
    rw [if_neg (by rw [hpf];simp)]
    by_cases hj0:0<j
    · obtain ⟨e0',_⟩:=h.at' (j - 1) (by omega)
      rw [if_neg (by rw [e0,e0'];omega)]
    · rw [if_neg (by omega)]
  have hf:AU.rowf G G.length=0:=by unfold AU.rowf;rw [if_neg (by omega),if_neg (by omega)]
  have hat:AU.rat G G.length=0:=by unfold AU.rat;rw [if_neg (by omega),if_neg (by omega)]
  have C:=Audit.row_calls a c.length cap G G.length W hG hst
  rw [hf,hat] at C
  exact C
def p51:Nat→Pk:=fun _=>⟨5,5,1,0,true,[5,0]⟩
theorem packet51 (w:World) :
    Calls Tryz.prog 8 #[.int .i64 5,.int .i64 1] w fun e w'=>∃ g,e=.returned (.agg #[.int .i64 5,.int .i64 5,.int .i64 1,.int .i64 0,.bool true,.slice (some ⟨g,0,none⟩) 2 2])∧Arg w' (some ⟨g,0,none⟩) 2 [5,0]∧w.heap.size≤g∧Below w.heap.size w w':=by
  go_enter Tryz.func8,Tryz.ntmps8
  go_wp2_with fail
  have hc:=heap_alloc_new (w.alloc (.cells #[.int .i64 5,.int .i64 5,.int .i64 1,.int .i64 0,.bool true,.slice (some ⟨w.heap.size+1,0,none⟩) 2 2] 34)) (.cells #[.int .u8 5,.int .u8 0] 5)
  simp only [World.size_alloc] at hc
  have hbx:=(Pack.Box.new w 5 5 1 0 true (.slice (some ⟨w.heap.size+1,0,none⟩) 2 2)).alloc (.cells #[.int .u8 5,.int .u8 0] 5)
  have hbl:Below w.heap.size w ((w.alloc (.cells #[.int .i64 5,.int .i64 5,.int .i64 1,.int .i64 0,.bool true,.slice (some ⟨w.heap.size+1,0,none⟩) 2 2] 34)).alloc (.cells #[.int .u8 5,.int .u8 0] 5)):=((Below.refl _ _).alloc (Nat.le_refl _) _).alloc (by simp) _
  obtain ⟨W2,hW2⟩:∃ W2,(w.alloc (.cells #[.int .i64 5,.int .i64 5,.int .i64 1,.int .i64 0,.bool true,.slice (some ⟨w.heap.size+1,0,none⟩) 2 2] 34)).alloc (.cells #[.int .u8 5,.int .u8 0] 5)=W2:=⟨_,rfl⟩
  rw [hW2] at hc hbl hbx
  rw [hW2]
  refine bodyPost_ret (Pack.res_pk1 (g:=w.heap.size) rfl rfl hbx) rfl ?_
  refine ⟨w.heap.size+1,rfl,⟨⟨by decide,fun j hj=>⟨w.heap.size+1,0,rfl,?_⟩⟩,rfl,by omega⟩,by omega,hbl⟩
  have hj2:j<2:=hj
  rcases (by omega:j=0∨j=1) with rfl | rfl
  · simp [World.cell?,hc]
  · simp [World.cell?,hc]
theorem fact_send {w W0 W:World} {b g:Nat} (h:H2 w W0 b p51 1 1 0 5 0 [] []) (hb:Below W0.heap.size W0 W) (hA:Arg W (some ⟨g,0,none⟩) 2 [5,0]) (hg:W0.heap.size≤g) :
    Calls Tryz.prog 7 #[.pointer (some ⟨b,0,none⟩),.int .i64 1,.agg #[.int .i64 5,.int .i64 5,.int .i64 1,.int .i64 0,.bool true,.slice (some ⟨g,0,none⟩) 2 2],.int .i64 0] W fun e w'=>e=.returned .nilIface∧H2 w w' b p51 1 1 0 5 1 [0] []:=by
  refine (h.send hb (by omega) rfl ⟨by omega,by omega⟩ (by omega) (by omega) rfl (by decide) (some ⟨g,0,none⟩) 2 2 hA (fun e=>by cases e) (fun _ ad e=>by cases e;exact .inr hg)).mono ?_
  rintro e w' ⟨rfl,_,c',hc,h2⟩
  rw [hc rfl (by show (1:Int)≤1;omega) rfl] at h2
  exact ⟨rfl,h2⟩
theorem fact_got {w W:World} {b:Nat} (h:H2 w W b p51 1 1 0 5 1 [0] []) :
    Calls Tryz.prog 9 #[.pointer (some ⟨b,0,none⟩),.int .i64 1] W fun e w'=>∃ gb go cp t ba bo m cc,e=.returned (.tuple #[.slice (some ⟨gb,go,none⟩) 1 cp,.nilIface])∧w'.cell? ⟨gb,go,none⟩=some (.int .i64 0)∧w'.cell? ⟨gb,go+1,none⟩=some t∧w'.cell? ⟨gb,go+5,none⟩=some (.slice (some ⟨ba,bo,none⟩) m cc)∧0<m∧w'.cell? ⟨ba,bo,none⟩=some (.int .u8 5)∧Below w.heap.size w w':=by
  refine (h.got ⟨by omega,by omega⟩ (by omega)).mono ?_
  rintro e w' ⟨a,cp,G,rfl,hP,hv,_,h3⟩
  obtain ⟨b',o',rfl,hat,hok⟩:=hP.2.2 0 (by decide)
  obtain ⟨e0,_,_,_,eL,_⟩:=hv.at' 0 (by decide)
  obtain ⟨i0,i1,i2,i3,i4,i5⟩:=hat
  rw [e0] at i0
  have eL':(G.getD 0 AU.noPk).L=[5,0]:=eL
  unfold Audit.PkOk at hok
  rw [eL'] at hok
  obtain ⟨ba,bo,ea,hc⟩:=hok.1.2 0 (by decide)
  rw [ea] at i5
  have hm:=hok.2.1
  rw [Nat.zero_mul,Nat.add_zero] at i0 i1 i5
  exact ⟨b',o',cp,_,ba,bo,_,_,rfl,i0,i1,i5,by rw [← hm];decide,hc,h3.bel⟩
structure HL (w W:World) (b:Nat) (X:List AU.Pk) (mt:Int) (i j:Nat) (sv:Value):Prop where
  h2:∃ c bs,H2 w W b (nS X) 2 mt 1 0 i c bs∧∀ k∈sv.ownBlock.toList,k∈bs
  own:W.ownsRow w.heap.size 34 6 sv j (Audit.flat (nL X j))
theorem own_stay {W W':World} {base e size n:Nat} {v:Value} {xs:List Value} (h:W.ownsRow base e size v n xs) (hs:∀ k∈v.ownBlock.toList,W'.heap[k]?=W.heap[k]?):W'.ownsRow base e size v n xs:=by
  refine ⟨h.1,?_⟩
  rcases h.2 with h0 | ⟨g,cap,cur,rfl,h1,h2,h3⟩
  · exact .inl h0
  · exact .inr ⟨g,cap,cur,rfl,h1,(hs g (by simp [Value.ownBlock])).trans h2,h3⟩
theorem HL.bel {w W:World} {b:Nat} {X:List AU.Pk} {mt:Int} {i j:Nat} {sv:Value} (h:HL w W b X mt i j sv):Below w.heap.size w W:=by
  obtain ⟨c,bs,h1,_⟩:=h.h2
  exact h1.bel
theorem HL.start {w W:World} {b:Nat} {X:List AU.Pk} {mt:Int} (h:H2 w W b (nS X) 2 mt 1 0 0 [] []):HL w W b X mt 0 0 (.slice none 0 0):=
  ⟨⟨[],[],h,by simp [Value.ownBlock]⟩,World.ownsRow_nil _ _ _ _⟩
theorem HL.below {w W W':World} {b:Nat} {X:List AU.Pk} {mt:Int} {i j:Nat} {sv:Value} (h:HL w W b X mt i j sv) (hb:Below W.heap.size W W'):HL w W' b X mt i j sv:=by
  obtain ⟨c,bs,h1,h2⟩:=h.h2
  exact ⟨⟨c,bs,h1.below hb,h2⟩,(Only.of_below hb []).owns h.own (by simp)⟩
theorem HL.send {w W0 W:World} {b:Nat} {X:List AU.Pk} {mt:Int} {i:Nat} {sv:Value} (h:HL w W0 b X mt i i sv) (hm:0≤mt∧mt≤3) (hi:i<60) (O:Obj) (hW:W0.alloc O=W)
    (hok:Audit.PkOk w (X.getD i AU.noPk)) (hno:(X.getD i AU.noPk).a=none→(X.getD i AU.noPk).m=0∧(X.getD i AU.noPk).c=0) (hf:PM.fault (i:Int) (X.getD i AU.noPk).t (X.getD i AU.noPk).l (X.getD i AU.noPk).q (X.getD i AU.noPk).m=0) :
    Calls Tryz.prog 7 #[.pointer (some ⟨b,0,none⟩),.int .i64 2,.agg #[.int .i64 (i:Int),.int .i64 (X.getD i AU.noPk).t,.int .i64 (X.getD i AU.noPk).l,.int .i64 (X.getD i AU.noPk).q,.bool (X.getD i AU.noPk).st,.slice (X.getD i AU.noPk).a (X.getD i AU.noPk).m (X.getD i AU.noPk).c],.int .i64 (i:Int)] W fun e w'=>e=.returned .nilIface∧w'.heap[W0.heap.size]?=W.heap[W0.heap.size]?∧HL w w' b X mt (i+1) i sv:=by
  obtain ⟨c,bs,h1,h2⟩:=h.h2
  have hbel:=h1.bel
  have hb0:Below W0.heap.size W0 W:=by rw [← hW];exact (Below.refl _ _).alloc (Nat.le_refl _) _
  have hz:W.heap.size=W0.heap.size+1:=by rw [← hW];simp
  have h3:=h1.own (Only.of_below hb0 []) (by simp) (Nob.nil _) [W0.heap.size] (by intro k hk;simp at hk;omega)
  have hml:(X.getD i AU.noPk).L.length=(X.getD i AU.noPk).m:=hok.2.1
  refine (h3.send (Below.refl _ _) (by omega) (by rfl) hm (by omega) hi (by show (i:Int)=((0+i:Nat):Int);omega) (by show PM.fault (i:Int) (X.getD i AU.noPk).t (X.getD i AU.noPk).l (X.getD i AU.noPk).q (X.getD i AU.noPk).L.length=0;rw [hml];exact hf) (X.getD i AU.noPk).a (X.getD i AU.noPk).m (X.getD i AU.noPk).c (hok.below (hbel.trans (hb0.mono hbel.size))) hno ?_).mono ?_
  · intro hm ad e
    obtain ⟨b',o',e',hc⟩:=hok.1.2 0 (by omega)
    rw [e] at e'
    cases e'
    exact .inl (World.block_lt_of_cell? w ⟨b',o'+0,none⟩ hc)
  · rintro e w' ⟨rfl,hst,c',_,h4⟩
    refine ⟨rfl,hst _ (by simp),⟨c',_,h4,fun k hk=>List.mem_append.2 (.inl (h2 k hk))⟩,?_⟩
    exact own_stay ((Only.of_below hb0 []).owns h.own (by simp)) (fun k hk=>hst k (List.mem_append.2 (.inl (h2 k hk))))
theorem HL.bad {w W0 W:World} {b:Nat} {X:List AU.Pk} {mt:Int} {i:Nat} {sv:Value} (h:HL w W0 b X mt i i sv) (hi:i<60) (hb:Below W0.heap.size W0 W) (s t l q:Int) (st:Bool) (a:Option Addr) (m cap:Nat) (hf:PM.fault s t l q m≠0) :
    Calls Tryz.prog 7 #[.pointer (some ⟨b,0,none⟩),.int .i64 2,.agg #[.int .i64 s,.int .i64 t,.int .i64 l,.int .i64 q,.bool st,.slice a m cap],.int .i64 (i:Int)] W fun e w'=>∃ f,e=.returned (errv f)∧0<f∧(∀ k,k<W.heap.size→w'.heap[k]?=W.heap[k]?)∧Below w.heap.size w w':=by
  obtain ⟨c,bs,h1,h2⟩:=h.h2
  have hz:=h1.bel
  refine (h1.bad hb (by omega) (by rfl) hi s t l q st a m cap hf).mono ?_
  rintro e w' ⟨f,rfl,h0,hbl⟩
  exact ⟨f,rfl,h0,fun k hk=>hbl.block k hk,hz.trans ((hb.trans (hbl.mono hb.size)).mono hz.size)⟩
theorem HL.add {w W W1:World} {b:Nat} {X:List AU.Pk} {mt:Int} {i:Nat} {sv:Value} (h:HL w W b X mt (i+1) i sv) {O:Obj} {g cap:Nat}
    (hown:W1.ownsRow w.heap.size 34 6 (.slice (some ⟨g,0,none⟩) (i+1) cap) (i+1) (Audit.flat (nL X i)++Audit.pc (nq X i))) (hg:(W.alloc O).grownBy W1 sv.ownBlock) (hl:sv.ownBlock=some g∨g=W.heap.size+1) (hlt:g<W1.heap.size):HL w W1 b X mt (i+1) (i+1) (.slice (some ⟨g,0,none⟩) (i+1) cap):=by
  obtain ⟨c,bs,h1,h2⟩:=h.h2
  have ho:Only sv.ownBlock.toList W W1:=(((Only.refl _ W).alloc _).grown hg (fun k e=>by simp [e]))
  have hn:Nob W sv.ownBlock.toList:=by
    rcases h.own.2 with ⟨rfl,_⟩ | ⟨g',cap',cur,rfl,_,hb,_⟩
    · exact Nob.nil _
    · intro k hk
      simp [Value.ownBlock] at hk
      subst hk
      exact nobAt_cells hb (by decide)
  have hrow:W1.ownsRow w.heap.size 34 6 (.slice (some ⟨g,0,none⟩) (i+1) cap) (i+1) (Audit.flat (nL X (i+1))):=by
    rw [nL_succ]
    have e:Audit.flat (nL X i++[nq X i])=Audit.flat (nL X i)++Audit.pc (nq X i):=by simp [Audit.flat]
    rw [e]
    exact hown
  rcases hl with e | e
  · refine ⟨⟨c,bs++[],h1.own ho h2 hn [] (by simp),fun k hk=>?_⟩,hrow⟩
    simp [Value.ownBlock] at hk
    subst hk
    rw [List.append_nil]
    exact h2 _ (by simp [e])
  · refine ⟨⟨c,bs++[g],h1.own ho h2 hn [g] (fun k hk=>?_),fun k hk=>?_⟩,hrow⟩
    · simp at hk
      subst hk
      omega
    · simp [Value.ownBlock] at hk
      subst hk
      simp
theorem HL.got {w W:World} {b:Nat} {X:List AU.Pk} {mt:Int} {i:Nat} {sv:Value} (h:HL w W b X mt i i sv) (hm:0≤mt∧mt≤3) (hi:i≤60) (hok:∀ j,j<i→Audit.PkOk w (X.getD j AU.noPk)) :
    Calls Tryz.prog 9 #[.pointer (some ⟨b,0,none⟩),.int .i64 1] W fun e w'=>∃ a n cp G c bs sa sc,e=.returned (.tuple #[.slice a n cp,.nilIface])∧n=c.length∧Audit.PArg w' a c.length G∧Gv (nS X) mt c i G∧H3 w w' b bs∧sv=.slice sa i sc∧i≤sc∧(sa=none→sc=0)∧Audit.PArg w' sa i (nL X i):=by
  obtain ⟨c,bs,h1,h2⟩:=h.h2
  refine (h1.got hm hi).mono ?_
  rintro e w' ⟨a,cp,G,rfl,hP,hv,hst,h3⟩
  have hbel:=h3.bel
  have hown:=own_stay h.own (fun k hk=>hst k (h2 k hk))
  obtain ⟨sa,sc,e,hS,hc,hN⟩:=Audit.own_pks hown (nL_len X i) (by omega) (by
    intro p hp
    unfold nL at hp
    obtain ⟨j,hj,rfl⟩:=List.mem_map.1 hp
    exact (hok j (by simpa using hj)).below hbel)
  exact ⟨a,_,cp,G,c,bs,sa,sc,rfl,rfl,hP,hv,h3,e,hc,hN,hS⟩
end Go.Proofs.YtigibpcpnkdmcaaGreatDoor.ND
