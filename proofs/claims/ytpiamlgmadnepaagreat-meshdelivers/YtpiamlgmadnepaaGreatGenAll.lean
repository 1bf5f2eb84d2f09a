/-
 What the proof needs.
-/
import Derived.Lib.SliceRun
import Derived.Test.YtpiamlgmadnepaaGreatSubAll
import Derived.Test.YtpiamlgmadnepaaGreatNRepAll
open Go.Proofs.Tryz
set_option linter.unusedVariables false
set_option maxHeartbeats 2000000
set_option maxRecDepth 100000
namespace Go.Proofs.YtpiamlgmadnepaaGreat.ND
open ChangeShapes WideShapes ChangeAt RowKit Maps Mem NO
variable {ft:Int->Int}{tk now nw nw' y:Int}{X:List Int}{j rb cap i n k:Nat}{w wr:World}{g:Int->Nat}{s:Sb}{p:Pk}{t a:Tr}{N:Nd}{f:Sb->Sb}{l:List (Int×Sb)}
theorem ξ3l(sb b1:Nat)(ts tk:Int)(w:World)(h0:w.cell? ⟨sb,0,none⟩=some (.int .i64 ts))(h1:w.cell? ⟨b1,0,none⟩=some (.int .i64 tk)) :
 Calls prog 166 #[.pointer (some ⟨sb,0,none⟩),.pointer (some ⟨b1,0,none⟩)] w λe w'=>e=.returned (.bool (ts != tk))/\∃k,w'=w.drewN k:=by
 go_enter func166,ntmps166;go_wp2_with fail
 go_quiet (fail)
 go_wp2_with fail
 go_ret;exact⟨rfl,_,rfl⟩
def A9h(ft:Int->Int)(tk:Int)(X:List Int)(e:Ending):Prop:=(e=.returned (.int .i64 (-1))/\∀x∈X,ft x=tk)∨∃i:Nat,e=.returned (.int .i64 (i:Int))/\i<X.length/\ft (X.getD i 0)≠tk/\∀k,k<i->ft (X.getD k 0)=tk
theorem ξdw(a:Option Addr)(nn cap b1:Nat)(g:Int->Nat)(X:List Int)(ft:Int->Int)(tk:Int)(w:World)(hl:X.length=nn)(hn:nn<=1000)(h:A04 w a g X)(h1:w.cell? ⟨b1,0,none⟩=some (.int .i64 tk))(ht:∀x∈X,w.cell? ⟨g x,0,none⟩=some (.int .i64 (ft x))) :
 Calls prog 196 #[.slice a nn cap,.func (.func 166) #[] #[.pointer (some ⟨b1,0,none⟩)]] w λe w'=>A9h ft tk X e/\∃k,w'=w.drewN k:=by
 have HA:=ξ0 h;have H1:=ξ0 h1;have HT:=ξ0 ht;have HL:=ξ0 hl;clear h h1 ht hl;go_enter func196,ntmps196;go_wp2_with fail
 go_loopg [8] nn (λgh x wr=>∃j:Nat,j+gh=nn/\x=.int .i64 (j:Int)/\Hid (∃k,wr=w.drewN k)/\Hid (∀k,k<j->ft (X.getD k 0)=tk))
 case atStart=>exact⟨0,by omega,rfl,ξ0 ⟨0,rfl⟩,ξ0 (λk hk=>by omega)⟩
 case round=>
  obtain⟨j,aA,rfl,HW,ah⟩:=hrel;by_cases hj:j<nn
  ·have az:(j:Int)<(nn:Int):=by omega
   have ae:j<X.length:=by rw[HL.out];exact hj
   obtain⟨b,rfl,ax⟩:=HA.out.at (by omega);have ai:X.getD j 0∈X:=by rw[Ξa,Ξd ae];exact List.getElem_mem ae
   obtain⟨sb,aq⟩:=nm (g (X.getD j 0));obtain⟨ts,au⟩:=nm (ft (X.getD j 0));have c0:wr.cell? ⟨b,j,none⟩=some (.pointer (some ⟨sb,0,none⟩)):=by obtain⟨k,rfl⟩:=HW.out;rw[<-aq];exact ax j ae
   have C:=ξ0 (ξ3l sb b1 ts tk wr (by obtain⟨k,rfl⟩:=HW.out;rw[<-aq,<-au];exact HT.out _ ai) (by obtain⟨k,rfl⟩:=HW.out;exact H1.out));have ay:=ξ0 au;clear ax ai aq au;have aw:=ξ0 ae;clear ae;by_cases hq:ts=tk
   ·have aj:(ts != tk)=false:=by simp[hq]
    rw[aj]at C;have HQ:=ξ0 hq;clear hq aj;go_wp2_with fail;refine C.out.mono ?_;rintro e w1 ⟨rfl,k1,am⟩;have HN:Hid (∃k,w1=w.drewN k):=by
     obtain⟨k,hk⟩:=HW.out;refine⟨k+k1,?_⟩;rw[am,hk,World.drewN_drewN]
    clear am;go_wp2_with fail;go_roundg (nn-(j+1))
    case measure=>omega
    case rel=>exact⟨j+1,by omega,by go_num,HN,ξ0 (λk hk=>by
     by_cases c:k<j
     ·exact ah.out k c
     ·obtain rfl:k=j:=by omega
      exact ay.out.trans HQ.out)⟩
   ·have aj:(ts != tk)=true:=by simp[hq]
    rw[aj]at C;have HQ:=ξ0 hq;clear hq aj;go_wp2_with fail;refine C.out.mono ?_;rintro e w1 ⟨rfl,k1,am⟩;have HN:Hid (∃k,w1=w.drewN k):=by
     obtain⟨k,hk⟩:=HW.out;refine⟨k+k1,?_⟩;rw[am,hk,World.drewN_drewN]
    clear am;go_wp2_with fail;go_ret;exact⟨.inr ⟨j,rfl,aw.out,by rw[ay.out];exact HQ.out,ah.out⟩,HN.out⟩
  ·have az:¬(j:Int)<(nn:Int):=by omega
   obtain rfl:nn=j:=by omega
   go_wp2_with fail
   go_ret;refine⟨.inl ⟨rfl,?_⟩,HW.out⟩;intro x hx;obtain⟨k,hk,rfl⟩:=List.mem_iff_getElem.1 hx;have:=ah.out k (by have:=HL.out;omega);rwa [Ξa,Ξd hk]at this
def fil(ft:Int->Int)(tk:Int)(X:List Int):List Int:=X.filter λx=>decide (ft x=tk)
theorem ξ4j(hj:j<X.length):fil ft tk (X.take (j+1))=if ft (X.getD j 0)=tk then fil ft tk (X.take j)++[X.getD j 0]else fil ft tk (X.take j):=by
 have e:X.take (j+1)=X.take j++[X.getD j 0]:=by
  rw[Ξa,Ξd hj,Option.getD_some,List.take_append_getElem hj]
 unfold fil;obtain⟨x,hx⟩:=nm (X.getD j 0);rw[hx]at e ⊢;rw[e,List.filter_append];split
 ·rename_i h;simp[h]
 ·rename_i h;simp[h]
structure A20(w wr:World)(rb cap:Nat)(g:Int->Nat)(ft:Int->Int)(tk:Int)(X:List Int)(i j:Nat):Prop where
 lt:i<j
 le:j<=X.length
 len:(fil ft tk (X.take j)).length=i
 blk:∃cur,wr.heap[rb]?=some (.cells cur 160 (0,0))/\cur.size=cap/\(∀k,k<i->cur[k]?=some (.pointer (some ⟨g ((fil ft tk (X.take j)).getD k 0),0,none⟩)))/\∀k,j<=k->k<X.length->cur[k]?=some (.pointer (some ⟨g (X.getD k 0),0,none⟩))
 only:Only [rb] w wr
theorem A20.drew(h:A20 w wr rb cap g ft tk X i j)(q:Nat):A20 w (wr.drewN q) rb cap g ft tk X i j:=⟨h.lt,h.le,h.len,h.blk,h.only⟩
theorem A20.cell(h:A20 w wr rb cap g ft tk X i j)(hc:X.length<=cap):(j<X.length->wr.cell? ⟨rb,j,none⟩=some (.pointer (some ⟨g (X.getD j 0),0,none⟩)))/\(∀k,k<cap->(wr.cell? ⟨rb,k,none⟩).isSome=true)/\∀k,wr.frozen? ⟨rb,k,none⟩=false:=by
 obtain⟨cur,h1,h2,h3,h4⟩:=h.blk;refine⟨λhj=>?_,λk hk=>?_,λk=>?_⟩
 ·simp only[World.cell?,h1];exact h4 j (Ξo _) hj
 ·simp only[World.cell?,h1];rw[Array.getElem?_eq_getElem (by omega)];rfl
 ·simp[World.frozen?,h1]
theorem A20.skip(h:A20 w wr rb cap g ft tk X i j)(hj:j<X.length)(hq:ft (X.getD j 0)≠tk):A20 w wr rb cap g ft tk X i (j+1):=by
 have e:=ξ4j (ft:=ft) (tk:=tk) hj;rw[if_neg hq]at e;obtain⟨cur,h1,h2,h3,h4⟩:=h.blk;exact⟨Nat.lt_succ_of_lt h.lt,hj,by rw[e];exact h.len,⟨cur,h1,h2,by rw[e];exact h3,λk hk=>h4 k (by omega)⟩,h.only⟩
theorem A20.take(h:A20 w wr rb cap g ft tk X i j)(hc:X.length<=cap)(hj:j<X.length)(hq:ft (X.getD j 0)=tk):A20 w (wr.setCell ⟨rb,i,none⟩ (.pointer (some ⟨g (X.getD j 0),0,none⟩))) rb cap g ft tk X (i+1) (j+1):=by
 have e:=ξ4j (ft:=ft) (tk:=tk) hj;rw[if_pos hq]at e;obtain⟨cur,h1,h2,h3,h4⟩:=h.blk;have hl:=h.lt;refine⟨Nat.succ_lt_succ h.lt,hj,by rw[e,Ξh,h.len];rfl,⟨cur.setIfInBounds i (.pointer (some ⟨g (X.getD j 0),0,none⟩)),?_,by simp[h2],?_,?_⟩,?_⟩
 ·exact heap_setCell_same wr rb i cur _ _ h1
 ·intro k hk;rw[e];by_cases c:k=i
  ·subst c;obtain⟨x,hx⟩:=nm (X.getD j 0);rw[hx,Array.getElem?_setIfInBounds_self_of_lt (by omega),Ξa,List.getElem?_append_right (by rw[h.len];exact Ξo _),h.len];simp
  ·rw[Ξc (by omega),h3 k (by omega),Ξa,Ξa,Ξt (by rw[h.len];omega)]
 ·intro k hk ae;rw[Ξc (by omega)];exact h4 k (by omega) ae
 ·exact h.only.trans (Only.setCell (Only.refl _ _) (by simp) _)
theorem ξ10{t:TypeId}(b:Nat):∀(vs:List Value) (o:Nat) (w:World) (cur:Array Value),w.heap[b]?=some (.cells cur t (0,0))->o+vs.length<=cur.size ->
 (∃cur',(w.setCells b o vs).heap[b]?=some (.cells cur' t (0,0))/\cur'.size=cur.size/\(∀k,k<o->cur'[k]?=cur[k]?)/\(∀k,o+vs.length<=k->cur'[k]?=cur[k]?)/\∀k,k<vs.length->cur'[o+k]?=vs[k]?)/\Only [b] w (w.setCells b o vs)
 | [],o,w,cur,h,hl=>⟨⟨cur,h,rfl,λ_ _=>rfl,λ_ _=>rfl,λk hk=>absurd hk (by simp)⟩,Only.refl _ _⟩
 | v::r,o,w,cur,h,hl=>by
   have ae:o+1+r.length<=cur.size:=by simp at hl;omega
   obtain⟨⟨c,h1,h2,h3,h4,h5⟩,h6⟩:=ξ10 b r (o+1) (w.setCell ⟨b,o,none⟩ v) (cur.setIfInBounds o v) (heap_setCell_same w b o cur t v h) (by simpa using ae);refine⟨⟨c,h1,by rw[h2];simp,?_,?_,?_⟩,(Only.setCell (Only.refl _ _) (by simp) _).trans h6⟩
   ·intro k hk;rw[h3 k (by omega),Ξc (by omega)]
   ·intro k hk;simp only[List.length_cons]at hk;rw[h4 k (by omega),Ξc (by omega)]
   ·intro k hk;cases k with
    | zero=>
      rw[Nat.add_zero,h3 o (by omega),Array.getElem?_setIfInBounds_self_of_lt (by omega)];rfl
    | succ k=>
      simp only[List.length_cons]at hk;rw[show o+(k+1)=o+1+k by omega,h5 k (by omega)];rfl
theorem A20.clear{nn base:Nat}(h:A20 w wr rb cap g ft tk X i nn)(hl:X.length=nn)(hc:nn<=cap)(hm:cap<=maxLen)(hb:base<=rb) :
 ∃w2,(∀ty,(Builtin.clear_ #[210] ty #[.slice (some ⟨rb,i,none⟩) (nn-i) (cap-i)]).run prog wr=.ok (.tuple #[]) w2)/\w2.ownsRow base 160 1 (.slice (some ⟨rb,0,none⟩) i cap) i (pts g (fil ft tk X))/\Only [rb] w w2:=by
 obtain⟨_,hs,ah⟩:=h.cell (by omega);obtain⟨cur,h1,h2,h3,h4⟩:=h.blk;have hi:=h.lt;obtain⟨⟨c,k1,k2,k3,k4,k5⟩,k6⟩:=ξ10 rb (List.replicate (nn-i) (Value.pointer none)) i wr cur h1 (by simp;omega);have hX:X.take nn=X:=Ξl (by omega);have ae:=h.len;rw[hX]at h3 ae;refine⟨_,λty=>Lib.run_clear_slice wr _ _ ty _ underlying210 A7l rfl rfl rb i _ _ (by omega) (λj hj=>hs _ (by omega)) (λj hj=>ah _),⟨by simp[pts,ae],.inr ⟨rb,cap,c,rfl,hb,k1,by omega,hm,by omega,?_⟩⟩,h.only.trans k6⟩;rw[Nat.mul_one];apply List.ext_getElem?;intro k;by_cases hk:k<i
 ·rw[List.getElem?_take_of_lt hk,Array.getElem?_toList,k3 k hk,h3 k hk,ξ59 g _ k (by omega)]
 ·rw[List.getElem?_take_eq_none (by omega),List.getElem?_eq_none (by rw[ξeG];omega)]
theorem ξ8S(h:∀x∈X,ft x=tk):fil ft tk X=X:=by
 unfold fil;rw[List.filter_eq_self];intro x hx;simp[h x hx]
theorem ξdT(a:Option Addr)(nn cap b1 base:Nat)(g:Int->Nat)(X:List Int)(ft:Int->Int)(tk:Int)(w:World)(hl:X.length=nn)(hn:nn<=1000)(h:w.ownsRow base 160 1 (.slice a nn cap) nn (pts g X))(h1:w.cell? ⟨b1,0,none⟩=some (.int .i64 tk))(ht:∀x∈X,w.cell? ⟨g x,0,none⟩=some (.int .i64 (ft x)))
 (aG:∀ad,a=some ad->b1≠ad.block/\∀x∈X,g x≠ad.block) :
 Calls prog 165 #[.slice a nn cap,.func (.func 166) #[] #[.pointer (some ⟨b1,0,none⟩)]] w λe w'=>∃v',e=.returned v'/\w'.ownsRow base 160 1 v' (fil ft tk X).length (pts g (fil ft tk X))/\Only (a.map (·.block)).toList w w':=by
 have hP:A04 w a g X:=by
  have h':=h;rw[<-hl]at h';obtain⟨a',aC,e,hP,_⟩:=ξ4c h';cases e;exact hP
 have C:=ξ0 (ξdw a nn cap b1 g X ft tk w hl hn hP h1 ht);have HR:=ξ0 h;have H1:=ξ0 h1;have HT:=ξ0 ht;have HL:=ξ0 hl;have HN:=ξ0 aG;clear h h1 ht hl hP aG;go_enter func165,ntmps165;go_wp2_with fail
 refine C.out.mono ?_;rintro e w1 ⟨hF,q,hq⟩;have HW:=ξ0 hq;clear hq;rcases hF with⟨rfl,hall⟩|⟨i0,rfl,hi0,hno,hyes⟩
 ·have aD:=ξ0 hall;clear hall;go_wp2_with fail;go_ret;refine⟨_,rfl,?_,?_⟩
  ·rw[ξ8S aD.out,HL.out,HW.out];exact HR.out
  ·rw[HW.out];exact Only.refl _ _
 ·have aS:i0<nn:=by rw[<-HL.out];exact hi0
  obtain⟨rb,cur,aq⟩:∃rb cur,a=some ⟨rb,0,none⟩/\base<=rb/\w.heap[rb]?=some (.cells cur 160 (0,0))/\nn<=cap/\cap<=maxLen/\cur.size=cap/\cur.toList.take nn=pts g X:=by
   rcases HR.out.2 with⟨e,h0⟩|⟨rb,aC,cur,e,k1,k2,k3,k4,k5,k6⟩
   ·omega
   ·cases e;exact⟨rb,cur,rfl,k1,k2,k3,k4,by simpa using k5,by simpa using k6⟩
  obtain⟨rfl,ai,au,ah,aw,aH,aI⟩:=aq;have aJ:A20 w w1 rb cap g ft tk X i0 (i0+1):=by
   have aZ:=HL.out;have ef:fil ft tk (X.take (i0+1))=X.take i0:=by
    rw[ξ4j hi0,if_neg hno];refine ξ8S λx hx=>?_;obtain⟨k,hk,rfl⟩:=List.mem_iff_getElem.1 hx;rw[List.length_take]at hk;have:=hyes k (by omega);rwa [Ξa,Ξd (by omega),Option.getD_some,<-List.getElem_take (h:=by rw[List.length_take];omega)]at this
   have aj:∀k,k<nn->cur[k]?=some (.pointer (some ⟨g (X.getD k 0),0,none⟩)):=by
    intro k hk;rw[<-ξ59 g X k (by omega),<-aI,List.getElem?_take_of_lt hk,Array.getElem?_toList]
   refine⟨Nat.lt_succ_self _,by omega,by rw[ef,List.length_take];omega,⟨cur,?_,aH,?_,λk _ hk=>aj k (by omega)⟩,?_⟩
   ·rw[HW.out];exact au
   ·intro k hk;rw[ef,aj k (by omega),Ξa,Ξa,List.getElem?_take_of_lt hk]
   ·rw[HW.out];exact Only.refl _ _
  have HS:=ξ0 aJ;obtain⟨aL,aM⟩:=HN.out _ rfl;have aT:=ξ0 aL;have aU:=ξ0 aM;have HB:=ξ0 ai;have HM:=ξ0 aw;clear aJ hno hyes hi0 aL aM ai aw au aH aI HW;have bh:¬((i0:Int)=-1):=by omega
  go_wp2_with fail
  go_loopg [5,6] (nn-(i0+1)) (λgh x5 x6 wr=>∃i j:Nat,j+gh=nn/\i<j/\x5=.int .i64 (i:Int)/\x6=.int .i64 (j:Int)/\Hid (A20 w wr rb cap g ft tk X i j))
  case atStart=>exact⟨i0,i0+1,by omega,by omega,rfl,by go_num,HS⟩
  case round=>
   obtain⟨i,j,bi,bj,rfl,rfl,HD⟩:=hrel;by_cases hj:j<nn
   ·have aV:(j:Int)<(nn:Int):=by omega
    have bq:(i:Int)<(nn:Int):=by omega
    have ae:j<X.length:=by rw[HL.out];exact hj
    have am:X.getD j 0∈X:=by rw[Ξa,Ξd ae];exact List.getElem_mem ae
    obtain⟨d1,d2,d3⟩:=HD.out.cell (by rw[HL.out];exact ah);have dj:=d1 ae;obtain⟨sb,ax⟩:=nm (g (X.getD j 0));obtain⟨ts,aE⟩:=nm (ft (X.getD j 0));have ho:=HD.out.only;have C:=ξ0 (ξ3l sb b1 ts tk wr (by
     have h0:=HT.out _ am;rw[aE,ax]at h0;exact(ξr (ho.2.2.2.2 sb (Ξq w ⟨sb,0,none⟩ h0) (by rw[<-ax];simpa using aU.out _ am)) _).trans h0) (by
     have h0:=H1.out;exact(ξr (ho.2.2.2.2 b1 (Ξq w ⟨b1,0,none⟩ h0) (by simpa using aT.out)) _).trans h0))
    have aO:=ξ0 aE;have ay:=ξ0 ae;rw[ax]at dj;have aW:=ξ0 ax;clear ho am aE ax d1 d2 d3 ae;go_wp2_with fail;refine C.out.mono ?_;rintro e w2 ⟨rfl,k1,aP⟩;have aF:Hid (A20 w w2 rb cap g ft tk X i j):=by
     rw[aP];exact ξ0 (HD.out.drew k1)
    clear aP dj;by_cases hq:ts=tk
    ·have az:(ts != tk)=false:=by simp[hq]
     rw[az];have HQ:=ξ0 hq;obtain⟨d1,d2,d3⟩:=aF.out.cell (by rw[HL.out];exact ah);have f1:=d3 i;obtain⟨vi,bu⟩:=Option.isSome_iff_exists.1 (d2 i (by omega));clear hq az d1 d2 d3;go_wp2_with fail;go_roundg (nn-(j+1))
     case measure=>omega
     case rel=>
      refine⟨i+1,j+1,by omega,by omega,by go_num,by go_num,ξ0 ?_⟩;have:=aF.out.take (by rw[HL.out];exact ah) ay.out (aO.out.trans HQ.out);rw[aW.out]at this;exact this
    ·have az:(ts != tk)=true:=by simp[hq]
     rw[az];have HQ:=ξ0 hq;clear hq az;go_wp2_with fail;go_roundg (nn-(j+1))
     case measure=>omega
     case rel=>exact⟨i,j+1,by omega,by omega,rfl,by go_num,ξ0 (aF.out.skip ay.out (by rw[aO.out];exact HQ.out))⟩
   ·have aV:¬(j:Int)<(nn:Int):=by omega
    obtain rfl:nn=j:=by omega
    obtain⟨w2,bz,aA,aQ⟩:=HD.out.clear HL.out ah HM.out HB.out;have ae:=HD.out.len;rw[Ξl (Nat.le_of_eq HL.out)]at ae;have HO:=ξ0 aA;have aX:=ξ0 aQ;have aY:=ξ0 ae;have b9:i<=cap:=by omega
    have bA:i<=nn:=by omega
    have aG:¬cap=i:=by omega
    clear aA aQ ae;go_wp2_with fail;go_ret;exact⟨_,rfl,by rw[aY.out];exact HO.out,aX.out⟩
theorem ξ2U(n b:Nat)(o:Nat->Tg)(P:NP)(N:Nd)(ft:Int->Int)(tk:Int)(w:World)(h:NAt w o n b P N)(hI:A2v N.sb N.ls)(hft:∀x∈N.sb,x.2.tk=ft x.1) :
 Calls prog 125 #[.pointer (some ⟨b,0,none⟩),.int .i64 tk] w λe w'=>∃a cap,e=.returned (.slice a (fil ft tk (ids N.sb)).length cap)/\A04 w' a (λx=>(P.sp x).s) (fil ft tk (ids N.sb))/\(∀ad,a=some ad->w.heap.size<=ad.block)/\Below w.heap.size w w':=by
 obtain⟨w0,aj⟩:=nm (w.alloc (.cells #[.int .i64 tk] 3));have aq:Below w.heap.size w w0:=by rw[<-aj];exact(Ξp _ _).alloc (Ξo _) _
 have az:w0.heap.size=w.heap.size+1:=by rw[<-aj];simp
 have cb:w0.cell? ⟨w.heap.size,0,none⟩=some (.int .i64 tk):=by rw[<-aj];simp
 have C:=ξ0 (ξ3i n b o P N w0 (h.below aq) hI);have HT:Hid (∀x∈ids N.sb,w0.cell? ⟨(P.sp x).s,0,none⟩=some (.int .i64 (ft x))):=by
  refine ξ0 ?_;intro x hx;obtain⟨y,hy,rfl⟩:=Ξi.1 hx;have hb:=((h.below aq).sbs y hy).1.box;rw[hft y hy]at hb;simp[World.cell?,hb]
 have hl:=ξL N.sb;have am:=hI.len;obtain⟨g,hg⟩:∃g:Int->Nat,(λx=>(P.sp x).s)=g:=⟨_,rfl⟩;have aA:∀x,(P.sp x).s=g x:=λx=>by rw[<-hg]
 rw[hg]at C;rw[hg];simp only[aA]at HT;obtain⟨X,hX⟩:=nm (ids N.sb);rw[hX]at C HT hl;rw[hX];rw[<-hl]at C am;obtain⟨nn,ax⟩:=nm X.length;rw[ax]at am;have aD:=ξ0 aq;have aE:=ξ0 cb;have HW:=ξ0 aj;have HL:=ξ0 ax;have au:=ξ0 az;clear hg aA hX hl aq cb aj h hI hft ax az;go_enter func125,ntmps125;go_wp2_with fail
 rw[HW.out];refine C.out.mono ?_;rintro e w1 ⟨v,rfl,ae,aw⟩;rw[HL.out]at ae;obtain⟨a,cap,rfl⟩:∃a cap,v=.slice a nn cap:=by
  rcases ae.2 with⟨rfl,h0⟩|⟨rb,cap,cur,e,_⟩
  ·exact⟨none,0,by rw[h0]⟩
  ·exact⟨_,_,e⟩
 have ah:∀ad,a=some ad->w0.heap.size<=ad.block:=by
  intro ad e;subst e;exact(ae.lt _ rfl).1
 have D:=ξ0 (ξdT a nn cap w.heap.size w0.heap.size g X ft tk w1 HL.out (by omega) ae (ξc aw aE.out) (λx hx=>ξc aw (HT.out x hx)) (by
  intro ad e;have:=ah ad e;have hs:=au.out;refine⟨by omega,λx hx=>?_⟩;have:=Ξq w0 ⟨g x,0,none⟩ (HT.out x hx);simp only at this;omega))
 have aF:=ξ0 ah;have aG:=ξ0 aw;clear ae aw ah;go_wp2_with fail;refine D.out.mono ?_;rintro e w2 ⟨v',rfl,ai,aC⟩;obtain⟨a',ay,rfl,hP,hf⟩:=ξ4c ai;have HP:=ξ0 hP;have HF:=ξ0 hf;have HO:=ξ0 aC;clear ai hP hf aC;go_wp2_with fail;go_ret;refine⟨a',ay,rfl,HP.out,λad e=>?_,?_⟩
 ·have:=(HF.out ad e).1;have hs:=au.out;omega
 ·have h1:Below w.heap.size w w1:=aD.out.trans ((aG.out).mono (by have:=au.out;omega));refine h1.trans ?_;refine(HO.out).below (by have:=h1.size;omega) ?_;intro k hk;cases a with
  | none=>simp at hk
  | some ad=>
    simp at hk;subst hk;have:=aF.out ad rfl;have hs:=au.out;omega
def odF(now:Int):OM.Its->Int
 | []=>-1
 | i::M=>if OM.late 10 now i=true/\odF now M<i.n then i.n else odF now M
theorem ξg1(now:Int)(M:OM.Its)(h:∀i∈M,0<=i.n):OM.Od 10 now M (odF now M):=by
 induction M with
 | nil=>exact⟨by unfold odF;omega,by simp,.inl rfl⟩
 | cons a M ih=>
   obtain⟨h1,h2,h3⟩:=ih (λi hi=>h i (by simp[hi]));have ha:=h a (by simp);by_cases c:OM.late 10 now a=true/\odF now M<a.n
   ·rw[show odF now (a::M)=a.n from if_pos c];refine⟨by omega,?_,.inr ⟨a,by simp,c.1,rfl⟩⟩;intro i hi hl;rcases Ξf.1 hi with rfl|hi
    ·omega
    ·have:=h2 i hi hl;omega
   ·rw[show odF now (a::M)=odF now M from if_neg c];refine⟨h1,?_,?_⟩
    ·intro i hi hl;rcases Ξf.1 hi with rfl|hi
     ·have:¬odF now M<i.n:=λh=>c ⟨hl,h⟩;omega
     ·exact h2 i hi hl
    ·rcases h3 with h3|⟨i,hi,h3⟩
     ·exact .inl h3
     ·exact .inr ⟨i,by simp[hi],h3⟩
def cnt(M:OM.Its)(od:Int):Nat->Int->Nat
 | 0,_=>0
 | f+1,x=>if OM.goes M od x=true then cnt M od f (x+1)+1 else 0
theorem ξdY{M:OM.Its}{od:Int}(f:Nat):∀(K:Nat) (x:Int),K<=f->OM.Stop M od x K->cnt M od f x=K:=by
 induction f with
 | zero=>intro K x hK _;unfold cnt;omega
 | succ f ih=>
   intro K x hK h;unfold cnt;cases K with
   | zero=>
     have:=h.stop;rw[show x+((0:Nat):Int)=x by omega]at this;rw[if_neg (by rw[this];simp)]
   | succ K=>
     have h0:=h.all 0 (by omega);rw[show x+((0:Nat):Int)=x by omega]at h0;have h1:OM.Stop M od (x+1) K:=by
      refine⟨λj hj=>?_,?_⟩
      ·have:=h.all (j+1) (by omega);rwa [show x+((j+1:Nat):Int)=x+1+(j:Int)by omega]at this
      ·have:=h.stop;rwa [show x+((K+1:Nat):Int)=x+1+(K:Int)by omega]at this
     rw[if_pos h0,ih K (x+1) (by omega) h1]
def Sb.A3n(s:Sb)(now:Int):Nat:=cnt s.oM (odF now s.oM) 200 s.ox
theorem ξ2o(h:OM.Inv s.on s.ox s.oM)(ht:OM.tf s.on now=0):Order.A65 10 s.on s.ox now s.oM (s.A3n now):=by
 have ho:=ξg1 now s.oM (λi hi=>(h.mem i hi).1);obtain⟨K,hK,hs⟩:=OM.ξeu h ho;have e:s.A3n now=K:=ξdY 200 K s.ox hK hs;rw[e];exact⟨hK,λ_=>⟨_,ho,hs⟩,λh=>absurd ht h⟩
def Sb.A1r(s:Sb)(now:Int):Sb:=s.pop now (s.A3n now)
def Sb.push(s:Sb)(y now:Int)(p:Pk):Sb:=(s.pushed y now p).A1r now
def Sb.gone(s:Sb)(y now:Int):Sb:={ s with on:=OM.gW s.on s.ox y now,oM:=OM.gM s.on s.ox y now s.oM }
structure A1k(nw:Int)(s:Sb):Prop where
 oi:OM.Inv s.on s.ox s.oM
 ui:UM.Inv 0 s.uk s.uT s.uo
 on:s.on<=nw
 uk:(s.uk:Int)<=s.ox+1
 gt:(s.got.length:Int)<=s.ox+1
theorem A1k.sbi(h:A1k nw s):SbI s:=⟨h.oi,h.ui⟩
theorem ξ4L(s:Sb)(i:OM.Kp):(s.item i).on=s.on/\(s.item i).ox=s.ox/\(s.item i).oM=s.oM/\(s.item i).tk=s.tk/\(s.item i).mo=s.mo/\(s.item i).uk<=s.uk+1/\(s.item i).got.length<=s.got.length+1:=by
 unfold Sb.item;split
 ·exact⟨rfl,rfl,rfl,rfl,rfl,Ξo _,by simp⟩
 ·exact⟨rfl,rfl,rfl,rfl,rfl,Nat.le_succ _,Nat.le_succ _⟩
theorem ξ4N(I:OM.Its):∀s:Sb,(I.foldl Sb.item s).on=s.on/\(I.foldl Sb.item s).ox=s.ox/\(I.foldl Sb.item s).oM=s.oM/\(I.foldl Sb.item s).tk=s.tk/\(I.foldl Sb.item s).mo=s.mo/\(I.foldl Sb.item s).uk<=s.uk+I.length/\(I.foldl Sb.item s).got.length<=s.got.length+I.length:=by
 induction I with
 | nil=>intro s;exact⟨rfl,rfl,rfl,rfl,rfl,Ξo _,Ξo _⟩
 | cons i I ih=>
   intro s;obtain⟨a1,a2,a3,a4,a5,a6,a7⟩:=ξ4L s i;obtain⟨b1,b2,b3,b4,b5,b6,b7⟩:=ih (s.item i);simp only[List.foldl_cons,List.length_cons];exact⟨b1.trans a1,b2.trans a2,b3.trans a3,b4.trans a4,b5.trans a5,by omega,by omega⟩
theorem A1k.pop(h:A1k nw s)(ht:OM.tf s.on now=0):s.uk+s.A3n now<=2199023255551/\s.got.length+s.A3n now<=2199023255551/\A1k now (s.A1r now)/\(s.A1r now).tk=s.tk/\(s.A1r now).mo=s.mo:=by
 have hm:=ξ2o h.oi ht;have hi:=Order.ξdt h.oi hm;have x2:=hi.x2;have hu:=h.uk;have hg:=h.gt;have k1:s.uk+s.A3n now<=2199023255551:=by omega
 have k2:s.got.length+s.A3n now<=2199023255551:=by omega
 obtain⟨b1,b2,b3,b4,b5,b6,b7⟩:=ξ4N (OM.takes s.oM s.ox (s.A3n now)) (s.popped now (s.A3n now));have hl:=OM.ξ5o s.oM s.ox (s.A3n now);have e1:(s.A1r now).on=now:=b1.trans (by unfold Sb.popped;exact if_pos ht);have e2:(s.A1r now).ox=s.ox+(s.A3n now:Int):=b2;refine⟨k1,k2,⟨?_,?_,?_,?_,?_⟩,b4,b5⟩
 ·rw[show(s.A1r now).on=Order.qW s.on now from b1,e2,show(s.A1r now).oM=OM.rest s.oM (s.ox+(s.A3n now:Int))from b3];exact hi
 ·exact ξ7j (s:=s.popped now (s.A3n now)) h.ui (by rw[hl];exact k1)
 ·rw[e1];exact Int.le_refl _
 ·rw[e2];have:(s.A1r now).uk<=s.uk+s.A3n now:=by rw[hl]at b6;exact b6
  omega
 ·rw[e2];have:(s.A1r now).got.length<=s.got.length+s.A3n now:=by rw[hl]at b7;exact b7
  omega
theorem A1k.mono(h:A1k nw s)(hn:nw<=nw'):A1k nw' s:=⟨h.oi,h.ui,Int.le_trans h.on hn,h.uk,h.gt⟩
theorem ξgq{nx:Int}{f:Nat}(h:-1<=nx):nx<=OM.pX nw nx y now f:=by
 unfold OM.pX;split
 ·rename_i e;obtain⟨_,h0,_⟩:=OM.ξ1B e;unfold OM.fx;split<;>omega
 ·exact Int.le_refl _
theorem A1k.pushed(h:A1k nw s)(ht:OM.tf s.on now=0):A1k now (s.pushed y now p)/\OM.tf (s.pushed y now p).on now=0:=by
 have hx:=ξgq (nw:=s.on) (y:=y) (now:=now) (f:=PM.fault p.s p.t p.l p.q p.L.length) h.oi.x1;have t':=ξ5A (y:=y) (p:=p) ht;refine⟨⟨OM.ξ7c h.oi _ _,h.ui,(OM.ξG t').2.2,?_,?_⟩,t'⟩
 ·have:=h.uk;show(s.uk:Int)<=OM.pX _ _ _ _ _+1;omega
 ·have:=h.gt;show(s.got.length:Int)<=OM.pX _ _ _ _ _+1;omega
theorem A1k.push(h:A1k nw s)(ht:OM.tf s.on now=0):A1k now (s.push y now p)/\(s.push y now p).tk=s.tk/\(s.push y now p).mo=s.mo:=by
 obtain⟨h1,h2⟩:=h.pushed (y:=y) (p:=p) ht;obtain⟨_,_,h3,h4,h5⟩:=h1.pop h2;exact⟨h3,h4,h5⟩
theorem ξfh(ht:OM.tf s.on now=0):OM.tf (s.gone y now).on now=0:=by
 show OM.tf (OM.gW s.on s.ox y now) now=0;unfold OM.gW;split
 ·obtain⟨h1,h2,_⟩:=OM.ξG ht;unfold OM.tf;rw[if_neg (by omega),if_neg (by omega)]
 ·exact ht
theorem A1k.gone(h:A1k nw s)(ht:OM.tf s.on now=0):A1k now (s.gone y now):=
 ⟨OM.ξdv h.oi,h.ui,(OM.ξG (ξfh ht)).2.2,h.uk,h.gt⟩
theorem A1k.start(tk mo:Int):A1k 0 (s0 tk mo):=
 ⟨OM.ξ1n,UM.ξ1n (by omega) (by omega) (show(0:Int)<=0 by omega) (show(0:Int)<=4294967295 by omega),Int.le_refl _,by show(0:Int)<=-1+1;omega,by show(0:Int)<=-1+1;omega⟩
structure A3h(n:Nat)(nw:Int)(i:Nat)(t:Tr):Prop where
 tk:t.tk=(i:Int)+1
 ep:0<=t.ep/\t.ep<=65535
 pa:t.pa=-1∨(0<=t.pa/\t.pa<n)
 kd:∀k∈t.kids,0<=k/\k<n
 kl:t.kids.length<=16
 gi:GM.Inv 3 3 t.gn t.gT t.gM
 gn:t.gn<=nw
 gg:t.gG=[]
 ri:RM.Inv 64 t.rT t.rM
 rf:∀x∈t.rM,PM.fault x.2.s x.2.t x.2.l x.2.q x.2.L.length=0
structure A0v(n:Nat)(N:Nd):Prop where
 nw:0<=N.nw/\N.nw<=1000000
 id:0<=N.id/\N.id<=15
 tr:∀i,i<8->∀t,N.tr i=some t->A3h n N.nw i t
 si:A2v N.sb N.ls
 sb:∀x∈N.sb,A1k N.nw x.2/\∃k:Nat,k<8/\x.2.tk=(k:Int)+1/\(N.tr k).isSome=true
 pn:0<=N.pn/\N.pn<=N.nw
 pl:PU.Inv N.pL
 pw:∀x∈N.pL,x.a=N.id
 ak:PU.A8h 10 N.pn N.ak
theorem A3h.mono(h:A3h n nw i t)(hn:nw<=nw'):A3h n nw' i t:=⟨h.tk,h.ep,h.pa,h.kd,h.kl,h.gi,Int.le_trans h.gn hn,h.gg,h.ri,h.rf⟩
theorem A0v.later(h:A0v n N)(h0:N.nw<=now)(h1:now<=1000000):A0v n { N with nw:=now }:=
 ⟨⟨by have:=h.nw;show 0<=now;omega,h1⟩,h.id,λi hi t ht=>(h.tr i hi t ht).mono h0,h.si,λx hx=>⟨(h.sb x hx).1.mono h0,(h.sb x hx).2⟩,⟨h.pn.1,by have:=h.pn.2;show N.pn<=now;omega⟩,h.pl,h.pw,h.ak⟩
theorem A0v.letters(h:A0v n N)(L:List (Int×List Nat)):A0v n { N with lt:=L }:=⟨h.nw,h.id,h.tr,h.si,h.sb,h.pn,h.pl,h.pw,h.ak⟩
theorem ξ2m(h0:0<=nw)(h:nw<=now)(h1:now<=1000000):OM.tf nw now=0:=by
 unfold OM.tf;rw[if_neg (by omega),if_neg (by omega)]
theorem ξ23(h0:0<=nw)(h:nw<=now)(h1:now<=1000000):GM.tf nw now=0:=by
 unfold GM.tf;rw[if_neg (by omega),if_neg (by omega)]
theorem ξb6{L:PU.Wts}{a:Int}(h:PU.Inv L)(ha:∀x∈L,x.a=a):L.length<=8:=by
 have hn:(L.map λx=>(x.b-1).toNat).Nodup:=by
  have:L.Pairwise λx y=>(x.b-1).toNat≠(y.b-1).toNat:=by
   refine List.Pairwise.imp_of_mem ?_ h.uq;intro x y hx hy ae e;have h1:=h.mem x hx;have h2:=h.mem y hy;unfold PU.Ok at h1 h2;exact ae ⟨(ha x hx).trans (ha y hy).symm,by omega⟩
  rw[Ξs];exact List.pairwise_map.2 this
 have hs:∀k∈L.map λx=>(x.b-1).toNat,k∈List.range 8:=by
  intro k hk;obtain⟨x,hx,rfl⟩:=Ξi.1 hk;have h1:=h.mem x hx;unfold PU.Ok at h1;rw[List.mem_range];omega
 have:=List.Nodup.length_le_of_subset (l₂:=List.range 8) hn hs;simpa using this
def A10(tk:Int)(f:Sb->Sb)(l:List (Int×Sb)):List (Int×Sb):=l.map λx=>if x.2.tk=tk then(x.1,f x.2)else x
theorem ξcH(tk:Int)(f:Sb->Sb)(l:List (Int×Sb)):ids (A10 tk f l)=ids l:=by
 unfold ids A10;rw[List.map_map];refine List.map_congr_left λx _=>?_;show(if x.2.tk=tk then(x.1,f x.2)else x).1=x.1;split<;>rfl
theorem ξ6z(tk:Int)(f:Sb->Sb)(l:List (Int×Sb)):(A10 tk f l).length=l.length:=by simp[A10]
theorem ξ49{x:Int×Sb}(h:x∈A10 tk f l):∃y∈l,x.1=y.1/\((y.2.tk=tk/\x.2=f y.2)∨(y.2.tk≠tk/\x.2=y.2)):=by
 obtain⟨y,hy,rfl⟩:=Ξi.1 h;refine⟨y,hy,?_⟩;by_cases c:y.2.tk=tk
 ·rw[if_pos c];exact⟨rfl,.inl ⟨c,rfl⟩⟩
 ·rw[if_neg c];exact⟨rfl,.inr ⟨c,rfl⟩⟩
theorem A2v.A10{ls:Int}(h:A2v l ls)(hf:∀s,(f s).mo=s.mo):A2v (A10 tk f l) ls:=by
 refine⟨by rw[ξcH];exact h.ris,?_,by rw[ξ6z];exact h.len,h.ls0,h.ls1⟩;intro x hx;obtain⟨y,hy,e1,e2⟩:=ξ49 hx;have:=h.mem y hy;rcases e2 with⟨_,e2⟩|⟨_,e2⟩
 ·rw[e1,e2,hf];exact this
 ·rw[e1,e2];exact this
abbrev ppk (p:RM.Pk):Pk:=⟨p.s,p.t,p.l,p.q,p.st,p.L⟩
def Nd.A0t(N:Nd)(i:Nat)(t:Tr)(p:RM.Pk)(og h now:Int):Nd:=
 if GM.hB t.gn t.gT t.gM (num t.rT p.s) now then
  { N with tr:=A0f N.tr i ((t.heard (num t.rT p.s) now).keep (num t.rT p.s) p (og,h)),lt:=N.lt++A2o t.kids (FM.A0k t.tk og t.ep h (pby p.s p.t p.l p.q p.st p.L)) (fby t.tk og t.ep h (pby p.s p.t p.l p.q p.st p.L)),sb:=A10 t.tk (λs=>s.push (num t.rT p.s) now (ppk p)) N.sb }
 else { N with tr:=A0f N.tr i (t.heard (num t.rT p.s) now) }
theorem A3h.heard(h:A3h n nw i t)(h0:nw<=now)(h1:now<=1000000):A3h n now i (t.heard y now):=by
 refine⟨h.tk,h.ep,h.pa,h.kd,h.kl,GM.ξbB h.gi,?_,h.gg,h.ri,h.rf⟩;show GM.hN t.gn t.gT t.gM y now<=now;unfold GM.hN;have:=h.gn;split<;>omega
theorem A3h.keep{p:RM.Pk}{wy:Int×Int}(h:A3h n nw i t)(hf:PM.fault p.s p.t p.l p.q p.L.length=0):A3h n nw i (t.keep y p wy):=by
 have hR:=RM.ξds (y:=y) h.ri 0 p;cases hp:RM.px 64 t.rT y t.rM 0 with
 | false=>
   rw[Tr.A74 hp];exact h
 | true=>
   rw[Tr.A4w hp];unfold RM.pT RM.pM at hR;rw[if_pos hp,if_pos hp]at hR;refine⟨h.tk,h.ep,h.pa,h.kd,h.kl,h.gi,h.gn,h.gg,hR,?_⟩;intro x hx;rcases Ξe.1 hx with hx|hx
   ·exact h.rf x (Ξj.1 hx).1
   ·rw[Ξg]at hx;rw[hx];exact hf
theorem ξao{f:Nat->Option Tr}(h:A0f f i a k=some t):(k=i/\t=a)∨(k≠i/\f k=some t):=by
 unfold A0f at h;split at h
 ·rename_i e;exact .inl ⟨e,(Option.some.inj h).symm⟩
 ·rename_i e;exact .inr ⟨e,h⟩
theorem ξel{f:Nat->Option Tr}(h:(f k).isSome=true):(A0f f i a k).isSome=true:=by
 unfold A0f;split
 ·rfl
 ·exact h
theorem A0v.A52(h:A0v n N)(ht:A3h n N.nw i t):A0v n { N with tr:=A0f N.tr i t }:=by
 refine⟨h.nw,h.id,?_,h.si,?_,h.pn,h.pl,h.pw,h.ak⟩
 ·intro k hk t' ae;rcases ξao ae with⟨rfl,rfl⟩|⟨_,e⟩
  ·exact ht
  ·exact h.tr k hk t' e
 ·intro x hx;obtain⟨h1,k,hk,e,h2⟩:=h.sb x hx;exact⟨h1,k,hk,e,ξel h2⟩
theorem A0v.A47(h:A0v n N)(hf:∀s,A1k N.nw s->A1k N.nw (f s))(h1:∀s,(f s).mo=s.mo)(h2:∀s,(f s).tk=s.tk):A0v n { N with sb:=A10 tk f N.sb }:=by
 refine⟨h.nw,h.id,h.tr,h.si.A10 h1,?_,h.pn,h.pl,h.pw,h.ak⟩;intro x hx;obtain⟨y,hy,e1,e2⟩:=ξ49 hx;obtain⟨k1,k,hk,e,k2⟩:=h.sb y hy;rcases e2 with⟨_,e2⟩|⟨_,e2⟩
 ·rw[e2];exact⟨hf _ k1,k,hk,(h2 _).trans e,k2⟩
 ·rw[e2];exact⟨k1,k,hk,e,k2⟩
theorem ξ5a(s:Sb)(now:Int):(s.A1r now).tk=s.tk/\(s.A1r now).mo=s.mo:=by
 obtain⟨_,_,_,b4,b5,_,_⟩:=ξ4N (OM.takes s.oM s.ox (s.A3n now)) (s.popped now (s.A3n now));exact⟨b4,b5⟩
theorem ξ58(s:Sb)(y now:Int)(p:Pk):(s.push y now p).tk=s.tk/\(s.push y now p).mo=s.mo:=ξ5a _ _
theorem A0v.took(h:A0v n N)(hi:i<8)(ht:N.tr i=some t){p:RM.Pk}{og hp:Int}(hf:PM.fault p.s p.t p.l p.q p.L.length=0):A0v n (N.A0t i t p og hp N.nw):=by
 have hT:=(h.tr i hi t ht).heard (y:=num t.rT p.s) (Int.le_refl _) h.nw.2;unfold Nd.A0t;split
 ·have h1:=h.A52 (hT.keep (y:=num t.rT p.s) (wy:=(og,hp)) hf);have h2:=h1.A47 (tk:=t.tk) (f:=λs=>s.push (num t.rT p.s) N.nw (ppk p)) (λs hs=>(hs.push (ξ2m hs.oi.c1 hs.on h.nw.2)).1) (λs=>(ξ58 s _ _ _).2) (λs=>(ξ58 s _ _ _).1);exact h2.letters _
 ·exact h.A52 hT
def A0w(t:Tr)(kd:Int)(q:Int):List (Int×List Nat):=
 match t.rM.find? λi=>i.1==num t.rT q with
 | some i=>if FM.A0k t.tk (t.wy i.1).1 t.ep (t.wy i.1).2 (pby i.2.s i.2.t i.2.l i.2.q i.2.st i.2.L)=0 then[(kd,fby t.tk (t.wy i.1).1 t.ep (t.wy i.1).2 (pby i.2.s i.2.t i.2.l i.2.q i.2.st i.2.L))]else[]
 | none=>[]
theorem ξ4X(t:Tr)(kd q:Int):(A0w t kd q).length<=1:=by
 unfold A0w;split
 ·split<;>simp
 ·simp
inductive Msg where
 | fr (tk og ep h:Int) (p:Pk)
 | lost (tk:Int) (L:List Int)
 | key (tk v:Int)
def Msg.by:Msg->List Nat
 | .fr tk og ep h p=>fby tk og ep h (pby p.s p.t p.l p.q p.st p.L)
 | .lost tk L=>Back.A0c 1 tk L 0
 | .key tk v=>Back.A0c 2 tk [] v
def Msg.ok:Msg->Prop
 | .fr tk og ep h p=>1<=tk/\tk<=8/\FM.A0k tk og ep h (pby p.s p.t p.l p.q p.st p.L)=0/\PM.fault p.s p.t p.l p.q p.L.length=0/\∀c∈p.L,c<256
 | .lost tk L=>Back.A0o 1 tk L 0=0/\L.length<=200
 | .key tk v=>Back.A0o 2 tk [] v=0
abbrev Pk.lies (p:Pk) (bv:Value):RM.Pk:=⟨p.s,p.t,p.l,p.q,p.st,p.L,bv⟩
def Nd.hear(N:Nd)(fr:Int)(now:Int)(bv:Value):Msg->Nd
 | .fr tk og ep h p=>match N.at tk with
   | none=>N
   | some t=>if hrF t fr ep=0 then { N.A0t (tk-1).toNat t (p.lies bv) og (h+1) now with nw:=now }else N
 | .lost tk L=>match N.at tk with
   | none=>N
   | some t=>if fr∈t.kids then { N with lt:=N.lt++L.flatMap (A0w t fr),nw:=now }else N
 | .key tk v=>match N.at tk with
   | none=>N
   | some t=>if fr∈t.kids then { N with lt:=N.lt++(if t.pa=-1 then[]else[(t.pa,Back.A0c 2 tk [] v)]),nw:=now }else N
def Nd.A1v(N:Nd)(i:Nat)(now:Int):Nd:=
 match N.tr i with
 | none=>N
 | some t=>if t.pa=-1 then N else
   { N with tr:=A0f N.tr i { t with gn:=now,gM:=GM.dM 3 3 now t.gM,gG:=[] },lt:=N.lt++(if GM.A07 3 3 now t.gM=[]then[]else[(t.pa,Back.A0c 1 t.tk (BM.norm (sq (GM.A07 3 3 now t.gM))) 0)]),sb:=A10 t.tk (λs=>(GM.A0q 3 3 now t.gM).foldl (λs y=>s.gone y now) s) N.sb }
def Sb.wants(s:Sb):Bool:=LM.wants s.mo s.ln s.br
def Nd.A2c(N:Nd)(now:Int)(s:Sb):Nd:=
 match N.at s.tk with
 | none=>N
 | some t=>if s.wants=false∨t.pa=-1 then N else
   { N with pn:=PU.aN (PU.put N.pL ⟨N.id,s.tk,s.mo⟩) N.pn s.tk now,ak:=PU.aK (PU.put N.pL ⟨N.id,s.tk,s.mo⟩) 10 N.pn N.ak s.tk now,pL:=PU.put N.pL ⟨N.id,s.tk,s.mo⟩,lt:=N.lt++(if PU.aB (PU.put N.pL ⟨N.id,s.tk,s.mo⟩) 10 N.pn N.ak s.tk now=true then[(t.pa,Back.A0c 2 s.tk [] s.mo)]else[]) }
def Nd.A0i(N:Nd)(now:Int):Nat->Nd
 | 0=>N
 | k+1=>(N.A0i now k).A1v k now
def A5h(now:Int)(l:List (Int×Sb)):List (Int×Sb):=l.map λx=>(x.1,x.2.A1r now)
def Nd.A27(N:Nd)(now:Int):Nd:={ N with sb:=A5h now N.sb }
def Nd.starts(N:Nd)(now:Int)(l:List (Int×Sb)):Nd:=l.foldl (λN x=>N.A2c now x.2) N
def Nd.tick(N:Nd)(now:Int):Nd:=((({ N with nw:=now }:Nd).A0i now 8).A27 now).starts now (((({ N with nw:=now }:Nd).A0i now 8).A27 now).sb)
def A2u(l:List (Int×Sb))(x:Int):Int:=match l.find? λy=>y.1==x with
 | some y=>y.2.tk
 | none=>0
theorem ξfm(h:(ids l).Pairwise λa b=>a<b):∀x∈l,(l.find? λy=>y.1==x.1)=some x:=by
 induction l with
 | nil=>intro x hx;cases hx
 | cons a l ih=>
   intro x hx;have h':(a.1::ids l).Pairwise λa b=>a<b:=h;obtain⟨h1,h2⟩:=List.pairwise_cons.1 h';rw[List.find?_cons];rcases Ξf.1 hx with rfl|hx
   ·simp
   ·have:=h1 x.1 (Ξi.2 ⟨x,hx,rfl⟩);rw[show(a.1==x.1)=false by simp;omega];exact ih h2 x hx
theorem ξ1I(h:(ids l).Pairwise λa b=>a<b):∀x∈l,x.2.tk=A2u l x.1:=by
 intro x hx;unfold A2u;rw[ξfm h x hx]
theorem ξ5j(n b:Nat)(o:Nat->Tg)(P:NP)(N:Nd)(tk:Int)(w:World)(hn:n≠0)(h:NAt w o n b P N)(hI:A2v N.sb N.ls)(hall:∀x∈N.sb,x.2.tk≠tk) :
 Calls prog 112 #[.pointer (some ⟨b,0,none⟩),.int .i64 tk] w λe w'=>e=.returned .nilIface/\A9f (cls n 4) w w' o n b N:=by
 have C:=ξ0 (ξ2U n b o P N (A2u N.sb) tk w h hI (ξ1I hI.ris));have he:fil (A2u N.sb) tk (ids N.sb)=[]:=by
  unfold fil;rw[List.filter_eq_nil_iff];intro x hx;obtain⟨y,hy,rfl⟩:=Ξi.1 hx;rw[<-ξ1I hI.ris y hy];simpa using hall y hy
 rw[he]at C;have HN:=ξ0 h;clear h hI hall he;go_enter func112,ntmps112;go_wp2_with fail
 refine C.out.mono ?_;rintro e w1 ⟨a,cap,rfl,hP,hf,hb⟩;have ae:Hid (A9f (cls n 4) w w1 o n b N):=ξ0 ⟨o,P,HN.out.below hb,Ext.refl _ _,Chg.of_below hb _ _⟩;simp only[List.length_nil];clear hP hf hb;go_wp2_with fail;go_loopg [12] 0 (λgh x wr=>gh=0/\x=.int .i64 0/\wr=w1)
 case atStart=>exact⟨rfl,rfl,rfl⟩
 case round=>
  obtain⟨-,rfl,rfl⟩:=hrel;go_wp2_with fail;go_ret;exact⟨rfl,ae.out⟩
theorem ξcU(n b:Nat)(o:Nat->Tg)(P:NP)(N:Nd)(tk pa ep:Int)(a:Option Addr)(m cap:Nat)(K:List Int)(w:World)(hn:n≠0)(hN:NAt w o n b P N)(hI:A2v N.sb N.ls)(hx0:N.tr (tk-1).toNat=none)(hall:∀x∈N.sb,x.2.tk≠tk)(hK:Gaps.A0b w a m K)(hno:a=none->m=0/\cap=0)(hF:∀ad,a=some ad->0<m->(o ad.block).n≠n)(hf:pF N tk pa K ep=0) :
 Calls prog 85 #[.pointer (some ⟨b,0,none⟩),.int .i64 tk,.int .i64 pa,.slice a m cap,.int .i64 ep] w λe w'=>e=.returned .nilIface/\Done w w' o n b ({ N with tr:=A0f N.tr (tk-1).toNat ((tr0 tk ep).to pa K) }):=by
 have C:=ξ0 (ξa n b o P N tk pa ep a m cap K w hN hK);obtain⟨z1,z2,z3,z4,_,_,z5,z6⟩:=ξeN hf;rw[hf,ξ4]at C;have hl:=hK.2.1;obtain⟨k,ae,aY,aC⟩:∃k:Nat,k<8/\tk=(k:Int)+1/\(tk-1).toNat=k:=⟨(tk-1).toNat,by omega,by omega,rfl⟩;have bA:wrap64 (tk-1)=(k:Int):=by unfold wrap64;omega
 have bB:(k:Int)<8:=by omega
 obtain⟨R,hR⟩:=nm (({ N with tr:=A0f N.tr (tk-1).toNat ((tr0 tk ep).to pa K) }:Nd));rw[hR];unfold Nd.at at z5;rw[aC]at hR z5;have hx:N.tr k=none:=by rw[<-aC];exact hx0
 clear hx0;have CP:=ξ0 (ξ9E tk ep);have HN:=ξ0 hN;have HI:=ξ0 hI;have aZ:=ξ0 hall;have HK:=ξ0 hK;have bh:=ξ0 hno;have HF:=ξ0 hF;have hm:m<=16:=by omega
 have HL:=ξ0 hl;clear hf z1 z2 z3 z4 hN hI hall hK hno hF hl aY aC
 -- what follows the making
 have aD:Hid (∀W oW PW (NW:Nd) t,NAt W oW n b PW NW->NW.tr k=some t->Ext w o oW->Chg o (mine n) w W->Calls prog 113 #[.slice a m cap] W λe w'=>∃v,e=.returned v/\w'.ownsRow W.heap.size 3 1 v K.length (Gaps.ic K)/\Below W.heap.size W w'):=by
  refine ξ0 ?_;intro W oW PW NW t h1 h2 h3 h4;have bi:Gaps.A0b W a m K:=by
   obtain⟨bs,q1,q2,q3⟩:=h4;refine⟨λj hj=>?_,HK.out.2⟩;obtain⟨b',o',e,hc⟩:=HK.out.1 j hj;have bj:b'∉bs:=λhx=>HF.out _ e (by have:=HL.out;omega) (q2 _ hx);exact⟨b',o',e,(ξr (q1.2.2.2.2 b' (Ξq w ⟨b',o'+j,none⟩ hc) bj) _).trans hc⟩
  refine(ξ1u a m cap K W bi bh.out (by omega)).mono ?_;rintro e w' ⟨v,rfl,q1,q2⟩;rw[<-HL.out]at q1;exact⟨v,rfl,q1,q2⟩
 go_enter func85,ntmps85;go_wp2_with fail
 refine C.out.mono ?_;rintro e w1 ⟨rfl,aE⟩;have aF:=HN.out.below aE;have aG:=ξ0 aE;have ct:=aF.A2l ae;clear aE C;rw[hx]at ct;simp only[tpv]at ct;have aQ:=ξ0 aF;clear aF;go_wp2_with fail;refine(CP.out _).mono ?_;rintro e w2 ⟨Q,rfl,hT,ah,au⟩;have bq:=aQ.out.below au;have CB:=ξ0 (ξ5j n b (grow o w1 ⟨n,3,k⟩) P N tk w2 hn (aQ.out.chg (S:=λ_=>False) (Chg.of_below au _ _) (λg hg=>hg.elim) (ξ3 o w1 _)) HI.out aZ.out);have HT:=ξ0 hT;have aH:=ξ0 ah;have aS:=ξ0 au;clear hT ah au bq;go_wp2_with fail;refine CB.out.mono ?_;rintro e w3 ⟨rfl,hD⟩;have HD:=ξ0 hD;clear hD;obtain⟨o3,P3,ai,aI,aJ⟩:=HD.out;have aT:Own (grow o w1 ⟨n,3,k⟩) ⟨n,3,k⟩ (A0x Q (tr0 tk ep)):=λj hj=>ξg (aH.out j hj);have aU:=HT.out.chg aJ aT (by simp[cls]);have aV:=aT.ext aI HT.out.lt;have c5:=ai.A2l ae;have f5:=ai.free (2+k);have aj:=ai.A52 hn ae aU aV;have aL:Ext w1 o o3:=Ext.trans (ξ3 o w1 _) aI aS.out.size;have aw:Ext w o o3:=λj hj=>aL j (by have:=aG.out.size;omega);have am:Chg o (mine n) w (w3.setCell ⟨b,2+k,none⟩ (.pointer (some ⟨Q.p,0,none⟩))):=by
  have q1:Chg o (mine n) w w2:=(Chg.of_below aG.out _ _).trans' (Chg.of_below aS.out _ _);have q2:Chg (grow o w1 ⟨n,3,k⟩) (mine n) w2 w3:=ξdZ aJ;have q3:=q1.trans q2 (λj hj=>by rw[ξt (by have:=aG.out.size;omega)]);exact q3.trans (ξx (ai.A53 (2+k) _)) aw
 have ax:({ N with tr:=A0f N.tr k (tr0 tk ep) }:Nd).tr k=some (tr0 tk ep):=by simp[A0f]
 have CK:=ξ0 (aD.out _ o3 _ _ (tr0 tk ep) aj ax aw am);have TT:=ξ0 (λw2 v h1 h2=>ξb5 (w2:=w2) (v:=v) hn aj ae ax pa K h1 h2 (by omega));have HG:=ξ0 (aj.trs k ae _ ax).1;have aW:(A26 P3.tp k Q k).p=Q.p:=by simp[A26]
 obtain⟨qp,ay⟩:=nm Q.p;have HQ:Hid ((A26 P3.tp k Q k).p=qp):=aW.trans ay;have az:Hid (∀w2 v,w2.ownsRow (w3.setCell ⟨b,2+k,none⟩ (.pointer (some ⟨Q.p,0,none⟩))).heap.size 3 1 v K.length (Gaps.ic K)->Below (w3.setCell ⟨b,2+k,none⟩ (.pointer (some ⟨Q.p,0,none⟩))).heap.size (w3.setCell ⟨b,2+k,none⟩ (.pointer (some ⟨Q.p,0,none⟩))) w2->Done w ((w2.setCell ⟨qp,2,none⟩ (.int .i64 pa)).setCell ⟨qp,3,none⟩ v) o n b R):=by
  refine ξ0 ?_;intro bu v h1 h2;have hd:=TT.out bu v h1 h2;obtain⟨o',P',q1,q2,q3⟩:=hd;rw[show({ P3 with tp:=A26 P3.tp k Q }:NP).tp k=A26 P3.tp k Q k from rfl,HQ.out]at q1 q3;refine⟨o',P',?_,aw.trans q2 am.size,am.trans q3 aw⟩;rw[<-hR];have e:A0f (A0f N.tr k (tr0 tk ep)) k ((tr0 tk ep).to pa K)=A0f N.tr k ((tr0 tk ep).to pa K):=by
   funext j
   unfold A0f;split<;>rfl
  rw[<-e];exact q1
 rw[ay]at CK HG az aj am;obtain⟨w4,aM⟩:=nm (w3.setCell ⟨b,2+k,none⟩ (.pointer (some ⟨qp,0,none⟩)));rw[aM]at CK HG az;have bz:=ξ0 aM;obtain⟨cv,aX⟩:=nm (tpv (N.tr k) (P3.tp k));have bC:w3.cell? ⟨b,2+k,none⟩=some cv:=by rw[<-aX];exact c5
 clear TT aj am ax aW aU aV ai aI aJ c5 aX aM;rw[ay];clear ay;go_upto_region 13 with fail;rw[bz.out];go_wp2_with fail;refine CK.out.mono ?_;rintro e w5 ⟨v,rfl,aO,aP⟩;have aA:=HG.out.box;rw[show(({ P3 with tp:=A26 P3.tp k Q }:NP).tp k).p=qp from HQ.out]at aA;have aq:=(aP.block qp (lt_of_block aA)).trans aA;have c2:w5.cell? ⟨qp,2,none⟩=some (.int .i64 0):=by simp[World.cell?,aq,tr0]
 obtain⟨v3,c3⟩:∃v3,w5.cell? ⟨qp,3,none⟩=some v3:=by simp[World.cell?,aq]
 have f2:w5.frozen? ⟨qp,2,none⟩=false:=by simp[World.frozen?,aq]
 have f3:w5.frozen? ⟨qp,3,none⟩=false:=by simp[World.frozen?,aq]
 obtain⟨va,vc,rfl,_⟩:=Gaps.ξl aO (by omega);have b9:=ξ0 (az.out w5 _ aO aP);clear aA aq aO aP az CK;go_wp2_with fail;go_ret;exact⟨rfl,b9.out⟩
end Go.Proofs.YtpiamlgmadnepaaGreat.ND
