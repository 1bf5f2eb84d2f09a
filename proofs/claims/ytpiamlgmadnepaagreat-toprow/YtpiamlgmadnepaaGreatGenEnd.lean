/-
 GenI, GenM, GenO in one text.
-/
import Derived.Test.YtpiamlgmadnepaaGreatGenMid
import Derived.Test.YtpiamlgmadnepaaGreatPullAP
import Derived.Deep.CutRange
import Derived.Test.YtpiamlgmadnepaaGreatNRepAll
import Derived.Test.YtpiamlgmadnepaaGreatNodeMid
import Derived.Test.YtpiamlgmadnepaaGreatSubAll
import Derived.Deep.LoopGhost
set_option linter.unusedVariables false
set_option maxRecDepth 100000
namespace Go.Proofs.YtpiamlgmadnepaaGreat.ND
open Go.ChangeShapes Go.WideShapes Go.ChangeAt Go.RowKit Go.Maps Go.Lib Mem NO
def Fits (N:Nd) (fr:Int):Msg->Prop
 | .fr tk _ _ _ _=>∃ t,N.at tk=some t
 | .lost tk _=>∃ t,N.at tk=some t/\fr∈t.kids
 | .key tk _=>∃ t,N.at tk=some t/\fr∈t.kids
theorem ξ3d {N:Nd} {tk:Int} {t:Tr} (h1:1<=tk) (h2:tk<=8) (h:N.at tk=some t):∃ k:Nat,k<8/\tk=(k:Int)+1/\(tk - 1).toNat=k/\N.tr k=some t:=by
 refine ⟨(tk - 1).toNat,by omega,by omega,rfl,h⟩
theorem ξ90 {w w':World} {o:Nat->Tg} {n b:Nat} {P:NP} {N:Nd} (hN:NAt w o n b P N) (hb:Below w.heap.size w w'):Done w w' o n b N:=⟨o,P,hN.below hb,Ext.refl _ _,Chg.of_below hb _ _⟩
theorem ξ9t {n:Nat} {N:Nd} (h:NdOk n N) {now:Int} (h0:N.nw<=now) (h1:now<=1000000):∀ x∈N.sb,SbOk N.nw x.2/\OM.tf x.2.on now=0:=fun x hx=>by
 have:=(h.sb x hx).1
 exact ⟨this,ξ7Z this.oi.c1 (Int.le_trans this.on h0) h1⟩
theorem ξbX {tk:Int} {L:List Int} {u:Int}:(Back.ebytes 1 tk L u).head?≠some 70:=by simp [Back.ebytes]
theorem ξbW {tk:Int} {L:List Int} {u:Int}:(Back.ebytes 2 tk L u).head?≠some 70:=by simp [Back.ebytes]
theorem ξ2m {N:Nd} {fr now:Int} {bv:Value} {tk og ep h:Int} {p:Pk} {t:Tr} (ht:N.at tk=some t):N.hear fr now bv (.fr tk og ep h p)=if hrF t fr ep=0 then { N.tookG (tk - 1).toNat t (p.lies bv) og (h+1) now with nw:=now } else N:=by simp only [Nd.hear,ht]
theorem ξ34 {N:Nd} {fr now:Int} {bv:Value} {tk:Int} {L:List Int} {t:Tr} (ht:N.at tk=some t) (hk:fr∈t.kids):N.hear fr now bv (.lost tk L)={ N with lt:=N.lt++L.flatMap (againL t fr),nw:=now }:=by simp only [Nd.hear,ht,if_pos hk]
theorem ξ3M {N:Nd} {fr now:Int} {bv:Value} {tk v:Int} {t:Tr} (ht:N.at tk=some t) (hk:fr∈t.kids):N.hear fr now bv (.key tk v)={ N with lt:=N.lt++(if t.pa=-1 then [] else [(t.pa,Back.ebytes 2 tk [] v)]),nw:=now }:=by simp only [Nd.hear,ht,if_pos hk]
theorem ξbV (nn n b:Nat) (o:Nat->Tg) (P:NP) (N:Nd) (fr now:Int) (m:Msg) (a:Option Addr) (k cap:Nat) (w:World) (hn:n≠0) (hN:NAt w o n b P N) (hK:NdOk nn N) (hl:N.lt.length<=500) (h0:N.nw<=now) (h1:now<=1000000) (hm:m.ok) (hf:Fits N fr m) (hA:Arg w a k m.by) (hc:k<=cap) :
 Calls Tryz.prog 89 #[.pointer (some ⟨b,0,none⟩),.int .i64 fr,.slice a k cap,.int .i64 now] w fun e w'=>∃ f bv,e=.returned (errv f)/\Done w w' o n b (N.hear fr now bv m):=by
 have hnow:=ξ6s hK.nw.1 h0 h1
 cases m with
 | fr tk og ep h p=>
   obtain ⟨m1,m2,m3,m4,m5⟩:=hm;obtain ⟨t,ht⟩:=hf;obtain ⟨i,hi,rfl,ei,hti⟩:=ξ3d m1 m2 ht;have hT:=hK.tr i hi t hti
   have hkl:=hT.kl
   refine (ξ71 n b i o P N t fr now og ep h p.s p.t p.l p.q p.st a k cap p.L w hn hN hi hti hnow hT.gi hT.ri hA hc m3 m4 m5 N.nw (ξ9t hK h0 h1) hK.si (by omega)).mono ?_
   rintro e w' ⟨rfl,hg⟩;by_cases hr:hrF t fr ep=0
   ·obtain ⟨bv,hd⟩:=hg.1 hr;refine ⟨_,bv,rfl,?_⟩
    rw [ξ2m ht,if_pos hr,ei];exact hd
   ·refine ⟨_,.pointer none,rfl,?_⟩
    rw [ξ2m ht,if_neg hr];exact ξ90 hN (hg.2 hr)
 | lost tk L=>
   obtain ⟨m1,m2⟩:=hm;obtain ⟨t,ht,hkid⟩:=hf;obtain ⟨_,q1,q2,_⟩:=Back.ξ16 (Back.ξQ m1).1;obtain ⟨i,hi,rfl,ei,hti⟩:=ξ3d q1 q2 ht;have hT:=hK.tr i hi t hti
   obtain ⟨R,hR⟩:∃ R:Nd,{ N with lt:=N.lt++L.flatMap (againL t fr) }=R:=⟨_,rfl⟩;refine (ξ6r n b o P N fr now a k cap _ w (fun f N'=>f=0/\N'=R) hn hN hnow hA (fun W _ hx=>absurd hx ξbX) ?_).mono ?_
   ·intro W hBW _;have hNW:NAt W (grow o w ξ2) n b P N:=hN.chg (S:=fun _=>False) (Chg.of_below hBW _ _) (fun g hg=>hg.elim) (ξ5 o w ξ2)
    have C:=ξ4I n b i (grow o w ξ2) P N t fr L a k cap W hn hNW hi hti hT.ri (hA.below hBW) hc m1 hkid hT.rf (by omega)
    refine C.mono ?_
    rintro e w' ⟨rfl,hd⟩;rw [hR] at hd;exact ⟨0,rfl,fun _=>⟨R,⟨rfl,rfl⟩,hd⟩,fun hx=>absurd rfl hx⟩
   ·rintro e w' ⟨f,rfl,g1,g2⟩;by_cases hx:f=0
    ·obtain ⟨N',⟨_,rfl⟩,hd⟩:=g1 hx;refine ⟨f,.pointer none,rfl,?_⟩
     rw [ξ34 ht hkid];rw [<- hR] at hd;exact hd
    ·exact absurd (g2 hx).1.1 hx
 | key tk v=>
   obtain ⟨t,ht,hkid⟩:=hf;obtain ⟨_,q1,q2,_⟩:=Back.ξ16 (Back.ξQ hm).1;obtain ⟨i,hi,rfl,ei,hti⟩:=ξ3d q1 q2 ht;have hT:=hK.tr i hi t hti
   obtain ⟨R,hR⟩:∃ R:Nd,{ N with lt:=N.lt++(if t.pa=-1 then [] else [(t.pa,Back.ebytes 2 ((i:Int)+1) [] v)]) }=R:=⟨_,rfl⟩;refine (ξ6r n b o P N fr now a k cap _ w (fun f N'=>f=0/\N'=R) hn hN hnow hA (fun W _ hx=>absurd hx ξbW) ?_).mono ?_
   ·intro W hBW _;have hNW:NAt W (grow o w ξ2) n b P N:=hN.chg (S:=fun _=>False) (Chg.of_below hBW _ _) (fun g hg=>hg.elim) (ξ5 o w ξ2)
    have C:=ξ5z n b i (grow o w ξ2) P N t fr v a k cap W hn hNW hi hti (hA.below hBW) hc hm hkid (by omega)
    refine C.mono ?_
    rintro e w' ⟨rfl,hd⟩;rw [hR] at hd;exact ⟨0,rfl,fun _=>⟨R,⟨rfl,rfl⟩,hd⟩,fun hx=>absurd rfl hx⟩
   ·rintro e w' ⟨f,rfl,g1,g2⟩;by_cases hx:f=0
    ·obtain ⟨N',⟨_,rfl⟩,hd⟩:=g1 hx;refine ⟨f,.pointer none,rfl,?_⟩
     rw [ξ3M ht hkid];rw [<- hR] at hd;exact hd
    ·exact absurd (g2 hx).1.1 hx
def qp (N:Nd) (P:NP) (i:Nat):Option Addr:=match N.tr i with
 | none=>none
 | some _=>some ⟨(P.tp i).p,0,none⟩
end Go.Proofs.YtpiamlgmadnepaaGreat.ND
namespace Go.Proofs.YtpiamlgmadnepaaGreat.ND
open Go.ChangeShapes Go.WideShapes Go.ChangeAt Go.RowKit Go.Maps Mem NO
theorem ξab {w:World} {sm m:Nat} {D:DataW Value} {X:List Int} {g:Int->Nat} (hown:w.ownsMap Tryz.prog 3 ptR sm m D) (hS:SM D X g) {x:Int} (hx:x∈X) (hw:(Lit.int .i64 x).wf=true) :
 (Instr.lookup 152 (.map (some sm)) (.int .i64 x) true).run Tryz.prog w=.ok (.tuple #[.pointer (some ⟨g x,0,none⟩),.bool true]) w:=by
 obtain ⟨v',ps,hrun,hr⟩:=hown.look_ok law3 Tryz.underlying152 (zeroSQ w) (ξ60 none) (keyOf3 hw);have he:D.atKey (GM.key x) (.held (.pointer none))=.held (.pointer (some ⟨g x,0,none⟩)):=hS.elems x hx _
 have hh:Maps.has D (GM.key x)=true:=(hS.keys (GM.key x)).2 ⟨lk x,List.mem_map.2 ⟨x,hx,rfl⟩,rfl⟩
 rw [he] at hr;have e:=ξ7t hr
 simp only [Prod.mk.injEq,DataW.held.injEq] at e
 have hrun':(Instr.lookup 152 (.map (some sm)) (.int .i64 x) true).run Tryz.prog w=.ok (.tuple #[v',.bool (Maps.has D (GM.key x))]) w:=hrun
 rw [hrun',hh,<- e.1]
def away (o:Nat->Tg) (gb:Option Nat):Nat->Tg:=fun k=>if gb=some k then ξ2 else o k
theorem ξeg {o:Nat->Tg} {gb:Option Nat} {k:Nat} (h:(o k).n=0):(away o gb k).n=0:=by
 unfold away;split
 ·rfl
 ·exact h
theorem ξl.unown {w:World} {o:Nat->Tg} {v:Value} {L:List Nat} (h:ξl w o v L) (gb:Option Nat):ξl w (away o gb) v L:=by
 obtain ⟨a,m,c,e,hA,hF⟩:=h;exact ⟨a,m,c,e,hA,fun h0 ad e'=>ξeg (hF h0 ad e')⟩
theorem NAt.unown {w:World} {o:Nat->Tg} {n b:Nat} {P:NP} {N:Nd} (h:NAt w o n b P N) (hn:n≠0) {gb:Option Nat} {x:Int} (hgb:∀ k,gb=some k->o k=⟨n,4,x⟩) (hx:∀ s,(x,s)∈N.sb->∀ k,gb=some k->k∉ξ7 (P.sp x)):NAt w (away o gb) n b P N:=by
 have keep:∀ k,o k≠⟨n,4,x⟩->away o gb k=o k:=by
  intro k hk;unfold away;split
  ·rename_i e;exact absurd (hgb k e) hk
  ·rfl
 have own:∀ c j bs,(⟨n,c,j⟩:Tg)≠⟨n,4,x⟩->Own o ⟨n,c,j⟩ bs->Own (away o gb) ⟨n,c,j⟩ bs:=fun c j bs hne ho k hk=>by rw [keep k (by rw [ho k hk];exact hne)];exact ho k hk
 refine ⟨h.box,by rw [keep b (by rw [h.tag];simp)];exact h.tag,?_,h.sbm,by rw [keep P.sm (by rw [h.smt];simp)];exact h.smt,?_,h.pul,own _ _ _ (by simp) h.put,?_,own _ _ _ (by simp) h.ltt⟩
 ·intro i hi t ht;obtain ⟨q1,q2⟩:=h.trs i hi t ht;exact ⟨q1,own _ _ _ (by simp) q2⟩
 ·intro y hy;obtain ⟨q1,q2⟩:=h.sbs y hy;refine ⟨⟨q1.box,q1.ord,q1.lay,q1.out,?_⟩,?_⟩
  ·obtain ⟨X,r1,r2,r3⟩:=q1.got;exact ⟨X,r1,r2,fun z hz=>(r3 z hz).unown gb⟩
  ·by_cases e:y.1=x
   ·intro k hk;rw [e] at hk q2 ⊢;have hk':gb≠some k:=fun hg=>hx y.2 (by rw [<- e];exact hy) k hg hk
    unfold away;rw [if_neg hk'];exact q2 k hk
   ·exact own _ _ _ (by simp [e]) q2
 ·obtain ⟨X,r1,r2,r3⟩:=h.ltr;exact ⟨X,r1,r2,fun z hz=>⟨(r3 z hz).1.unown gb,(r3 z hz).2⟩⟩
theorem ξdD {o:Nat->Tg} {gb:Option Nat} {n:Nat} {x:Int} (h:∀ k,gb=some k->o k=⟨n,4,x⟩) (k:Nat):away o gb k=o k∨((o k).n=n/\away o gb k=ξ2):=by
 unfold away;by_cases c:gb=some k
 ·rw [if_pos c];exact .inr ⟨by rw [h k c],rfl⟩
 ·rw [if_neg c];exact .inl rfl
def Gave (w w':World) (o:Nat->Tg) (n b:Nat) (N:Nd) (lv:Value) (G:List Pk):Prop:=∃ o' P,NAt w' o' n b P N/\ξH w' o' lv G/\Own o' ξ2 lv.ownBlock.toList/\(∀ k,o' k=o k∨((o k).n=n/\o' k=ξ2))/\Chg o (mine n) w w'
theorem ξar (n b:Nat) (o:Nat->Tg) (P:NP) (N:Nd) (x:Int) (s:Sb) (A B:List (Int×Sb)) (w:World) (hn:n≠0) (hN:NAt w o n b P N) (hs:N.sb=A++(x,s)::B) (hI:SInv N.sb N.ls) :
 Calls Tryz.prog 49 #[.pointer (some ⟨b,0,none⟩),.int .i64 x] w fun e w'=>∃ a c,e=.returned (.tuple #[.slice a s.got.length c,.nilIface])/\Gave w w' o n b { N with sb:=A++(x,{ s with got:=[] })::B } (.slice a s.got.length c) s.got:=by
 have hmem:(x,s)∈N.sb:=by rw [hs];simp
 obtain ⟨k1,k2⟩:=hN.sbs (x,s) hmem;have hwf:=ξJ (y:=x) (by have:=hI.mem (x,s) hmem;simp only at this;omega) (by have:=hI.mem (x,s) hmem;have:=hI.ls1;simp only at *;omega)
 obtain ⟨D,hown,hS⟩:=hN.sbm;have hl:=ξab hown hS (x:=x) (List.mem_map.2 ⟨(x,s),hmem,rfl⟩) hwf
 have c10:=hN.cells.2.2.1
 have c5:w.cell? ⟨(P.sp x).s,5,none⟩=some (P.sp x).gv:=by simp [World.cell?,k1.box]
 have f5:w.frozen? ⟨(P.sp x).s,5,none⟩=false:=by simp [World.frozen?,k1.box]
 obtain ⟨Y,y1,y2,y3⟩:=k1.got;have hlen:s.got.length=Y.length:=by rw [<- y1,List.length_map]
 obtain ⟨ga,gc,hgv⟩:∃ a c,(P.sp x).gv=.slice a s.got.length c:=by
  rcases y2.2 with ⟨e,h0⟩ | ⟨g,cap,cur,e,_⟩
  ·exact ⟨none,0,by rw [e,hlen,h0]⟩
  ·exact ⟨_,cap,by rw [e,hlen]⟩
 have HG:Hid (Gave w (w.setCell ⟨(P.sp x).s,5,none⟩ (.slice none 0 0)) o n b { N with sb:=A++(x,{ s with got:=[] })::B } (.slice ga s.got.length gc) s.got):=by
  refine ξ0 ?_
  have q:=k1.sep
  have ho:Only [(P.sp x).s] w (w.setCell ⟨(P.sp x).s,5,none⟩ (.slice none 0 0)):=(Only.refl _ _).setCell (by simp) _
  have hin:∀ k∈[(P.sp x).s],k∈ξ7 (P.sp x):=by intro k hk;simp at hk;rw [hk];simp [ξ7]
  have hc:Chg o (fun g=>g=⟨n,4,x⟩) w (w.setCell ⟨(P.sp x).s,5,none⟩ (.slice none 0 0)):=ξ1H ho k1 k2 hin
  have nb:=(k1.nob.sub hin).old
  obtain ⟨M',eM,hM⟩:=k1.ord;have ha:SbAt (w.setCell ⟨(P.sp x).s,5,none⟩ (.slice none 0 0)) o { P.sp x with gv:=.slice none 0 0 } { s with got:=[] }:=by
   refine ⟨heap_setCell_same w _ 5 _ _ _ k1.box,⟨M',eM,hM.only ho (by simp;exact fun e=>q.so e.symm) (by simp;exact fun e=>q.sm e.symm) nb⟩,k1.lay.only ho (by simp;exact fun e=>q.sl e.symm),k1.out.only ho (by simp;exact fun e=>q.su e.symm),ξH.nil _ _⟩
  have h1:=hN.sub hn hs hI.ris hc (Ext.refl _ _) (Q:={ P.sp x with gv:=.slice none 0 0 }) rfl ha (fun k hk=>k2 k (by
   simp only [ξ7,List.mem_cons,Value.ownBlock,Option.mem_toList] at hk ⊢
   rcases hk with e | e | e | e | e | e
   ·exact .inl e
   ·exact .inr (.inl e)
   ·exact .inr (.inr (.inl e))
   ·exact .inr (.inr (.inr (.inl e)))
   ·exact .inr (.inr (.inr (.inr (.inl e))))
   ·simp at e))
  have hgb:∀ k,(P.sp x).gv.ownBlock=some k->o k=⟨n,4,x⟩:=fun k hk=>k2 k (by simp only [ξ7,List.mem_cons];simp [hk])
  refine ⟨away o (P.sp x).gv.ownBlock,_,h1.unown hn hgb ?_,?_,?_,fun k=>ξdD hgb k,ξI hc⟩
  ·intro s' _ k hk hm;have:=q.gv k hk
   simp only [updS,if_pos,ξ7,List.mem_cons,Value.ownBlock,Option.mem_toList] at hm
   rcases hm with e | e | e | e | e | e
   ·exact this.1 e
   ·exact this.2.1 e
   ·exact this.2.2.1 e
   ·exact this.2.2.2.1 e
   ·exact this.2.2.2.2 e
   ·simp at e
  ·rw [<- hgv];exact ⟨Y,y1,ho.owns y2 (fun k hk=>by simp;exact (q.gv k hk).1),fun z hz=>((y3 z hz).own ho (ξ13 k2 hn hin) (Ext.refl _ _)).unown _⟩
  ·rw [<- hgv];intro k hk;unfold away;rw [if_pos (by simpa using hk)]
 rw [hgv] at c5;obtain ⟨sp,hsp⟩:∃ sp,(P.sp x).s=sp:=⟨_,rfl⟩;rw [hsp] at hl c5 f5 HG;obtain ⟨gl,hgl⟩:∃ gl,s.got.length=gl:=⟨_,rfl⟩;rw [hgl] at c5 HG;rw [hgl];clear hN hs hI hmem k1 k2 hwf hown hS y1 y2 y3 hlen hgv hsp hgl;go_enter Tryz.func49,Tryz.ntmps49
 go_wp2_with fail
 go_ret2
 exact ⟨ga,gc,rfl,HG.out⟩
def SentG (w w':World) (o:Nat->Tg) (n b:Nat) (N:Nd) (e:Ending):Prop:=
 ∃ lv o' P,e=.returned lv/\NAt w' o' n b P { N with lt:=[] }/\ξG w' o' lv N.lt/\Own o' ξ2 lv.ownBlock.toList/\(∀ k,o' k=o k∨((o k).n=n/\o' k=ξ2))/\Chg o (mine n) w w'
theorem ξ8q (n b:Nat) (o:Nat->Tg) (P:NP) (N:Nd) (w:World) (hn:n≠0) (h:NAt w o n b P N) :
 Calls Tryz.prog 94 #[.pointer (some ⟨b,0,none⟩)] w fun e w'=>SentG w w' o n b N e:=by
 have c13:=h.cells.2.2.2.2.2
 have f13:=h.free 13
 have HP:Hid (SentG w (w.setCell ⟨b,13,none⟩ (.slice none 0 0)) o n b N (.returned P.lv)):=by
  have hg:=h.chgB 13 (.slice none 0 0)
  have h0:∀ g:Tg,g=⟨n,0,0⟩->g.n≠0:=by rintro g rfl;exact hn
  have h1:=h.setL hn (ξG.nil w o) (by intro k hk;simp [Value.ownBlock] at hk)
  have hl:=h.ltr.chg hg h.ltt (by simp) h0 (Ext.refl _ _)
  have hoff:∀ k,k∈P.lv.ownBlock.toList->o k=⟨n,1,0⟩:=h.ltt
  let o':Nat->Tg:=fun k=>if k∈P.lv.ownBlock.toList then ξ2 else o k
  have hkeep:∀ k,o k≠⟨n,1,0⟩->o' k=o k:=fun k hk=>if_neg (fun hm=>hk (hoff k hm))
  have hOwn:∀ g bs,g≠⟨n,1,0⟩->Own o g bs->Own o' g bs:=fun g bs hgn ho k hk=>(hkeep k (by rw [ho k hk];exact hgn)).trans (ho k hk)
  have hBody:∀ W v L,ξl W o v L->ξl W o' v L:=by
   rintro W v L ⟨a,m,c,rfl,hA,hF⟩;refine ⟨a,m,c,rfl,hA,fun hm ad e=>?_⟩
   have:=hF hm ad e
   rw [hkeep _ (by intro hx;rw [hx] at this;exact hn this)]
   exact this
  refine ⟨P.lv,o',_,rfl,⟨h1.box,?_,?_,h1.sbm,?_,?_,h1.pul,hOwn _ _ (by simp) h1.put,ξG.nil _ _,by intro k hk;simp [Value.ownBlock] at hk⟩,?_,?_,?_,ξI hg⟩
  ·rw [hkeep b (by rw [h.tag];simp)];exact h1.tag
  ·intro i hi t ht;obtain ⟨q1,q2⟩:=h1.trs i hi t ht;exact ⟨q1,hOwn _ _ (by simp) q2⟩
  ·rw [hkeep P.sm (by rw [h.smt];simp)];exact h1.smt
  ·intro x hx;obtain ⟨q1,q2⟩:=h1.sbs x hx;refine ⟨⟨q1.box,q1.ord,q1.lay,q1.out,?_⟩,hOwn _ _ (by simp) q2⟩
   obtain ⟨X,r1,r2,r3⟩:=q1.got;exact ⟨X,r1,r2,fun y hy=>hBody _ _ _ (r3 y hy)⟩
  ·obtain ⟨X,r1,r2,r3⟩:=hl;exact ⟨X,r1,r2,fun y hy=>⟨hBody _ _ _ (r3 y hy).1,(r3 y hy).2⟩⟩
  ·intro k hk;exact if_pos hk
  ·intro k;by_cases hm:k∈P.lv.ownBlock.toList
   ·exact .inr ⟨by rw [hoff k hm],if_pos hm⟩
   ·exact .inl (if_neg hm)
 obtain ⟨X,_,hr,_⟩:=h.ltr;obtain ⟨la,ln,lc,hlv⟩:∃ a m c,P.lv=.slice a m c:=by
  rcases hr.2 with ⟨e,_⟩ | ⟨g,cap,cur,e,_⟩
  ·exact ⟨_,_,_,e⟩
  ·exact ⟨_,_,_,e⟩
 rw [hlv] at c13 HP;clear h hr hlv;go_enter Tryz.func94,Tryz.ntmps94
 go_wp2_with fail
 go_ret
 exact HP.out
end Go.Proofs.YtpiamlgmadnepaaGreat.ND
