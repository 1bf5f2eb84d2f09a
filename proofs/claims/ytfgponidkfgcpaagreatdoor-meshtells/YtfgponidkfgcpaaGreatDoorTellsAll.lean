/-
  TellsA, TellsB, TellsW in one text.
-/
import Derived.Test.YtfgponidkfgcpaaGreatDoorMeshMath
import Derived.Test.YtfgponidkfgcpaaGreatDoorLawPkP
import Derived.Test.YtfgponidkfgcpaaGreatDoorToldP
import Derived.Deep.CutRange
import Derived.Deep.LoopGhost

namespace Go.Proofs.YtfgponidkfgcpaaGreatDoor.MS
open Go.ChangeShapes Go.WideShapes Go.ChangeAt Go.RowKit Go.Maps Go.Proofs.YtfgponidkfgcpaaGreatDoor.Mem Go.Proofs.YtfgponidkfgcpaaGreatDoor.NO Go.Proofs.YtfgponidkfgcpaaGreatDoor.ND
set_option linter.unusedVariables false
def oth (r:Int) (e:TM.Ed):Int:=e.a+e.b - r
def ofKid (P:List Int) (r:Int) (e:TM.Ed):Bool:=decide ((e.a=r∨e.b=r)∧TM.dg P (oth r e).toNat=r)
def nkid (P:List Int) (r:Int) (L:List TM.Ed):Nat:=(L.filter (ofKid P r)).length
theorem nkid_step (P:List Int) (r:Int) {L:List TM.Ed} {j:Nat} (h:j<L.length):nkid P r (L.take (j+1))=nkid P r (L.take j)+(if ofKid P r (L.getD j TM.zz)=true then 1 else 0):=by
  rw [TM.take_succ h]
  unfold nkid
  rw [List.filter_append,List.length_append]
  by_cases c:ofKid P r (L.getD j TM.zz)=true
  · rw [if_pos c,List.filter_cons,if_pos c];rfl
  · rw [if_neg c,List.filter_cons,if_neg c];rfl
theorem nkid_le (P:List Int) (r:Int) (L:List TM.Ed) (j:Nat):nkid P r (L.take j)≤j:=by
  unfold nkid
  have:=List.length_filter_le (ofKid P r) (L.take j)
  have:=List.length_take_le j L
  omega
theorem nkid_kids {n r:Nat} {E:List TM.Ed} {p d:List Int} (hT:Trees n r E p d):nkid p (r:Int) E=(TM.kd p (r:Int) n).length:=by
  have hlen:nkid p (r:Int) E=((E.filter (ofKid p (r:Int))).map (oth (r:Int))).length:=by rw [List.length_map];rfl
  rw [hlen]
  refine List.Perm.length_eq ((List.perm_ext_iff_of_nodup ?_ (kd_nodup p (r:Int) n)).2 ?_)
  · rw [List.nodup_iff_pairwise_ne,List.pairwise_map]
    have h1:(E.filter (ofKid p (r:Int))).Pairwise fun e f=>TM.two e f=false:=List.Pairwise.filter _ hT.fit.uq
    refine List.Pairwise.imp_of_mem ?_ h1
    intro e f he hf h2 h3
    rw [List.mem_filter] at he hf
    have a1:=(of_decide_eq_true he.2).1
    have a2:=(of_decide_eq_true hf.2).1
    have:TM.two e f=true:=by
      rw [TM.two_iff]
      unfold oth at h3
      omega
    rw [this] at h2
    cases h2
  · intro x
    rw [List.mem_map]
    constructor
    · rintro ⟨e,he,rfl⟩
      rw [List.mem_filter] at he
      obtain ⟨hm,hk⟩:=he
      obtain ⟨k1,k2⟩:=of_decide_eq_true hk
      have ho:=TM.okE_iff.1 (hT.fit.ok e hm)
      have hx:0≤oth (r:Int) e∧oth (r:Int) e<n:=by unfold oth;omega
      unfold TM.kd
      rw [List.mem_map]
      refine ⟨(oth (r:Int) e).toNat,?_,?_⟩
      · rw [List.mem_filter,List.mem_range]
        exact ⟨by omega,decide_eq_true k2⟩
      · show ((oth (r:Int) e).toNat:Int)=_
        omega
    · intro hx
      obtain ⟨i,rfl,hi,hp⟩:=kd_is hx
      obtain ⟨k,e1,hk,hc,_⟩:=hT.pars.par hi (by rw [hp];omega)
      rw [hp] at e1
      have e2:k=r:=by omega
      subst e2
      rcases TM.cst_cases E (k:Int) (i:Int) with ⟨h0,_⟩ | ⟨e,he,hj,_⟩
      · omega
      · have hj':=TM.jn_iff.1 hj
        refine ⟨e,?_,by unfold oth;omega⟩
        rw [List.mem_filter]
        refine ⟨he,decide_eq_true ⟨by omega,?_⟩⟩
        have:(oth (k:Int) e).toNat=i:=by unfold oth;omega
        rw [this]
        exact hp
def tp:Pk:=⟨3,3,0,0,true,[3,0]⟩
def tq (n r k:Nat) (E:List TM.Ed):Plan:=⟨n,0,E,fun _=>false,fun _=>r,fun _=>[],fun _=>[],fun _=>3,fun _ _=>tp,fun j=>if j=k then 1 else 0,fun _=>[]⟩
theorem tq_ok (n r k:Nat) (E:List TM.Ed):(tq n r k E).Ok:=by
  refine ⟨(fun k hk ho=>by cases ho),?_,?_⟩
  · intro j hj i hi
    have hi:i<(if j=k then 1 else 0):=hi
    split at hi
    · have:i=0:=by omega
      subst this
      exact ⟨rfl,by show 3+0≤65535;omega,by show PM.fault 3 3 0 0 2=0;decide,by show ∀ c∈[3,0],c<256;decide⟩
    · omega
  · intro j
    show (if j=k then 1 else 0)≤1000
    split<;>omega
def tR0:Nat→Int:=fun _=>-1
theorem t_send0 {w W:World} {b:Nat} {Q:Plan} {h:Nat→Nat→Nat} {X:List Fy} {sb:List (Int×Int)} (hz:PZ w W b Q h X tR0 sb) (tk s t l q:Int) (st:Bool) (a:Option Addr) (m c:Nat) :
    Calls Tryz.prog 7 #[.pointer (some ⟨b,0,none⟩),.int .i64 tk,.agg #[.int .i64 s,.int .i64 t,.int .i64 l,.int .i64 q,.bool st,.slice a m c]] W fun e w'=>e=.returned (errv (if okT tk=true then 5 else 1))∧Below W.heap.size W w':=by
  obtain ⟨M,⟨o,P,h1,h2,hb⟩,hP,e1,e2,e3⟩:=hz
  by_cases c':okT tk=true
  · rw [if_pos c']
    have:=of_decide_eq_true c'
    obtain ⟨k,rfl⟩:∃ k:Nat,tk=(k:Int)+1:=⟨(tk - 1).toNat,by omega⟩
    exact send_none b k o P M s t l q st a m c W h1 (by omega) (by rw [e1];rfl)
  · rw [if_neg c']
    exact send_track b tk s t l q st _ W (by simpa using c') ⟨a,m,c,rfl⟩
theorem t_pub_range {w W:World} {b:Nat} {Q:Plan} {h:Nat→Nat→Nat} {X:List Fy} {rt:Nat→Int} {sb:List (Int×Int)} (hz:PZ w W b Q h X rt sb) (tk at':Int) (hr:okT tk=false∨¬ (0≤at'∧at'<(Q.n:Int))) :
    Calls Tryz.prog 8 #[.pointer (some ⟨b,0,none⟩),.int .i64 tk,.int .i64 at'] W fun e w'=>e=.returned (errv 1)∧w'=W:=by
  obtain ⟨M,⟨o,P,h1,h2,hb⟩,hP,e1,e2,e3⟩:=hz
  exact publish_range b o P M tk at' W h1 (by rw [hP.n];exact hr)
theorem t_pub_twice {w W:World} {b:Nat} {Q:Plan} {h:Nat→Nat→Nat} {X:List Fy} {rt:Nat→Int} {sb:List (Int×Int)} (hz:PZ w W b Q h X rt sb) {k r:Nat} (hk:k<8) (hr:r<Q.n) (hrt:rt k≠-1) :
    Calls Tryz.prog 8 #[.pointer (some ⟨b,0,none⟩),.int .i64 ((k:Int)+1),.int .i64 (r:Int)] W fun e w'=>e=.returned (errv 7)∧w'=W:=by
  obtain ⟨M,⟨o,P,h1,h2,hb⟩,hP,e1,e2,e3⟩:=hz
  exact publish_clash b k r o P M W h1 hk (by rw [hP.n];exact hr) (by rw [e1];exact hrt)
structure TQ (Q:Plan) (n r k:Nat) (E:List TM.Ed) (p d:List Int):Prop where
  ok:Q.Ok
  n:Q.n=n
  now:Q.now=0
  on:Q.on k=true
  rt:Q.rt k=r
  mx:Q.mx k=1
  pk:Q.pk k 0=tp
  p:Q.p k=p
  d:Q.d k=d
theorem tq_pub {n r k:Nat} {E:List TM.Ed} {p d:List Int} (hT:Trees n r E p d):TQ ((tq n r k E).publish k p d) n r k E p d:=
  ⟨(tq_ok n r k E).publish hT,rfl,rfl,(publish_at _ k p d).1,rfl,if_pos rfl,rfl,(publish_at _ k p d).2.1,(publish_at _ k p d).2.2⟩
theorem t_pub {w W:World} {b n r k:Nat} {E:List TM.Ed} (hz:PZ w W b (tq n r k E) zeroH [] tR0 []) (hk:k<8) (hr:r<n) (hf:TM.ef (n:Int) E=0) :
    Calls Tryz.prog 8 #[.pointer (some ⟨b,0,none⟩),.int .i64 ((k:Int)+1),.int .i64 (r:Int)] W fun e w'=>e=.returned .nilIface∧∃ p d,Trees n r E p d∧PZ w w' b ((tq n r k E).publish k p d) zeroH [] (updN tR0 k (r:Int)) []:=by
  exact pz_publish hz hk rfl rfl hr hf
def subf (n:Nat) (d:List Int) (at' mo:Int):Nat:=if at'<0∨(n:Int)≤at'∨mo<0∨3<mo then 1 else if TM.dg d at'.toNat<0 then 5 else 0
def TZ (w W:World) (b n r k:Nat) (E:List TM.Ed) (p d:List Int):Prop:=∃ Q sb,TQ Q n r k E p d∧PZ w W b Q zeroH [] (updN tR0 k (r:Int)) sb∧sb.length≤1
theorem TZ.bel {w W:World} {b n r k:Nat} {E:List TM.Ed} {p d:List Int} (h:TZ w W b n r k E p d):Below w.heap.size w W:=by
  obtain ⟨Q,sb,_,hz,_⟩:=h
  exact hz.bel
theorem TZ.below {w W W':World} {b n r k:Nat} {E:List TM.Ed} {p d:List Int} (h:TZ w W b n r k E p d) (hb:Below W.heap.size W W'):TZ w W' b n r k E p d:=by
  obtain ⟨Q,sb,h1,hz,h2⟩:=h
  exact ⟨Q,sb,h1,hz.below hb,h2⟩
theorem t_sub {w W:World} {b n r k:Nat} {E:List TM.Ed} {p d:List Int} (hT:Trees n r E p d) (hk:k<8) (hz:PZ w W b ((tq n r k E).publish k p d) zeroH [] (updN tR0 k (r:Int)) []) (at' mo:Int) :
    Calls Tryz.prog 10 #[.pointer (some ⟨b,0,none⟩),.int .i64 ((k:Int)+1),.int .i64 at',.int .i64 mo] W fun e w'=>e=.returned (.tuple #[.int .i64 (if subf n d at' mo=0 then 1 else 0),errv (subf n d at' mo)])∧TZ w w' b n r k E p d:=by
  by_cases c1:0≤at'∧at'<(n:Int)
  · obtain ⟨v,rfl⟩:∃ v:Nat,at'=(v:Int):=⟨at'.toNat,by omega⟩
    have hv:v<n:=by omega
    by_cases c2:(mo<0∨3<mo)∨TM.dg d v<0
    · have hz':=hz
      obtain ⟨M,⟨o,P,h1,h2,hb⟩,hP,e1,e2,e3⟩:=hz
      have hok:=(hP.ok.nd v (by rw [hP.n];exact hv)).1
      have key:sF (M.nd v) ((k:Int)+1) mo=subf n d (v:Int) mo∧subf n d (v:Int) mo≠0:=by
        have hk1:¬ okT ((k:Int)+1)=false:=by simp [okT];omega
        by_cases c3:mo<0∨3<mo
        · have e1:sF (M.nd v) ((k:Int)+1) mo=1:=by unfold sF;rw [if_neg hk1,if_pos c3]
          have e2:subf n d (v:Int) mo=1:=by unfold subf;rw [if_pos (by omega)]
          exact ⟨e1.trans e2.symm,by omega⟩
        · have c4:TM.dg d v<0:=by omega
          have e2:subf n d (v:Int) mo=5:=by unfold subf;rw [Int.toNat_natCast,if_neg (by omega),if_pos c4]
          have:(M.nd v).tr k=none:=hP.no v hv k hk (by
            cases ha:((tq n r k E).publish k p d).at k v with
            | false=>rfl
            | true=>
              have:=(Plan.at_iff.1 ha).2
              rw [(publish_at (tq n r k E) k p d).2.2] at this
              omega)
          have e1:sF (M.nd v) ((k:Int)+1) mo=5:=by
            unfold sF
            rw [if_neg hk1,if_neg c3,if_pos (by show ((M.nd v).tr (((k:Int)+1) - 1).toNat).isNone=true;rw [show (((k:Int)+1) - 1).toNat=k by omega,this];rfl)]
          exact ⟨e1.trans e2.symm,by omega⟩
      rw [if_neg key.2,← key.1]
      refine (sub_badM b v o P M ((k:Int)+1) mo W h1 (by rw [hP.n];exact hv) (by rw [key.1];exact key.2) hok.si).mono ?_
      rintro e w' ⟨rfl,hb'⟩
      exact ⟨rfl,_,[],tq_pub hT,hz'.below hb',by simp⟩
    · have hs:subf n d (v:Int) mo=0:=by
        unfold subf
        rw [Int.toNat_natCast,if_neg (by omega),if_neg (by omega)]
      rw [hs,if_pos rfl]
      refine (pz_sub hz hk hv (Plan.at_iff.2 ⟨(publish_at _ k p d).1,by rw [(publish_at (tq n r k E) k p d).2.2];omega⟩) (by omega) (by omega) (by show (0:Nat)<20;omega) (by simp)).mono ?_
      rintro e w' ⟨rfl,hz'⟩
      refine ⟨rfl,_,_,?_,hz',by simp⟩
      have hq:=tq_pub (k:=k) hT
      exact ⟨hq.ok.addS _ _,hq.n,hq.now,hq.on,hq.rt,hq.mx,hq.pk,hq.p,hq.d⟩
  · have hs:subf n d at' mo=1:=by
      unfold subf
      rw [if_pos (by omega)]
    rw [hs,if_neg (by omega)]
    have hz':=hz
    obtain ⟨M,⟨o,P,h1,h2,hb⟩,hP,e1,e2,e3⟩:=hz
    refine (sub_range b o P M ((k:Int)+1) at' mo W h1 (by rw [hP.n];exact c1)).mono ?_
    rintro e w' ⟨rfl,rfl⟩
    exact ⟨rfl,_,[],tq_pub hT,hz',by simp⟩
def TU (w W:World) (b K:Nat) (now:Int):Prop:=∃ M,Zt w W b M∧MOk M∧M.fl.length=K∧M.nw=now
def TS (w W:World) (b K:Nat):Prop:=∃ M,Zt w W b M∧MOk M∧M.fl.length=K∧M.nw=0∧M.sb.length≤1∧∀ i,i<M.n→Lacks0 (M.nd i)
theorem TU.bel {w W:World} {b K:Nat} {now:Int} (h:TU w W b K now):Below w.heap.size w W:=by
  obtain ⟨M,hz,_⟩:=h
  exact hz.bel
theorem TU.below {w W W':World} {b K:Nat} {now:Int} (h:TU w W b K now) (hb:Below W.heap.size W W'):TU w W' b K now:=by
  obtain ⟨M,hz,h1⟩:=h
  exact ⟨M,hz.below hb,h1⟩
theorem TS.bel {w W:World} {b K:Nat} (h:TS w W b K):Below w.heap.size w W:=by
  obtain ⟨M,hz,_⟩:=h
  exact hz.bel
theorem TS.below {w W W':World} {b K:Nat} (h:TS w W b K) (hb:Below W.heap.size W W'):TS w W' b K:=by
  obtain ⟨M,hz,h1⟩:=h
  exact ⟨M,hz.below hb,h1⟩
theorem pipe_lacks {Q:Plan} {h:Nat→Nat→Nat} {X:List Fy} {M:Ms} (hP:Pipe Q h X M) {v:Nat} (hv:v<Q.n):Lacks0 (M.nd v):=by
  obtain ⟨kN,_⟩:=hP.ok.nd v (by rw [hP.n];exact hv)
  refine ⟨?_,fun x hx=>⟨?_,(kN.sb x hx).1.oi.x1⟩⟩
  · intro k hk t ht
    cases ha:Q.at k v with
    | true=>
      obtain ⟨t',h1,h2⟩:=hP.tr v hv k hk ha
      rw [ht] at h1
      cases h1
      exact h2.gM
    | false=>
      rw [hP.no v hv k hk ha] at ht
      cases ht
  · rw [hP.sb v hv] at hx
    obtain ⟨y,hy,rfl⟩:=List.mem_map.1 hx
    exact (hP.sr v hv y hy).oM
theorem t_send {w W0 W:World} {b n r k:Nat} {E:List TM.Ed} {p d:List Int} (hT:Trees n r E p d) (hk:k<8) (hz:TZ w W0 b n r k E p d) (hb0:Below W0.heap.size W0 W) (g:Nat) (hA:Arg W (some ⟨g,0,none⟩) 2 [3,0]) (hg:W0.heap.size≤g) :
    Calls Tryz.prog 7 #[.pointer (some ⟨b,0,none⟩),.int .i64 ((k:Int)+1),.agg #[.int .i64 3,.int .i64 3,.int .i64 0,.int .i64 0,.bool true,.slice (some ⟨g,0,none⟩) 2 2]] W fun e w'=>e=.returned .nilIface∧TS w w' b (nkid p (r:Int) E):=by
  obtain ⟨Q,sb,hq,hz,hl⟩:=hz
  refine (pz_send hq.ok hz hb0 hk hq.on (by rw [updN_at,hq.rt]) (by show 0<Q.mx k;rw [hq.mx];omega) (some ⟨g,0,none⟩) 2 (p:=tp) hq.pk hA (fun e=>by cases e) (fun _ ad e=>by cases e;exact .inr hg)).mono ?_
  rintro e w' ⟨rfl,M,h1,hP,e1,e2,e3⟩
  refine ⟨rfl,M,h1,hP.ok,?_,by rw [hP.nw,hq.now],by rw [e2];exact hl,fun i hi=>pipe_lacks hP (by rw [← hP.n];exact hi)⟩
  rw [hP.fl,List.length_map,List.nil_append,nkid_kids hT]
  unfold Plan.news TM.kd
  rw [List.length_map,List.length_map,hq.rt,hq.p,hq.n]
theorem t_flying {w W:World} {b K:Nat} {now:Int} (h:TU w W b K now):Calls Tryz.prog 12 #[.pointer (some ⟨b,0,none⟩)] W fun e w'=>e=.returned (.int .i64 (K:Int))∧w'=W:=by
  obtain ⟨M,⟨o,P,h1,h2,hb⟩,hM,e1,e2⟩:=h
  rw [← e1]
  exact flying_calls b o P M W h1
theorem TS.tu {w W:World} {b K:Nat} (h:TS w W b K):TU w W b K 0:=by
  obtain ⟨M,h1,h2,h3,h4,_⟩:=h
  exact ⟨M,h1,h2,h3,h4⟩
theorem t_land {w W:World} {b K:Nat} {now:Int} (h:TU w W b K now):Calls Tryz.prog 13 #[.pointer (some ⟨b,0,none⟩),.int .i64 (K:Int)] W fun e w'=>e=.returned (errv 1)∧Below W.heap.size W w':=by
  obtain ⟨M,⟨o,P,h1,h2,hb⟩,hM,e1,e2⟩:=h
  exact land_no b o P M (K:Int) W h1 (by omega)
theorem t_lose {w W:World} {b K:Nat} {now:Int} (h:TU w W b K now):Calls Tryz.prog 14 #[.pointer (some ⟨b,0,none⟩),.int .i64 (-1)] W fun e w'=>e=.returned (errv 1)∧Below W.heap.size W w':=by
  obtain ⟨M,⟨o,P,h1,h2,hb⟩,hM,e1,e2⟩:=h
  exact lose_no b o P M (-1) W h1 (by omega)
theorem t_twice {w W:World} {b K:Nat} {now:Int} (h:TU w W b K now):Calls Tryz.prog 15 #[.pointer (some ⟨b,0,none⟩),.int .i64 (K:Int)] W fun e w'=>e=.returned (errv 1)∧w'=W:=by
  obtain ⟨M,⟨o,P,h1,h2,hb⟩,hM,e1,e2⟩:=h
  exact twice_no b o P M (K:Int) W h1 (by omega)
theorem t_got {w W:World} {b K:Nat} (h:TS w W b K):Calls Tryz.prog 16 #[.pointer (some ⟨b,0,none⟩),.int .i64 2] W fun e w'=>e=.returned (.tuple #[.slice none 0 0,errv 5])∧Below W.heap.size W w':=by
  obtain ⟨M,⟨o,P,h1,h2,hb⟩,hM,e1,e2,e3,_⟩:=h
  exact got_none b o P M 2 W h1 (by omega)
def tickf (by':Int):Nat:=if by'<1∨1000<by' then 1 else 0
theorem t_tick {w W:World} {b K:Nat} (h:TS w W b K) (hK:K≤400) (by':Int):Calls Tryz.prog 17 #[.pointer (some ⟨b,0,none⟩),.int .i64 by'] W fun e w'=>e=.returned (errv (tickf by'))∧∃ K',K≤K'∧K'<900∧TU w w' b K' (if tickf by'=0 then by' else 0):=by
  obtain ⟨M,⟨o,P,h1,h2,hb⟩,hM,e1,e2,e3,e4⟩:=h
  by_cases c:by'<1∨1000<by'
  · have:tickf by'=1:=if_pos c
    rw [this,if_neg (by omega)]
    refine (tick_range b by' W c).mono ?_
    rintro e w' ⟨rfl,rfl⟩
    exact ⟨rfl,K,Nat.le_refl _,by omega,M,⟨o,P,h1,h2,hb⟩,hM,e1,e2⟩
  · have:tickf by'=0:=if_neg c
    rw [this,if_pos rfl]
    refine (tick_calls b o P M by' W h1 hM (by omega) (by omega) (by omega) (fun i hi=>nogive_lacks (e4 i hi)) (by omega)).mono ?_
    rintro e w' ⟨rfl,hd⟩
    refine ⟨rfl,(M.ticked (M.nw+by') M.n).fl.length,?_,?_,M.ticked (M.nw+by') M.n,Zt.next (M:=M) hb h2 hd,hM.ticked (by omega) (by omega) _,rfl,by show M.nw+by'=by';omega⟩
    · show K≤(M.fl++_).length
      rw [List.length_append,e1]
      omega
    · show (M.fl++(List.range M.n).flatMap fun k=>outs k ((M.nd k).tick (M.nw+by')).lt).length<900
      rw [List.length_append,e1]
      have:=outs_len M (M.nw+by') M.n (fun k hk=>hM.tick28 _ hk)
      have:=hM.n16
      omega
theorem t_twice0 {w W:World} {b K:Nat} {now:Int} (h:TU w W b K now) (h0:0<K) (h9:K<900):Calls Tryz.prog 15 #[.pointer (some ⟨b,0,none⟩),.int .i64 0] W fun e w'=>e=.returned .nilIface∧TU w w' b (K+1) now:=by
  obtain ⟨M,⟨o,P,h1,h2,hb⟩,hM,e1,e2⟩:=h
  have hf:M.fl[0]?=some M.fl[0]:=List.getElem?_eq_getElem (by omega)
  refine (twice_calls b o P M 0 M.fl[0] W h1 hf (by omega)).mono ?_
  rintro e w' ⟨rfl,hd⟩
  refine ⟨rfl,M.twice M.fl[0],Zt.next (M:=M) hb h2 hd,⟨hM.n1,hM.n16,hM.nw,hM.nd⟩,?_,e2⟩
  show (M.fl++[M.fl[0]]).length=K+1
  rw [List.length_append,List.length_singleton]
  omega
theorem t_lose0 {w W:World} {b K:Nat} {now:Int} (h:TU w W b (K+1) now):Calls Tryz.prog 14 #[.pointer (some ⟨b,0,none⟩),.int .i64 0] W fun e w'=>e=.returned .nilIface∧TU w w' b K now:=by
  obtain ⟨M,⟨o,P,h1,h2,hb⟩,hM,e1,e2⟩:=h
  refine (lose_calls b o P M 0 W h1 (by omega)).mono ?_
  rintro e w' ⟨rfl,hd⟩
  refine ⟨rfl,M.lose 0,Zt.next (M:=M) hb h2 hd,⟨hM.n1,hM.n16,hM.nw,hM.nd⟩,?_,e2⟩
  show (M.fl.eraseIdx 0).length=K
  rw [List.length_eraseIdx_of_lt (by omega),e1]
  rfl
theorem t_now {w W:World} {b K:Nat} {now:Int} (h:TU w W b K now):Calls Tryz.prog 18 #[.pointer (some ⟨b,0,none⟩)] W fun e w'=>e=.returned (.int .i64 now)∧Below W.heap.size W w':=by
  obtain ⟨M,⟨o,P,h1,h2,hb⟩,hM,e1,e2⟩:=h
  rw [← e2]
  exact now_calls b o P M W h1
theorem tell_f (f:Nat) (W:World) (hf:f≤100) (hg:W.cell? ⟨0,0,none⟩=some (.iface 205 (.agg #[.pointer (some ⟨1,25,none⟩)]))) :
    Calls Tryz.prog 6 #[errv f,.int .i64 (f:Int)] W fun e w'=>e=.returned (.bool true)∧Below W.heap.size W w':=by
  by_cases h0:f=0
  · subst h0
    refine (Told.same_nil 0 W).mono ?_
    rintro e w' ⟨rfl,rfl⟩
    exact ⟨rfl,Below.refl _ _⟩
  · rw [errv_pos h0]
    refine (Told.same_err f f W (by omega) (by omega) hg).mono ?_
    rintro e w' ⟨rfl,hb⟩
    exact ⟨by simp,hb⟩
set_option maxHeartbeats 1000000 in
set_option maxRecDepth 100000 in
theorem tells_bad (N:Int) (a:Option Addr) (n cap:Nat) (E:List TM.Ed) (tk rt at' mo by':Int) (w:World) (hE:Tree.EArg w a n E) (hnc:n≤cap) (hf:TM.ef N E≠0) :
    Calls Tryz.prog 3 #[.int .i64 N,.slice a n cap,.int .i64 tk,.int .i64 rt,.int .i64 at',.int .i64 mo,.int .i64 by'] w fun e w'=>e=.returned (.bool true)∧Below w.heap.size w w':=by
  have C1:=hidden (new_bad N a n cap E w hE hnc hf)
  have C2:=hidden (fun W (hW:Below w.heap.size w W)=>Tree.check_calls N a n cap E W (hE.below hW) hnc)
  rw [show Tree.errv (TM.ef N E)=errv (TM.ef N E) from rfl] at C2
  rw [errv_pos hf] at C1 C2
  generalize TM.ef N E=f at *
  clear hE hnc hf
  go_enter Tryz.func3,Tryz.ntmps3
  go_wp2_with fail
  refine C1.out.mono ?_
  rintro e w1 ⟨rfl,hb1⟩
  have HB1:=hidden hb1
  clear C1 hb1
  go_wp2_with fail
  refine (C2.out w1 HB1.out).mono ?_
  rintro e w2 ⟨rfl,hb2⟩
  have HB2:=hidden (HB1.out.trans (hb2.mono HB1.out.size))
  clear C2 hb2
  go_wp2_with fail
  go_ret
  exact ⟨rfl,HB2.out⟩
set_option maxHeartbeats 4000000 in
set_option maxRecDepth 100000 in
theorem tells_no (nn:Nat) (a:Option Addr) (n cap:Nat) (E:List TM.Ed) (tk rt at' mo by':Int) (w:World) (hg:w.cell? ⟨0,0,none⟩=some (.iface 205 (.agg #[.pointer (some ⟨1,25,none⟩)]))) (hE:Tree.EArg w a n E) (hn0:a=none→n=0∧cap=0) (hnc:n≤cap) (hf:TM.ef (nn:Int) E=0) (hno:tk<1∨8<tk∨rt<0∨(nn:Int)≤rt) :
    Calls Tryz.prog 3 #[.int .i64 (nn:Int),.slice a n cap,.int .i64 tk,.int .i64 rt,.int .i64 at',.int .i64 mo,.int .i64 by'] w fun e w'=>e=.returned (.bool true)∧Below w.heap.size w w':=by
  have hnn:=(TM.ef_zero.1 hf).2.hi
  rw [Int.toNat_natCast] at hnn
  have C1:=hidden (pz_new (w:=w) (W:=w) (Q:=tq nn 0 0 E) (Below.refl _ _) a n cap hE hn0 hnc hf rfl (fun _=>rfl) (fun _=>rfl))
  rw [show (tq nn 0 0 E).n=nn from rfl] at C1
  have HCk:Hid (∀ W,Below w.heap.size w W→Calls Tryz.prog 5 #[.int .i64 (nn:Int),.slice a n cap] W fun e w'=>e=.returned .nilIface∧Hid (Below W.heap.size W w')):=by
    refine hidden ?_
    intro W hW
    refine (Tree.check_calls (nn:Int) a n cap E W (hE.below hW) hnc).mono ?_
    rw [hf]
    rintro e w' ⟨rfl,hb⟩
    exact ⟨rfl,hidden hb⟩
  have HTo:Hid (∀ (f:Nat) W,f≤100→Below w.heap.size w W→Calls Tryz.prog 6 #[errv f,.int .i64 (f:Int)] W fun e w'=>e=.returned (.bool true)∧Below W.heap.size W w'):=hidden (fun f W hf hb=>tell_f f W hf (ext_cell hb hg))
  have HPb:Hid (∀ W b,PZ w W b (tq nn 0 0 E) zeroH [] tR0 []→Calls Tryz.prog 8 #[.pointer (some ⟨b,0,none⟩),.int .i64 tk,.int .i64 rt] W fun e w'=>e=.returned (errv 1)∧w'=W):=hidden (fun W b hz=>t_pub_range hz tk rt (by
    show okT tk=false∨¬ (0≤rt∧rt<(nn:Int))
    by_cases c:1≤tk∧tk≤8
    · right;omega
    · left;exact decide_eq_false c))
  obtain ⟨g,hg5⟩:∃ g:Nat,(if okT tk=true then 5 else 1)=g:=⟨_,rfl⟩
  have hgi:(if tk<1∨8<tk then g=1 else g=5):=by
    rw [← hg5]
    unfold okT
    by_cases c:tk<1∨8<tk
    · rw [if_pos c,if_neg (by simp;omega)]
    · rw [if_neg c,if_pos (by simp;omega)]
  have HS0:Hid (∀ W b,PZ w W b (tq nn 0 0 E) zeroH [] tR0 []→Calls Tryz.prog 7 #[.pointer (some ⟨b,0,none⟩),.int .i64 tk,.agg #[.int .i64 0,.int .i64 0,.int .i64 0,.int .i64 0,.bool false,.slice none 0 0]] W fun e w'=>e=.returned (errv g)∧Below W.heap.size W w'):=hidden (fun W b hz=>by rw [← hg5];exact t_send0 hz tk 0 0 0 0 false none 0 0)
  have HNo:=hidden hno
  have HGi:=hidden hgi
  clear hE hn0 hnc hf hg hg5 hno hgi
  go_enter Tryz.func3,Tryz.ntmps3
  go_wp2_with fail
  refine C1.out.mono ?_
  rintro e w1 ⟨b,rfl,H1⟩
  have H1:=hidden H1
  clear C1
  go_wp2_with fail
  refine (HCk.out w1 H1.out.bel).mono ?_
  rintro e w2 ⟨rfl,hb2⟩
  have H2:=hidden (H1.out.below hb2.out)
  clear H1 hb2
  by_cases c1:tk<1∨8<tk
  · obtain rfl:g=1:=by have:=HGi.out;rw [if_pos c1] at this;exact this
    by_cases c2:tk<1
    · have e0:decide (tk<1)=true:=by simpa using c2
      clear c1 c2
      go_wp2_with fail
      refine (HS0.out w2 b H2.out).mono ?_
      rintro e w3 ⟨rfl,hb3⟩
      have H3:=hidden (H2.out.below hb3)
      clear H2 hb3
      go_wp2_with fail
      refine (HTo.out 1 w3 (by omega) H3.out.bel).mono ?_
      rintro e w4 ⟨rfl,hb4⟩
      have H4:=hidden (H3.out.below hb4)
      clear H3 hb4
      go_wp2_with fail
      refine (HPb.out w4 b H4.out).mono ?_
      rintro e w5 ⟨rfl,hw5⟩
      obtain rfl:w4=w5:=hw5.symm
      go_wp2_with fail
      refine (HTo.out 1 w4 (by omega) H4.out.bel).mono ?_
      rintro e w6 ⟨rfl,hb6⟩
      have HB6:=hidden (H4.out.bel.trans (hb6.mono H4.out.bel.size))
      go_wp2_with fail
      go_ret
      exact ⟨rfl,HB6.out⟩
    · have e0:decide (tk<1)=false:=by simpa using c2
      have e1:decide (8<tk)=true:=by simp;omega
      clear c1 c2
      go_wp2_with fail
      refine (HS0.out w2 b H2.out).mono ?_
      rintro e w3 ⟨rfl,hb3⟩
      have H3:=hidden (H2.out.below hb3)
      clear H2 hb3
      go_wp2_with fail
      refine (HTo.out 1 w3 (by omega) H3.out.bel).mono ?_
      rintro e w4 ⟨rfl,hb4⟩
      have H4:=hidden (H3.out.below hb4)
      clear H3 hb4
      go_wp2_with fail
      refine (HPb.out w4 b H4.out).mono ?_
      rintro e w5 ⟨rfl,hw5⟩
      obtain rfl:w4=w5:=hw5.symm
      go_wp2_with fail
      refine (HTo.out 1 w4 (by omega) H4.out.bel).mono ?_
      rintro e w6 ⟨rfl,hb6⟩
      have HB6:=hidden (H4.out.bel.trans (hb6.mono H4.out.bel.size))
      go_wp2_with fail
      go_ret
      exact ⟨rfl,HB6.out⟩
  · obtain rfl:g=5:=by have:=HGi.out;rw [if_neg c1] at this;exact this
    have e0:decide (tk<1)=false:=by simp;omega
    have e1:decide (8<tk)=false:=by simp;omega
    have c3:rt<0∨(nn:Int)≤rt:=by have:=HNo.out;omega
    clear c1
    go_wp2_with fail
    refine (HS0.out w2 b H2.out).mono ?_
    rintro e w3 ⟨rfl,hb3⟩
    have H3:=hidden (H2.out.below hb3)
    clear H2 hb3
    go_wp2_with fail
    refine (HTo.out 5 w3 (by omega) H3.out.bel).mono ?_
    rintro e w4 ⟨rfl,hb4⟩
    have H4:=hidden (H3.out.below hb4)
    clear H3 hb4
    by_cases c4:rt<0
    · have e2:decide (rt<0)=true:=by simpa using c4
      clear c3 c4
      go_wp2_with fail
      refine (HPb.out w4 b H4.out).mono ?_
      rintro e w5 ⟨rfl,hw5⟩
      obtain rfl:w4=w5:=hw5.symm
      go_wp2_with fail
      refine (HTo.out 1 w4 (by omega) H4.out.bel).mono ?_
      rintro e w6 ⟨rfl,hb6⟩
      have HB6:=hidden (H4.out.bel.trans (hb6.mono H4.out.bel.size))
      go_wp2_with fail
      go_ret
      exact ⟨rfl,HB6.out⟩
    · have e2:decide (rt<0)=false:=by simpa using c4
      have e3:decide ((nn:Int)≤rt)=true:=by simp;omega
      clear c3 c4
      go_wp2_with fail
      refine (HPb.out w4 b H4.out).mono ?_
      rintro e w5 ⟨rfl,hw5⟩
      obtain rfl:w4=w5:=hw5.symm
      go_wp2_with fail
      refine (HTo.out 1 w4 (by omega) H4.out.bel).mono ?_
      rintro e w6 ⟨rfl,hb6⟩
      have HB6:=hidden (H4.out.bel.trans (hb6.mono H4.out.bel.size))
      go_wp2_with fail
      go_ret
      exact ⟨rfl,HB6.out⟩
set_option maxHeartbeats 8000000 in
set_option maxRecDepth 100000 in
theorem tells_good (nn r k:Nat) (a:Option Addr) (n cap:Nat) (E:List TM.Ed) (tk rt at' mo by':Int) (w:World) (hg:w.cell? ⟨0,0,none⟩=some (.iface 205 (.agg #[.pointer (some ⟨1,25,none⟩)]))) (hE:Tree.EArg w a n E) (hn0:a=none→n=0∧cap=0) (hnc:n≤cap) (hf:TM.ef (nn:Int) E=0) (hk:k<8) (hr:r<nn) (htk:tk=(k:Int)+1) (hrt:rt=(r:Int)) :
    Calls Tryz.prog 3 #[.int .i64 (nn:Int),.slice a n cap,.int .i64 tk,.int .i64 rt,.int .i64 at',.int .i64 mo,.int .i64 by'] w fun e w'=>e=.returned (.bool true)∧Below w.heap.size w w':=by
  have hfit:=(TM.ef_zero.1 hf).2
  rw [Int.toNat_natCast] at hfit
  have hnn:=hfit.hi
  have hnl:n≤200:=by have:=hfit.len;rw [hE.2.1] at this;exact this
  have hEl:=hE.2.1
  have C1:=hidden (pz_new (w:=w) (W:=w) (Q:=tq nn r k E) (Below.refl _ _) a n cap hE hn0 hnc hf rfl (fun _=>rfl) (fun _=>rfl))
  rw [show (tq nn r k E).n=nn from rfl] at C1
  have HCk:Hid (∀ W,Below w.heap.size w W→Calls Tryz.prog 5 #[.int .i64 (nn:Int),.slice a n cap] W fun e w'=>e=.returned .nilIface∧Hid (Below W.heap.size W w')):=by
    refine hidden ?_
    intro W hW
    refine (Tree.check_calls (nn:Int) a n cap E W (hE.below hW) hnc).mono ?_
    rw [hf]
    rintro e w' ⟨rfl,hb⟩
    exact ⟨rfl,hidden hb⟩
  have HTo:Hid (∀ (f:Nat) W,f≤100→Below w.heap.size w W→Calls Tryz.prog 6 #[errv f,.int .i64 (f:Int)] W fun e w'=>e=.returned (.bool true)∧Below W.heap.size W w'):=hidden (fun f W hf hb=>tell_f f W hf (ext_cell hb hg))
  have HS0:Hid (∀ W b,PZ w W b (tq nn r k E) zeroH [] tR0 []→Calls Tryz.prog 7 #[.pointer (some ⟨b,0,none⟩),.int .i64 tk,.agg #[.int .i64 0,.int .i64 0,.int .i64 0,.int .i64 0,.bool false,.slice none 0 0]] W fun e w'=>e=.returned (errv 5)∧Below W.heap.size W w'):=hidden (fun W b hz=>by
    have:=t_send0 hz tk 0 0 0 0 false none 0 0
    rw [if_pos (by subst htk;simp [okT];omega)] at this
    exact this)
  have HP:Hid (∀ W b,PZ w W b (tq nn r k E) zeroH [] tR0 []→Calls Tryz.prog 8 #[.pointer (some ⟨b,0,none⟩),.int .i64 tk,.int .i64 rt] W fun e w'=>e=.returned .nilIface∧∃ p d,Trees nn r E p d∧PZ w w' b ((tq nn r k E).publish k p d) zeroH [] (updN tR0 k (r:Int)) []):=hidden (fun W b hz=>by rw [htk,hrt];exact t_pub hz hk hr hf)
  have HP2:Hid (∀ W b p d,PZ w W b ((tq nn r k E).publish k p d) zeroH [] (updN tR0 k (r:Int)) []→Calls Tryz.prog 8 #[.pointer (some ⟨b,0,none⟩),.int .i64 tk,.int .i64 rt] W fun e w'=>e=.returned (errv 7)∧w'=W):=hidden (fun W b p d hz=>by rw [htk,hrt];exact t_pub_twice hz hk hr (by rw [updN_at];omega))
  have HBu:Hid (∀ W pp dd,Below w.heap.size w W→Trees nn r E pp dd→Calls Tryz.prog 9 #[.int .i64 (nn:Int),.slice a n cap,.int .i64 rt] W fun e w'=>∃ pa pc da dc,e=.returned (.tuple #[.slice pa nn pc,.slice da nn dc,.nilIface])∧Hid (Below W.heap.size W w'∧Tree.IArg w' pa nn pp∧Tree.IArg w' da nn dd)):=by
    refine hidden ?_
    intro W pp dd hB hT
    subst hrt
    have hlf:TM.lf (nn:Int) E (r:Int)=0:=by
      unfold TM.lf
      rw [if_neg (by simp [hf]),if_neg (by simp [TM.isn];omega)]
    refine (Tree.build_calls (nn:Int) (r:Int) a n cap E W (hE.below hB) hnc).mono ?_
    rintro e w' ⟨vp,vd,p,d,rfl,hq⟩
    obtain ⟨q1,q2,q3⟩:=hq.bp.2 hlf
    rw [Int.toNat_natCast,Int.toNat_natCast] at q1
    rw [Int.toNat_natCast] at q2
    have e1:=q1.uniq hT.dist
    subst e1
    have e2:=q2.uniq hT.pars
    subst e2
    have o1:=hq.own1
    have o2:=hq.own2
    rw [q2.len] at o1
    rw [q1.len] at o2
    obtain ⟨pa,pc,rfl,x1,_⟩:=Tree.own_ints o1 (by omega)
    obtain ⟨da,dc,rfl,x2,_⟩:=Tree.own_ints o2 (by omega)
    rw [hlf]
    exact ⟨pa,pc,da,dc,rfl,hidden ⟨hq.bel,x1,x2⟩⟩
  have HSu:Hid (∀ W b p d,Trees nn r E p d→PZ w W b ((tq nn r k E).publish k p d) zeroH [] (updN tR0 k (r:Int)) []→Calls Tryz.prog 10 #[.pointer (some ⟨b,0,none⟩),.int .i64 tk,.int .i64 at',.int .i64 mo] W fun e w'=>e=.returned (.tuple #[.int .i64 (if subf nn d at' mo=0 then 1 else 0),errv (subf nn d at' mo)])∧TZ w w' b nn r k E p d):=hidden (fun W b p d hT hz=>by rw [htk];exact t_sub hT hk hz at' mo)
  have HSe:Hid (∀ W0 W b p d g,Trees nn r E p d→TZ w W0 b nn r k E p d→Below W0.heap.size W0 W→Arg W (some ⟨g,0,none⟩) 2 [3,0]→W0.heap.size≤g→Calls Tryz.prog 7 #[.pointer (some ⟨b,0,none⟩),.int .i64 tk,.agg #[.int .i64 3,.int .i64 3,.int .i64 0,.int .i64 0,.bool true,.slice (some ⟨g,0,none⟩) 2 2]] W fun e w'=>e=.returned .nilIface∧TS w w' b (nkid p (r:Int) E)):=hidden (fun W0 W b p d g hT hz hb hA hg=>by rw [htk];exact t_send hT hk hz hb g hA hg)
  have HEa:=hidden (fun W (hW:Below w.heap.size w W)=>hE.below hW)
  have HEo:=hidden hfit.ok
  have HEl:=hidden hEl
  have HR:=hidden hr
  have HRt:=hidden hrt
  have e0:decide (tk<1)=false:=by simp;omega
  have e1:decide (8<tk)=false:=by simp;omega
  have e2:decide (rt<0)=false:=by simp;omega
  have e3:decide ((nn:Int)≤rt)=false:=by simp;omega
  clear hE hn0 hnc hf hg hfit hk hr htk hrt hEl
  go_enter Tryz.func3,Tryz.ntmps3
  go_wp2_with fail
  refine C1.out.mono ?_
  rintro e w1 ⟨b,rfl,H1⟩
  have H1:=hidden H1
  clear C1
  go_wp2_with fail
  refine (HCk.out w1 H1.out.bel).mono ?_
  rintro e w2 ⟨rfl,hb2⟩
  have H2:=hidden (H1.out.below hb2.out)
  clear H1 hb2 HCk
  go_wp2_with fail
  refine (HS0.out w2 b H2.out).mono ?_
  rintro e w3 ⟨rfl,hb3⟩
  have H3:=hidden (H2.out.below hb3)
  clear H2 hb3 HS0
  go_wp2_with fail
  refine (HTo.out 5 w3 (by omega) H3.out.bel).mono ?_
  rintro e w4 ⟨rfl,hb4⟩
  have H4:=hidden (H3.out.below hb4)
  clear H3 hb4
  go_wp2_with fail
  refine (HP.out w4 b H4.out).mono ?_
  rintro e w5 ⟨rfl,p,d,hT,h5⟩
  have H5:=hidden h5
  clear H4 h5 HP
  go_wp2_with fail
  refine (HTo.out 0 w5 (by omega) H5.out.bel).mono ?_
  rintro e w6 ⟨rfl,hb6⟩
  have H6:=hidden (H5.out.below hb6)
  clear H5 hb6
  go_wp2_with fail
  refine (HP2.out w6 b p d H6.out).mono ?_
  rintro e w7 ⟨rfl,hw7⟩
  obtain rfl:w6=w7:=hw7.symm
  clear hw7 HP2
  go_wp2_with fail
  refine (HTo.out 7 w6 (by omega) H6.out.bel).mono ?_
  rintro e w8 ⟨rfl,hb8⟩
  have H8:=hidden (H6.out.below hb8)
  clear H6 hb8
  go_wp2_with fail
  refine (HBu.out w8 p d H8.out.bel hT).mono ?_
  rintro e w9 ⟨pa,pc,da,dc,rfl,H9⟩
  have HZ9:=hidden (H8.out.below H9.out.1)
  have HD9:=hidden H9.out.2.2
  clear H8 H9
  obtain ⟨f,hf⟩:∃ f,subf nn d at' mo=f:=⟨_,rfl⟩
  have CS:=hidden (HSu.out w9 b p d hT HZ9.out)
  rw [hf] at CS
  obtain ⟨sv,hsv⟩:∃ sv:Int,(if f=0 then 1 else 0)=sv:=⟨_,rfl⟩
  rw [hsv] at CS
  have HSv:=hidden hsv
  have HF:=hidden hf
  clear hf HSu hsv
  go_upto_region 24 with fail
  obtain ⟨qb,hqb⟩:∃ q,decide (at'<0∨(nn:Int)≤at'∨mo<0∨3<mo)=q:=⟨_,rfl⟩
  have HQ:=hidden hqb
  clear hqb
  go_cut [137] from 123 to 137 (fun s wx=>s=.bool qb∧w9=wx)
  case first=>
    by_cases g0:at'<0
    · have k0:decide (at'<0)=true:=by simpa using g0
      have hh:qb=true:=by rw [← HQ.out];simp only [decide_eq_true_eq];omega
      clear g0
      subst hh
      go_wp2_with fail
      go_meet
      exact ⟨rfl,rfl⟩
    have k0:decide (at'<0)=false:=by simpa using g0
    by_cases g1:(nn:Int)≤at'
    · have k1:decide ((nn:Int)≤at')=true:=by simpa using g1
      have hh:qb=true:=by rw [← HQ.out];simp only [decide_eq_true_eq];omega
      clear g0 g1
      subst hh
      go_wp2_with fail
      go_meet
      exact ⟨rfl,rfl⟩
    have k1:decide ((nn:Int)≤at')=false:=by simpa using g1
    by_cases g2:mo<0
    · have k2:decide (mo<0)=true:=by simpa using g2
      have hh:qb=true:=by rw [← HQ.out];simp only [decide_eq_true_eq];omega
      clear g0 g1 g2
      subst hh
      go_wp2_with fail
      go_meet
      exact ⟨rfl,rfl⟩
    have k2:decide (mo<0)=false:=by simpa using g2
    by_cases g3:3<mo
    · have k3:decide (3<mo)=true:=by simpa using g3
      have hh:qb=true:=by rw [← HQ.out];simp only [decide_eq_true_eq];omega
      clear g0 g1 g2 g3
      subst hh
      go_wp2_with fail
      go_meet
      exact ⟨rfl,rfl⟩
    have k3:decide (3<mo)=false:=by simpa using g3
    have hh:qb=false:=by rw [← HQ.out];simp only [decide_eq_false_iff_not];omega
    clear g0 g1 g2 g3
    subst hh
    go_wp2_with fail
    go_meet
    exact ⟨rfl,rfl⟩
  case rest=>
  obtain ⟨rfl,rfl⟩:=hcut
  go_upto_if 137 with fail
  go_cut [18] from 138 to 142 (fun s wx=>s=.int .i64 (f:Nat)∧w9=wx)
  case first=>
    cases qb with
    | true=>
      have hh:f=1:=by rw [← HF.out];unfold subf;rw [if_pos (of_decide_eq_true HQ.out)]
      subst hh
      go_wp2_with fail
      go_meet
      exact ⟨rfl,rfl⟩
    | false=>
      have hq:=of_decide_eq_false HQ.out
      obtain ⟨v,rfl⟩:∃ v:Nat,at'=(v:Int):=⟨at'.toNat,by omega⟩
      have hv:v<nn:=by omega
      have hvz:(v:Int)<(nn:Int):=by omega
      obtain ⟨db,dof,rfl,hcs⟩:=HD9.out.at (by omega)
      have c0:=hcs v hv
      have hfv:f=if TM.dg d v<0 then 5 else 0:=by
        rw [← HF.out]
        unfold subf
        rw [if_neg (by omega),Int.toNat_natCast]
      have HFv:=hidden hfv
      clear hcs hq hfv HD9
      generalize TM.dg d v=dv at *
      by_cases hd:dv<0
      · have kd:decide (dv<0)=true:=by simpa using hd
        have hh:f=5:=by rw [HFv.out,if_pos hd]
        subst hh
        clear hd
        go_wp2_with fail
        go_meet
        exact ⟨rfl,rfl⟩
      · have kd:decide (dv<0)=false:=by simpa using hd
        have hh:f=0:=by rw [HFv.out,if_neg hd]
        subst hh
        clear hd
        go_wp2_with fail
        go_meet
        exact ⟨rfl,rfl⟩
  case rest=>
  obtain ⟨rfl,rfl⟩:=hcut
  have hf100:f≤100:=by
    rw [← HF.out]
    unfold subf
    split
    · omega
    · split<;>omega
  clear HF HQ HD9 HZ9
  go_wp2_with fail
  refine CS.out.mono ?_
  rintro e w10 ⟨rfl,h10⟩
  have H10:=hidden h10
  clear h10 CS
  go_wp2_with fail
  refine (HTo.out f w10 hf100 H10.out.bel).mono ?_
  rintro e w11 ⟨rfl,hb11⟩
  have H11:=hidden (H10.out.below hb11)
  clear H10 hb11
  go_upto_region 30 with fail
  obtain ⟨ev,hev⟩:∃ ev,errv f=ev:=⟨_,rfl⟩
  rw [hev]
  have HEv:=hidden hev
  clear hev
  go_cut [162] from 154 to 162 (fun s wx=>s=.bool false∧w11=wx)
  case first=>
    by_cases h0:f=0
    · subst h0
      obtain rfl:1=sv:=by have:=HSv.out;rw [if_pos rfl] at this;exact this
      obtain rfl:Value.nilIface=ev:=HEv.out
      go_wp2_with fail
      go_meet
      exact ⟨rfl,rfl⟩
    · obtain rfl:0=sv:=by have:=HSv.out;rw [if_neg h0] at this;exact this
      obtain ⟨te,rfl⟩:∃ te,Value.iface te (.int .i64 (f:Int))=ev:=⟨_,(errv_pos h0).symm.trans HEv.out⟩
      go_wp2_with fail
      go_meet
      exact ⟨rfl,rfl⟩
  case rest=>
  obtain ⟨rfl,rfl⟩:=hcut
  go_wp2_with fail
  refine (LP.packet_calls 3 (by omega) w11).mono ?_
  rintro e w12 ⟨g,rfl,hA12,hg12,hb12⟩
  have C13:=hidden (HSe.out w11 w12 b p d g hT H11.out hb12 hA12 hg12)
  clear H11 hA12 hg12 hb12 HSe
  obtain ⟨K,hK⟩:∃ K,nkid p (r:Int) E=K:=⟨_,rfl⟩
  rw [hK] at C13
  go_wp2_with fail
  refine C13.out.mono ?_
  rintro e w13 ⟨rfl,h13⟩
  have H13:=hidden h13
  have HK:=hidden hK
  clear h13 C13 hK
  go_wp2_with fail
  go_loopg [26,27] n (fun g y z wr=>∃ i:Nat,i+g=n∧y=.int .i64 ((nkid p (r:Int) (E.take i):Nat):Int)∧z=.int .i64 (i:Int)∧Hid (TS w wr b K))
  case atStart=>exact ⟨0,by omega,rfl,rfl,H13⟩
  case round=>
    obtain ⟨i,hig,rfl,rfl,HS⟩:=hrel
    by_cases hi:i<n
    · have hiz:(i:Int)<(n:Int):=by omega
      obtain ⟨ba,oa,rfl,_,hcs⟩:=(HEa.out wr HS.out.bel).at (by omega)
      obtain ⟨c0,c1,c2⟩:=hcs i hi
      have hst:=nkid_step p (r:Int) (L:=E) (j:=i) (by rw [HEl.out];exact hi)
      have hok:=TM.okE_iff.1 (HEo.out _ (TM.getD_mem (L:=E) (j:=i) (by rw [HEl.out];exact hi)))
      have hml:=nkid_le p (r:Int) E i
      obtain ⟨m,hm⟩:∃ m,nkid p (r:Int) (E.take i)=m:=⟨_,rfl⟩
      rw [hm] at hst hml
      rw [hm]
      have hmi:m≤200:=by omega
      generalize E.getD i TM.zz=ed at *
      obtain ⟨ea,hea⟩:∃ x,ed.a=x:=⟨_,rfl⟩
      obtain ⟨eb,heb⟩:∃ x,ed.b=x:=⟨_,rfl⟩
      rw [hea] at c0 hok
      rw [heb] at c1 hok
      have HSt:=hidden hst
      have HOk:=hidden hok
      have HEA:=hidden hea
      have HEB:=hidden heb
      obtain ⟨qb,hqb⟩:∃ q,decide (ea=rt∨eb=rt)=q:=⟨_,rfl⟩
      have HQ:=hidden hqb
      clear hcs c2 hst hok hm hml hea heb hqb
      go_upto_region 37 with fail
      go_cut [188] from 173 to 188 (fun s wx=>s=.bool qb∧wr=wx)
      case first=>
        by_cases g0:ea=rt
        · have k0:(ea==rt)=true:=by simpa using g0
          have hh:qb=true:=by rw [← HQ.out];simp only [decide_eq_true_eq];omega
          clear g0
          subst hh
          go_wp2_with fail
          go_meet
          exact ⟨rfl,rfl⟩
        have k0:(ea==rt)=false:=by simpa using g0
        by_cases g1:eb=rt
        · have k1:(eb==rt)=true:=by simpa using g1
          have hh:qb=true:=by rw [← HQ.out];simp only [decide_eq_true_eq];omega
          clear g0 g1
          subst hh
          go_wp2_with fail
          go_meet
          exact ⟨rfl,rfl⟩
        have k1:(eb==rt)=false:=by simpa using g1
        have hh:qb=false:=by rw [← HQ.out];simp only [decide_eq_false_iff_not];omega
        clear g0 g1
        subst hh
        go_wp2_with fail
        go_meet
        exact ⟨rfl,rfl⟩
      case rest=>
      obtain ⟨rfl,rfl⟩:=hcut
      cases qb with
      | false=>
        have hno:nkid p (r:Int) (E.take (i+1))=m:=by
          rw [HSt.out,if_neg]
          · rfl
          · intro h
            have:=(of_decide_eq_true h).1
            rw [HEA.out,HEB.out,← HRt.out] at this
            exact of_decide_eq_false HQ.out this
        have HNo:=hidden hno
        clear hno c0 c1
        go_wp2_with fail
        go_roundg (n - (i+1))
        case measure=>omega
        case rel=>exact ⟨i+1,by omega,by rw [HNo.out],by go_num,HS⟩
      | true=>
        have hq:=of_decide_eq_true HQ.out
        have ho:=HOk.out
        have hov:0≤ea+eb - rt∧ea+eb - rt<nn:=by omega
        obtain ⟨v,hv⟩:∃ v:Nat,ea+eb - rt=(v:Int):=⟨(ea+eb - rt).toNat,by omega⟩
        have hvn:v<nn:=by omega
        have hvz:(v:Int)<(nn:Int):=by omega
        have hw1:IntKind.i64.wrap (ea+eb)=ea+eb:=by rw [IntKind.wrap_i64];omega
        have hw2:IntKind.i64.wrap (ea+eb - rt)=(v:Int):=by rw [IntKind.wrap_i64];omega
        have HV:=hidden hv
        clear hq ho hov hv
        go_upto_region 38 with fail
        go_cut [28] from 189 to 201 (fun s wx=>s=.int .i64 (v:Int)∧Hid (Below wr.heap.size wr wx))
        case first=>
          go_region
          go_wp2_with fail
          go_meet
          exact ⟨rfl,hidden ⟨rfl,rfl,rfl,Nat.le_refl _,fun _ _=>rfl⟩⟩
        case rest=>
        obtain ⟨rfl,HD⟩:=hcut
        have HSd:Hid (TS w wc b K):=hidden (HS.out.below HD.out)
        clear HS HD c0 c1 hw1 hw2
        go_wp2_with fail
        refine (HBu.out wc p d HSd.out.bel hT).mono ?_
        rintro e w14 ⟨pa2,pc2,da2,dc2,rfl,H14⟩
        have HS14:=hidden (HSd.out.below H14.out.1)
        obtain ⟨pb,po,rfl,hcs⟩:=H14.out.2.1.at (by omega)
        have c0:=hcs v hvn
        clear hcs H14 HSd
        obtain ⟨pv,hpv⟩:∃ pv,TM.dg p v=pv:=⟨_,rfl⟩
        rw [hpv] at c0
        have hkd:ofKid p (r:Int) ed=decide (pv=rt):=by
          unfold ofKid
          have e5:(oth (r:Int) ed).toNat=v:=by
            unfold oth
            have:=HV.out
            rw [HEA.out,HEB.out,← HRt.out]
            omega
          rw [e5,hpv,HEA.out,HEB.out,← HRt.out]
          have:=of_decide_eq_true HQ.out
          by_cases c:pv=rt<;>simp [c,this]
        have HKd:=hidden hkd
        clear hkd hpv
        by_cases hp:pv=rt
        · have k0:(pv==rt)=true:=by simpa using hp
          have hno:nkid p (r:Int) (E.take (i+1))=m+1:=by rw [HSt.out,HKd.out,if_pos (decide_eq_true hp)]
          have HNo:=hidden hno
          clear hno hp
          go_wp2_with fail
          go_roundg (n - (i+1))
          case measure=>omega
          case rel=>exact ⟨i+1,by omega,by rw [HNo.out];go_num,by go_num,HS14⟩
        · have k0:(pv==rt)=false:=by simpa using hp
          have hno:nkid p (r:Int) (E.take (i+1))=m:=by rw [HSt.out,HKd.out,if_neg (by simpa using hp)];rfl
          have HNo:=hidden hno
          clear hno hp
          go_wp2_with fail
          go_roundg (n - (i+1))
          case measure=>omega
          case rel=>exact ⟨i+1,by omega,by rw [HNo.out],by go_num,HS14⟩
    · have hiz:¬ (i:Int)<(n:Int):=by omega
      obtain rfl:n=i:=by omega
      rw [show E.take n=E from List.take_of_length_le (by rw [HEl.out];exact Nat.le_refl _),HK.out]
      have hK2:K≤200:=by
        rw [← HK.out,← List.take_of_length_le (l:=E) (i:=n) (by rw [HEl.out];exact Nat.le_refl _)]
        exact Nat.le_trans (nkid_le p (r:Int) E n) hnl
      clear H13 HBu HEa HEo HEl HK HR HRt
      go_wp2_with fail
      refine (t_flying HS.out.tu).mono ?_
      rintro e w15 ⟨rfl,hw15⟩
      obtain rfl:wr=w15:=hw15.symm
      clear hw15
      go_wp2_with fail
      refine (t_land HS.out.tu).mono ?_
      rintro e w16 ⟨rfl,hb16⟩
      have H16:=hidden (HS.out.below hb16)
      clear HS hb16
      go_wp2_with fail
      refine (HTo.out 1 w16 (by omega) H16.out.bel).mono ?_
      rintro e w17 ⟨rfl,hb17⟩
      have H17:=hidden (H16.out.below hb17)
      clear H16 hb17
      go_wp2_with fail
      refine (t_lose H17.out.tu).mono ?_
      rintro e w18 ⟨rfl,hb18⟩
      have H18:=hidden (H17.out.below hb18)
      clear H17 hb18
      go_wp2_with fail
      refine (HTo.out 1 w18 (by omega) H18.out.bel).mono ?_
      rintro e w19 ⟨rfl,hb19⟩
      have H19:=hidden (H18.out.below hb19)
      clear H18 hb19
      go_wp2_with fail
      refine (t_twice H19.out.tu).mono ?_
      rintro e w20 ⟨rfl,hw20⟩
      obtain rfl:w19=w20:=hw20.symm
      clear hw20
      go_wp2_with fail
      refine (HTo.out 1 w19 (by omega) H19.out.bel).mono ?_
      rintro e w21 ⟨rfl,hb21⟩
      have H21:=hidden (H19.out.below hb21)
      clear H19 hb21
      go_wp2_with fail
      refine (t_got H21.out).mono ?_
      rintro e w22 ⟨rfl,hb22⟩
      have H22:=hidden (H21.out.below hb22)
      clear H21 hb22
      go_wp2_with fail
      refine (HTo.out 5 w22 (by omega) H22.out.bel).mono ?_
      rintro e w23 ⟨rfl,hb23⟩
      have H23:=hidden (H22.out.below hb23)
      clear H22 hb23
      obtain ⟨v,hv⟩:∃ v,tickf by'=v:=⟨_,rfl⟩
      have CT:=hidden (t_tick H23.out (by omega) by')
      rw [hv] at CT
      have HV:=hidden hv
      clear hv
      go_upto_region 50 with fail
      obtain ⟨qv,hqv⟩:∃ q,decide (by'<1∨1000<by')=q:=⟨_,rfl⟩
      have HQv:=hidden hqv
      clear hqv
      go_cut [253] from 248 to 253 (fun s wx=>s=.bool qv∧w23=wx)
      case first=>
        by_cases g0:by'<1
        · have k0:decide (by'<1)=true:=by simpa using g0
          have hh:qv=true:=by rw [← HQv.out];simp only [decide_eq_true_eq];omega
          clear g0
          subst hh
          go_wp2_with fail
          go_meet
          exact ⟨rfl,rfl⟩
        have k0:decide (by'<1)=false:=by simpa using g0
        by_cases g1:1000<by'
        · have k1:decide (1000<by')=true:=by simpa using g1
          have hh:qv=true:=by rw [← HQv.out];simp only [decide_eq_true_eq];omega
          clear g0 g1
          subst hh
          go_wp2_with fail
          go_meet
          exact ⟨rfl,rfl⟩
        have k1:decide (1000<by')=false:=by simpa using g1
        have hh:qv=false:=by rw [← HQv.out];simp only [decide_eq_false_iff_not];omega
        clear g0 g1
        subst hh
        go_wp2_with fail
        go_meet
        exact ⟨rfl,rfl⟩
      case rest=>
      obtain ⟨rfl,rfl⟩:=hcut
      go_upto_if 253 with fail
      go_cut [38] from 38 to 38 (fun s wx=>s=.int .i64 ((v:Nat):Int)∧w23=wx)
      case first=>
        cases qv with
        | true=>
          have hh:v=1:=by rw [← HV.out];exact if_pos (of_decide_eq_true HQv.out)
          subst hh
          go_wp2_with fail
          go_meet
          exact ⟨rfl,rfl⟩
        | false=>
          have hh:v=0:=by rw [← HV.out];exact if_neg (of_decide_eq_false HQv.out)
          subst hh
          go_wp2_with fail
          go_meet
          exact ⟨rfl,rfl⟩
      case rest=>
      obtain ⟨rfl,rfl⟩:=hcut
      have hv01:v=0∨v=1:=by rw [← HV.out];unfold tickf;split<;>omega
      clear HV HQv
      go_wp2_with fail
      refine CT.out.mono ?_
      rintro e w24 ⟨rfl,K2,hKK,hK9,h24⟩
      have H24:=hidden h24
      clear h24 CT H23
      go_wp2_with fail
      refine (HTo.out v w24 (by omega) H24.out.bel).mono ?_
      rintro e w25 ⟨rfl,hb25⟩
      have H25:=hidden (H24.out.below hb25)
      clear H24 hb25 HTo
      obtain ⟨now,hnow⟩:∃ x:Int,(if v=0 then by' else 0)=x:=⟨_,rfl⟩
      rw [hnow] at H25
      have HNow:=hidden hnow
      clear hnow
      obtain ⟨qk,hqk⟩:∃ q,decide (0<K)=q:=⟨_,rfl⟩
      have HQk:=hidden hqk
      go_upto_region 55 with fail
      go_cut [278] from 277 to 278 (fun s wx=>s=.bool qk∧w25=wx)
      case first=>
        go_wp2_with fail
        go_meet
        exact ⟨rfl,rfl⟩
      case rest=>
      obtain ⟨rfl,rfl⟩:=hcut
      clear hqk
      go_upto_if 278 with fail
      go_cut [40,41,42] from 279 to 296 (fun _ _ _ wx=>Hid (∃ K3,TU w wx b K3 now))
      case first=>
        cases qk with
        | true=>
          have h02:0<K2:=by have:=of_decide_eq_true HQk.out;omega
          go_wp2_with fail
          refine (t_flying H25.out).mono ?_
          rintro e w26 ⟨rfl,hw26⟩
          obtain rfl:w25=w26:=hw26.symm
          clear hw26
          go_wp2_with fail
          refine (t_twice0 H25.out h02 hK9).mono ?_
          rintro e w27 ⟨rfl,h27⟩
          have H27:=hidden h27
          clear h27 H25
          go_wp2_with fail
          refine (t_lose0 H27.out).mono ?_
          rintro e w28 ⟨rfl,h28⟩
          have H28:=hidden h28
          clear h28 H27
          go_wp2_with fail
          refine (t_flying H28.out).mono ?_
          rintro e w29 ⟨rfl,hw29⟩
          obtain rfl:w28=w29:=hw29.symm
          clear hw29
          go_wp2_with fail
          go_meet
          exact hidden ⟨K2,H28.out⟩
        | false=>
          go_wp2_with fail
          go_meet
          exact hidden ⟨K2,H25.out⟩
      case rest=>
      have hcut:=hcut
      obtain ⟨K3,h3⟩:=hcut.out
      have H3:=hidden h3
      clear h3 hcut H25
      rcases hv01 with rfl | rfl
      · obtain rfl:by'=now:=by have:=HNow.out;rw [if_pos rfl] at this;exact this
        go_wp2_with fail
        refine (t_now H3.out).mono ?_
        rintro e w30 ⟨rfl,hb30⟩
        have HB30:=hidden (H3.out.bel.trans (hb30.mono H3.out.bel.size))
        clear hb30
        go_wp2_with fail
        go_ret
        exact ⟨rfl,HB30.out⟩
      · obtain rfl:0=now:=by have:=HNow.out;rw [if_neg (by omega)] at this;exact this
        go_wp2_with fail
        refine (t_now H3.out).mono ?_
        rintro e w30 ⟨rfl,hb30⟩
        have HB30:=hidden (H3.out.bel.trans (hb30.mono H3.out.bel.size))
        clear hb30
        go_wp2_with fail
        go_ret
        exact ⟨rfl,HB30.out⟩
theorem tells_walk (N:Int) (a:Option Addr) (n cap:Nat) (E:List TM.Ed) (tk rt at' mo by':Int) (w:World) (hg:w.cell? ⟨0,0,none⟩=some (.iface 205 (.agg #[.pointer (some ⟨1,25,none⟩)]))) (hE:Tree.EArg w a n E) (hn0:a=none→n=0∧cap=0) (hnc:n≤cap) :
    Calls Tryz.prog 3 #[.int .i64 N,.slice a n cap,.int .i64 tk,.int .i64 rt,.int .i64 at',.int .i64 mo,.int .i64 by'] w fun e w'=>e=.returned (.bool true)∧Below w.heap.size w w':=by
  by_cases hf:TM.ef N E=0
  · have h0:=(TM.ef_zero.1 hf).1
    obtain ⟨nn,rfl⟩:∃ nn:Nat,N=(nn:Int):=⟨N.toNat,by omega⟩
    by_cases hno:tk<1∨8<tk∨rt<0∨(nn:Int)≤rt
    · exact tells_no nn a n cap E tk rt at' mo by' w hg hE hn0 hnc hf hno
    · exact tells_good nn rt.toNat (tk - 1).toNat a n cap E tk rt at' mo by' w hg hE hn0 hnc hf (by omega) (by omega) (by omega) (by omega)
  · exact tells_bad N a n cap E tk rt at' mo by' w hE hnc hf
end Go.Proofs.YtfgponidkfgcpaaGreatDoor.MS
