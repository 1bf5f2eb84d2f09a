/-
  QuietA, QuietB, QuietC, QuietD in one text.
-/
import Derived.Test.YtfgponidkfgcpaaGreatMeshMath
namespace Go.Proofs.YtfgponidkfgcpaaGreat.MS
open Go.ChangeShapes Go.WideShapes Go.ChangeAt Go.RowKit Go.Maps Go.Proofs.YtfgponidkfgcpaaGreat.Mem Go.Proofs.YtfgponidkfgcpaaGreat.NO Go.Proofs.YtfgponidkfgcpaaGreat.ND
set_option linter.unusedVariables false
def PC (w W:World) (b:Nat) (Q:Plan) (c:Nat→Nat) (now:Int) (rt:Nat→Int) (sb:List (Int×Int)):Prop:=∃ M h,Zt w W b M∧Calmed Q h M∧Heard Q c h∧M.nw=now∧M.rt=rt∧M.sb=sb∧M.E=Q.E
theorem PC.below {w W W':World} {b:Nat} {Q:Plan} {c:Nat→Nat} {now:Int} {rt:Nat→Int} {sb:List (Int×Int)} (hz:PC w W b Q c now rt sb) (hb:Below W.heap.size W W'):PC w W' b Q c now rt sb:=by
  obtain ⟨M,h,h1,h2⟩:=hz
  exact ⟨M,h,h1.below hb,h2⟩
theorem PC.bel {w W:World} {b:Nat} {Q:Plan} {c:Nat→Nat} {now:Int} {rt:Nat→Int} {sb:List (Int×Int)} (hz:PC w W b Q c now rt sb):Below w.heap.size w W:=by
  obtain ⟨M,h,h1,h2⟩:=hz
  exact h1.bel
theorem pz_calm {w W:World} {b:Nat} {Q:Plan} (hQ:Q.Ok) {c:Nat→Nat} (hF:∀ h,Heard Q c h→Full Q h) (hnow:0≤Q.now∧Q.now≤900000) {h:Nat→Nat→Nat} {X:List Fy} {rt:Nat→Int} {sb:List (Int×Int)} (hz:PZ w W b Q h X rt sb) (hc:∀ k,k<8→h k (Q.rt k)=c k) :
    Calls Tryz.prog 9 #[.pointer (some ⟨b,0,none⟩)] W fun e w'=>e=.returned (.int .i64 (if X=[] then 2 else 3))∧PC w w' b Q c (Q.now+(if X=[] then 6 else 9)) rt sb:=by
  obtain ⟨M,⟨o,P,h1,h2,hb⟩,hP,e1,e2,e3⟩:=hz
  refine (calm_pipe hQ hF hnow b o P M h X W h1 hP hc).mono ?_
  rintro e w' ⟨rfl,h',M',hC,hH,hS,hnw,hd⟩
  exact ⟨rfl,M',h',Zt.next (M:=M) hb h2 hd,hC,hH,hnw,hS.rt.trans e1,hS.sb.trans e2,hS.E.trans e3⟩
theorem pc_flying {w W:World} {b:Nat} {Q:Plan} {c:Nat→Nat} {now:Int} {rt:Nat→Int} {sb:List (Int×Int)} (hz:PC w W b Q c now rt sb) :
    Calls Tryz.prog 10 #[.pointer (some ⟨b,0,none⟩)] W fun e w'=>e=.returned (.int .i64 0)∧w'=W:=by
  obtain ⟨M,h,⟨o,P,h1,h2,hb⟩,hC,_⟩:=hz
  have:=flying_calls b o P M W h1
  rw [hC.fl] at this
  exact this
theorem pc_now {w W:World} {b:Nat} {Q:Plan} {c:Nat→Nat} {now:Int} {rt:Nat→Int} {sb:List (Int×Int)} (hz:PC w W b Q c now rt sb) :
    Calls Tryz.prog 11 #[.pointer (some ⟨b,0,none⟩)] W fun e w'=>e=.returned (.int .i64 now)∧PC w w' b Q c now rt sb:=by
  have hz':=hz
  obtain ⟨M,h,⟨o,P,h1,h2,hb⟩,hC,hH,hnw,_⟩:=hz
  refine (now_calls b o P M W h1).mono ?_
  rintro e w' ⟨rfl,hb'⟩
  exact ⟨by rw [hnw],hz'.below hb'⟩
def Plan.later (Q:Plan) (now:Int):Plan:={ Q with now:=now }
theorem Plan.Ok.later {Q:Plan} (hQ:Q.Ok) (now:Int):(Q.later now).Ok:=⟨hQ.tr,hQ.pk,hQ.mx⟩
theorem PC.again {w W:World} {b:Nat} {Q:Plan} {now:Int} {rt:Nat→Int} {sb:List (Int×Int)} (hz:PC w W b Q (fun _=>0) now rt sb) (hB:∀ v,Q.B v=[]):PZ w W b (Q.later now) zeroH [] rt sb:=by
  obtain ⟨M,h,h1,hC,hH,hnw,e1,e2,e3⟩:=hz
  have hsb:∀ v,v<Q.n→(M.nd v).sb=[]:=by
    intro v hv
    have:=hC.sb v hv
    rw [hB v] at this
    exact List.map_eq_nil_iff.1 this
  refine ⟨M,h1,⟨hC.ok,hC.n,hnw,?_,hC.no,?_,?_,hC.fl,by simp,fun k _ _ v _ u _=>⟨Nat.le_refl _,rfl⟩,fun k _ v=>Nat.zero_le _,hC.ls⟩,e1,e2,e3⟩
  · intro v hv k hk ha
    obtain ⟨t,t1,t2⟩:=hC.tr v hv k hk ha
    rw [hH k hk v hv ha] at t2
    exact ⟨t,t1,t2⟩
  · intro v hv
    rw [hsb v hv]
    show []=(Q.B v).map _
    rw [hB v]
    rfl
  · intro v hv x hx
    have hx:x∈Q.B v:=hx
    rw [hB v] at hx
    cases hx
theorem full_none {Q:Plan} (hB:∀ v,Q.B v=[]) (h:Nat→Nat→Nat):Full Q h:=by
  intro v hv x hx
  rw [hB v] at hx
  cases hx
def qq (n r:Nat) (E:List TM.Ed) (p:Pk) (m:Nat):Plan:=⟨n,0,E,fun _=>false,fun _=>r,fun _=>[],fun _=>[],fun _=>p.s.toNat,fun _ _=>p,fun k=>if k=2 then m else 0,fun _=>[]⟩
theorem qq_ok {n r:Nat} {E:List TM.Ed} {p:Pk} {m:Nat} (hm:m≤1) (hp:0<m→0≤p.s∧p.s≤65535∧PM.fault p.s p.t p.l p.q p.L.length=0∧∀ c∈p.L,c<256):(qq n r E p m).Ok:=by
  refine ⟨(fun k hk ho=>by cases ho),?_,?_⟩
  · intro k hk i hi
    have hi:i<(if k=2 then m else 0):=hi
    split at hi
    · have:i=0:=by omega
      subst this
      obtain ⟨g1,g2,g3,g4⟩:=hp hi
      exact ⟨by show p.s=((p.s.toNat+0:Nat):Int);omega,by show p.s.toNat+0≤65535;omega,g3,g4⟩
    · omega
  · intro k
    show (if k=2 then m else 0)≤1000
    split<;>omega
theorem zero_full {Q:Plan} (hB:∀ v,Q.B v=[]) (c:Nat→Nat):∀ h,Heard Q c h→Full Q h:=fun h _=>full_none hB h
theorem pz_publish_range {w W:World} {b:Nat} {Q:Plan} {h:Nat→Nat→Nat} {X:List Fy} {rt:Nat→Int} {sb:List (Int×Int)} (hz:PZ w W b Q h X rt sb) (tk at':Int) (hr:okT tk=false∨¬ (0≤at'∧at'<(Q.n:Int))) :
    Calls Tryz.prog 12 #[.pointer (some ⟨b,0,none⟩),.int .i64 tk,.int .i64 at'] W fun e w'=>e=.returned (errv 1)∧w'=W:=by
  obtain ⟨M,⟨o,P,h1,h2,hb⟩,hP,e1,e2,e3⟩:=hz
  exact publish_range b o P M tk at' W h1 (by rw [hP.n];exact hr)
theorem pz_send_bad {w W:World} {b:Nat} {Q:Plan} (hQ:Q.Ok) {h:Nat→Nat→Nat} {X:List Fy} {rt:Nat→Int} {sb:List (Int×Int)} (hz:PZ w W b Q h X rt sb) {k:Nat} (hk:k<8) (hon:Q.on k=true) (hrt:rt k=(Q.rt k:Int)) (s t l q:Int) (st:Bool) (a:Option Addr) (m c:Nat) (L:List Nat) (hA:Arg W a m L) (hno:a=none→m=0∧c=0) (ha:0<m→∀ ad,a=some ad→ad.block<w.heap.size) (hf:PM.fault s t l q m≠0) :
    Calls Tryz.prog 13 #[.pointer (some ⟨b,0,none⟩),.int .i64 ((k:Int)+1),.agg #[.int .i64 s,.int .i64 t,.int .i64 l,.int .i64 q,.bool st,.slice a m c]] W fun e w'=>e=.returned (errv (PM.fault s t l q m))∧PZ w w' b Q h X rt sb:=by
  obtain ⟨M,⟨o,P,h1,h2,hb⟩,hP,e1,e2,e3⟩:=hz
  have hT:=hQ.tr k hk hon
  have hr:Q.rt k<Q.n:=hT.rn
  obtain ⟨tr,t1,t2⟩:=hP.tr (Q.rt k) hr k hk (Plan.at_iff.2 ⟨hon,by rw [hT.root_d];omega⟩)
  refine (send_calls b k (Q.rt k) o P M tr s t l q st a m c L W h1 hP.ok hk (by rw [e1];exact hrt) (by rw [hP.n];exact hr) t1 (by rw [t2.pa];exact hT.root_pa) hA hno (fun hm ad e=>h2 _ (ha hm ad e)) (Nat.le_trans (hP.few hQ) (by omega))).mono ?_
  rintro e w' ⟨rfl,hd,_⟩
  exact ⟨rfl,M,Zt.next (M:=M) hb h2 (hd hf),hP,e1,e2,e3⟩
theorem news_len (Q:Plan) (k v i:Nat):(Q.news k v i).length=(TM.kd (Q.p k) (v:Int) Q.n).length:=by
  unfold Plan.news TM.kd
  rw [List.length_map,List.length_map]
def Q1 (n r:Nat) (E:List TM.Ed) (p:Pk) (m:Nat):Plan:=(qq n r E p m).later 6
def Q2 (n r:Nat) (E:List TM.Ed) (p:Pk) (m:Nat) (pp dd:List Int):Plan:=(Q1 n r E p m).publish 2 pp dd
def Q3 (n r:Nat) (E:List TM.Ed) (p:Pk) (m:Nat) (pp dd:List Int):Plan:=(Q2 n r E p m pp dd).later 12
def R0:Nat→Int:=fun _=>-1
def R1 (r:Nat):Nat→Int:=updN R0 2 (r:Int)
theorem s_calm0 {w W:World} {b n r:Nat} {E:List TM.Ed} {p:Pk} {m:Nat} (hQ:(qq n r E p m).Ok) (h:PZ w W b (qq n r E p m) zeroH [] R0 []) :
    Calls Tryz.prog 9 #[.pointer (some ⟨b,0,none⟩)] W fun e w'=>e=.returned (.int .i64 2)∧Hid (PC w w' b (qq n r E p m) (fun _=>0) 6 R0 []):=by
  refine (pz_calm hQ (zero_full (fun _=>rfl) _) ⟨by show (0:Int)≤0;omega,by show (0:Int)≤900000;omega⟩ h (c:=fun _=>0) (fun _ _=>rfl)).mono ?_
  rintro e w' ⟨rfl,hz⟩
  exact ⟨rfl,hidden hz⟩
theorem s_pub {w W:World} {b n r:Nat} {E:List TM.Ed} {p:Pk} {m:Nat} (hr:r<n) (hf:TM.ef (n:Int) E=0) (h:PC w W b (qq n r E p m) (fun _=>0) 6 R0 []) :
    Calls Tryz.prog 12 #[.pointer (some ⟨b,0,none⟩),.int .i64 3,.int .i64 (r:Int)] W fun e w'=>e=.returned .nilIface∧∃ pp dd,Trees n r E pp dd∧Hid (PZ w w' b (Q2 n r E p m pp dd) zeroH [] (R1 r) []):=by
  refine (pz_publish (h.again (fun _=>rfl)) (k:=2) (by omega) rfl rfl hr hf).mono ?_
  rintro e w' ⟨rfl,pp,dd,hT,hz⟩
  exact ⟨rfl,pp,dd,hT,hidden hz⟩
theorem s_calm1 {w W:World} {b n r:Nat} {E:List TM.Ed} {p:Pk} {m:Nat} {pp dd:List Int} (hQ:(Q2 n r E p m pp dd).Ok) (h:PZ w W b (Q2 n r E p m pp dd) zeroH [] (R1 r) []) :
    Calls Tryz.prog 9 #[.pointer (some ⟨b,0,none⟩)] W fun e w'=>e=.returned (.int .i64 2)∧Hid (PC w w' b (Q2 n r E p m pp dd) (fun _=>0) 12 (R1 r) []):=by
  refine (pz_calm hQ (zero_full (fun _=>rfl) _) ⟨by show (0:Int)≤6;omega,by show (6:Int)≤900000;omega⟩ h (c:=fun _=>0) (fun _ _=>rfl)).mono ?_
  rintro e w' ⟨rfl,hz⟩
  exact ⟨rfl,hidden hz⟩
theorem Q2_ok {n r:Nat} {E:List TM.Ed} {p:Pk} {m:Nat} {pp dd:List Int} (hQ:(qq n r E p m).Ok) (hT:Trees n r E pp dd):(Q2 n r E p m pp dd).Ok:=(hQ.later 6).publish hT
theorem Q3_ok {n r:Nat} {E:List TM.Ed} {p:Pk} {m:Nat} {pp dd:List Int} (hQ:(qq n r E p m).Ok) (hT:Trees n r E pp dd):(Q3 n r E p m pp dd).Ok:=(Q2_ok hQ hT).later 12
theorem s_send {w W:World} {b n r:Nat} {E:List TM.Ed} {p:Pk} {pp dd:List Int} (hQ:(Q3 n r E p 1 pp dd).Ok) (a:Option Addr) (c:Nat) (hA:Arg W a p.L.length p.L) (hno:a=none→p.L.length=0∧c=0) (ha:0<p.L.length→∀ ad,a=some ad→ad.block<w.heap.size) (h:PC w W b (Q2 n r E p 1 pp dd) (fun _=>0) 12 (R1 r) []) :
    Calls Tryz.prog 13 #[.pointer (some ⟨b,0,none⟩),.int .i64 3,.agg #[.int .i64 p.s,.int .i64 p.t,.int .i64 p.l,.int .i64 p.q,.bool p.st,.slice a p.L.length c]] W fun e w'=>e=.returned .nilIface∧Hid (PZ w w' b (Q3 n r E p 1 pp dd) (upH zeroH 2 r) ((Q3 n r E p 1 pp dd).news 2 r 0) (R1 r) []):=by
  refine (pz_send hQ (h.again (fun _=>rfl)) (Below.refl _ _) (k:=2) (by omega) rfl rfl (by show 0<1;omega) a c (p:=p) rfl hA hno (fun hm ad e=>.inl (ha hm ad e))).mono ?_
  rintro e w' ⟨rfl,hz⟩
  exact ⟨rfl,hidden hz⟩
theorem s_calm2 {w W:World} {b n r:Nat} {E:List TM.Ed} {p:Pk} {pp dd:List Int} {X:List Fy} (hQ:(Q3 n r E p 1 pp dd).Ok) (h:PZ w W b (Q3 n r E p 1 pp dd) (upH zeroH 2 r) X (R1 r) []) :
    Calls Tryz.prog 9 #[.pointer (some ⟨b,0,none⟩)] W fun e w'=>e=.returned (.int .i64 (if X=[] then 2 else 3))∧Hid (PC w w' b (Q3 n r E p 1 pp dd) (fun k=>if k=2 then 1 else 0) (12+(if X=[] then 6 else 9)) (R1 r) []):=by
  refine (pz_calm hQ (zero_full (fun _=>rfl) _) ⟨by show (0:Int)≤12;omega,by show (12:Int)≤900000;omega⟩ h (c:=fun k=>if k=2 then 1 else 0) ?_).mono ?_
  · intro k hk
    show upH zeroH 2 r k r=_
    by_cases q:k=2
    · subst q;rw [upH_at];rfl
    · rw [upH_ne _ (fun x=>q x.1),if_neg q];rfl
  · rintro e w' ⟨rfl,hz⟩
    exact ⟨rfl,hidden hz⟩
set_option maxHeartbeats 1000000 in
set_option maxRecDepth 100000 in
theorem quiet_bad (N:Int) (a:Option Addr) (n cap:Nat) (E:List TM.Ed) (r:Int) (s t l q:Int) (st:Bool) (ba:Option Addr) (bm bc:Nat) (w:World) (hE:Tree.EArg w a n E) (hnc:n≤cap) (hf:TM.ef N E≠0) :
    Calls Tryz.prog 3 #[.int .i64 N,.slice a n cap,.int .i64 r,.agg #[.int .i64 s,.int .i64 t,.int .i64 l,.int .i64 q,.bool st,.slice ba bm bc]] w fun e w'=>e=.returned (.bool true)∧Below w.heap.size w w':=by
  obtain ⟨W0,hW0⟩:∃ W0,w.alloc (.cells #[.int .i64 s,.int .i64 t,.int .i64 l,.int .i64 q,.bool st,.slice ba bm bc] 25)=W0:=⟨_,rfl⟩
  have hB0:Below w.heap.size w W0:=by rw [← hW0];exact (Below.refl _ _).alloc (Nat.le_refl _) _
  have C1:=hidden (new_bad N a n cap E W0 (hE.below hB0) hnc hf)
  have C2:=hidden (fun W (hW:Below w.heap.size w W)=>Tree.check_calls N a n cap E W (hE.below hW) hnc)
  rw [show Tree.errv (TM.ef N E)=errv (TM.ef N E) from rfl] at C2
  rw [errv_pos hf] at C1 C2
  generalize TM.ef N E=f at *
  have HW0:=hidden hW0
  have HB0:=hidden hB0
  clear hE hnc hf hW0 hB0
  go_enter Tryz.func3,Tryz.ntmps3
  go_upto_region 1 with fail
  rw [HW0.out]
  go_wp2_with fail
  refine C1.out.mono ?_
  rintro e w1 ⟨rfl,hb1⟩
  have HB1:=hidden (HB0.out.trans (hb1.mono HB0.out.size))
  clear C1 hb1
  go_wp2_with fail
  refine (C2.out w1 HB1.out).mono ?_
  rintro e w2 ⟨rfl,hb2⟩
  have HB2:=hidden (HB1.out.trans (hb2.mono HB1.out.size))
  clear C2 hb2
  go_wp2_with fail
  go_ret
  exact ⟨rfl,HB2.out⟩
set_option maxHeartbeats 4000000 in
set_option maxRecDepth 100000 in
theorem quiet_range (nn:Nat) (a:Option Addr) (n cap:Nat) (E:List TM.Ed) (r:Int) (s t l q:Int) (st:Bool) (ba:Option Addr) (bm bc:Nat) (w:World) (hE:Tree.EArg w a n E) (hn0:a=none→n=0∧cap=0) (hnc:n≤cap) (hf:TM.ef (nn:Int) E=0) (hr:¬ (0≤r∧r<(nn:Int))) :
    Calls Tryz.prog 3 #[.int .i64 (nn:Int),.slice a n cap,.int .i64 r,.agg #[.int .i64 s,.int .i64 t,.int .i64 l,.int .i64 q,.bool st,.slice ba bm bc]] w fun e w'=>e=.returned (.bool true)∧Below w.heap.size w w':=by
  obtain ⟨W0,hW0⟩:∃ W0,w.alloc (.cells #[.int .i64 s,.int .i64 t,.int .i64 l,.int .i64 q,.bool st,.slice ba bm bc] 25)=W0:=⟨_,rfl⟩
  have hB0:Below w.heap.size w W0:=by rw [← hW0];exact (Below.refl _ _).alloc (Nat.le_refl _) _
  have hfit:=(TM.ef_zero.1 hf).2
  rw [Int.toNat_natCast] at hfit
  have hnn:=hfit.hi
  have hQ:(qq nn 0 E ⟨0,0,0,0,false,[]⟩ 0).Ok:=qq_ok (by omega) (fun h=>by omega)
  have C1:=hidden (pz_new (w:=W0) (W:=W0) (Q:=qq nn 0 E ⟨0,0,0,0,false,[]⟩ 0) (Below.refl _ _) a n cap (hE.below hB0) hn0 hnc hf rfl (fun _=>rfl) (fun _=>rfl))
  rw [show (qq nn 0 E ⟨0,0,0,0,false,[]⟩ 0).n=nn from rfl] at C1
  have HW0:=hidden hW0
  have HB0:=hidden hB0
  have HR:=hidden hr
  have hrc:r<0∨(nn:Int)≤r:=by omega
  clear hE hn0 hnc hf hW0 hB0 hfit hr
  go_enter Tryz.func3,Tryz.ntmps3
  go_upto_region 1 with fail
  rw [HW0.out]
  go_wp2_with fail
  refine C1.out.mono ?_
  rintro e w1 ⟨b,rfl,H1⟩
  have C2:=hidden (s_calm0 hQ H1)
  clear C1 H1
  go_wp2_with fail
  refine C2.out.mono ?_
  rintro e w2 ⟨rfl,H2⟩
  have C3:=hidden (pc_flying H2.out)
  have C4:=hidden (pc_now H2.out)
  clear C2
  go_wp2_with fail
  refine C3.out.mono ?_
  rintro e w3 ⟨rfl,hw3⟩
  obtain rfl:w2=w3:=hw3.symm
  clear C3
  go_wp2_with fail
  refine C4.out.mono ?_
  rintro e w4 ⟨rfl,h4⟩
  have H4:=hidden h4
  clear C4 h4 H2
  have C5:=hidden (pz_publish_range (H4.out.again (fun _=>rfl)) 3 r (.inr HR.out))
  have HB4:=hidden (HB0.out.trans (H4.out.bel.mono HB0.out.size))
  clear H4
  go_wp2_with fail
  refine C5.out.mono ?_
  rintro e w5 ⟨rfl,hw5⟩
  obtain rfl:w4=w5:=hw5.symm
  rw [errv_pos (show (1:Nat)≠0 by omega)]
  clear C5
  by_cases c:r<0
  · clear hrc
    go_wp2_with fail
    go_ret
    exact ⟨rfl,HB4.out⟩
  · have c2:(nn:Int)≤r:=by omega
    clear hrc
    go_wp2_with fail
    go_ret
    exact ⟨rfl,HB4.out⟩
set_option maxHeartbeats 4000000 in
set_option maxRecDepth 100000 in
theorem quiet_fault (HRP:∀ (s t l v:Int) (st:Bool) (a:Option Addr) (n cap:Nat) (w:World),Calls Tryz.prog 14 #[.agg #[.int .i64 s,.int .i64 t,.int .i64 l,.int .i64 v,.bool st,.slice a n cap]] w fun e w'=>e=.returned (.int .i64 (PM.fault s t l v n:Nat))∧Below w.heap.size w w') (nn r:Nat) (a:Option Addr) (n cap:Nat) (E:List TM.Ed) (s t l q:Int) (st:Bool) (ba:Option Addr) (bm bc:Nat) (L:List Nat) (w:World) (hE:Tree.EArg w a n E) (hn0:a=none→n=0∧cap=0) (hnc:n≤cap) (hA:Arg w ba bm L) (hno:ba=none→bm=0∧bc=0) (hf:TM.ef (nn:Int) E=0) (hr:r<nn) (hp:PM.fault s t l q bm≠0) :
    Calls Tryz.prog 3 #[.int .i64 (nn:Int),.slice a n cap,.int .i64 (r:Int),.agg #[.int .i64 s,.int .i64 t,.int .i64 l,.int .i64 q,.bool st,.slice ba bm bc]] w fun e w'=>e=.returned (.bool true)∧Below w.heap.size w w':=by
  obtain ⟨W0,hW0⟩:∃ W0,w.alloc (.cells #[.int .i64 s,.int .i64 t,.int .i64 l,.int .i64 q,.bool st,.slice ba bm bc] 25)=W0:=⟨_,rfl⟩
  have hB0:Below w.heap.size w W0:=by rw [← hW0];exact (Below.refl _ _).alloc (Nat.le_refl _) _
  have hfit:=(TM.ef_zero.1 hf).2
  rw [Int.toNat_natCast] at hfit
  have hnn:=hfit.hi
  have hQ:(qq nn r E ⟨0,0,0,0,false,[]⟩ 0).Ok:=qq_ok (by omega) (fun h=>by omega)
  have C1:=hidden (pz_new (w:=W0) (W:=W0) (Q:=qq nn r E ⟨0,0,0,0,false,[]⟩ 0) (Below.refl _ _) a n cap (hE.below hB0) hn0 hnc hf rfl (fun _=>rfl) (fun _=>rfl))
  rw [show (qq nn r E ⟨0,0,0,0,false,[]⟩ 0).n=nn from rfl] at C1
  have hbx:W0.heap[w.heap.size]?=some (.cells #[.int .i64 s,.int .i64 t,.int .i64 l,.int .i64 q,.bool st,.slice ba bm bc] 25 (0,0)):=by rw [← hW0];exact heap_alloc_new w _
  have HBX:Hid (∀ W,Below W0.heap.size W0 W→W.cell? ⟨w.heap.size,0,none⟩=some (.int .i64 s)∧W.cell? ⟨w.heap.size,1,none⟩=some (.int .i64 t)∧W.cell? ⟨w.heap.size,2,none⟩=some (.int .i64 l)∧W.cell? ⟨w.heap.size,3,none⟩=some (.int .i64 q)∧W.cell? ⟨w.heap.size,4,none⟩=some (.bool st)∧W.cell? ⟨w.heap.size,5,none⟩=some (.slice ba bm bc)):=by
    refine hidden ?_
    intro W hB
    have hb:=(hB.block _ (lt_of_block hbx)).trans hbx
    refine ⟨?_,?_,?_,?_,?_,?_⟩<;>simp [World.cell?,hb]
  have HA0:=hidden (hA.below hB0)
  have HAb:Hid (0<bm→∀ ad,ba=some ad→ad.block<W0.heap.size):=hidden (fun hm ad e=>by
    obtain ⟨b2,o2,e2,hc⟩:=(hA.below hB0).1.2 0 (by have:=hA.2.1;omega)
    rw [e] at e2
    cases e2
    exact World.block_lt_of_cell? W0 ⟨b2,o2+0,none⟩ hc)
  have HW0:=hidden hW0
  have HB0:=hidden hB0
  have HNo:=hidden hno
  have HF:=hidden hf
  have HR:=hidden hr
  have HRPf:=hidden (fun W=>HRP s t l q st ba bm bc W)
  have HP:=hidden hp
  obtain ⟨gp,hgp⟩:∃ gp,w.heap.size=gp:=⟨_,rfl⟩
  rw [hgp] at HBX
  have HGP:=hidden hgp
  clear hE hn0 hnc hf hW0 hB0 hfit hr hbx hA hno HRP hp hgp
  go_enter Tryz.func3,Tryz.ntmps3
  go_upto_region 1 with fail
  rw [HW0.out,HGP.out]
  go_wp2_with fail
  refine C1.out.mono ?_
  rintro e w1 ⟨b,rfl,H1⟩
  have C2:=hidden (s_calm0 hQ H1)
  clear C1 H1
  go_wp2_with fail
  refine C2.out.mono ?_
  rintro e w2 ⟨rfl,H2⟩
  have C3:=hidden (pc_flying H2.out)
  have C4:=hidden (pc_now H2.out)
  clear C2
  go_wp2_with fail
  refine C3.out.mono ?_
  rintro e w3 ⟨rfl,hw3⟩
  obtain rfl:w2=w3:=hw3.symm
  clear C3
  go_wp2_with fail
  refine C4.out.mono ?_
  rintro e w4 ⟨rfl,h4⟩
  have H4:=hidden h4
  clear C4 h4 H2
  have C5:=hidden (s_pub HR.out HF.out H4.out)
  clear H4
  go_wp2_with fail
  refine C5.out.mono ?_
  rintro e w5 ⟨rfl,pp,dd,hT,H5⟩
  have hQ2:=Q2_ok hQ hT
  have hQ3:=Q3_ok hQ hT
  have C6:=hidden (s_calm1 hQ2 H5.out)
  clear C5 H5
  go_wp2_with fail
  refine C6.out.mono ?_
  rintro e w6 ⟨rfl,H6⟩
  have C7:=hidden (pc_flying H6.out)
  clear C6
  go_wp2_with fail
  refine C7.out.mono ?_
  rintro e w7 ⟨rfl,hw7⟩
  obtain rfl:w6=w7:=hw7.symm
  have H7:=hidden (H6.out.again (fun _=>rfl))
  have C8:=hidden (pz_send_bad hQ3 H7.out (k:=2) (by omega) rfl rfl s t l q st ba bm bc L (HA0.out.below H6.out.bel) HNo.out HAb.out HP.out)
  obtain ⟨x0,x1,x2,x3,x4,x5⟩:=HBX.out w6 H6.out.bel
  have hp:=HP.out
  rw [errv_pos hp] at C8
  obtain ⟨f,hff⟩:∃ f,PM.fault s t l q bm=f:=⟨_,rfl⟩
  rw [hff] at C8 HRPf hp
  clear C7 H6 H7 hff HP
  go_wp2_with fail
  refine C8.out.mono ?_
  rintro e w8 ⟨rfl,H8⟩
  obtain ⟨y0,y1,y2,y3,y4,y5⟩:=HBX.out w8 H8.bel
  have HZ8:=hidden H8
  clear C8 x0 x1 x2 x3 x4 x5 H8
  have hfz:((f:Int)==0)=false:=by simp;omega
  have hfn:((f:Int) != 0)=true:=by simp;omega
  go_wp2_with fail
  refine (HRPf.out w8).mono ?_
  rintro e w9 ⟨rfl,hb9⟩
  have HZ9:=hidden (HZ8.out.below hb9)
  have C9:=hidden (pz_flying HZ9.out)
  clear HZ8 hb9
  go_wp2_with fail
  refine C9.out.mono ?_
  rintro e w10 ⟨rfl,hw10⟩
  obtain rfl:w9=w10:=hw10.symm
  have HBe:=hidden (HB0.out.trans (HZ9.out.bel.mono HB0.out.size))
  clear C9 HZ9
  go_wp2_with fail
  go_ret
  exact ⟨rfl,HBe.out⟩
end Go.Proofs.YtfgponidkfgcpaaGreat.MS
