/-
  The walk of the Go function MeshQuiet.
-/
import Derived.Test.YtfgponidkfgcpaaGreatQuietAll
namespace Go.Proofs.YtfgponidkfgcpaaGreat.MS
open Go.ChangeShapes Go.WideShapes Go.ChangeAt Go.RowKit Go.Maps Go.Proofs.YtfgponidkfgcpaaGreat.Mem Go.Proofs.YtfgponidkfgcpaaGreat.NO Go.Proofs.YtfgponidkfgcpaaGreat.ND
set_option linter.unusedVariables false
theorem fault_seq {s t l q:Int} {m:Nat} (h:PM.fault s t l q m=0):0≤s∧s≤65535:=by
  unfold PM.fault at h
  split at h
  · omega
  · omega
set_option maxHeartbeats 4000000 in
set_option maxRecDepth 100000 in
theorem quiet_good (nn r:Nat) (a:Option Addr) (n cap:Nat) (E:List TM.Ed) (s t l q:Int) (st:Bool) (ba:Option Addr) (bm bc:Nat) (L:List Nat) (w:World) (hE:Tree.EArg w a n E) (hn0:a=none→n=0∧cap=0) (hnc:n≤cap) (hA:Arg w ba bm L) (hno:ba=none→bm=0∧bc=0) (hf:TM.ef (nn:Int) E=0) (hr:r<nn) (hp:PM.fault s t l q bm=0) :
    Calls Tryz.prog 3 #[.int .i64 (nn:Int),.slice a n cap,.int .i64 (r:Int),.agg #[.int .i64 s,.int .i64 t,.int .i64 l,.int .i64 q,.bool st,.slice ba bm bc]] w fun e w'=>e=.returned (.bool true)∧Below w.heap.size w w':=by
  obtain ⟨W0,hW0⟩:∃ W0,w.alloc (.cells #[.int .i64 s,.int .i64 t,.int .i64 l,.int .i64 q,.bool st,.slice ba bm bc] 25)=W0:=⟨_,rfl⟩
  have hB0:Below w.heap.size w W0:=by rw [← hW0];exact (Below.refl _ _).alloc (Nat.le_refl _) _
  have hfit:=(TM.ef_zero.1 hf).2
  rw [Int.toNat_natCast] at hfit
  have hnn:=hfit.hi
  have hQ:(qq nn r E ⟨s,t,l,q,st,L⟩ 1).Ok:=qq_ok (by omega) (fun _=>⟨(fault_seq hp).1,(fault_seq hp).2,by show PM.fault s t l q L.length=0;rw [hA.2.1];exact hp,hA.1.1⟩)
  have C1:=hidden (pz_new (w:=W0) (W:=W0) (Q:=qq nn r E ⟨s,t,l,q,st,L⟩ 1) (Below.refl _ _) a n cap (hE.below hB0) hn0 hnc hf rfl (fun _=>rfl) (fun _=>rfl))
  rw [show (qq nn r E ⟨s,t,l,q,st,L⟩ 1).n=nn from rfl] at C1
  have hbx:W0.heap[w.heap.size]?=some (.cells #[.int .i64 s,.int .i64 t,.int .i64 l,.int .i64 q,.bool st,.slice ba bm bc] 25 (0,0)):=by rw [← hW0];exact heap_alloc_new w _
  have HBX:Hid (∀ W,Below W0.heap.size W0 W→W.cell? ⟨w.heap.size,0,none⟩=some (.int .i64 s)∧W.cell? ⟨w.heap.size,1,none⟩=some (.int .i64 t)∧W.cell? ⟨w.heap.size,2,none⟩=some (.int .i64 l)∧W.cell? ⟨w.heap.size,3,none⟩=some (.int .i64 q)∧W.cell? ⟨w.heap.size,4,none⟩=some (.bool st)∧W.cell? ⟨w.heap.size,5,none⟩=some (.slice ba bm bc)):=by
    refine hidden ?_
    intro W hB
    have hb:=(hB.block _ (lt_of_block hbx)).trans hbx
    refine ⟨?_,?_,?_,?_,?_,?_⟩<;>simp [World.cell?,hb]
  have HA0:=hidden (hA.below hB0)
  have HAb:Hid (0<bm→∀ ad,ba=some ad→ad.block<W0.heap.size):=hidden (fun hm ad e=>by
    obtain ⟨b2,o2,e2,hc⟩:=(hA.below hB0).1.2 0 (by have:=hA.2.1;omega)
    rw [e] at e2
    cases e2
    exact World.block_lt_of_cell? W0 ⟨b2,o2+0,none⟩ hc)
  have HW0:=hidden hW0
  have HB0:=hidden hB0
  have HNo:=hidden hno
  have HF:=hidden hf
  have HR:=hidden hr
  have HBu:Hid (∀ W pp dd,Below W0.heap.size W0 W→Trees nn r E pp dd→Calls Tryz.prog 15 #[.int .i64 (nn:Int),.slice a n cap,.int .i64 (r:Int)] W fun e w'=>∃ pa pc vd,e=.returned (.tuple #[.slice pa nn pc,vd,.nilIface])∧Hid (Below W.heap.size W w'∧Tree.IArg w' pa nn pp)):=by
    refine hidden ?_
    intro W pp dd hB hT
    have hlf:TM.lf (nn:Int) E (r:Int)=0:=by
      unfold TM.lf
      rw [if_neg (by simp [hf]),if_neg (by simp [TM.isn];omega)]
    refine (Tree.build_calls (nn:Int) (r:Int) a n cap E W ((hE.below hB0).below hB) hnc).mono ?_
    rintro e w' ⟨vp,vd,p,d,rfl,hq⟩
    obtain ⟨q1,q2,q3⟩:=hq.bp.2 hlf
    rw [Int.toNat_natCast,Int.toNat_natCast] at q1
    rw [Int.toNat_natCast] at q2
    have e1:=q1.uniq hT.dist
    subst e1
    have e2:=q2.uniq hT.pars
    subst e2
    have o1:=hq.own1
    rw [q2.len] at o1
    obtain ⟨pa,pc,rfl,x1,_⟩:=Tree.own_ints o1 (by omega)
    rw [hlf]
    exact ⟨pa,pc,vd,rfl,hidden ⟨hq.bel,x1⟩⟩
  have HKi:Hid (∀ W pa pc pp dd,Trees nn r E pp dd→Tree.IArg W pa nn pp→Calls Tryz.prog 16 #[.slice pa nn pc,.int .i64 (r:Int)] W fun e w'=>∃ ka kc,e=.returned (.tuple #[.slice ka (TM.kd pp (r:Int) nn).length kc,.nilIface])∧Hid (Below W.heap.size W w')):=by
    refine hidden ?_
    intro W pa pc pp dd hT hI
    refine (Tree.kids_calls pa nn pc pp (r:Int) W hI).mono ?_
    rintro e w' ⟨v,rfl,ho,hb⟩
    rw [hT.bf hr]
    rw [hT.kl hr] at ho
    obtain ⟨ka,kc,rfl,_⟩:=Tree.own_ints ho (by have:=TM.kd_len pp (r:Int) nn;omega)
    exact ⟨ka,kc,rfl,hidden hb⟩
  obtain rfl:L.length=bm:=hA.2.1
  have HP:=hidden hp
  obtain ⟨gp,hgp⟩:∃ gp,w.heap.size=gp:=⟨_,rfl⟩
  rw [hgp] at HBX
  have HGP:=hidden hgp
  clear hE hn0 hnc hf hW0 hB0 hfit hr hbx hA hno hp hgp
  go_enter Tryz.func3,Tryz.ntmps3
  go_upto_region 1 with fail
  rw [HW0.out,HGP.out]
  go_wp2_with fail
  refine C1.out.mono ?_
  rintro e w1 ⟨b,rfl,H1⟩
  have C2:=hidden (s_calm0 hQ H1)
  clear C1 H1
  go_wp2_with fail
  refine C2.out.mono ?_
  rintro e w2 ⟨rfl,H2⟩
  have C3:=hidden (pc_flying H2.out)
  have C4:=hidden (pc_now H2.out)
  clear C2
  go_wp2_with fail
  refine C3.out.mono ?_
  rintro e w3 ⟨rfl,hw3⟩
  obtain rfl:w2=w3:=hw3.symm
  clear C3
  go_wp2_with fail
  refine C4.out.mono ?_
  rintro e w4 ⟨rfl,h4⟩
  have H4:=hidden h4
  clear C4 h4 H2
  have C5:=hidden (s_pub HR.out HF.out H4.out)
  clear H4
  go_wp2_with fail
  refine C5.out.mono ?_
  rintro e w5 ⟨rfl,pp,dd,hT,H5⟩
  have hQ2:=Q2_ok hQ hT
  have hQ3:=Q3_ok hQ hT
  have C6:=hidden (s_calm1 hQ2 H5.out)
  clear C5 H5
  go_wp2_with fail
  refine C6.out.mono ?_
  rintro e w6 ⟨rfl,H6⟩
  have C7:=hidden (pc_flying H6.out)
  clear C6
  go_wp2_with fail
  refine C7.out.mono ?_
  rintro e w7 ⟨rfl,hw7⟩
  obtain rfl:w6=w7:=hw7.symm
  have C8:=hidden (s_send hQ3 ba bc (HA0.out.below H6.out.bel) HNo.out HAb.out H6.out)
  obtain ⟨x0,x1,x2,x3,x4,x5⟩:=HBX.out w6 H6.out.bel
  obtain ⟨K,hK⟩:∃ K,(TM.kd pp (r:Int) nn).length=K:=⟨_,rfl⟩
  have hXl:((Q3 nn r E ⟨s,t,l,q,st,L⟩ 1 pp dd).news 2 r 0).length=K:=by rw [news_len];exact hK
  have hX0:((Q3 nn r E ⟨s,t,l,q,st,L⟩ 1 pp dd).news 2 r 0)=[]↔K=0:=by rw [← hXl];exact List.length_eq_zero_iff.symm
  generalize (Q3 nn r E ⟨s,t,l,q,st,L⟩ 1 pp dd).news 2 r 0=X at *
  clear C7 H6 HP
  go_wp2_with fail
  refine C8.out.mono ?_
  rintro e w8 ⟨rfl,H8⟩
  have C9:=hidden (HBu.out w8 pp dd H8.out.bel hT)
  clear C8 x0 x1 x2 x3 x4 x5
  go_wp2_with fail
  refine C9.out.mono ?_
  rintro e w9 ⟨pa,pc,vd,rfl,H9⟩
  have HZ9:=hidden (H8.out.below H9.out.1)
  have C10:=hidden (HKi.out w9 pa pc pp dd hT H9.out.2)
  rw [hK] at C10
  clear C9 H8 H9
  go_wp2_with fail
  refine C10.out.mono ?_
  rintro e w10 ⟨ka,kc,rfl,hb10⟩
  have HZ10:=hidden (HZ9.out.below hb10.out)
  have C11:=hidden (pz_flying HZ10.out)
  rw [hXl] at C11
  have C12:=hidden (s_calm2 hQ3 HZ10.out)
  clear C10 HZ9 hb10 hK
  by_cases hk:0<K
  · have hkz:(0:Int)<(K:Int):=Int.ofNat_lt.2 hk
    rw [if_neg (fun e=>by have:=hX0.1 e;omega)] at C12
    clear hX0 hXl hk
    go_wp2_with fail
    refine C11.out.mono ?_
    rintro e w11 ⟨rfl,hw11⟩
    obtain rfl:w10=w11:=hw11.symm
    clear C11
    go_wp2_with fail
    refine C12.out.mono ?_
    rintro e w12 ⟨rfl,H12⟩
    have C13:=hidden (pc_flying H12.out)
    have HBe:=hidden (HB0.out.trans (H12.out.bel.mono HB0.out.size))
    clear C12 H12
    go_wp2_with fail
    refine C13.out.mono ?_
    rintro e w13 ⟨rfl,hw13⟩
    obtain rfl:w12=w13:=hw13.symm
    go_wp2_with fail
    go_ret
    exact ⟨rfl,HBe.out⟩
  · obtain rfl:K=0:=by omega
    rw [if_pos (hX0.2 rfl)] at C12
    clear hX0 hXl hk
    go_wp2_with fail
    refine C11.out.mono ?_
    rintro e w11 ⟨rfl,hw11⟩
    obtain rfl:w10=w11:=hw11.symm
    clear C11
    go_wp2_with fail
    refine C12.out.mono ?_
    rintro e w12 ⟨rfl,H12⟩
    have C13:=hidden (pc_flying H12.out)
    have HBe:=hidden (HB0.out.trans (H12.out.bel.mono HB0.out.size))
    clear C12 H12
    go_wp2_with fail
    refine C13.out.mono ?_
    rintro e w13 ⟨rfl,hw13⟩
    obtain rfl:w12=w13:=hw13.symm
    go_wp2_with fail
    go_ret
    exact ⟨rfl,HBe.out⟩
end Go.Proofs.YtfgponidkfgcpaaGreat.MS
