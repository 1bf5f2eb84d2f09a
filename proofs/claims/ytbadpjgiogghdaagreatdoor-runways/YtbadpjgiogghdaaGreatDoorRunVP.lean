/-
  A new session; what goes on from line to line stays such as it may be.
-/
import Derived.Test.YtbadpjgiogghdaaGreatDoorSesAll
namespace Go.Proofs.YtbadpjgiogghdaaGreatDoor.Run
open Go.ChangeShapes Go.WideShapes Go.ChangeAt Go.RowKit Go.Proofs.YtbadpjgiogghdaaGreatDoor.Mem Go.Proofs.YtbadpjgiogghdaaGreatDoor.RN Go.Proofs.YtbadpjgiogghdaaGreatDoor.RC
set_option linter.unusedVariables false

theorem ss0_ok:ss0.Ok:=⟨by decide,by decide,by decide,VO.inv_zero,⟨by decide,by decide,by decide,by decide,by decide,by decide,by decide⟩⟩
theorem rise_lt (s d:Nat):Win.riseS s d<18446744073709551616:=by
  unfold Win.riseS
  exact Nat.or_lt_two_pow (n:=64) (Nat.mod_lt _ (by decide)) (by decide)
theorem take1_ok {S:Ss} (h:S.Ok) (n:Int) (g:Bool) (p:Nat) (l:Int) (st:Bool) (hl:p=0→0≤l∧l≤3):(take1 S n g p l st).2.Ok:=
  ⟨h.t0,h.t1,h.s1,h.vo,LM.inv_take h.ly hl⟩
theorem seen_ok {S:Ss} (h:S.Ok) (W:Ws):(aSeen S W).2.Ok:=by
  unfold aSeen
  split
  · exact h
  · refine ⟨?_,?_,?_,h.vo,h.ly⟩
    · show -1≤wT S.top W.number.1
      unfold wT
      split
      · have:=h.t0;omega
      · exact h.t0
    · show wT S.top W.number.1≤1099511627776
      unfold wT
      split
      · rename_i hq
        have:=hq.1
        unfold wF at this
        split at this<;>omega
      · exact h.t1
    · show wS S.top W.number.1 S.seen<18446744073709551616
      unfold wS
      split
      · rename_i hq
        split
        · exact rise_lt _ _
        · have h8:¬ 8≤S.top - W.number.1:=by
            intro h8
            unfold wF at hq
            split at hq
            · omega
            · simp at hq
          exact Nat.or_lt_two_pow (n:=64) h.s1 (Nat.pow_lt_pow_right (by decide) (by omega))
      · exact h.s1
theorem line_ok {D:Far} {S:Ss} (h:S.Ok) (x:List UInt8):(line D S x).2.Ok:=by
  unfold line aDo
  generalize (ws0 x).next.1=y
  generalize (ws0 x).next.2=W
  iterate 11
    first
      | exact h
      | (split
         · first
           | exact h
           | exact seen_ok h W
           | (unfold aHear
              split
              · exact h
              · exact ⟨h.t0,h.t1,h.s1,VO.inv_st h.vo _,h.ly⟩)
           | (unfold aTake
              split
              · exact h
              · exact take1_ok h _ _ _ _ _ (fun hp=>by
                  obtain ⟨s,t,l,v,h1,h2,h3,h4,h5,h6,h7,h8,h9⟩:=PM.fault_zero hp
                  omega))
           | (unfold aGone
              split
              · exact h
              · exact take1_ok h _ _ _ _ _ (fun _=>by decide)))
theorem after_ok {D:Far}:∀ (L:List (List UInt8)) {S:Ss},S.Ok→(after D S L).Ok
  | [],_,h=>h
  | x::r,_,h=>after_ok r (line_ok h x)
set_option maxHeartbeats 1000000 in
set_option maxRecDepth 100000 in
theorem newSession_calls (w:World) :
    Calls Tryz.prog 15 #[] w fun e w'=>∃ sb wb vb lb,e=.returned (.pointer (some ⟨sb,0,none⟩))∧SsAt w' sb wb vb lb none ss0∧Below w.heap.size w w'∧w.heap.size≤sb∧w.heap.size≤wb∧w.heap.size≤vb∧w.heap.size≤lb:=by
  have C1:=hidden (Win.new_ok 8 w (by decide) (by decide))
  have C2:=hidden (fun W=>Voice.new_ok 2 W (by decide) (by decide))
  have C3:=hidden (fun W=>Layer.new_ok 1 W (by decide) (by decide))
  go_enter Tryz.func15,Tryz.ntmps15
  go_wp2_with fail
  refine C1.out.mono ?_
  rintro e w1 ⟨rfl,h1⟩
  have hb1:Below w.heap.size w w1:=by rw [h1];exact (Below.refl _ _).alloc (Nat.le_refl _) _
  have hw1:WinAt w1 w.heap.size (-1) 0:=by rw [h1];exact heap_alloc_new _ _
  have hz1:w1.heap.size=w.heap.size+1:=by rw [h1];simp
  have HB1:=hidden hb1
  have HW1:=hidden hw1
  have HZ1:=hidden hz1
  have C2':=hidden (C2.out w1)
  clear h1 hb1 hw1 hz1
  go_wp2_with fail
  refine C2'.out.mono ?_
  rintro e w2 ⟨rfl,hv,hb2⟩
  have HV:=hidden hv
  have HB2:=hidden hb2
  have C3':=hidden (C3.out w2)
  clear hv hb2
  go_wp2_with fail
  refine C3'.out.mono ?_
  rintro e w3 ⟨lb,rfl,hlb,hly,hb3⟩
  have HLB:=hidden hlb
  have HLY:=hidden hly
  have HB3:=hidden hb3
  clear hlb hly hb3
  go_wp2_with fail
  go_ret
  have hbx:Below w3.heap.size w3 (w3.alloc (.cells #[.pointer (some ⟨w.heap.size,0,none⟩),.pointer (some ⟨w1.heap.size,0,none⟩),.pointer (some ⟨lb,0,none⟩)] 113)):=(Below.refl _ _).alloc (Nat.le_refl _) _
  have s1:=HB1.out.size
  have s2:=HB2.out.size
  have s3:=HB3.out.size
  have z1:=HZ1.out
  have v2:=HV.out.lt
  have l2:=HLB.out
  have l3:=HLY.out.lt
  refine ⟨w3.heap.size,w.heap.size,w1.heap.size,lb,rfl,⟨heap_alloc_new _ _,?_,?_,?_,?_⟩,?_,?_,?_,?_,?_⟩
  · have o2:=Only.of_below HB2.out []
    have o3:=Only.of_below HB3.out []
    have o4:=Only.of_below hbx []
    exact o4.block (o3.block (o2.block HW1.out (by simp)) (by simp)) (by simp)
  · exact (HV.out.below HB3.out).below hbx
  · exact HLY.out.below hbx
  · omega
  · exact ((HB1.out.trans (HB2.out.mono s1)).trans (HB3.out.mono (by omega))).trans (hbx.mono (by omega))
  · omega
  · omega
  · omega
  · omega
end Go.Proofs.YtbadpjgiogghdaaGreatDoor.Run

