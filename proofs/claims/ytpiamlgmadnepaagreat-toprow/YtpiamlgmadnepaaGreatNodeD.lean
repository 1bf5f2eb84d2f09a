/-
  What New, newPlanned and begin of package node return, and what they leave in memory.
-/
import Derived.Test.YtpiamlgmadnepaaGreatNodeC
namespace Go.Proofs.YtpiamlgmadnepaaGreat.ND
open Go.ChangeShapes Go.WideShapes Go.ChangeAt Go.RowKit Go.Maps Go.Proofs.YtpiamlgmadnepaaGreat.Mem Go.Proofs.YtpiamlgmadnepaaGreat.NO
set_option linter.unusedVariables false

theorem upto8 {i : Nat} (h : i < 8) : i = 0 ∨ i = 1 ∨ i = 2 ∨ i = 3 ∨ i = 4 ∨ i = 5 ∨ i = 6 ∨ i = 7 := by omega
/-- a node of which nothing is known yet -/
def nd0 (id : Int) : Nd := ⟨0, id, fun _ => none, [], 0, 0, fun _ => -1, [], []⟩
theorem new_err (id : Int) (w : World) (h : okN id = false) : Calls Tryz.prog 36 #[.int .i64 id] w fun e w' => e = .returned (.tuple #[.pointer none, errv 1]) ∧ w' = w := by
  have C := hidden (isNode_calls id)
  rw [h] at C
  clear h
  go_enter Tryz.func36, Tryz.ntmps36
  go_wp2_with fail
  refine (C.out _).mono ?_
  rintro e w1 ⟨rfl, rfl⟩
  go_wp2_with fail
  go_ret2
  exact ⟨rfl, rfl⟩
/-- what New leaves -/
def Made (w w' : World) (o : Nat → Tg) (n : Nat) (e : Ending) (N : Nd) : Prop :=
  ∃ b, e = .returned (.tuple #[.pointer (some ⟨b, 0, none⟩), .nilIface]) ∧ ∃ o' P, NAt w' o' n b P N ∧ Ext w o o' ∧ Below w.heap.size w w'
theorem made {w w1 : World} {o : Nat → Tg} {n : Nat} {id : Int} {pb : Nat} {mb : Nat → Nat} (h1 : ∀ k ∈ Pull.pblks pb mb, w.heap.size ≤ k) (h2 : Pull.PullAt w1 pb mb 10 0 (fun _ => -1) (fun _ => -1) []) (h3 : Below w.heap.size w w1) :
    Made w ((w1.alloc (.map #[] 0)).alloc (.cells #[.int .i64 0, .int .i64 id, .pointer none, .pointer none, .pointer none, .pointer none, .pointer none, .pointer none, .pointer none, .pointer none, .map (some w1.heap.size), .int .i64 0, .pointer (some ⟨pb, 0, none⟩), .slice none 0 0] 157)) o n (.returned (.tuple #[.pointer (some ⟨w1.heap.size + 1, 0, none⟩), .nilIface])) (nd0 id) := by
  have hbx := heap_alloc_new (w1.alloc (.map #[] 0)) (.cells #[.int .i64 0, .int .i64 id, .pointer none, .pointer none, .pointer none, .pointer none, .pointer none, .pointer none, .pointer none, .pointer none, .map (some w1.heap.size), .int .i64 0, .pointer (some ⟨pb, 0, none⟩), .slice none 0 0] 157)
  simp only [World.size_alloc] at hbx
  have hs := h3.size
  have hB := below2 w1 (.map #[] 0) (.cells #[.int .i64 0, .int .i64 id, .pointer none, .pointer none, .pointer none, .pointer none, .pointer none, .pointer none, .pointer none, .pointer none, .map (some w1.heap.size), .int .i64 0, .pointer (some ⟨pb, 0, none⟩), .slice none 0 0] 157)
  refine ⟨_, rfl, fun k => if k < w.heap.size then o k else if k = w1.heap.size + 1 then ⟨n, 0, 0⟩ else if k = w1.heap.size then ⟨n, 0, 1⟩ else ⟨n, 2, 0⟩, ⟨fun _ => ⟨0, none, 0, 0, 0, .slice none 0 0, 0, 0, 0⟩, w1.heap.size, fun _ => ⟨0, 0, 0, 0, 0, .slice none 0 0⟩, pb, mb, .slice none 0 0⟩, ?_, fun k hk => if_pos hk, h3.trans (hB.mono hs)⟩
  refine ⟨⟨_, hbx, ?_⟩, ?_, ?_, ⟨.map [], ?_, SM.nil _⟩, ?_, ?_, h2.below hB, ?_, LetAt.nil _ _, ?_⟩
  · refine ⟨rfl, rfl, rfl, ?_, rfl, rfl, rfl, rfl⟩
    intro i hi
    rcases upto8 hi with rfl | rfl | rfl | rfl | rfl | rfl | rfl | rfl <;> rfl
  · show (if w1.heap.size + 1 < w.heap.size then _ else if w1.heap.size + 1 = w1.heap.size + 1 then _ else _) = _
    rw [if_neg (by omega), if_pos rfl]
  · intro i hi t ht
    exact absurd ht (by simp [nd0])
  · exact (World.ownsMap_made w1 _ _ _).alloc _
  · show (if w1.heap.size < w.heap.size then _ else if w1.heap.size = w1.heap.size + 1 then _ else if w1.heap.size = w1.heap.size then _ else _) = _
    rw [if_neg (by omega), if_neg (by omega), if_pos rfl]
  · intro x hx
    simp [nd0] at hx
  · intro k hk
    have q1 := h1 k hk
    have q2 := h2.blt k hk
    show (if k < w.heap.size then _ else if k = w1.heap.size + 1 then _ else if k = w1.heap.size then _ else _) = _
    rw [if_neg (by omega), if_neg (by omega), if_neg (by omega)]
  · intro k hk
    simp [Value.ownBlock] at hk
theorem new_ok (id : Int) (o : Nat → Tg) (n : Nat) (w : World) (h : okN id = true) : Calls Tryz.prog 36 #[.int .i64 id] w fun e w' => Made w w' o n e (nd0 id) := by
  have C := hidden (isNode_calls id)
  rw [h] at C
  clear h
  have CP := hidden (Pull.new_ok 10 w (by omega) (by omega))
  have hmm := @run_makeMap Tryz.prog
  go_enter Tryz.func36, Tryz.ntmps36
  go_wp2_with fail
  refine (C.out _).mono ?_
  rintro e w1 ⟨rfl, rfl⟩
  go_wp2_with fail
  refine CP.out.mono ?_
  rintro e w2 ⟨pb, rfl, mb, h1, h2, h3⟩
  have HM := hidden (made (o := o) (n := n) (id := id) h1 h2 h3)
  clear h1 h2 h3
  go_wp2_with fail
  go_ret2
  exact HM.out

/-- a track of which nothing came yet -/
def tr0 (tk ep : Int) : Tr := ⟨tk, ep, 0, [], 0, -1, [], [], -1, [], fun _ => (0, 0)⟩
theorem newP_calls (tk ep : Int) (w : World) : Calls Tryz.prog 111 #[.int .i64 tk, .int .i64 ep] w fun e w' =>
    ∃ P : TP, e = .returned (.tuple #[.pointer (some ⟨P.p, 0, none⟩), .nilIface]) ∧ TrAt w' P (tr0 tk ep) ∧ (∀ k ∈ tblks P (tr0 tk ep), w.heap.size ≤ k) ∧ Below w.heap.size w w' := by
  have CG := hidden (Gaps.new_ok 3 3 w (by omega) (by omega) (by omega) (by omega))
  have CR := hidden (fun W => Ring.new_ok 64 W (by omega) (by omega))
  have hmm := @run_makeMap Tryz.prog
  go_enter Tryz.func111, Tryz.ntmps111
  go_wp2_with fail
  refine CG.out.mono ?_
  rintro e w1 ⟨gb, gm, rfl, g1, g2, g3, g4⟩
  go_wp2_with fail
  refine (CR.out _).mono ?_
  rintro e w2 ⟨rb, rm, rfl, r1, r2, r3, r4⟩
  have HG := hidden (And.intro g1 (And.intro g2 (And.intro g3 g4)))
  have HR := hidden (And.intro r1 (And.intro r2 (And.intro r3 r4)))
  clear g1 g2 g3 g4 r1 r2 r3 r4
  go_wp2_with fail
  go_ret2
  obtain ⟨g1, g2, g3, g4⟩ := HG.out
  obtain ⟨r1, r2, r3, r4⟩ := HR.out
  have hs1 := g4.size
  have hs2 := r4.size
  have hB := below2 w2 (.map #[] 0) (.cells #[.int .i64 tk, .int .i64 ep, .int .i64 0, .slice none 0 0, .pointer (some ⟨gb, 0, none⟩), .pointer (some ⟨rb, 0, none⟩), .map (some w2.heap.size)] 174)
  have hbx := heap_alloc_new (w2.alloc (.map #[] 0)) (.cells #[.int .i64 tk, .int .i64 ep, .int .i64 0, .slice none 0 0, .pointer (some ⟨gb, 0, none⟩), .pointer (some ⟨rb, 0, none⟩), .map (some w2.heap.size)] 174)
  simp only [World.size_alloc] at hbx
  refine ⟨⟨w2.heap.size + 1, none, 0, gb, gm, .slice none 0 0, rb, rm, w2.heap.size⟩, rfl, ⟨hbx, Gaps.IArg.nil _ _, fun _ => ⟨rfl, rfl⟩, (g3.below r4).below hB, r3.below hB, ⟨.map [], (World.ownsMap_made w2 _ _ _).alloc _, RM.keys_empty, by intro i hi; simp [tr0] at hi⟩, ?_, by intro k hk; simp [kblk, tr0] at hk⟩, ?_, (g4.trans (r4.mono hs1)).trans (hB.mono (by omega))⟩
  · have q1 := g3.lt gm (by simp [Gaps.blks])
    have q2 := r3.lt.2
    show gm ≠ rm ∧ gm ≠ w2.heap.size ∧ rm ≠ w2.heap.size
    omega
  intro k hk
  simp [tblks, Gaps.blks, kblk, tr0, Value.ownBlock] at hk
  rcases hk with rfl | rfl | rfl | rfl | rfl | rfl <;> omega

/-- what begin makes -/
structure Begun (w w' : World) (sb : Nat) (tk mo : Int) (gv : Value) (ob om lb ub : Nat) : Prop where
  box : w'.heap[sb]? = some (.cells #[.int .i64 tk, .int .i64 mo, .pointer (some ⟨ob, 0, none⟩), .pointer (some ⟨lb, 0, none⟩), .pointer (some ⟨ub, 0, none⟩), gv] 162 (0, 0))
  ord : Order.OrderAt w' ob om 10 0 (-1) []
  lay : Layer.LayerAt w' lb mo (-1) (-1) false
  out : Out.OutAt w' ub 0 0 0 0 0
  new : w.heap.size ≤ ob ∧ w.heap.size ≤ om ∧ w.heap.size ≤ lb ∧ w.heap.size ≤ ub
  only : Only [sb] w w'
set_option maxHeartbeats 1000000 in
theorem begin_calls (sb : Nat) (tk mo : Int) (v2 v3 v4 gv : Value) (w : World) (h : w.heap[sb]? = some (.cells #[.int .i64 tk, .int .i64 mo, v2, v3, v4, gv] 162 (0, 0))) (h0 : 0 ≤ mo) (h1 : mo ≤ 3) :
    Calls Tryz.prog 87 #[.pointer (some ⟨sb, 0, none⟩)] w fun e w' => ∃ ob om lb ub, e = .returned .nilIface ∧ Begun w w' sb tk mo gv ob om lb ub := by
  have CO := hidden (Order.new_ok 10 w (by omega) (by omega))
  have CL := hidden (fun W => Layer.new_ok mo W h0 h1)
  have CU := hidden (fun W => Out.new_ok 0 0 W (by omega) (by omega) (by omega) (by omega))
  have HX := hidden h
  clear h h0 h1
  go_enter Tryz.func87, Tryz.ntmps87
  go_wp2_with fail
  refine CO.out.mono ?_
  rintro e w1 ⟨ob, om, rfl, o1, o2, o3, o4⟩
  have hx := (o4.block sb (lt_of_block HX.out)).trans HX.out
  have c1 : w1.cell? ⟨sb, 1, none⟩ = some (.int .i64 mo) := by simp [World.cell?, hx]
  have HO := hidden (And.intro o1 (And.intro o2 (And.intro o3 o4)))
  clear o1 o2 o3 o4
  have HX1 := hidden hx
  clear hx
  go_wp2_with fail
  refine (CL.out _).mono ?_
  rintro e w2 ⟨lb, rfl, l1, l2, l3⟩
  have HL := hidden (And.intro l1 (And.intro l2 l3))
  clear l1 l2 l3 c1
  go_wp2_with fail
  refine (CU.out _).mono ?_
  rintro e w3 ⟨ub, rfl, u1, u2, u3⟩
  have hx := (u3.block sb (by have := HL.out.2.2.size; have := lt_of_block HX1.out; omega)).trans ((HL.out.2.2.block sb (lt_of_block HX1.out)).trans HX1.out)
  have HU := hidden (And.intro u1 (And.intro u2 u3))
  clear u1 u2 u3
  have c2 : w3.cell? ⟨sb, 2, none⟩ = some v2 := by simp [World.cell?, hx]
  have c3 : w3.cell? ⟨sb, 3, none⟩ = some v3 := by simp [World.cell?, hx]
  have c4 : w3.cell? ⟨sb, 4, none⟩ = some v4 := by simp [World.cell?, hx]
  have f2 : w3.frozen? ⟨sb, 2, none⟩ = false := by simp [World.frozen?, hx]
  have f3 : w3.frozen? ⟨sb, 3, none⟩ = false := by simp [World.frozen?, hx]
  have f4 : w3.frozen? ⟨sb, 4, none⟩ = false := by simp [World.frozen?, hx]
  have k1 := heap_setCell_same w3 sb 2 _ _ (.pointer (some ⟨ob, 0, none⟩)) hx
  have k2 := heap_setCell_same _ sb 3 _ _ (.pointer (some ⟨lb, 0, none⟩)) k1
  have k3 := heap_setCell_same _ sb 4 _ _ (.pointer (some ⟨ub, 0, none⟩)) k2
  have HX3 := hidden hx
  have HK3 := hidden k3
  clear hx k1 k2 k3
  go_wp2_with fail
  go_ret
  obtain ⟨o1, o2, o3, o4⟩ := HO.out
  obtain ⟨l1, l2, l3⟩ := HL.out
  obtain ⟨u1, u2, u3⟩ := HU.out
  have s1 := o4.size
  have s2 := l3.size
  have s3 := u3.size
  have ls := lt_of_block HX.out
  have on3 : Only [sb] w3 (((w3.setCell ⟨sb, 2, none⟩ (.pointer (some ⟨ob, 0, none⟩))).setCell ⟨sb, 3, none⟩ (.pointer (some ⟨lb, 0, none⟩))).setCell ⟨sb, 4, none⟩ (.pointer (some ⟨ub, 0, none⟩))) := by
    iterate 3 refine Only.setCell ?_ (by simp) _
    exact Only.refl _ _
  have nb : ∀ k ∈ [sb], ∀ cs fr, w3.heap[k]? ≠ some (.cells cs 5 fr) := by
    intro k hk cs fr
    simp only [List.mem_singleton] at hk
    subst hk
    rw [HX3.out]
    simp
  have hno : ∀ k, w.heap.size ≤ k → k ∉ [sb] := by intro k hk; simp; omega
  refine ⟨ob, om, lb, ub, rfl, by simpa using HK3.out, ((o3.below l3).below u3).only on3 (hno _ o1) (hno _ o2) nb, (l2.below u3).only on3 (hno _ (by omega)), u2.only on3 (hno _ (by omega)), ⟨o1, o2, by omega, by omega⟩, ?_⟩
  exact (Only.of_below ((o4.trans (l3.mono s1)).trans (u3.mono (by omega))) _).trans on3
end Go.Proofs.YtpiamlgmadnepaaGreat.ND

