/-
  What Unsub of package node, and choirsame.Packets of two rows that are the same, return, and what they leave in memory. Their condition: the node is such as it may be.
-/
import Derived.Test.YtijfocggdjjnjaiGreatDoorSubV
import Derived.Deep.RegionWith
import Derived.Deep.CutRange
namespace Go.Proofs.YtijfocggdjjnjaiGreatDoor.ND
open Go.ChangeShapes Go.WideShapes Go.ChangeAt Go.RowKit Go.Maps Go.Proofs.YtijfocggdjjnjaiGreatDoor.Mem Go.Proofs.YtijfocggdjjnjaiGreatDoor.NO
set_option linter.unusedVariables false

theorem flat6 : ∀ (X : List (Pk × Value)) (j : Nat) (h : j < X.length), ∀ t, t < 6 → (X.flatMap fun z => pc z.1 z.2)[j * 6 + t]? = (pc X[j].1 X[j].2)[t]?
  | [], j, h => absurd h (by simp)
  | x :: X, 0, h => fun t ht => by
    simp only [List.flatMap_cons, List.getElem_cons_zero]
    rw [List.getElem?_append_left (by simp [pc]; omega)]
    simp
  | x :: X, j + 1, h => fun t ht => by
    have := flat6 X j (by simpa using h) t ht
    simp only [List.flatMap_cons, List.getElem_cons_succ]
    rw [List.getElem?_append_right (by simp [pc]; omega), ← this]
    congr 1
    simp [pc]
    omega
/-- a row that was got, one of it -/
theorem GotAt.at {w : World} {o : Nat → Tg} {a : Option Addr} {n c : Nat} {G : List Pk} (h : GotAt w o (.slice a n c) G) {j : Nat} (hj : j < G.length) : ∃ g a' m c', a = some ⟨g, 0, none⟩ ∧ (w.cell? ⟨g, j * 6, none⟩ = some (.int .i64 G[j].s) ∧ w.cell? ⟨g, j * 6 + 1, none⟩ = some (.int .i64 G[j].t) ∧ w.cell? ⟨g, j * 6 + 2, none⟩ = some (.int .i64 G[j].l) ∧ w.cell? ⟨g, j * 6 + 3, none⟩ = some (.int .i64 G[j].q) ∧ w.cell? ⟨g, j * 6 + 4, none⟩ = some (.bool G[j].st) ∧ w.cell? ⟨g, j * 6 + 5, none⟩ = some (.slice a' m c')) ∧ Arg w a' m G[j].L := by
  obtain ⟨X, r1, r2, r3⟩ := h
  have hlen : G.length = X.length := by rw [← r1, List.length_map]
  have hjx : j < X.length := by omega
  have hG : G[j] = X[j].1 := by simp [← r1]
  rcases r2.2 with ⟨e, h0⟩ | ⟨g, cap, cur, e, _⟩
  · omega
  · cases e
    obtain ⟨a', m, c', eb, hA, _⟩ := r3 X[j] (List.getElem_mem hjx)
    have hl : (X.flatMap fun z => pc z.1 z.2).length = X.length * 6 := r2.1
    have k : ∀ t, t < 6 → w.cell? ⟨g, j * 6 + t, none⟩ = (pc X[j].1 X[j].2)[t]? := fun t ht => by rw [r2.cellAt (j * 6 + t) (by omega), flat6 X j hjx t ht]
    rw [hG]
    refine ⟨g, a', m, c', rfl, ⟨k 0 (by omega), k 1 (by omega), k 2 (by omega), k 3 (by omega), k 4 (by omega), ?_⟩, hA⟩
    rw [k 5 (by omega), eb]
    rfl
theorem GotAt.bel {w w' : World} {o : Nat → Tg} {lv : Value} {G : List Pk} (h : GotAt w o lv G) (hb : Below w.heap.size w w') : GotAt w' o lv G := h.own (Only.of_below hb []) (by simp) (by simp) (Ext.refl _ _)
set_option maxHeartbeats 2000000 in
set_option maxRecDepth 100000 in
theorem gots_same (a b : Option Addr) (N ca cb' : Nat) (o : Nat → Tg) (G : List Pk) (w : World) (hA : GotAt w o (.slice a N ca) G) (hB : GotAt w o (.slice b N cb') G) (hG : G.length = N) (hN : N ≤ 1000) :
    Calls Tryz.prog 18 #[.slice a N ca, .slice b N cb'] w fun e w' => e = .returned (.bool true) ∧ Below w.heap.size w w' := by
  have HA := hidden hA
  have HB := hidden hB
  have HG := hidden hG
  clear hA hB hG
  go_enter Tryz.func18, Tryz.ntmps18
  go_wp2_with fail
  go_loopg [5] N (fun gh i wr => ∃ k : Nat, k + gh = N ∧ i = .int .i64 (k : Int) ∧ Hid (Below w.heap.size w wr))
  case atStart => exact ⟨0, by omega, rfl, Below.refl _ _⟩
  case round =>
    obtain ⟨k, hk, rfl, HW⟩ := hrel
    by_cases hkN : k < N
    · have hkG : k < G.length := by rw [HG.out]; exact hkN
      obtain ⟨g, a1, n1, c1, ea, ⟨e0, e1, e2, e3, e4, e5⟩, hB1⟩ := (HA.out.bel HW.out).at hkG
      obtain ⟨g', a2, n2, c2, eb, ⟨f0, f1, f2, f3, f4, f5⟩, hB2⟩ := (HB.out.bel HW.out).at hkG
      subst ea eb
      have hki : (k : Int) < (N : Int) := by omega
      have hk0 : (0 : Int) ≤ (k : Int) := by omega
      have HC := hidden (fun W (h : Below wr.heap.size wr W) => Pack.same_pk G[k].s G[k].t G[k].l G[k].q G[k].st a1 a2 n1 n2 c1 c2 G[k].L W (hB1.below h) (hB2.below h))
      clear hB1 hB2
      generalize G[k].s = q0 at *
      generalize G[k].t = q1 at *
      generalize G[k].l = q2 at *
      generalize G[k].q = q3 at *
      generalize G[k].st = q4 at *
      clear hkG
      go_upto_region 6 with fail
      go_cut [6] from 12 to 28 (fun x wx => x = .bool true ∧ Hid (Below w.heap.size w wx))
      case first =>
        go_region_with (go_at_call 16; refine (HC.out _ ?_).mono ?_; exact (Below.refl _ _).drew; rintro e w2 ⟨rfl, hb2⟩)
        all_goals go_wp2_with fail
        all_goals go_meet
        all_goals exact ⟨rfl, HW.out.trans ((⟨hb2.os, hb2.tape, hb2.output, hb2.size, hb2.block⟩ : Below wr.heap.size wr w2).mono HW.out.size)⟩
      case rest =>
      obtain ⟨rfl, HWc⟩ := hcut
      go_wp2_with fail
      go_roundg (N - (k + 1))
      case measure => omega
      case rel => exact ⟨k + 1, by omega, by go_num, HWc⟩
    · have hki : ¬ (k : Int) < (N : Int) := by omega
      go_wp2_with fail
      go_ret
      exact ⟨rfl, HW.out⟩
/-- one who subscribed goes -/
def Nd.less (N : Nd) (x : Int) : Nd := { N with sb := N.sb.filter fun y => decide (y.1 ≠ x) }
theorem ids_filter (l : List (Int × Sb)) (x : Int) : ids (l.filter fun y => decide (y.1 ≠ x)) = (ids l).filter fun y => decide (y ≠ x) := by
  unfold ids
  rw [List.filter_map]
  rfl
set_option maxRecDepth 100000 in
theorem unsub_calls (n b : Nat) (o : Nat → Tg) (P : NP) (N : Nd) (x : Int) (w : World) (hn : n ≠ 0) (hN : NAt w o n b P N) (hx : x ∈ ids N.sb) (hI : SInv N.sb N.ls) :
    Calls Tryz.prog 19 #[.pointer (some ⟨b, 0, none⟩), .int .i64 x] w fun e w' => e = .returned .nilIface ∧ Done w w' o n b (N.less x) := by
  obtain ⟨z, hz, hzx⟩ := List.mem_map.1 hx
  have hwf := wf_of (y := x) (by have := hI.mem z hz; omega) (by have := hI.mem z hz; have := hI.ls1; omega)
  obtain ⟨D, hown, hS⟩ := hN.sbm
  have hl := look_sub2 hown hS hx hwf
  have c10 := hN.cells.2.2.1
  have HO := hidden hown
  have HD : Hid (∀ w4, w4.ownsMap Tryz.prog 3 ptR P.sm N.sb.length (D.del (GM.key x)) → w.grownBy w4 (some P.sm) → Done w w4 o n b (N.less x)) := by
    refine hidden ?_
    intro w4 hown4 hturn
    have ho : Only [P.sm] w w4 := (Only.refl [P.sm] _).grown hturn (by simp)
    have hc : Chg o (fun g => g = ⟨n, 0, 1⟩) w w4 := Chg.of_only ho (by intro k hk; simp at hk; rw [hk]; exact hN.smt) (by intro k hk; simp at hk; rw [hk]; exact nobAt_map (RM.map_block hown))
    have he := Ext.refl w o
    have h0 : ∀ g : Tg, g = ⟨n, 0, 1⟩ → g.n ≠ 0 := by rintro g rfl; exact hn
    obtain ⟨cs, h1, h2⟩ := hN.box' hc (by simp)
    have hS2 := hS.del x
    have hsz : Maps.size (D.del (GM.key x)) = (N.less x).sb.length := by
      have := hS2.keys.size (hown4.entries law3) (by
        rw [List.pairwise_map]
        exact (hI.ris.filter _).imp fun h => by show _ ≠ _; simp only [lk]; omega)
      rw [this, List.length_map, ← ids_filter]
      exact ids_len _
    have ht := RM.tight hown4
    rw [hsz] at ht
    refine ⟨o, P, ⟨⟨cs, h1, ⟨h2.sz, h2.c0, h2.c1, h2.ct, h2.c10, h2.c11, h2.c12, h2.c13⟩⟩, hN.tag' he, fun i hi => hN.trs' hc he hi (by simp), ⟨D.del (GM.key x), ht, ?_⟩, hN.smt' he, ?_, hN.pul' hc (by simp), hN.put' he, hN.ltr' hc he h0 (by simp), hN.ltt' he⟩, he, chg_mine hc⟩
    · show SM _ (ids (N.sb.filter fun y => decide (y.1 ≠ x))) _
      rw [ids_filter]
      exact hS2
    · intro y hy
      exact hN.sbs' hc he h0 (List.mem_filter.1 hy).1 (by simp)
  clear hN hx hI hz hzx hown hS
  go_enter Tryz.func19, Tryz.ntmps19
  go_wp2_with (at_delete; refine wpList_delete_own _ rfl _ _ 62 3 rfl 84 law3 Tryz.underlying62 _ P.sm N.sb.length D rfl HO.out _ _ rfl (keyOf3 hwf) ?_; intro w4 hown4 hturn4; have HDn := hidden (HD.out w4 hown4 hturn4.grown); clear hown4 hturn4)
  go_wp2_with fail
  go_ret
  exact ⟨rfl, HDn.out⟩
end Go.Proofs.YtijfocggdjjnjaiGreatDoor.ND

