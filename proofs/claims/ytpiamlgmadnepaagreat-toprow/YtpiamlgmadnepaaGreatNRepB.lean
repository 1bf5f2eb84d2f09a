/-
  What sendAgain and hearBack of package node return, and what they leave in memory. Their condition: the node is such as it may be.
-/
import Derived.Test.YtpiamlgmadnepaaGreatNRepA
import Derived.Deep.RegionHeld3
namespace Go.Proofs.YtpiamlgmadnepaaGreat.ND
open Go.ChangeShapes Go.WideShapes Go.ChangeAt Go.RowKit Go.Maps Go.Lib Go.Proofs.YtpiamlgmadnepaaGreat.Mem Go.Proofs.YtpiamlgmadnepaaGreat.NO
set_option linter.unusedVariables false

/-- what sendDown and what stands ahead of it reads -/
def AgS (w' : World) (pb pp wm : Nat) (p : RM.Pk) (a : Option Addr) (m c : Nat) (y og h : Int) : Prop :=
  (w'.cell? ⟨pb, 0, none⟩ = some (.int .i64 p.s) ∧ w'.cell? ⟨pb, 1, none⟩ = some (.int .i64 p.t) ∧ w'.cell? ⟨pb, 2, none⟩ = some (.int .i64 p.l) ∧ w'.cell? ⟨pb, 3, none⟩ = some (.int .i64 p.q) ∧ w'.cell? ⟨pb, 4, none⟩ = some (.bool p.st) ∧ w'.cell? ⟨pb, 5, none⟩ = some (.slice a m c)) ∧ w'.cell? ⟨pp, 6, none⟩ = some (.map (some wm)) ∧ (Instr.lookup 172 (.map (some wm)) (.int .i64 y) false).run Tryz.prog w' = .ok (.agg #[.int .i64 og, .int .i64 h]) w'
theorem ags {W : World} {o : Nat → Tg} {n b i : Nat} {P : NP} {N : Nd} {tr : Tr} {pb : Nat} {p : RM.Pk} {a : Option Addr} {m c : Nat} {y og h : Int} (hN : NAt W o n b P N) (hi : i < 8) (ht : N.tr i = some tr) (hbx : W.heap[pb]? = some (.cells #[.int .i64 p.s, .int .i64 p.t, .int .i64 p.l, .int .i64 p.q, .bool p.st, .slice a m c] 38 (0, 0))) (hp : (y, p) ∈ tr.rM) (hw : tr.wy y = (og, h)) (hwf : (Lit.int .i64 y).wf = true) : AgS W pb (P.tp i).p (P.tp i).wm p a m c y og h := by
  have hT := (hN.trs i hi tr ht).1
  have hl := look_way hT hp hwf
  rw [hw] at hl
  refine ⟨⟨?_, ?_, ?_, ?_, ?_, ?_⟩, ?_, hl⟩
  any_goals (simp [World.cell?, hbx]; done)
  simp [World.cell?, hT.box]
set_option maxHeartbeats 2000000 in
set_option maxRecDepth 100000 in
/-- one that is kept goes again -/
theorem again_one (n b i : Nat) (o : Nat → Tg) (P : NP) (N : Nd) (tr : Tr) (kd q y og h : Int) (p : RM.Pk) (a : Option Addr) (cap : Nat) (w : World) (hn : n ≠ 0) (hN : NAt w o n b P N) (hi : i < 8) (ht : N.tr i = some tr) (hR : RM.Inv 64 tr.rT tr.rM) (hA : Back.IArg w a 1 [q]) (h0 : 0 ≤ q) (h1 : q ≤ 65535) (hy : num tr.rT q = y) (hp : (y, p) ∈ tr.rM) (hw : tr.wy y = (og, h)) (hf : PM.fault p.s p.t p.l p.q p.L.length = 0) (hL : 0 < p.L.length) (hff : FM.ffault tr.tk og tr.ep h (pby p.s p.t p.l p.q p.st p.L) = 0) (hl : N.lt.length ≤ 1000000) :
    Calls Tryz.prog 151 #[.pointer (some ⟨b, 0, none⟩), .int .i64 kd, .pointer (some ⟨(P.tp i).p, 0, none⟩), .slice a 1 cap] w fun e w' => e = .returned (.tuple #[]) ∧ Wrote w w' o n b P { N with lt := N.lt ++ [(kd, fby tr.tk og tr.ep h (pby p.s p.t p.l p.q p.st p.L))] } := by
  have hT := (hN.trs i hi tr ht).1
  have CN := hidden (numberOf_calls (P.tp i).p (P.tp i).r (P.tp i).rm tr.rT tr.rM q w (by simp [World.cell?, hT.box]) hT.rng hR h0 h1)
  rw [hy] at CN
  have hyr := hR.mem (y, p) hp
  have hwf := wf_of (y := y) (by simp only at hyr; omega) (by have := hR.t2; simp only at hyr; omega)
  have CG := hidden (Ring.get_has (P.tp i).r (P.tp i).rm 64 tr.rT tr.rM w hT.rng (y, p) hp hwf)
  simp only at CG
  have c5 : w.cell? ⟨(P.tp i).p, 5, none⟩ = some (.pointer (some ⟨(P.tp i).r, 0, none⟩)) := by simp [World.cell?, hT.box]
  obtain ⟨o0, ho0⟩ : ∃ o0, grow o w nobody = o0 := ⟨_, rfl⟩
  have he0 : Ext w o o0 := by rw [← ho0]; exact grow_ext o w nobody
  have hnew : ∀ j, w.heap.size ≤ j → (o0 j).n = 0 := fun j hj => by rw [← ho0, grow_new hj]
  obtain ⟨R, hRes⟩ : ∃ R : Nd, { N with lt := N.lt ++ [(kd, fby tr.tk og tr.ep h (pby p.s p.t p.l p.q p.st p.L))] } = R := ⟨_, rfl⟩
  rw [hRes]
  have HS : Hid (∀ W pb a1 m1 c1, Below w.heap.size w W → W.heap[pb]? = some (.cells #[.int .i64 p.s, .int .i64 p.t, .int .i64 p.l, .int .i64 p.q, .bool p.st, .slice a1 m1 c1] 38 (0, 0)) → w.heap.size ≤ pb → Arg W a1 m1 p.L → AgS W pb (P.tp i).p (P.tp i).wm p a1 m1 c1 y og h ∧
      Calls Tryz.prog 124 #[.pointer (some ⟨b, 0, none⟩), .int .i64 kd, .pointer (some ⟨(P.tp i).p, 0, none⟩), .agg #[.int .i64 p.s, .int .i64 p.t, .int .i64 p.l, .int .i64 p.q, .bool p.st, .slice a1 m1 c1], .agg #[.int .i64 og, .int .i64 h]] W fun e w' => e = .returned (.tuple #[]) ∧ AgS w' pb (P.tp i).p (P.tp i).wm p a1 m1 c1 y og h ∧ Hid (Wrote w w' o n b P R)) := by
    refine hidden ?_
    intro W pb a1 m1 c1 hBW hbx hpb hA1
    have hNW : NAt W o0 n b P N := hN.chg (S := fun _ => False) (Chg.of_below hBW _ _) (fun g hg => hg.elim) he0
    refine ⟨ags hNW hi ht hbx hp hw hwf, ?_⟩
    have hm := hA1.2.1
    have C := sendDown_calls n b i o0 P N tr kd p.s p.t p.l p.q og h p.st a1 m1 c1 p.L W hn hNW hi ht hA1 (fun e => by
      obtain ⟨b', o', e', _⟩ := hA1.1.2 0 (by omega)
      rw [e] at e'
      cases e') (by rw [← hm]; exact hf) hl
    rw [if_pos hff, hRes] at C
    refine C.mono ?_
    rintro e w' ⟨rfl, o', lv, q1, q2, q3⟩
    have hbx' := lets_body hn (lets_mine q3) hbx (hnew _ hpb)
    have hg := ags q1 hi (show R.tr i = some tr by rw [← hRes]; exact ht) hbx' hp hw hwf
    exact ⟨rfl, hg, hidden ⟨o', lv, q1, he0.trans q2 hBW.size, (Chg.of_below hBW _ _).trans q3 he0⟩⟩
  obtain ⟨pp, hpp⟩ : ∃ pp, (P.tp i).p = pp := ⟨_, rfl⟩
  obtain ⟨wm, hwm⟩ : ∃ wm, (P.tp i).wm = wm := ⟨_, rfl⟩
  obtain ⟨rb, hrb⟩ : ∃ rb, (P.tp i).r = rb := ⟨_, rfl⟩
  rw [hpp, hwm] at HS
  rw [hpp] at CN c5
  rw [hrb] at CG c5
  rw [hpp]
  obtain ⟨ba, oa, rfl, hcs⟩ := hA.at (by omega)
  have c0 : w.cell? ⟨ba, oa, none⟩ = some (.int .i64 q) := hcs 0 (by omega)
  obtain ⟨ps, hps⟩ : ∃ z, p.s = z := ⟨_, rfl⟩
  obtain ⟨pt, hpt⟩ : ∃ z, p.t = z := ⟨_, rfl⟩
  obtain ⟨pl, hpl⟩ : ∃ z, p.l = z := ⟨_, rfl⟩
  obtain ⟨pq, hpq⟩ : ∃ z, p.q = z := ⟨_, rfl⟩
  obtain ⟨pst, hpst⟩ : ∃ z, p.st = z := ⟨_, rfl⟩
  unfold AgS at HS
  rw [hps, hpt, hpl, hpq, hpst] at HS CG
  clear hN hi ht hR hA h0 h1 hy hp hw hf hL hff hl hT hyr hwf ho0 he0 hnew hRes hpp hwm hrb hcs hps hpt hpl hpq hpst
  go_enter Tryz.func151, Tryz.ntmps151
  go_wp2_with fail
  go_loopg [15] 1 (fun g x wr => (g = 1 ∧ x = .int .i64 0 ∧ w = wr) ∨ (g = 0 ∧ x = .int .i64 1 ∧ Hid (Wrote w wr o n b P R)))
  case atStart => exact .inl ⟨rfl, rfl, rfl⟩
  case round =>
    rcases hrel with ⟨hg, rfl, rfl⟩ | ⟨hg, rfl, HD⟩
    · go_wp2_with fail
      refine CN.out.mono ?_
      rintro e w0 ⟨rfl, rfl⟩
      go_wp2_with fail
      refine CG.out.mono ?_
      rintro e w1 ⟨a1, m1, c1, rfl, hA1, hb1⟩
      obtain ⟨W1, hW1⟩ : ∃ W1, w1.alloc (.cells #[.int .i64 ps, .int .i64 pt, .int .i64 pl, .int .i64 pq, .bool pst, .slice a1 m1 c1] 38) = W1 := ⟨_, rfl⟩
      have hB1 : Below w1.heap.size w1 W1 := by rw [← hW1]; exact (Below.refl _ _).alloc (Nat.le_refl _) _
      have hbx : W1.heap[w1.heap.size]? = some (.cells #[.int .i64 ps, .int .i64 pt, .int .i64 pl, .int .i64 pq, .bool pst, .slice a1 m1 c1] 38 (0, 0)) := by rw [← hW1]; exact heap_alloc_new w1 _
      have hbw : Below w0.heap.size w0 W1 := hb1.trans (hB1.mono hb1.size)
      obtain ⟨S0, C0⟩ := HS.out W1.drew w1.heap.size a1 m1 c1 hbw.drew hbx hb1.size ((hA1.below hB1).below ((Below.refl _ _).drew))
      obtain ⟨pb, hpb⟩ : ∃ pb, w1.heap.size = pb := ⟨_, rfl⟩
      rw [hpb] at S0 C0
      have HC := hidden C0
      have HW1 := hidden hW1
      clear hA1 hb1 hW1 hB1 hbx hbw C0 HS c5 c0
      go_upto_region 6 with fail
      first | rw [HW1.out] | skip
      clear hpb
      go_region_held3 (fun w' => (w'.cell? ⟨pb, 0, none⟩ = some (.int .i64 ps) ∧ w'.cell? ⟨pb, 1, none⟩ = some (.int .i64 pt) ∧ w'.cell? ⟨pb, 2, none⟩ = some (.int .i64 pl) ∧ w'.cell? ⟨pb, 3, none⟩ = some (.int .i64 pq) ∧ w'.cell? ⟨pb, 4, none⟩ = some (.bool pst) ∧ w'.cell? ⟨pb, 5, none⟩ = some (.slice a1 m1 c1)) ∧ w'.cell? ⟨pp, 6, none⟩ = some (.map (some wm)) ∧ (Instr.lookup 172 (.map (some wm)) (.int .i64 y) false).run Tryz.prog w' = .ok (.agg #[.int .i64 og, .int .i64 h]) w') (with_reducible assumption) (first | (go_at_call 124; refine HC.out.mono ?_; rintro e w4 ⟨rfl, hS4, HD⟩))
      go_wp2_with fail
      go_roundg 0
      case measure => omega
      case rel => exact .inr ⟨rfl, by go_num, HD⟩
    · go_wp2_with fail
      go_end0
      exact ⟨rfl, HD.out⟩
end Go.Proofs.YtpiamlgmadnepaaGreat.ND

