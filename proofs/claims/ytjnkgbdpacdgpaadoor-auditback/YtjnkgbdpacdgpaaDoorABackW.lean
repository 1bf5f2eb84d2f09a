/-
  The walk of the Go function AuditBack: it returns true. Its condition: package errors' variable errorType is as its text lays it.
-/
import Derived.Test.YtjnkgbdpacdgpaaDoorABackB
import Derived.Test.YtjnkgbdpacdgpaaDoorTold
import Derived.LoopTactic
import Derived.Deep.CutRange
import Derived.Deep.LoopGhost
import Derived.Deep.AppendLies
namespace Go.Proofs.YtjnkgbdpacdgpaaDoor.ABack
open Go.ChangeShapes Go.WideShapes Go.ChangeAt Go.RowKit Go.Proofs.YtjnkgbdpacdgpaaDoor.PM Go.Proofs.YtjnkgbdpacdgpaaDoor.Mem Go.Proofs.YtjnkgbdpacdgpaaDoor.Pack Go.Proofs.YtjnkgbdpacdgpaaDoor.AU Go.Proofs.YtjnkgbdpacdgpaaDoor.Audit
set_option linter.unusedVariables false

theorem hg_of {w W : World} {u : Value} (h : w.cell? ⟨0, 0, none⟩ = some u) (hb : Below w.heap.size w W) : W.cell? ⟨0, 0, none⟩ = some u := (hb.cell (World.block_lt_of_cell? w ⟨0, 0, none⟩ h)).trans h
set_option maxHeartbeats 4000000 in
set_option maxRecDepth 100000 in
theorem walk_e0 (M : Int) (vl : Value) (w : World) (hg : w.cell? ⟨0, 0, none⟩ = some (.iface 76 (.agg #[.pointer (some ⟨1, 29, none⟩)]))) (h0 : M < 2) :
    Calls Tryd.prog 4 #[.int .i64 M, vl] w fun e w' => e = .returned (.bool true) ∧ Below w.heap.size w w' := by
  have HR := hidden first_check
  have HG := hidden hg
  have d0 : decide (M < 2) = true := by simpa using h0
  clear hg
  go_enter Tryd.func4, Tryd.ntmps4
  go_wp2_with fail
  refine (HR.out _).mono ?_
  rintro e w1 ⟨rfl, hb1⟩
  have HB1 := hidden hb1
  have HG1 := hidden (hg_of HG.out hb1)
  clear hb1
  go_wp2_with fail
  refine (Told.same_err 5 5 _ (by decide) (by decide) HG1.out).mono ?_
  rintro e w2 ⟨rfl, hb2⟩
  have HB2 : Hid (Below w.heap.size w w2) := HB1.out.trans (hb2.mono HB1.out.size)
  clear hb2 HB1 HG1
  go_wp2_with fail
  go_ret
  exact ⟨rfl, HB2.out⟩
set_option maxHeartbeats 4000000 in
set_option maxRecDepth 100000 in
theorem walk_e1 (M : Int) (vl : Value) (w : World) (hg : w.cell? ⟨0, 0, none⟩ = some (.iface 76 (.agg #[.pointer (some ⟨1, 29, none⟩)]))) (h0 : ¬ M < 2) (h1 : 200 < M) :
    Calls Tryd.prog 4 #[.int .i64 M, vl] w fun e w' => e = .returned (.bool true) ∧ Below w.heap.size w w' := by
  have HR := hidden first_check
  have HG := hidden hg
  have d0 : decide (M < 2) = false := by simpa using h0
  have d1 : decide (200 < M) = true := by simpa using h1
  clear hg
  go_enter Tryd.func4, Tryd.ntmps4
  go_wp2_with fail
  refine (HR.out _).mono ?_
  rintro e w1 ⟨rfl, hb1⟩
  have HB1 := hidden hb1
  have HG1 := hidden (hg_of HG.out hb1)
  clear hb1
  go_wp2_with fail
  refine (Told.same_err 5 5 _ (by decide) (by decide) HG1.out).mono ?_
  rintro e w2 ⟨rfl, hb2⟩
  have HB2 : Hid (Below w.heap.size w w2) := HB1.out.trans (hb2.mono HB1.out.size)
  clear hb2 HB1 HG1
  go_wp2_with fail
  go_ret
  exact ⟨rfl, HB2.out⟩
/-- under way: all that is made, and what is known of it -/
def LSt (w W : World) (f : Nat → Nat) (gv sv hv : Value) (n : Nat) (G : List Nat) (H : List Int) (bt : Int) : Prop := BSt w W f gv sv hv n G H ∧ Kept n G H bt
set_option maxHeartbeats 8000000 in
set_option maxRecDepth 100000 in
theorem walk_ok (N : Nat) (va : Option Addr) (ln cn : Nat) (Dr : List Int) (w : World) (hg : w.cell? ⟨0, 0, none⟩ = some (.iface 76 (.agg #[.pointer (some ⟨1, 29, none⟩)]))) (h0 : 2 ≤ N) (h1 : N ≤ 200) (hD : IArg w va ln Dr) :
    Calls Tryd.prog 4 #[.int .i64 (N : Int), .slice va ln cn] w fun e w' => e = .returned (.bool true) ∧ Below w.heap.size w w' := by
  have HR := hidden first_check
  have HG := hidden hg
  have HD := hidden hD
  have hln := hD.2.2
  have dn0 : decide ((N : Int) < 2) = false := by simp; omega
  have dn1 : decide (200 < (N : Int)) = false := by simp; omega
  obtain ⟨i0, hii, hz0, hz1, hz2⟩ := info_parts infoPK
  obtain ⟨j0, hjj, hy0, hy1, hy2⟩ := info_parts info3
  clear hg hD
  go_enter Tryd.func4, Tryd.ntmps4
  go_wp2_with fail
  refine (HR.out _).mono ?_
  rintro e w1 ⟨rfl, hb1⟩
  have HB1 := hidden hb1
  have HG1 := hidden (hg_of HG.out hb1)
  clear hb1
  go_wp2_with fail
  refine (Told.same_err 5 5 _ (by decide) (by decide) HG1.out).mono ?_
  rintro e w2 ⟨rfl, hb2⟩
  have HB2 : Hid (Below w.heap.size w w2) := HB1.out.trans (hb2.mono HB1.out.size)
  clear hb2 HB1 HG1
  go_wp2_with fail
  have HS0 : Hid (LSt w w2 (fun _ => 0) (.slice none 0 0) (.slice none 0 0) (.slice none 0 0) 0 [] [] 0) := ⟨BSt.start HB2.out, kept_zero⟩
  clear HB2 HR HG
  go_loopg [8, 9, 10, 11, 12] N (fun g u8 u9 u10 u11 u12 wr => ∃ (i : Nat) (f : Nat → Nat) (gv sv hv : Value) (G : List Nat) (H : List Int) (bt : Int), i + g = N ∧ sv = u8 ∧ gv = u9 ∧ hv = u10 ∧ u11 = .int .i64 bt ∧ u12 = .int .i64 (i : Int) ∧ Hid (LSt w wr f gv sv hv i G H bt))
  case atStart => exact ⟨0, fun _ => 0, _, _, _, [], [], 0, by omega, rfl, rfl, rfl, rfl, rfl, HS0⟩
  case round =>
    obtain ⟨i, f, gv, sv, hv, G, H, bt, hig, rfl, rfl, rfl, rfl, rfl, HS⟩ := hrel
    clear HS0
    by_cases hi : i < N
    case neg =>
      have hiz : ¬ (i : Int) < (N : Int) := by omega
      obtain rfl : N = i := by omega
      have C1 := hidden (end_check HS.out.1 HS.out.2 h1)
      go_wp2_with fail
      refine C1.out.mono ?_
      rintro e w3 ⟨rfl, hb⟩
      have HS3 : Hid (LSt w w3 f gv sv hv N G H bt) := ⟨HS.out.1.below hb, HS.out.2⟩
      clear hb HS C1
      have C2 := hidden (end_holes HS3.out.1 HS3.out.2 h1)
      go_wp2_with fail
      refine C2.out.mono ?_
      rintro e w4 ⟨ah, ch, rfl, hA, hb⟩
      have HS4 : Hid (LSt w w4 f gv sv hv N G H bt) := ⟨HS3.out.1.below hb, HS3.out.2⟩
      have hHl : H.length ≤ 200 := by have := HS3.out.2.hl; have := HS3.out.2.gl; omega
      obtain ⟨ah2, ch2, hhv, hA2, _⟩ := own_ints HS4.out.1.hol (by omega)
      subst hhv
      have C3 := hidden (ints_same ah ah2 H.length ch ch2 H w4 hA hA2)
      clear hb HS3 C2 hA hA2
      go_wp2_with fail
      refine C3.out.mono ?_
      rintro e w5 ⟨rfl, hb⟩
      have HS5 : Hid (LSt w w5 f gv sv (.slice ah2 H.length ch2) N G H bt) := ⟨HS4.out.1.below hb, HS4.out.2⟩
      clear hb HS4 C3
      have C4 := hidden (end_row HS5.out.1 h1)
      go_wp2_with fail
      refine C4.out.mono ?_
      rintro e w6 ⟨rfl, hb⟩
      have HS6 : Hid (LSt w w6 f gv sv (.slice ah2 H.length ch2) N G H bt) := ⟨HS5.out.1.below hb, HS5.out.2⟩
      clear hb HS5 C4
      have hgl := HS6.out.2.gl
      obtain ⟨ag, cg, hgv, hA, hcg, hng⟩ := HS6.out.1.gotA h1 (by omega)
      subst hgv
      by_cases h2 : G.length < 2
      · have d2 : decide ((G.length : Int) < 2) = true := by simp; omega
        go_wp2_with fail
        go_ret
        exact ⟨rfl, HS6.out.1.bel⟩
      have d2 : decide ((G.length : Int) < 2) = false := by simp; omega
      obtain ⟨gg, og, rfl, hcs⟩ := hA.at (by omega)
      have hog : og = 0 := by
        rcases HS6.out.1.got.2 with ⟨e, _⟩ | ⟨g', _, _, e, _⟩
        · simp at e
        · simp only [Value.slice.injEq, Option.some.injEq, Addr.mk.injEq, and_true] at e; omega
      subst hog
      obtain ⟨m, hm⟩ : ∃ m, G.length = m := ⟨_, rfl⟩
      have hm2 : 2 ≤ m := by omega
      have hm200 : m ≤ 200 := by omega
      have HM := hidden hm
      rw [hm] at d2
      have HGo : Hid (w6.ownsRow w.heap.size 27 6 (.slice (some ⟨gg, 0, none⟩) m cg) m (flat (Som f G))) := by have := HS6.out.1.got; rw [hm] at this; exact this
      have hfl : (flat (Som f G)).length = m * 6 := by rw [flat_len, som_len, hm]
      have HLs : Hid (gg < w6.heap.size) := (HS6.out.1.got.lt gg rfl).2
      have HLo : Hid (w.heap.size ≤ w6.heap.size) := HS6.out.1.bel.size
      rw [hm] at hcg HS6
      rw [hm]
      have HLt6 : Hid (Lts w6 f (.slice (some ⟨gg, 0, none⟩) m cg) sv (.slice ah2 H.length ch2) N) := HS6.out.1.lts
      clear hcs hA hgl hng h2 hm
      go_wp2_with (at_builtin; refine wpList_append_lies _ rfl _ _ 22 rfl w6.heap.size 27 i0 _ 6 64 Tryd.underlying22 hii hz0 hz1 hz2 rfl (by decide) (.slice none 0 0) 0 [] rfl (World.ownsRow_nil _ _ _ _) ⟨gg, 0, none⟩ m cg (flat (Som f G)) rfl hfl (own_cells HGo.out) (flat_oneCell _) (by omega) ?b1 ?b2 ?b3 w6.heap.size rfl ?next)
      case b1 => unfold maxLen; omega
      case b2 => omega
      case b3 => exact Nat.le_refl _
      case next =>
      intro g7 cap7 w7 hown hgrow hlies hlt
      have hg7 : g7 = w6.heap.size := hlies.resolve_left (by simp [Value.ownBlock])
      have hb7 : Below w6.heap.size w6 w7 := (Below.refl _ _).grown hgrow (Nat.le_refl _) (by simp [Value.ownBlock])
      have HS7 : Hid (LSt w w7 f (.slice (some ⟨gg, 0, none⟩) m cg) sv (.slice ah2 H.length ch2) N G H bt) := ⟨HS6.out.1.below hb7, HS6.out.2⟩
      have HO7 : Hid (w7.ownsRow w6.heap.size 27 6 (.slice (some ⟨g7, 0, none⟩) m cap7) m (flat (Som f G))) := hidden (by simpa using hown)
      have HGo7 : Hid (w7.ownsRow w.heap.size 27 6 (.slice (some ⟨gg, 0, none⟩) m cg) m (flat (Som f G))) := own_below HGo.out hb7
      have HNe : Hid (gg ≠ g7) := by have := HLs.out; unfold Hid; omega
      have HOk7 : Hid (∀ j, j < G.length → PkOk w7 (P f (G.getD j 0))) := som_ok HS7.out.1 h1
      have HC7 : Hid (∀ j, j < m → PkAt w7 gg (0 + j * 6) (P f (G.getD j 0)) ∧ PkAt w7 g7 (0 + j * 6) (P f (G.getD j 0))) := by
        intro j hj
        have hm := HM.out
        obtain ⟨a1, c1, e1, q1, _, _⟩ := own_pks HGo7.out (by rw [som_len, hm]) (by omega) (fun p hp => by obtain ⟨j, hj, rfl⟩ := som_mem hp; exact HOk7.out j hj)
        obtain ⟨a2, c2, e2, q2, _, _⟩ := own_pks HO7.out (by rw [som_len, hm]) (by omega) (fun p hp => by obtain ⟨j, hj, rfl⟩ := som_mem hp; exact HOk7.out j hj)
        simp only [Value.slice.injEq] at e1 e2
        obtain ⟨rfl, _, rfl⟩ := e1
        obtain ⟨rfl, _, rfl⟩ := e2
        obtain ⟨b1, o1, e1, k1⟩ := q1.at (by omega)
        obtain ⟨b2, o2, e2, k2⟩ := q2.at (by omega)
        simp only [Option.some.injEq, Addr.mk.injEq, and_true] at e1 e2
        obtain ⟨rfl, rfl⟩ := e1
        obtain ⟨rfl, rfl⟩ := e2
        have x1 := (k1 j hj).1
        have x2 := (k2 j hj).1
        rw [som_get (by omega)] at x1 x2
        exact ⟨x1, x2⟩
      have HFz : Hid (∃ cs, w7.heap[g7]? = some (.cells cs 27 (0, 0))) := own_type HO7.out rfl
      have HSz : Hid (g7 = w6.heap.size ∧ g7 < w7.heap.size) := ⟨hg7, hlt⟩
      obtain ⟨p0, hp0⟩ : ∃ p0, P f (G.getD 0 0) = p0 := ⟨_, rfl⟩
      obtain ⟨p1, hp1⟩ : ∃ p1, P f (G.getD 1 0) = p1 := ⟨_, rfl⟩
      have HP0 := hidden hp0
      have HP1 := hidden hp1
      have hc0 := HC7.out 0 (by omega)
      have hc1 := HC7.out 1 (by omega)
      rw [hp0] at hc0
      rw [hp1] at hc1
      obtain ⟨⟨x0, x1, x2, x3, x4, x5⟩, -⟩ := hc1
      obtain ⟨-, ⟨y0, y1, y2, y3, y4, y5⟩⟩ := hc0
      simp only [Nat.zero_mul, Nat.one_mul, Nat.zero_add, Nat.add_zero, Nat.reduceAdd] at x0 x1 x2 x3 x4 x5 y0 y1 y2 y3 y4 y5
      have fz := fun j => free_of HFz.out j
      have fz0 := fz 0
      have fz1 := fz 1
      have fz2 := fz 2
      have fz3 := fz 3
      have fz4 := fz 4
      have fz5 := fz 5
      have ne1 := HNe.out
      have ne2 : ¬ g7 = gg := fun e => HNe.out e.symm
      clear hown hgrow hlies hlt hg7 hb7 hp0 hp1 fz HGo HS6
      go_upto_region 37 with fail
      obtain ⟨w8, hw8⟩ : ∃ w8, (((((w7.setCell ⟨g7, 0, none⟩ (.int .i64 p1.s)).setCell ⟨g7, 1, none⟩ (.int .i64 p1.t)).setCell ⟨g7, 2, none⟩ (.int .i64 p1.l)).setCell ⟨g7, 3, none⟩ (.int .i64 p1.q)).setCell ⟨g7, 4, none⟩ (.bool p1.st)).setCell ⟨g7, 5, none⟩ (.slice p1.a p1.m p1.c) = w8 := ⟨_, rfl⟩
      have HP8 : Hid (w8 = put6 w7 g7 0 p1) := by unfold Hid; rw [← hw8]; rfl
      have HFz8 : Hid (∃ cs, w8.heap[g7]? = some (.cells cs 27 (0, 0))) := by rw [HP8.out]; exact put6_free HFz.out
      rw [hw8]
      clear hw8 x0 x1 x2 x3 x4 x5 y0 y1 y2 y3 y4 y5 fz0 fz1 fz2 fz3 fz4 fz5
      have hx : PkAt w8 gg 0 p0 := by
        have k := (HC7.out 0 (by omega)).1
        rw [HP0.out, Nat.zero_mul, Nat.zero_add] at k
        rw [HP8.out]
        obtain ⟨a0, a1, a2, a3, a4, a5⟩ := k
        have kk : ∀ i v, w7.cell? ⟨gg, i, none⟩ = some v → (put6 w7 g7 0 p1).cell? ⟨gg, i, none⟩ = some v := fun i v hc => (put6_far (.inl HNe.out)).trans hc
        exact ⟨kk _ _ a0, kk _ _ a1, kk _ _ a2, kk _ _ a3, kk _ _ a4, kk _ _ a5⟩
      have hy : PkAt w8 g7 6 p1 := by
        have k := (HC7.out 1 (by omega)).2
        rw [HP1.out, Nat.one_mul, Nat.zero_add] at k
        rw [HP8.out]
        obtain ⟨a0, a1, a2, a3, a4, a5⟩ := k
        have kk : ∀ i v, 6 ≤ i → w7.cell? ⟨g7, i, none⟩ = some v → (put6 w7 g7 0 p1).cell? ⟨g7, i, none⟩ = some v := fun i v hi hc => (put6_far (by omega)).trans hc
        exact ⟨kk _ _ (by omega) a0, kk _ _ (by omega) a1, kk _ _ (by omega) a2, kk _ _ (by omega) a3, kk _ _ (by omega) a4, kk _ _ (by omega) a5⟩
      obtain ⟨x0, x1, x2, x3, x4, x5⟩ := hx
      obtain ⟨y0, y1, y2, y3, y4, y5⟩ := hy
      simp only [Nat.zero_add, Nat.reduceAdd] at x0 x1 x2 x3 x4 x5 y0 y1 y2 y3 y4 y5
      have fz := fun j => free_of HFz8.out j
      have fz6 := fz 6
      have fz7 := fz 7
      have fz8 := fz 8
      have fz9 := fz 9
      have fz10 := fz 10
      have fz11 := fz 11
      clear fz
      go_upto_region 38 with fail
      obtain ⟨w9, hw9⟩ : ∃ w9, (((((w8.setCell ⟨g7, 6, none⟩ (.int .i64 p0.s)).setCell ⟨g7, 7, none⟩ (.int .i64 p0.t)).setCell ⟨g7, 8, none⟩ (.int .i64 p0.l)).setCell ⟨g7, 9, none⟩ (.int .i64 p0.q)).setCell ⟨g7, 10, none⟩ (.bool p0.st)).setCell ⟨g7, 11, none⟩ (.slice p0.a p0.m p0.c) = w9 := ⟨_, rfl⟩
      have HP9 : Hid (w9 = put6 (put6 w7 g7 0 p1) g7 6 p0) := by unfold Hid; rw [← hw9, ← HP8.out]; rfl
      rw [hw9]
      clear hw9 x0 x1 x2 x3 x4 x5 y0 y1 y2 y3 y4 y5 fz6 fz7 fz8 fz9 fz10 fz11 ne1 ne2
      have HOn : Hid (Only [g7] w7 w9) := by rw [HP9.out]; exact (put6_only w7 g7 0 p1).trans (put6_only _ g7 6 p0)
      have HS9 : Hid (LSt w w9 f (.slice (some ⟨gg, 0, none⟩) m cg) sv (.slice ah2 H.length ch2) N G H bt) := by
        have hsz := HSz.out
        have hbs := HS7.out.1.bel.size
        have hlt6 : ∀ k, k < w6.heap.size → k ∉ [g7] := fun k hk hc => by simp at hc; omega
        exact ⟨HS7.out.1.only HOn.out (fun k hk => by simp at hk; have := HLo.out; omega) (fun k e => hlt6 k (HLt6.out.1 k e)) (fun k e => hlt6 k (HLt6.out.2.1 k e)) (fun k e => hlt6 k (HLt6.out.2.2.1 k e)) (fun i hi => hlt6 _ (HLt6.out.2.2.2 i hi)), HS7.out.2⟩
      have HA9 : Hid (PArg w9 (some ⟨g7, 0, none⟩) m (p1 :: p0 :: (Som f G).drop 2)) := by
        have hm := HM.out
        have hok := som_ok HS9.out.1 h1
        refine put_row (W := w7) (X := Som f G) (fun j hj => ?_) (by rw [som_len, hm]) hm2 hm200 w9 HP9.out (fun r hr => by obtain ⟨j, hj, rfl⟩ := som_mem hr; exact hok j hj) (by rw [← HP1.out]; exact hok 1 (by omega)) (by rw [← HP0.out]; exact hok 0 (by omega))
        rw [som_get (by omega)]
        exact (HC7.out j hj).2
      have C5 : Hid (Calls Tryd.prog 10 #[sv, .slice (some ⟨g7, 0, none⟩) m cap7] w9 fun e w' => e = .returned (.tuple #[.int .i64 1, .iface 50 (.int .i64 5)]) ∧ Below w9.heap.size w9 w') := by
        have hm := HM.out
        exact end_bad (K := 1) HS9.out.1 h1 HA9.out (by omega) (back_stop (x := G.getD 0 0) (y := G.getD 1 0) (by simp only [List.length_cons, List.length_drop, som_len]; omega) HP1.out.symm HP0.out.symm (HS9.out.2.up 0 (by omega)) (HS9.out.2.lt 1 (by omega))) (by omega)
      clear HC7 HFz HFz8 HP8 HP9 HOn HA9 HO7 HGo7 HOk7 HS7
      go_wp2_with fail
      refine C5.out.mono ?_
      rintro e w10 ⟨rfl, hb⟩
      have HS10 : Hid (LSt w w10 f (.slice (some ⟨gg, 0, none⟩) m cg) sv (.slice ah2 H.length ch2) N G H bt) := ⟨HS9.out.1.below hb, HS9.out.2⟩
      have HLt10 : Hid (Lts w10 f (.slice (some ⟨gg, 0, none⟩) m cg) sv (.slice ah2 H.length ch2) N) := HS10.out.1.lts
      have HB10 : Hid (Below w.heap.size w w10) := HS10.out.1.bel
      have HBs : Hid (∀ W, Below w.heap.size w W → w.heap.size ≤ W.heap.size) := fun W hW => hW.size
      have HGo10 : Hid (w10.ownsRow w.heap.size 27 6 (.slice (some ⟨gg, 0, none⟩) m cg) m (flat (Som f G))) := by have := HS10.out.1.got; rw [HM.out] at this; exact this
      clear hb HS9 C5
      go_wp2_with (at_builtin; refine wpList_append_lies _ rfl _ _ 22 rfl w10.heap.size 27 i0 _ 6 64 Tryd.underlying22 hii hz0 hz1 hz2 rfl (by decide) (.slice none 0 0) 0 [] rfl (World.ownsRow_nil _ _ _ _) ⟨gg, 0, none⟩ m cg (flat (Som f G)) rfl hfl (own_cells HGo10.out) (flat_oneCell _) (by omega) ?b1 ?b2 ?b3 w10.heap.size rfl ?next)
      case b1 => unfold maxLen; omega
      case b2 => omega
      case b3 => exact Nat.le_refl _
      case next =>
      intro g11 cap11 w11 hown hgrow hlies hlt
      have hb11 : Below w10.heap.size w10 w11 := (Below.refl _ _).grown hgrow (Nat.le_refl _) (by simp [Value.ownBlock])
      have HS11 : Hid (LSt w w11 f (.slice (some ⟨gg, 0, none⟩) m cg) sv (.slice ah2 H.length ch2) N G H bt) := ⟨HS10.out.1.below hb11, HS10.out.2⟩
      have HO11 : Hid (w11.ownsRow w10.heap.size 27 6 (.slice (some ⟨g11, 0, none⟩) m cap11) m (flat (Som f G))) := hidden (by simpa using hown)
      have HGo11 : Hid (w11.ownsRow w.heap.size 27 6 (.slice (some ⟨gg, 0, none⟩) m cg) m (flat (Som f G))) := own_below HGo10.out hb11
      have HB11 : Hid (w10.heap.size ≤ w11.heap.size) := hb11.size
      clear hown hgrow hlies hlt hb11 HS10 HGo10
      obtain ⟨mk, hmk⟩ : ∃ mk, m = mk + 1 := ⟨m - 1, by omega⟩
      have hmw : IntKind.i64.wrap ((m : Int) - 1) = (mk : Int) := by rw [IntKind.wrap_i64]; omega
      have hmi : (m : Int) - 1 = (mk : Int) := by omega
      have hmz : (mk : Int) < (m : Int) := by omega
      have hmn : mk < m := by omega
      obtain ⟨pl, hpl⟩ : ∃ pl, P f (G.getD mk 0) = pl := ⟨_, rfl⟩
      have HPl := hidden hpl
      have hx : PkAt w11 gg (mk * 6) pl := by
        have hm := HM.out
        obtain ⟨a1, c1, e1, q1, _, _⟩ := own_pks HGo11.out (by rw [som_len, hm]) (by omega) (fun p hp => by obtain ⟨j, hj, rfl⟩ := som_mem hp; exact som_ok HS11.out.1 h1 j hj)
        simp only [Value.slice.injEq] at e1
        obtain ⟨rfl, _, rfl⟩ := e1
        obtain ⟨b1, o1, e1, k1⟩ := q1.at (by omega)
        simp only [Option.some.injEq, Addr.mk.injEq, and_true] at e1
        obtain ⟨rfl, rfl⟩ := e1
        have x1 := (k1 mk (by omega)).1
        rw [som_get (by omega), Nat.zero_add, hpl] at x1
        exact x1
      obtain ⟨x0, x1, x2, x3, x4, x5⟩ := hx
      have HMk := hidden hmk
      clear hpl hmk hmw
      go_wp2_with (at_builtin; refine wpList_append_lies _ rfl _ _ 22 rfl w10.heap.size 27 i0 _ 6 64 Tryd.underlying22 hii hz0 hz1 hz2 rfl (by decide) (.slice (some ⟨g11, 0, none⟩) m cap11) m (flat (Som f G)) rfl (HO11.out.alloc _) ⟨w11.heap.size, 0, none⟩ 1 1 (pc pl) rfl rfl (lit6 pl) (pc_one pl) (by decide) ?b1 ?b2 ?b3 (w11.heap.size + 1) (by simp) ?next)
      case b1 => unfold maxLen; omega
      case b2 => omega
      case b3 => have := HB11.out; simp; omega
      case next =>
      intro g12 cap12 w12 hown hgrow hlies hlt
      have HS12 : Hid (LSt w w12 f (.slice (some ⟨gg, 0, none⟩) m cg) sv (.slice ah2 H.length ch2) N G H bt ∧ ∃ X, PArg w12 (some ⟨g12, 0, none⟩) (m + 1) X ∧ Stop (All f N) X m) := by
        have hm := HM.out
        have hmk := HMk.out
        have ho : Only [g11] w11 w12 := ((Only.refl _ w11).alloc _).grown hgrow (fun k e => by simp [Value.ownBlock] at e; simp [e])
        have hg11 := HO11.out.lt g11 rfl
        have hbs := HBs.out w10 HB10.out
        have hL := HLt10.out
        have h12 : LSt w w12 f (.slice (some ⟨gg, 0, none⟩) m cg) sv (.slice ah2 H.length ch2) N G H bt := ⟨HS11.out.1.only ho (fun k hk => by simp at hk; omega) (fun k e hc => by simp at hc; have := hL.1 k e; omega) (fun k e hc => by simp at hc; have := hL.2.1 k e; omega) (fun k e hc => by simp at hc; have := hL.2.2.1 k e; omega) (fun i hi hc => by simp at hc; have := hL.2.2.2 i hi; omega), HS11.out.2⟩
        have e1 : G.getD (G.length - 1) 0 = G.getD mk 0 := by rw [hm, hmk]; rfl
        have e2 : Som f (G ++ [G.getD (G.length - 1) 0]) = Som f G ++ [pl] := by rw [som_next, e1, HPl.out]
        refine ⟨h12, Som f (G ++ [G.getD (G.length - 1) 0]), ?_, by have := twice_stop (f := f) h12.2 (by omega); rw [hm] at this ⊢; exact this⟩
        have ho12 : w12.ownsRow w10.heap.size 27 6 (.slice (some ⟨g12, 0, none⟩) (m + 1) cap12) (m + 1) (flat (Som f (G ++ [G.getD (G.length - 1) 0]))) := by rw [e2, flat_app, flat_one]; exact hown
        obtain ⟨a1, c1, ee, q1, _, _⟩ := own_pks ho12 (by rw [som_len]; simp; omega) (by omega) (fun p hp => by
          have hp' := hp
          rw [e2, List.mem_append, List.mem_singleton] at hp'
          rcases hp' with h | rfl
          · obtain ⟨j, hj, rfl⟩ := som_mem h; exact som_ok h12.1 h1 j hj
          · rw [← HPl.out]; exact som_ok h12.1 h1 mk (by omega))
        simp only [Value.slice.injEq] at ee
        obtain ⟨rfl, _, rfl⟩ := ee
        exact q1
      clear hown hgrow hlies hlt x0 x1 x2 x3 x4 x5 HS11 HO11 HGo11
      have C6 : Hid (Calls Tryd.prog 10 #[sv, .slice (some ⟨g12, 0, none⟩) (m + 1) cap12] w12 fun e w' => e = .returned (.tuple #[.int .i64 (m : Int), .iface 50 (.int .i64 5)]) ∧ Below w12.heap.size w12 w') := by
        obtain ⟨h12, X, hX, hst⟩ := HS12.out
        exact end_bad h12.1 h1 hX (by omega) hst (by omega)
      go_wp2_with fail
      refine C6.out.mono ?_
      rintro e w13 ⟨rfl, hb⟩
      have HB13 : Hid (Below w.heap.size w w13) := HS12.out.1.1.bel.trans (hb.mono HS12.out.1.1.bel.size)
      clear hb C6
      go_wp2_with fail
      go_ret
      exact ⟨rfl, HB13.out⟩
    case pos =>
    have hiz : (i : Int) < (N : Int) := by omega
    have hcv : IntKind.u8.wrap (i : Int) = (i : Int) := by rw [IntKind.wrap_u8]; omega
    have hil : i ≤ 200 := by omega
    have hgl := HS.out.2.gl
    have hhl : H.length ≤ 200 := by have := HS.out.2.hl; omega
    obtain ⟨bb, hbb⟩ : ∃ bb, wr.heap.size = bb := ⟨_, rfl⟩
    obtain ⟨f', hf', hfi⟩ : ∃ f' : Nat → Nat, f' = (fun j => if j = i then bb else f j) ∧ f' i = bb := ⟨_, rfl, by simp⟩
    obtain ⟨w1b, hw1⟩ : ∃ w1b, (wr.alloc (.cells #[.int .u8 (i : Int)] 5)).alloc (.cells #[.int .i64 (i : Int), .int .i64 0, .int .i64 0, .int .i64 0, .bool false, .slice (some ⟨bb, 0, none⟩) 1 1] 27) = w1b := ⟨_, rfl⟩
    have HS1 : Hid (BSt w w1b f' gv sv hv i G H) := by
      have h := (HS.out.1.body (i : Int)).below ((Below.refl _ _).alloc (Nat.le_refl _) (.cells #[.int .i64 (i : Int), .int .i64 0, .int .i64 0, .int .i64 0, .bool false, .slice (some ⟨bb, 0, none⟩) 1 1] 27))
      rw [hw1, hbb, ← hf'] at h
      exact h
    have HR1 : Hid (Row w1b (f' i) [i]) := by
      have h := (Row.new wr [i]).alloc (.cells #[.int .i64 (i : Int), .int .i64 0, .int .i64 0, .int .i64 0, .bool false, .slice (some ⟨bb, 0, none⟩) 1 1] 27)
      rw [hfi, ← hbb, ← hw1]
      exact h
    obtain ⟨xb, hxb⟩ : ∃ xb, bb + 1 = xb := ⟨_, rfl⟩
    have HX1 : Hid (Box w1b xb (i : Int) 0 0 0 false (.slice (some ⟨bb, 0, none⟩) 1 1)) := by
      have h := Box.new (wr.alloc (.cells #[.int .u8 (i : Int)] 5)) (i : Int) 0 0 0 false (.slice (some ⟨bb, 0, none⟩) 1 1)
      have e : (wr.alloc (.cells #[.int .u8 (i : Int)] 5)).heap.size = xb := by simp; omega
      rw [e] at h
      rw [← hw1]
      exact h
    have HK := hidden HS.out.2
    have HW1 := hidden hw1
    have HPq : Hid (P f' i = ⟨(i : Int), 0, 0, 0, false, some ⟨bb, 0, none⟩, 1, 1, [i]⟩) := by unfold Hid; rw [P, hfi]
    have HLt : Hid (Lts wr f gv sv hv i) := HS.out.1.lts
    have HBb := hidden hbb
    have HXb := hidden hxb
    clear hw1 hf' hfi HS hbb hxb
    go_upto_region 14 with fail
    rw [HBb.out, HXb.out, HW1.out]
    clear HW1
    obtain ⟨x0, x1, x2, x3, x4, x5⟩ := HX1.out.cells
    go_wp2_with (at_builtin; refine wpList_append_lies _ rfl _ _ 22 rfl w.heap.size 27 i0 _ 6 64 Tryd.underlying22 hii hz0 hz1 hz2 rfl (by decide) sv i (flat (All f' i)) rfl (HS1.out.snt.alloc _) ⟨w1b.heap.size, 0, none⟩ 1 1 (pc ⟨(i : Int), 0, 0, 0, false, some ⟨bb, 0, none⟩, 1, 1, [i]⟩) rfl rfl (lit6 ⟨(i : Int), 0, 0, 0, false, some ⟨bb, 0, none⟩, 1, 1, [i]⟩) (pc_one ⟨(i : Int), 0, 0, 0, false, some ⟨bb, 0, none⟩, 1, 1, [i]⟩) (by decide) ?b1 ?b2 ?b3 (w1b.heap.size + 1) (by simp) ?next)
    case b1 => unfold maxLen; omega
    case b2 => omega
    case b3 => have := HS1.out.bel.size; simp; omega
    case next =>
    intro g3 cap3 w3 hown hgrow hlies hlt
    have HS3 : Hid (BSt w w3 f' gv (.slice (some ⟨g3, 0, none⟩) (i + 1) cap3) hv (i + 1) G H) := HS1.out.addS HR1.out (by rw [HPq.out]; exact hown) hgrow hlies hlt
    have HX3 : Hid (Box w3 xb (i : Int) 0 0 0 false (.slice (some ⟨bb, 0, none⟩) 1 1)) := (HX1.out.alloc _).grown hgrow (fun e => by have := HLt.out.2.1 _ e; have := HBb.out; have := HXb.out; omega)
    clear hown hgrow hlies hlt x0 x1 x2 x3 x4 x5 HX1 HS1 HR1
    go_wp2_with fail
    go_loopg [14, 15] 50 (fun g u14 u15 wq => ∃ (k : Nat) (vd : Value), k + g = 50 ∧ vd = u14 ∧ u15 = .int .i64 (k : Int) ∧ Hid (∃ d, vd = .bool d) ∧ w3 = wq)
    case atStart => exact ⟨0, _, by omega, rfl, rfl, ⟨false, rfl⟩, rfl⟩
    case round =>
    obtain ⟨k, vd, hkg, rfl, rfl, HVd, rfl⟩ := hrel
    obtain ⟨d, rfl⟩ := HVd.out
    clear HVd
    by_cases hk : k < ln ∧ k < 50
    case pos =>
      have hkz : (k : Int) < (ln : Int) := by omega
      have dk : decide ((k : Int) < (ln : Int)) = true := by simpa using hkz
      have hkz5 : (k : Int) < 50 := by omega
      have hkn := hk.1
      obtain ⟨db, dO, rfl, hcs⟩ := (HD.out.below HS3.out.bel).at (by omega)
      have c0 := hcs k hk.1
      generalize Dr.getD k 0 = x at *
      clear hcs hk
      cases d with
      | true =>
        go_wp2_with fail
        go_roundg (50 - (k + 1))
        case measure => omega
        case rel => exact ⟨k + 1, _, by omega, rfl, by go_num, ⟨_, rfl⟩, rfl⟩
      | false =>
        go_wp2_with fail
        go_roundg (50 - (k + 1))
        case measure => omega
        case rel => exact ⟨k + 1, _, by omega, rfl, by go_num, ⟨_, rfl⟩, rfl⟩
    case neg =>
    have K6 : Hid (¬ ((k : Int) < (ln : Int) ∧ (k : Int) < 50)) := by unfold Hid; omega
    clear hk
    go_upto_region 17 with fail
    go_cut [67] from 60 to 67 (fun s wx => s = .bool false ∧ w3 = wx)
    case first =>
      by_cases z1 : (k : Int) < (ln : Int)
      · have d1 : decide ((k : Int) < (ln : Int)) = true := by simpa using z1
        have z2 : ¬ (k : Int) < 50 := fun h => K6.out ⟨z1, h⟩
        go_wp2_with fail
        go_meet
        exact ⟨rfl, rfl⟩
      · have d1 : decide ((k : Int) < (ln : Int)) = false := by simpa using z1
        go_wp2_with fail
        go_meet
        exact ⟨rfl, rfl⟩
    case rest =>
    obtain ⟨rfl, rfl⟩ := hcut
    clear K6
    cases d with
    | true =>
      have HS4 : Hid (LSt w w3 f' gv (.slice (some ⟨g3, 0, none⟩) (i + 1) cap3) hv (i + 1) G H (bt + 1)) := ⟨HS3.out, HK.out.drop⟩
      have hb0 := HK.out.b0
      have hb1 := HK.out.b1
      go_wp2_with fail
      go_roundg (N - (i + 1))
      case measure => omega
      case rel => exact ⟨i + 1, f', gv, _, hv, G, H, bt + 1, by omega, rfl, rfl, rfl, by go_num, by go_num, HS4⟩
    | false =>
    obtain ⟨ag, cg, hgv, -, -, -⟩ := HS3.out.gotA (by omega) (by omega)
    subst hgv
    by_cases hg0 : G.length = 0
    · obtain rfl : G = [] := List.eq_nil_of_length_eq_zero hg0
      have dg : decide ((0 : Int) < (([] : List Nat).length : Int)) = false := by simp
      have dg2 : decide (0 < ([] : List Nat).length) = false := by simp
      obtain ⟨x0, x1, x2, x3, x4, x5⟩ := HX3.out.cells
      clear hg0
      go_wp2_with (at_builtin; refine wpList_append_lies _ rfl _ _ 22 rfl w.heap.size 27 i0 _ 6 64 Tryd.underlying22 hii hz0 hz1 hz2 rfl (by decide) (.slice ag 0 cg) 0 (flat (Som f' [])) rfl (HS3.out.got.alloc _) ⟨w3.heap.size, 0, none⟩ 1 1 (pc ⟨(i : Int), 0, 0, 0, false, some ⟨bb, 0, none⟩, 1, 1, [i]⟩) rfl rfl (lit6 ⟨(i : Int), 0, 0, 0, false, some ⟨bb, 0, none⟩, 1, 1, [i]⟩) (pc_one ⟨(i : Int), 0, 0, 0, false, some ⟨bb, 0, none⟩, 1, 1, [i]⟩) (by decide) ?b1 ?b2 ?b3 (w3.heap.size + 1) (by simp) ?next)
      case b1 => unfold maxLen; omega
      case b2 => omega
      case b3 => have := HS3.out.bel.size; simp; omega
      case next =>
      intro g5 cap5 w5 hown hgrow hlies hlt
      have HS5 : Hid (LSt w w5 f' (.slice (some ⟨g5, 0, none⟩) 1 cap5) (.slice (some ⟨g3, 0, none⟩) (i + 1) cap3) hv (i + 1) [i] H 0) := ⟨HS3.out.addG (i := i) (by omega) (by rw [HPq.out]; exact hown) hgrow hlies hlt, HK.out.first⟩
      clear hown hgrow hlies hlt x0 x1 x2 x3 x4 x5
      go_wp2_with fail
      go_roundg (N - (i + 1))
      case measure => omega
      case rel => exact ⟨i + 1, f', _, _, hv, [i], H, 0, by omega, rfl, rfl, rfl, rfl, by go_num, HS5⟩
    · have dg : decide ((0 : Int) < (G.length : Int)) = true := by simp; omega
      have dg2 : decide (0 < G.length) = true := by simp; omega
      have hgp : 0 < G.length := by omega
      clear hg0
      go_wp2_with (at_builtin; refine wpList_append_own _ rfl _ _ 23 rfl w.heap.size 3 j0 _ 1 8 Tryd.underlying23 hjj hy0 hy1 hy2 rfl (by decide) hv H.length (ic H) rfl (HS3.out.hol.alloc _) ⟨w3.heap.size, 0, none⟩ 1 1 [.int .i64 bt] rfl rfl ?cc ?one ?b1 ?b2 ?b3 ?next)
      case cc => exact lit1 _
      case one => simp [Value.oneCell']
      case b1 => unfold maxLen; omega
      case b2 => omega
      case b3 => have := HS3.out.bel.size; simp; omega
      case next =>
      intro v4 w4 hown hgrow _
      have HS4 := hidden (HS3.out.addH hown hgrow)
      have HX4 : Hid (Box w4 xb (i : Int) 0 0 0 false (.slice (some ⟨bb, 0, none⟩) 1 1)) := (HX3.out.alloc _).grown hgrow (fun e => by have := HLt.out.2.2.1 _ e; have := HBb.out; have := HXb.out; omega)
      clear hown hgrow HX3 HS3
      obtain ⟨x0, x1, x2, x3, x4, x5⟩ := HX4.out.cells
      go_wp2_with (at_builtin; refine wpList_append_lies _ rfl _ _ 22 rfl w.heap.size 27 i0 _ 6 64 Tryd.underlying22 hii hz0 hz1 hz2 rfl (by decide) (.slice ag G.length cg) G.length (flat (Som f' G)) rfl (HS4.out.got.alloc _) ⟨w4.heap.size, 0, none⟩ 1 1 (pc ⟨(i : Int), 0, 0, 0, false, some ⟨bb, 0, none⟩, 1, 1, [i]⟩) rfl rfl (lit6 ⟨(i : Int), 0, 0, 0, false, some ⟨bb, 0, none⟩, 1, 1, [i]⟩) (pc_one ⟨(i : Int), 0, 0, 0, false, some ⟨bb, 0, none⟩, 1, 1, [i]⟩) (by decide) ?b1 ?b2 ?b3 (w4.heap.size + 1) (by simp) ?next)
      case b1 => unfold maxLen; omega
      case b2 => omega
      case b3 => have := HS4.out.bel.size; simp; omega
      case next =>
      intro g5 cap5 w5 hown hgrow hlies hlt
      have HS5 : Hid (LSt w w5 f' (.slice (some ⟨g5, 0, none⟩) (G.length + 1) cap5) (.slice (some ⟨g3, 0, none⟩) (i + 1) cap3) v4 (i + 1) (G ++ [i]) (H ++ [bt]) 0) := ⟨HS4.out.addG (i := i) (by omega) (by rw [HPq.out]; exact hown) hgrow hlies hlt, HK.out.keep hgp⟩
      clear hown hgrow hlies hlt x0 x1 x2 x3 x4 x5
      go_wp2_with fail
      go_roundg (N - (i + 1))
      case measure => omega
      case rel => exact ⟨i + 1, f', _, _, v4, G ++ [i], H ++ [bt], 0, by omega, rfl, rfl, rfl, rfl, by go_num, HS5⟩
theorem walk (M : Int) (va : Option Addr) (ln cn : Nat) (Dr : List Int) (w : World) (hg : w.cell? ⟨0, 0, none⟩ = some (.iface 76 (.agg #[.pointer (some ⟨1, 29, none⟩)]))) (hD : IArg w va ln Dr) :
    Calls Tryd.prog 4 #[.int .i64 M, .slice va ln cn] w fun e w' => e = .returned (.bool true) ∧ Below w.heap.size w w' := by
  by_cases h0 : M < 2
  · exact walk_e0 M _ w hg h0
  by_cases h1 : 200 < M
  · exact walk_e1 M _ w hg h0 h1
  obtain ⟨N, rfl⟩ : ∃ N : Nat, M = (N : Int) := ⟨M.toNat, by omega⟩
  exact walk_ok N va ln cn Dr w hg (by omega) (by omega) hD
end Go.Proofs.YtjnkgbdpacdgpaaDoor.ABack

