/-
  What Tick of package mesh returns, and what it leaves in memory. Its condition: the lofts are such as they may be, and none gives a number up.
-/
import Derived.Test.YtpiamlgmadnepaaGreatMeshK
namespace Go.Proofs.YtpiamlgmadnepaaGreat.MS
open Go.ChangeShapes Go.WideShapes Go.ChangeAt Go.RowKit Go.Maps Go.Proofs.YtpiamlgmadnepaaGreat.Mem Go.Proofs.YtpiamlgmadnepaaGreat.NO Go.Proofs.YtpiamlgmadnepaaGreat.ND
set_option linter.unusedVariables false

def outs (i : Nat) (l : List (Int × List Nat)) : List Fl := l.map fun l => ⟨(i : Int), l.1, l.2⟩
/-- time has gone on for the first j lofts -/
def Ms.ticked (M : Ms) (now : Int) (j : Nat) : Ms := { M with nw := now, nd := fun k => if k < j then { (M.nd k).tick now with lt := [] } else M.nd k, fl := M.fl ++ (List.range j).flatMap fun k => outs k ((M.nd k).tick now).lt }
theorem ticked_zero (M : Ms) (now : Int) : M.ticked now 0 = { M with nw := now } := by
  unfold Ms.ticked
  simp
theorem ticked_nd (M : Ms) (now : Int) (j : Nat) : (M.ticked now j).nd j = M.nd j := if_neg (Nat.lt_irrefl j)
theorem ticked_step (M : Ms) (now : Int) (j : Nat) : ({ M.ticked now j with nd := updN (M.ticked now j).nd j ((M.nd j).tick now) } : Ms).out j = M.ticked now (j + 1) := by
  unfold Ms.out Ms.ticked
  simp only [updN_at, List.range_succ, List.flatMap_append, List.flatMap_cons, List.flatMap_nil, List.append_nil, ← List.append_assoc]
  congr 1
  funext k
  by_cases c : k = j
  · subst c
    rw [updN_at, if_pos (Nat.lt_succ_self k)]
  · rw [updN_ne _ _ c, updN_ne _ _ c]
    by_cases c2 : k < j
    · rw [if_pos c2, if_pos (by omega)]
    · rw [if_neg c2, if_neg (by omega)]
theorem tick_id (N : Nd) (now : Int) : (N.tick now).nw = now ∧ (N.tick now).id = N.id ∧ (N.tick now).lt.length ≤ N.lt.length + 8 + N.sb.length := by
  unfold Nd.tick
  obtain ⟨a1, a2, a3, a4, a5, a6, a7, a8⟩ := asksG_nw ({ N with nw := now } : Nd) now 8
  obtain ⟨b1, b2, b3, b4, b5, b6⟩ := starts_nw now (((({ N with nw := now } : Nd).asksG now 8).pops now).sb) ((({ N with nw := now } : Nd).asksG now 8).pops now)
  refine ⟨b1.trans a1, b2.trans a2, ?_⟩
  refine Nat.le_trans b6 ?_
  have e : ((({ N with nw := now } : Nd).asksG now 8).pops now).sb.length = N.sb.length := by
    show (popS now _).length = _
    unfold popS
    rw [List.length_map]
    exact asks_len now 8
  rw [e]
  exact Nat.add_le_add_right a8 _
where
  asks_len {N : Nd} (now : Int) : ∀ j, (N.asksG now j).sb.length = N.sb.length
    | 0 => rfl
    | j + 1 => by
      have ih := asks_len (N := N) now j
      show ((N.asksG now j).askG j now).sb.length = _
      rw [← ih]
      unfold Nd.askG
      split
      · rfl
      · split
        · rfl
        · simp [selS_len]
theorem outs_len (M : Ms) (now : Int) : ∀ j, (∀ k, k < j → ((M.nd k).tick now).lt.length ≤ 28) → ((List.range j).flatMap fun k => outs k ((M.nd k).tick now).lt).length ≤ 28 * j := by
  intro j
  induction j with
  | zero => intro _; simp
  | succ j ih =>
    intro h
    rw [List.range_succ, List.flatMap_append, List.length_append]
    have := ih (fun k hk => h k (by omega))
    have := h j (by omega)
    simp [outs] at *
    omega
theorem MOk.tick28 {M : Ms} (h : MOk M) (now : Int) {k : Nat} (hk : k < M.n) : ((M.nd k).tick now).lt.length ≤ 28 := by
  obtain ⟨k1, k2, k3, k4⟩ := h.nd k hk
  have h1 := (tick_id (M.nd k) now).2.2
  have h2 := k1.si.len
  rw [k2] at h1
  have e : ([] : List (Int × List Nat)).length = 0 := rfl
  omega
theorem MOk.ticked {M : Ms} (h : MOk M) {now : Int} (h0 : M.nw ≤ now) (h1 : now ≤ 1000000) (j : Nat) : MOk (M.ticked now j) := by
  refine ⟨h.n1, h.n16, ⟨Int.le_trans h.nw.1 h0, h1⟩, ?_⟩
  intro i hi
  obtain ⟨k1, k2, k3, k4⟩ := h.nd i hi
  show NdOk M.n (if i < j then { (M.nd i).tick now with lt := [] } else M.nd i) ∧ (if i < j then { (M.nd i).tick now with lt := [] } else M.nd i).lt = [] ∧ (if i < j then { (M.nd i).tick now with lt := [] } else M.nd i).nw ≤ now ∧ (if i < j then { (M.nd i).tick now with lt := [] } else M.nd i).id = _
  obtain ⟨t1, t2, _⟩ := tick_id (M.nd i) now
  split
  · exact ⟨(k1.tick (Int.le_trans k3 h0) h1).letters _, rfl, by show ((M.nd i).tick now).nw ≤ now; rw [t1]; exact Int.le_refl _, t2.trans k4⟩
  · exact ⟨k1, k2, Int.le_trans k3 h0, k4⟩
theorem tick_range (b : Nat) (by' : Int) (w : World) (h : by' < 1 ∨ 1000 < by') : Calls Tryz.prog 44 #[.pointer (some ⟨b, 0, none⟩), .int .i64 by'] w fun e w' => e = .returned (errv 1) ∧ w' = w := by
  by_cases c : by' < 1
  · clear h
    go_enter Tryz.func44, Tryz.ntmps44
    go_wp2_with fail
    go_ret
    exact ⟨rfl, rfl⟩
  · have c2 : 1000 < by' := by omega
    clear h
    go_enter Tryz.func44, Tryz.ntmps44
    go_wp2_with fail
    go_ret
    exact ⟨rfl, rfl⟩
/-- a cell of the lofts' own block is written -/
theorem MAt.setBox {w : World} {o : Nat → Tg} {b : Nat} {P : MP} {M : Ms} (h : MAt w o b P M) (j : Nat) (v : Value) (M' : Ms) (hm : ∀ cs, MCells cs P M → MCells (cs.setIfInBounds j v) P M') (e1 : M'.n = M.n) (e2 : M'.nd = M.nd) (e3 : M'.E = M.E) (e4 : M'.sb = M.sb) (e5 : M'.fl = M.fl) : MAt (w.setCell ⟨b, j, none⟩ v) o b P M' ∧ Chg o meshy w (w.setCell ⟨b, j, none⟩ v) := by
  have ho : Only [b] w (w.setCell ⟨b, j, none⟩ v) := (Only.refl _ _).setCell (by simp) _
  obtain ⟨cs, h1, h2⟩ := h.box
  have hc : Chg o (fun g => g = ⟨1000, 0, 0⟩) w (w.setCell ⟨b, j, none⟩ v) := Chg.of_only ho (fun k hk => by simp at hk; subst hk; exact h.tag) (fun k hk => by simp at hk; subst hk; exact h.nobB)
  have no : ∀ c j, (c, j) ≠ ((0 : Nat), (0 : Int)) → ¬ ((⟨1000, c, j⟩ : Tg) = ⟨1000, 0, 0⟩) := fun c j hne e => hne (by cases e; rfl)
  refine ⟨⟨by rw [e1]; exact h.n16, ?_, h.tag, by rw [e1]; exact row_chg h.nrow hc h.nrt (no _ _ (by decide)), h.nrt, ?_, by rw [e3]; exact earg_chg h.edg hc h.edt (no _ _ (by decide)), by rw [e3]; exact h.edc, by rw [e3]; exact h.edt, by rw [e4]; exact row_chg h.srow hc h.srt (no _ _ (by decide)), h.srt, by rw [e5]; exact h.fly.chg hc h.flt (no _ _ (by decide)) (fun g hg => by subst hg; decide) (Ext.refl _ _), h.flt⟩, hc.mono (fun t ht => by subst ht; unfold meshy; decide)⟩
  · exact ⟨_, Gaps.setb h1 j v, hm cs h2⟩
  · intro i hi
    have h16 := h.n16
    rw [e1] at hi
    rw [e2]
    exact (h.nds i hi).chg hc (fun g hg => by subst hg; exact ⟨by decide, by show 1000 ≠ i + 1; omega⟩) (Ext.refl _ _)
theorem MAt.setNow {w : World} {o : Nat → Tg} {b : Nat} {P : MP} {M : Ms} (h : MAt w o b P M) (x : Int) : MAt (w.setCell ⟨b, 0, none⟩ (.int .i64 x)) o b P { M with nw := x } ∧ Chg o meshy w (w.setCell ⟨b, 0, none⟩ (.int .i64 x)) := by
  refine h.setBox 0 (.int .i64 x) _ ?_ rfl rfl rfl rfl rfl
  intro cs h2
  have hs := h2.sz
  refine ⟨by simpa using hs, ?_, ?_, ?_, ?_, ?_, ?_⟩
  · rw [Array.getElem?_setIfInBounds_self_of_lt (by omega)]
  · rw [Array.getElem?_setIfInBounds_ne (by omega)]; exact h2.c1
  · rw [Array.getElem?_setIfInBounds_ne (by omega)]; exact h2.c2
  · intro i hi
    rw [Array.getElem?_setIfInBounds_ne (by omega)]
    exact h2.cr i hi
  · rw [Array.getElem?_setIfInBounds_ne (by omega)]; exact h2.c11
  · rw [Array.getElem?_setIfInBounds_ne (by omega)]; exact h2.c12
set_option maxHeartbeats 4000000 in
set_option maxRecDepth 100000 in
theorem tick_calls (b : Nat) (o : Nat → Tg) (P : MP) (M : Ms) (by' : Int) (w : World) (h : MAt w o b P M) (hK : MOk M) (h1 : 1 ≤ by') (h2 : by' ≤ 1000) (h3 : M.nw + by' ≤ 1000000) (hg : ∀ i, i < M.n → NoGive (M.nd i) (M.nw + by')) (hl : M.fl.length ≤ 500000) :
    Calls Tryz.prog 44 #[.pointer (some ⟨b, 0, none⟩), .int .i64 by'] w fun e w' => e = .returned .nilIface ∧ MDone w w' o b (M.ticked (M.nw + by') M.n) := by
  have h16 := h.n16
  have hnn0 := hK.nw.1
  obtain ⟨now, hnow⟩ : ∃ now, M.nw + by' = now := ⟨_, rfl⟩
  have hw : IntKind.i64.wrap (M.nw + by') = now := by rw [hnow, IntKind.wrap_i64]; omega
  rw [hnow] at h3 hg ⊢
  have hle : M.nw ≤ now := by omega
  obtain ⟨rb, rc, hnv, _⟩ := h.nptr (i := 0) hK.n1
  have hdn := fun j => ticked_nd M now j
  obtain ⟨D, hD⟩ : ∃ D : World → Nat → Prop, (fun W j => ∃ o' P', MAt W o' b P' (M.ticked now j) ∧ Keep w o o' ∧ Chg o meshy w W ∧ P'.nv = P.nv ∧ P'.nb = P.nb) = D := ⟨_, rfl⟩
  have hDe : ∀ W j, D W j ↔ ∃ o' P', MAt W o' b P' (M.ticked now j) ∧ Keep w o o' ∧ Chg o meshy w W ∧ P'.nv = P.nv ∧ P'.nb = P.nb := fun W j => by rw [← hD]
  obtain ⟨D1, hD1⟩ : ∃ D1 : World → Nat → Prop, (fun W j => ∃ o' P', MAt W o' b P' { M.ticked now j with nd := updN (M.ticked now j).nd j ((M.nd j).tick now) } ∧ Keep w o o' ∧ Chg o meshy w W ∧ P'.nv = P.nv ∧ P'.nb = P.nb) = D1 := ⟨_, rfl⟩
  have hD1e : ∀ W j, D1 W j ↔ ∃ o' P', MAt W o' b P' { M.ticked now j with nd := updN (M.ticked now j).nd j ((M.nd j).tick now) } ∧ Keep w o o' ∧ Chg o meshy w W ∧ P'.nv = P.nv ∧ P'.nb = P.nb := fun W j => by rw [← hD1]
  obtain ⟨A1, hA1⟩ : ∃ A1 : World → Prop, (fun W => Below w.heap.size w W) = A1 := ⟨_, rfl⟩
  have hA1e : ∀ W, A1 W ↔ Below w.heap.size w W := fun W => by rw [← hA1]
  obtain ⟨Z, hZ⟩ : ∃ Z : Obj, Obj.cells #[.int .i64 0] 89 = Z := ⟨_, rfl⟩
  obtain ⟨A2, hA2⟩ : ∃ A2 : World → Nat → Prop, (fun W pb => Below w.heap.size w W ∧ W.heap[pb]? = some Z ∧ w.heap.size ≤ pb) = A2 := ⟨_, rfl⟩
  have hA2e : ∀ W pb, A2 W pb ↔ Below w.heap.size w W ∧ W.heap[pb]? = some Z ∧ w.heap.size ≤ pb := fun W pb => by rw [← hA2]
  obtain ⟨A3, hA3⟩ : ∃ A3 : World → Nat → Prop, (fun W pb => Below w.heap.size w W ∧ W.cell? ⟨pb, 0, none⟩ = some (.int .i64 now)) = A3 := ⟨_, rfl⟩
  have hA3e : ∀ W pb, A3 W pb ↔ Below w.heap.size w W ∧ W.cell? ⟨pb, 0, none⟩ = some (.int .i64 now) := fun W pb => by rw [← hA3]
  have hnew : ∀ W : World, A1 W → A2 (W.alloc Z) W.heap.size := by
    intro W hA
    have hB := (hA1e W).1 hA
    exact (hA2e _ _).2 ⟨hB.alloc hB.size _, heap_alloc_new W Z, hB.size⟩
  have h21 : ∀ W pb, A2 W pb → A1 W := fun W pb hA => (hA1e _).2 ((hA2e _ _).1 hA).1
  have hdr : ∀ W, A1 W → A1 W.drew := fun W hA => (hA1e _).2 ((hA1e _).1 hA).drew
  have hdr2 : ∀ W pb, A2 W pb → A2 W.drew pb := fun W pb hA => (hA2e _ _).2 ⟨((hA2e _ _).1 hA).1.drew, ((hA2e _ _).1 hA).2⟩
  have hc0 : ∀ W, A1 W → W.cell? ⟨b, 0, none⟩ = some (.int .i64 M.nw) := fun W hA => (h.below ((hA1e _).1 hA)).cells.1
  have HN1 : Hid (∀ W, Hid (A1 W) → Calls Tryz.prog 46 #[.pointer (some ⟨b, 0, none⟩)] W fun e w' => e = .returned (.int .i64 M.nw) ∧ w'.cell? ⟨b, 0, none⟩ = some (.int .i64 M.nw) ∧ (w'.alloc Z).cell? ⟨b, 0, none⟩ = some (.int .i64 M.nw) ∧ Hid (A1 w') ∧ Hid (A2 (w'.alloc Z) w'.heap.size)) := by
    refine hidden ?_
    intro W hA
    have hB := (hA1e W).1 hA.out
    refine (now_calls b o P M W (h.below hB)).mono ?_
    rintro e w' ⟨rfl, hb⟩
    have hA' := (hA1e _).2 (hB.trans (hb.mono hB.size))
    exact ⟨rfl, hc0 _ hA', hc0 _ (h21 _ _ (hnew _ hA')), hidden hA', hidden (hnew _ hA')⟩
  have HN2 : Hid (∀ W pb, Hid (A2 W pb) → Calls Tryz.prog 46 #[.pointer (some ⟨b, 0, none⟩)] W fun e w' => e = .returned (.int .i64 M.nw) ∧ w'.cell? ⟨b, 0, none⟩ = some (.int .i64 M.nw) ∧ Hid (A2 w' pb)) := by
    refine hidden ?_
    intro W pb hA
    obtain ⟨hB, hz, hp⟩ := (hA2e W pb).1 hA.out
    refine (now_calls b o P M W (h.below hB)).mono ?_
    rintro e w' ⟨rfl, hb⟩
    have hB' := hB.trans (hb.mono hB.size)
    exact ⟨rfl, (h.below hB').cells.1, hidden ((hA2e _ _).2 ⟨hB', (hb.block _ (lt_of_block hz)).trans hz, hp⟩)⟩
  have HT1 : Hid (∀ W, Hid (A1 W) → Calls Tryz.prog 66 #[.agg #[.int .i64 M.nw], .int .i64 (IntKind.i64.wrap (M.nw + by'))] W fun e w' => e = .returned (.tuple #[.agg #[.int .i64 now], .nilIface]) ∧ w'.cell? ⟨b, 0, none⟩ = some (.int .i64 M.nw) ∧ (w'.alloc Z).cell? ⟨b, 0, none⟩ = some (.int .i64 M.nw) ∧ (w'.alloc (.cells #[.int .i64 now] 89)).cell? ⟨b, 0, none⟩ = some (.int .i64 M.nw) ∧ Hid (A3 (w'.alloc (.cells #[.int .i64 now] 89)) w'.heap.size)) := by
    refine hidden ?_
    intro W hA
    have hB := (hA1e W).1 hA.out
    rw [hw]
    refine (Gaps.at_ok M.nw now W (gtf_le hnn0 hle h3)).mono ?_
    rintro e w' ⟨rfl, hb⟩
    have hB' := hB.trans (hb.mono hB.size)
    refine ⟨rfl, (h.below hB').cells.1, (h.below (hB'.alloc hB'.size _)).cells.1, (h.below (hB'.alloc hB'.size _)).cells.1, hidden ((hA3e _ _).2 ⟨hB'.alloc hB'.size _, ?_⟩)⟩
    have := heap_alloc_new w' (.cells #[.int .i64 now] 89)
    simp only [World.cell?, this]
    rfl
  have HT2 : Hid (∀ W pb, Hid (A2 W pb) → Calls Tryz.prog 66 #[.agg #[.int .i64 M.nw], .int .i64 (IntKind.i64.wrap (M.nw + by'))] W fun e w' => e = .returned (.tuple #[.agg #[.int .i64 now], .nilIface]) ∧ w'.cell? ⟨b, 0, none⟩ = some (.int .i64 M.nw) ∧ (w'.setCell ⟨pb, 0, none⟩ (.int .i64 now)).cell? ⟨b, 0, none⟩ = some (.int .i64 M.nw) ∧ w'.cell? ⟨pb, 0, none⟩ = some (.int .i64 0) ∧ w'.frozen? ⟨pb, 0, none⟩ = false ∧ Hid (A3 (w'.setCell ⟨pb, 0, none⟩ (.int .i64 now)) pb)) := by
    refine hidden ?_
    intro W pb hA
    obtain ⟨hB, hz, hp⟩ := (hA2e W pb).1 hA.out
    rw [hw]
    refine (Gaps.at_ok M.nw now W (gtf_le hnn0 hle h3)).mono ?_
    rintro e w' ⟨rfl, hb⟩
    have hB' := hB.trans (hb.mono hB.size)
    have hz' := (hb.block _ (lt_of_block hz)).trans hz
    rw [← hZ] at hz'
    have hz2 := Gaps.setb hz' 0 (.int .i64 now)
    have hB2 : Below w.heap.size w (w'.setCell ⟨pb, 0, none⟩ (.int .i64 now)) := hB'.setCell hp _
    refine ⟨rfl, (h.below hB').cells.1, (h.below hB2).cells.1, ?_, ?_, hidden ((hA3e _ _).2 ⟨hB2, ?_⟩)⟩
    · simp only [World.cell?, hz']
      rfl
    · simp only [World.frozen?, hz']
      rfl
    · simp only [World.cell?, hz2]
      rfl
  have HSet : Hid (∀ W pb, A3 W pb → W.cell? ⟨b, 0, none⟩ = some (.int .i64 M.nw) ∧ W.frozen? ⟨b, 0, none⟩ = false ∧ W.cell? ⟨pb, 0, none⟩ = some (.int .i64 now) ∧ Hid (D (W.setCell ⟨b, 0, none⟩ (.int .i64 now)) 0)) := by
    refine hidden ?_
    intro W pb hA
    obtain ⟨hB, hc⟩ := (hA3e _ _).1 hA
    have hM := h.below hB
    obtain ⟨g1, g2⟩ := hM.setNow now
    refine ⟨hM.cells.1, hM.free 0, hc, hidden ((hDe _ _).2 ⟨o, P, ?_, Keep.of_ext (Ext.refl _ _), (Chg.of_below hB _ _).trans' g2, rfl, rfl⟩)⟩
    rw [ticked_zero]
    exact g1
  have HRow : Hid (∀ W j, D W j → W.cell? ⟨b, 1, none⟩ = some (.slice (some ⟨rb, 0, none⟩) M.n rc) ∧ (j < M.n → W.cell? ⟨rb, j, none⟩ = some (.pointer (some ⟨P.nb j, 0, none⟩)))) := by
    refine hidden ?_
    intro W j hA
    obtain ⟨o1, P1, g1, g2, g3, g4, g5⟩ := (hDe _ _).1 hA
    have c1 := g1.cells.2.1
    rw [g4, hnv] at c1
    refine ⟨c1, fun hj => ?_⟩
    obtain ⟨x1, x2⟩ := send_cells g1 (r := j) (show j < M.n from hj) (show P1.nv = .slice (some ⟨rb, 0, none⟩) M.n rc by rw [g4]; exact hnv)
    rw [g5] at x2
    exact x2
  have HNow : Hid (∀ W j, D W j → Calls Tryz.prog 46 #[.pointer (some ⟨b, 0, none⟩)] W fun e w' => e = .returned (.int .i64 now) ∧ Hid (D w' j)) := by
    refine hidden ?_
    intro W j hA
    obtain ⟨o1, P1, g1, g2, g3, g4, g5⟩ := (hDe _ _).1 hA
    refine (now_calls b o1 P1 _ W g1).mono ?_
    rintro e w' ⟨rfl, hb⟩
    exact ⟨rfl, hidden ((hDe _ _).2 ⟨o1, P1, g1.below hb, g2, Chg.keep g3 (Chg.of_below hb o1 _) g2, g4, g5⟩)⟩
  have HTick : Hid (∀ W j, D W j → j < M.n → Calls Tryz.prog 91 #[.pointer (some ⟨P.nb j, 0, none⟩), .int .i64 now] W fun e w' => e = .returned .nilIface ∧ Hid (D1 w' j)) := by
    refine hidden ?_
    intro W j hA hj
    obtain ⟨o1, P1, g1, g2, g3, g4, g5⟩ := (hDe _ _).1 hA
    obtain ⟨kN, kL, kW, kI⟩ := hK.nd j hj
    have gN := g1.nds j (show j < M.n from hj)
    rw [hdn j] at gN
    have C := tick_any M.n (j + 1) (P1.nb j) o1 (P1.np j) (M.nd j) now W (by omega) gN kN (Int.le_trans kW hle) h3 (hg j hj) (by rw [kL]; simp)
    rw [g5] at C
    refine C.mono ?_
    rintro e w' ⟨rfl, hd⟩
    rw [← g5] at hd
    obtain ⟨o2, P2, r1, r2, r3, r4, r5, r6, r7⟩ := g1.node (i := j) (show j < M.n from hj) hd
    exact ⟨rfl, hidden ((hD1e _ _).2 ⟨o2, P2, r1, g2.trans (Keep.of_ext r6) g3.size, Chg.keep g3 (mine_meshy r7 (by omega) (by omega)) g2, r3.trans g4, r2.trans g5⟩)⟩
  have HOut : Hid (∀ W j, D1 W j → j < M.n → Calls Tryz.prog 47 #[.pointer (some ⟨b, 0, none⟩), .int .i64 (j : Int)] W fun e w' => e = .returned (.tuple #[]) ∧ Hid (D w' (j + 1))) := by
    refine hidden ?_
    intro W j hA hj
    obtain ⟨o1, P1, g1, g2, g3, g4, g5⟩ := (hD1e _ _).1 hA
    have l1 := outs_len M now j (fun k hk => hK.tick28 now (by omega))
    have l2 := hK.tick28 now hj
    refine (letOut_keeps b j o1 P1 _ W g1 (show j < M.n from hj) (by
      show (M.fl ++ (List.range j).flatMap fun k => outs k ((M.nd k).tick now).lt).length + (updN (M.ticked now j).nd j _ j).lt.length ≤ _
      rw [updN_at, List.length_append]
      omega)).mono ?_
    rintro e w' ⟨rfl, hd⟩
    obtain ⟨o3, P3, s1, s2, s3, s4, s5⟩ := hd
    rw [ticked_step] at s1
    exact ⟨rfl, hidden ((hDe _ _).2 ⟨o3, P3, s1, g2.trans s2 g3.size, Chg.keep g3 s3 g2, s4.trans g4, s5.trans g5⟩)⟩
  have HFin : Hid (∀ W, D W M.n → MDone w W o b (M.ticked now M.n)) := by
    refine hidden ?_
    intro W hA
    obtain ⟨o1, P1, g1, g2, g3, _⟩ := (hDe _ _).1 hA
    exact ⟨o1, P1, g1, g2, g3⟩
  have hA0 : A1 w := (hA1e _).2 (Below.refl _ _)
  have c0 := hc0 _ hA0
  have HA0d : Hid (A1 w.drew) := hidden (hdr _ hA0)
  have c0d := hc0 _ HA0d.out
  have HA1d : Hid (A2 (w.drew.alloc Z) w.drew.heap.size) := hidden (hnew _ HA0d.out)
  have HA2d : Hid (A2 (w.alloc Z).drew w.heap.size) := hidden (hdr2 _ _ (hnew _ hA0))
  have c0e := hc0 _ (h21 _ _ HA2d.out)
  obtain ⟨nw, hnw⟩ : ∃ z, M.nw = z := ⟨_, rfl⟩
  obtain ⟨nn, hnn⟩ : ∃ z, M.n = z := ⟨_, rfl⟩
  rw [hnw] at HN1 HN2 HT1 HT2 HSet c0 c0d c0e
  obtain ⟨R, hR⟩ : ∃ R : World → Prop, (fun W => MDone w W o b (M.ticked now M.n)) = R := ⟨_, rfl⟩
  have hRe : ∀ W, MDone w W o b (M.ticked now M.n) = R W := fun W => by rw [← hR]
  simp only [hRe] at HFin ⊢
  rw [hnn] at HRow HTick HOut HFin
  have hn16 : nn ≤ 16 := by omega
  obtain ⟨nb, hnb⟩ : ∃ nb : Nat → Nat, P.nb = nb := ⟨_, rfl⟩
  rw [hnb] at HRow HTick
  clear h hK h3 hg hl h16 hnn0 hle hnv hdn hD hDe hD1 hD1e hA1 hA1e hA2 hA2e hA3 hA3e hR hRe hnw hnn hnb hnow hw hA0 hc0 hnew h21 hdr hdr2
  have hq1 : ¬ by' < 1 := by omega
  have hq2 : ¬ 1000 < by' := by omega
  subst hZ
  go_enter Tryz.func44, Tryz.ntmps44
  go_upto_region 3 with fail
  go_cut [5, 6] from 17 to 28 (fun x5 x6 wx => ∃ pb, x5 = .pointer (some ⟨pb, 0, none⟩) ∧ x6 = .nilIface ∧ Hid (A3 wx pb))
  case first =>
    go_region_held3 (fun w' => w'.cell? ⟨b, 0, none⟩ = some (.int .i64 nw)) (first | (with_reducible assumption) | (with_reducible exact Pack.cell_alloc (by assumption) _)) (first | (go_at_call 46; first | (with_reducible refine (HN1.out _ HA0d).mono ?_; rintro e w4 ⟨rfl, hS4, hS4b, HD4, HD4b⟩) | (with_reducible refine (HN2.out _ _ HA1d).mono ?_; rintro e w4 ⟨rfl, hS4, HE4⟩) | (with_reducible refine (HN2.out _ _ HA2d).mono ?_; rintro e w4 ⟨rfl, hS4, HE4⟩)) | (go_at_call 66; first | (with_reducible refine (HT1.out _ HD4).mono ?_; rintro e w5 ⟨rfl, hS5, hS5b, hS5c, HD5⟩) | (with_reducible refine (HT2.out _ _ HE4).mono ?_; rintro e w5 ⟨rfl, hS5, hS5b, hz5, hf5, HE5⟩) | (with_reducible refine (HT2.out _ _ HD4b).mono ?_; rintro e w5 ⟨rfl, hS5, hS5b, hz5, hf5, HE5⟩)))
    all_goals (go_wp2_with fail)
    all_goals go_meet
    all_goals (first | exact ⟨_, rfl, rfl, HD5⟩ | exact ⟨_, rfl, rfl, HE5⟩)
  case rest =>
    obtain ⟨pb, rfl, rfl, HA3⟩ := hcut
    obtain ⟨wA, rfl⟩ : ∃ z, z = wc := ⟨_, rfl⟩
    obtain ⟨a0, af, ap, HD0⟩ := HSet.out wA pb HA3.out
    obtain ⟨W1, hW1⟩ : ∃ W1, wA.setCell ⟨b, 0, none⟩ (.int .i64 now) = W1 := ⟨_, rfl⟩
    rw [hW1] at HD0
    have cr := (HRow.out W1 0 HD0.out).1
    have HW1 := hidden hW1
    clear hW1 HA3 HSet HN1 HN2 HT1 HT2 HA0d HA1d HA2d c0 c0d c0e
    go_upto_region 7 with fail
    rw [HW1.out]
    clear a0 af ap HW1
    go_wp2_with fail
    go_loopg [41] nn (fun g x wx => ∃ j : Nat, j + g = nn ∧ x = .int .i64 (j : Int) ∧ Hid (D wx j))
    case atStart => exact ⟨0, by omega, rfl, HD0⟩
    case round =>
      obtain ⟨j, hjg, rfl, HD⟩ := hrel
      by_cases hj : j < nn
      · have hjz : (j : Int) < (nn : Int) := by omega
        have ck := (HRow.out wr j HD.out).2 hj
        have CN := hidden (HNow.out wr j HD.out)
        obtain ⟨nj, hnj⟩ : ∃ nj, nb j = nj := ⟨_, rfl⟩
        have CT := hidden (fun W hW => HTick.out W j hW hj)
        have CO := hidden (fun W hW => HOut.out W j hW hj)
        rw [hnj] at ck CT
        clear HD cr hnj
        go_wp2_with fail
        refine CN.out.mono ?_
        rintro e w3 ⟨rfl, HD3⟩
        clear CN
        go_wp2_with fail
        refine (CT.out w3 HD3.out).mono ?_
        rintro e w4 ⟨rfl, HD4⟩
        clear CT HD3
        go_wp2_with fail
        refine (CO.out w4 HD4.out).mono ?_
        rintro e w5 ⟨rfl, HD5⟩
        clear CO HD4
        go_wp2_with fail
        go_roundg (nn - (j + 1))
        case measure => omega
        case rel => exact ⟨j + 1, by omega, by go_num, HD5⟩
      · have hjz : ¬ (j : Int) < (nn : Int) := by omega
        obtain rfl : nn = j := by omega
        have HDn := hidden (HFin.out wr HD.out)
        clear HD HFin HRow HNow HTick HOut
        go_wp2_with fail
        go_ret
        exact ⟨rfl, HDn.out⟩
end Go.Proofs.YtpiamlgmadnepaaGreat.MS

