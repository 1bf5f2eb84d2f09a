/-
  What has and add of what flies return, and what they leave in memory. Their condition: the lofts are such as they may be.
-/
import Derived.Test.YtpiamlgmadnepaaGreatMeshM
import Derived.Deep.RegionLaw
import Derived.Deep.AppendLies
import Derived.ArgAppend
namespace Go.Proofs.YtpiamlgmadnepaaGreat.MS
open Go.ChangeShapes Go.WideShapes Go.ChangeAt Go.RowKit Go.Maps Go.Proofs.YtpiamlgmadnepaaGreat.Mem Go.Proofs.YtpiamlgmadnepaaGreat.NO Go.Proofs.YtpiamlgmadnepaaGreat.ND
set_option linter.unusedVariables false

theorem infoFT : (Tryz.prog.info? 167).map (fun i => (i.zero, i.size, i.bytes)) = some (some (.agg #[.int .i64 0, .int .i64 0, .slice none 0 0]), 3, 40) := by kernel_rfl
theorem own_frow {w : World} {base n : Nat} {v : Value} {X : List (Fl × Value)} (h : w.ownsRow base 167 3 v n (fc X)) (hn : X.length = n) : FRow w v X := by
  rcases h.2 with ⟨rfl, h0⟩ | ⟨g, cap, cur, rfl, hb, hg, h1, h2, h3, h4⟩
  · exact .inl ⟨rfl, List.eq_nil_of_length_eq_zero (by omega)⟩
  · refine .inr ⟨g, 0, cap, cur, by rw [hn], hg, by omega, h2, by omega, ?_⟩
    intro j u hu
    rw [← h4, List.getElem?_take] at hu
    split at hu
    · rw [Nat.zero_add]
      simpa using hu
    · cases hu
theorem FRow.cells {w : World} {g off n cap : Nat} {X : List (Fl × Value)} (h : FRow w (.slice (some ⟨g, off, none⟩) n cap) X) : ∀ j u, (fc X)[j]? = some u → w.cell? ((⟨g, off, none⟩ : Addr).add j) = some u := by
  intro j u hu
  rcases h with ⟨e, _⟩ | ⟨g', off', cap', cur, e, hg, h1, h2, h3, h4⟩
  · cases e
  · cases e
    rw [Addr.add_lit]
    simp only [World.cell?, hg]
    exact h4 j u hu
theorem grown_only {w w' : World} {row : Option Nat} (h : w.grownBy w' row) : Only row.toList w w' := ⟨h.os, h.tape, h.output, h.size, fun k hk hn => h.block k hk (fun e => hn (by rw [← e]; simp))⟩
/-- one more flies -/
theorem run_append_fl {w : World} {v : Value} {X : List (Fl × Value)} (h : FRow w v X) (ty : TypeId) (B : Nat) (x : Fl × Value) (hB : w.heap[B]? = some (.cells (fcs x).toArray 167 (0, 0))) (hx : ∃ a m c, x.2 = .slice a m c) (hl : X.length ≤ 1000000) :
    ∃ v' w', (Builtin.append_ #[94, 94] ty #[v, .slice (some ⟨B, 0, none⟩) 1 1]).run Tryz.prog w = .ok v' w' ∧ FRow w' v' (X ++ [x]) ∧ Only v.ownBlock.toList w w' ∧ (∀ k, v'.ownBlock = some k → v.ownBlock = some k ∨ w.heap.size ≤ k) := by
  obtain ⟨i0, hii, hz0, hz1, hz2⟩ := info_parts infoFT
  have hnews : ∀ j u, (fcs x)[j]? = some u → w.cell? ((⟨B, 0, none⟩ : Addr).add j) = some u := by
    have := World.news_of_block hB
    simpa using this
  have hone : ∀ u ∈ fcs x, u.oneCell' = true := by
    have := fc_cell [x] (by intro y hy; rw [List.mem_singleton] at hy; rw [hy]; exact hx)
    simpa [fc] using this
  have e1 : fc (X ++ [x]) = fc X ++ fcs x := by rw [fc_app]; simp [fc]
  rcases h with ⟨rfl, rfl⟩ | ⟨g, off, cap, cur, rfl, hg, h1, h2, h3, h4⟩
  · obtain ⟨v', w', q1, q2, q3, _⟩ := run_append_own (P := Tryz.prog) w w.heap.size 94 ty 167 i0 _ 3 40 Tryz.underlying94 hii hz0 hz1 hz2 rfl (by omega) (.slice none 0 0) 0 [] (World.ownsRow_nil w _ _ _) ⟨B, 0, none⟩ 1 1 (fcs x) (by rfl) hnews hone (by unfold maxLen; omega) (by omega) (Nat.le_refl _)
    refine ⟨v', w', q1, own_frow (base := w.heap.size) (n := 0 + 1) (by rw [e1]; exact q2) rfl, grown_only q3, fun k hk => .inr ?_⟩
    exact (q2.lt k hk).1
  · by_cases hr : X.length + 1 ≤ cap
    · have hl3 := fc_len X
      obtain ⟨⟨c', k1, k2, k3, k4, k5⟩, k6⟩ := setCells_block (t := 167) g (fcs x) (off + X.length * 3) w cur hg (by show off + X.length * 3 + 3 ≤ _; omega)
      have hs : ∀ j, j < (fcs x).length → (w.cell? ⟨g, off + X.length * i0.size + j, none⟩).isSome = true := by
        intro j hj
        have hj3 : j < 3 := hj
        rw [hz1]
        simp only [World.cell?, hg]
        rw [Array.getElem?_eq_getElem (by omega)]
        rfl
      have hrun := run_append_room_cells (P := Tryz.prog) w 94 ty 167 i0 Tryz.underlying94 hii g off X.length cap ⟨B, 0, none⟩ 1 1 (fcs x) (by rw [hz1]; rfl) hnews hone hr hs (fun j hj => by simp [World.frozen?, hg])
      rw [hz1] at hrun
      refine ⟨_, _, hrun, .inr ⟨g, off, cap, c', by rw [List.length_append]; rfl, k1, by rw [List.length_append]; exact hr, h2, by omega, ?_⟩, by simpa [Value.ownBlock] using k6, fun k hk => .inl hk⟩
      intro j u hu
      rw [e1] at hu
      by_cases hj : j < (fc X).length
      · rw [List.getElem?_append_left hj] at hu
        rw [k3 _ (by omega)]
        exact h4 j u hu
      · rw [List.getElem?_append_right (by omega)] at hu
        have hlt := (List.getElem?_eq_some_iff.1 hu).1
        have := k5 (j - (fc X).length) hlt
        rw [hl3] at this hu
        rw [show off + j = off + X.length * 3 + (j - X.length * 3) by omega, this]
        exact hu
    · have hcells : ∀ j u, (fc X)[j]? = some u → w.cell? ((⟨g, off, none⟩ : Addr).add j) = some u := FRow.cells (n := X.length) (cap := cap) (.inr ⟨g, off, cap, cur, rfl, hg, h1, h2, h3, h4⟩)
      obtain ⟨v', w', q1, q2, q3⟩ := run_append_arg_grows (P := Tryz.prog) w 94 ty 167 i0 _ 3 40 Tryz.underlying94 hii hz0 hz1 hz2 rfl (by omega) ⟨g, off, none⟩ X.length cap (fc X) (fc_len X) hcells ⟨B, 0, none⟩ 1 1 (fcs x) (by rfl) hnews (by omega) (by unfold maxLen; omega) (by omega)
      refine ⟨v', w', q1, own_frow (base := w.heap.size) (n := X.length + 1) (by rw [e1]; exact q2) (by rw [List.length_append]; rfl), (grown_only q3).mono (by simp), fun k hk => .inr ?_⟩
      exact (q2.lt k hk).1
/-- the same, as a step of a region that draws -/
theorem step_append_fl {w : World} {ops : Array Oper} {o : Oper} {a : Act} {K : Act → World → Prop} {Q : Exit → Act → World → Prop} {E : Prop} (hgd : o.guard = none) (s x : Operand)
    (ho : o.op = .call { callee := .builtin .append, args := #[s, x], argTypes := #[94, 94] }) (v : Value) (X : List (Fl × Value)) (hs : a.eval s = v) (hF : FRow w v X) (B : Nat) (y : Fl × Value) (hB : w.heap[B]? = some (.cells (fcs y).toArray 167 (0, 0))) (hy : ∃ a m c, y.2 = .slice a m c) (hx : a.eval x = .slice (some ⟨B, 0, none⟩) 1 1) (hl : X.length ≤ 1000000) (nn : Nat) (hnn : X.length + 1 = nn)
    (h : ∀ va vc w', FRow w' (.slice va nn vc) (X ++ [y]) → Only v.ownBlock.toList w w' → (∀ k, (Value.slice va nn vc).ownBlock = some k → v.ownBlock = some k ∨ w.heap.size ≤ k) → K (a.put o.dst (.slice va nn vc)) w') :
    if Region.wanted o (yielded ops a.tmps) = true then Oper.wp Tryz.prog o a w K Q else E := by
  have hw : Region.wanted o (yielded ops a.tmps) = true := by simp [Region.wanted, hgd]
  rw [if_pos hw]
  obtain ⟨v', w', hr, h2, h3, h4⟩ := run_append_fl hF o.type B y hB hy hl
  unfold Oper.wp execOp
  simp only [ho, resolve, invoke, builtin, Sem.run_bind, Sem.run_pure, Result.andThen_ok, List.map_toArray, List.map_cons, List.map_nil, hs, hx, hr]
  obtain ⟨va, vc, e⟩ := h2.form
  rw [List.length_append, show X.length + [y].length = nn from hnn] at e
  subst e
  exact h va vc w' h2 h3 h4
def ftag (g : Tg) : Prop := g = ⟨1000, 0, 0⟩ ∨ g = ⟨1000, 4, 0⟩
theorem ftag_meshy {o : Nat → Tg} {w w' : World} (h : Chg o ftag w w') : Chg o meshy w w' := h.mono (by rintro t (rfl | rfl) <;> exact ⟨by decide, by decide⟩)
theorem ftag_n {g : Tg} (h : ftag g) : g.n = 1000 := by rcases h with rfl | rfl <;> rfl
/-- what flies is another row -/
theorem MAt.setF {w w' : World} {o o' : Nat → Tg} {b : Nat} {P : MP} {M : Ms} (h : MAt w o b P M) (hc : Chg o ftag w w') (he : Ext w o o') {v : Value} {F : List Fl} (hb : ∃ cs, w'.heap[b]? = some (.cells cs 96 (0, 0)) ∧ MCells cs { P with fv := v } { M with fl := F }) (hf : FlAt w' o' v F) (ht : Own o' ⟨1000, 4, 0⟩ v.ownBlock.toList) : MAt w' o' b { P with fv := v } { M with fl := F } := by
  have h0 : ∀ g, ftag g → g.n ≠ 0 := fun g hg => by rw [ftag_n hg]; decide
  refine ⟨h.n16, hb, (he _ h.lt).trans h.tag, row_chg h.nrow hc h.nrt (by simp [ftag]), h.nrt.ext he (fun k hk => own_lt h.nrow (by simpa using hk)), ?_, earg_chg h.edg hc h.edt (by simp [ftag]), h.edc, ?_, row_chg h.srow hc h.srt (by simp [ftag]), h.srt.ext he (fun k hk => own_lt h.srow (by simpa using hk)), hf, ht⟩
  · intro i hi
    have := h.n16
    have hi' : i < M.n := hi
    exact (h.nds i hi).chg hc (fun g hg => ⟨h0 g hg, by rw [ftag_n hg]; omega⟩) he
  · intro ad e hm
    rw [he _ (earg_lt h.edg e hm)]
    exact h.edt ad e hm
theorem MCells.setF {cs : Array Value} {P : MP} {M : Ms} (h : MCells cs P M) (v : Value) (F : List Fl) : MCells (cs.setIfInBounds 12 v) { P with fv := v } { M with fl := F } := by
  have hs := h.sz
  refine ⟨by simpa using h.sz, ?_, ?_, ?_, ?_, ?_, ?_⟩
  · rw [Array.getElem?_setIfInBounds_ne (by omega)]; exact h.c0
  · rw [Array.getElem?_setIfInBounds_ne (by omega)]; exact h.c1
  · rw [Array.getElem?_setIfInBounds_ne (by omega)]; exact h.c2
  · intro i hi
    rw [Array.getElem?_setIfInBounds_ne (by omega)]
    exact h.cr i hi
  · rw [Array.getElem?_setIfInBounds_ne (by omega)]; exact h.c11
  · rw [Array.getElem?_setIfInBounds_self_of_lt (by omega)]
theorem MAt.nobB {w : World} {o : Nat → Tg} {b : Nat} {P : MP} {M : Ms} (h : MAt w o b P M) : NobAt w b := by
  obtain ⟨cs, h1, _⟩ := h.box
  exact nobAt_cells h1 (by decide)
theorem FRow.nob {w : World} {v : Value} {X : List (Fl × Value)} (h : FRow w v X) : Nob w v.ownBlock.toList := by
  intro k hk
  rcases h with ⟨rfl, rfl⟩ | ⟨g, off, cap, cur, rfl, hg, _⟩
  · simp [Value.ownBlock] at hk
  · simp [Value.ownBlock] at hk
    subst hk
    exact nobAt_cells hg (by decide)
theorem FRow.ne {w : World} {v : Value} {X : List (Fl × Value)} {o : Nat → Tg} {b : Nat} {P : MP} {M : Ms} (h : FRow w v X) (hm : MAt w o b P M) : ∀ k ∈ v.ownBlock.toList, k ≠ b := by
  intro k hk e
  obtain ⟨cs, h1, _⟩ := hm.box
  rcases h with ⟨rfl, rfl⟩ | ⟨g, off, cap, cur, rfl, hg, _⟩
  · simp [Value.ownBlock] at hk
  · simp [Value.ownBlock] at hk
    subst hk
    rw [e, h1] at hg
    simp at hg
theorem has_calls (a : Option Addr) (n cap : Nat) (x : Int) (w : World) (hn : n ≤ 9223372036854775807) : Calls Tryz.prog 114 #[.slice a n cap, .int .i64 x] w fun e w' => e = .returned (.bool (decide (0 ≤ x ∧ x < (n : Int)))) ∧ w' = w := by
  by_cases h0 : 0 ≤ x
  · by_cases h1 : x < (n : Int)
    · have e : decide (0 ≤ x ∧ x < (n : Int)) = true := by simp [h0, h1]
      rw [e]
      clear e
      go_enter Tryz.func114, Tryz.ntmps114
      go_wp2_with fail
      go_ret
      exact ⟨rfl, rfl⟩
    · have e : decide (0 ≤ x ∧ x < (n : Int)) = false := by simp [h1]
      rw [e]
      clear e
      go_enter Tryz.func114, Tryz.ntmps114
      go_wp2_with fail
      go_ret
      exact ⟨rfl, rfl⟩
  · have e : decide (0 ≤ x ∧ x < (n : Int)) = false := by simp [h0]
    rw [e]
    clear e
    go_enter Tryz.func114, Tryz.ntmps114
    go_wp2_with fail
    go_ret
    exact ⟨rfl, rfl⟩
def FDone (w w' : World) (o : Nat → Tg) (b : Nat) (P : MP) (M : Ms) (F : List Fl) : Prop := ∃ o' v, MAt w' o' b { P with fv := v } { M with fl := F } ∧ Ext w o o' ∧ Chg o ftag w w'
/-- behind the append and the store -/
theorem fl_store {w w1 w2 : World} {o : Nat → Tg} {b : Nat} {P : MP} {M : Ms} {X : List (Fl × Value)} {x : Fl × Value} {v' : Value} (h : MAt w o b P M) (hX1 : X.map Prod.fst = M.fl) (hX2 : FRow w P.fv X) (hX3 : ∀ y ∈ X, BodyAt w o y.2 y.1.B ∧ Cap y.2) (hb : Below w.heap.size w w1) (hr : FRow w2 v' (X ++ [x])) (ho : Only P.fv.ownBlock.toList w1 w2) (hv : ∀ k, v'.ownBlock = some k → P.fv.ownBlock = some k ∨ w1.heap.size ≤ k) (hx : BodyAt w o x.2 x.1.B ∧ Cap x.2) :
    w2.cell? ⟨b, 12, none⟩ = some P.fv ∧ w2.frozen? ⟨b, 12, none⟩ = false ∧ FDone w (w2.setCell ⟨b, 12, none⟩ v') o b P M (M.fl ++ [x.1]) := by
  obtain ⟨cs, h1, h2⟩ := h.box
  have hne := hX2.ne h
  have hb2 : w2.heap[b]? = some (.cells cs 96 (0, 0)) := ho.block ((hb.block b (lt_of_block h1)).trans h1) (fun hm => hne b hm rfl)
  have hO : Only (b :: P.fv.ownBlock.toList) w (w2.setCell ⟨b, 12, none⟩ v') := ((Only.of_below hb _).trans (ho.mono (fun k hk => List.mem_cons_of_mem _ hk))).setCell (by simp) _
  have hc : Chg o ftag w (w2.setCell ⟨b, 12, none⟩ v') := by
    refine Chg.of_only hO ?_ ?_
    · intro k hk
      rcases List.mem_cons.1 hk with rfl | hk
      · exact .inl h.tag
      · exact .inr (h.flt k hk)
    · intro k hk
      rcases List.mem_cons.1 hk with rfl | hk
      · exact h.nobB
      · exact hX2.nob k hk
  have hsz : w.heap.size ≤ w2.heap.size := Nat.le_trans hb.size ho.2.2.2.1
  obtain ⟨o', ho'⟩ : ∃ o', grow o w ⟨1000, 4, 0⟩ = o' := ⟨_, rfl⟩
  have he : Ext w o o' := by rw [← ho']; exact grow_ext _ _ _
  have h0 : ∀ g, ftag g → g.n ≠ 0 := fun g hg => by rw [ftag_n hg]; decide
  refine ⟨by simp [World.cell?, hb2, h2.c12], by simp [World.frozen?, hb2], o', v', h.setF hc he ⟨_, heap_setCell_same w2 b 12 cs _ v' hb2, h2.setF v' _⟩ ⟨X ++ [x], by rw [List.map_append, hX1]; rfl, ?_, ?_⟩ ?_, he, hc⟩
  · refine hr.only (Only.setCell (bs := [b]) (Only.refl _ _) (by simp) _) ?_
    intro k hk
    simp only [List.mem_singleton]
    intro e
    subst e
    rcases hv k (by simpa using hk) with e | e
    · exact hne k (by simp [e]) rfl
    · have := lt_of_block h1
      have := hb.size
      omega
  · intro y hy
    rcases List.mem_append.1 hy with hy | hy
    · exact ⟨(hX3 y hy).1.chg hc h0 he, (hX3 y hy).2⟩
    · rw [List.mem_singleton] at hy
      rw [hy]
      exact ⟨hx.1.chg hc h0 he, hx.2⟩
  · intro k hk
    rcases hv k (by simpa using hk) with e | e
    · rw [he k (hX2.lt k (by simp [e]))]
      exact h.flt k (by simp [e])
    · rw [← ho', grow_new (by have := hb.size; omega)]
set_option maxRecDepth 100000 in
theorem add_calls (b : Nat) (o : Nat → Tg) (P : MP) (M : Ms) (f : Fl) (a : Option Addr) (m c : Nat) (w : World) (h : MAt w o b P M) (hb : BodyAt w o (.slice a m c) f.B) (hcp : Cap (.slice a m c)) (hl : M.fl.length ≤ 1000000) :
    Calls Tryz.prog 95 #[.pointer (some ⟨b, 12, none⟩), .agg #[.int .i64 f.fr, .int .i64 f.tw, .slice a m c]] w fun e w' => e = .returned (.tuple #[]) ∧ FDone w w' o b P M (M.fl ++ [f]) := by
  obtain ⟨X, hX1, hX2, hX3⟩ := h.fly
  have hXl : X.length ≤ 1000000 := by rw [← hX1, List.length_map] at hl; exact hl
  obtain ⟨W0, hW0⟩ : ∃ W0, w.alloc (.cells #[.int .i64 f.fr, .int .i64 f.tw, .slice a m c] 167) = W0 := ⟨_, rfl⟩
  have hB0 : Below w.heap.size w W0 := by rw [← hW0]; exact (Below.refl _ _).alloc (Nat.le_refl _) _
  have hbx : W0.heap[w.heap.size]? = some (.cells #[.int .i64 f.fr, .int .i64 f.tw, .slice a m c] 167 (0, 0)) := by rw [← hW0]; exact heap_alloc_new w _
  have y0 : W0.cell? ⟨w.heap.size, 0, none⟩ = some (.int .i64 f.fr) := by simp [World.cell?, hbx]
  have y1 : W0.cell? ⟨w.heap.size, 1, none⟩ = some (.int .i64 f.tw) := by simp [World.cell?, hbx]
  have y2 : W0.cell? ⟨w.heap.size, 2, none⟩ = some (.slice a m c) := by simp [World.cell?, hbx]
  have c12 := (h.below hB0).cells.2.2.2.2
  obtain ⟨fa, fcp, hfv⟩ := hX2.form
  obtain ⟨fn, hfn⟩ : ∃ fn, X.length = fn := ⟨_, rfl⟩
  rw [hfn] at hfv hXl
  have HRow : Hid (FRow (W0.alloc (.cells #[.int .i64 f.fr, .int .i64 f.tw, .slice a m c] 167)).drew (.slice fa fn fcp) X) := by
    rw [← hfv]
    exact hidden (hX2.only (bs := []) (Only.of_below ((hB0.alloc hB0.size _).drew) _) (by simp))
  have HFin : Hid (∀ w2 v', FRow w2 v' (X ++ [(f, .slice a m c)]) → Only (Value.slice fa fn fcp).ownBlock.toList (W0.alloc (.cells #[.int .i64 f.fr, .int .i64 f.tw, .slice a m c] 167)).drew w2 → (∀ k, v'.ownBlock = some k → (Value.slice fa fn fcp).ownBlock = some k ∨ (W0.alloc (.cells #[.int .i64 f.fr, .int .i64 f.tw, .slice a m c] 167)).drew.heap.size ≤ k) → w2.cell? ⟨b, 12, none⟩ = some (.slice fa fn fcp) ∧ w2.frozen? ⟨b, 12, none⟩ = false ∧ FDone w (w2.setCell ⟨b, 12, none⟩ v') o b P M (M.fl ++ [f])) := by
    refine hidden ?_
    intro w2 v' g1 g2 g3
    rw [← hfv] at g2 g3 ⊢
    exact fl_store (x := (f, .slice a m c)) h hX1 hX2 hX3 ((hB0.alloc hB0.size _).drew) g1 g2 g3 ⟨hb, hcp⟩
  rw [hfv] at c12
  have HFl : Hid (X.length ≤ 1000000) := by rw [hfn]; exact hidden hXl
  obtain ⟨fr, hfr⟩ : ∃ z, f.fr = z := ⟨_, rfl⟩
  obtain ⟨tw, htw⟩ : ∃ z, f.tw = z := ⟨_, rfl⟩
  have HY : Hid ((fcs (f, .slice a m c)).toArray = #[.int .i64 fr, .int .i64 tw, .slice a m c]) := by rw [← hfr, ← htw]; rfl
  rw [hfr] at y0
  rw [htw] at y1
  rw [hfr, htw] at HRow HFin hW0 ⊢
  have cgA : (W0.alloc (.cells #[.int .i64 fr, .int .i64 tw, .slice a m c] 167)).cell? ⟨b, 12, none⟩ = some (.slice fa fn fcp) := ext_cell ((Below.refl _ _).alloc (Nat.le_refl _) _) c12
  obtain ⟨nn, hnn⟩ : ∃ nn, X.length + 1 = nn := ⟨_, rfl⟩
  have HNN := hidden hnn
  have HW := hidden hW0
  clear hnn h hb hcp hl hX1 hX2 hX3 hB0 hbx hW0 hfv hfn hfr htw
  go_enter Tryz.func95, Tryz.ntmps95
  go_upto_region 1 with fail
  rw [HW.out]
  go_region_law (refine step_append_fl (by rfl) _ _ (by rfl) (.slice fa fn fcp) X (by rfl) HRow.out W0.heap.size (f, .slice a m c) (by rw [HY.out]; exact heap_alloc_new W0 _) ⟨_, _, _, rfl⟩ (by rfl) HFl.out nn HNN.out ?_; intro va vc w6 g1 g2 g3; obtain ⟨e5, f5, hfin⟩ := HFin.out w6 _ g1 g2 g3; have HF := hidden hfin; clear g1 g2 g3 hfin)
  all_goals
    go_wp2_with fail
    go_end0
    exact ⟨rfl, HF.out⟩
end Go.Proofs.YtpiamlgmadnepaaGreat.MS

