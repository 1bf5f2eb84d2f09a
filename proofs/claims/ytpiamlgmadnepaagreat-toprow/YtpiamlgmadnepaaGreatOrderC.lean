/-
  What take of package order returns, and what it leaves in memory. Its condition: what is kept is such as it may be.
-/
import Derived.Test.YtpiamlgmadnepaaGreatOrderB
namespace Go.Proofs.YtpiamlgmadnepaaGreat.Order
open Go.ChangeShapes Go.WideShapes Go.ChangeAt Go.RowKit Go.Maps Go.Proofs.YtpiamlgmadnepaaGreat.PM Go.Proofs.YtpiamlgmadnepaaGreat.Mem Go.Proofs.YtpiamlgmadnepaaGreat.Pack Go.Proofs.YtpiamlgmadnepaaGreat.OM
set_option linter.unusedVariables false

/-- the item's variable is written whole -/
theorem ibox8 {W : World} {h : Nat} {z0 z1 z2 z3 z4 z5 z6 z7 : Value} (hh : W.heap[h]? = some (.cells #[z0, z1, z2, z3, z4, z5, z6, z7] 82 (0, 0))) (n : Int) (g : Bool) (s t l q : Int) (st : Bool) (bv : Value) :
    IBox ((((((((W.setCell ⟨h, 0, none⟩ (.int .i64 n)).setCell ⟨h, 1, none⟩ (.bool g)).setCell ⟨h, 2, none⟩ (.int .i64 s)).setCell ⟨h, 3, none⟩ (.int .i64 t)).setCell ⟨h, 4, none⟩ (.int .i64 l)).setCell ⟨h, 5, none⟩ (.int .i64 q)).setCell ⟨h, 6, none⟩ (.bool st)).setCell ⟨h, 7, none⟩ bv) h n g s t l q st bv := by
  have h0 : (W.setCell ⟨h, 0, none⟩ (.int .i64 n)).heap[h]? = some (.cells #[.int .i64 n, z1, z2, z3, z4, z5, z6, z7] 82 (0, 0)) := heap_setCell_same _ _ 0 _ _ (.int .i64 n) hh
  have h1 : ((W.setCell ⟨h, 0, none⟩ (.int .i64 n)).setCell ⟨h, 1, none⟩ (.bool g)).heap[h]? = some (.cells #[.int .i64 n, .bool g, z2, z3, z4, z5, z6, z7] 82 (0, 0)) := heap_setCell_same _ _ 1 _ _ (.bool g) h0
  have h2 : (((W.setCell ⟨h, 0, none⟩ (.int .i64 n)).setCell ⟨h, 1, none⟩ (.bool g)).setCell ⟨h, 2, none⟩ (.int .i64 s)).heap[h]? = some (.cells #[.int .i64 n, .bool g, .int .i64 s, z3, z4, z5, z6, z7] 82 (0, 0)) := heap_setCell_same _ _ 2 _ _ (.int .i64 s) h1
  have h3 : ((((W.setCell ⟨h, 0, none⟩ (.int .i64 n)).setCell ⟨h, 1, none⟩ (.bool g)).setCell ⟨h, 2, none⟩ (.int .i64 s)).setCell ⟨h, 3, none⟩ (.int .i64 t)).heap[h]? = some (.cells #[.int .i64 n, .bool g, .int .i64 s, .int .i64 t, z4, z5, z6, z7] 82 (0, 0)) := heap_setCell_same _ _ 3 _ _ (.int .i64 t) h2
  have h4 : (((((W.setCell ⟨h, 0, none⟩ (.int .i64 n)).setCell ⟨h, 1, none⟩ (.bool g)).setCell ⟨h, 2, none⟩ (.int .i64 s)).setCell ⟨h, 3, none⟩ (.int .i64 t)).setCell ⟨h, 4, none⟩ (.int .i64 l)).heap[h]? = some (.cells #[.int .i64 n, .bool g, .int .i64 s, .int .i64 t, .int .i64 l, z5, z6, z7] 82 (0, 0)) := heap_setCell_same _ _ 4 _ _ (.int .i64 l) h3
  have h5 : ((((((W.setCell ⟨h, 0, none⟩ (.int .i64 n)).setCell ⟨h, 1, none⟩ (.bool g)).setCell ⟨h, 2, none⟩ (.int .i64 s)).setCell ⟨h, 3, none⟩ (.int .i64 t)).setCell ⟨h, 4, none⟩ (.int .i64 l)).setCell ⟨h, 5, none⟩ (.int .i64 q)).heap[h]? = some (.cells #[.int .i64 n, .bool g, .int .i64 s, .int .i64 t, .int .i64 l, .int .i64 q, z6, z7] 82 (0, 0)) := heap_setCell_same _ _ 5 _ _ (.int .i64 q) h4
  have h6 : (((((((W.setCell ⟨h, 0, none⟩ (.int .i64 n)).setCell ⟨h, 1, none⟩ (.bool g)).setCell ⟨h, 2, none⟩ (.int .i64 s)).setCell ⟨h, 3, none⟩ (.int .i64 t)).setCell ⟨h, 4, none⟩ (.int .i64 l)).setCell ⟨h, 5, none⟩ (.int .i64 q)).setCell ⟨h, 6, none⟩ (.bool st)).heap[h]? = some (.cells #[.int .i64 n, .bool g, .int .i64 s, .int .i64 t, .int .i64 l, .int .i64 q, .bool st, z7] 82 (0, 0)) := heap_setCell_same _ _ 6 _ _ (.bool st) h5
  have h7 : ((((((((W.setCell ⟨h, 0, none⟩ (.int .i64 n)).setCell ⟨h, 1, none⟩ (.bool g)).setCell ⟨h, 2, none⟩ (.int .i64 s)).setCell ⟨h, 3, none⟩ (.int .i64 t)).setCell ⟨h, 4, none⟩ (.int .i64 l)).setCell ⟨h, 5, none⟩ (.int .i64 q)).setCell ⟨h, 6, none⟩ (.bool st)).setCell ⟨h, 7, none⟩ bv).heap[h]? = some (.cells #[.int .i64 n, .bool g, .int .i64 s, .int .i64 t, .int .i64 l, .int .i64 q, .bool st, bv] 82 (0, 0)) := heap_setCell_same _ _ 7 _ _ bv h6
  exact h7
theorem IBox.drew {w : World} {h : Nat} {n : Int} {g : Bool} {s t l q : Int} {st : Bool} {bv : Value} (hx : IBox w h n g s t l q st bv) : IBox w.drew h n g s t l q st bv := hx
theorem only8 {w W : World} {bs : List Nat} {g : Nat} (h : Only bs w W) (hg : g ∈ bs) (v0 v1 v2 v3 v4 v5 v6 v7 : Value) :
    Only bs w ((((((((W.setCell ⟨g, 0, none⟩ v0).setCell ⟨g, 1, none⟩ v1).setCell ⟨g, 2, none⟩ v2).setCell ⟨g, 3, none⟩ v3).setCell ⟨g, 4, none⟩ v4).setCell ⟨g, 5, none⟩ v5).setCell ⟨g, 6, none⟩ v6).setCell ⟨g, 7, none⟩ v7) := by
  iterate 8 refine Only.setCell ?_ hg _
  exact h
theorem look_has {w : World} {b mb : Nat} {wt nw nx : Int} {M : Its} (h : OrderAt w b mb wt nw nx M) {i : Kp} (hi : i ∈ M) (hw : (Lit.int .i64 i.n).wf = true) :
    (Instr.lookup 124 (.map (some mb)) (.int .i64 i.n) false).run Tryz.prog w = .ok (lv i) w := by
  obtain ⟨D, hown, hK, hE⟩ := h.map
  obtain ⟨v', ps, hrun, hr⟩ := hown.lookup law3 Tryz.underlying124 (zeroWT w) (wtR_mk 0 false 0 0 0 0 false none 0 0 0) (keyOf3 hw)
  rw [hE i hi] at hr
  have e := (wtR_inv hr).2
  simp only [Prod.mk.injEq, DataW.held.injEq] at e
  rw [← e.1] at hrun
  exact hrun

theorem field_wt (w : World) (n : Int) (g : Bool) (s t l q : Int) (st : Bool) (a : Option Addr) (m c : Nat) (z : Int) :
    (Instr.field 188 (.agg #[.int .i64 n, .bool g, .int .i64 s, .int .i64 t, .int .i64 l, .int .i64 q, .bool st, .slice a m c, .int .i64 z]) 0).run Tryz.prog w = .ok (.agg #[.int .i64 n, .bool g, .int .i64 s, .int .i64 t, .int .i64 l, .int .i64 q, .bool st, .slice a m c]) w := by
  kernel_rfl
theorem ibox_map {w : World} {h b mb : Nat} {n : Int} {g : Bool} {s t l q : Int} {st : Bool} {bv : Value} {wt nw nx : Int} {M : Its} (hx : IBox w h n g s t l q st bv) (ho : OrderAt w b mb wt nw nx M) : ¬ h = mb := by
  obtain ⟨D, h2, _⟩ := ho.map
  obtain ⟨es, c, h3⟩ := map_block h2
  intro e
  rw [IBox, e, h3] at hx
  simp at hx

set_option maxHeartbeats 2000000 in
set_option maxRecDepth 100000 in
theorem take_gone (b mb : Nat) (wt nw nx : Int) (M : Its) (w : World) (h : OrderAt w b mb wt nw nx M) (h1 : Apart M) (h0 : -1 ≤ nx) (h2 : nx ≤ 1099511627777) (hh : has M nx = false) :
    Calls Tryz.prog 78 #[.pointer (some ⟨b, 0, none⟩)] w fun e w' => e = .returned (.agg #[.int .i64 nx, .bool true, .int .i64 0, .int .i64 0, .int .i64 0, .int .i64 0, .bool false, .slice none 0 0]) ∧ OrderAt w' b mb wt nw (nx + 1) (M.filter fun i => decide (i.n ≠ nx)) ∧ Only [b, mb] w w' := by
  obtain ⟨M2, hM2⟩ : ∃ M2 : Its, (M.filter fun i => decide (i.n ≠ nx)) = M2 := ⟨_, rfl⟩
  rw [hM2]
  have hwf := wf_of (y := nx) (by omega) (by omega)
  have HH : Hid (∀ W, OrderAt W b mb wt nw nx M → Calls Tryz.prog 77 #[.pointer (some ⟨b, 0, none⟩), .int .i64 nx] W fun e w' => e = .returned (.bool false) ∧ Below W.heap.size W w') := by
    refine hidden (fun W hW => (has_calls b mb wt nw nx nx M W hW hwf).mono ?_)
    rintro e w' ⟨rfl, hb⟩
    exact ⟨by rw [hh], hb⟩
  have HD : Hid (∀ W, OrderAt W b mb wt nw nx M → ∀ ty, ∃ w2, (Builtin.delete_ #[124, 3] ty #[.map (some mb), .int .i64 nx]).run Tryz.prog W = .ok (.tuple #[]) w2 ∧ OrderAt w2 b mb wt nw nx M2 ∧ Only [mb] W w2) := by
    refine hidden (fun W hW ty => ?_)
    obtain ⟨D, hown, hK, hE⟩ := hW.map
    obtain ⟨w2, hrun, hown2, hturn⟩ := hown.drop law3 Tryz.underlying124 (keyOf3 hwf) ty
    have ho : Only [mb] W w2 := (Only.refl [mb] _).grown hturn.grown (by simp)
    exact ⟨w2, hrun, by rw [← hM2]; exact del_any hW hK hE h1 hown2 ho, ho⟩
  have HO := hidden h
  have HA := hidden (fun O => h.alloc O)
  have c2 := fun O => (HA.out O).cells.2.2.1
  clear h hh hM2
  go_enter Tryz.func78, Tryz.ntmps78
  go_wp2_with fail
  refine (gone_calls nx _).mono ?_
  rintro e w1 ⟨rfl, hb1⟩
  have hB1 := below_old hb1
  have hR1 := (IBox.new w 0 false 0 0 0 0 false (.slice none 0 0)).below hb1 (by simp)
  have HO1 := hidden (HO.out.below hB1)
  have HB1 := hidden hB1
  have HR1 := hidden hR1
  have k2 := fun O => (HO1.out.alloc O).cells.2.2.1
  clear hB1 hR1 hb1 c2 HA
  go_wp2_with fail
  refine (HH.out _ (HO1.out.alloc _)).mono ?_
  rintro e w2 ⟨rfl, hb2⟩
  have HO2 := hidden ((HO1.out.alloc (.cells #[.int .i64 nx, .bool true, .int .i64 0, .int .i64 0, .int .i64 0, .int .i64 0, .bool false, .slice none 0 0] 82)).below hb2)
  have HB2 := hidden ((HB1.out.alloc HB1.out.size (.cells #[.int .i64 nx, .bool true, .int .i64 0, .int .i64 0, .int .i64 0, .int .i64 0, .bool false, .slice none 0 0] 82)).trans (hb2.mono (by have := HB1.out.size; simp; omega)))
  have HX2 := hidden ((IBox.new w1 nx true 0 0 0 0 false (.slice none 0 0)).below hb2 (by simp))
  have HR2 := hidden ((HR1.out.alloc (.cells #[.int .i64 nx, .bool true, .int .i64 0, .int .i64 0, .int .i64 0, .int .i64 0, .bool false, .slice none 0 0] 82)).below hb2 (by have := HR1.out.lt; simp; omega))
  have hs1 : w.heap.size < w1.heap.size := HR1.out.lt
  clear hb2 k2 HO1 HB1 HR1
  obtain ⟨c0, c1, c2, c3⟩ := HO2.out.cells
  have HO3 : Hid (OrderAt w2.drew b mb wt nw nx M) := HO2.out.below ((Below.refl _ _).drew)
  obtain ⟨w3, hdel, hO4, hon4⟩ := HD.out _ HO3.out 0
  have HO4 := hidden hO4
  have HN4 := hidden hon4
  clear hO4 hon4 HO3
  have hX3 : IBox w3 w1.heap.size nx true 0 0 0 0 false (.slice none 0 0) := HN4.out.block HX2.out (by simp; exact ibox_map HX2.out HO2.out)
  have hR3 : IBox w3 w.heap.size 0 false 0 0 0 0 false (.slice none 0 0) := HN4.out.block HR2.out (by simp; exact ibox_map HR2.out HO2.out)
  have HX3 := hidden hX3
  have HR3 := hidden hR3
  obtain ⟨x0, x1, x2, x3, x4, x5, x6, x7⟩ := hX3.cells
  obtain ⟨r0, r1, r2, r3, r4, r5, r6, r7⟩ := hR3.cells
  have f0 := hR3.free 0
  have f1 := hR3.free 1
  have f2 := hR3.free 2
  have f3 := hR3.free 3
  have f4 := hR3.free 4
  have f5 := hR3.free 5
  have f6 := hR3.free 6
  have f7 := hR3.free 7
  obtain ⟨e0, e1, e2, e3⟩ := HO4.out.cells
  have fb := freeb HO4.out.box 2
  have hbl := HO.out.lt.1
  have HF : Hid (OrderAt (w3.setCell ⟨b, 2, none⟩ (.int .i64 (nx + 1))) b mb wt nw (nx + 1) M2) := HO4.out.set 2 _ rfl
  clear hX3 hR3 c0 c1 e0 e1 e3
  go_wp2_with fail
  go_region
  all_goals go_wp2_with fail
  have ho := only8 (g := w.heap.size) (Only.refl [w.heap.size] (w3.setCell ⟨b, 2, none⟩ (.int .i64 (nx + 1)))) (by simp) (.int .i64 nx) (.bool true) (.int .i64 0) (.int .i64 0) (.int .i64 0) (.int .i64 0) (.bool false) (.slice none 0 0)
  have hb := ibox8 (h := w.heap.size) ((Below.heap_setCell w3 ⟨b, 2, none⟩ (.int .i64 (nx + 1)) w.heap.size (by simp; omega)).trans HR3.out) nx true 0 0 0 0 false (.slice none 0 0)
  refine bodyPost_ret (res_it (g := w.heap.size) rfl rfl hb) rfl ?_
  have hsz := HO.out.lt
  refine ⟨rfl, HF.out.only ho (by simp; omega) (by simp; omega) ?_, past (((Only.of_below HB2.out _).trans ((HN4.out.mono (by simp)))).setCell (by simp) _) ho (by simp)⟩
  intro k hk cs fr e
  simp at hk
  subst hk
  rw [Below.heap_setCell w3 ⟨b, 2, none⟩ (.int .i64 (nx + 1)) w.heap.size (by simp; omega), HR3.out] at e
  simp at e
set_option maxHeartbeats 2000000 in
set_option maxRecDepth 100000 in
theorem take_has (b mb : Nat) (wt nw nx : Int) (M : Its) (w : World) (h : OrderAt w b mb wt nw nx M) (h1 : Apart M) (h0 : -1 ≤ nx) (h2 : nx ≤ 1099511627777) (i : Kp) (hi : i ∈ M) (hin : i.n = nx) (g : Bool) (s t l q : Int) (st : Bool) (a : Option Addr) (m c : Nat) (hlv : lv i = .agg #[.int .i64 nx, .bool g, .int .i64 s, .int .i64 t, .int .i64 l, .int .i64 q, .bool st, .slice a m c, .int .i64 i.a]) :
    Calls Tryz.prog 78 #[.pointer (some ⟨b, 0, none⟩)] w fun e w' => e = .returned (.agg #[.int .i64 nx, .bool g, .int .i64 s, .int .i64 t, .int .i64 l, .int .i64 q, .bool st, .slice a m c]) ∧ OrderAt w' b mb wt nw (nx + 1) (M.filter fun i => decide (i.n ≠ nx)) ∧ Only [b, mb] w w' := by
  obtain ⟨M2, hM2⟩ : ∃ M2 : Its, (M.filter fun i => decide (i.n ≠ nx)) = M2 := ⟨_, rfl⟩
  rw [hM2]
  have hwf := wf_of (y := nx) (by omega) (by omega)
  have hh : has M nx = true := has_iff.2 ⟨i, hi, hin⟩
  have HLk : Hid (∀ W, OrderAt W b mb wt nw nx M → (Instr.lookup 124 (.map (some mb)) (.int .i64 nx) false).run Tryz.prog W = .ok (.agg #[.int .i64 nx, .bool g, .int .i64 s, .int .i64 t, .int .i64 l, .int .i64 q, .bool st, .slice a m c, .int .i64 i.a]) W) := by
    refine hidden (fun W hW => ?_)
    have := look_has hW hi (by rw [hin]; exact hwf)
    rw [hin, hlv] at this
    exact this
  have HH : Hid (∀ W, OrderAt W b mb wt nw nx M → Calls Tryz.prog 77 #[.pointer (some ⟨b, 0, none⟩), .int .i64 nx] W fun e w' => e = .returned (.bool true) ∧ Below W.heap.size W w') := by
    refine hidden (fun W hW => (has_calls b mb wt nw nx nx M W hW hwf).mono ?_)
    rintro e w' ⟨rfl, hb⟩
    exact ⟨by rw [hh], hb⟩
  have HD : Hid (∀ W, OrderAt W b mb wt nw nx M → ∀ ty, ∃ w2, (Builtin.delete_ #[124, 3] ty #[.map (some mb), .int .i64 nx]).run Tryz.prog W = .ok (.tuple #[]) w2 ∧ OrderAt w2 b mb wt nw nx M2 ∧ Only [mb] W w2) := by
    refine hidden (fun W hW ty => ?_)
    obtain ⟨D, hown, hK, hE⟩ := hW.map
    obtain ⟨w2, hrun, hown2, hturn⟩ := hown.drop law3 Tryz.underlying124 (keyOf3 hwf) ty
    have ho : Only [mb] W w2 := (Only.refl [mb] _).grown hturn.grown (by simp)
    exact ⟨w2, hrun, by rw [← hM2]; exact del_any hW hK hE h1 hown2 ho, ho⟩
  have HO := hidden h
  have HA := hidden (fun O => h.alloc O)
  have c2 := fun O => (HA.out O).cells.2.2.1
  generalize i.a = ia at *
  clear h hh hM2 hi hin hlv
  go_enter Tryz.func78, Tryz.ntmps78
  go_wp2_with fail
  refine (gone_calls nx _).mono ?_
  rintro e w1 ⟨rfl, hb1⟩
  have hB1 := below_old hb1
  have hR1 := (IBox.new w 0 false 0 0 0 0 false (.slice none 0 0)).below hb1 (by simp)
  have HO1 := hidden (HO.out.below hB1)
  have HB1 := hidden hB1
  have HR1 := hidden hR1
  have k2 := fun O => (HO1.out.alloc O).cells.2.2.1
  clear hB1 hR1 hb1 c2 HA
  go_wp2_with fail
  refine (HH.out _ (HO1.out.alloc _)).mono ?_
  rintro e w2 ⟨rfl, hb2⟩
  have HO2 := hidden ((HO1.out.alloc (.cells #[.int .i64 nx, .bool true, .int .i64 0, .int .i64 0, .int .i64 0, .int .i64 0, .bool false, .slice none 0 0] 82)).below hb2)
  have HB2 := hidden ((HB1.out.alloc HB1.out.size (.cells #[.int .i64 nx, .bool true, .int .i64 0, .int .i64 0, .int .i64 0, .int .i64 0, .bool false, .slice none 0 0] 82)).trans (hb2.mono (by have := HB1.out.size; simp; omega)))
  have HX2 := hidden ((IBox.new w1 nx true 0 0 0 0 false (.slice none 0 0)).below hb2 (by simp))
  have HR2 := hidden ((HR1.out.alloc (.cells #[.int .i64 nx, .bool true, .int .i64 0, .int .i64 0, .int .i64 0, .int .i64 0, .bool false, .slice none 0 0] 82)).below hb2 (by have := HR1.out.lt; simp; omega))
  have hs1 : w.heap.size < w1.heap.size := HR1.out.lt
  clear hb2 k2 HO1 HB1 HR1
  obtain ⟨c0, c1, c2, c3⟩ := HO2.out.cells
  have HO3 : Hid (OrderAt w2.drew b mb wt nw nx M) := HO2.out.below ((Below.refl _ _).drew)
  have hlk := HLk.out _ HO3.out
  have hfd := field_wt w2.drew nx g s t l q st a m c ia
  obtain ⟨x0, x1, x2, x3, x4, x5, x6, x7⟩ := HX2.out.cells
  have f0 := HX2.out.free 0
  have f1 := HX2.out.free 1
  have f2 := HX2.out.free 2
  have f3 := HX2.out.free 3
  have f4 := HX2.out.free 4
  have f5 := HX2.out.free 5
  have f6 := HX2.out.free 6
  have f7 := HX2.out.free 7
  go_wp2_with fail
  go_region
  all_goals go_wp2_with fail
  obtain ⟨w5, hw5⟩ : ∃ w5, ((((((((w2.setCell ⟨w1.heap.size, 0, none⟩ (.int .i64 nx)).setCell ⟨w1.heap.size, 1, none⟩ (.bool g)).setCell ⟨w1.heap.size, 2, none⟩ (.int .i64 s)).setCell ⟨w1.heap.size, 3, none⟩ (.int .i64 t)).setCell ⟨w1.heap.size, 4, none⟩ (.int .i64 l)).setCell ⟨w1.heap.size, 5, none⟩ (.int .i64 q)).setCell ⟨w1.heap.size, 6, none⟩ (.bool st)).setCell ⟨w1.heap.size, 7, none⟩ (.slice a m c)).drew = w5 := ⟨_, rfl⟩
  rw [hw5]
  have hon5 : Only [w1.heap.size] w2 w5 := by rw [← hw5]; exact (only8 (g := w1.heap.size) (Only.refl [w1.heap.size] w2) (by simp) _ _ _ _ _ _ _ _).drew
  have hX5 : IBox w5 w1.heap.size nx g s t l q st (.slice a m c) := by rw [← hw5]; exact (ibox8 (W := w2) HX2.out nx g s t l q st (.slice a m c)).drew
  have hbl0 := HO.out.lt
  have hO5 : OrderAt w5 b mb wt nw nx M := by
    refine HO2.out.only hon5 (by simp; omega) (by simp; omega) ?_
    intro k hk cs fr e
    simp at hk
    subst hk
    rw [HX2.out] at e
    simp at e
  have hR5 : IBox w5 w.heap.size 0 false 0 0 0 0 false (.slice none 0 0) := hon5.block HR2.out (by simp; omega)
  have hB5 : Below w.heap.size w w5 := HB2.out.trans (hon5.below (B := w.heap.size) HB2.out.size (by simp; omega))
  have HX5 := hidden hX5
  have HO5 := hidden hO5
  have HR5 := hidden hR5
  have HB5 := hidden hB5
  clear hw5 hon5 hX5 hO5 hR5 hB5 hlk hfd x0 x1 x2 x3 x4 x5 x6 x7 f0 f1 f2 f3 f4 f5 f6 f7 c0 c1 c2 c3 HO3 HX2 HR2 HO2 HB2 hbl0
  obtain ⟨c0, c1, c2, c3⟩ := HO5.out.cells
  have HO3 : Hid (OrderAt w5.drew b mb wt nw nx M) := HO5.out.below ((Below.refl _ _).drew)
  obtain ⟨w3, hdel, hO4, hon4⟩ := HD.out _ HO3.out 0
  have HO4 := hidden hO4
  have HN4 := hidden hon4
  clear hO4 hon4 HO3
  have hX3 : IBox w3 w1.heap.size nx g s t l q st (.slice a m c) := HN4.out.block HX5.out (by simp; exact ibox_map HX5.out HO5.out)
  have hR3 : IBox w3 w.heap.size 0 false 0 0 0 0 false (.slice none 0 0) := HN4.out.block HR5.out (by simp; exact ibox_map HR5.out HO5.out)
  have HX3 := hidden hX3
  have HR3 := hidden hR3
  obtain ⟨x0, x1, x2, x3, x4, x5, x6, x7⟩ := hX3.cells
  obtain ⟨r0, r1, r2, r3, r4, r5, r6, r7⟩ := hR3.cells
  have f0 := hR3.free 0
  have f1 := hR3.free 1
  have f2 := hR3.free 2
  have f3 := hR3.free 3
  have f4 := hR3.free 4
  have f5 := hR3.free 5
  have f6 := hR3.free 6
  have f7 := hR3.free 7
  obtain ⟨e0, e1, e2, e3⟩ := HO4.out.cells
  have fb := freeb HO4.out.box 2
  have hbl := HO.out.lt.1
  have HF : Hid (OrderAt (w3.setCell ⟨b, 2, none⟩ (.int .i64 (nx + 1))) b mb wt nw (nx + 1) M2) := HO4.out.set 2 _ rfl
  clear hX3 hR3 c0 c1 e0 e1 e3
  go_wp2_with fail
  go_region
  all_goals go_wp2_with fail
  have ho := only8 (g := w.heap.size) (Only.refl [w.heap.size] (w3.setCell ⟨b, 2, none⟩ (.int .i64 (nx + 1)))) (by simp) (.int .i64 nx) (.bool g) (.int .i64 s) (.int .i64 t) (.int .i64 l) (.int .i64 q) (.bool st) (.slice a m c)
  have hb := ibox8 (h := w.heap.size) ((Below.heap_setCell w3 ⟨b, 2, none⟩ (.int .i64 (nx + 1)) w.heap.size (by simp; omega)).trans HR3.out) nx g s t l q st (.slice a m c)
  refine bodyPost_ret (res_it (g := w.heap.size) rfl rfl hb) rfl ?_
  have hsz := HO.out.lt
  refine ⟨rfl, HF.out.only ho (by simp; omega) (by simp; omega) ?_, past (((Only.of_below HB5.out _).trans ((HN4.out.mono (by simp)))).setCell (by simp) _) ho (by simp)⟩
  intro k hk cs fr e
  simp at hk
  subst hk
  rw [Below.heap_setCell w3 ⟨b, 2, none⟩ (.int .i64 (nx + 1)) w.heap.size (by simp; omega), HR3.out] at e
  simp at e
end Go.Proofs.YtpiamlgmadnepaaGreat.Order

