/-
  What take and double of what flies return, and what they leave in memory. Their condition: the lofts are such as they may be.
-/
import Derived.Test.YtpiamlgmadnepaaGreatMeshG
namespace Go.Proofs.YtpiamlgmadnepaaGreat.MS
open Go.ChangeShapes Go.WideShapes Go.ChangeAt Go.RowKit Go.Maps Go.Proofs.YtpiamlgmadnepaaGreat.Mem Go.Proofs.YtpiamlgmadnepaaGreat.NO Go.Proofs.YtpiamlgmadnepaaGreat.ND
set_option linter.unusedVariables false

def FBox (w : World) (g : Nat) (fr tw : Int) (v : Value) : Prop := w.heap[g]? = some (.cells #[.int .i64 fr, .int .i64 tw, v] 167 (0, 0))
theorem FBox.cells {w : World} {g : Nat} {fr tw : Int} {v : Value} (h : FBox w g fr tw v) : w.cell? ⟨g, 0, none⟩ = some (.int .i64 fr) ∧ w.cell? ⟨g, 1, none⟩ = some (.int .i64 tw) ∧ w.cell? ⟨g, 2, none⟩ = some v := by
  unfold FBox at h
  simp [World.cell?, h]
theorem FBox.free {w : World} {g : Nat} {fr tw : Int} {v : Value} (h : FBox w g fr tw v) (j : Nat) : w.frozen? ⟨g, j, none⟩ = false := by
  unfold FBox at h
  simp [World.frozen?, h]
theorem FBox.put {w : World} {g : Nat} {fr tw : Int} {v : Value} (h : FBox w g fr tw v) (fr' tw' : Int) (v' : Value) : FBox (((w.setCell ⟨g, 0, none⟩ (.int .i64 fr')).setCell ⟨g, 1, none⟩ (.int .i64 tw')).setCell ⟨g, 2, none⟩ v') g fr' tw' v' := by
  have h0 := heap_setCell_same _ _ 0 _ _ (.int .i64 fr') h
  have h1 := heap_setCell_same _ _ 1 _ _ (.int .i64 tw') h0
  exact heap_setCell_same _ _ 2 _ _ v' h1
theorem res_fl {fn : Func} {tmps : Array Value} {w : World} {g i j : Nat} {fr tw : Int} {v : Value} (hf : fn.results = #[.cell i 167, .tmp j]) (hi : tmps.getD i undef = .pointer (some ⟨g, 0, none⟩)) (hb : FBox w g fr tw v) (hs : ∃ a n c, v = .slice a n c) :
    (results fn tmps).run Tryz.prog w = .ok (.tuple #[.agg #[.int .i64 fr, .int .i64 tw, v], tmps.getD j undef]) w := by
  obtain ⟨c0, c1, c2⟩ := hb.cells
  obtain ⟨a, n, c, rfl⟩ := hs
  have hi' : tmps[i]?.getD undef = .pointer (some ⟨g, 0, none⟩) := by simpa using hi
  simp [results, hf, hi', go_sem, c0, c1, c2]
/-- what flew as the i-th flies no more -/
def Taken (w w' : World) (o : Nat → Tg) (b : Nat) (P : MP) (M : Ms) (i : Nat) (f : Fl) (bv : Value) : Prop := ∃ o' v, MAt w' o' b { P with fv := v } { M with fl := M.fl.eraseIdx i } ∧ BodyAt w' o' bv f.B ∧ Cap bv ∧ Ext w o o' ∧ Chg o ftag w w'
theorem fl_taken {w w5 : World} {o : Nat → Tg} {b n0 : Nat} {P : MP} {M : Ms} {X : List (Fl × Value)} {i : Nat} {x : Fl × Value} {v' : Value} (h : MAt w o b P M) (hX1 : X.map Prod.fst = M.fl) (hX2 : FRow w P.fv X) (hX3 : ∀ y ∈ X, BodyAt w o y.2 y.1.B ∧ Cap y.2) (hx : X[i]? = some x) (hn0 : w.heap.size ≤ n0) (ho : Only (b :: n0 :: P.fv.ownBlock.toList) w w5)
    (hb : ∃ cs, w.heap[b]? = some (.cells cs 96 (0, 0)) ∧ w5.heap[b]? = some (.cells (cs.setIfInBounds 12 v') 96 (0, 0))) (hr : FRow w5 v' (X.eraseIdx i)) (hv : v'.ownBlock = P.fv.ownBlock) : Taken w w5 o b P M i x.1 x.2 := by
  have hm : x ∈ X := List.mem_of_getElem? hx
  have hO : Only (b :: P.fv.ownBlock.toList) w w5 := only_old ho (by
    intro k hk hl
    rcases List.mem_cons.1 hk with rfl | hk
    · simp
    · rcases List.mem_cons.1 hk with rfl | hk
      · omega
      · simp [hk])
  have hc : Chg o ftag w w5 := by
    refine Chg.of_only hO ?_ ?_
    · intro k hk
      rcases List.mem_cons.1 hk with rfl | hk
      · exact .inl h.tag
      · exact .inr (h.flt k hk)
    · intro k hk
      rcases List.mem_cons.1 hk with rfl | hk
      · exact h.nobB
      · exact hX2.nob k hk
  have he := Ext.refl w o
  have h0 : ∀ g, ftag g → g.n ≠ 0 := fun g hg => by rw [ftag_n hg]; decide
  obtain ⟨cs, b1, b2⟩ := hb
  obtain ⟨cs', b3, b4⟩ := h.box
  rw [b1] at b3
  cases b3
  refine ⟨o, v', h.setF hc he ⟨_, b2, b4.setF v' _⟩ ⟨X.eraseIdx i, ?_, hr, fun y hy => ?_⟩ (by rw [hv]; exact h.flt), (hX3 x hm).1.chg hc h0 he, (hX3 x hm).2, he, hc⟩
  · rw [← hX1, List.eraseIdx_eq_take_drop_succ, List.eraseIdx_eq_take_drop_succ, List.map_append, List.map_take, List.map_drop]
  · have hy' := List.mem_of_mem_eraseIdx hy
    exact ⟨(hX3 y hy').1.chg hc h0 he, (hX3 y hy').2⟩
set_option maxRecDepth 100000 in
theorem take_no (b : Nat) (o : Nat → Tg) (P : MP) (M : Ms) (i : Int) (w : World) (h : MAt w o b P M) (hi : i < 0 ∨ (M.fl.length : Int) ≤ i) :
    Calls Tryz.prog 88 #[.pointer (some ⟨b, 12, none⟩), .int .i64 i] w fun e w' => e = .returned (.tuple #[.agg #[.int .i64 0, .int .i64 0, .slice none 0 0], errv 1]) ∧ Below w.heap.size w w' := by
  obtain ⟨X, hX1, hX2, hX3⟩ := h.fly
  have hXl : X.length = M.fl.length := by rw [← hX1, List.length_map]
  obtain ⟨fa, fcp, hfv⟩ := hX2.form
  obtain ⟨W0, hW0⟩ : ∃ W0, w.alloc (.cells #[.int .i64 0, .int .i64 0, .slice none 0 0] 167) = W0 := ⟨_, rfl⟩
  have hB0 : Below w.heap.size w W0 := by rw [← hW0]; exact (Below.refl _ _).alloc (Nat.le_refl _) _
  have HB : Hid (FBox W0 w.heap.size 0 0 (.slice none 0 0)) := by rw [← hW0]; exact hidden (heap_alloc_new w _)
  have c12 := (h.below hB0).cells.2.2.2.2
  rw [hfv] at c12
  obtain ⟨fn, hfn⟩ : ∃ fn, X.length = fn := ⟨_, rfl⟩
  rw [hfn] at c12 hXl
  have hmax : fn ≤ 9223372036854775807 := by
    rcases hX2 with ⟨_, e⟩ | ⟨g, off, cap, cur, _, _, g1, g2, _⟩
    · rw [e] at hfn; simp at hfn; omega
    · unfold maxLen at g2; omega
  have CH := hidden (has_calls fa fn fcp i W0 hmax)
  rw [show decide (0 ≤ i ∧ i < (fn : Int)) = false by simp; omega] at CH
  obtain ⟨d0, d1, d2⟩ := HB.out.cells
  have f0 := HB.out.free 0
  have f1 := HB.out.free 1
  have f2 := HB.out.free 2
  have HBl := hidden hB0
  have HW := hidden hW0
  clear h hX1 hX2 hX3 hfv hfn hi hW0 hB0 hXl
  go_enter Tryz.func88, Tryz.ntmps88
  go_upto_region 1 with fail
  rw [HW.out]
  go_wp2_with fail
  refine CH.out.mono ?_
  rintro e w1 ⟨rfl, hw1⟩
  obtain rfl : W0 = w1 := hw1.symm
  go_wp2_with fail
  refine bodyPost_ret (res_fl (g := w.heap.size) rfl rfl (HB.out.put 0 0 (.slice none 0 0)) ⟨_, _, _, rfl⟩) rfl ?_
  exact ⟨rfl, ((HBl.out.setCell (Nat.le_refl _) _).setCell (Nat.le_refl _) _).setCell (Nat.le_refl _) _⟩
theorem fl_max {w : World} {v : Value} {X : List (Fl × Value)} (h : FRow w v X) : X.length ≤ 9223372036854775807 := by
  rcases h with ⟨_, e⟩ | ⟨g, off, cap, cur, _, _, g1, g2, _⟩
  · rw [e]; simp
  · unfold maxLen at g2; omega
set_option maxHeartbeats 4000000 in
set_option maxRecDepth 100000 in
theorem take_calls (b : Nat) (o : Nat → Tg) (P : MP) (M : Ms) (i : Nat) (f : Fl) (w : World) (h : MAt w o b P M) (hf : M.fl[i]? = some f) :
    Calls Tryz.prog 88 #[.pointer (some ⟨b, 12, none⟩), .int .i64 (i : Int)] w fun e w' => ∃ a m c, e = .returned (.tuple #[.agg #[.int .i64 f.fr, .int .i64 f.tw, .slice a m c], .nilIface]) ∧ Taken w w' o b P M i f (.slice a m c) := by
  obtain ⟨X, hX1, hX2, hX3⟩ := h.fly
  have hXl : X.length = M.fl.length := by rw [← hX1, List.length_map]
  have hiM : i < M.fl.length := (List.getElem?_eq_some_iff.1 hf).1
  have hiX : i < X.length := by omega
  obtain ⟨x, hx⟩ : ∃ x, X[i]? = some x := ⟨_, List.getElem?_eq_getElem hiX⟩
  have hxf : x.1 = f := by
    have : (X.map Prod.fst)[i]? = some x.1 := by rw [List.getElem?_map, hx]; rfl
    rw [hX1, hf] at this
    exact (Option.some.inj this).symm
  have hxs : ∃ a m c, x.2 = .slice a m c := by
    obtain ⟨a, m, c, e, _⟩ := (hX3 x (List.mem_of_getElem? hx)).1
    exact ⟨a, m, c, e⟩
  obtain ⟨a, m, c, hxv⟩ := hxs
  have hX2' := hX2
  rcases hX2' with ⟨_, e⟩ | ⟨g, off, cap, cur, hfv, hg, h1, h2, h3, h4⟩
  · rw [e] at hiX; simp at hiX
  have hmax := fl_max hX2
  obtain ⟨fn, hfn⟩ : ∃ fn, X.length = fn := ⟨_, rfl⟩
  rw [hfn] at hfv h1 hiX hmax
  obtain ⟨q0, q1, q2⟩ := fc_get X i x hx
  obtain ⟨cs, hbox, hcs⟩ := h.box
  have hgb : g ≠ b := fun e => by rw [e, hbox] at hg; simp at hg
  have hglt := lt_of_block hg
  have hblt := lt_of_block hbox
  -- the two new blocks
  obtain ⟨W0, hW0⟩ : ∃ W0, w.alloc (.cells #[.int .i64 0, .int .i64 0, .slice none 0 0] 167) = W0 := ⟨_, rfl⟩
  have hB0 : Below w.heap.size w W0 := by rw [← hW0]; exact (Below.refl _ _).alloc (Nat.le_refl _) _
  have hs0 : W0.heap.size = w.heap.size + 1 := by rw [← hW0]; simp
  have hbx0 : FBox W0 w.heap.size 0 0 (.slice none 0 0) := by rw [← hW0]; exact heap_alloc_new w _
  obtain ⟨W1, hW1⟩ : ∃ W1, W0.alloc (.cells #[.int .i64 f.fr, .int .i64 f.tw, .slice a m c] 167) = W1 := ⟨_, rfl⟩
  have hB1 : Below W0.heap.size W0 W1 := by rw [← hW1]; exact (Below.refl _ _).alloc (Nat.le_refl _) _
  have hB : Below w.heap.size w W1 := hB0.trans (hB1.mono (by omega))
  have hbx1 : FBox W1 W0.heap.size f.fr f.tw (.slice a m c) := by rw [← hW1]; exact heap_alloc_new W0 _
  have hbx0' : FBox W1 w.heap.size 0 0 (.slice none 0 0) := (hB1.block _ (by omega)).trans hbx0
  have hg1 : W1.heap[g]? = some (.cells cur 167 (0, 0)) := (hB.block g hglt).trans hg
  have hb1 : W1.heap[b]? = some (.cells cs 96 (0, 0)) := (hB.block b hblt).trans hbox
  have cell0 : ∀ (W : World), W.heap[g]? = some (.cells cur 167 (0, 0)) → W.cell? ⟨g, off + i * 3, none⟩ = some (.int .i64 f.fr) ∧ W.cell? ⟨g, off + i * 3 + 1, none⟩ = some (.int .i64 f.tw) ∧ W.cell? ⟨g, off + i * 3 + 2, none⟩ = some (.slice a m c) := by
    intro W hW
    rw [← hxf, ← hxv]
    refine ⟨?_, ?_, ?_⟩
    · simp only [World.cell?, hW]; exact h4 _ _ q0
    · simp only [World.cell?, hW]; rw [Nat.add_assoc]; exact h4 _ _ q1
    · simp only [World.cell?, hW]; rw [Nat.add_assoc]; exact h4 _ _ q2
  have hg0 : W0.heap[g]? = some (.cells cur 167 (0, 0)) := (hB0.block g hglt).trans hg
  obtain ⟨e0, e1, e2⟩ := cell0 W0 hg0
  have c12 : W0.cell? ⟨b, 12, none⟩ = some (.slice (some ⟨g, off, none⟩) fn cap) := by rw [← hfv]; exact (h.below hB0).cells.2.2.2.2
  have CH := hidden (has_calls (some ⟨g, off, none⟩) fn cap (i : Int) W0 hmax)
  rw [show decide (0 ≤ (i : Int) ∧ (i : Int) < (fn : Int)) = true by simp; omega] at CH
  have c12' : W1.cell? ⟨b, 12, none⟩ = some (.slice (some ⟨g, off, none⟩) fn cap) := by rw [← hfv]; exact (h.below hB).cells.2.2.2.2
  have f12 : W1.frozen? ⟨b, 12, none⟩ = false := (h.below hB).free 12
  -- the end: the new box is filled
  have HEnd : Hid (∀ w3 v', Only (b :: w.heap.size :: P.fv.ownBlock.toList) w w3 → w3.heap[b]? = some (.cells (cs.setIfInBounds 12 v') 96 (0, 0)) → FBox w3 w.heap.size 0 0 (.slice none 0 0) → FRow w3 v' (X.eraseIdx i) → v'.ownBlock = some g → FBox (((w3.setCell ⟨w.heap.size, 0, none⟩ (.int .i64 f.fr)).setCell ⟨w.heap.size, 1, none⟩ (.int .i64 f.tw)).setCell ⟨w.heap.size, 2, none⟩ (.slice a m c)) w.heap.size f.fr f.tw (.slice a m c) ∧ Taken w (((w3.setCell ⟨w.heap.size, 0, none⟩ (.int .i64 f.fr)).setCell ⟨w.heap.size, 1, none⟩ (.int .i64 f.tw)).setCell ⟨w.heap.size, 2, none⟩ (.slice a m c)) o b P M i f (.slice a m c)) := by
    refine hidden ?_
    intro w3 v' g1 g2 g3 g4 g5
    have hvb : v'.ownBlock = P.fv.ownBlock := by rw [g5, hfv]; rfl
    have ho : Only [w.heap.size] w3 (((w3.setCell ⟨w.heap.size, 0, none⟩ (.int .i64 f.fr)).setCell ⟨w.heap.size, 1, none⟩ (.int .i64 f.tw)).setCell ⟨w.heap.size, 2, none⟩ (.slice a m c)) := (((Only.refl _ _).setCell (by simp) _).setCell (by simp) _).setCell (by simp) _
    refine ⟨g3.put _ _ _, ?_⟩
    rw [← hxf, ← hxv]
    rw [← hxf, ← hxv] at ho
    refine fl_taken h hX1 hX2 hX3 hx (Nat.le_refl _) (g1.trans (ho.mono (by simp))) ⟨cs, hbox, ho.block g2 (by simp; omega)⟩ (g4.only ho (by intro k hk; rw [g5] at hk; simp at hk; subst hk; simp; omega)) hvb
  obtain ⟨n0, hn0⟩ : ∃ n0, w.heap.size = n0 := ⟨_, rfl⟩
  obtain ⟨fr, hfr⟩ : ∃ z, f.fr = z := ⟨_, rfl⟩
  obtain ⟨tw, htw⟩ : ∃ z, f.tw = z := ⟨_, rfl⟩
  by_cases hi0 : 0 < i
  · -- from the midst
    have CD : Hid (Calls Tryz.prog 115 #[.slice (some ⟨g, off, none⟩) fn cap, .int .i64 (i : Int), .int .i64 ((i : Int) + 1)] W1 fun e w2 => e = .returned (.slice (some ⟨g, off, none⟩) (fn - 1) cap) ∧ (w2.cell? ⟨b, 12, none⟩ = some (.slice (some ⟨g, off, none⟩) fn cap) ∧ w2.frozen? ⟨b, 12, none⟩ = false) ∧ Hid (∃ w3, w2.setCell ⟨b, 12, none⟩ (.slice (some ⟨g, off, none⟩) (fn - 1) cap) = w3 ∧ (w3.cell? ⟨W0.heap.size, 0, none⟩ = some (.int .i64 f.fr) ∧ w3.cell? ⟨W0.heap.size, 1, none⟩ = some (.int .i64 f.tw) ∧ w3.cell? ⟨W0.heap.size, 2, none⟩ = some (.slice a m c)) ∧ FBox w3 w.heap.size 0 0 (.slice none 0 0) ∧ FBox (((w3.setCell ⟨w.heap.size, 0, none⟩ (.int .i64 f.fr)).setCell ⟨w.heap.size, 1, none⟩ (.int .i64 f.tw)).setCell ⟨w.heap.size, 2, none⟩ (.slice a m c)) w.heap.size f.fr f.tw (.slice a m c) ∧ Taken w (((w3.setCell ⟨w.heap.size, 0, none⟩ (.int .i64 f.fr)).setCell ⟨w.heap.size, 1, none⟩ (.int .i64 f.tw)).setCell ⟨w.heap.size, 2, none⟩ (.slice a m c)) o b P M i f (.slice a m c))) := by
      refine hidden ((del_calls g off fn cap i X cur W1 hfn hg1 h1 h2 h3 h4 (fun y hy => by obtain ⟨a, m, c, e, _⟩ := (hX3 y hy).1; exact ⟨a, m, c, e⟩) hiX).mono ?_)
      rintro e w2 ⟨rfl, d1, d2⟩
      have hb2 : w2.heap[b]? = some (.cells cs 96 (0, 0)) := d2.block hb1 (by simp; omega)
      have hc12 : cs[12]? = some (.slice (some ⟨g, off, none⟩) fn cap) := by rw [← hfv]; exact hcs.c12
      refine ⟨rfl, ⟨by simp [World.cell?, hb2, hc12], by simp [World.frozen?, hb2]⟩, hidden ⟨_, rfl, ?_⟩⟩
      have o3 : Only [b] w2 (w2.setCell ⟨b, 12, none⟩ (.slice (some ⟨g, off, none⟩) (fn - 1) cap)) := (Only.refl _ _).setCell (by simp) _
      have x1 : FBox (w2.setCell ⟨b, 12, none⟩ (.slice (some ⟨g, off, none⟩) (fn - 1) cap)) W0.heap.size f.fr f.tw (.slice a m c) := o3.block (d2.block hbx1 (by simp; omega)) (by simp; omega)
      have x0 : FBox (w2.setCell ⟨b, 12, none⟩ (.slice (some ⟨g, off, none⟩) (fn - 1) cap)) w.heap.size 0 0 (.slice none 0 0) := o3.block (d2.block hbx0' (by simp; omega)) (by simp; omega)
      refine ⟨x1.cells, x0, HEnd.out _ (.slice (some ⟨g, off, none⟩) (fn - 1) cap) ?_ (heap_setCell_same w2 b 12 cs _ _ hb2) x0 (d1.only o3 (by simp [Value.ownBlock]; omega)) rfl⟩
      refine (((Only.of_below hB _).trans (d2.mono ?_)).trans (o3.mono ?_))
      · intro k hk; simp at hk; subst hk; rw [hfv]; simp [Value.ownBlock]
      · intro k hk; simp at hk; subst hk; simp
    have hiz : (0 : Int) < (i : Int) := by omega
    have hw1 : IntKind.i64.wrap ((i : Int) + 1) = (i : Int) + 1 := by rw [IntKind.wrap_i64]; omega
    obtain ⟨n1, hn1⟩ : ∃ n1, W0.heap.size = n1 := ⟨_, rfl⟩
    rw [hn0, hfr, htw, hn1] at CD
    rw [hfr, htw] at hW1 ⊢
    rw [hfr] at e0
    rw [htw] at e1
    have HW := hidden hW0
    have HW1 := hidden hW1
    have HN1 := hidden hn1
    have HN0 := hidden hn0
    have hin : (i : Int) < (fn : Int) := by omega
    clear h hX1 hX2 hX3 hx hxf hxv hfv hg h1 h2 h3 h4 hfn q0 q1 q2 hbox hcs hgb hglt hblt hB0 hs0 hbx0 hB1 hB hbx1 hbx0' hg1 hb1 cell0 hg0 HEnd hXl hiM hmax hf hW0 hW1 hfr htw hiX
    go_enter Tryz.func88, Tryz.ntmps88
    go_upto_region 1 with fail
    rw [HW.out]
    go_wp2_with fail
    refine CH.out.mono ?_
    rintro e w1 ⟨rfl, hw1'⟩
    obtain rfl : W0 = w1 := hw1'.symm
    go_upto_region 4 with fail
    rw [HW1.out]
    clear e0 e1 e2 c12 CH
    go_wp2_with fail
    refine CD.out.mono ?_
    rintro e w2 ⟨rfl, ⟨d1, d2⟩, HD⟩
    obtain ⟨w3, hw3, ⟨y0, y1, y2⟩, hb3, hfin⟩ := HD.out
    have HW3 := hidden hw3
    have HFin := hidden hfin
    obtain ⟨z0, z1, z2⟩ := hb3.cells
    have k0 := hb3.free 0
    have k1 := hb3.free 1
    have k2 := hb3.free 2
    clear HD hw3 hfin hb3 CD
    go_upto_region 6 with fail
    rw [HW3.out]
    go_wp2_with fail
    refine bodyPost_ret (res_fl (g := n0) rfl rfl HFin.out.1 ⟨_, _, _, rfl⟩) rfl ?_
    exact ⟨a, m, c, rfl, HFin.out.2⟩
  · -- from the front
    obtain rfl : i = 0 := by omega
    obtain ⟨w2, hw2⟩ : ∃ w2, ((W1.setCell ⟨g, off, none⟩ (.int .i64 0)).setCell ⟨g, off + 1, none⟩ (.int .i64 0)).setCell ⟨g, off + 2, none⟩ (.slice none 0 0) = w2 := ⟨_, rfl⟩
    have o2 : Only [g] W1 w2 := by rw [← hw2]; exact (((Only.refl _ _).setCell (by simp) _).setCell (by simp) _).setCell (by simp) _
    have k1 := heap_setCell_same W1 g off _ _ (.int .i64 0) hg1
    have k2 := heap_setCell_same _ g (off + 1) _ _ (.int .i64 0) k1
    have k3 := heap_setCell_same _ g (off + 2) _ _ (.slice none 0 0) k2
    rw [hw2] at k3
    have hb2 : w2.heap[b]? = some (.cells cs 96 (0, 0)) := o2.block hb1 (by simp; omega)
    have hc12 : cs[12]? = some (.slice (some ⟨g, off, none⟩) fn cap) := by rw [← hfv]; exact hcs.c12
    obtain ⟨A, hA, hAr⟩ : ∃ A : Addr, (if cap = 1 then some (⟨g, off, none⟩ : Addr) else some ⟨g, off + 3, none⟩) = some A ∧ Hid (A.block = g ∧ ∀ w3, Only [b] w2 w3 → FRow w3 (.slice (some A) (fn - 1) (cap - 1)) (X.eraseIdx 0)) := by
      have hlen : (X.eraseIdx 0).length = fn - 1 := by rw [List.length_eraseIdx, if_pos (by omega), hfn]
      by_cases hc : cap = 1
      · refine ⟨⟨g, off, none⟩, by simp [hc], rfl, ?_⟩
        intro w3 o3
        have hl0 : (X.eraseIdx 0) = [] := List.eq_nil_of_length_eq_zero (by omega)
        refine .inr ⟨g, off, cap - 1, _, by rw [hlen], o3.block k3 (by simp; omega), by omega, by omega, by simp; omega, ?_⟩
        intro j u hu
        rw [hl0] at hu
        simp [fc] at hu
      · refine ⟨⟨g, off + 3, none⟩, by simp [hc], rfl, ?_⟩
        intro w3 o3
        refine .inr ⟨g, off + 3, cap - 1, _, by rw [hlen], o3.block k3 (by simp; omega), by omega, by omega, by simp; omega, ?_⟩
        intro j u hu
        rw [Array.getElem?_setIfInBounds_ne (by omega), Array.getElem?_setIfInBounds_ne (by omega), Array.getElem?_setIfInBounds_ne (by omega)]
        have e : X.eraseIdx 0 = X.drop 1 := by cases X with
          | nil => rfl
          | cons y X => rfl
        rw [e, fc_drop, List.getElem?_drop] at hu
        rw [show off + 3 + j = off + (1 * 3 + j) by omega]
        exact h4 _ u hu
    obtain ⟨w3, hw3⟩ : ∃ w3, w2.setCell ⟨b, 12, none⟩ (.slice (some A) (fn - 1) (cap - 1)) = w3 := ⟨_, rfl⟩
    have o3 : Only [b] w2 w3 := by rw [← hw3]; exact (Only.refl _ _).setCell (by simp) _
    have x1 : FBox w3 W0.heap.size f.fr f.tw (.slice a m c) := o3.block (o2.block hbx1 (by simp; omega)) (by simp; omega)
    have x0 : FBox w3 w.heap.size 0 0 (.slice none 0 0) := o3.block (o2.block hbx0' (by simp; omega)) (by simp; omega)
    have HFin := hidden (HEnd.out w3 (.slice (some A) (fn - 1) (cap - 1)) (by
      refine (((Only.of_below hB _).trans (o2.mono ?_)).trans (o3.mono ?_))
      · intro k hk; simp at hk; subst hk; rw [hfv]; simp [Value.ownBlock]
      · intro k hk; simp at hk; subst hk; simp) (by rw [← hw3]; exact heap_setCell_same w2 b 12 cs _ _ hb2) x0 (hAr.out.2 w3 o3) (by show some A.block = _; rw [hAr.out.1]))
    obtain ⟨y0, y1, y2⟩ := x1.cells
    obtain ⟨z0, z1, z2⟩ := x0.cells
    have l0 := x0.free 0
    have l1 := x0.free 1
    have l2 := x0.free 2
    have b12 : w2.cell? ⟨b, 12, none⟩ = some (.slice (some ⟨g, off, none⟩) fn cap) := by simp [World.cell?, hb2, hc12]
    have bf12 : w2.frozen? ⟨b, 12, none⟩ = false := by simp [World.frozen?, hb2]
    obtain ⟨t0, t1, t2⟩ := cell0 W1 hg1
    rw [Nat.zero_mul, Nat.add_zero] at t0 t1 t2 e0 e1 e2
    have u0 : W1.frozen? ⟨g, off, none⟩ = false := by simp [World.frozen?, hg1]
    have u1 : W1.frozen? ⟨g, off + 1, none⟩ = false := by simp [World.frozen?, hg1]
    have u2 : W1.frozen? ⟨g, off + 2, none⟩ = false := by simp [World.frozen?, hg1]
    obtain ⟨n1, hn1⟩ : ∃ n1, W0.heap.size = n1 := ⟨_, rfl⟩
    rw [hn0, hfr, htw] at HFin
    rw [hn0] at z0 z1 z2 l0 l1 l2
    rw [hn1] at y0 y1 y2
    rw [hfr] at e0 y0 t0
    rw [htw] at e1 y1 t1
    rw [hfr, htw] at hW1 ⊢
    have HW := hidden hW0
    have HW1 := hidden hW1
    have HW2 := hidden hw2
    have HW3 := hidden hw3
    have hin : (0 : Int) < (fn : Int) := by omega
    have hin1 : (1 : Int) ≤ (fn : Int) := by omega
    have hcp1 : 1 ≤ cap := by omega
    clear h hX1 hX2 hX3 hx hxf hxv hfv hg h1 h2 h3 h4 hfn q0 q1 q2 hbox hcs hgb hglt hblt hB0 hs0 hbx0 hB1 hB hbx1 hbx0' hg1 hb1 cell0 hg0 HEnd hXl hiM hmax hf hW0 hW1 hfr htw hiX hi0 hw2 hw3 o2 o3 k1 k2 k3 hb2 hc12 hAr x1 x0
    go_enter Tryz.func88, Tryz.ntmps88
    go_upto_region 1 with fail
    rw [HW.out]
    go_wp2_with fail
    refine CH.out.mono ?_
    rintro e w1 ⟨rfl, hw1'⟩
    obtain rfl : W0 = w1 := hw1'.symm
    go_upto_region 4 with fail
    rw [HW1.out]
    clear e0 e1 e2 c12 CH
    go_upto_region 8 with fail
    rw [HW2.out]
    clear t0 t1 t2 u0 u1 u2 c12' f12
    go_upto_region 9 with fail
    rw [HW3.out]
    clear b12 bf12
    go_wp2_with fail
    refine bodyPost_ret (res_fl (g := n0) rfl rfl HFin.out.1 ⟨_, _, _, rfl⟩) rfl ?_
    exact ⟨a, m, c, rfl, HFin.out.2⟩
end Go.Proofs.YtpiamlgmadnepaaGreat.MS

