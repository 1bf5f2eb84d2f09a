/-
  What the function plain of the laws returns, where the first letter is to the one asked for, and its bytes are a frame that may be.
-/
import Derived.Test.YtijfocggdjjnjaiGreatNodeW
namespace Go.Proofs.YtijfocggdjjnjaiGreat.ND
open Go.ChangeShapes Go.WideShapes Go.ChangeAt Go.RowKit Go.Maps Go.Proofs.YtijfocggdjjnjaiGreat.Mem Go.Proofs.YtijfocggdjjnjaiGreat.NO
set_option linter.unusedVariables false

theorem res_plain {fn : Func} {tmps : Array Value} {w : World} {g h i j k : Nat} {t o e p s tt l v : Int} {st : Bool} {fv bv : Value} (hf : fn.results = #[.cell i 45, .cell j 32, .tmp k]) (hi : tmps.getD i undef = .pointer (some ⟨g, 0, none⟩)) (hj : tmps.getD j undef = .pointer (some ⟨h, 0, none⟩)) (hg : w.heap[g]? = some (.cells #[.int .i64 t, .int .i64 o, .int .i64 e, .int .i64 p, fv] 45 (0, 0))) (hh : w.heap[h]? = some (.cells #[.int .i64 s, .int .i64 tt, .int .i64 l, .int .i64 v, .bool st, bv] 32 (0, 0))) (hfv : ∃ a m c, fv = .slice a m c) (hbv : ∃ a m c, bv = .slice a m c) :
    (results fn tmps).run Tryz.prog w = .ok (.tuple #[.agg #[.int .i64 t, .int .i64 o, .int .i64 e, .int .i64 p, fv], .agg #[.int .i64 s, .int .i64 tt, .int .i64 l, .int .i64 v, .bool st, bv], tmps.getD k undef]) w := by
  obtain ⟨a, m, c, rfl⟩ := hfv
  obtain ⟨a', m', c', rfl⟩ := hbv
  have hi' : tmps[i]?.getD undef = .pointer (some ⟨g, 0, none⟩) := by simpa using hi
  have hj' : tmps[j]?.getD undef = .pointer (some ⟨h, 0, none⟩) := by simpa using hj
  simp [results, hf, hi', hj', go_sem, World.cell?, hg, hh]
/-- five cells stored -/
def st5 (w : World) (g : Nat) (v0 v1 v2 v3 v4 : Value) : World := ((((w.setCell ⟨g, 0, none⟩ v0).setCell ⟨g, 1, none⟩ v1).setCell ⟨g, 2, none⟩ v2).setCell ⟨g, 3, none⟩ v3).setCell ⟨g, 4, none⟩ v4
def st6 (w : World) (g : Nat) (v0 v1 v2 v3 v4 v5 : Value) : World := (((((w.setCell ⟨g, 0, none⟩ v0).setCell ⟨g, 1, none⟩ v1).setCell ⟨g, 2, none⟩ v2).setCell ⟨g, 3, none⟩ v3).setCell ⟨g, 4, none⟩ v4).setCell ⟨g, 5, none⟩ v5
theorem st5_same {w : World} {g : Nat} {t : TypeId} {z0 z1 z2 z3 z4 : Value} (h : w.heap[g]? = some (.cells #[z0, z1, z2, z3, z4] t (0, 0))) (v0 v1 v2 v3 v4 : Value) : (st5 w g v0 v1 v2 v3 v4).heap[g]? = some (.cells #[v0, v1, v2, v3, v4] t (0, 0)) := by
  have k0 := heap_setCell_same w g 0 _ _ v0 h
  have k1 := heap_setCell_same _ g 1 _ _ v1 k0
  have k2 := heap_setCell_same _ g 2 _ _ v2 k1
  have k3 := heap_setCell_same _ g 3 _ _ v3 k2
  have k4 := heap_setCell_same _ g 4 _ _ v4 k3
  exact k4
theorem st6_same {w : World} {g : Nat} {t : TypeId} {z0 z1 z2 z3 z4 z5 : Value} (h : w.heap[g]? = some (.cells #[z0, z1, z2, z3, z4, z5] t (0, 0))) (v0 v1 v2 v3 v4 v5 : Value) : (st6 w g v0 v1 v2 v3 v4 v5).heap[g]? = some (.cells #[v0, v1, v2, v3, v4, v5] t (0, 0)) := by
  have k0 := heap_setCell_same w g 0 _ _ v0 h
  have k1 := heap_setCell_same _ g 1 _ _ v1 k0
  have k2 := heap_setCell_same _ g 2 _ _ v2 k1
  have k3 := heap_setCell_same _ g 3 _ _ v3 k2
  have k4 := heap_setCell_same _ g 4 _ _ v4 k3
  have k5 := heap_setCell_same _ g 5 _ _ v5 k4
  exact k5
theorem st5_only (w : World) (g : Nat) (v0 v1 v2 v3 v4 : Value) : Only [g] w (st5 w g v0 v1 v2 v3 v4) := by
  unfold st5
  iterate 5 refine Only.setCell ?_ (by simp) _
  exact Only.refl _ _
theorem st6_only (w : World) (g : Nat) (v0 v1 v2 v3 v4 v5 : Value) : Only [g] w (st6 w g v0 v1 v2 v3 v4 v5) := by
  unfold st6
  iterate 6 refine Only.setCell ?_ (by simp) _
  exact Only.refl _ _
set_option maxHeartbeats 4000000 in
set_option maxRecDepth 100000 in
theorem plain_first (kd tk og ep h s t l q : Int) (st : Bool) (lb lo n cap : Nat) (a : Option Addr) (m c : Nat) (L : List Nat) (w : World) (hn : 0 < n) (c0 : w.cell? ⟨lb, lo, none⟩ = some (.int .i64 kd)) (c1 : w.cell? ⟨lb, lo + 1, none⟩ = some (.slice a m c)) (hA : Arg w a m (fby tk og ep h (pby s t l q st L))) (hc : m ≤ c) (hff : FM.ffault tk og ep h (pby s t l q st L) = 0) (hf : PM.fault s t l q L.length = 0) (hpL : ∀ c ∈ pby s t l q st L, c < 256) :
    Calls Tryz.prog 12 #[.slice (some ⟨lb, lo, none⟩) n cap, .int .i64 kd] w fun e w' => ∃ fa fm fc a' c', e = .returned (.tuple #[.agg #[.int .i64 tk, .int .i64 og, .int .i64 ep, .int .i64 h, .slice fa fm fc], .agg #[.int .i64 s, .int .i64 t, .int .i64 l, .int .i64 q, .bool st, .slice a' L.length c'], .bool true]) ∧ Below w.heap.size w w' ∧ Arg w' a' L.length L := by
  obtain ⟨W0, hW0⟩ : ∃ W0, (w.alloc (.cells #[.int .i64 0, .int .i64 0, .int .i64 0, .int .i64 0, .slice none 0 0] 45)).alloc (.cells #[.int .i64 0, .int .i64 0, .int .i64 0, .int .i64 0, .bool false, .slice none 0 0] 32) = W0 := ⟨_, rfl⟩
  have hB0 : Below w.heap.size w W0 := by rw [← hW0]; exact below2 w _ _
  have hr4 : W0.heap[w.heap.size]? = some (.cells #[.int .i64 0, .int .i64 0, .int .i64 0, .int .i64 0, .slice none 0 0] 45 (0, 0)) := by
    rw [← hW0]
    exact (Below.heap_alloc _ _ _ (by simp)).trans (heap_alloc_new w _)
  have hr5 : W0.heap[w.heap.size + 1]? = some (.cells #[.int .i64 0, .int .i64 0, .int .i64 0, .int .i64 0, .bool false, .slice none 0 0] 32 (0, 0)) := by
    rw [← hW0]
    have := heap_alloc_new (w.alloc (.cells #[.int .i64 0, .int .i64 0, .int .i64 0, .int .i64 0, .slice none 0 0] 45)) (.cells #[.int .i64 0, .int .i64 0, .int .i64 0, .int .i64 0, .bool false, .slice none 0 0] 32)
    simpa using this
  have CF := hidden (fread_back tk og ep h a m c _ W0 (hA.below hB0) hc hpL hff)
  have CP := hidden (fun W a1 m1 c1 (h1 : Arg W a1 m1 (pby s t l q st L)) (h2 : m1 ≤ c1) => pread_back s t l q st a1 m1 c1 L W h1 h2 hf)
  obtain ⟨B, hB⟩ : ∃ B, pby s t l q st L = B := ⟨_, rfl⟩
  rw [hB] at CF CP
  obtain ⟨ll, hll⟩ : ∃ ll, L.length = ll := ⟨_, rfl⟩
  rw [hll] at CP
  rw [hll]
  have d0 := ext_cell hB0 c0
  have d1 := ext_cell hB0 c1
  have HR := hidden (And.intro hr4 hr5)
  have HB0 := hidden hB0
  have HW := hidden hW0
  have hnz : (0 : Int) < (n : Int) := by omega
  have hk : (kd != kd) = false := by simp
  clear c0 c1 hA hc hff hf hpL hB hll hB0 hW0 hr4 hr5
  go_enter Tryz.func12, Tryz.ntmps12
  go_upto_region 1 with fail
  rw [HW.out]
  go_wp2_with fail
  go_loopg [7] 1 (fun gh x wr => x = .int .i64 0 ∧ W0 = wr)
  case atStart => exact ⟨rfl, rfl⟩
  case round =>
    obtain ⟨rfl, rfl⟩ := hrel
    go_wp2_with fail
    refine CF.out.mono ?_
    rintro e w1 ⟨a1, m1, c1, rfl, hb1, hA1, hm1, _⟩
    obtain ⟨W1, hW1⟩ : ∃ W1, w1.alloc (.cells #[.int .i64 tk, .int .i64 og, .int .i64 ep, .int .i64 h, .slice a1 m1 c1] 45) = W1 := ⟨_, rfl⟩
    have hB1 : Below w1.heap.size w1 W1 := by rw [← hW1]; exact (Below.refl _ _).alloc (Nat.le_refl _) _
    have hbf : W1.heap[w1.heap.size]? = some (.cells #[.int .i64 tk, .int .i64 og, .int .i64 ep, .int .i64 h, .slice a1 m1 c1] 45 (0, 0)) := by rw [← hW1]; exact heap_alloc_new w1 _
    have CP1 := hidden (CP.out W1 a1 m1 c1 (hA1.below hB1) hm1)
    have c4 : W1.cell? ⟨w1.heap.size, 4, none⟩ = some (.slice a1 m1 c1) := by simp [World.cell?, hbf]
    have hsz1 : w.heap.size + 2 ≤ w1.heap.size := by have := hb1.size; rw [← HW.out] at this; simp at this; omega
    obtain ⟨fb, hfb⟩ : ∃ fb, w1.heap.size = fb := ⟨_, rfl⟩
    rw [hfb] at hbf c4 hsz1
    have HBF := hidden hbf
    have HB01 := hidden (hb1.trans (hB1.mono hb1.size))
    have HW1 := hidden hW1
    have HS1 := hidden hsz1
    clear hb1 hA1 hm1 hW1 hB1 hbf CP hsz1
    go_upto_region 8 with fail
    first | rw [HW1.out] | skip
    clear hfb
    go_wp2_with fail
    refine CP1.out.mono ?_
    rintro e w2 ⟨a2, c2, rfl, hb2, hA2, _, _⟩
    obtain ⟨W2, hW2⟩ : ∃ W2, w2.alloc (.cells #[.int .i64 s, .int .i64 t, .int .i64 l, .int .i64 q, .bool st, .slice a2 ll c2] 32) = W2 := ⟨_, rfl⟩
    have hB2 : Below w2.heap.size w2 W2 := by rw [← hW2]; exact (Below.refl _ _).alloc (Nat.le_refl _) _
    have hbp : W2.heap[w2.heap.size]? = some (.cells #[.int .i64 s, .int .i64 t, .int .i64 l, .int .i64 q, .bool st, .slice a2 ll c2] 32 (0, 0)) := by rw [← hW2]; exact heap_alloc_new w2 _
    have hB12 : Below W1.heap.size W1 W2 := hb2.trans (hB2.mono hb2.size)
    have hbf2 := (hB12.block fb (lt_of_block HBF.out)).trans HBF.out
    have hg4 := (hB12.block _ (by have := HB01.out.size; have := lt_of_block HR.out.1; omega)).trans ((HB01.out.block _ (lt_of_block HR.out.1)).trans HR.out.1)
    have hg5 := (hB12.block _ (by have := HB01.out.size; have := lt_of_block HR.out.2; omega)).trans ((HB01.out.block _ (lt_of_block HR.out.2)).trans HR.out.2)
    have hpf : fb < w2.heap.size := by have := lt_of_block HBF.out; have := hb2.size; omega
    obtain ⟨pb, hpb⟩ : ∃ pb, w2.heap.size = pb := ⟨_, rfl⟩
    rw [hpb] at hbp hpf
    have hA3 := hA2.below hB2
    have hBt : Below w.heap.size w W2 := HB0.out.trans ((HB01.out.trans (hB12.mono HB01.out.size)).mono HB0.out.size)
    have HX := hidden (And.intro hbf2 (And.intro hbp (And.intro hg4 (And.intro hg5 (And.intro hA3 (And.intro hBt hpf))))))
    have HW2 := hidden hW2
    clear hb2 hA2 hW2 hB2 hbp hB12 hbf2 hg4 hg5 hA3 hBt hpf c4 CP1
    go_upto_region 9 with fail
    first | rw [HW2.out] | skip
    clear hpb
    obtain ⟨y1, y2, y3, y4, y5, y6, y7⟩ := HX.out
    have hS1 := HS1.out
    have n1 : pb ≠ w.heap.size := by omega
    have n2 : pb ≠ w.heap.size + 1 := by omega
    have n3 : fb ≠ w.heap.size := by omega
    have n4 : fb ≠ w.heap.size + 1 := by omega
    have f0 : W2.cell? ⟨fb, 0, none⟩ = some (.int .i64 tk) := by simp [World.cell?, y1]
    have f1 : W2.cell? ⟨fb, 1, none⟩ = some (.int .i64 og) := by simp [World.cell?, y1]
    have f2 : W2.cell? ⟨fb, 2, none⟩ = some (.int .i64 ep) := by simp [World.cell?, y1]
    have f3 : W2.cell? ⟨fb, 3, none⟩ = some (.int .i64 h) := by simp [World.cell?, y1]
    have f4 : W2.cell? ⟨fb, 4, none⟩ = some (.slice a1 m1 c1) := by simp [World.cell?, y1]
    have p0 : W2.cell? ⟨pb, 0, none⟩ = some (.int .i64 s) := by simp [World.cell?, y2]
    have p1 : W2.cell? ⟨pb, 1, none⟩ = some (.int .i64 t) := by simp [World.cell?, y2]
    have p2 : W2.cell? ⟨pb, 2, none⟩ = some (.int .i64 l) := by simp [World.cell?, y2]
    have p3 : W2.cell? ⟨pb, 3, none⟩ = some (.int .i64 q) := by simp [World.cell?, y2]
    have p4 : W2.cell? ⟨pb, 4, none⟩ = some (.bool st) := by simp [World.cell?, y2]
    have p5 : W2.cell? ⟨pb, 5, none⟩ = some (.slice a2 ll c2) := by simp [World.cell?, y2]
    have g0 : W2.cell? ⟨w.heap.size, 0, none⟩ = some (.int .i64 0) := by simp [World.cell?, y3]
    have g1 : W2.cell? ⟨w.heap.size, 1, none⟩ = some (.int .i64 0) := by simp [World.cell?, y3]
    have g2 : W2.cell? ⟨w.heap.size, 2, none⟩ = some (.int .i64 0) := by simp [World.cell?, y3]
    have g3 : W2.cell? ⟨w.heap.size, 3, none⟩ = some (.int .i64 0) := by simp [World.cell?, y3]
    have g4 : W2.cell? ⟨w.heap.size, 4, none⟩ = some (.slice none 0 0) := by simp [World.cell?, y3]
    have h0 : W2.cell? ⟨w.heap.size + 1, 0, none⟩ = some (.int .i64 0) := by simp [World.cell?, y4]
    have h1 : W2.cell? ⟨w.heap.size + 1, 1, none⟩ = some (.int .i64 0) := by simp [World.cell?, y4]
    have h2 : W2.cell? ⟨w.heap.size + 1, 2, none⟩ = some (.int .i64 0) := by simp [World.cell?, y4]
    have h3 : W2.cell? ⟨w.heap.size + 1, 3, none⟩ = some (.int .i64 0) := by simp [World.cell?, y4]
    have h4 : W2.cell? ⟨w.heap.size + 1, 4, none⟩ = some (.bool false) := by simp [World.cell?, y4]
    have h5 : W2.cell? ⟨w.heap.size + 1, 5, none⟩ = some (.slice none 0 0) := by simp [World.cell?, y4]
    have fz0 : W2.frozen? ⟨w.heap.size, 0, none⟩ = false := by simp [World.frozen?, y3]
    have fz1 : W2.frozen? ⟨w.heap.size, 1, none⟩ = false := by simp [World.frozen?, y3]
    have fz2 : W2.frozen? ⟨w.heap.size, 2, none⟩ = false := by simp [World.frozen?, y3]
    have fz3 : W2.frozen? ⟨w.heap.size, 3, none⟩ = false := by simp [World.frozen?, y3]
    have fz4 : W2.frozen? ⟨w.heap.size, 4, none⟩ = false := by simp [World.frozen?, y3]
    have fy0 : W2.frozen? ⟨w.heap.size + 1, 0, none⟩ = false := by simp [World.frozen?, y4]
    have fy1 : W2.frozen? ⟨w.heap.size + 1, 1, none⟩ = false := by simp [World.frozen?, y4]
    have fy2 : W2.frozen? ⟨w.heap.size + 1, 2, none⟩ = false := by simp [World.frozen?, y4]
    have fy3 : W2.frozen? ⟨w.heap.size + 1, 3, none⟩ = false := by simp [World.frozen?, y4]
    have fy4 : W2.frozen? ⟨w.heap.size + 1, 4, none⟩ = false := by simp [World.frozen?, y4]
    have fy5 : W2.frozen? ⟨w.heap.size + 1, 5, none⟩ = false := by simp [World.frozen?, y4]
    clear y1 y2 y3 y4 y5 y6 y7 hS1
    go_region
    obtain ⟨W3, hW3⟩ : ∃ W3, st6 (st5 W2 w.heap.size (.int .i64 tk) (.int .i64 og) (.int .i64 ep) (.int .i64 h) (.slice a1 m1 c1)) (w.heap.size + 1) (.int .i64 s) (.int .i64 t) (.int .i64 l) (.int .i64 q) (.bool st) (.slice a2 ll c2) = W3 := ⟨_, rfl⟩
    have HF : Hid (W3.heap[w.heap.size]? = some (.cells #[.int .i64 tk, .int .i64 og, .int .i64 ep, .int .i64 h, .slice a1 m1 c1] 45 (0, 0)) ∧ W3.heap[w.heap.size + 1]? = some (.cells #[.int .i64 s, .int .i64 t, .int .i64 l, .int .i64 q, .bool st, .slice a2 ll c2] 32 (0, 0)) ∧ Below w.heap.size w W3 ∧ Arg W3 a2 ll L) := by
      obtain ⟨y1, y2, y3, y4, y5, y6, y7⟩ := HX.out
      have o1 := st5_only W2 w.heap.size (.int .i64 tk) (.int .i64 og) (.int .i64 ep) (.int .i64 h) (.slice a1 m1 c1)
      have z4 := o1.block y4 (by simp)
      have o2 := st6_only (st5 W2 w.heap.size (.int .i64 tk) (.int .i64 og) (.int .i64 ep) (.int .i64 h) (.slice a1 m1 c1)) (w.heap.size + 1) (.int .i64 s) (.int .i64 t) (.int .i64 l) (.int .i64 q) (.bool st) (.slice a2 ll c2)
      have o12 : Only [w.heap.size, w.heap.size + 1] W2 W3 := by
        rw [← hW3]
        exact (o1.mono (by simp)).trans (o2.mono (by simp))
      refine hidden ⟨?_, ?_, ?_, ?_⟩
      · rw [← hW3]
        exact o2.block (st5_same y3 _ _ _ _ _) (by simp)
      · rw [← hW3]
        exact st6_same z4 _ _ _ _ _ _
      · exact y6.trans (o12.below (by have := y6.size; omega) (by simp))
      · refine ⟨⟨y5.1.1, fun j hj => ?_⟩, y5.2⟩
        obtain ⟨b', o', e, hc⟩ := y5.1.2 j hj
        have hl' := World.block_lt_of_cell? W2 ⟨b', o' + j, none⟩ hc
        refine ⟨b', o', e, (cell_same (o12.2.2.2.2 b' hl' ?_) _).trans hc⟩
        simp only [List.mem_cons, List.not_mem_nil, or_false]
        rintro (hb | hb)
        · have hc' := hc
          rw [hb] at hc'
          simp only [World.cell?, y3] at hc'
          rcases (by omega : o' + j = 0 ∨ o' + j = 1 ∨ o' + j = 2 ∨ o' + j = 3 ∨ o' + j = 4 ∨ 5 ≤ o' + j) with h' | h' | h' | h' | h' | h'
          · rw [h'] at hc'; simp at hc'
          · rw [h'] at hc'; simp at hc'
          · rw [h'] at hc'; simp at hc'
          · rw [h'] at hc'; simp at hc'
          · rw [h'] at hc'; simp at hc'
          · rw [Array.getElem?_eq_none (by simpa using h')] at hc'; simp at hc'
        · have hc' := hc
          rw [hb] at hc'
          simp only [World.cell?, y4] at hc'
          rcases (by omega : o' + j = 0 ∨ o' + j = 1 ∨ o' + j = 2 ∨ o' + j = 3 ∨ o' + j = 4 ∨ o' + j = 5 ∨ 6 ≤ o' + j) with h' | h' | h' | h' | h' | h' | h'
          · rw [h'] at hc'; simp at hc'
          · rw [h'] at hc'; simp at hc'
          · rw [h'] at hc'; simp at hc'
          · rw [h'] at hc'; simp at hc'
          · rw [h'] at hc'; simp at hc'
          · rw [h'] at hc'; simp at hc'
          · rw [Array.getElem?_eq_none (by simpa using h')] at hc'; simp at hc'
    unfold st5 st6 at hW3
    rw [hW3]
    clear hW3 HX
    go_wp2_with fail
    (try simp only [Exit.inBlock, Exit.then])
    refine bodyPost_ret (res_plain (w := W3.drew) rfl rfl rfl HF.out.1 HF.out.2.1 ⟨_, _, _, rfl⟩ ⟨_, _, _, rfl⟩) rfl ?_
    exact ⟨_, _, _, a2, c2, rfl, HF.out.2.2.1.drew, HF.out.2.2.2.below ((Below.refl _ _).drew)⟩
end Go.Proofs.YtijfocggdjjnjaiGreat.ND

