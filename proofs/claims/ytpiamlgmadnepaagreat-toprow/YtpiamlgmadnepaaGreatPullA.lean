/-
  What package pull keeps, in memory; what its small functions return. They change nothing that was there.
-/
import Derived.Test.YtpiamlgmadnepaaGreatPullI
namespace Go.Proofs.YtpiamlgmadnepaaGreat.Pull
open Go.ChangeShapes Go.WideShapes Go.ChangeAt Go.RowKit Go.Maps Go.Proofs.YtpiamlgmadnepaaGreat.Mem Go.Proofs.YtpiamlgmadnepaaGreat.PU
set_option linter.unusedVariables false

theorem law3 : Keyed Tryz.prog 3 := int_keyed Tryz.underlying3
theorem keyOf3 {y : Int} (h : (Lit.int .i64 y).wf = true) : keyOf Tryz.prog 3 (.int .i64 y) = some (key y) := keyOf_int_mk Tryz.underlying3 h

/-- the cells of what is kept: the clock, the throttle, and of each track its map, what was told, when it was asked for -/
structure Cells (cs : Array Value) (mb : Nat → Nat) (th nw : Int) (td ak : Nat → Int) : Prop where
  sz : cs.size = 26
  c0 : cs[0]? = some (.int .i64 nw)
  c1 : cs[1]? = some (.int .i64 th)
  cm : ∀ i, i < 8 → cs[2 + i * 3]? = some (.map (some (mb i)))
  ct : ∀ i, i < 8 → cs[2 + i * 3 + 1]? = some (.int .i64 (td i))
  ca : ∀ i, i < 8 → cs[2 + i * 3 + 2]? = some (.int .i64 (lst th (ak i)))
/-- what package pull keeps, in memory: b its block, mb its maps -/
structure PullAt (w : World) (b : Nat) (mb : Nat → Nat) (th nw : Int) (td ak : Nat → Int) (L : Wts) : Prop where
  box : ∃ cs, w.heap[b]? = some (.cells cs 201 (0, 0)) ∧ Cells cs mb th nw td ak
  map : ∀ i, i < 8 → ∃ D, w.ownsMap Tryz.prog 3 inR (mb i) (Maps.size D) D ∧ KM D L ((i : Int) + 1)
  ap : ∀ i j, i < 8 → j < 8 → mb i = mb j → i = j
theorem Cells.get0 {w : World} {b : Nat} {cs : Array Value} (h : w.heap[b]? = some (.cells cs 201 (0, 0))) (j : Nat) : w.cell? ⟨b, j, none⟩ = cs[j]? := by
  simp [World.cell?, h]
theorem PullAt.cells {w : World} {b : Nat} {mb : Nat → Nat} {th nw : Int} {td ak : Nat → Int} {L : Wts} (h : PullAt w b mb th nw td ak L) : w.cell? ⟨b, 0, none⟩ = some (.int .i64 nw) ∧ w.cell? ⟨b, 1, none⟩ = some (.int .i64 th) := by
  obtain ⟨cs, h1, h2⟩ := h.box
  exact ⟨(Cells.get0 h1 0).trans h2.c0, (Cells.get0 h1 1).trans h2.c1⟩
theorem PullAt.track {w : World} {b : Nat} {mb : Nat → Nat} {th nw : Int} {td ak : Nat → Int} {L : Wts} (h : PullAt w b mb th nw td ak L) {i : Nat} (hi : i < 8) : w.cell? ⟨b, 2 + i * 3, none⟩ = some (.map (some (mb i))) ∧ w.cell? ⟨b, 2 + i * 3 + 1, none⟩ = some (.int .i64 (td i)) ∧ w.cell? ⟨b, 2 + i * 3 + 2, none⟩ = some (.int .i64 (lst th (ak i))) := by
  obtain ⟨cs, h1, h2⟩ := h.box
  exact ⟨(Cells.get0 h1 _).trans (h2.cm i hi), (Cells.get0 h1 _).trans (h2.ct i hi), (Cells.get0 h1 _).trans (h2.ca i hi)⟩
theorem PullAt.free {w : World} {b : Nat} {mb : Nat → Nat} {th nw : Int} {td ak : Nat → Int} {L : Wts} (h : PullAt w b mb th nw td ak L) (j : Nat) : w.frozen? ⟨b, j, none⟩ = false := by
  obtain ⟨cs, h1, h2⟩ := h.box
  simp [World.frozen?, h1]
theorem PullAt.lt {w : World} {b : Nat} {mb : Nat → Nat} {th nw : Int} {td ak : Nat → Int} {L : Wts} (h : PullAt w b mb th nw td ak L) : b < w.heap.size := by
  obtain ⟨cs, h1, h2⟩ := h.box
  exact lt_of_block h1
theorem PullAt.mlt {w : World} {b : Nat} {mb : Nat → Nat} {th nw : Int} {td ak : Nat → Int} {L : Wts} (h : PullAt w b mb th nw td ak L) {i : Nat} (hi : i < 8) : mb i < w.heap.size := by
  obtain ⟨D, h1, _⟩ := h.map i hi
  exact h1.lt
theorem PullAt.ne {w : World} {b : Nat} {mb : Nat → Nat} {th nw : Int} {td ak : Nat → Int} {L : Wts} (h : PullAt w b mb th nw td ak L) {i : Nat} (hi : i < 8) : b ≠ mb i := by
  obtain ⟨cs, h1, h2⟩ := h.box
  obtain ⟨D, h3, _⟩ := h.map i hi
  obtain ⟨es, c, h4⟩ := map_block h3
  intro e
  rw [e, h4] at h1
  simp at h1
/-- the blocks that it has -/
def pblks (b : Nat) (mb : Nat → Nat) : List Nat := b :: (List.range 8).map mb
theorem mem_pblks {b k : Nat} {mb : Nat → Nat} : k ∈ pblks b mb ↔ k = b ∨ ∃ i, i < 8 ∧ k = mb i := by
  simp only [pblks, List.mem_cons, List.mem_map, List.mem_range]
  constructor
  · rintro (h | ⟨i, h1, h2⟩)
    · exact .inl h
    · exact .inr ⟨i, h1, h2.symm⟩
  · rintro (h | ⟨i, h1, h2⟩)
    · exact .inl h
    · exact .inr ⟨i, h1, h2.symm⟩
theorem PullAt.blt {w : World} {b : Nat} {mb : Nat → Nat} {th nw : Int} {td ak : Nat → Int} {L : Wts} (h : PullAt w b mb th nw td ak L) : ∀ k ∈ pblks b mb, k < w.heap.size := by
  intro k hk
  rcases mem_pblks.1 hk with rfl | ⟨i, hi, rfl⟩
  · exact h.lt
  · exact h.mlt hi
theorem map_only {w w' : World} {bs : List Nat} {m n : Nat} {D : DataW Value} (h : w.ownsMap Tryz.prog 3 inR m n D) (ho : Only bs w w') (hm : m ∉ bs) : w'.ownsMap Tryz.prog 3 inR m n D := by
  obtain ⟨es, clock, h4, h5⟩ := h
  exact ⟨es, clock, ho.block h4 hm, h5⟩
theorem PullAt.only {w w' : World} {b : Nat} {mb : Nat → Nat} {th nw : Int} {td ak : Nat → Int} {L : Wts} {bs : List Nat} (h : PullAt w b mb th nw td ak L) (ho : Only bs w w') (hb : ∀ k ∈ pblks b mb, k ∉ bs) : PullAt w' b mb th nw td ak L := by
  obtain ⟨cs, h1, h2⟩ := h.box
  refine ⟨⟨cs, ho.block h1 (hb b (mem_pblks.2 (.inl rfl))), h2⟩, fun i hi => ?_, h.ap⟩
  obtain ⟨D, h3, h4⟩ := h.map i hi
  exact ⟨D, map_only h3 ho (hb _ (mem_pblks.2 (.inr ⟨i, hi, rfl⟩))), h4⟩
theorem PullAt.below {w w' : World} {b : Nat} {mb : Nat → Nat} {th nw : Int} {td ak : Nat → Int} {L : Wts} (h : PullAt w b mb th nw td ak L) (hb : Below w.heap.size w w') : PullAt w' b mb th nw td ak L :=
  h.only (Only.of_below hb []) (by simp)
theorem PullAt.mem {w : World} {b : Nat} {mb : Nat → Nat} {th nw : Int} {td ak : Nat → Int} {L K : Wts} (h : PullAt w b mb th nw td ak L) (e : ∀ y, y ∈ L ↔ y ∈ K) : PullAt w b mb th nw td ak K :=
  ⟨h.box, fun i hi => by obtain ⟨D, h1, h2⟩ := h.map i hi; exact ⟨D, h1, h2.mem fun y _ => e y⟩, h.ap⟩
theorem PullAt.ext {w : World} {b : Nat} {mb : Nat → Nat} {th nw : Int} {td ak td' ak' : Nat → Int} {L : Wts} (h : PullAt w b mb th nw td ak L) (e1 : ∀ i, i < 8 → td i = td' i) (e2 : ∀ i, i < 8 → ak i = ak' i) : PullAt w b mb th nw td' ak' L := by
  obtain ⟨cs, h1, h2⟩ := h.box
  exact ⟨⟨cs, h1, ⟨h2.sz, h2.c0, h2.c1, h2.cm, fun i hi => by rw [← e1 i hi]; exact h2.ct i hi, fun i hi => by rw [← e2 i hi]; exact h2.ca i hi⟩⟩, h.map, h.ap⟩
/-- a cell of its block is written -/
theorem PullAt.setb {w : World} {b : Nat} {mb : Nat → Nat} {th nw nw' : Int} {td ak td' ak' : Nat → Int} {L : Wts} (h : PullAt w b mb th nw td ak L) (j : Nat) (u : Value) (hc : ∀ cs : Array Value, Cells cs mb th nw td ak → Cells (cs.setIfInBounds j u) mb th nw' td' ak') : PullAt (w.setCell ⟨b, j, none⟩ u) b mb th nw' td' ak' L := by
  obtain ⟨cs, h1, h2⟩ := h.box
  have ho : Only [b] w (w.setCell ⟨b, j, none⟩ u) := (Only.refl _ _).setCell (by simp) _
  refine ⟨⟨_, heap_setCell_same w b j cs 201 u h1, hc cs h2⟩, fun i hi => ?_, h.ap⟩
  obtain ⟨D, h3, h4⟩ := h.map i hi
  exact ⟨D, map_only h3 ho (by simp; exact fun e => h.ne hi e.symm), h4⟩
theorem PullAt.setN {w : World} {b : Nat} {mb : Nat → Nat} {th nw : Int} {td ak : Nat → Int} {L : Wts} (h : PullAt w b mb th nw td ak L) (x : Int) : PullAt (w.setCell ⟨b, 0, none⟩ (.int .i64 x)) b mb th x td ak L := by
  refine h.setb 0 _ fun cs hc => ⟨by simpa using hc.sz, ?_, ?_, ?_, ?_, ?_⟩
  · rw [Array.getElem?_setIfInBounds, if_pos rfl, if_pos (by have := hc.sz; omega)]
  · rw [Array.getElem?_setIfInBounds, if_neg (by omega)]; exact hc.c1
  · intro i hi; rw [Array.getElem?_setIfInBounds, if_neg (by omega)]; exact hc.cm i hi
  · intro i hi; rw [Array.getElem?_setIfInBounds, if_neg (by omega)]; exact hc.ct i hi
  · intro i hi; rw [Array.getElem?_setIfInBounds, if_neg (by omega)]; exact hc.ca i hi
theorem PullAt.setT {w : World} {b : Nat} {mb : Nat → Nat} {th nw : Int} {td ak : Nat → Int} {L : Wts} (h : PullAt w b mb th nw td ak L) {k : Nat} (hk : k < 8) (x : Int) : PullAt (w.setCell ⟨b, 2 + k * 3 + 1, none⟩ (.int .i64 x)) b mb th nw (upd td k x) ak L := by
  refine h.setb _ _ fun cs hc => ⟨by simpa using hc.sz, ?_, ?_, ?_, ?_, ?_⟩
  · rw [Array.getElem?_setIfInBounds, if_neg (by omega)]; exact hc.c0
  · rw [Array.getElem?_setIfInBounds, if_neg (by omega)]; exact hc.c1
  · intro i hi; rw [Array.getElem?_setIfInBounds, if_neg (by omega)]; exact hc.cm i hi
  · intro i hi
    rw [Array.getElem?_setIfInBounds]
    by_cases e : i = k
    · rw [if_pos (by omega), if_pos (by have := hc.sz; omega)]; simp [upd, e]
    · rw [if_neg (by omega)]; simp only [upd, if_neg e]; exact hc.ct i hi
  · intro i hi; rw [Array.getElem?_setIfInBounds, if_neg (by omega)]; exact hc.ca i hi
theorem PullAt.setA {w : World} {b : Nat} {mb : Nat → Nat} {th nw : Int} {td ak : Nat → Int} {L : Wts} (h : PullAt w b mb th nw td ak L) {k : Nat} (hk : k < 8) {x : Int} (hx : 0 ≤ x) : PullAt (w.setCell ⟨b, 2 + k * 3 + 2, none⟩ (.int .i64 x)) b mb th nw td (upd ak k x) L := by
  refine h.setb _ _ fun cs hc => ⟨by simpa using hc.sz, ?_, ?_, ?_, ?_, ?_⟩
  · rw [Array.getElem?_setIfInBounds, if_neg (by omega)]; exact hc.c0
  · rw [Array.getElem?_setIfInBounds, if_neg (by omega)]; exact hc.c1
  · intro i hi; rw [Array.getElem?_setIfInBounds, if_neg (by omega)]; exact hc.cm i hi
  · intro i hi; rw [Array.getElem?_setIfInBounds, if_neg (by omega)]; exact hc.ct i hi
  · intro i hi
    rw [Array.getElem?_setIfInBounds]
    by_cases e : i = k
    · rw [if_pos (by omega), if_pos (by have := hc.sz; omega)]
      simp only [upd, e, if_true, lst]
      rw [if_neg (by omega)]
    · rw [if_neg (by omega)]; simp only [upd, if_neg e]; exact hc.ca i hi
/-- one map has changed -/
theorem PullAt.turned {w w' : World} {b : Nat} {mb : Nat → Nat} {th nw : Int} {td ak : Nat → Int} {L K : Wts} (h : PullAt w b mb th nw td ak L) {k : Nat} (hk : k < 8) (ho : Only [mb k] w w') (hm : ∃ D n, w'.ownsMap Tryz.prog 3 inR (mb k) n D ∧ KM D K ((k : Int) + 1)) (e : ∀ y, y.b ≠ (k : Int) + 1 → (y ∈ L ↔ y ∈ K)) : PullAt w' b mb th nw td ak K := by
  obtain ⟨cs, h1, h2⟩ := h.box
  refine ⟨⟨cs, ho.block h1 (by simp; exact h.ne hk), h2⟩, fun i hi => ?_, h.ap⟩
  by_cases q : i = k
  · subst q
    obtain ⟨D, n, h3, h4⟩ := hm
    exact ⟨D, PU.tight h3, h4⟩
  · obtain ⟨D, h3, h4⟩ := h.map i hi
    exact ⟨D, map_only h3 ho (by simp; exact fun z => q (h.ap i k hi hk z)), h4.mem fun y hy => e y (by omega)⟩
theorem PullAt.size {w : World} {b : Nat} {mb : Nat → Nat} {th nw : Int} {td ak : Nat → Int} {L : Wts} (h : PullAt w b mb th nw td ak L) (hI : PU.Inv L) {i : Nat} (hi : i < 8) : ∃ D, w.ownsMap Tryz.prog 3 inR (mb i) (Maps.size D) D ∧ KM D L ((i : Int) + 1) ∧ Maps.size D = (of L ((i : Int) + 1)).length := by
  obtain ⟨D, h1, h2⟩ := h.map i hi
  exact ⟨D, h1, h2, h2.size (h1.entries law3) hI.uq⟩

theorem isWho_calls (x : Int) (w : World) : Calls Tryz.prog 189 #[.int .i64 x] w fun e w' => e = .returned (.bool (decide (0 ≤ x) && decide (x ≤ 200))) ∧ w' = w := by
  by_cases h : 0 ≤ x
  · have d : decide (0 ≤ x) = true := by simpa using h
    go_enter Tryz.func189, Tryz.ntmps189
    go_wp2_with fail
    go_ret
    exact ⟨by simp [h], rfl⟩
  · have d : decide (0 ≤ x) = false := by simpa using h
    go_enter Tryz.func189, Tryz.ntmps189
    go_wp2_with fail
    go_ret
    exact ⟨by simp, rfl⟩
theorem isTrack_calls (x : Int) (w : World) : Calls Tryz.prog 190 #[.int .i64 x] w fun e w' => e = .returned (.bool (decide (1 ≤ x) && decide (x ≤ 8))) ∧ w' = w := by
  by_cases h : 1 ≤ x
  · have d : decide (1 ≤ x) = true := by simpa using h
    go_enter Tryz.func190, Tryz.ntmps190
    go_wp2_with fail
    go_ret
    exact ⟨by simp [h], rfl⟩
  · have d : decide (1 ≤ x) = false := by simpa using h
    go_enter Tryz.func190, Tryz.ntmps190
    go_wp2_with fail
    go_ret
    exact ⟨by simp, rfl⟩
theorem of_calls (b i : Nat) (w : World) (hi : i < 8) : Calls Tryz.prog 191 #[.pointer (some ⟨b, 0, none⟩), .int .i64 ((i : Int) + 1)] w fun e w' => e = .returned (.pointer (some ⟨b, 2 + i * 3, none⟩)) ∧ w' = w := by
  have h2 : (i : Int) < 8 := by omega
  go_enter Tryz.func191, Tryz.ntmps191
  go_wp2_with fail
  go_ret
  exact ⟨rfl, rfl⟩

/-- under way: the greatest so far -/
def LSt (w wr : World) (mb it : Nat) (t m : Int) (L : Wts) (D : DataW Value) (left : Lit → Bool) (cnt : Nat) : Prop :=
  wr.ranges Tryz.prog 3 inR mb it (Maps.size D) D left cnt ∧ Below w.heap.size w wr ∧ w.heap.size ≤ it ∧ KM D L t ∧ -1 ≤ m ∧ (∀ x ∈ L, x.b = t → left (key x.a) = false → x.c ≤ m) ∧ (m = -1 ∨ ∃ x ∈ L, x.b = t ∧ x.c = m)
theorem lst_step {w wr w1 : World} {mb it cnt cnt1 : Nat} {t m x c : Int} {L : Wts} {D : DataW Value} {left : Lit → Bool} (h : LSt w wr mb it t m L D left cnt) (hg : wr.grownBy w1 (some it))
    (hr : w1.ranges Tryz.prog 3 inR mb it (Maps.size D) D (fun z => left z && !z.sameKey (key x)) cnt1) (hx : ∃ i ∈ L, i.b = t ∧ i.a = x) (hat : ∀ zd, D.atKey (key x) zd = .held (.int .i64 c)) : LSt w w1 mb it t (max m c) L D (fun z => left z && !z.sameKey (key x)) cnt1 := by
  obtain ⟨g1, g2, g3, g4, g5, g6, g7⟩ := h
  obtain ⟨j, hj, hb, rfl⟩ := hx
  have hc : j.c = c := by
    have := (g4.els j hj hb .nil).symm.trans (hat .nil)
    simpa using this
  refine ⟨hr, g2.grown hg g2.size (by intro k hk; simp at hk; omega), g3, g4, by omega, ?_, ?_⟩
  · intro i hi hib hl
    by_cases e : i.a = j.a
    · have h1 := g4.els i hi hib .nil
      rw [e, g4.els j hj hb .nil] at h1
      have h2 : j.c = i.c := by simpa using h1
      omega
    · have hs : (key i.a).sameKey (key j.a) = false := sameKey_ne (fun h => e (key_inj h))
      simp only [hs, Bool.not_false, Bool.and_true] at hl
      have := g6 i hi hib hl
      omega
  · rcases Int.le_total m c with hle | hle
    · rw [Int.max_eq_right hle]; exact .inr ⟨j, hj, hb, hc⟩
    · rw [Int.max_eq_left hle]; exact g7

end Go.Proofs.YtpiamlgmadnepaaGreat.Pull

