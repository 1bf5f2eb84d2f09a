/-
  What AuditBack asks: what Row, Check and Holes tell of its rows; a packet stored into a row.
-/
import Derived.Test.YtjnkgbdpacdgpaaDoorABackA
import Derived.Laws.World
namespace Go.Proofs.YtjnkgbdpacdgpaaDoor.ABack
open Go.ChangeShapes Go.WideShapes Go.ChangeAt Go.RowKit Go.Proofs.YtjnkgbdpacdgpaaDoor.PM Go.Proofs.YtjnkgbdpacdgpaaDoor.Mem Go.Proofs.YtjnkgbdpacdgpaaDoor.Pack Go.Proofs.YtjnkgbdpacdgpaaDoor.AU Go.Proofs.YtjnkgbdpacdgpaaDoor.Audit
set_option linter.unusedVariables false

theorem first_check (W : World) : Calls Tryd.prog 10 #[.slice none 0 0, .slice (some ⟨W.heap.size, 0, none⟩) 1 1] (W.alloc (.cells #[.int .i64 0, .int .i64 0, .int .i64 0, .int .i64 0, .bool false, .slice none 0 0] 27))
    fun e w' => e = .returned (.tuple #[.int .i64 0, .iface 50 (.int .i64 5)]) ∧ Below W.heap.size W w' := by
  have hX : PArg (W.alloc (.cells #[.int .i64 0, .int .i64 0, .int .i64 0, .int .i64 0, .bool false, .slice none 0 0] 27)) (some ⟨W.heap.size, 0, none⟩) 1 [noPk] := by
    refine ⟨rfl, by omega, fun j hj => ⟨W.heap.size, 0, rfl, ?_, ?_⟩⟩
    · obtain rfl : j = 0 := by omega
      exact ⟨World.cell?_alloc_mark .., World.cell?_alloc_mark .., World.cell?_alloc_mark .., World.cell?_alloc_mark .., World.cell?_alloc_mark .., World.cell?_alloc_mark ..⟩
    · obtain rfl : j = 0 := by omega
      exact ⟨Bys.nil _ _, rfl, by decide⟩
  refine (Audit.check_calls none 0 0 [] _ 1 1 [noPk] 0 _ (PArg.empty _ _) (Nat.le_refl _) (fun _ => rfl) hX ⟨by decide, by decide, fun _ => by decide⟩).mono ?_
  rintro e w' ⟨rfl, hb⟩
  exact ⟨rfl, below_old hb⟩

theorem end_check {w W : World} {f : Nat → Nat} {gv sv hv : Value} {n : Nat} {G : List Nat} {H : List Int} {bt : Int} (h : BSt w W f gv sv hv n G H) (hk : Kept n G H bt) (hn : n ≤ 200) :
    Calls Tryd.prog 10 #[sv, gv] W fun e w' => e = .returned (.tuple #[.int .i64 0, .nilIface]) ∧ Below W.heap.size W w' := by
  have hg := hk.gl
  obtain ⟨a, cap, rfl, hA, _, _⟩ := h.gotA hn (by omega)
  obtain ⟨a2, cap2, rfl, hA2, hc2, hn2⟩ := h.sntA hn
  refine (Audit.check_calls a2 n cap2 _ a G.length cap _ G.length W hA2 hc2 hn2 hA hk.stop).mono ?_
  rintro e w' ⟨rfl, hb⟩
  refine ⟨?_, hb⟩
  have e1 : cfault (All f n) (Som f G) G.length = 0 := cfault_ok (by rw [all_len, som_len]; omega) (by rw [som_len]; omega)
  have e2 : cat (All f n) (Som f G) G.length = 0 := by unfold cat; rw [if_neg (by omega)]
  rw [e1, e2]
  rfl
theorem end_holes {w W : World} {f : Nat → Nat} {gv sv hv : Value} {n : Nat} {G : List Nat} {H : List Int} {bt : Int} (h : BSt w W f gv sv hv n G H) (hk : Kept n G H bt) (hn : n ≤ 200) :
    Calls Tryd.prog 11 #[sv, gv] W fun e w' => ∃ a c, e = .returned (.tuple #[.slice a H.length c, .nilIface]) ∧ IArg w' a H.length H ∧ Below W.heap.size W w' := by
  have hg := hk.gl
  have hhl := hk.hl
  obtain ⟨a, cap, rfl, hA, _, _⟩ := h.gotA hn (by omega)
  obtain ⟨a2, cap2, rfl, hA2, hc2, hn2⟩ := h.sntA hn
  refine (holes_calls a2 n cap2 _ a G.length cap _ G.length W hA2 hc2 hn2 hA hk.stop).mono ?_
  rintro e w' ⟨v, rfl, hown, hb⟩
  have e1 : cfault (All f n) (Som f G) G.length = 0 := cfault_ok (by rw [all_len, som_len]; omega) (by rw [som_len]; omega)
  have e2 : Audit.hk (All f n) (Som f G) G.length = H := by unfold Audit.hk; rw [if_pos e1, hk.holes]
  rw [e1]
  rw [e2] at hown
  obtain ⟨av, cv, rfl, hA3, _⟩ := own_ints hown (by omega)
  exact ⟨av, cv, rfl, hA3, hb⟩
theorem end_row {w W : World} {f : Nat → Nat} {gv sv hv : Value} {n : Nat} {G : List Nat} {H : List Int} (h : BSt w W f gv sv hv n G H) (hn : n ≤ 200) :
    Calls Tryd.prog 7 #[sv] W fun e w' => e = .returned (.tuple #[.int .i64 0, .nilIface]) ∧ Below W.heap.size W w' := by
  obtain ⟨a2, cap2, rfl, hA2, hc2, hn2⟩ := h.sntA hn
  refine (row_calls a2 n cap2 _ _ W hA2 (all_row f n hn)).mono ?_
  rintro e w' ⟨rfl, hb⟩
  refine ⟨?_, hb⟩
  have e1 : rowf (All f n) (All f n).length = 0 := by unfold rowf; rw [if_neg (by rw [all_len]; omega), if_neg (by omega)]
  have e2 : rat (All f n) (All f n).length = 0 := by unfold rat; rw [if_neg (by rw [all_len]; omega), if_neg (by omega)]
  rw [e1, e2]
  rfl
theorem end_bad {w W : World} {f : Nat → Nat} {gv sv hv : Value} {n : Nat} {G : List Nat} {H : List Int} (h : BSt w W f gv sv hv n G H) (hn : n ≤ 200) {a : Option Addr} {m cap K : Nat} {X : List Pk} (hA : PArg W a m X) (hm : m ≤ 1000) (hK : Stop (All f n) X K) (hl : K < m) :
    Calls Tryd.prog 10 #[sv, .slice a m cap] W fun e w' => e = .returned (.tuple #[.int .i64 (K : Int), .iface 50 (.int .i64 5)]) ∧ Below W.heap.size W w' := by
  obtain ⟨a2, cap2, rfl, hA2, hc2, hn2⟩ := h.sntA hn
  have hx := hA.1
  refine (Audit.check_calls a2 n cap2 _ a m cap X K W hA2 hc2 hn2 hA hK).mono ?_
  rintro e w' ⟨rfl, hb⟩
  refine ⟨?_, hb⟩
  have e1 : cfault (All f n) X K = 5 := cfault_none (by rw [all_len]; omega) (by omega)
  have e2 : cat (All f n) X K = K := by unfold cat; rw [if_pos e1]
  rw [e1, e2]
  rfl
/-- the cells of a row that was made -/
theorem own_cells {W : World} {base e size n g cap : Nat} {xs : List Value} (h : W.ownsRow base e size (.slice (some ⟨g, 0, none⟩) n cap) n xs) : ∀ j u, xs[j]? = some u → W.cell? ((⟨g, 0, none⟩ : Addr).add j) = some u := by
  intro j u hu
  have hl := h.1
  have hj : j < n * size := by
    rcases Nat.lt_or_ge j xs.length with h' | h'
    · omega
    · rw [List.getElem?_eq_none h'] at hu; simp at hu
  rw [add_plain, Nat.zero_add, h.cellAt j hj, hu]
theorem flat_oneCell (X : List Pk) : ∀ u ∈ flat X, u.oneCell' = true := by
  intro u hu
  simp only [flat, List.mem_flatMap] at hu
  obtain ⟨p, _, hp⟩ := hu
  exact pc_one p u hp
theorem sc_other {W : World} {a b : Addr} {v : Value} (h : a ≠ b) : (W.setCell a v).cell? b = W.cell? b := World.cell?_setCell_other (h := h) ..
theorem sc_same {W : World} {a : Addr} {v u : Value} (h : W.cell? a = some u) : (W.setCell a v).cell? a = some v := World.cell?_setCell_same (h := h) ..
/-- a packet stored into a row -/
def put6 (W : World) (g o : Nat) (p : Pk) : World := (((((W.setCell ⟨g, o, none⟩ (.int .i64 p.s)).setCell ⟨g, o + 1, none⟩ (.int .i64 p.t)).setCell ⟨g, o + 2, none⟩ (.int .i64 p.l)).setCell ⟨g, o + 3, none⟩ (.int .i64 p.q)).setCell ⟨g, o + 4, none⟩ (.bool p.st)).setCell ⟨g, o + 5, none⟩ (.slice p.a p.m p.c)
theorem put6_only (W : World) (g o : Nat) (p : Pk) : Only [g] W (put6 W g o p) := (((((((Only.refl [g] W).setCell (by simp) _).setCell (by simp) _).setCell (by simp) _).setCell (by simp) _).setCell (by simp) _).setCell (by simp) _)
theorem put6_far {W : World} {g o : Nat} {p : Pk} {b k : Nat} (h : b ≠ g ∨ k < o ∨ o + 6 ≤ k) : (put6 W g o p).cell? ⟨b, k, none⟩ = W.cell? ⟨b, k, none⟩ := by
  have e : ∀ j, j < 6 → (⟨g, o + j, none⟩ : Addr) ≠ ⟨b, k, none⟩ := by
    intro j hj e
    simp only [Addr.mk.injEq, and_true] at e
    omega
  have e0 : (⟨g, o, none⟩ : Addr) ≠ ⟨b, k, none⟩ := e 0 (by omega)
  unfold put6
  rw [sc_other (e 5 (by omega)), sc_other (e 4 (by omega)), sc_other (e 3 (by omega)), sc_other (e 2 (by omega)), sc_other (e 1 (by omega)), sc_other e0]
theorem put6_at {W : World} {g o : Nat} {p q : Pk} (h : PkAt W g o q) : PkAt (put6 W g o p) g o p := by
  obtain ⟨h0, h1, h2, h3, h4, h5⟩ := h
  have ne : ∀ i j, i ≠ j → (⟨g, o + i, none⟩ : Addr) ≠ ⟨g, o + j, none⟩ := by
    intro i j hij e
    simp only [Addr.mk.injEq, and_true, true_and] at e
    omega
  have n0 : ∀ i, 0 < i → (⟨g, o + i, none⟩ : Addr) ≠ ⟨g, o, none⟩ := by
    intro i hi e
    simp only [Addr.mk.injEq, and_true, true_and] at e
    omega
  have m0 : ∀ i, 0 < i → (⟨g, o, none⟩ : Addr) ≠ ⟨g, o + i, none⟩ := fun i hi e => n0 i hi e.symm
  unfold put6
  refine ⟨?_, ?_, ?_, ?_, ?_, ?_⟩
  · rw [sc_other (n0 5 (by omega)), sc_other (n0 4 (by omega)), sc_other (n0 3 (by omega)), sc_other (n0 2 (by omega)), sc_other (n0 1 (by omega)), sc_same h0]
  · rw [sc_other (ne 5 1 (by omega)), sc_other (ne 4 1 (by omega)), sc_other (ne 3 1 (by omega)), sc_other (ne 2 1 (by omega))]
    exact sc_same ((sc_other (m0 1 (by omega))).trans h1)
  · rw [sc_other (ne 5 2 (by omega)), sc_other (ne 4 2 (by omega)), sc_other (ne 3 2 (by omega))]
    exact sc_same ((sc_other (ne 1 2 (by omega))).trans ((sc_other (m0 2 (by omega))).trans h2))
  · rw [sc_other (ne 5 3 (by omega)), sc_other (ne 4 3 (by omega))]
    exact sc_same ((sc_other (ne 2 3 (by omega))).trans ((sc_other (ne 1 3 (by omega))).trans ((sc_other (m0 3 (by omega))).trans h3)))
  · rw [sc_other (ne 5 4 (by omega))]
    exact sc_same ((sc_other (ne 3 4 (by omega))).trans ((sc_other (ne 2 4 (by omega))).trans ((sc_other (ne 1 4 (by omega))).trans ((sc_other (m0 4 (by omega))).trans h4))))
  · exact sc_same ((sc_other (ne 4 5 (by omega))).trans ((sc_other (ne 3 5 (by omega))).trans ((sc_other (ne 2 5 (by omega))).trans ((sc_other (ne 1 5 (by omega))).trans ((sc_other (m0 5 (by omega))).trans h5)))))
/-- a row in which the first two have changed their places -/
theorem put_row {W : World} {g n : Nat} {X : List Pk} {p q : Pk} (h : ∀ j, j < n → PkAt W g (0 + j * 6) (X.getD j noPk)) (hX : X.length = n) (hn : 2 ≤ n) (hb : n ≤ 200) (hW : World) (e : hW = put6 (put6 W g 0 p) g 6 q) (hok : ∀ r ∈ X, PkOk hW r) (hp : PkOk hW p) (hq : PkOk hW q) :
    PArg hW (some ⟨g, 0, none⟩) n (p :: q :: X.drop 2) := by
  refine ⟨by simp; omega, by omega, fun j hj => ⟨g, 0, rfl, ?_⟩⟩
  have hx0 : PkAt (put6 W g 0 p) g 0 p := put6_at (q := X.getD 0 noPk) (by have := h 0 (by omega); simpa using this)
  rcases j with _ | _ | j
  · refine ⟨?_, hp⟩
    rw [e]
    obtain ⟨a0, a1, a2, a3, a4, a5⟩ := hx0
    have k : ∀ i v, i < 6 → (put6 W g 0 p).cell? ⟨g, i, none⟩ = some v → (put6 (put6 W g 0 p) g 6 q).cell? ⟨g, i, none⟩ = some v := fun i v hi hc => (put6_far (by omega)).trans hc
    exact ⟨k _ _ (by omega) a0, k _ _ (by omega) a1, k _ _ (by omega) a2, k _ _ (by omega) a3, k _ _ (by omega) a4, k _ _ (by omega) a5⟩
  · refine ⟨?_, hq⟩
    rw [e]
    obtain ⟨a0, a1, a2, a3, a4, a5⟩ := h 1 (by omega)
    have k : ∀ i v, 6 ≤ i → W.cell? ⟨g, i, none⟩ = some v → (put6 W g 0 p).cell? ⟨g, i, none⟩ = some v := fun i v hi hc => (put6_far (by omega)).trans hc
    exact put6_at (q := X.getD 1 noPk) ⟨k _ _ (by omega) a0, k _ _ (by omega) a1, k _ _ (by omega) a2, k _ _ (by omega) a3, k _ _ (by omega) a4, k _ _ (by omega) a5⟩
  · have e2 : (p :: q :: X.drop 2).getD (j + 1 + 1) noPk = X.getD (j + 2) noPk := by
      rw [List.getD_cons_succ, List.getD_cons_succ, drop_getD, Nat.add_comm]
    rw [e2]
    refine ⟨?_, hok _ (by rw [List.getD_eq_getElem?_getD, List.getElem?_eq_getElem (by omega)]; exact List.getElem_mem _)⟩
    obtain ⟨a0, a1, a2, a3, a4, a5⟩ := h (j + 2) (by omega)
    rw [e]
    have k : ∀ i v, 12 ≤ i → W.cell? ⟨g, i, none⟩ = some v → (put6 (put6 W g 0 p) g 6 q).cell? ⟨g, i, none⟩ = some v := fun i v hi hc => (put6_far (by omega)).trans ((put6_far (by omega)).trans hc)
    exact ⟨k _ _ (by omega) a0, k _ _ (by omega) a1, k _ _ (by omega) a2, k _ _ (by omega) a3, k _ _ (by omega) a4, k _ _ (by omega) a5⟩
theorem free_of {W : World} {g : Nat} {T : TypeId} (h : ∃ cs, W.heap[g]? = some (.cells cs T (0, 0))) (j : Nat) : W.frozen? ⟨g, j, none⟩ = false := by
  obtain ⟨cs, h⟩ := h
  simp [World.frozen?, h]
theorem set_free {W : World} {g k : Nat} {T : TypeId} {v : Value} (h : ∃ cs, W.heap[g]? = some (.cells cs T (0, 0))) : ∃ cs, (W.setCell ⟨g, k, none⟩ v).heap[g]? = some (.cells cs T (0, 0)) := by
  obtain ⟨cs, h⟩ := h
  exact ⟨_, heap_setCell_same W g k _ _ v h⟩
theorem put6_free {W : World} {g o : Nat} {p : Pk} {T : TypeId} (h : ∃ cs, W.heap[g]? = some (.cells cs T (0, 0))) : ∃ cs, (put6 W g o p).heap[g]? = some (.cells cs T (0, 0)) :=
  set_free (set_free (set_free (set_free (set_free (set_free h)))))
/-- where all that is made lies -/
def Lts (W : World) (f : Nat → Nat) (gv sv hv : Value) (n : Nat) : Prop := (∀ k, gv.ownBlock = some k → k < W.heap.size) ∧ (∀ k, sv.ownBlock = some k → k < W.heap.size) ∧ (∀ k, hv.ownBlock = some k → k < W.heap.size) ∧ ∀ i, i < n → f i < W.heap.size
theorem BSt.lts {w W : World} {f : Nat → Nat} {gv sv hv : Value} {n : Nat} {G : List Nat} {H : List Int} (h : BSt w W f gv sv hv n G H) : Lts W f gv sv hv n :=
  ⟨fun k e => (h.got.lt k e).2, fun k e => (h.snt.lt k e).2, fun k e => (h.hol.lt k e).2, fun i hi => lt_of_block (h.bod i hi)⟩
theorem som_ok {w W : World} {f : Nat → Nat} {gv sv hv : Value} {n : Nat} {G : List Nat} {H : List Int} (h : BSt w W f gv sv hv n G H) (hn : n ≤ 200) : ∀ j, j < G.length → PkOk W (P f (G.getD j 0)) := fun j hj => row_ok (h.bod _ (h.lt j hj)) (by have := h.lt j hj; omega)
theorem som_mem {f : Nat → Nat} {G : List Nat} {p : Pk} (h : p ∈ Som f G) : ∃ j, j < G.length ∧ p = P f (G.getD j 0) := by
  simp only [Som, List.mem_map] at h
  obtain ⟨i, hi, rfl⟩ := h
  obtain ⟨j, hj, rfl⟩ := List.getElem_of_mem hi
  exact ⟨j, hj, by rw [List.getD_eq_getElem?_getD, List.getElem?_eq_getElem hj]; rfl⟩
end Go.Proofs.YtjnkgbdpacdgpaaDoor.ABack

