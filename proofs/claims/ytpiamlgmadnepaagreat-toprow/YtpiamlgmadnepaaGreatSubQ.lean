/-
  What pop of package node leaves of a subscriber. Its condition: the subscriber is such as it may be.
-/
import Derived.Test.YtpiamlgmadnepaaGreatSubP
import Derived.Test.YtpiamlgmadnepaaGreatNodeS
import Derived.Deep.LoopGhost
import Derived.Deep.CutRange
import Derived.Deep.RegionHeld3
import Derived.Deep.RegionLaw
namespace Go.Proofs.YtpiamlgmadnepaaGreat.ND
open Go.ChangeShapes Go.WideShapes Go.ChangeAt Go.RowKit Go.Maps Go.Proofs.YtpiamlgmadnepaaGreat.Mem Go.Proofs.YtpiamlgmadnepaaGreat.NO
set_option linter.unusedVariables false

theorem infoPK : (Tryz.prog.info? 38).map (fun i => (i.zero, i.size, i.bytes)) = some (some (.agg #[.int .i64 0, .int .i64 0, .int .i64 0, .int .i64 0, .bool false, .slice none 0 0]), 6, 64) := by kernel_rfl
theorem c8_len (i : OM.Kp) : (OM.c8 i).length = 8 := rfl
/-- one of the items, as it lies -/
theorem PSt.item {w wr : World} {o : Nat → Tg} {n : Nat} {x : Int} {P : SP} {av : Option Addr} {cv K : Nat} {I : OM.Its} {s : Sb} (h : PSt w wr o n x P (.slice av K cv) I s) (hI : I.length = K) {j : Nat} (hj : j < K) :
    ∃ ib i a m c, av = some ⟨ib, 0, none⟩ ∧ K ≤ cv ∧ I[j]? = some i ∧ i.p.bv = .slice a m c ∧ m = i.p.L.length ∧ wr.cell? ⟨ib, j * 8, none⟩ = some (.int .i64 i.n) ∧ wr.cell? ⟨ib, j * 8 + 1, none⟩ = some (.bool i.g) ∧ wr.cell? ⟨ib, j * 8 + 2, none⟩ = some (.int .i64 i.p.s) ∧ wr.cell? ⟨ib, j * 8 + 3, none⟩ = some (.int .i64 i.p.t) ∧ wr.cell? ⟨ib, j * 8 + 4, none⟩ = some (.int .i64 i.p.l) ∧ wr.cell? ⟨ib, j * 8 + 5, none⟩ = some (.int .i64 i.p.q) ∧ wr.cell? ⟨ib, j * 8 + 6, none⟩ = some (.bool i.p.st) ∧ wr.cell? ⟨ib, j * 8 + 7, none⟩ = some (.slice a m c) := by
  obtain ⟨oj, Q, h⟩ := h
  subst hI
  have hi : I[j]? = some I[j] := List.getElem?_eq_getElem hj
  have hrow := h.row
  rcases hrow.2 with ⟨e, h0⟩ | ⟨g, cap, cur, e, _, _, hc, _⟩
  · omega
  · cases e
    obtain ⟨a, m, c, eb, _, _, hm⟩ := body_arg (h.bod I[j] (List.getElem_mem hj))
    have k : ∀ t, t < 8 → wr.cell? ⟨g, j * 8 + t, none⟩ = (OM.c8 I[j])[t]? := fun t ht => OM.row_cell c8_len hrow hi t ht
    refine ⟨g, I[j], a, m, c, rfl, hc, hi, eb, hm, k 0 (by omega), k 1 (by omega), k 2 (by omega), k 3 (by omega), k 4 (by omega), k 5 (by omega), k 6 (by omega), ?_⟩
    rw [k 7 (by omega)]
    show some (I[j]).p.bv = _
    rw [eb]
theorem fold_step {I : OM.Its} {j : Nat} {i : OM.Kp} (h : I[j]? = some i) (s : Sb) : (I.take (j + 1)).foldl Sb.item s = ((I.take j).foldl Sb.item s).item i := by
  rw [List.take_add_one, h, List.foldl_append]
  rfl
theorem fold_uk (I : OM.Its) : ∀ (s : Sb), s.uk ≤ (I.foldl Sb.item s).uk ∧ (I.foldl Sb.item s).uk ≤ s.uk + I.length ∧ (I.foldl Sb.item s).got.length ≤ s.got.length + I.length := by
  induction I with
  | nil => intro s; simp
  | cons i I ih =>
    intro s
    obtain ⟨h1, h2, h3⟩ := ih (s.item i)
    have e : (s.item i).uk = s.uk ∨ (s.item i).uk = s.uk + 1 := by
      unfold Sb.item
      split
      · exact .inr rfl
      · exact .inl rfl
    have e2 : (s.item i).got.length ≤ s.got.length + 1 := by
      unfold Sb.item
      split
      · simp
      · show s.got.length ≤ _; omega
    simp only [List.foldl_cons, List.length_cons]
    omega
theorem s9_below {w : World} {xb sb ub : Nat} {v0 : Int} {v1 : Bool} {v2 v3 v4 v5 : Int} {v6 : Bool} {a : Option Addr} {m c : Nat} {w' : World} (hb : Below w.heap.size w w') (h : (w.cell? ⟨xb, 0, none⟩ = some (.int .i64 v0) ∧ w.cell? ⟨xb, 1, none⟩ = some (.bool v1) ∧ w.cell? ⟨xb, 2, none⟩ = some (.int .i64 v2) ∧ w.cell? ⟨xb, 3, none⟩ = some (.int .i64 v3) ∧ w.cell? ⟨xb, 4, none⟩ = some (.int .i64 v4) ∧ w.cell? ⟨xb, 5, none⟩ = some (.int .i64 v5) ∧ w.cell? ⟨xb, 6, none⟩ = some (.bool v6) ∧ w.cell? ⟨xb, 7, none⟩ = some (.slice a m c)) ∧ w.cell? ⟨sb, 4, none⟩ = some (.pointer (some ⟨ub, 0, none⟩))) : (w'.cell? ⟨xb, 0, none⟩ = some (.int .i64 v0) ∧ w'.cell? ⟨xb, 1, none⟩ = some (.bool v1) ∧ w'.cell? ⟨xb, 2, none⟩ = some (.int .i64 v2) ∧ w'.cell? ⟨xb, 3, none⟩ = some (.int .i64 v3) ∧ w'.cell? ⟨xb, 4, none⟩ = some (.int .i64 v4) ∧ w'.cell? ⟨xb, 5, none⟩ = some (.int .i64 v5) ∧ w'.cell? ⟨xb, 6, none⟩ = some (.bool v6) ∧ w'.cell? ⟨xb, 7, none⟩ = some (.slice a m c)) ∧ w'.cell? ⟨sb, 4, none⟩ = some (.pointer (some ⟨ub, 0, none⟩)) := by
  obtain ⟨⟨k0, k1, k2, k3, k4, k5, k6, k7⟩, k8⟩ := h
  exact ⟨⟨ext_cell hb k0, ext_cell hb k1, ext_cell hb k2, ext_cell hb k3, ext_cell hb k4, ext_cell hb k5, ext_cell hb k6, ext_cell hb k7⟩, ext_cell hb k8⟩
theorem s9_alloc {w : World} {xb sb ub : Nat} {v0 : Int} {v1 : Bool} {v2 v3 v4 v5 : Int} {v6 : Bool} {a : Option Addr} {m c : Nat} (O : Obj) (h : (w.cell? ⟨xb, 0, none⟩ = some (.int .i64 v0) ∧ w.cell? ⟨xb, 1, none⟩ = some (.bool v1) ∧ w.cell? ⟨xb, 2, none⟩ = some (.int .i64 v2) ∧ w.cell? ⟨xb, 3, none⟩ = some (.int .i64 v3) ∧ w.cell? ⟨xb, 4, none⟩ = some (.int .i64 v4) ∧ w.cell? ⟨xb, 5, none⟩ = some (.int .i64 v5) ∧ w.cell? ⟨xb, 6, none⟩ = some (.bool v6) ∧ w.cell? ⟨xb, 7, none⟩ = some (.slice a m c)) ∧ w.cell? ⟨sb, 4, none⟩ = some (.pointer (some ⟨ub, 0, none⟩))) : ((w.alloc O).cell? ⟨xb, 0, none⟩ = some (.int .i64 v0) ∧ (w.alloc O).cell? ⟨xb, 1, none⟩ = some (.bool v1) ∧ (w.alloc O).cell? ⟨xb, 2, none⟩ = some (.int .i64 v2) ∧ (w.alloc O).cell? ⟨xb, 3, none⟩ = some (.int .i64 v3) ∧ (w.alloc O).cell? ⟨xb, 4, none⟩ = some (.int .i64 v4) ∧ (w.alloc O).cell? ⟨xb, 5, none⟩ = some (.int .i64 v5) ∧ (w.alloc O).cell? ⟨xb, 6, none⟩ = some (.bool v6) ∧ (w.alloc O).cell? ⟨xb, 7, none⟩ = some (.slice a m c)) ∧ (w.alloc O).cell? ⟨sb, 4, none⟩ = some (.pointer (some ⟨ub, 0, none⟩)) := s9_below ((Below.refl _ _).alloc (Nat.le_refl _) _) h
theorem cell_keep {w : World} {g k : Nat} {v : Value} (hg : k ≠ g) (z0 z1 z2 z3 z4 z5 : Value) {t : Nat} (h : w.cell? ⟨k, t, none⟩ = some v) : ((((((w.setCell ⟨g, 0, none⟩ z0).setCell ⟨g, 1, none⟩ z1).setCell ⟨g, 2, none⟩ z2).setCell ⟨g, 3, none⟩ z3).setCell ⟨g, 4, none⟩ z4).setCell ⟨g, 5, none⟩ z5).cell? ⟨k, t, none⟩ = some v := by
  have hl := World.block_lt_of_cell? w ⟨k, t, none⟩ h
  have ho : Only [g] w ((((((w.setCell ⟨g, 0, none⟩ z0).setCell ⟨g, 1, none⟩ z1).setCell ⟨g, 2, none⟩ z2).setCell ⟨g, 3, none⟩ z3).setCell ⟨g, 4, none⟩ z4).setCell ⟨g, 5, none⟩ z5) := by
    iterate 6 refine Only.setCell ?_ (by simp) _
    exact Only.refl _ _
  exact (cell_same (ho.2.2.2.2 k hl (by simp; exact hg)) t).trans h
theorem s9_store {w : World} {xb sb ub : Nat} {v0 : Int} {v1 : Bool} {v2 v3 v4 v5 : Int} {v6 : Bool} {a : Option Addr} {m c : Nat} {g : Nat} (hx : xb ≠ g) (hs : sb ≠ g) (z0 z1 z2 z3 z4 z5 : Value) (h : (w.cell? ⟨xb, 0, none⟩ = some (.int .i64 v0) ∧ w.cell? ⟨xb, 1, none⟩ = some (.bool v1) ∧ w.cell? ⟨xb, 2, none⟩ = some (.int .i64 v2) ∧ w.cell? ⟨xb, 3, none⟩ = some (.int .i64 v3) ∧ w.cell? ⟨xb, 4, none⟩ = some (.int .i64 v4) ∧ w.cell? ⟨xb, 5, none⟩ = some (.int .i64 v5) ∧ w.cell? ⟨xb, 6, none⟩ = some (.bool v6) ∧ w.cell? ⟨xb, 7, none⟩ = some (.slice a m c)) ∧ w.cell? ⟨sb, 4, none⟩ = some (.pointer (some ⟨ub, 0, none⟩))) : (((((((w.setCell ⟨g, 0, none⟩ z0).setCell ⟨g, 1, none⟩ z1).setCell ⟨g, 2, none⟩ z2).setCell ⟨g, 3, none⟩ z3).setCell ⟨g, 4, none⟩ z4).setCell ⟨g, 5, none⟩ z5).cell? ⟨xb, 0, none⟩ = some (.int .i64 v0) ∧ ((((((w.setCell ⟨g, 0, none⟩ z0).setCell ⟨g, 1, none⟩ z1).setCell ⟨g, 2, none⟩ z2).setCell ⟨g, 3, none⟩ z3).setCell ⟨g, 4, none⟩ z4).setCell ⟨g, 5, none⟩ z5).cell? ⟨xb, 1, none⟩ = some (.bool v1) ∧ ((((((w.setCell ⟨g, 0, none⟩ z0).setCell ⟨g, 1, none⟩ z1).setCell ⟨g, 2, none⟩ z2).setCell ⟨g, 3, none⟩ z3).setCell ⟨g, 4, none⟩ z4).setCell ⟨g, 5, none⟩ z5).cell? ⟨xb, 2, none⟩ = some (.int .i64 v2) ∧ ((((((w.setCell ⟨g, 0, none⟩ z0).setCell ⟨g, 1, none⟩ z1).setCell ⟨g, 2, none⟩ z2).setCell ⟨g, 3, none⟩ z3).setCell ⟨g, 4, none⟩ z4).setCell ⟨g, 5, none⟩ z5).cell? ⟨xb, 3, none⟩ = some (.int .i64 v3) ∧ ((((((w.setCell ⟨g, 0, none⟩ z0).setCell ⟨g, 1, none⟩ z1).setCell ⟨g, 2, none⟩ z2).setCell ⟨g, 3, none⟩ z3).setCell ⟨g, 4, none⟩ z4).setCell ⟨g, 5, none⟩ z5).cell? ⟨xb, 4, none⟩ = some (.int .i64 v4) ∧ ((((((w.setCell ⟨g, 0, none⟩ z0).setCell ⟨g, 1, none⟩ z1).setCell ⟨g, 2, none⟩ z2).setCell ⟨g, 3, none⟩ z3).setCell ⟨g, 4, none⟩ z4).setCell ⟨g, 5, none⟩ z5).cell? ⟨xb, 5, none⟩ = some (.int .i64 v5) ∧ ((((((w.setCell ⟨g, 0, none⟩ z0).setCell ⟨g, 1, none⟩ z1).setCell ⟨g, 2, none⟩ z2).setCell ⟨g, 3, none⟩ z3).setCell ⟨g, 4, none⟩ z4).setCell ⟨g, 5, none⟩ z5).cell? ⟨xb, 6, none⟩ = some (.bool v6) ∧ ((((((w.setCell ⟨g, 0, none⟩ z0).setCell ⟨g, 1, none⟩ z1).setCell ⟨g, 2, none⟩ z2).setCell ⟨g, 3, none⟩ z3).setCell ⟨g, 4, none⟩ z4).setCell ⟨g, 5, none⟩ z5).cell? ⟨xb, 7, none⟩ = some (.slice a m c)) ∧ ((((((w.setCell ⟨g, 0, none⟩ z0).setCell ⟨g, 1, none⟩ z1).setCell ⟨g, 2, none⟩ z2).setCell ⟨g, 3, none⟩ z3).setCell ⟨g, 4, none⟩ z4).setCell ⟨g, 5, none⟩ z5).cell? ⟨sb, 4, none⟩ = some (.pointer (some ⟨ub, 0, none⟩)) := by
  obtain ⟨⟨k0, k1, k2, k3, k4, k5, k6, k7⟩, k8⟩ := h
  exact ⟨⟨cell_keep hx _ _ _ _ _ _ k0, cell_keep hx _ _ _ _ _ _ k1, cell_keep hx _ _ _ _ _ _ k2, cell_keep hx _ _ _ _ _ _ k3, cell_keep hx _ _ _ _ _ _ k4, cell_keep hx _ _ _ _ _ _ k5, cell_keep hx _ _ _ _ _ _ k6, cell_keep hx _ _ _ _ _ _ k7⟩, cell_keep hs _ _ _ _ _ _ k8⟩
theorem s9_storeA {w : World} {xb sb ub : Nat} {v0 : Int} {v1 : Bool} {v2 v3 v4 v5 : Int} {v6 : Bool} {a : Option Addr} {m c : Nat} (O : Obj) (z0 z1 z2 z3 z4 z5 : Value) (h : (w.cell? ⟨xb, 0, none⟩ = some (.int .i64 v0) ∧ w.cell? ⟨xb, 1, none⟩ = some (.bool v1) ∧ w.cell? ⟨xb, 2, none⟩ = some (.int .i64 v2) ∧ w.cell? ⟨xb, 3, none⟩ = some (.int .i64 v3) ∧ w.cell? ⟨xb, 4, none⟩ = some (.int .i64 v4) ∧ w.cell? ⟨xb, 5, none⟩ = some (.int .i64 v5) ∧ w.cell? ⟨xb, 6, none⟩ = some (.bool v6) ∧ w.cell? ⟨xb, 7, none⟩ = some (.slice a m c)) ∧ w.cell? ⟨sb, 4, none⟩ = some (.pointer (some ⟨ub, 0, none⟩))) : ((((((((w.alloc O).setCell ⟨w.heap.size, 0, none⟩ z0).setCell ⟨w.heap.size, 1, none⟩ z1).setCell ⟨w.heap.size, 2, none⟩ z2).setCell ⟨w.heap.size, 3, none⟩ z3).setCell ⟨w.heap.size, 4, none⟩ z4).setCell ⟨w.heap.size, 5, none⟩ z5).cell? ⟨xb, 0, none⟩ = some (.int .i64 v0) ∧ (((((((w.alloc O).setCell ⟨w.heap.size, 0, none⟩ z0).setCell ⟨w.heap.size, 1, none⟩ z1).setCell ⟨w.heap.size, 2, none⟩ z2).setCell ⟨w.heap.size, 3, none⟩ z3).setCell ⟨w.heap.size, 4, none⟩ z4).setCell ⟨w.heap.size, 5, none⟩ z5).cell? ⟨xb, 1, none⟩ = some (.bool v1) ∧ (((((((w.alloc O).setCell ⟨w.heap.size, 0, none⟩ z0).setCell ⟨w.heap.size, 1, none⟩ z1).setCell ⟨w.heap.size, 2, none⟩ z2).setCell ⟨w.heap.size, 3, none⟩ z3).setCell ⟨w.heap.size, 4, none⟩ z4).setCell ⟨w.heap.size, 5, none⟩ z5).cell? ⟨xb, 2, none⟩ = some (.int .i64 v2) ∧ (((((((w.alloc O).setCell ⟨w.heap.size, 0, none⟩ z0).setCell ⟨w.heap.size, 1, none⟩ z1).setCell ⟨w.heap.size, 2, none⟩ z2).setCell ⟨w.heap.size, 3, none⟩ z3).setCell ⟨w.heap.size, 4, none⟩ z4).setCell ⟨w.heap.size, 5, none⟩ z5).cell? ⟨xb, 3, none⟩ = some (.int .i64 v3) ∧ (((((((w.alloc O).setCell ⟨w.heap.size, 0, none⟩ z0).setCell ⟨w.heap.size, 1, none⟩ z1).setCell ⟨w.heap.size, 2, none⟩ z2).setCell ⟨w.heap.size, 3, none⟩ z3).setCell ⟨w.heap.size, 4, none⟩ z4).setCell ⟨w.heap.size, 5, none⟩ z5).cell? ⟨xb, 4, none⟩ = some (.int .i64 v4) ∧ (((((((w.alloc O).setCell ⟨w.heap.size, 0, none⟩ z0).setCell ⟨w.heap.size, 1, none⟩ z1).setCell ⟨w.heap.size, 2, none⟩ z2).setCell ⟨w.heap.size, 3, none⟩ z3).setCell ⟨w.heap.size, 4, none⟩ z4).setCell ⟨w.heap.size, 5, none⟩ z5).cell? ⟨xb, 5, none⟩ = some (.int .i64 v5) ∧ (((((((w.alloc O).setCell ⟨w.heap.size, 0, none⟩ z0).setCell ⟨w.heap.size, 1, none⟩ z1).setCell ⟨w.heap.size, 2, none⟩ z2).setCell ⟨w.heap.size, 3, none⟩ z3).setCell ⟨w.heap.size, 4, none⟩ z4).setCell ⟨w.heap.size, 5, none⟩ z5).cell? ⟨xb, 6, none⟩ = some (.bool v6) ∧ (((((((w.alloc O).setCell ⟨w.heap.size, 0, none⟩ z0).setCell ⟨w.heap.size, 1, none⟩ z1).setCell ⟨w.heap.size, 2, none⟩ z2).setCell ⟨w.heap.size, 3, none⟩ z3).setCell ⟨w.heap.size, 4, none⟩ z4).setCell ⟨w.heap.size, 5, none⟩ z5).cell? ⟨xb, 7, none⟩ = some (.slice a m c)) ∧ (((((((w.alloc O).setCell ⟨w.heap.size, 0, none⟩ z0).setCell ⟨w.heap.size, 1, none⟩ z1).setCell ⟨w.heap.size, 2, none⟩ z2).setCell ⟨w.heap.size, 3, none⟩ z3).setCell ⟨w.heap.size, 4, none⟩ z4).setCell ⟨w.heap.size, 5, none⟩ z5).cell? ⟨sb, 4, none⟩ = some (.pointer (some ⟨ub, 0, none⟩)) := s9_below ((((((((Below.refl _ _).alloc (Nat.le_refl _) _).setCell (Nat.le_refl _) _).setCell (Nat.le_refl _) _).setCell (Nat.le_refl _) _).setCell (Nat.le_refl _) _).setCell (Nat.le_refl _) _).setCell (Nat.le_refl _) _) h
theorem zb_write {w : World} {g : Nat} (h : Zb w g) (z0 z1 z2 z3 z4 z5 : Value) : ((((((w.setCell ⟨g, 0, none⟩ z0).setCell ⟨g, 1, none⟩ z1).setCell ⟨g, 2, none⟩ z2).setCell ⟨g, 3, none⟩ z3).setCell ⟨g, 4, none⟩ z4).setCell ⟨g, 5, none⟩ z5).heap[g]? = some (.cells #[z0, z1, z2, z3, z4, z5] 38 (0, 0)) ∧ Only [g] w ((((((w.setCell ⟨g, 0, none⟩ z0).setCell ⟨g, 1, none⟩ z1).setCell ⟨g, 2, none⟩ z2).setCell ⟨g, 3, none⟩ z3).setCell ⟨g, 4, none⟩ z4).setCell ⟨g, 5, none⟩ z5) := by
  refine ⟨?_, ?_⟩
  · have k0 := heap_setCell_same w g 0 _ _ z0 h
    have k1 := heap_setCell_same _ g 1 _ _ z1 k0
    have k2 := heap_setCell_same _ g 2 _ _ z2 k1
    have k3 := heap_setCell_same _ g 3 _ _ z3 k2
    have k4 := heap_setCell_same _ g 4 _ _ z4 k3
    have k5 := heap_setCell_same _ g 5 _ _ z5 k4
    exact k5
  · iterate 6 refine Only.setCell ?_ (by simp) _
    exact Only.refl _ _
/-- what an item that goes through is -/
theorem thru_ok {s : Sb} {i : OM.Kp} (h : s.thru i = true) : LM.tkf s.la i.n i.g (ifl i) = 0 ∧ ifl i = 0 := by
  unfold Sb.thru LM.tkx at h
  simp only [Bool.and_eq_true, decide_eq_true_eq, Bool.not_eq_true'] at h
  obtain ⟨⟨h1, h2⟩, _⟩ := h
  exact ⟨h1, (LM.tkf_zero h1).2.2.2 h2⟩
theorem item_inv {s : Sb} {i : OM.Kp} (h : UM.Inv 0 s.uk s.uT s.uo) (hk : s.uk < 2199023255552) : UM.Inv 0 (s.item i).uk (s.item i).uT (s.item i).uo := by
  unfold Sb.item
  split
  · rename_i ht
    obtain ⟨_, hf⟩ := thru_ok ht
    have ht0 : 0 ≤ i.p.t ∧ i.p.t ≤ 4294967295 := by
      obtain ⟨_, t', _, _, _, e, _, _, _, h1, _⟩ := PM.fault_zero hf
      omega
    exact h.next hk ht0.1 ht0.2
  · exact h
theorem fold_inv {I : OM.Its} : ∀ {s : Sb}, UM.Inv 0 s.uk s.uT s.uo → s.uk + I.length ≤ 2199023255551 → UM.Inv 0 (I.foldl Sb.item s).uk (I.foldl Sb.item s).uT (I.foldl Sb.item s).uo := by
  induction I with
  | nil => intro s h _; exact h
  | cons i I ih =>
    intro s h hk
    simp only [List.length_cons] at hk
    have e := (fold_uk [i] s).2.1
    simp only [List.foldl_cons, List.foldl_nil, List.length_singleton] at e
    exact ih (item_inv h (by omega)) (by omega)
set_option maxHeartbeats 4000000 in
set_option maxRecDepth 100000 in
theorem spop_calls (n : Nat) (x : Int) (o : Nat → Tg) (P : SP) (s : Sb) (now : Int) (K : Nat) (w : World) (hn : n ≠ 0) (h : SbAt w o P s) (hO : Own o ⟨n, 4, x⟩ (sblks P)) (hI : SbI s) (ht : OM.tf s.on now = 0) (hK : Order.Many 10 s.on s.ox now s.oM K) (hk : s.uk + K ≤ 2199023255551) (hg : s.got.length + K ≤ 2199023255551) :
    Calls Tryz.prog 120 #[.pointer (some ⟨P.s, 0, none⟩), .int .i64 now] w fun e w' => e = .returned (.tuple #[]) ∧ ∃ o' Q, SbAt w' o' Q (s.pop now K) ∧ Q.s = P.s ∧ Own o' ⟨n, 4, x⟩ (sblks Q) ∧ Ext w o o' ∧ Chg o (fun g => g = ⟨n, 4, x⟩) w w' := by
  obtain ⟨M', eM, hM⟩ := h.ord
  have hI' : OM.Inv s.on s.ox M' := inv_sk (by rw [eM]; exact hI.oi)
  have hK' : Order.Many 10 s.on s.ox now M' K := many_sk (by rw [eM]; exact hK)
  have C0 := Order.pop_calls P.ob P.om 10 s.on s.ox now M' K w hM hI' hK'
  rw [ht] at C0
  obtain ⟨I, hIe⟩ : ∃ I, OM.takes M' s.ox K = I := ⟨_, rfl⟩
  rw [hIe] at C0
  have hIl : I.length = K := by rw [← hIe]; exact OM.takes_len _ _ _
  obtain ⟨s0, hs0⟩ : ∃ s0, s.popped now K = s0 := ⟨_, rfl⟩
  have hres : s.pop now K = I.foldl Sb.item s0 := by
    unfold Sb.pop
    rw [hs0, ← eM, takes_sk, hIe, List.foldl_map]
    rfl
  rw [hres]
  have HP : Hid (Calls Tryz.prog 32 #[.pointer (some ⟨P.ob, 0, none⟩), .int .i64 now] w fun e w1 => ∃ av cv, e = .returned (.tuple #[.slice av K cv, .nilIface]) ∧ Hid (PSt w w1 o n x P (.slice av K cv) I s0)) := by
    refine hidden (C0.mono ?_)
    rintro e w1 ⟨av, cv, rfl, q1, q2, q3, q4⟩
    refine ⟨av, cv, rfl, hidden ?_⟩
    have he := grow_ext o w nobody
    have ha := h.ord' hn hO q3 q4
    have hin : ∀ k ∈ [P.ob, P.om], k ∈ sblks P := by intro k hk; simp at hk; rcases hk with e | e <;> simp [sblks, e]
    have hgot := h.got.own (o' := grow o w nobody) q4 (fun k hk => by simp; exact ⟨(h.sep.gv k hk).2.1, (h.sep.gv k hk).2.2.1⟩) (own_ne0 hO hn hin) he
    refine ⟨grow o w nobody, P, ⟨?_, ⟨rfl, rfl, rfl, rfl, rfl⟩, hO.ext he h.lt, he, only_chg1 q4 h hO hin, by rw [hIl]; exact RM.own_base q1 (Nat.zero_le _), q2, fun k hk => grow_zero (q1.lt k hk).1⟩⟩
    rw [← hs0]
    unfold Sb.popped
    rw [← eM, rest_sk]
    exact ⟨ha.box, ha.ord, ha.lay, ha.out, hgot⟩
  have c2 := h.cells.1
  have hk0 : s0.uk + K ≤ 2199023255551 := by rw [← hs0]; exact hk
  have hg0 : s0.got.length + K ≤ 2199023255551 := by rw [← hs0]; exact hg
  have hu0 : UM.Inv 0 s0.uk s0.uT s0.uo := by rw [← hs0]; exact hI.ui
  have HU := hidden hu0
  have HIl := hidden hIl
  have HKG := hidden (And.intro hk0 hg0)
  have hK2 := hK.le
  have HEnd : Hid (∀ wr iv, PSt w wr o n x P iv I (I.foldl Sb.item s0) → ∃ o' Q, SbAt wr o' Q (I.foldl Sb.item s0) ∧ Q.s = P.s ∧ Own o' ⟨n, 4, x⟩ (sblks Q) ∧ Ext w o o' ∧ Chg o (fun g => g = ⟨n, 4, x⟩) w wr) := by
    refine hidden ?_
    rintro wr iv ⟨oj, Q, hq⟩
    exact ⟨oj, Q, hq.at', hq.same.1, hq.own, hq.ext, hq.chg⟩
  obtain ⟨i0, hii, hz0, hz1, hz2⟩ := info_parts infoPK
  obtain ⟨sb, hsb⟩ : ∃ b, P.s = b := ⟨_, rfl⟩
  obtain ⟨lb, hlb⟩ : ∃ b, P.lb = b := ⟨_, rfl⟩
  obtain ⟨ub, hub⟩ : ∃ b, P.ub = b := ⟨_, rfl⟩
  rw [hsb] at c2 HEnd
  rw [hsb]
  have HPS := hidden (And.intro hsb (And.intro hlb hub))
  clear h hO hI ht hK hk hg hM hI' hK' C0 hIe hIl hs0 hres hk0 hg0 hu0 eM hsb hlb hub
  go_enter Tryz.func120, Tryz.ntmps120
  go_wp2_with fail
  refine HP.out.mono ?_
  rintro e w1 ⟨av, cv, rfl, HP1⟩
  clear HP c2
  go_wp2_with fail
  go_loopg [25] K (fun g y wr => ∃ j : Nat, j + g = K ∧ y = .int .i64 (j : Int) ∧ Hid (PSt w wr o n x P (.slice av K cv) I ((I.take j).foldl Sb.item s0)))
  case atStart => exact ⟨0, by omega, rfl, HP1⟩
  case round =>
    obtain ⟨j, hjg, rfl, HS⟩ := hrel
    by_cases hj : j < K
    · have hjz : (j : Int) < (K : Int) := by omega
      obtain ⟨ib, i, a, m, c, rfl, hcv, hIj, hbv, hm, d0, d1, d2, d3, d4, d5, d6, d7⟩ := HS.out.item HIl.out hj
      obtain ⟨sj, hsj⟩ : ∃ sj, (I.take j).foldl Sb.item s0 = sj := ⟨_, rfl⟩
      have hfu := fold_uk (I.take j) s0
      have hlt : (I.take j).length = j := by rw [List.length_take, HIl.out]; omega
      rw [hlt, hsj] at hfu
      have hkg := HKG.out
      have huj : UM.Inv 0 sj.uk sj.uT sj.uo := by rw [← hsj]; exact fold_inv HU.out (by rw [hlt]; omega)
      have hukj : sj.uk < 2199023255552 := by omega
      have hgtj : sj.got.length < 2199023255551 := by omega
      have hmem : i ∈ I := List.mem_of_getElem? hIj
      have HNx : Hid ((I.take (j + 1)).foldl Sb.item s0 = sj.item i) := by rw [fold_step hIj, hsj]; exact hidden rfl
      obtain ⟨W1, hW1⟩ : ∃ W1, wr.alloc (.cells #[.int .i64 i.n, .bool i.g, .int .i64 i.p.s, .int .i64 i.p.t, .int .i64 i.p.l, .int .i64 i.p.q, .bool i.p.st, .slice a m c] 82) = W1 := ⟨_, rfl⟩
      have hL0 : PStI w W1 o n x P (.slice (some ⟨ib, 0, none⟩) K cv) I sj wr.heap.size i a m c := by rw [← hW1, ← hsj]; exact HS.out.load
      have hL := hL0.drew
      obtain ⟨S8, c3, c4⟩ := hL.cells
      have CT := hL.take hn hm
      obtain ⟨xb, hxb⟩ : ∃ xb, wr.heap.size = xb := ⟨_, rfl⟩
      rw [HPS.out.1, HPS.out.2.1] at c3 CT
      rw [hxb] at S8 CT
      have hS0 := And.intro S8 c3
      have HNX : Hid (∀ w2, PStI w w2 o n x P (.slice (some ⟨ib, 0, none⟩) K cv) I (sj.laid i) xb i a m c → sj.thru i = true → (I8 w2 xb i a m c ∧ w2.cell? ⟨sb, 4, none⟩ = some (.pointer (some ⟨ub, 0, none⟩))) ∧ Calls Tryz.prog 34 #[.pointer (some ⟨ub, 0, none⟩), .agg #[.int .i64 i.p.s, .int .i64 i.p.t, .int .i64 i.p.l, .int .i64 i.p.q, .bool i.p.st, .slice a m c]] w2 fun e w' => ∃ a' c', e = .returned (.tuple #[.agg #[.int .i64 (sj.outp i).s, .int .i64 (sj.outp i).t, .int .i64 i.p.l, .int .i64 i.p.q, .bool i.p.st, .slice a' m c'], .nilIface]) ∧ (I8 w' xb i a m c ∧ w'.cell? ⟨sb, 4, none⟩ = some (.pointer (some ⟨ub, 0, none⟩))) ∧ Hid (PStB w w' o n x P (.slice (some ⟨ib, 0, none⟩) K cv) I ((sj.laid i).next i) (.slice a' m c') i.p.L)) := by
        refine hidden ?_
        intro w2 h2 hth
        have hcs := h2.cells
        rw [HPS.out.1, HPS.out.2.2] at hcs
        refine ⟨⟨hcs.1, hcs.2.2⟩, ?_⟩
        have C := h2.next hn hmem hbv (thru_ok hth).2 huj hukj
        rw [HPS.out.2.2, HPS.out.1] at C
        exact C
      have HNJ : Hid (∀ w2, PStI w w2 o n x P (.slice (some ⟨ib, 0, none⟩) K cv) I (sj.laid i) xb i a m c → sj.thru i = true → xb ≠ w2.heap.size ∧ sb ≠ w2.heap.size ∧ (I8 (w2.alloc (.cells #[.int .i64 0, .int .i64 0, .int .i64 0, .int .i64 0, .bool false, .slice none 0 0] 38)).drew xb i a m c ∧ (w2.alloc (.cells #[.int .i64 0, .int .i64 0, .int .i64 0, .int .i64 0, .bool false, .slice none 0 0] 38)).drew.cell? ⟨sb, 4, none⟩ = some (.pointer (some ⟨ub, 0, none⟩))) ∧ Calls Tryz.prog 34 #[.pointer (some ⟨ub, 0, none⟩), .agg #[.int .i64 i.p.s, .int .i64 i.p.t, .int .i64 i.p.l, .int .i64 i.p.q, .bool i.p.st, .slice a m c]] (w2.alloc (.cells #[.int .i64 0, .int .i64 0, .int .i64 0, .int .i64 0, .bool false, .slice none 0 0] 38)).drew fun e w' => ∃ a' c', e = .returned (.tuple #[.agg #[.int .i64 (sj.outp i).s, .int .i64 (sj.outp i).t, .int .i64 i.p.l, .int .i64 i.p.q, .bool i.p.st, .slice a' m c'], .nilIface]) ∧ (I8 w' xb i a m c ∧ w'.cell? ⟨sb, 4, none⟩ = some (.pointer (some ⟨ub, 0, none⟩))) ∧ Zb w' w2.heap.size ∧ Hid (PStBJ w w' o n x P (.slice (some ⟨ib, 0, none⟩) K cv) I ((sj.laid i).next i) (.slice a' m c') i.p.L w2.heap.size)) := by
        refine hidden ?_
        intro w2 h2 hth
        have hcs := h2.cells
        rw [HPS.out.1, HPS.out.2.2] at hcs
        have hbl : Below w2.heap.size w2 (w2.alloc (.cells #[.int .i64 0, .int .i64 0, .int .i64 0, .int .i64 0, .bool false, .slice none 0 0] 38)).drew := ((Below.refl _ _).alloc (Nat.le_refl _) _).drew
        have hzb : Zb (w2.alloc (.cells #[.int .i64 0, .int .i64 0, .int .i64 0, .int .i64 0, .bool false, .slice none 0 0] 38)).drew w2.heap.size := heap_alloc_new w2 _
        obtain ⟨oj, Q, hJ, hIB, h0, hne⟩ := h2.ahead hbl hzb
        have hsl := World.block_lt_of_cell? w2 ⟨sb, 4, none⟩ hcs.2.2
        refine ⟨hne, by simp only at hsl; omega, ⟨hIB.cells, ext_cell hbl hcs.2.2⟩, ?_⟩
        have C := PStI.nextJ (w0 := w2) hn hJ hIB h0 hzb hmem hbv (thru_ok hth).2 huj hukj
        rw [HPS.out.2.2, HPS.out.1] at C
        exact C
      have HAp : Hid (∀ W v, PStB w W o n x P (.slice (some ⟨ib, 0, none⟩) K cv) I ((sj.laid i).next i) v i.p.L → Apd w W o n x P (.slice (some ⟨ib, 0, none⟩) K cv) I ((sj.laid i).next i) v (sj.outp i)) := hidden (fun W v hB => hB.app hn (sj.outp i))
      have HTh : Hid (sj.thru i = true → LM.tkf sj.la i.n i.g (ifl i) = 0) := hidden (fun h => (thru_ok h).1)
      have HI1 : Hid (sj.thru i = false → sj.item i = sj.laid i) := hidden (fun h => by unfold Sb.item; rw [if_neg (by simp [h])])
      have HI2 : Hid (sj.thru i = true → sj.item i = { (sj.laid i).next i with got := ((sj.laid i).next i).got ++ [sj.outp i] }) := hidden (fun h => by unfold Sb.item; rw [if_pos h]; rfl)
      have HG2 : Hid (((sj.laid i).next i).got.length < 2199023255551) := hidden hgtj
      obtain ⟨th, hth⟩ : ∃ th, sj.thru i = th := ⟨_, rfl⟩
      obtain ⟨f, hf⟩ : ∃ f, LM.tkf sj.la i.n i.g (ifl i) = f := ⟨_, rfl⟩
      rw [hth] at CT HNX HNJ HTh HI1 HI2
      rw [hf] at CT HTh
      obtain ⟨v0, hv0⟩ : ∃ v, i.n = v := ⟨_, rfl⟩
      obtain ⟨v1, hv1⟩ : ∃ v, i.g = v := ⟨_, rfl⟩
      obtain ⟨v2, hv2⟩ : ∃ v, i.p.s = v := ⟨_, rfl⟩
      obtain ⟨v3, hv3⟩ : ∃ v, i.p.t = v := ⟨_, rfl⟩
      obtain ⟨v4, hv4⟩ : ∃ v, i.p.l = v := ⟨_, rfl⟩
      obtain ⟨v5, hv5⟩ : ∃ v, i.p.q = v := ⟨_, rfl⟩
      obtain ⟨v6, hv6⟩ : ∃ v, i.p.st = v := ⟨_, rfl⟩
      obtain ⟨u0, hu0⟩ : ∃ v, (sj.outp i).s = v := ⟨_, rfl⟩
      obtain ⟨u1, hu1⟩ : ∃ v, (sj.outp i).t = v := ⟨_, rfl⟩
      have HPC : Hid (∀ v, pc (sj.outp i) v = [.int .i64 u0, .int .i64 u1, .int .i64 v4, .int .i64 v5, .bool v6, v]) := hidden (fun v => by unfold pc; rw [hu0, hu1]; show [Value.int .i64 u0, .int .i64 u1, .int .i64 i.p.l, .int .i64 i.p.q, .bool i.p.st, v] = _; rw [hv4, hv5, hv6])
      unfold I8 at hS0 CT HNX HNJ
      rw [hv0, hv1, hv2, hv3, hv4, hv5, hv6] at hS0 CT
      rw [hu0, hu1] at HNX HNJ
      rw [hv0, hv1, hv2, hv3, hv4, hv5, hv6] at HNX HNJ
      rw [hv0] at d0
      rw [hv1] at d1
      rw [hv2] at d2
      rw [hv3] at d3
      rw [hv4] at d4
      rw [hv5] at d5
      rw [hv6] at d6
      rw [hv0, hv1, hv2, hv3, hv4, hv5, hv6] at hW1
      have HCT := hidden CT
      have HW1 := hidden hW1
      clear hsj hfu hlt hkg huj hukj hgtj hmem hW1 hL0 hL S8 c3 c4 CT HS hIj hbv hm hth hf hv0 hv1 hv2 hv3 hv4 hv5 hv6 hu0 hu1
      go_upto_region 5 with fail
      first | rw [HW1.out] | skip
      clear hxb
      go_region_held3 (fun w' => (w'.cell? ⟨xb, 0, none⟩ = some (.int .i64 v0) ∧ w'.cell? ⟨xb, 1, none⟩ = some (.bool v1) ∧ w'.cell? ⟨xb, 2, none⟩ = some (.int .i64 v2) ∧ w'.cell? ⟨xb, 3, none⟩ = some (.int .i64 v3) ∧ w'.cell? ⟨xb, 4, none⟩ = some (.int .i64 v4) ∧ w'.cell? ⟨xb, 5, none⟩ = some (.int .i64 v5) ∧ w'.cell? ⟨xb, 6, none⟩ = some (.bool v6) ∧ w'.cell? ⟨xb, 7, none⟩ = some (.slice a m c)) ∧ w'.cell? ⟨sb, 3, none⟩ = some (.pointer (some ⟨lb, 0, none⟩))) (with_reducible assumption) (first | (go_at_call 33; refine HCT.out.mono ?_; rintro e w2 ⟨rfl, hS2, HP2⟩))
      have q1 := cmp_ne f
      have q2 := grd_ne f
      cases th with
      | false =>
        have HP3 : Hid (PSt w w2 o n x P (.slice (some ⟨ib, 0, none⟩) K cv) I ((I.take (j + 1)).foldl Sb.item s0)) := by
          rw [HNx.out, HI1.out rfl]
          exact hidden HP2.out.out
        clear HP2 hS2 hS0 HNX HNJ HAp HI1 HI2 HTh d0 d1 d2 d3 d4 d5 d6 d7
        by_cases hf0 : f = 0
        · have e0 : decide (f = 0) = true := by simpa using hf0
          clear hf0
          go_wp2_with fail
          go_roundg (K - (j + 1))
          case measure => omega
          case rel => exact ⟨j + 1, by omega, by go_num, HP3⟩
        · have e0 : decide (f = 0) = false := by simpa using hf0
          clear hf0
          go_wp2_with fail
          go_roundg (K - (j + 1))
          case measure => omega
          case rel => exact ⟨j + 1, by omega, by go_num, HP3⟩
      | true =>
        have e0 : decide (f = 0) = true := by simpa using HTh.out rfl
        obtain ⟨hS3, C3⟩ := HNX.out w2.drew HP2.out.drew rfl
        obtain ⟨hxg, hsg, hS5, C5⟩ := HNJ.out w2 HP2.out rfl
        have HC3 := hidden C3
        have HC5 := hidden C5
        clear HP2 hS2 hS0 HNX HNJ HI1 HTh d0 d1 d2 d3 d4 d5 d6 d7 C3 C5
        go_upto_region 7 with fail
        go_cut [10, 11] from 44 to 66 (fun p e wx => ∃ g a' c', p = .pointer (some ⟨g, 0, none⟩) ∧ e = .nilIface ∧ Hid (wx.heap[g]? = some (.cells #[.int .i64 u0, .int .i64 u1, .int .i64 v4, .int .i64 v5, .bool v6, .slice a' m c'] 38 (0, 0)) ∧ PStB w wx o n x P (.slice (some ⟨ib, 0, none⟩) K cv) I ((sj.laid i).next i) (.slice a' m c') i.p.L))
        case first =>
          go_region_held3 (fun w' => (w'.cell? ⟨xb, 0, none⟩ = some (.int .i64 v0) ∧ w'.cell? ⟨xb, 1, none⟩ = some (.bool v1) ∧ w'.cell? ⟨xb, 2, none⟩ = some (.int .i64 v2) ∧ w'.cell? ⟨xb, 3, none⟩ = some (.int .i64 v3) ∧ w'.cell? ⟨xb, 4, none⟩ = some (.int .i64 v4) ∧ w'.cell? ⟨xb, 5, none⟩ = some (.int .i64 v5) ∧ w'.cell? ⟨xb, 6, none⟩ = some (.bool v6) ∧ w'.cell? ⟨xb, 7, none⟩ = some (.slice a m c)) ∧ w'.cell? ⟨sb, 4, none⟩ = some (.pointer (some ⟨ub, 0, none⟩))) (first | with_reducible assumption | with_reducible exact s9_storeA _ _ _ _ _ _ _ (by with_reducible assumption) | with_reducible exact s9_store hxg hsg _ _ _ _ _ _ (by with_reducible assumption) | with_reducible exact s9_alloc _ (by with_reducible assumption)) (first | (go_at_call 34; with_reducible refine HC3.out.mono ?_; rintro e w3 ⟨a3, c3', rfl, hS4, HP4⟩) | (go_at_call 34; with_reducible refine HC5.out.mono ?_; rintro e w3 ⟨a3, c3', rfl, hS4, hz4, HP4⟩; obtain ⟨z0, z1, z2, z3, z4, z5, f0, f1, f2, f3, f4, f5⟩ := hz4.cells))
          · go_wp2_with fail
            go_meet
            exact ⟨w3.heap.size, a3, c3', rfl, rfl, hidden ⟨heap_alloc_new w3 _, HP4.out.below ((Below.refl _ _).alloc (Nat.le_refl _) _)⟩⟩
          · go_wp2_with fail
            go_meet
            exact ⟨w2.heap.size, a3, c3', rfl, rfl, hidden ⟨(zb_write hz4 _ _ _ _ _ _).1, HP4.out.write hn (zb_write hz4 _ _ _ _ _ _).2⟩⟩
        case rest =>
          obtain ⟨g, a', c', rfl, rfl, HB⟩ := hcut
          obtain ⟨gv, xs, cg, fg, ⟨ga, gc, rfl⟩, hrow, hnext⟩ := HAp.out wc _ HB.out.2
          have hbx := HB.out.1
          rw [HPS.out.1] at cg fg hnext
          rw [HPC.out] at hnext
          have y0 : wc.cell? ⟨g, 0, none⟩ = some (.int .i64 u0) := by simp [World.cell?, hbx]
          have y1 : wc.cell? ⟨g, 1, none⟩ = some (.int .i64 u1) := by simp [World.cell?, hbx]
          have y2 : wc.cell? ⟨g, 2, none⟩ = some (.int .i64 v4) := by simp [World.cell?, hbx]
          have y3 : wc.cell? ⟨g, 3, none⟩ = some (.int .i64 v5) := by simp [World.cell?, hbx]
          have y4 : wc.cell? ⟨g, 4, none⟩ = some (.bool v6) := by simp [World.cell?, hbx]
          have y5 : wc.cell? ⟨g, 5, none⟩ = some (.slice a' m c') := by simp [World.cell?, hbx]
          obtain ⟨gl, hgl⟩ : ∃ gl, ((sj.laid i).next i).got.length = gl := ⟨_, rfl⟩
          rw [hgl] at cg hrow hnext HG2
          have hgl2 := HG2.out
          have HR := hidden hrow
          have HNx2 := hidden hnext
          have cgA : (wc.alloc (.cells #[.int .i64 u0, .int .i64 u1, .int .i64 v4, .int .i64 v5, .bool v6, .slice a' m c'] 38)).cell? ⟨sb, 5, none⟩ = some (.slice ga gl gc) := ext_cell ((Below.refl _ _).alloc (Nat.le_refl _) _) cg
          clear HAp hrow hnext hbx hgl hxg hsg hS3 hS5
          go_upto_region 9 with fail
          go_region_law (refine step_append_lies _ (by rfl) _ _ _ (by rfl) 0 38 i0 _ 6 64 Tryz.underlying33 hii hz0 hz1 hz2 rfl (by omega) _ gl xs (by rfl) ((HR.out.alloc _).drew) ⟨wc.heap.size, 0, none⟩ 1 1 [.int .i64 u0, .int .i64 u1, .int .i64 v4, .int .i64 v5, .bool v6, .slice a' m c'] (by rfl) (by rfl) (World.news_of_block (cs := #[.int .i64 u0, .int .i64 u1, .int .i64 v4, .int .i64 v5, .bool v6, .slice a' m c']) (t := 38) (fr := (0, 0)) (heap_alloc_new wc _)) (by simp [Value.oneCell']) (by omega) (by unfold maxLen; omega) (by omega) (Nat.zero_le _) (wc.heap.size + 1) (by simp) ?_; intro gg c6 w6 hown hgrow hat hlt; obtain ⟨e5, f5, hfin⟩ := HNx2.out gg c6 w6 hown hgrow hat; have HF := hidden hfin; clear hown hgrow hat hlt hfin)
          all_goals
            obtain ⟨w7, hw7⟩ : ∃ w7, w6.setCell ⟨sb, 5, none⟩ (.slice (some ⟨gg, 0, none⟩) (gl + 1) c6) = w7 := ⟨_, rfl⟩
            have HP9 : Hid (PSt w w7 o n x P (.slice (some ⟨ib, 0, none⟩) K cv) I ((I.take (j + 1)).foldl Sb.item s0)) := by
              rw [HNx.out, HI2.out rfl, ← hw7]
              exact hidden HF.out
            rw [hw7]
            clear hw7 HF e5 f5
            go_wp2_with fail
            go_roundg (K - (j + 1))
            case measure => omega
            case rel => exact ⟨j + 1, by omega, by go_num, HP9⟩
    · have hjz : ¬ (j : Int) < (K : Int) := by omega
      obtain rfl : j = K := by omega
      have hfin := HS.out
      rw [List.take_of_length_le (by rw [HIl.out]; exact Nat.le_refl _)] at hfin
      have HF := hidden (HEnd.out wr _ hfin)
      clear hfin HS
      go_wp2_with fail
      go_end0
      exact ⟨rfl, HF.out⟩
end Go.Proofs.YtpiamlgmadnepaaGreat.ND

