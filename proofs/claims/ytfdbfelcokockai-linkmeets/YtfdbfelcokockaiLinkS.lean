/-
  Two Links side by side in memory: what a call of one of them leaves of both.
-/
import Derived.Test.YtfdbfelcokockaiLinkB
namespace Go.Proofs.Ytfdbfelcokockai.Link
open Go.ChangeShapes Go.WideShapes Go.ChangeAt Go.RowKit Go.Proofs.Ytfdbfelcokockai.Mem Go.Proofs.Ytfdbfelcokockai.LK
set_option linter.unusedVariables false

theorem mf_three {k f y : Int} (k0 : 1 ≤ k) (k1 : k ≤ 3) (f0 : 1 ≤ f) (f1 : f ≤ 1000000) (y0 : 0 ≤ y) (y1 : y ≤ 1000000) : mf [k, f, y] = 0 := by
  unfold mf
  rw [if_neg (by simp), if_neg (by simp; omega)]
theorem hF_three {s : Lk} {k f y now : Int} (ht : tf s.nw now = 0) (hm : mf [k, f, y] = 0) : hF s [k, f, y] now = 0 := by
  unfold hF
  rw [if_neg (by simp [ht]), hm]
theorem hR_three {s : Lk} {k f y now : Int} (ht : tf s.nw now = 0) (hm : mf [k, f, y] = 0) : hR s [k, f, y] now = her s k f y now := by
  unfold hR
  rw [if_pos (hF_three ht hm)]
  rfl
theorem tR_ok {s : Lk} {now : Int} (ht : tf s.nw now = 0) : tR s now = tck s now := by unfold tR; rw [if_pos ht]
theorem oF_ok {s : Lk} {now : Int} (ht : tf s.nw now = 0) (hs : s.st ≠ 2) : oF s now = 0 := by unfold oF; rw [if_neg (by simp [ht]), if_neg hs]
theorem oR_ok {s : Lk} {now : Int} (ht : tf s.nw now = 0) (hs : s.st ≠ 2) : oR s now = opn s now := by unfold oR; rw [if_pos (oF_ok ht hs)]
theorem out_some {w : World} {v : Value} {k f y : Int} (h : Out w v [k, f, y]) : ∃ g, v = .slice (some ⟨g, 0, none⟩) 3 3 ∧ Msg w g k f y := by
  rcases h with ⟨h, _⟩ | ⟨g, k', f', y', e, rfl, h⟩
  · simp at h
  · simp only [List.cons.injEq, and_true] at e
    obtain ⟨rfl, rfl, rfl⟩ := e
    exact ⟨g, rfl, h⟩
theorem out_none {w : World} {v : Value} (h : Out w v []) : v = .slice none 0 0 := by
  rcases h with ⟨_, h⟩ | ⟨g, k', f', y', e, _⟩
  · exact h
  · simp at e
/-- two Links -/
structure TSt (w W : World) (x y : Nat) (s t : Lk) : Prop where
  bel : Below w.heap.size w W
  lx : w.heap.size ≤ x
  ly : w.heap.size ≤ y
  ne : x ≠ y
  ax : LAt W x s
  ay : LAt W y t
theorem TSt.below {w W W' : World} {x y : Nat} {s t : Lk} (h : TSt w W x y s t) (hb : Below W.heap.size W W') : TSt w W' x y s t :=
  ⟨h.bel.trans (hb.mono h.bel.size), h.lx, h.ly, h.ne, h.ax.below hb, h.ay.below hb⟩
theorem TSt.fx {w W W' : World} {x y : Nat} {s s' t : Lk} (h : TSt w W x y s t) (hl : LAt W' x s') (ho : Only [x] W W') : TSt w W' x y s' t :=
  ⟨h.bel.trans (ho.below h.bel.size (by simp; exact h.lx)), h.lx, h.ly, h.ne, hl, h.ay.only ho (by simp; exact h.ne.symm)⟩
theorem TSt.fy {w W W' : World} {x y : Nat} {s t t' : Lk} (h : TSt w W x y s t) (hl : LAt W' y t') (ho : Only [y] W W') : TSt w W' x y s t' :=
  ⟨h.bel.trans (ho.below h.bel.size (by simp; exact h.ly)), h.lx, h.ly, h.ne, h.ax.only ho (by simp; exact h.ne), hl⟩
theorem Msg.ne_x {w W : World} {x y g : Nat} {s t : Lk} {k f u : Int} (hm : Msg W g k f u) (h : TSt w W x y s t) : g ≠ x := hm.ne h.ax (by decide)
theorem Msg.ne_y {w W : World} {x y g : Nat} {s t : Lk} {k f u : Int} (hm : Msg W g k f u) (h : TSt w W x y s t) : g ≠ y := hm.ne h.ay (by decide)
theorem x_open {w W : World} {x y : Nat} {s t : Lk} (h : TSt w W x y s t) (now : Int) :
    Calls Try.prog 5 #[.pointer (some ⟨x, 0, none⟩), .int .i64 now] W fun e w' => ∃ v, e = .returned (.tuple #[v, errv (oF s now)]) ∧ TSt w w' x y (oR s now).1 t ∧ Out w' v (oR s now).2 ∧ Only [x] W w' := by
  refine (open_calls x s now W h.ax).mono ?_
  rintro e w' ⟨v, rfl, hl, hv, ho⟩
  exact ⟨v, rfl, h.fx hl ho, hv, ho⟩
theorem y_open {w W : World} {x y : Nat} {s t : Lk} (h : TSt w W x y s t) (now : Int) :
    Calls Try.prog 5 #[.pointer (some ⟨y, 0, none⟩), .int .i64 now] W fun e w' => ∃ v, e = .returned (.tuple #[v, errv (oF t now)]) ∧ TSt w w' x y s (oR t now).1 ∧ Out w' v (oR t now).2 ∧ Only [y] W w' := by
  refine (open_calls y t now W h.ay).mono ?_
  rintro e w' ⟨v, rfl, hl, hv, ho⟩
  exact ⟨v, rfl, h.fy hl ho, hv, ho⟩
theorem x_hear {w W : World} {x y g : Nat} {s t : Lk} {k f u : Int} (h : TSt w W x y s t) (hm : Msg W g k f u) (now : Int) :
    Calls Try.prog 6 #[.pointer (some ⟨x, 0, none⟩), .slice (some ⟨g, 0, none⟩) 3 3, .int .i64 now] W fun e w' => ∃ v, e = .returned (.tuple #[v, errv (hF s [k, f, u] now)]) ∧ TSt w w' x y (hR s [k, f, u] now).1 t ∧ Out w' v (hR s [k, f, u] now).2 ∧ Only [x] W w' := by
  refine (hear_calls x 3 3 _ s [k, f, u] now W h.ax hm.arg (fun _ => by rintro ad ⟨rfl⟩; exact hm.ne_x h)).mono ?_
  rintro e w' ⟨v, rfl, hl, hv, ho⟩
  exact ⟨v, rfl, h.fx hl ho, hv, ho⟩
theorem y_hear {w W : World} {x y g : Nat} {s t : Lk} {k f u : Int} (h : TSt w W x y s t) (hm : Msg W g k f u) (now : Int) :
    Calls Try.prog 6 #[.pointer (some ⟨y, 0, none⟩), .slice (some ⟨g, 0, none⟩) 3 3, .int .i64 now] W fun e w' => ∃ v, e = .returned (.tuple #[v, errv (hF t [k, f, u] now)]) ∧ TSt w w' x y s (hR t [k, f, u] now).1 ∧ Out w' v (hR t [k, f, u] now).2 ∧ Only [y] W w' := by
  refine (hear_calls y 3 3 _ t [k, f, u] now W h.ay hm.arg (fun _ => by rintro ad ⟨rfl⟩; exact hm.ne_y h)).mono ?_
  rintro e w' ⟨v, rfl, hl, hv, ho⟩
  exact ⟨v, rfl, h.fy hl ho, hv, ho⟩
theorem x_tick {w W : World} {x y : Nat} {s t : Lk} (h : TSt w W x y s t) (hI : Inv s) (now : Int) :
    Calls Try.prog 9 #[.pointer (some ⟨x, 0, none⟩), .int .i64 now] W fun e w' => ∃ v, e = .returned (.tuple #[v, errv (tf s.nw now)]) ∧ TSt w w' x y (tR s now).1 t ∧ Out w' v (tR s now).2 ∧ Only [x] W w' := by
  refine (tick_calls x s now W h.ax hI).mono ?_
  rintro e w' ⟨v, rfl, hl, hv, ho⟩
  exact ⟨v, rfl, h.fx hl ho, hv, ho⟩
theorem y_tick {w W : World} {x y : Nat} {s t : Lk} (h : TSt w W x y s t) (hI : Inv t) (now : Int) :
    Calls Try.prog 9 #[.pointer (some ⟨y, 0, none⟩), .int .i64 now] W fun e w' => ∃ v, e = .returned (.tuple #[v, errv (tf t.nw now)]) ∧ TSt w w' x y s (tR t now).1 ∧ Out w' v (tR t now).2 ∧ Only [y] W w' := by
  refine (tick_calls y t now W h.ay hI).mono ?_
  rintro e w' ⟨v, rfl, hl, hv, ho⟩
  exact ⟨v, rfl, h.fy hl ho, hv, ho⟩
/-- New, whatever is given: nothing that was is changed -/
theorem new_any (m : Int) (w : World) :
    Calls Try.prog 4 #[.int .i64 m] w fun e w' => ∃ p ev, e = .returned (.tuple #[p, ev]) ∧ Below w.heap.size w w' := by
  by_cases h : m < 1 ∨ 1000000 < m
  · refine (new_err m w h).mono ?_
    rintro e w' ⟨rfl, rfl⟩
    exact ⟨_, _, rfl, Below.refl _ _⟩
  · refine (new_ok m w (by omega) (by omega)).mono ?_
    rintro e w' ⟨rfl, _, hb⟩
    exact ⟨_, _, rfl, hb⟩
end Go.Proofs.Ytfdbfelcokockai.Link
