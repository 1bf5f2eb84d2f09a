/-
  Two Links and what they said to each other, in memory: what a call of one of them leaves of all that, whatever message of the other's it hears.
-/
import Derived.Test.YtfdbfelcokockaiLinkS
namespace Go.Proofs.Ytfdbfelcokockai.Meets
open Go.ChangeShapes Go.WideShapes Go.ChangeAt Go.RowKit Go.Proofs.Ytfdbfelcokockai.Mem Go.Proofs.Ytfdbfelcokockai.LK Go.Proofs.Ytfdbfelcokockai.Link
set_option linter.unusedVariables false

/-- what goes out: nothing, or a message of this one -/
def Good (me : Int) (O : List Int) : Prop := O = [] ∨ ∃ k u, O = [k, me, u] ∧ 1 ≤ k ∧ k ≤ 3 ∧ 0 ≤ u ∧ u ≤ 1000000
theorem good_ans {s : Lk} {k f now : Int} (f0 : 1 ≤ f) (f1 : f ≤ 1000000) : Good s.me (ans s k f now).2 := by
  unfold ans
  split
  · exact .inl rfl
  · split
    · exact .inr ⟨2, f, rfl, by omega, by omega, by omega, f1⟩
    · split
      · exact .inl rfl
      · exact .inr ⟨3, f, rfl, by omega, by omega, by omega, f1⟩
theorem good_her {s : Lk} {k f y now : Int} (f0 : 1 ≤ f) (f1 : f ≤ 1000000) : Good s.me (her s k f y now).2 := by
  unfold her
  split
  · exact .inl rfl
  · exact good_ans f0 f1
theorem ot_range {s : Lk} (h : Inv s) : 0 ≤ s.ot ∧ s.ot ≤ 1000000 := by
  by_cases q : s.st = 2
  · have := h.o1 q; omega
  · have := h.o0 q; omega
theorem good_tck {s : Lk} (h : Inv s) {now : Int} : Good s.me (tck s now).2 := by
  obtain ⟨o0, o1⟩ := ot_range h
  unfold tck
  split
  · exact .inl rfl
  · split
    · exact .inl rfl
    · split
      · exact .inr ⟨3, s.ot, rfl, by omega, by omega, o0, o1⟩
      · exact .inr ⟨1, s.ot, rfl, by omega, by omega, o0, o1⟩
theorem good_opn {s : Lk} (h : Inv s) {now : Int} : Good s.me (opn s now).2 := by
  obtain ⟨o0, o1⟩ := ot_range h
  exact .inr ⟨1, s.ot, rfl, by omega, by omega, o0, o1⟩
theorem her_me (s : Lk) (k f y now : Int) : (her s k f y now).1.me = s.me ∧ (her s k f y now).1.nw = now := by
  unfold her ans
  split
  · exact ⟨rfl, rfl⟩
  · split
    · exact ⟨rfl, rfl⟩
    · split
      · exact ⟨rfl, rfl⟩
      · split <;> exact ⟨rfl, rfl⟩
theorem her_ot (s : Lk) (k f y now : Int) : (her s k f y now).1.st = 2 → (s.st = 2 ∧ (her s k f y now).1.ot = s.ot) ∨ (her s k f y now).1.ot = f := by
  unfold her ans
  split
  · exact fun h => .inl ⟨h, rfl⟩
  · split
    · exact fun h => .inl ⟨h, rfl⟩
    · split
      · exact fun _ => .inr rfl
      · split <;> exact fun _ => .inr rfl
theorem tck_me (s : Lk) (now : Int) : (tck s now).1.me = s.me ∧ (tck s now).1.nw = now := by
  unfold tck
  split
  · exact ⟨rfl, rfl⟩
  · split
    · exact ⟨rfl, rfl⟩
    · split <;> exact ⟨rfl, rfl⟩
theorem tck_ot (s : Lk) (now : Int) : (tck s now).1.st = 2 → s.st = 2 ∧ (tck s now).1.ot = s.ot := by
  unfold tck
  split
  · exact fun h => absurd h (by simp)
  · split
    · exact fun h => ⟨h, rfl⟩
    · split <;> exact fun h => ⟨h, rfl⟩
theorem tck_end {s : Lk} (h : Inv s) {now : Int} (hn : s.nw + 30 ≤ now) : (tck s now).1.st ≠ 2 ∧ (tck s now).1.ot = 0 := by
  have h1 := h.h1
  by_cases q : s.st = 2
  · have e : tck s now = (⟨now, s.me, 0, 0, s.hd, s.sd⟩, []) := by unfold tck; rw [if_pos ⟨q, by omega⟩]
    rw [e]
    exact ⟨by simp, rfl⟩
  · have h0 := h.o0 q
    unfold tck
    rw [if_neg (fun e => q e.1)]
    split
    · exact ⟨q, h0⟩
    · first | exact ⟨q, h0⟩ | (split <;> exact ⟨q, h0⟩)

/-- a value is nothing, or a message of a time from lo to hi -/
def Fine (W : World) (v : Value) (lo hi : Int) : Prop := v = .slice none 0 0 ∨ ∃ g k f u, v = .slice (some ⟨g, 0, none⟩) 3 3 ∧ Msg W g k f u ∧ 1 ≤ k ∧ k ≤ 3 ∧ lo ≤ f ∧ f ≤ hi ∧ 0 ≤ u ∧ u ≤ 1000000
theorem fine_of {W : World} {v : Value} {O : List Int} {me lo hi : Int} (h : Out W v O) (hg : Good me O) (h0 : lo ≤ me) (h1 : me ≤ hi) : Fine W v lo hi := by
  rcases hg with rfl | ⟨k, u, rfl, k0, k1, u0, u1⟩
  · exact .inl (out_none h)
  · obtain ⟨g, rfl, hm⟩ := out_some h
    exact .inr ⟨g, k, me, u, rfl, hm, k0, k1, h0, h1, u0, u1⟩

/-- what was said to one side: a row of messages of times from lo to hi -/
structure Box (w W : World) (v : Value) (n : Nat) (lo hi : Int) : Prop where
  row : ∃ xs, W.ownsRow w.heap.size 28 1 v n xs ∧ ∀ j, j < n → ∃ g k f u, xs[j]? = some (.slice (some ⟨g, 0, none⟩) 3 3) ∧ Msg W g k f u ∧ 1 ≤ k ∧ k ≤ 3 ∧ lo ≤ f ∧ f ≤ hi ∧ 0 ≤ u ∧ u ≤ 1000000
theorem Box.nil (w W : World) (lo hi : Int) : Box w W (.slice none 0 0) 0 lo hi := ⟨[], World.ownsRow_nil _ _ _ _, fun j hj => absurd hj (by omega)⟩
theorem row_ne {W : World} {base n b : Nat} {v : Value} {xs : List Value} {cs : Array Value} {t : TypeId} (h : W.ownsRow base 28 1 v n xs) (hb : W.heap[b]? = some (.cells cs t (0, 0))) (ht : t ≠ 28) : v.ownBlock ≠ some b := by
  intro e
  rcases h.2 with ⟨rfl, _⟩ | ⟨g, cap, cur, rfl, _, hg, _⟩
  · simp [Value.ownBlock] at e
  · simp [Value.ownBlock] at e
    subst e
    rw [hg] at hb
    simp at hb
    exact ht hb.2.symm
theorem row_only {W W' : World} {base n : Nat} {v : Value} {xs : List Value} {bs : List Nat} (h : W.ownsRow base 28 1 v n xs) (ho : Only bs W W') (hv : ∀ g, v.ownBlock = some g → g ∉ bs) : W'.ownsRow base 28 1 v n xs := by
  refine ⟨h.1, ?_⟩
  rcases h.2 with hl | ⟨g, cap, cur, rfl, hg, hbl, rest⟩
  · exact .inl hl
  · exact .inr ⟨g, cap, cur, rfl, hg, ho.block hbl (hv g rfl), rest⟩
theorem Box.only {w W W' : World} {v : Value} {n : Nat} {lo hi : Int} {bs : List Nat} (h : Box w W v n lo hi) (ho : Only bs W W') (hv : ∀ g, v.ownBlock = some g → g ∉ bs) (hm : ∀ g k f u, Msg W g k f u → g ∉ bs) : Box w W' v n lo hi := by
  obtain ⟨xs, h1, h2⟩ := h.row
  refine ⟨xs, row_only h1 ho hv, fun j hj => ?_⟩
  obtain ⟨g, k, f, u, e, hg, r⟩ := h2 j hj
  exact ⟨g, k, f, u, e, hg.only ho (hm g k f u hg), r⟩
theorem Box.below {w W W' : World} {v : Value} {n : Nat} {lo hi : Int} (h : Box w W v n lo hi) (hb : Below W.heap.size W W') : Box w W' v n lo hi := h.only (Only.of_below hb []) (by simp) (by simp)
/-- a Link changes: what was said stays -/
theorem Box.past {w W W' : World} {v : Value} {n b : Nat} {lo hi : Int} {s : Lk} (h : Box w W v n lo hi) (hb : LAt W b s) (ho : Only [b] W W') : Box w W' v n lo hi := by
  refine h.only ho (fun g hg => ?_) (fun g k f u hg => ?_)
  · obtain ⟨xs, h1, _⟩ := h.row
    simp
    rintro rfl
    exact row_ne h1 hb (by decide) hg
  · simp
    exact hg.ne hb (by decide)
theorem Box.wide {w W : World} {v : Value} {n : Nat} {lo hi hi' : Int} (h : Box w W v n lo hi) (hh : hi ≤ hi') : Box w W v n lo hi' := by
  obtain ⟨xs, h1, h2⟩ := h.row
  refine ⟨xs, h1, fun j hj => ?_⟩
  obtain ⟨g, k, f, u, e, hg, k0, k1, f0, f1, r⟩ := h2 j hj
  exact ⟨g, k, f, u, e, hg, k0, k1, f0, by omega, r⟩
theorem Box.form {w W : World} {v : Value} {n : Nat} {lo hi : Int} (h : Box w W v n lo hi) : ∃ a c, v = .slice a n c := by
  obtain ⟨xs, h1, _⟩ := h.row
  rcases h1.2 with ⟨rfl, rfl⟩ | ⟨g, cap, cur, rfl, _⟩
  · exact ⟨_, _, rfl⟩
  · exact ⟨_, _, rfl⟩
/-- one of them is read -/
theorem Box.read {w W : World} {v : Value} {n : Nat} {lo hi : Int} (h : Box w W v n lo hi) {j : Nat} (hj : j < n) : ∃ gb c g k f u, v = .slice (some ⟨gb, 0, none⟩) n c ∧ W.cell? ⟨gb, j, none⟩ = some (.slice (some ⟨g, 0, none⟩) 3 3) ∧ Msg W g k f u ∧ 1 ≤ k ∧ k ≤ 3 ∧ lo ≤ f ∧ f ≤ hi ∧ 0 ≤ u ∧ u ≤ 1000000 := by
  obtain ⟨xs, h1, h2⟩ := h.row
  obtain ⟨g, k, f, u, e, r⟩ := h2 j hj
  rcases h1.2 with ⟨_, h0⟩ | ⟨gb, cap, cur, rfl, h3⟩
  · omega
  · exact ⟨gb, cap, g, k, f, u, rfl, by rw [h1.cellAt j (by omega), e], r⟩
/-- one more -/
theorem Box.more {w W W' : World} {n g : Nat} {lo hi k f u : Int} {gb cap : Nat} {xs : List Value}
    (hm : ∀ j, j < n → ∃ g k f u, xs[j]? = some (.slice (some ⟨g, 0, none⟩) 3 3) ∧ Msg W g k f u ∧ 1 ≤ k ∧ k ≤ 3 ∧ lo ≤ f ∧ f ≤ hi ∧ 0 ≤ u ∧ u ≤ 1000000) (hl : xs.length = n)
    (ho : W'.ownsRow w.heap.size 28 1 (.slice (some ⟨gb, 0, none⟩) (n + 1) cap) (n + 1) (xs ++ [.slice (some ⟨g, 0, none⟩) 3 3])) (hg : Msg W g k f u) (k0 : 1 ≤ k) (k1 : k ≤ 3) (f0 : lo ≤ f) (f1 : f ≤ hi) (u0 : 0 ≤ u) (u1 : u ≤ 1000000)
    (hp : ∀ g k f u, Msg W g k f u → Msg W' g k f u) : Box w W' (.slice (some ⟨gb, 0, none⟩) (n + 1) cap) (n + 1) lo hi := by
  refine ⟨_, ho, fun j hj => ?_⟩
  by_cases q : j < n
  · obtain ⟨g', k', f', u', e, hg', r⟩ := hm j q
    exact ⟨g', k', f', u', by rw [List.getElem?_append_left (by omega), e], hp _ _ _ _ hg', r⟩
  · obtain rfl : j = n := by omega
    refine ⟨g, k, f, u, ?_, hp _ _ _ _ hg, k0, k1, f0, f1, u0, u1⟩
    rw [List.getElem?_append_right (by omega), hl]
    simp

/-- both sides, and what was said to each -/
structure MSt (w W : World) (x y : Nat) (s t : Lk) (tx ty : Value) (nx ny : Nat) (a b el nw : Int) : Prop where
  st : TSt w W x y s t
  is : Inv s
  it : Inv t
  ms : s.me = a
  mt : t.me = b
  ns : s.nw ≤ nw
  nt : t.nw ≤ nw
  os : s.st = 2 → el ≤ s.ot ∧ s.ot ≤ b
  ot : t.st = 2 → t.ot = a
  bx : Box w W tx nx el b
  by' : Box w W ty ny a a
  ap : ∀ j, tx.ownBlock = some j → ty.ownBlock ≠ some j
theorem MSt.below {w W W' : World} {x y nx ny : Nat} {s t : Lk} {tx ty : Value} {a b el nw : Int} (h : MSt w W x y s t tx ty nx ny a b el nw) (hb : Below W.heap.size W W') : MSt w W' x y s t tx ty nx ny a b el nw :=
  { h with st := h.st.below hb, bx := h.bx.below hb, by' := h.by'.below hb }
theorem MSt.later {w W : World} {x y nx ny : Nat} {s t : Lk} {tx ty : Value} {a b el nw nw' : Int} (h : MSt w W x y s t tx ty nx ny a b el nw) (hn : nw ≤ nw') : MSt w W x y s t tx ty nx ny a b el nw' :=
  { h with ns := by have := h.ns; omega, nt := by have := h.nt; omega }
theorem MSt.cells {w W : World} {x y nx ny : Nat} {s t : Lk} {tx ty : Value} {a b el nw : Int} (h : MSt w W x y s t tx ty nx ny a b el nw) :
    W.cell? ⟨x, 2, none⟩ = some (.int .i64 s.st) ∧ W.cell? ⟨x, 3, none⟩ = some (.int .i64 s.ot) ∧ W.cell? ⟨y, 2, none⟩ = some (.int .i64 t.st) ∧ W.cell? ⟨y, 3, none⟩ = some (.int .i64 t.ot) := by
  obtain ⟨_, _, c2, c3, _⟩ := L6.cells h.st.ax
  obtain ⟨_, _, d2, d3, _⟩ := L6.cells h.st.ay
  exact ⟨c2, c3, d2, d3⟩
theorem m_hear_x {w W : World} {x y nx ny g : Nat} {s t : Lk} {tx ty : Value} {a b el nw k f u : Int} (h : MSt w W x y s t tx ty nx ny a b el nw) (hm : Msg W g k f u) (k0 : 1 ≤ k) (k1 : k ≤ 3) (f0 : el ≤ f) (f1 : f ≤ b) (u0 : 0 ≤ u) (u1 : u ≤ 1000000) (e0 : 1 ≤ el) (b1 : b ≤ 1000000) (n0 : 0 ≤ nw) (n1 : nw ≤ 1000000) :
    Calls Try.prog 6 #[.pointer (some ⟨x, 0, none⟩), .slice (some ⟨g, 0, none⟩) 3 3, .int .i64 nw] W fun e w' => ∃ v, e = .returned (.tuple #[v, .nilIface]) ∧ Hid (∃ s', MSt w w' x y s' t tx ty nx ny a b el nw ∧ Fine w' v a a) := by
  have ht : tf s.nw nw = 0 := tf_ok n0 n1 h.ns
  have hf : mf [k, f, u] = 0 := mf_three k0 k1 (by omega) (by omega) u0 u1
  refine (x_hear h.st hm nw).mono ?_
  rintro e w' ⟨v, rfl, h1, h2, ho⟩
  rw [hR_three ht hf] at h1 h2
  rw [hF_three ht hf]
  obtain ⟨q1, q2⟩ := her_me s k f u nw
  refine ⟨v, rfl, _, ⟨h1, inv_her h.is h.ns n1 (by omega) (by omega), h.it, by rw [q1]; exact h.ms, h.mt, by rw [q2]; exact Int.le_refl _, h.nt, fun hs => ?_, h.ot, h.bx.past h.st.ax ho, h.by'.past h.st.ax ho, h.ap⟩, fine_of h2 (good_her (by omega) (by omega)) (by rw [h.ms]; exact Int.le_refl _) (by rw [h.ms]; exact Int.le_refl _)⟩
  rcases her_ot s k f u nw hs with ⟨p1, p2⟩ | p2
  · rw [p2]; exact h.os p1
  · rw [p2]; exact ⟨f0, f1⟩
theorem m_hear_y {w W : World} {x y nx ny g : Nat} {s t : Lk} {tx ty : Value} {a b el nw k f u : Int} (h : MSt w W x y s t tx ty nx ny a b el nw) (hm : Msg W g k f u) (k0 : 1 ≤ k) (k1 : k ≤ 3) (f0 : a ≤ f) (f1 : f ≤ a) (u0 : 0 ≤ u) (u1 : u ≤ 1000000) (a0 : 1 ≤ a) (a1 : a ≤ 1000000) (eb : el ≤ b) (n0 : 0 ≤ nw) (n1 : nw ≤ 1000000) :
    Calls Try.prog 6 #[.pointer (some ⟨y, 0, none⟩), .slice (some ⟨g, 0, none⟩) 3 3, .int .i64 nw] W fun e w' => ∃ v, e = .returned (.tuple #[v, .nilIface]) ∧ Hid (∃ t', MSt w w' x y s t' tx ty nx ny a b el nw ∧ Fine w' v el b) := by
  have ht : tf t.nw nw = 0 := tf_ok n0 n1 h.nt
  have hf : mf [k, f, u] = 0 := mf_three k0 k1 (by omega) (by omega) u0 u1
  refine (y_hear h.st hm nw).mono ?_
  rintro e w' ⟨v, rfl, h1, h2, ho⟩
  rw [hR_three ht hf] at h1 h2
  rw [hF_three ht hf]
  obtain ⟨q1, q2⟩ := her_me t k f u nw
  refine ⟨v, rfl, _, ⟨h1, h.is, inv_her h.it h.nt n1 (by omega) (by omega), h.ms, by rw [q1]; exact h.mt, h.ns, by rw [q2]; exact Int.le_refl _, h.os, fun hs => ?_, h.bx.past h.st.ay ho, h.by'.past h.st.ay ho, h.ap⟩, fine_of h2 (good_her (by omega) (by omega)) (by rw [h.mt]; exact eb) (by rw [h.mt]; exact Int.le_refl _)⟩
  rcases her_ot t k f u nw hs with ⟨p1, p2⟩ | p2
  · rw [p2]; exact h.ot p1
  · rw [p2]; omega
theorem m_tick_x {w W : World} {x y nx ny : Nat} {s t : Lk} {tx ty : Value} {a b el nw : Int} (h : MSt w W x y s t tx ty nx ny a b el nw) (n0 : 0 ≤ nw) (n1 : nw ≤ 1000000) :
    Calls Try.prog 9 #[.pointer (some ⟨x, 0, none⟩), .int .i64 nw] W fun e w' => ∃ v, e = .returned (.tuple #[v, .nilIface]) ∧ Hid (∃ s', MSt w w' x y s' t tx ty nx ny a b el nw ∧ Fine w' v a a ∧ (s.nw + 30 ≤ nw → s'.st ≠ 2 ∧ s'.ot = 0)) := by
  have ht : tf s.nw nw = 0 := tf_ok n0 n1 h.ns
  refine (x_tick h.st h.is nw).mono ?_
  rintro e w' ⟨v, rfl, h1, h2, ho⟩
  rw [tR_ok ht] at h1 h2
  rw [ht]
  obtain ⟨q1, q2⟩ := tck_me s nw
  refine ⟨v, rfl, _, ⟨h1, inv_tck h.is h.ns n1, h.it, by rw [q1]; exact h.ms, h.mt, by rw [q2]; exact Int.le_refl _, h.nt, fun hs => ?_, h.ot, h.bx.past h.st.ax ho, h.by'.past h.st.ax ho, h.ap⟩, fine_of h2 (good_tck h.is) (by rw [h.ms]; exact Int.le_refl _) (by rw [h.ms]; exact Int.le_refl _), fun hn => tck_end h.is hn⟩
  obtain ⟨p1, p2⟩ := tck_ot s nw hs
  rw [p2]
  exact h.os p1
theorem m_tick_y {w W : World} {x y nx ny : Nat} {s t : Lk} {tx ty : Value} {a b el nw : Int} (h : MSt w W x y s t tx ty nx ny a b el nw) (eb : el ≤ b) (n0 : 0 ≤ nw) (n1 : nw ≤ 1000000) :
    Calls Try.prog 9 #[.pointer (some ⟨y, 0, none⟩), .int .i64 nw] W fun e w' => ∃ v, e = .returned (.tuple #[v, .nilIface]) ∧ Hid (∃ t', MSt w w' x y s t' tx ty nx ny a b el nw ∧ Fine w' v el b ∧ (t.nw + 30 ≤ nw → t'.st ≠ 2 ∧ t'.ot = 0)) := by
  have ht : tf t.nw nw = 0 := tf_ok n0 n1 h.nt
  refine (y_tick h.st h.it nw).mono ?_
  rintro e w' ⟨v, rfl, h1, h2, ho⟩
  rw [tR_ok ht] at h1 h2
  rw [ht]
  obtain ⟨q1, q2⟩ := tck_me t nw
  refine ⟨v, rfl, _, ⟨h1, h.is, inv_tck h.it h.nt n1, h.ms, by rw [q1]; exact h.mt, h.ns, by rw [q2]; exact Int.le_refl _, h.os, fun hs => ?_, h.bx.past h.st.ay ho, h.by'.past h.st.ay ho, h.ap⟩, fine_of h2 (good_tck h.it) (by rw [h.mt]; exact eb) (by rw [h.mt]; exact Int.le_refl _), fun hn => tck_end h.it hn⟩
  obtain ⟨p1, p2⟩ := tck_ot t nw hs
  rw [p2]
  exact h.ot p1
theorem m_open_y {w W : World} {x y nx ny : Nat} {s t : Lk} {tx ty : Value} {a b el nw : Int} (h : MSt w W x y s t tx ty nx ny a b el nw) (hs : t.st ≠ 2) (eb : el ≤ b) (n0 : 0 ≤ nw) (n1 : nw ≤ 1000000) :
    Calls Try.prog 5 #[.pointer (some ⟨y, 0, none⟩), .int .i64 nw] W fun e w' => ∃ g, e = .returned (.tuple #[.slice (some ⟨g, 0, none⟩) 3 3, .nilIface]) ∧ Hid (MSt w w' x y s ⟨nw, t.me, 1, t.ot, t.hd, nw⟩ tx ty nx ny a b el nw ∧ Msg w' g 1 b 0) := by
  have ht : tf t.nw nw = 0 := tf_ok n0 n1 h.nt
  have h0 := h.it.o0 hs
  refine (y_open h.st nw).mono ?_
  rintro e w' ⟨v, rfl, h1, h2, ho⟩
  rw [oR_ok ht hs] at h1 h2
  have hi := inv_opn h.it (oF_ok ht hs)
  rw [oF_ok ht hs]
  unfold opn at h1 h2 hi
  rw [h.mt, h0] at h2
  obtain ⟨g, rfl, hm⟩ := out_some h2
  exact ⟨g, rfl, ⟨h1, h.is, hi, h.ms, h.mt, h.ns, Int.le_refl _, h.os, fun hs => absurd hs (by simp), h.bx.past h.st.ay ho, h.by'.past h.st.ay ho, h.ap⟩, hm⟩
/-- the other one runs anew -/
theorem m_new_y {w W : World} {x y nx ny : Nat} {s t : Lk} {tx ty : Value} {a b el nw : Int} (h : MSt w W x y s t tx ty nx ny a b el nw) (b0 : 1 ≤ b + 1) (b1 : b + 1 ≤ 1000000) (n0 : 0 ≤ nw) :
    Calls Try.prog 4 #[.int .i64 (b + 1)] W fun e w' => ∃ y', e = .returned (.tuple #[.pointer (some ⟨y', 0, none⟩), .nilIface]) ∧ Hid (MSt w w' x y' s (st0 (b + 1)) tx ty nx ny a (b + 1) el nw) := by
  refine (new_ok (b + 1) W b0 b1).mono ?_
  rintro e w' ⟨rfl, hl, hb⟩
  have hx := L6.lt h.st.ax
  exact ⟨_, rfl, ⟨h.st.bel.trans (hb.mono h.st.bel.size), h.st.lx, h.st.bel.size, by omega, h.st.ax.below hb, hl⟩, h.is, inv_st0 b0 b1, h.ms, rfl, h.ns, n0, fun hs => by have := h.os hs; omega, fun hs => absurd hs (by simp [st0]), (h.bx.below hb).wide (by omega), h.by'.below hb, h.ap⟩
theorem tst_only {w W W' : World} {x y : Nat} {s t : Lk} {bs : List Nat} (h : TSt w W x y s t) (ho : Only bs W W') (hx : x ∉ bs) (hy : y ∉ bs) (hb : ∀ k ∈ bs, w.heap.size ≤ k) : TSt w W' x y s t :=
  ⟨h.bel.trans (ho.below h.bel.size hb), h.lx, h.ly, h.ne, h.ax.only ho hx, h.ay.only ho hy⟩
theorem row_lt {W : World} {base n g : Nat} {v : Value} {xs : List Value} (h : W.ownsRow base 28 1 v n xs) (hg : v.ownBlock = some g) : base ≤ g ∧ g < W.heap.size := by
  rcases h.2 with ⟨rfl, _⟩ | ⟨g', cap, cur, rfl, hb, hbl, _⟩
  · simp [Value.ownBlock] at hg
  · simp [Value.ownBlock] at hg
    subst hg
    exact ⟨hb, lt_of_block hbl⟩
theorem msg_row {W : World} {base n g : Nat} {v : Value} {xs : List Value} {k f u : Int} (h : W.ownsRow base 28 1 v n xs) (hm : Msg W g k f u) : v.ownBlock ≠ some g := row_ne h hm (by decide)
/-- something is said to the left one or the right one: what stays -/
theorem grown_only {W W' : World} {O : Obj} {r : Option Nat} (hg : (W.alloc O).grownBy W' r) : Only r.toList W W' :=
  ((Only.refl _ _).alloc O).grown hg (fun k hk => by simp [hk])
theorem MSt.sayY {w W W' : World} {x y nx ny g gg cap : Nat} {s t : Lk} {tx ty : Value} {a b el nw k f u : Int} {O : Obj} {xs : List Value} (h : MSt w W x y s t tx ty nx ny a b el nw)
    (hr : W.ownsRow w.heap.size 28 1 ty ny xs) (hm : ∀ j, j < ny → ∃ g k f u, xs[j]? = some (.slice (some ⟨g, 0, none⟩) 3 3) ∧ Msg W g k f u ∧ 1 ≤ k ∧ k ≤ 3 ∧ a ≤ f ∧ f ≤ a ∧ 0 ≤ u ∧ u ≤ 1000000)
    (hg : Msg W g k f u) (k0 : 1 ≤ k) (k1 : k ≤ 3) (f0 : a ≤ f) (f1 : f ≤ a) (u0 : 0 ≤ u) (u1 : u ≤ 1000000)
    (ho : W'.ownsRow w.heap.size 28 1 (.slice (some ⟨gg, 0, none⟩) (ny + 1) cap) (ny + 1) (xs ++ [.slice (some ⟨g, 0, none⟩) 3 3])) (hw : (W.alloc O).grownBy W' ty.ownBlock) (hl : ty.ownBlock = some gg ∨ gg = W.heap.size + 1) :
    MSt w W' x y s t tx (.slice (some ⟨gg, 0, none⟩) (ny + 1) cap) nx (ny + 1) a b el nw := by
  have hO := grown_only hw
  obtain ⟨zs, hz, hzm⟩ := h.bx.row
  have nx' : x ∉ ty.ownBlock.toList := by simp; exact row_ne hr h.st.ax (by decide)
  have ny' : y ∉ ty.ownBlock.toList := by simp; exact row_ne hr h.st.ay (by decide)
  have nm : ∀ g k f u, Msg W g k f u → g ∉ ty.ownBlock.toList := fun g k f u hg => by simp; exact msg_row hr hg
  refine { h with st := tst_only h.st hO nx' ny' (fun j hj => (row_lt hr (by simpa using hj)).1), bx := h.bx.only hO (fun j hj => by simp; exact h.ap j hj) nm, by' := ?_, ap := ?_ }
  · exact Box.more hm (by have := hr.1; omega) ho hg k0 k1 f0 f1 u0 u1 (fun g k f u hg => hg.only hO (nm g k f u hg))
  · intro j hj e
    simp [Value.ownBlock] at e
    subst e
    rcases hl with e | e
    · exact h.ap _ hj e
    · have := (row_lt hz hj).2
      omega
theorem MSt.sayX {w W W' : World} {x y nx ny g gg cap : Nat} {s t : Lk} {tx ty : Value} {a b el nw k f u : Int} {O : Obj} {xs : List Value} (h : MSt w W x y s t tx ty nx ny a b el nw)
    (hr : W.ownsRow w.heap.size 28 1 tx nx xs) (hm : ∀ j, j < nx → ∃ g k f u, xs[j]? = some (.slice (some ⟨g, 0, none⟩) 3 3) ∧ Msg W g k f u ∧ 1 ≤ k ∧ k ≤ 3 ∧ el ≤ f ∧ f ≤ b ∧ 0 ≤ u ∧ u ≤ 1000000)
    (hg : Msg W g k f u) (k0 : 1 ≤ k) (k1 : k ≤ 3) (f0 : el ≤ f) (f1 : f ≤ b) (u0 : 0 ≤ u) (u1 : u ≤ 1000000)
    (ho : W'.ownsRow w.heap.size 28 1 (.slice (some ⟨gg, 0, none⟩) (nx + 1) cap) (nx + 1) (xs ++ [.slice (some ⟨g, 0, none⟩) 3 3])) (hw : (W.alloc O).grownBy W' tx.ownBlock) (hl : tx.ownBlock = some gg ∨ gg = W.heap.size + 1) :
    MSt w W' x y s t (.slice (some ⟨gg, 0, none⟩) (nx + 1) cap) ty (nx + 1) ny a b el nw := by
  have hO := grown_only hw
  obtain ⟨zs, hz, hzm⟩ := h.by'.row
  have nx' : x ∉ tx.ownBlock.toList := by simp; exact row_ne hr h.st.ax (by decide)
  have ny' : y ∉ tx.ownBlock.toList := by simp; exact row_ne hr h.st.ay (by decide)
  have nm : ∀ g k f u, Msg W g k f u → g ∉ tx.ownBlock.toList := fun g k f u hg => by simp; exact msg_row hr hg
  refine { h with st := tst_only h.st hO nx' ny' (fun j hj => (row_lt hr (by simpa using hj)).1), by' := h.by'.only hO (fun j hj => by simp; exact fun e => h.ap j e hj) nm, bx := ?_, ap := ?_ }
  · exact Box.more hm (by have := hr.1; omega) ho hg k0 k1 f0 f1 u0 u1 (fun g k f u hg => hg.only hO (nm g k f u hg))
  · intro j e hj
    simp [Value.ownBlock] at e
    subst e
    rcases hl with e | e
    · exact h.ap _ e hj
    · have := (row_lt hz hj).2
      omega
/-- at the end: the left one hears hello, the right one the reply -/
theorem m_last_x {w W : World} {x y nx ny g : Nat} {s t : Lk} {tx ty : Value} {a b el nw : Int} (h : MSt w W x y s t tx ty nx ny a b el nw) (hs : s.st ≠ 2) (hm : Msg W g 1 b 0) (b0 : 1 ≤ b) (b1 : b ≤ 1000000) (n0 : 0 ≤ nw) (n1 : nw ≤ 1000000) :
    Calls Try.prog 6 #[.pointer (some ⟨x, 0, none⟩), .slice (some ⟨g, 0, none⟩) 3 3, .int .i64 nw] W fun e w' => ∃ g', e = .returned (.tuple #[.slice (some ⟨g', 0, none⟩) 3 3, .nilIface]) ∧ Hid (TSt w w' x y ⟨nw, a, 2, b, nw, nw⟩ t ∧ Msg w' g' 2 a b) := by
  have ht : tf s.nw nw = 0 := tf_ok n0 n1 h.ns
  have hf : mf [1, b, 0] = 0 := mf_three (by omega) (by omega) b0 b1 (by omega) (by omega)
  have h0 := h.is.o0 hs
  have e : her s 1 b 0 nw = (⟨nw, a, 2, b, nw, nw⟩, [2, a, b]) := by
    unfold her ans
    rw [if_neg (by simp), if_neg (by rw [h0]; omega), if_pos rfl, h.ms]
  refine (x_hear h.st hm nw).mono ?_
  rintro e' w' ⟨v, rfl, h1, h2, ho⟩
  rw [hR_three ht hf, e] at h1 h2
  rw [hF_three ht hf]
  obtain ⟨g', rfl, h3⟩ := out_some h2
  exact ⟨g', rfl, h1, h3⟩
theorem m_last_y {w W : World} {x y g : Nat} {s t : Lk} {a b nw : Int} (h : TSt w W x y s t) (hn : t.nw = nw) (hme : t.me = b) (hs : t.st = 1) (ho : t.ot = 0) (hm : Msg W g 2 a b) (a0 : 1 ≤ a) (a1 : a ≤ 1000000) (b0 : 1 ≤ b) (b1 : b ≤ 1000000) (n0 : 0 ≤ nw) (n1 : nw ≤ 1000000) :
    Calls Try.prog 6 #[.pointer (some ⟨y, 0, none⟩), .slice (some ⟨g, 0, none⟩) 3 3, .int .i64 nw] W fun e w' => ∃ v, e = .returned (.tuple #[v, .nilIface]) ∧ Hid (TSt w w' x y s ⟨nw, b, 2, a, nw, nw⟩) := by
  have ht : tf t.nw nw = 0 := tf_ok n0 n1 (by omega)
  have hf : mf [2, a, b] = 0 := mf_three (by omega) (by omega) a0 a1 (by omega) b1
  have e : her t 2 a b nw = (⟨nw, b, 2, a, nw, nw⟩, [3, b, a]) := by
    unfold her ans
    rw [if_neg (by rw [hme]; simp), if_neg (by rw [ho]; omega), if_neg (by omega), if_neg (by rw [ho]; omega), hme]
  refine (y_hear h hm nw).mono ?_
  rintro e' w' ⟨v, rfl, h1, h2, ho⟩
  rw [hR_three ht hf, e] at h1 h2
  rw [hF_three ht hf]
  exact ⟨v, rfl, h1⟩
theorem last_cells {w W : World} {x y : Nat} {a b nw : Int} (h : TSt w W x y ⟨nw, a, 2, b, nw, nw⟩ ⟨nw, b, 2, a, nw, nw⟩) :
    W.cell? ⟨x, 2, none⟩ = some (.int .i64 2) ∧ W.cell? ⟨x, 3, none⟩ = some (.int .i64 b) ∧ W.cell? ⟨y, 2, none⟩ = some (.int .i64 2) ∧ W.cell? ⟨y, 3, none⟩ = some (.int .i64 a) := by
  obtain ⟨_, _, c2, c3, _⟩ := L6.cells h.ax
  obtain ⟨_, _, d2, d3, _⟩ := L6.cells h.ay
  exact ⟨c2, c3, d2, d3⟩
/-- the first one alone -/
structure OSt (w W : World) (o : Nat) (s : Lk) : Prop where
  bel : Below w.heap.size w W
  lo : w.heap.size ≤ o
  at_ : LAt W o s
theorem OSt.below {w W W' : World} {o : Nat} {s : Lk} (h : OSt w W o s) (hb : Below W.heap.size W W') : OSt w W' o s := ⟨h.bel.trans (hb.mono h.bel.size), h.lo, h.at_.below hb⟩
theorem one_open {w W : World} {o : Nat} (h : OSt w W o (st0 7)) :
    Calls Try.prog 5 #[.pointer (some ⟨o, 0, none⟩), .int .i64 0] W fun e w' => ∃ g, e = .returned (.tuple #[.slice (some ⟨g, 0, none⟩) 3 3, .nilIface]) ∧ Hid (OSt w w' o ⟨0, 7, 1, 0, 0, 0⟩ ∧ Msg w' g 1 7 0) := by
  have ht : tf (st0 7).nw 0 = 0 := tf_ok (by omega) (by omega) (Int.le_refl _)
  have hs : (st0 7).st ≠ 2 := by simp [st0]
  refine (open_calls o _ 0 W h.at_).mono ?_
  rintro e w' ⟨v, rfl, h1, h2, ho⟩
  rw [oR_ok ht hs] at h1 h2
  rw [oF_ok ht hs]
  obtain ⟨g, rfl, h3⟩ := out_some h2
  exact ⟨g, rfl, ⟨h.bel.trans (ho.below h.bel.size (by simp; exact h.lo)), h.lo, h1⟩, h3⟩
theorem one_hear {w W : World} {o g1 g : Nat} (h : OSt w W o ⟨0, 7, 1, 0, 0, 0⟩) (h1 : Msg W g1 1 7 0) (hm : Msg W g 1 9 0) :
    Calls Try.prog 6 #[.pointer (some ⟨o, 0, none⟩), .slice (some ⟨g, 0, none⟩) 3 3, .int .i64 0] W fun e w' => ∃ g', e = .returned (.tuple #[.slice (some ⟨g', 0, none⟩) 3 3, .nilIface]) ∧ Hid (OSt w w' o ⟨0, 7, 2, 9, 0, 0⟩ ∧ Msg w' g1 1 7 0 ∧ Msg w' g' 2 7 9) := by
  have ht : tf (Lk.mk 0 7 1 0 0 0).nw 0 = 0 := tf_ok (by omega) (by omega) (Int.le_refl _)
  have hf : mf [1, 9, 0] = 0 := by decide
  have e : her ⟨0, 7, 1, 0, 0, 0⟩ 1 9 0 0 = (⟨0, 7, 2, 9, 0, 0⟩, [2, 7, 9]) := by
    unfold her ans
    rw [if_neg (by simp), if_neg (by simp), if_pos rfl]
  refine (hear_calls o 3 3 _ _ [1, 9, 0] 0 W h.at_ hm.arg (fun _ => by rintro ad ⟨rfl⟩; exact hm.ne h.at_ (by decide))).mono ?_
  rintro e' w' ⟨v, rfl, k1, k2, ho⟩
  rw [hR_three ht hf, e] at k1 k2
  rw [hF_three ht hf]
  obtain ⟨g', rfl, h3⟩ := out_some k2
  exact ⟨g', rfl, ⟨h.bel.trans (ho.below h.bel.size (by simp; exact h.lo)), h.lo, k1⟩, h1.only ho (by simp; exact h1.ne h.at_ (by decide)), h3⟩
theorem msg_cells {W : World} {g : Nat} {k f u : Int} (h : Msg W g k f u) : W.cell? ⟨g, 0, none⟩ = some (.int .i64 k) ∧ W.cell? ⟨g, 1, none⟩ = some (.int .i64 f) ∧ W.cell? ⟨g, 2, none⟩ = some (.int .i64 u) := by
  unfold Msg at h
  refine ⟨?_, ?_, ?_⟩ <;> simp [World.cell?, h]
theorem infoSI : (Try.prog.info? 28).map (fun i => (i.zero, i.size, i.bytes)) = some (some (.slice none 0 0), 1, 24) := by kernel_rfl
end Go.Proofs.Ytfdbfelcokockai.Meets
