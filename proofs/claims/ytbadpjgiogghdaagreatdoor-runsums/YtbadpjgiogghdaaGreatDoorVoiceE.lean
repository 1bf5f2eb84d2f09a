/-
  What Hear of package voice returns, and what it leaves in memory. Its condition: what is kept is such as it may be.
-/
import Derived.Test.YtbadpjgiogghdaaGreatDoorVoiceD
namespace Go.Proofs.YtbadpjgiogghdaaGreatDoor.Voice
open Go.ChangeShapes Go.WideShapes Go.ChangeAt Go.RowKit Go.Maps Go.Shelf Go.Proofs.YtbadpjgiogghdaaGreatDoor.Mem Go.Proofs.YtbadpjgiogghdaaGreatDoor.VO
set_option linter.unusedVariables false

/-- under way within Hear: those that are not left have lost an eighth -/
structure HSt (w wr : World) (m it m1 : Nat) (D : DataW Value) (f : Sc) (l : Vs) (left : Lit → Bool) (cnt : Nat) : Prop where
  ran : wr.ranges Tryz.prog 3 inR m it (Maps.size D) D left cnt
  bel : Below w.heap.size w wr
  lo1 : w.heap.size ≤ m1
  lo2 : w.heap.size ≤ it
  ml : m < w.heap.size
  map : ∃ D1, wr.ownsMap Tryz.prog 3 inR m1 (Maps.size D1) D1 ∧ KM D1 (fun x => (∃ p ∈ l, p.1 = x) ∨ (f x ≠ 0 ∧ left (key x) = false)) (fun x => 16 * lev l x + if f x ≠ 0 ∧ left (key x) = false then dec (f x) else 0)
theorem HSt.ne {w wr : World} {m it m1 : Nat} {D : DataW Value} {f : Sc} {l : Vs} {left : Lit → Bool} {cnt : Nat} (h : HSt w wr m it m1 D f l left cnt) : m1 ≠ it := by
  obtain ⟨es, clock, since, seen, c0, hb, F, hs, hD, hr, rest⟩ := h.ran
  obtain ⟨D1, h1, _⟩ := h.map
  obtain ⟨es', c', h4⟩ := map_block h1
  intro e
  rw [e, hr] at h4
  simp at h4
theorem own_grown {w w1 : World} {j : Option Nat} {m n : Nat} {D : DataW Value} (h : w.ownsMap Tryz.prog 3 inR m n D) (hg : w.grownBy w1 j) (hj : some m ≠ j) : w1.ownsMap Tryz.prog 3 inR m n D := by
  obtain ⟨es, clock, h4, h5⟩ := h
  exact ⟨es, clock, (hg.block m (lt_of_block h4) hj).trans h4, h5⟩
theorem HSt.start {w w1 w2 : World} {m it n : Nat} {D : DataW Value} {f : Sc} {l : Vs} (hG : GSt w w1 w.heap.size n l) (hn : n = l.length) (hm : m < w.heap.size) (hK : KM D (fun x => f x ≠ 0) f) (hit : it = w1.heap.size) (hg : w1.grownBy w2 none) (hr : w2.ranges Tryz.prog 3 inR m it (Maps.size D) D (Maps.has D) (Maps.size D)) : HSt w w2 m it w.heap.size D f l (Maps.has D) (Maps.size D) := by
  obtain ⟨D1, h1, h2⟩ := hG.map
  have hs := hG.bel.size
  subst hn
  rw [List.take_length] at h2
  refine ⟨hr, hG.bel.grown hg hs (by simp), Nat.le_refl _, by omega, hm, ⟨D1, own_grown h1 hg (by simp), ?_⟩⟩
  have hno : ∀ x, ¬ (f x ≠ 0 ∧ Maps.has D (key x) = false) := by
    rintro x ⟨q1, q2⟩
    rw [(hK.keys (key x)).2 ⟨x, q1, rfl⟩] at q2
    cases q2
  refine h2.ext (fun x => ?_) (fun x hx => ?_)
  · constructor
    · exact .inl
    · rintro (h | h)
      · exact h
      · exact absurd h (hno x)
  · rw [if_neg (hno x)]; omega
/-- one more -/
theorem HSt.step {w wr w1 : World} {m it m1 cnt cnt1 : Nat} {D : DataW Value} {f : Sc} {l : Vs} {left : Lit → Bool} {x c : Int} (h : HSt w wr m it m1 D f l left cnt) (hl : Oks l) (hf : Ok f) (hr : w1.ranges Tryz.prog 3 inR m it (Maps.size D) D (fun z => left z && !z.sameKey (key x)) cnt1) (hg : wr.grownBy w1 (some it))
    (hx : left (key x) = true) (hc : f x = c) (hz : c ≠ 0) :
    (Instr.lookup 134 (.map (some m1)) (.int .i64 x) false).run Tryz.prog w1 = .ok (.int .i64 (16 * lev l x)) w1 ∧ ∃ w2, (Instr.mapUpdate 134 (.map (some m1)) (.int .i64 x) (.int .i64 (16 * lev l x + dec c))).run Tryz.prog w1 = .ok () w2 ∧ HSt w w2 m it m1 D f l (fun z => left z && !z.sameKey (key x)) cnt1 := by
  have hne := h.ne
  obtain ⟨D1, h1, h2⟩ := h.map
  have hb := hf.who x (by rw [hc]; exact hz)
  have hw := wf_of (y := x) (by omega) (by omega)
  have h1' := own_grown h1 hg (by simpa using hne)
  have hv : 16 * lev l x + (if f x ≠ 0 ∧ left (key x) = false then dec (f x) else 0) = 16 * lev l x := by
    rw [if_neg (by rw [hx]; simp)]; omega
  refine ⟨?_, ?_⟩
  · have := look_any h1' h2 hw (fun hn => by
      rw [hv, lev_out l x (fun p hp e => hn (.inl ⟨p, hp, e⟩))]; rfl)
    rw [hv] at this
    exact this
  obtain ⟨w2, D2, hrun, g1, g2, g3⟩ := store_in h1' h2 (fun y hy => by
    rcases hy with ⟨p, hp, rfl⟩ | hy
    · have := (okv_iff p).1 (hl.1 p hp); omega
    · exact hf.who y hy.1) hw (16 * lev l x + dec c)
  have hlo1 := h.lo1
  have hlo2 := h.lo2
  have hml := h.ml
  have hb1 : Below w.heap.size w w1 := h.bel.grown hg h.bel.size (by intro k hk; simp at hk; omega)
  refine ⟨w2, hrun, ⟨hr.kept g3 (by simp; omega) (by simpa using fun e => hne e.symm), hb1.grown g3 hb1.size (by intro k hk; simp at hk; omega), hlo1, hlo2, hml, ⟨D2, g1, ?_⟩⟩⟩
  have hs : (key x).sameKey (key x) = true := WideAt.sameKey_self (keyLit x)
  refine g2.ext (fun z => ?_) (fun z hz' => ?_)
  · by_cases q : z = x
    · subst q
      constructor
      · intro _; exact .inr ⟨by rw [hc]; exact hz, by simp [hs]⟩
      · intro _; exact .inr rfl
    · have hsz : (key z).sameKey (key x) = false := sameKey_ne (fun h => q (key_inj h))
      simp only [hsz, Bool.not_false, Bool.and_true, q, or_false]
  · by_cases q : z = x
    · subst q
      rw [if_pos rfl, if_pos ⟨by rw [hc]; exact hz, by simp [hs]⟩, hc]
    · have hsz : (key z).sameKey (key x) = false := sameKey_ne (fun h => q (key_inj h))
      rw [if_neg q]
      simp only [hsz, Bool.not_false, Bool.and_true]
/-- all have lost it -/
theorem HSt.done {w wr : World} {m it m1 cnt : Nat} {D : DataW Value} {f : Sc} {l : Vs} {left : Lit → Bool} (h : HSt w wr m it m1 D f l left cnt) (h0 : ∀ k, left k = false) : ∃ D1, wr.ownsMap Tryz.prog 3 inR m1 (Maps.size D1) D1 ∧ KM D1 (fun x => (∃ p ∈ l, p.1 = x) ∨ f x ≠ 0) (nx f l) := by
  obtain ⟨D1, h1, h2⟩ := h.map
  refine ⟨D1, h1, h2.ext (fun x => ?_) (fun x hx => ?_)⟩
  · simp [h0]
  · unfold nx
    by_cases q : f x = 0
    · rw [if_neg (by simp [q]), q, dec_zero]; omega
    · rw [if_pos ⟨q, h0 _⟩]; omega
theorem GSt.done {w wr : World} {m n : Nat} {f : Sc} {l : Vs} (h : GSt w wr m n l) (hn : n = l.length) (h0 : ∀ x, f x = 0) : ∃ D1, wr.ownsMap Tryz.prog 3 inR m (Maps.size D1) D1 ∧ KM D1 (fun x => (∃ p ∈ l, p.1 = x) ∨ f x ≠ 0) (nx f l) := by
  obtain ⟨D1, h1, h2⟩ := h.map
  subst hn
  rw [List.take_length] at h2
  refine ⟨D1, h1, h2.ext (fun x => ?_) (fun x hx => ?_)⟩
  · simp [h0]
  · unfold nx
    rw [h0, dec_zero]; omega
theorem cl1_calls (k : Value) (v : Int) (w : World) : Calls Tryz.prog 129 (#[k, .int .i64 v] ++ #[]) w fun e w' => e = .returned (.bool (v == 0)) ∧ w' = w := by
  go_enter Tryz.func129, Tryz.ntmps129
  go_wp2_with fail
  go_ret
  exact ⟨rfl, rfl⟩
theorem enters_cl1 : ∀ args w, (callFunc 129 args).run Tryz.prog w = .ok (.enter 129 args) w := enters_of Tryz.func129 (by kernel_rfl) rfl
/-- those that have nought are struck -/
theorem del_calls (m : Nat) (D : DataW Value) (f : Sc) (l : Vs) (w : World) (hown : w.ownsMap Tryz.prog 3 inR m (Maps.size D) D) (hK : KM D (fun x => (∃ p ∈ l, p.1 = x) ∨ f x ≠ 0) (nx f l)) :
    Calls Tryz.prog 128 #[.map (some m), .func (.func 129) #[] #[]] w fun e w' => e = .returned (.tuple #[]) ∧ (∃ D2, w'.ownsMap Tryz.prog 3 inR m (Maps.size D2) D2 ∧ KM D2 (fun x => nx f l x ≠ 0) (nx f l)) ∧ w.grownBy w' (some m) := by
  refine (AnyDf.maps_DeleteFunc Tryz.delA law3 inR zeroD 129 #[] m (Maps.size D) D w enters_cl1 hown (fun W ky val kl yd yp _ _ hv => ?_)).mono ?_
  · obtain ⟨⟨c, rfl⟩, hy⟩ := inR_inv hv
    simp only [Prod.mk.injEq] at hy
    rw [hy.1]
    exact (cl1_calls ky c W).mono fun _ _ ⟨he, hw⟩ => ⟨he, hw ▸ World.grownBy.refl _ _⟩
  · rintro e w' ⟨rfl, h1, h2⟩
    refine ⟨rfl, ⟨_, tight h1, (hK.strike (hown.entries law3)).ext (fun x => ?_) (fun _ _ => rfl)⟩, h2⟩
    constructor
    · exact fun h => h.2
    · intro h
      refine ⟨?_, h⟩
      by_cases q : f x = 0
      · by_cases r : lev l x = 0
        · exact absurd (by unfold nx; rw [q, r, dec_zero]; rfl) h
        · exact .inl (lev_pos r)
      · exact .inr q
end Go.Proofs.YtbadpjgiogghdaaGreatDoor.Voice

