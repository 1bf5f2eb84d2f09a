/-
  What the reference's ring's method Put returns, whatever it is given; a ring and the reference's, side by side. Their condition: both keep the same packets, such as a ring may keep.
-/
import Derived.Test.YtfehmpdeenpahadDoorRRingD
import Derived.Test.YtfehmpdeenpahadDoorRingL
import Derived.Test.YtfehmpdeenpahadDoorSame
import Derived.Test.YtfehmpdeenpahadDoorTold
import Derived.Test.YtfehmpdeenpahadDoorOpenQ
namespace Go.Proofs.YtfehmpdeenpahadDoor.RRing
open Go.ChangeShapes Go.WideShapes Go.ChangeAt Go.RowKit Go.Proofs.YtfehmpdeenpahadDoor.PM Go.Proofs.YtfehmpdeenpahadDoor.Mem Go.Proofs.YtfehmpdeenpahadDoor.Pack Go.Proofs.YtfehmpdeenpahadDoor.RM Go.Proofs.YtfehmpdeenpahadDoor.Ring
set_option linter.unusedVariables false

theorem rput_calls (base b : Nat) (n T y s t l q : Int) (st : Bool) (a : Option Addr) (m cap : Nat) (L : List Nat) (M : Its) (v : Value) (w : World) (hR : RefAt w base b n T M v) (hI : RM.Inv n T M) (hS : Slices M) (hbase : base ≤ w.heap.size) :
    Calls Tryd.prog 14 #[.pointer (some ⟨b, 0, none⟩), .int .i64 y, .agg #[.int .i64 s, .int .i64 t, .int .i64 l, .int .i64 q, .bool st, .slice a m cap]] w fun e w' => ∃ v', e = .returned (.tuple #[.bool (px n T y M (fault s t l q m)), .int .i64 (pf n T y (fault s t l q m) : Nat)]) ∧
      RefAt w' base b n (pT n T y M (fault s t l q m)) (pM n T y M (fault s t l q m) ⟨s, t, l, q, st, L, .slice a m cap⟩) v' ∧ Only (b :: v.ownBlock.toList) w w' := by
  have same : ∀ w', px n T y M (fault s t l q m) = false → Below w.heap.size w w' → RefAt w' base b n (pT n T y M (fault s t l q m)) (pM n T y M (fault s t l q m) ⟨s, t, l, q, st, L, .slice a m cap⟩) v ∧ Only (b :: v.ownBlock.toList) w w' := by
    intro w' hx hb
    unfold pT pM
    rw [hx]
    exact ⟨hR.below hb, Only.of_below hb _⟩
  by_cases hf : y < 0 ∨ 1099511627776 < y
  · have e1 : pf n T y (fault s t l q m) = 1 := by unfold pf; rw [if_pos hf]
    have e2 : px n T y M (fault s t l q m) = false := by simp [px, e1]
    refine (rput_long b y s t l q st (.slice a m cap) w hf).mono ?_
    rintro e w' ⟨rfl, hb⟩
    exact ⟨v, by rw [e1, e2]; rfl, same w' e2 hb⟩
  by_cases hc : fault s t l q m = 0
  case neg =>
    have e1 : pf n T y (fault s t l q m) = fault s t l q m := by unfold pf; rw [if_neg hf, if_pos hc]
    have e2 : px n T y M (fault s t l q m) = false := by simp [px, e1, hc]
    refine (rput_bad b y s t l q st a m cap w (by omega) (by omega) hc).mono ?_
    rintro e w' ⟨rfl, hb⟩
    exact ⟨v, by rw [e1, e2], same w' e2 hb⟩
  by_cases ho : y ≤ T - n
  · have e1 : pf n T y (fault s t l q m) = 6 := by unfold pf; rw [if_neg hf, if_neg (by omega), if_pos ho]
    have e2 : px n T y M (fault s t l q m) = false := by simp [px, e1]
    refine (rput_gone base b n T y s t l q st a m cap M v w hR hI (by omega) (by omega) hc ho).mono ?_
    rintro e w' ⟨rfl, hb⟩
    exact ⟨v, by rw [e1, e2]; rfl, same w' e2 hb⟩
  have e1 : pf n T y (fault s t l q m) = 0 := pf_mk (by omega) (by omega) hc (by omega)
  by_cases hh : has M y = true
  · have e2 : px n T y M (fault s t l q m) = false := by simp [px, hh]
    refine (rput_has base b n T y s t l q st a m cap M v w hR hI (by omega) (by omega) hc (by omega) hh).mono ?_
    rintro e w' ⟨rfl, hb⟩
    exact ⟨v, by rw [e1, e2]; rfl, same w' e2 hb⟩
  · have hh' : has M y = false := by simpa using hh
    have e2 : px n T y M (fault s t l q m) = true := by simp [px, e1, hh']
    refine (rput_new base b n T y s t l q st a m cap L M v w hR hI hS hbase (by omega) (by omega) hc (by omega) hh').mono ?_
    rintro e w' ⟨rfl, v', h1, h2⟩
    refine ⟨v', by rw [e1, e2]; rfl, ?_, h2⟩
    unfold pT pM
    rw [e2]
    exact h1

/-- a ring and the reference's -/
structure PSt (w W : World) (b mb rb : Nat) (n T : Int) (M : Its) (v : Value) : Prop where
  bel : Below w.heap.size w W
  b1 : w.heap.size ≤ b
  b2 : w.heap.size ≤ mb
  b3 : w.heap.size ≤ rb
  ring : RingAt W b mb n T M
  ref : RefAt W w.heap.size rb n T M v
  inv : RM.Inv n T M
  ok : ∀ i ∈ M, Open.PkOk w i.2
theorem PSt.slices {w W : World} {b mb rb : Nat} {n T : Int} {M : Its} {v : Value} (h : PSt w W b mb rb n T M v) : Slices M := by
  intro i hi
  obtain ⟨a, m, c, e, _⟩ := h.ok i hi
  exact ⟨a, m, c, e⟩
theorem PSt.below {w W W' : World} {b mb rb : Nat} {n T : Int} {M : Its} {v : Value} (h : PSt w W b mb rb n T M v) (hb : Below W.heap.size W W') : PSt w W' b mb rb n T M v :=
  { h with bel := h.bel.trans (hb.mono h.bel.size), ring := h.ring.below hb, ref := h.ref.below hb }
/-- the blocks of the two are apart -/
theorem apart_ref {w : World} {b mb rb base : Nat} {n T n' T' : Int} {M M' : Its} {v : Value} (h : RingAt w b mb n T M) (hr : RefAt w base rb n' T' M' v) : ∀ k ∈ rb :: v.ownBlock.toList, k ∉ [b, mb] ∧ ∀ cs fr, w.heap[k]? ≠ some (.cells cs 5 fr) := by
  obtain ⟨h1, D, h2, _⟩ := h
  obtain ⟨es, c, h3⟩ := map_block h2
  obtain ⟨r1, r2⟩ := hr
  have key : ∀ k cs t, t ≠ 54 → t ≠ 5 → w.heap[k]? = some (.cells cs t (0, 0)) → k ∉ [b, mb] ∧ ∀ cs fr, w.heap[k]? ≠ some (.cells cs 5 fr) := by
    intro k cs t ht ht5 hk
    refine ⟨?_, ?_⟩
    · intro hc
      simp only [List.mem_cons, List.not_mem_nil, or_false] at hc
      rcases hc with rfl | rfl
      · rw [h1] at hk
        simp only [Option.some.injEq, Obj.cells.injEq] at hk
        exact ht hk.2.1.symm
      · rw [h3] at hk; simp at hk
    · intro cs' fr e
      rw [hk] at e
      simp only [Option.some.injEq, Obj.cells.injEq] at e
      exact ht5 e.2.1
  intro k hk
  rcases List.mem_cons.1 hk with rfl | hk
  · exact key _ _ 44 (by decide) (by decide) r1
  · rcases r2.2 with ⟨rfl, _⟩ | ⟨g, cap, cur, rfl, _, hcur, _⟩
    · simp [Value.ownBlock] at hk
    · simp [Value.ownBlock] at hk
      subst hk
      exact key _ _ 49 (by decide) (by decide) hcur
/-- behind the reference's step the ring is as it was -/
theorem pst_mid {w W W1 : World} {b mb rb : Nat} {n T : Int} {M : Its} {v : Value} (h : PSt w W b mb rb n T M v) (ho : Only (rb :: v.ownBlock.toList) W W1) : RingAt W1 b mb n T M ∧ Below w.heap.size w W1 := by
  have ha := apart_ref h.ring h.ref
  refine ⟨h.ring.only ho ?_ ?_ (fun k hk => (ha k hk).2), h.bel.trans (ho.below h.bel.size ?_)⟩
  · intro hc; exact (ha b hc).1 (by simp)
  · intro hc; exact (ha mb hc).1 (by simp)
  · intro k hk
    rcases List.mem_cons.1 hk with rfl | hk
    · exact h.b3
    · exact (h.ref.2.lt k (by simpa using hk)).1
theorem pst_step {w W W1 W2 : World} {b mb rb : Nat} {n T y : Int} {M : Its} {v v' : Value} {f : Nat} {p : Pk} (h : PSt w W b mb rb n T M v) (hok : Open.PkOk w p) (ho : Only (rb :: v.ownBlock.toList) W W1) (hr : RefAt W1 w.heap.size rb n (pT n T y M f) (pM n T y M f p) v')
    (hR : RingAt W2 b mb n (pT n T y M f) (pM n T y M f p)) (ho2 : Only [b, mb] W1 W2) : PSt w W2 b mb rb n (pT n T y M f) (pM n T y M f p) v' := by
  obtain ⟨hR1, hb1⟩ := pst_mid h ho
  have ha := apart_ref hR1 hr
  have b1 := h.b1
  have b2 := h.b2
  refine ⟨hb1.trans (ho2.below hb1.size (by simp; omega)), h.b1, h.b2, h.b3, hR, hr.only ho2 (ha rb (by simp)).1 (fun k hk => (ha k (by simp [hk])).1), inv_step h.inv f p, ?_⟩
  intro i hi
  unfold pM at hi
  split at hi
  · rcases List.mem_append.1 hi with hi | hi
    · exact h.ok i (List.mem_filter.1 hi).1
    · simp only [List.mem_singleton] at hi
      subst hi
      exact hok
  · exact h.ok i hi
/-- an error of a number is the one told -/
theorem told_f (f : Nat) (W : World) (hf : f ≤ 100) (hg : W.cell? ⟨0, 0, none⟩ = some (.iface 78 (.agg #[.pointer (some ⟨1, 27, none⟩)]))) :
    Calls Tryd.prog 13 #[errv f, .int .i64 (f : Int)] W fun e w' => e = .returned (.bool true) ∧ Below W.heap.size W w' := by
  by_cases h0 : f = 0
  · subst h0
    refine (Told.same_nil 0 W).mono ?_
    rintro e w' ⟨rfl, rfl⟩
    exact ⟨rfl, Below.refl _ _⟩
  · rw [errv_pos h0]
    refine (Told.same_err f f W (by omega) (by omega) hg).mono ?_
    rintro e w' ⟨rfl, hb⟩
    exact ⟨by simp, hb⟩
theorem pf_le {n T y : Int} {s t l q : Int} {m : Nat} : pf n T y (fault s t l q m) ≤ 100 := by
  unfold pf
  have := fault_cases s t l q m
  split
  · omega
  · split
    · omega
    · split <;> omega
end Go.Proofs.YtfehmpdeenpahadDoor.RRing
