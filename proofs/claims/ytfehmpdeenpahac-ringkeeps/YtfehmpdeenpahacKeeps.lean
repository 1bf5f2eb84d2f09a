/-
  The walk of the Go function RingKeeps: it returns true.
-/
import Derived.Test.YtfehmpdeenpahacRingF
namespace Go.Proofs.Ytfehmpdeenpahac.Keeps
open Go.ChangeShapes Go.WideShapes Go.ChangeAt Go.RowKit Go.Proofs.Ytfehmpdeenpahac.PM Go.Proofs.Ytfehmpdeenpahac.Mem Go.Proofs.Ytfehmpdeenpahac.Pack Go.Proofs.Ytfehmpdeenpahac.RM Go.Proofs.Ytfehmpdeenpahac.Ring
set_option linter.unusedVariables false

theorem info3 : (Try.prog.info? 3).map (fun i => (i.zero, i.size, i.bytes)) = some (some (.int .i64 0), 1, 8) := by kernel_rfl

/-- which of the numbers so far are there, and as what -/
def KIn (n z : Int) (A : List Int) (M : Its) : Prop := (∀ a ∈ A, 0 ≤ a ∧ a ≤ z ∧ has M a = decide (z - n < a)) ∧ ∀ i ∈ M, i.2.s = i.1 % 65536
theorem has_keeps_iff (n T a : Int) (M : Its) : has (keeps n T M) a = (has M a && decide (T - n < a)) := by
  rw [Bool.eq_iff_iff, Bool.and_eq_true, has_iff, has_iff, decide_eq_true_eq]
  constructor
  · rintro ⟨i, hi, rfl⟩
    obtain ⟨h1, h2⟩ := List.mem_filter.1 hi
    exact ⟨⟨i, h1, rfl⟩, by simpa using h2⟩
  · rintro ⟨⟨i, hi, rfl⟩, h⟩
    exact ⟨i, List.mem_filter.2 ⟨hi, by simpa using h⟩, rfl⟩
theorem has_snoc (M : Its) (y a : Int) (p : Pk) : has (M ++ [(y, p)]) a = (has M a || y == a) := by simp [has]
theorem kin_put {n z x : Int} {A : List Int} {M : Its} {p : Pk} (h : KIn n z A M) (hn : 1 ≤ n) (hz : 0 ≤ z) (hx : 1 ≤ x) (hp : p.s = (z + x) % 65536) : KIn n (z + x) (A ++ [z + x]) (keeps n (z + x) M ++ [(z + x, p)]) := by
  refine ⟨?_, ?_⟩
  · intro a ha
    rcases List.mem_append.1 ha with ha | ha
    · obtain ⟨h1, h2, h3⟩ := h.1 a ha
      refine ⟨h1, by omega, ?_⟩
      rw [has_snoc, has_keeps_iff, h3]
      have e : (z + x == a) = false := by simp; omega
      rw [e, Bool.or_false, Bool.eq_iff_iff]
      simp only [Bool.and_eq_true, decide_eq_true_eq]
      omega
    · simp only [List.mem_singleton] at ha
      subst ha
      refine ⟨by omega, by omega, ?_⟩
      rw [has_snoc]
      simp; omega
  · intro i hi
    rcases List.mem_append.1 hi with hi | hi
    · exact h.2 i (List.mem_filter.1 hi).1
    · simp only [List.mem_singleton] at hi
      subst hi
      exact hp
theorem got_s {n z a : Int} {A : List Int} {M : Its} (h : KIn n z A M) (ha : has M a = true) : (got M a).s = a % 65536 := by
  obtain ⟨i, hi, rfl, hf⟩ := find_some ha
  simp [got, hf, h.2 i hi]

/-- the ring, and the row of all numbers -/
structure KSt (w W : World) (b mb : Nat) (n T z : Int) (A : List Int) (M : Its) (v : Value) (k : Nat) : Prop where
  bel : Below w.heap.size w W
  b1 : w.heap.size ≤ b
  b2 : w.heap.size ≤ mb
  ring : RingAt W b mb n T M
  inv : RM.Inv n T M
  tz : T ≤ z
  z0 : 0 ≤ z
  z1 : z ≤ 1000000 + 1000 * k
  kin : KIn n z A M
  row : W.ownsRow w.heap.size 3 1 v A.length (A.map (Value.int .i64))
  len : A.length ≤ k

theorem row_ne {w : World} {b mb base : Nat} {n T : Int} {M : Its} {v : Value} {m : Nat} {xs : List Value} (h : RingAt w b mb n T M) (ho : w.ownsRow base 3 1 v m xs) : ∀ k, v.ownBlock = some k → k ∉ [b, mb] := by
  obtain ⟨h1, D, h2, _⟩ := h
  obtain ⟨es, c, h3⟩ := map_block h2
  intro k hk hc
  rcases ho.2 with ⟨rfl, _⟩ | ⟨g, cap, cur, rfl, _, hcur, _⟩
  · simp [Value.ownBlock] at hk
  · simp [Value.ownBlock] at hk
    subst hk
    simp only [List.mem_cons, List.not_mem_nil, or_false] at hc
    rcases hc with rfl | rfl
    · rw [h1] at hcur; simp at hcur
    · rw [h3] at hcur; simp at hcur
theorem row_nob {w : World} {base : Nat} {v : Value} {m : Nat} {xs : List Value} (ho : w.ownsRow base 3 1 v m xs) : ∀ k ∈ v.ownBlock.toList, ∀ cs fr, w.heap[k]? ≠ some (.cells cs 5 fr) := by
  intro k hk cs fr e
  rcases ho.2 with ⟨rfl, _⟩ | ⟨g, cap, cur, rfl, _, hcur, _⟩
  · simp [Value.ownBlock] at hk
  · simp [Value.ownBlock] at hk
    subst hk
    rw [hcur] at e
    simp at e
theorem KSt.below {w W W' : World} {b mb : Nat} {n T z : Int} {A : List Int} {M : Its} {v : Value} {k : Nat} (h : KSt w W b mb n T z A M v k) (hb : Below W.heap.size W W') : KSt w W' b mb n T z A M v k :=
  { h with bel := h.bel.trans (hb.mono h.bel.size), ring := h.ring.below hb, row := (Only.of_below hb []).owns h.row (by simp) }
theorem KSt.next {w W : World} {b mb : Nat} {n T z : Int} {A : List Int} {M : Its} {v : Value} {k : Nat} (h : KSt w W b mb n T z A M v k) : KSt w W b mb n T z A M v (k + 1) :=
  { h with z1 := by have := h.z1; omega, len := by have := h.len; omega }

/-- a packet of the next number is kept, and the number is written down -/
theorem KSt.put {w W W1 W2 W3 : World} {b mb : Nat} {n T z x : Int} {A : List Int} {M : Its} {v v' : Value} {k : Nat} {p : Pk} (h : KSt w W b mb n T z A M v k) (hx : 1 ≤ x) (hx1 : x ≤ 1000) (hk : k < 60) (hp : p.s = (z + x) % 65536)
    (hR : RingAt W1 b mb n (z + x) (keeps n (z + x) M ++ [(z + x, p)])) (ho : Only [b, mb] W W1) (h12 : Below W1.heap.size W1 W2) (hg : W2.grownBy W3 v.ownBlock) (hrow : W3.ownsRow w.heap.size 3 1 v' (A.length + 1) (A.map (Value.int .i64) ++ [.int .i64 (z + x)])) :
    KSt w W3 b mb n (z + x) (z + x) (A ++ [z + x]) (keeps n (z + x) M ++ [(z + x, p)]) v' (k + 1) := by
  have hrow1 : W1.ownsRow w.heap.size 3 1 v A.length (A.map (Value.int .i64)) := ho.owns h.row (row_ne h.ring h.row)
  have hrow2 : W2.ownsRow w.heap.size 3 1 v A.length (A.map (Value.int .i64)) := (Only.of_below h12 []).owns hrow1 (by simp)
  have hR2 := hR.below h12
  have ho3 : Only v.ownBlock.toList W2 W3 := (Only.refl _ _).grown hg (by simp)
  have hne := row_ne hR2 hrow2
  have hT : top T (z + x) = z + x := by have := h.tz; simp [top]; omega
  have hh : has M (z + x) = false := by
    rw [Bool.eq_false_iff]
    intro hc
    obtain ⟨i, hi, e⟩ := has_iff.1 hc
    have := h.inv.mem i hi
    have := h.tz
    omega
  have b1 := h.b1
  have b2 := h.b2
  have hb1 : Below w.heap.size w W1 := h.bel.trans (ho.below h.bel.size (by simp; omega))
  have hb2 : Below w.heap.size w W2 := hb1.trans (h12.mono hb1.size)
  refine ⟨hb2.trans (ho3.below hb2.size ?_), h.b1, h.b2, hR2.only ho3 ?_ ?_ (row_nob hrow2), ?_, Int.le_refl _, by have := h.z0; omega, by have := h.z1; omega, kin_put h.kin h.inv.n1 h.z0 hx hp, ?_, ?_⟩
  · intro j hj
    exact (hrow2.lt j (by simpa using hj)).1
  · intro hc
    exact hne b (by simpa using hc) (by simp)
  · intro hc
    exact hne mb (by simpa using hc) (by simp)
  · have := inv_put h.inv p (y := z + x) (by have := h.z0; omega) (by have := h.z1; omega) (by have := h.tz; have := h.inv.n1; omega) hh
    rw [hT] at this
    exact this
  · simpa using hrow
  · have := h.len; simp; omega
end Go.Proofs.Ytfehmpdeenpahac.Keeps
