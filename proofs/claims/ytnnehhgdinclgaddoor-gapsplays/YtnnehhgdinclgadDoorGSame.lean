/-
  What the functions Ints and Error of package choirsame return of what is the same; package gaps's and the reference's side by side. Their condition: both keep the same, such as it may be.
-/
import Derived.Test.YtnnehhgdinclgadDoorGapsE
import Derived.Test.YtnnehhgdinclgadDoorRGapsD
import Derived.Test.YtnnehhgdinclgadDoorGSorted
import Derived.Test.YtnnehhgdinclgadDoorTold
namespace Go.Proofs.YtnnehhgdinclgadDoor.GPlays
open Go.ChangeShapes Go.WideShapes Go.ChangeAt Go.RowKit Go.Maps Go.Proofs.YtnnehhgdinclgadDoor.Mem Go.Proofs.YtnnehhgdinclgadDoor.GM Go.Proofs.YtnnehhgdinclgadDoor.Gaps Go.Proofs.YtnnehhgdinclgadDoor.RGaps
set_option linter.unusedVariables false

set_option maxHeartbeats 1000000 in
set_option maxRecDepth 100000 in
theorem ints_same (a b : Option Addr) (n cap cap' : Nat) (L : List Int) (w : World) (hA : IArg w a n L) (hB : IArg w b n L) :
    Calls Tryd.prog 23 #[.slice a n cap, .slice b n cap'] w fun e w' => e = .returned (.bool true) ∧ Below w.heap.size w w' := by
  have hn := hA.2.2
  have HA := hidden hA
  have HB := hidden hB
  clear hA hB
  go_enter Tryd.func23, Tryd.ntmps23
  go_wp2_with fail
  go_loopg [5] n (fun g y wr => ∃ (i : Nat), i + g = n ∧ y = .int .i64 (i : Int) ∧ Hid (Below w.heap.size w wr))
  case atStart => exact ⟨0, by omega, rfl, Below.refl _ _⟩
  case round =>
    obtain ⟨i, hig, rfl, HW⟩ := hrel
    by_cases hi : i < n
    · have hiz : (i : Int) < (n : Int) := by omega
      obtain ⟨b1, o1, rfl, h1⟩ := (HA.out.below HW.out).at (by omega)
      obtain ⟨b2, o2, rfl, h2⟩ := (HB.out.below HW.out).at (by omega)
      have c1 := h1 i hi
      have c2 := h2 i hi
      clear h1 h2
      generalize L.getD i 0 = x at *
      go_wp2_with fail
      go_quiet (fail)
      go_wp2_with fail
      go_roundg (n - (i + 1))
      case measure => omega
      case rel => exact ⟨i + 1, by omega, by go_num, hidden (below_drewN HW.out _)⟩
    · have hiz : ¬ (i : Int) < (n : Int) := by omega
      go_wp2_with fail
      go_ret
      exact ⟨rfl, HW.out⟩
/-- an error of a number is the one told -/
theorem told_f (f : Nat) (W : World) (hf : f ≤ 100) (hg : W.cell? ⟨0, 0, none⟩ = some (.iface 130 (.agg #[.pointer (some ⟨1, 27, none⟩)]))) :
    Calls Tryd.prog 14 #[errv f, .int .i64 (f : Int)] W fun e w' => e = .returned (.bool true) ∧ Below W.heap.size W w' := by
  by_cases h0 : f = 0
  · subst h0
    refine (Told.same_nil 0 W).mono ?_
    rintro e w' ⟨rfl, rfl⟩
    exact ⟨rfl, Below.refl _ _⟩
  · rw [errv_pos h0]
    refine (Told.same_err f f W (by omega) (by omega) hg).mono ?_
    rintro e w' ⟨rfl, hb⟩
    exact ⟨by simp, hb⟩

/-- what was given up: each once, and not lacking -/
def GOk (T : Int) (M : Its) (G : List Int) : Prop := G.Nodup ∧ ∀ x ∈ G, x < T ∧ x ∉ nums M
theorem mem_nums {M : Its} {x : Int} : x ∈ nums M ↔ ∃ i ∈ M, i.n = x := by simp [nums]
theorem gok_hear {ag tr nw T y now : Int} {M : Its} {G : List Int} (h : GOk T M G) (hI : GM.Inv ag tr nw T M) : GOk (hU nw T M y now) (hL nw T M y now) G := by
  refine ⟨h.1, fun x hx => ?_⟩
  obtain ⟨h1, h2⟩ := h.2 x hx
  unfold hU hL
  by_cases e : hf nw T M y now = 0
  · rw [if_pos e, if_pos e]
    unfold GM.hT hM
    by_cases c : T < y
    · rw [if_pos c, if_pos c]
      refine ⟨by omega, ?_⟩
      rw [nums_app, List.mem_append]
      rintro (q | q)
      · exact h2 q
      · obtain ⟨i, hi, e⟩ := mem_nums.1 q
        obtain ⟨j, hj, rfl⟩ := mem_fresh.1 hi
        simp only at e
        omega
    · rw [if_neg c, if_neg c]
      refine ⟨h1, ?_⟩
      intro q
      obtain ⟨i, hi, e⟩ := mem_nums.1 q
      exact h2 (mem_nums.2 ⟨i, (List.mem_filter.1 hi).1, e⟩)
  · rw [if_neg e, if_neg e]
    exact ⟨h1, h2⟩
theorem uniq {M : Its} (h : Ris M) {x z : Lk} (hx : x ∈ M) (hz : z ∈ M) (e : x.n = z.n) : x = z := by
  induction M with
  | nil => simp at hx
  | cons a M ih =>
    obtain ⟨p1, p2⟩ := List.pairwise_cons.1 h
    rcases List.mem_cons.1 hx with ex | hx1
    · rcases List.mem_cons.1 hz with ez | hz1
      · rw [ex, ez]
      · have := p1 z hz1; rw [ex] at e; omega
    · rcases List.mem_cons.1 hz with ez | hz1
      · have := p1 x hx1; rw [ez] at e; omega
      · exact ih p2 hx1 hz1
theorem gok_due {ag tr nw T now : Int} {M : Its} {G : List Int} (h : GOk T M G) (hI : GM.Inv ag tr nw T M) : GOk T (dL ag tr nw M now) (G ++ dG ag tr nw M now) := by
  unfold dL dG
  by_cases e : tf nw now = 0
  case neg =>
    rw [if_neg e, if_neg e, List.append_nil]
    exact h
  rw [if_pos e, if_pos e]
  have hmem : ∀ x ∈ gaveL ag tr now M, ∃ i ∈ M, gives ag tr now i = true ∧ i.n = x := by
    intro x hx
    obtain ⟨i, hi, e⟩ := mem_nums.1 hx
    obtain ⟨h1, h2⟩ := List.mem_filter.1 hi
    exact ⟨i, h1, h2, e⟩
  have hsub : ∀ x, x ∈ nums (dM ag tr now M) → ∃ i ∈ M, gives ag tr now i = false ∧ i.n = x := by
    intro x hx
    obtain ⟨i, hi, e⟩ := mem_nums.1 hx
    obtain ⟨z, hz, rfl⟩ := List.mem_map.1 hi
    obtain ⟨h1, h2⟩ := List.mem_filter.1 hz
    rw [next_n] at e
    exact ⟨z, h1, by simpa using h2, e⟩
  refine ⟨?_, fun x hx => ?_⟩
  · rw [List.nodup_append]
    refine ⟨h.1, ?_, ?_⟩
    · unfold gaveL nums
      rw [List.nodup_iff_pairwise_ne, List.pairwise_map]
      have : Ris (M.filter (gives ag tr now)) := hI.ris.filter _
      exact this.apart
    · intro a ha b hb hab
      obtain ⟨i, hi, _, e⟩ := hmem b hb
      exact (h.2 a ha).2 (mem_nums.2 ⟨i, hi, by rw [e, hab]⟩)
  · rcases List.mem_append.1 hx with hx | hx
    · obtain ⟨h1, h2⟩ := h.2 x hx
      refine ⟨h1, fun q => ?_⟩
      obtain ⟨i, hi, _, e⟩ := hsub x q
      exact h2 (mem_nums.2 ⟨i, hi, e⟩)
    · obtain ⟨i, hi, hg, rfl⟩ := hmem x hx
      refine ⟨(hI.mem i hi).2.1, fun q => ?_⟩
      obtain ⟨z, hz, hg2, e⟩ := hsub _ q
      rw [uniq hI.ris hz hi e, hg] at hg2
      cases hg2

/-- the blocks of the two are apart -/
theorem cross {w : World} {b mb rb base : Nat} {ag tr nw T ag' tr' nw' T' : Int} {M M' : Its} {gv lv gv2 : Value} {G G' : List Int} (hg : GapsAt w b mb ag tr nw T M gv G) (hr : RefAt w base rb ag' tr' nw' T' M' lv G' gv2) (ha : ∀ j, gv.ownBlock = some j → gv2.ownBlock ≠ some j) : ∀ k ∈ rblks rb lv gv2, k ∉ blks b mb gv := by
  obtain ⟨D, h2, _⟩ := hg.map
  obtain ⟨es, c, h3⟩ := map_block h2
  have key : ∀ k cs t, w.heap[k]? = some (.cells cs t (0, 0)) → t ≠ 3 → k ≠ b → k ∉ blks b mb gv := by
    intro k cs t hk ht hkb hc
    simp only [blks, List.mem_cons, Option.mem_toList] at hc
    rcases hc with rfl | rfl | hc
    · exact hkb rfl
    · rw [h3] at hk; simp at hk
    · obtain ⟨ds, hd⟩ := own_block hg.row hc
      rw [hk] at hd
      simp only [Option.some.injEq, Obj.cells.injEq] at hd
      exact ht hd.2.1
  intro k hk
  simp only [rblks, List.mem_cons, List.mem_append, Option.mem_toList] at hk
  rcases hk with rfl | hk | hk
  · refine key _ _ 58 hr.box (by decide) ?_
    intro e
    have := hg.box
    rw [← e, hr.box] at this
    simp at this
  · obtain ⟨cs, hc⟩ := row_block hr.row hk
    refine key _ _ 87 hc (by decide) ?_
    intro e
    have := hg.box
    rw [← e, hc] at this
    simp at this
  · obtain ⟨cs, hc⟩ := row_block hr.gave hk
    intro hb
    simp only [blks, List.mem_cons, Option.mem_toList] at hb
    rcases hb with rfl | rfl | hb
    · have := hg.box
      rw [hc] at this
      simp at this
    · rw [h3] at hc; simp at hc
    · exact ha k hb hk
/-- package gaps's and the reference's -/
structure PSt (w W : World) (b mb rb : Nat) (ag tr nw T : Int) (M : Its) (gv : Value) (G : List Int) (lv gv2 : Value) : Prop where
  bel : Below w.heap.size w W
  b1 : ∀ k ∈ blks b mb gv, w.heap.size ≤ k
  b3 : w.heap.size ≤ rb
  gaps : GapsAt W b mb ag tr nw T M gv G
  ref : RefAt W w.heap.size rb ag tr nw T M lv G gv2
  apart : ∀ j, gv.ownBlock = some j → gv2.ownBlock ≠ some j
  inv : GM.Inv ag tr nw T M
  gok : GOk T M G
theorem PSt.below {w W W' : World} {b mb rb : Nat} {ag tr nw T : Int} {M : Its} {gv : Value} {G : List Int} {lv gv2 : Value} (h : PSt w W b mb rb ag tr nw T M gv G lv gv2) (hb : Below W.heap.size W W') : PSt w W' b mb rb ag tr nw T M gv G lv gv2 :=
  { h with bel := h.bel.trans (hb.mono h.bel.size), gaps := h.gaps.below hb, ref := h.ref.below hb }
theorem PSt.b2 {w W : World} {b mb rb : Nat} {ag tr nw T : Int} {M : Its} {gv : Value} {G : List Int} {lv gv2 : Value} (h : PSt w W b mb rb ag tr nw T M gv G lv gv2) : ∀ k ∈ rblks rb lv gv2, w.heap.size ≤ k := by
  intro k hk
  simp only [rblks, List.mem_cons, List.mem_append, Option.mem_toList] at hk
  rcases hk with rfl | hk | hk
  · exact h.b3
  · exact (h.ref.row.lt k hk).1
  · exact (h.ref.gave.lt k hk).1
/-- both have heard a number -/
theorem PSt.hear {w W W1 W2 : World} {b mb rb : Nat} {ag tr nw T y now : Int} {M : Its} {gv : Value} {G : List Int} {lv gv2 lv2 : Value} (h : PSt w W b mb rb ag tr nw T M gv G lv gv2)
    (hr : RefAt W1 w.heap.size rb ag tr (hN nw T M y now) (hU nw T M y now) (hL nw T M y now) lv2 G gv2) (ho : Only (rb :: lv.ownBlock.toList) W W1) :
    GapsAt W1 b mb ag tr nw T M gv G ∧ Below w.heap.size w W1 ∧ (GapsAt W2 b mb ag tr (hN nw T M y now) (hU nw T M y now) (hL nw T M y now) gv G → Only [b, mb] W1 W2 → PSt w W2 b mb rb ag tr (hN nw T M y now) (hU nw T M y now) (hL nw T M y now) gv G lv2 gv2) := by
  have hc := cross h.gaps h.ref h.apart
  have hsub : ∀ k ∈ rb :: lv.ownBlock.toList, k ∈ rblks rb lv gv2 := by
    intro k hk
    simp only [List.mem_cons, Option.mem_toList] at hk
    rcases hk with rfl | hk
    · simp [rblks]
    · simp [rblks, hk]
  have hg1 : GapsAt W1 b mb ag tr nw T M gv G := h.gaps.only ho (fun k hk hk2 => hc k (hsub k hk2) hk)
  have hb1 : Below w.heap.size w W1 := h.bel.trans (ho.below h.bel.size (fun k hk => h.b2 k (hsub k hk)))
  refine ⟨hg1, hb1, fun hg2 ho2 => ?_⟩
  have hc1 := cross hg1 hr h.apart
  have hs2 : ∀ k ∈ [b, mb], k ∈ blks b mb gv := by intro k hk; simp at hk; rcases hk with rfl | rfl <;> simp [blks]
  exact ⟨hb1.trans (ho2.below hb1.size (fun k hk => h.b1 k (hs2 k hk))), h.b1, h.b3, hg2, hr.only ho2 (fun k hk hk2 => hc1 k hk (hs2 k hk2)), h.apart, inv_hear2 h.inv, gok_hear h.gok h.inv⟩
/-- both have said what is due -/
theorem PSt.due {w W W1 W2 : World} {b mb rb : Nat} {ag tr nw T now : Int} {M : Its} {gv gv' : Value} {G : List Int} {lv gv2 lv2 gv3 : Value} (h : PSt w W b mb rb ag tr nw T M gv G lv gv2)
    (hr : RefAt W1 w.heap.size rb ag tr (dN nw now) T (dL ag tr nw M now) lv2 (G ++ dG ag tr nw M now) gv3) (hgb : ∀ j, gv3.ownBlock = some j → gv2.ownBlock = some j ∨ W.heap.size ≤ j) (ho : Only (rb :: gv2.ownBlock.toList) W W1) :
    GapsAt W1 b mb ag tr nw T M gv G ∧ Below w.heap.size w W1 ∧ (GapsAt W2 b mb ag tr (dN nw now) T (dL ag tr nw M now) gv' (G ++ dG ag tr nw M now) → (∀ j, gv'.ownBlock = some j → gv.ownBlock = some j ∨ W1.heap.size ≤ j) → Only (blks b mb gv) W1 W2 → PSt w W2 b mb rb ag tr (dN nw now) T (dL ag tr nw M now) gv' (G ++ dG ag tr nw M now) lv2 gv3) := by
  have hc := cross h.gaps h.ref h.apart
  have hsub : ∀ k ∈ rb :: gv2.ownBlock.toList, k ∈ rblks rb lv gv2 := by
    intro k hk
    simp only [List.mem_cons, Option.mem_toList] at hk
    rcases hk with rfl | hk
    · simp [rblks]
    · simp [rblks, hk]
  have hg1 : GapsAt W1 b mb ag tr nw T M gv G := h.gaps.only ho (fun k hk hk2 => hc k (hsub k hk2) hk)
  have hb1 : Below w.heap.size w W1 := h.bel.trans (ho.below h.bel.size (fun k hk => h.b2 k (hsub k hk)))
  have hlt := h.gaps.lt
  have hap : ∀ j, gv.ownBlock = some j → gv3.ownBlock ≠ some j := by
    intro j hj hj3
    rcases hgb j hj3 with q | q
    · exact h.apart j hj q
    · have := hlt j (by simp [blks, hj]); omega
  refine ⟨hg1, hb1, fun hg2 hgb2 ho2 => ?_⟩
  have hc1 := cross hg1 hr hap
  refine ⟨hb1.trans (ho2.below hb1.size h.b1), ?_, h.b3, hg2, hr.only ho2 (fun k hk => hc1 k hk), ?_, inv_due2 h.inv, gok_due h.gok h.inv⟩
  · intro k hk
    simp only [blks, List.mem_cons, Option.mem_toList] at hk
    rcases hk with rfl | rfl | hk
    · exact h.b1 _ (by simp [blks])
    · exact h.b1 _ (by simp [blks])
    · rcases hgb2 k hk with q | q
      · exact h.b1 _ (by simp [blks, q])
      · have := hb1.size; omega
  · intro j hj hj3
    rcases hgb2 j hj with q | q
    · exact hap j q hj3
    · have := hr.lt j (by simp [rblks, hj3]); omega
/-- both have said what was given up -/
theorem PSt.gave {w W W1 W2 : World} {b mb rb : Nat} {ag tr nw T : Int} {M : Its} {gv : Value} {G : List Int} {lv gv2 : Value} (h : PSt w W b mb rb ag tr nw T M gv G lv gv2) (hb1 : Below W.heap.size W W1)
    (hg2 : GapsAt W2 b mb ag tr nw T M (.slice none 0 0) []) (ho2 : Only (blks b mb gv) W1 W2) :
    Below w.heap.size w W2 ∧ RefAt W2 w.heap.size rb ag tr nw T M lv G gv2 ∧ ∀ W3, Below W2.heap.size W2 W3 → PSt w (W3.setCell ⟨rb, 5, none⟩ (.slice none 0 0)) b mb rb ag tr nw T M (.slice none 0 0) [] lv (.slice none 0 0) := by
  have h1 := h.below hb1
  have hc1 := cross h1.gaps h1.ref h.apart
  have hB2 : Below w.heap.size w W2 := h1.bel.trans (ho2.below h1.bel.size h.b1)
  have hr2 := h1.ref.only ho2 (fun k hk => hc1 k hk)
  refine ⟨hB2, hr2, fun W3 hb3 => ?_⟩
  have hg3 := hg2.below hb3
  have hr3 := hr2.below hb3
  have hB3 : Below w.heap.size w W3 := hB2.trans (hb3.mono hB2.size)
  have oS : Only [rb] W3 (W3.setCell ⟨rb, 5, none⟩ (.slice none 0 0)) := (Only.refl _ _).setCell (by simp) _
  have hc3 := cross hg3 hr3 (by simp [Value.ownBlock])
  refine ⟨hB3.setCell h.b3 _, ?_, h.b3, hg3.only oS ?_, ⟨RGaps.setb hr3.box 5 _, oS.owns hr3.row (fun k hk => by simp; exact (hr3.ne.1 k hk).1), World.ownsRow_nil _ _ _ _⟩, by simp [Value.ownBlock], h.inv, ⟨List.nodup_nil, by simp⟩⟩
  · intro k hk
    exact h.b1 k (by simp [blks, Value.ownBlock] at hk; rcases hk with rfl | rfl <;> simp [blks])
  · intro k hk hc
    simp at hc
    subst hc
    exact hc3 _ (by simp [rblks]) hk
end Go.Proofs.YtnnehhgdinclgadDoor.GPlays
