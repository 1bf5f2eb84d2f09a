/-
  What GapsAsk knows of each number: when it was asked for last, how often, whether it came or was given up; and the three arrays in memory. No walk.
-/
import Derived.Test.YtnnehhgdinclgadGapsE
namespace Go.Proofs.Ytnnehhgdinclgad.GAsk
open Go.ChangeShapes Go.WideShapes Go.ChangeAt Go.RowKit Go.Proofs.Ytnnehhgdinclgad.Mem Go.Proofs.Ytnnehhgdinclgad.GM Go.Proofs.Ytnnehhgdinclgad.Gaps
set_option linter.unusedVariables false

/-- what is known of the numbers is so -/
def Rel (T : Int) (M : Its) (Wn Of : Nat → Int) (Cm : Nat → Bool) : Prop :=
  (∀ x ∈ M, Cm x.n.toNat = false ∧ Of x.n.toNat = x.t ∧ (0 < x.t → Wn x.n.toNat = x.a)) ∧ ∀ j : Nat, T < (j : Int) → Cm j = false ∧ Of j = 0
def upd {α : Type} (F : Nat → α) (y : Nat) (v : α) : Nat → α := fun j => if j = y then v else F j
theorem rel_start : Rel (-1) [] (fun _ => 0) (fun _ => 0) (fun _ => false) := ⟨by simp, fun j _ => ⟨rfl, rfl⟩⟩
theorem rel_hear {ag tr nw T now : Int} {M : Its} {Wn Of : Nat → Int} {Cm : Nat → Bool} (h : Rel T M Wn Of Cm) (hI : GM.Inv ag tr nw T M) (y : Nat) (h0 : hf nw T M y now = 0) :
    (hx T M y = true → Cm y = false) ∧ Rel (GM.hT T y) (hM T M y) Wn Of (upd Cm y true) := by
  obtain ⟨h1, h2⟩ := h
  refine ⟨fun hh => ?_, ?_⟩
  · unfold hx at hh
    rw [Bool.or_eq_true] at hh
    rcases hh with hh | hh
    · exact (h2 y (by simpa using hh)).1
    · obtain ⟨x, hx, e⟩ := has_iff.1 hh
      have := (h1 x hx).1
      rw [e] at this
      simpa using this
  · unfold GM.hT hM
    by_cases c : T < (y : Int)
    · simp only [c, if_true]
      refine ⟨fun x hx => ?_, fun j hj => ?_⟩
      · rcases List.mem_append.1 hx with hx | hx
        · have hm := hI.mem x hx
          have hne : x.n.toNat ≠ y := by omega
          simp only [upd, hne, if_false]
          exact h1 x hx
        · obtain ⟨j, hj, rfl⟩ := mem_fresh.1 hx
          have ht1 := hI.t1
          have hlo : lo T y = y - T - 1 := by
            unfold lo at hj ⊢
            split at hj
            · simp at hj
            · rename_i q; rw [if_neg q]
          have hq := h2 (T + 1 + (j : Int)).toNat (by omega)
          have hne : (T + 1 + (j : Int)).toNat ≠ y := by omega
          simp only [upd, hne, if_false]
          exact ⟨hq.1, hq.2, by intro q; omega⟩
      · have hne : j ≠ y := by omega
        simp only [upd, hne, if_false]
        exact h2 j (by omega)
    · simp only [c, if_false]
      refine ⟨fun x hx => ?_, fun j hj => ?_⟩
      · obtain ⟨hx, hn⟩ := List.mem_filter.1 hx
        have hm := hI.mem x hx
        simp at hn
        have hne : x.n.toNat ≠ y := by omega
        simp only [upd, hne, if_false]
        exact h1 x hx
      · have hne : j ≠ y := by omega
        simp only [upd, hne, if_false]
        exact h2 j hj

/-- behind so many that were asked for, that were given up -/
def ofK (Of : Nat → Int) (L : List Int) : Nat → Int := fun j => Of j + (if (j : Int) ∈ L then 1 else 0)
def wnK (Wn : Nat → Int) (now : Int) (L : List Int) : Nat → Int := fun j => if (j : Int) ∈ L then now else Wn j
def cmK (Cm : Nat → Bool) (L : List Int) : Nat → Bool := fun j => Cm j || decide ((j : Int) ∈ L)
theorem ofK_nil (Of : Nat → Int) : ofK Of [] = Of := by funext j; simp [ofK]
theorem wnK_nil (Wn : Nat → Int) (now : Int) : wnK Wn now [] = Wn := by funext j; simp [wnK]
theorem cmK_nil (Cm : Nat → Bool) : cmK Cm [] = Cm := by funext j; simp [cmK]
theorem ofK_step {Of : Nat → Int} {L : List Int} {y : Nat} (h : (y : Int) ∉ L) : ofK Of (L ++ [(y : Int)]) = upd (ofK Of L) y (ofK Of L y + 1) := by
  funext j
  unfold upd ofK
  by_cases e : j = y
  · subst e; simp [h]
  · have : ¬ (j : Int) = y := by omega
    simp [this, e]
theorem wnK_step {Wn : Nat → Int} {now : Int} {L : List Int} {y : Nat} : wnK Wn now (L ++ [(y : Int)]) = upd (wnK Wn now L) y now := by
  funext j
  unfold upd wnK
  by_cases e : j = y
  · subst e; simp
  · have : ¬ (j : Int) = y := by omega
    simp [this, e]
theorem cmK_step {Cm : Nat → Bool} {L : List Int} {y : Nat} : cmK Cm (L ++ [(y : Int)]) = upd (cmK Cm L) y true := by
  funext j
  unfold upd cmK
  by_cases e : j = y
  · subst e; simp
  · have : ¬ (j : Int) = y := by omega
    simp [this, e]
theorem ofK_out {Of : Nat → Int} {L : List Int} {y : Nat} (h : (y : Int) ∉ L) : ofK Of L y = Of y := by simp [ofK, h]
theorem wnK_out {Wn : Nat → Int} {now : Int} {L : List Int} {y : Nat} (h : (y : Int) ∉ L) : wnK Wn now L y = Wn y := by simp [wnK, h]
theorem cmK_out {Cm : Nat → Bool} {L : List Int} {y : Nat} (h : (y : Int) ∉ L) : cmK Cm L y = Cm y := by simp [cmK, h]

theorem uniq {M : Its} (h : Ris M) {x z : Lk} (hx : x ∈ M) (hz : z ∈ M) (e : x.n = z.n) : x = z := by
  induction M with
  | nil => simp at hx
  | cons a M ih =>
    obtain ⟨p1, p2⟩ := List.pairwise_cons.1 h
    rcases List.mem_cons.1 hx with ex | hx1
    · rcases List.mem_cons.1 hz with ez | hz1
      · rw [ex, ez]
      · have := p1 z hz1; rw [ex] at e; omega
    · rcases List.mem_cons.1 hz with ez | hz1
      · have := p1 x hx1; rw [ez] at e; omega
      · exact ih p2 hx1 hz1
theorem mem_due {ag tr now : Int} {M : Its} {d : Int} : d ∈ dueL ag tr now M ↔ ∃ x ∈ M, asks ag tr now x = true ∧ x.n = d := by
  simp only [dueL, nums, List.mem_map, List.mem_filter]
  constructor
  · rintro ⟨x, ⟨h1, h2⟩, h3⟩; exact ⟨x, h1, h2, h3⟩
  · rintro ⟨x, h1, h2, h3⟩; exact ⟨x, ⟨h1, h2⟩, h3⟩
theorem mem_gave {ag tr now : Int} {M : Its} {d : Int} : d ∈ gaveL ag tr now M ↔ ∃ x ∈ M, gives ag tr now x = true ∧ x.n = d := by
  simp only [gaveL, nums, List.mem_map, List.mem_filter]
  constructor
  · rintro ⟨x, ⟨h1, h2⟩, h3⟩; exact ⟨x, h1, h2, h3⟩
  · rintro ⟨x, h1, h2, h3⟩; exact ⟨x, ⟨h1, h2⟩, h3⟩
def Up (L : List Int) : Prop := L.Pairwise fun a b => a < b
theorem up_due {ag tr now : Int} {M : Its} (h : Ris M) : Up (dueL ag tr now M) := by
  unfold Up dueL nums
  rw [List.pairwise_map]
  exact h.filter _
theorem up_gave {ag tr now : Int} {M : Its} (h : Ris M) : Up (gaveL ag tr now M) := by
  unfold Up gaveL nums
  rw [List.pairwise_map]
  exact h.filter _
theorem up_sorted {L : List Int} (h : Up L) : L.mergeSort (fun x y => decide (x ≤ y)) = L :=
  List.mergeSort_of_pairwise (h.imp fun q => by simp; omega)
/-- the next of a row that rises -/
theorem up_next {L : List Int} (h : Up L) {k : Nat} (hk : k < L.length) : L.getD k 0 ∈ L ∧ L.getD k 0 ∉ L.take k ∧ L.take (k + 1) = L.take k ++ [L.getD k 0] ∧ (0 < k → L.getD (k - 1) 0 < L.getD k 0) := by
  have e : L.getD k 0 = L[k] := by rw [List.getD_eq_getElem?_getD, List.getElem?_eq_getElem hk]; rfl
  refine ⟨by rw [e]; exact List.getElem_mem _, ?_, ?_, fun h0 => ?_⟩
  · rw [e]
    intro hm
    obtain ⟨j, hj, e2⟩ := List.mem_iff_getElem.1 hm
    have hj' : j < k := by simp at hj; omega
    rw [List.getElem_take] at e2
    have := List.pairwise_iff_getElem.1 h j k (by omega) hk hj'
    omega
  · rw [e, List.take_append_getElem hk]
  · have e2 : L.getD (k - 1) 0 = L[k - 1] := by rw [List.getD_eq_getElem?_getD, List.getElem?_eq_getElem (by omega)]; rfl
    rw [e, e2]
    exact List.pairwise_iff_getElem.1 h (k - 1) k (by omega) hk (by omega)
/-- of one that is asked for -/
theorem due_at {ag tr nw T now : Int} {M : Its} {Wn Of : Nat → Int} {Cm : Nat → Bool} (h : Rel T M Wn Of Cm) (hI : GM.Inv ag tr nw T M) (hT : T < 150) {d : Int} (hd : d ∈ dueL ag tr now M) :
    ∃ y : Nat, d = (y : Int) ∧ y < 150 ∧ Cm y = false ∧ 0 ≤ Of y ∧ Of y < tr ∧ ¬ (0 < Of y ∧ now - Wn y < ag) ∧ (0 < Of y → 0 ≤ Wn y ∧ Wn y ≤ nw) := by
  obtain ⟨x, hx, ha, rfl⟩ := mem_due.1 hd
  have hm := hI.mem x hx
  obtain ⟨q1, q2, q3⟩ := h.1 x hx
  refine ⟨x.n.toNat, by omega, by omega, q1, by omega, ?_, ?_, fun p => by rw [q2] at p; rw [q3 p]; omega⟩
  · rw [q2]
    simp [asks] at ha
    omega
  · rintro ⟨p1, p2⟩
    rw [q2] at p1
    rw [q3 p1] at p2
    simp [asks, stays, p1, p2] at ha
theorem gave_at {ag tr nw T now : Int} {M : Its} {Wn Of : Nat → Int} {Cm : Nat → Bool} (h : Rel T M Wn Of Cm) (hI : GM.Inv ag tr nw T M) (hT : T < 150) {d : Int} (hd : d ∈ gaveL ag tr now M) :
    ∃ y : Nat, d = (y : Int) ∧ y < 150 ∧ Cm y = false ∧ ofK Of (dueL ag tr now M) y = tr := by
  obtain ⟨x, hx, ha, rfl⟩ := mem_gave.1 hd
  have hm := hI.mem x hx
  obtain ⟨q1, q2, q3⟩ := h.1 x hx
  refine ⟨x.n.toNat, by omega, by omega, q1, ?_⟩
  have hno : ((x.n.toNat : Nat) : Int) ∉ dueL ag tr now M := by
    intro hc
    obtain ⟨z, hz, hza, e⟩ := mem_due.1 hc
    obtain rfl := uniq hI.ris hz hx (by omega)
    simp [gives] at ha
    simp [asks, ha.2] at hza
  rw [ofK_out hno, q2]
  simp [gives] at ha
  exact ha.2
theorem rel_after {ag tr nw T now : Int} {M : Its} {Wn Of : Nat → Int} {Cm : Nat → Bool} (h : Rel T M Wn Of Cm) (hI : GM.Inv ag tr nw T M) :
    Rel T (dM ag tr now M) (wnK Wn now (dueL ag tr now M)) (ofK Of (dueL ag tr now M)) (cmK Cm (gaveL ag tr now M)) := by
  refine ⟨fun x' hx' => ?_, fun j hj => ?_⟩
  · obtain ⟨x, hx, rfl⟩ := List.mem_map.1 hx'
    obtain ⟨hx, hg⟩ := List.mem_filter.1 hx
    have hm := hI.mem x hx
    obtain ⟨q1, q2, q3⟩ := h.1 x hx
    have hn : ((x.n.toNat : Nat) : Int) = x.n := by omega
    have hng : ((x.n.toNat : Nat) : Int) ∉ gaveL ag tr now M := by
      intro hc
      obtain ⟨z, hz, hza, e⟩ := mem_gave.1 hc
      obtain rfl := uniq hI.ris hz hx (by omega)
      simp [hza] at hg
    rw [next_n, cmK_out hng]
    by_cases ha : asks ag tr now x = true
    · have hd : ((x.n.toNat : Nat) : Int) ∈ dueL ag tr now M := mem_due.2 ⟨x, hx, ha, by omega⟩
      have en : next ag tr now x = ⟨x.n, x.t + 1, now⟩ := by simp [next, ha]
      rw [en]
      refine ⟨q1, ?_, fun _ => ?_⟩
      · simp only [ofK, if_pos hd, q2]
      · simp only [wnK, if_pos hd]
    · have hd : ((x.n.toNat : Nat) : Int) ∉ dueL ag tr now M := by
        intro hc
        obtain ⟨z, hz, hza, e⟩ := mem_due.1 hc
        obtain rfl := uniq hI.ris hz hx (by omega)
        exact ha hza
      have en : next ag tr now x = x := by simp [next, ha]
      rw [en, ofK_out hd, wnK_out hd]
      exact ⟨q1, q2, q3⟩
  · obtain ⟨q1, q2⟩ := h.2 j hj
    have hd : (j : Int) ∉ dueL ag tr now M := by
      intro hc
      obtain ⟨z, hz, _, e⟩ := mem_due.1 hc
      have := hI.mem z hz
      omega
    have hg : (j : Int) ∉ gaveL ag tr now M := by
      intro hc
      obtain ⟨z, hz, _, e⟩ := mem_gave.1 hc
      have := hI.mem z hz
      omega
    rw [cmK_out hg, ofK_out hd]
    exact ⟨q1, q2⟩

/-! arrays in memory -/
def ArrI (w : World) (g : Nat) (F : Nat → Int) : Prop := ∃ cs : Array Value, w.heap[g]? = some (.cells cs 34 (0, 0)) ∧ cs.size = 300 ∧ ∀ j, j < 300 → cs[j]? = some (.int .i64 (F j))
def ArrB (w : World) (g : Nat) (F : Nat → Bool) : Prop := ∃ cs : Array Value, w.heap[g]? = some (.cells cs 35 (0, 0)) ∧ cs.size = 300 ∧ ∀ j, j < 300 → cs[j]? = some (.bool (F j))
theorem ArrI.cell {w : World} {g : Nat} {F : Nat → Int} (h : ArrI w g F) {j : Nat} (hj : j < 300) : w.cell? ⟨g, j, none⟩ = some (.int .i64 (F j)) := by
  obtain ⟨cs, h1, _, h3⟩ := h
  simp [World.cell?, h1, h3 j hj]
theorem ArrB.cell {w : World} {g : Nat} {F : Nat → Bool} (h : ArrB w g F) {j : Nat} (hj : j < 300) : w.cell? ⟨g, j, none⟩ = some (.bool (F j)) := by
  obtain ⟨cs, h1, _, h3⟩ := h
  simp [World.cell?, h1, h3 j hj]
theorem ArrI.free {w : World} {g : Nat} {F : Nat → Int} (h : ArrI w g F) (j : Nat) : w.frozen? ⟨g, j, none⟩ = false := by
  obtain ⟨cs, h1, _⟩ := h
  simp [World.frozen?, h1]
theorem ArrB.free {w : World} {g : Nat} {F : Nat → Bool} (h : ArrB w g F) (j : Nat) : w.frozen? ⟨g, j, none⟩ = false := by
  obtain ⟨cs, h1, _⟩ := h
  simp [World.frozen?, h1]
theorem ArrI.only {w w' : World} {g : Nat} {F : Nat → Int} {bs : List Nat} (h : ArrI w g F) (ho : Only bs w w') (hg : g ∉ bs) : ArrI w' g F := by
  obtain ⟨cs, h1, h2⟩ := h
  exact ⟨cs, ho.block h1 hg, h2⟩
theorem ArrB.only {w w' : World} {g : Nat} {F : Nat → Bool} {bs : List Nat} (h : ArrB w g F) (ho : Only bs w w') (hg : g ∉ bs) : ArrB w' g F := by
  obtain ⟨cs, h1, h2⟩ := h
  exact ⟨cs, ho.block h1 hg, h2⟩
theorem ArrI.lt {w : World} {g : Nat} {F : Nat → Int} (h : ArrI w g F) : g < w.heap.size := by
  obtain ⟨cs, h1, _⟩ := h
  exact lt_of_block h1
theorem ArrB.lt {w : World} {g : Nat} {F : Nat → Bool} (h : ArrB w g F) : g < w.heap.size := by
  obtain ⟨cs, h1, _⟩ := h
  exact lt_of_block h1
theorem ArrI.set {w : World} {g : Nat} {F : Nat → Int} (h : ArrI w g F) {y : Nat} (hy : y < 300) (v : Int) : ArrI (w.setCell ⟨g, y, none⟩ (.int .i64 v)) g (upd F y v) := by
  obtain ⟨cs, h1, h2, h3⟩ := h
  refine ⟨_, heap_setCell_same w g y cs 34 (.int .i64 v) h1, by simpa using h2, fun j hj => ?_⟩
  rw [Array.getElem?_setIfInBounds]
  by_cases e : y = j
  · subst e
    rw [if_pos rfl, if_pos (by omega)]
    simp [upd]
  · rw [if_neg e, h3 j hj]
    have : ¬ j = y := fun q => e q.symm
    simp [upd, this]
theorem ArrB.set {w : World} {g : Nat} {F : Nat → Bool} (h : ArrB w g F) {y : Nat} (hy : y < 300) (v : Bool) : ArrB (w.setCell ⟨g, y, none⟩ (.bool v)) g (upd F y v) := by
  obtain ⟨cs, h1, h2, h3⟩ := h
  refine ⟨_, heap_setCell_same w g y cs 35 (.bool v) h1, by simpa using h2, fun j hj => ?_⟩
  rw [Array.getElem?_setIfInBounds]
  by_cases e : y = j
  · subst e
    rw [if_pos rfl, if_pos (by omega)]
    simp [upd]
  · rw [if_neg e, h3 j hj]
    have : ¬ j = y := fun q => e q.symm
    simp [upd, this]
/-- they are none of package gaps's blocks -/
theorem ArrI.off {w : World} {g b mb : Nat} {F : Nat → Int} {ag tr nw T : Int} {M : Its} {gv : Value} {G : List Int} (h : ArrI w g F) (hg : GapsAt w b mb ag tr nw T M gv G) : g ∉ blks b mb gv := by
  obtain ⟨cs, h1, _⟩ := h
  obtain ⟨D, h2, _⟩ := hg.map
  obtain ⟨es, c, h3⟩ := map_block h2
  intro hc
  simp only [blks, List.mem_cons, Option.mem_toList] at hc
  rcases hc with rfl | rfl | hc
  · have := hg.box
    rw [h1] at this
    simp at this
  · rw [h1] at h3; simp at h3
  · obtain ⟨cs', h4⟩ := own_block hg.row hc
    rw [h1] at h4; simp at h4
theorem ArrB.off {w : World} {g b mb : Nat} {F : Nat → Bool} {ag tr nw T : Int} {M : Its} {gv : Value} {G : List Int} (h : ArrB w g F) (hg : GapsAt w b mb ag tr nw T M gv G) : g ∉ blks b mb gv := by
  obtain ⟨cs, h1, _⟩ := h
  obtain ⟨D, h2, _⟩ := hg.map
  obtain ⟨es, c, h3⟩ := map_block h2
  intro hc
  simp only [blks, List.mem_cons, Option.mem_toList] at hc
  rcases hc with rfl | rfl | hc
  · have := hg.box
    rw [h1] at this
    simp at this
  · rw [h1] at h3; simp at h3
  · obtain ⟨cs', h4⟩ := own_block hg.row hc
    rw [h1] at h4; simp at h4
theorem arr_ne {w : World} {g h : Nat} {F : Nat → Int} {K : Nat → Bool} (h1 : ArrI w g F) (h2 : ArrB w h K) : g ≠ h := by
  obtain ⟨cs, h1, _⟩ := h1
  obtain ⟨ds, h2, _⟩ := h2
  intro e
  rw [e, h2] at h1
  simp at h1
end Go.Proofs.Ytnnehhgdinclgad.GAsk
