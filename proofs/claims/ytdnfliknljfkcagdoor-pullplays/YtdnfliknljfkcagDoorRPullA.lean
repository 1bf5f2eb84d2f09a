/-
  What the reference's Pull keeps, in memory; what its functions track, Time, at and Need return. They change nothing that was there.
-/
import Derived.Test.YtdnfliknljfkcagDoorPullD
namespace Go.Proofs.YtdnfliknljfkcagDoor.RPull
open Go.ChangeShapes Go.WideShapes Go.ChangeAt Go.RowKit Go.Proofs.YtdnfliknljfkcagDoor.Mem Go.Proofs.YtdnfliknljfkcagDoor.PU Go.Proofs.YtdnfliknljfkcagDoor.Pull
set_option linter.unusedVariables false

/-! what is wanted, as the reference's list -/
def kk (x : Wt) : Int × Int := (x.a, x.b)
theorem uq_nodup {L : Wts} : Uq L ↔ (L.map kk).Nodup := by
  rw [List.nodup_iff_pairwise_ne, List.pairwise_map]
  unfold Uq kk
  constructor
  · intro h; exact h.imp fun q e => q (by simpa using e)
  · intro h; exact h.imp fun q e => q (by simpa using e)
theorem getD_some {L : Wts} {k : Nat} (hk : k < L.length) : L[k]? = some (L.getD k zz) := by
  rw [List.getD_eq_getElem?_getD, List.getElem?_eq_getElem hk]; rfl
theorem getD_mem {L : Wts} {k : Nat} (hk : k < L.length) : L.getD k zz ∈ L := List.mem_of_getElem? (getD_some hk)
theorem inv_set {L : Wts} (h : PU.Inv L) {k : Nat} (hk : k < L.length) {x : Wt} (hx : Ok x) (hh : hit x.a x.b (L.getD k zz) = true) : PU.Inv (L.set k x) := by
  refine ⟨fun y hy => ?_, ?_⟩
  · rcases List.mem_or_eq_of_mem_set hy with q | rfl
    · exact h.mem y q
    · exact hx
  · rw [uq_nodup, List.map_set]
    have e : kk x = (L.map kk)[k]'(by simpa using hk) := by
      have h1 := hit_iff.1 hh
      have h2 := getD_some hk
      rw [List.getElem?_eq_getElem hk, Option.some.injEq] at h2
      rw [List.getElem_map, h2]
      unfold kk
      rw [h1.1, h1.2]
    rw [e, List.set_getElem_self]
    exact uq_nodup.1 h.uq
theorem puts_set {L : Wts} (h : PU.Inv L) {k : Nat} (hk : k < L.length) {x : Wt} (hh : hit x.a x.b (L.getD k zz) = true) : Puts L x (L.set k x) := by
  intro y
  have h1 := hit_iff.1 hh
  constructor
  · intro hy
    obtain ⟨j, hj, e⟩ := List.getElem_of_mem hy
    rw [List.getElem_set] at e
    by_cases q : k = j
    · rw [if_pos q] at e; exact .inr e.symm
    · rw [if_neg q] at e
      refine .inl ⟨by rw [← e]; exact List.getElem_mem _, fun z => q ?_⟩
      have hj2 : j < L.length := by simpa using hj
      have hn := List.nodup_iff_pairwise_ne.1 (uq_nodup.1 h.uq)
      have e3 := getD_some hk
      rw [List.getElem?_eq_getElem hk, Option.some.injEq] at e3
      have e2 : (L.map kk)[k]'(by simpa using hk) = (L.map kk)[j]'(by simpa using hj2) := by
        rw [List.getElem_map, List.getElem_map, e, e3]
        unfold kk
        rw [h1.1, h1.2, z.1, z.2]
      rcases Nat.lt_trichotomy k j with q1 | q1 | q1
      · exact absurd e2 (List.pairwise_iff_getElem.1 hn k j (by simpa using hk) (by simpa using hj2) q1)
      · exact q1
      · exact absurd e2.symm (List.pairwise_iff_getElem.1 hn j k (by simpa using hj2) (by simpa using hk) q1)
  · rintro (⟨hy, hn⟩ | rfl)
    · obtain ⟨j, hj, e⟩ := List.getElem_of_mem hy
      have q : k ≠ j := by
        rintro rfl
        have e3 := getD_some hk
        rw [List.getElem?_eq_getElem hk, Option.some.injEq] at e3
        rw [← e3, e] at h1
        exact hn h1
      rw [List.mem_iff_getElem]
      exact ⟨j, by simpa using hj, by rw [List.getElem_set, if_neg q]; exact e⟩
    · exact List.mem_set hk y
theorem puts_app {L : Wts} {x : Wt} (h : has L x.a x.b = false) : Puts L x (L ++ [x]) := by
  intro y
  rw [List.mem_append, List.mem_singleton]
  constructor
  · rintro (q | q)
    · refine .inl ⟨q, fun e => ?_⟩
      have := has_iff.2 ⟨y, q, e⟩
      rw [h] at this
      cases this
    · exact .inr q
  · rintro (⟨q, _⟩ | q)
    · exact .inl q
    · exact .inr q
theorem inv_app {L : Wts} (h : PU.Inv L) {x : Wt} (hx : Ok x) (hh : has L x.a x.b = false) : PU.Inv (L ++ [x]) := by
  refine ⟨fun y hy => ?_, ?_⟩
  · rcases List.mem_append.1 hy with q | q
    · exact h.mem y q
    · simp at q; rw [q]; exact hx
  · unfold Uq
    rw [List.pairwise_append]
    refine ⟨h.uq, List.pairwise_singleton _ _, ?_⟩
    intro p hp q hq e
    simp at hq
    subst hq
    have := has_iff.2 ⟨p, hp, e⟩
    rw [hh] at this
    cases this
theorem erase_split {L : Wts} {k : Nat} (hk : k < L.length) : L = L.take k ++ L.getD k zz :: L.drop (k + 1) := by
  have e := getD_some hk
  rw [List.getElem?_eq_getElem hk, Option.some.injEq] at e
  rw [← e, ← List.drop_eq_getElem_cons hk, List.take_append_drop]
theorem inv_erase {L : Wts} (h : PU.Inv L) {k : Nat} : PU.Inv (L.take k ++ L.drop (k + 1)) := by
  have hs : (L.take k ++ L.drop (k + 1)).Sublist L := by rw [← List.eraseIdx_eq_take_drop_succ]; exact List.eraseIdx_sublist _ _
  exact ⟨fun y hy => h.mem y (hs.subset hy), h.uq.sublist hs⟩
theorem dels_erase {L : Wts} (h : PU.Inv L) {k : Nat} (hk : k < L.length) {a t : Int} (hh : hit a t (L.getD k zz) = true) : Dels L a t (L.take k ++ L.drop (k + 1)) := by
  intro y
  have h1 := hit_iff.1 hh
  have hu := h.uq
  have e := erase_split hk
  generalize L.getD k zz = z at *
  generalize L.take k = A at *
  generalize L.drop (k + 1) = B at *
  subst e
  unfold Uq at hu
  rw [List.pairwise_append, List.pairwise_cons] at hu
  obtain ⟨_, ⟨h2, _⟩, h4⟩ := hu
  simp only [List.mem_append, List.mem_cons]
  constructor
  · rintro (q | q)
    · exact ⟨.inl q, fun e => h4 y q z (by simp) ⟨e.1.trans h1.1.symm, e.2.trans h1.2.symm⟩⟩
    · exact ⟨.inr (.inr q), fun e => h2 y q ⟨h1.1.trans e.1.symm, h1.2.trans e.2.symm⟩⟩
  · rintro ⟨q | q | q, hn⟩
    · exact .inl q
    · rw [q] at hn; exact absurd h1 hn
    · exact .inr q

/-- the cells of what the reference keeps -/
structure RCells (cs : Array Value) (th nw : Int) (lv : Value) (td ak : Nat → Int) : Prop where
  sz : cs.size = 21
  c0 : cs[0]? = some (.int .i64 th)
  c1 : cs[1]? = some (.int .i64 nw)
  c2 : cs[2]? = some lv
  ct : ∀ i, i < 8 → cs[3 + (i + 1)]? = some (.int .i64 (td i + 1))
  ca : ∀ i, i < 8 → cs[12 + (i + 1)]? = some (.int .i64 (ak i + 1))
/-- what the reference keeps, in memory: rb its block, lv its list -/
structure RefAt (w : World) (base rb : Nat) (th nw : Int) (td ak : Nat → Int) (L : Wts) (lv : Value) : Prop where
  box : ∃ cs, w.heap[rb]? = some (.cells cs 44 (0, 0)) ∧ RCells cs th nw lv td ak
  row : w.ownsRow base 30 3 lv L.length (mc L)
theorem getr {w : World} {b : Nat} {cs : Array Value} (h : w.heap[b]? = some (.cells cs 44 (0, 0))) (j : Nat) : w.cell? ⟨b, j, none⟩ = cs[j]? := by
  simp [World.cell?, h]
theorem RefAt.cells {w : World} {base rb : Nat} {th nw : Int} {td ak : Nat → Int} {L : Wts} {lv : Value} (h : RefAt w base rb th nw td ak L lv) : w.cell? ⟨rb, 0, none⟩ = some (.int .i64 th) ∧ w.cell? ⟨rb, 1, none⟩ = some (.int .i64 nw) ∧ w.cell? ⟨rb, 2, none⟩ = some lv := by
  obtain ⟨cs, h1, h2⟩ := h.box
  exact ⟨(getr h1 _).trans h2.c0, (getr h1 _).trans h2.c1, (getr h1 _).trans h2.c2⟩
theorem RefAt.track {w : World} {base rb : Nat} {th nw : Int} {td ak : Nat → Int} {L : Wts} {lv : Value} (h : RefAt w base rb th nw td ak L lv) {i : Nat} (hi : i < 8) : w.cell? ⟨rb, 3 + (i + 1), none⟩ = some (.int .i64 (td i + 1)) ∧ w.cell? ⟨rb, 12 + (i + 1), none⟩ = some (.int .i64 (ak i + 1)) := by
  obtain ⟨cs, h1, h2⟩ := h.box
  exact ⟨(getr h1 _).trans (h2.ct i hi), (getr h1 _).trans (h2.ca i hi)⟩
theorem RefAt.free {w : World} {base rb : Nat} {th nw : Int} {td ak : Nat → Int} {L : Wts} {lv : Value} (h : RefAt w base rb th nw td ak L lv) (j : Nat) : w.frozen? ⟨rb, j, none⟩ = false := by
  obtain ⟨cs, h1, h2⟩ := h.box
  simp [World.frozen?, h1]
/-- the blocks that it has -/
def rblks (rb : Nat) (lv : Value) : List Nat := rb :: lv.ownBlock.toList
theorem mem_rblks {rb k : Nat} {lv : Value} : k ∈ rblks rb lv ↔ k = rb ∨ lv.ownBlock = some k := by
  simp [rblks]
theorem RefAt.lt {w : World} {base rb : Nat} {th nw : Int} {td ak : Nat → Int} {L : Wts} {lv : Value} (h : RefAt w base rb th nw td ak L lv) : ∀ k ∈ rblks rb lv, k < w.heap.size := by
  intro k hk
  obtain ⟨cs, h1, h2⟩ := h.box
  rcases mem_rblks.1 hk with rfl | hk
  · exact lt_of_block h1
  · exact (h.row.lt k hk).2
theorem RefAt.ne {w : World} {base rb : Nat} {th nw : Int} {td ak : Nat → Int} {L : Wts} {lv : Value} (h : RefAt w base rb th nw td ak L lv) : ∀ k, lv.ownBlock = some k → k ≠ rb := by
  intro k hk e
  obtain ⟨cs, h1, h2⟩ := h.box
  rcases h.row.2 with ⟨rfl, _⟩ | ⟨g, cap, cur, rfl, _, hb, _⟩
  · simp [Value.ownBlock] at hk
  · simp [Value.ownBlock] at hk
    subst hk
    rw [e, h1] at hb
    simp at hb
theorem RefAt.only {w w' : World} {base rb : Nat} {th nw : Int} {td ak : Nat → Int} {L : Wts} {lv : Value} {bs : List Nat} (h : RefAt w base rb th nw td ak L lv) (ho : Only bs w w') (hb : ∀ k ∈ rblks rb lv, k ∉ bs) : RefAt w' base rb th nw td ak L lv := by
  obtain ⟨cs, h1, h2⟩ := h.box
  exact ⟨⟨cs, ho.block h1 (hb rb (mem_rblks.2 (.inl rfl))), h2⟩, ho.owns h.row (fun k hk => hb k (mem_rblks.2 (.inr hk)))⟩
theorem RefAt.below {w w' : World} {base rb : Nat} {th nw : Int} {td ak : Nat → Int} {L : Wts} {lv : Value} (h : RefAt w base rb th nw td ak L lv) (hb : Below w.heap.size w w') : RefAt w' base rb th nw td ak L lv :=
  h.only (Only.of_below hb []) (by simp)
theorem RefAt.ext {w : World} {base rb : Nat} {th nw : Int} {td ak td' ak' : Nat → Int} {L : Wts} {lv : Value} (h : RefAt w base rb th nw td ak L lv) (e1 : ∀ i, i < 8 → td i = td' i) (e2 : ∀ i, i < 8 → ak i = ak' i) : RefAt w base rb th nw td' ak' L lv := by
  obtain ⟨cs, h1, h2⟩ := h.box
  exact ⟨⟨cs, h1, ⟨h2.sz, h2.c0, h2.c1, h2.c2, fun i hi => by rw [← e1 i hi]; exact h2.ct i hi, fun i hi => by rw [← e2 i hi]; exact h2.ca i hi⟩⟩, h.row⟩
/-- a cell of its block is written -/
theorem RefAt.setb {w : World} {base base' rb : Nat} {th nw nw' : Int} {td ak td' ak' : Nat → Int} {L K : Wts} {lv lv' : Value} (h : RefAt w base rb th nw td ak L lv) (j : Nat) (u : Value) (hc : ∀ cs : Array Value, RCells cs th nw lv td ak → RCells (cs.setIfInBounds j u) th nw' lv' td' ak') (hr : w.ownsRow base' 30 3 lv' K.length (mc K)) : RefAt (w.setCell ⟨rb, j, none⟩ u) base' rb th nw' td' ak' K lv' := by
  obtain ⟨cs, h1, h2⟩ := h.box
  have ho : Only [rb] w (w.setCell ⟨rb, j, none⟩ u) := (Only.refl _ _).setCell (by simp) _
  refine ⟨⟨_, heap_setCell_same w rb j cs 44 u h1, hc cs h2⟩, ho.owns hr (fun k hk => ?_)⟩
  simp
  intro e
  rcases hr.2 with ⟨rfl, _⟩ | ⟨g, cap, cur, rfl, _, hb, _⟩
  · simp [Value.ownBlock] at hk
  · simp [Value.ownBlock] at hk
    subst hk
    rw [e, h1] at hb
    simp at hb
theorem RefAt.setN {w : World} {base rb : Nat} {th nw : Int} {td ak : Nat → Int} {L : Wts} {lv : Value} (h : RefAt w base rb th nw td ak L lv) (x : Int) : RefAt (w.setCell ⟨rb, 1, none⟩ (.int .i64 x)) base rb th x td ak L lv := by
  refine h.setb 1 _ (fun cs hc => ⟨by simpa using hc.sz, ?_, ?_, ?_, ?_, ?_⟩) h.row
  · rw [Array.getElem?_setIfInBounds, if_neg (by omega)]; exact hc.c0
  · rw [Array.getElem?_setIfInBounds, if_pos rfl, if_pos (by have := hc.sz; omega)]
  · rw [Array.getElem?_setIfInBounds, if_neg (by omega)]; exact hc.c2
  · intro i hi; rw [Array.getElem?_setIfInBounds, if_neg (by omega)]; exact hc.ct i hi
  · intro i hi; rw [Array.getElem?_setIfInBounds, if_neg (by omega)]; exact hc.ca i hi
theorem RefAt.setL {w : World} {base base' rb : Nat} {th nw : Int} {td ak : Nat → Int} {L K : Wts} {lv lv' : Value} (h : RefAt w base rb th nw td ak L lv) (hr : w.ownsRow base' 30 3 lv' K.length (mc K)) : RefAt (w.setCell ⟨rb, 2, none⟩ lv') base' rb th nw td ak K lv' := by
  refine h.setb 2 _ (fun cs hc => ⟨by simpa using hc.sz, ?_, ?_, ?_, ?_, ?_⟩) hr
  · rw [Array.getElem?_setIfInBounds, if_neg (by omega)]; exact hc.c0
  · rw [Array.getElem?_setIfInBounds, if_neg (by omega)]; exact hc.c1
  · rw [Array.getElem?_setIfInBounds, if_pos rfl, if_pos (by have := hc.sz; omega)]
  · intro i hi; rw [Array.getElem?_setIfInBounds, if_neg (by omega)]; exact hc.ct i hi
  · intro i hi; rw [Array.getElem?_setIfInBounds, if_neg (by omega)]; exact hc.ca i hi
theorem RefAt.setT {w : World} {base rb : Nat} {th nw : Int} {td ak : Nat → Int} {L : Wts} {lv : Value} (h : RefAt w base rb th nw td ak L lv) {k : Nat} (hk : k < 8) (x : Int) : RefAt (w.setCell ⟨rb, 3 + (k + 1), none⟩ (.int .i64 (x + 1))) base rb th nw (upd td k x) ak L lv := by
  refine h.setb _ _ (fun cs hc => ⟨by simpa using hc.sz, ?_, ?_, ?_, ?_, ?_⟩) h.row
  · rw [Array.getElem?_setIfInBounds, if_neg (by omega)]; exact hc.c0
  · rw [Array.getElem?_setIfInBounds, if_neg (by omega)]; exact hc.c1
  · rw [Array.getElem?_setIfInBounds, if_neg (by omega)]; exact hc.c2
  · intro i hi
    rw [Array.getElem?_setIfInBounds]
    by_cases e : i = k
    · rw [if_pos (by omega), if_pos (by have := hc.sz; omega)]; simp [upd, e]
    · rw [if_neg (by omega)]; simp only [upd, if_neg e]; exact hc.ct i hi
  · intro i hi; rw [Array.getElem?_setIfInBounds, if_neg (by omega)]; exact hc.ca i hi
theorem RefAt.setA {w : World} {base rb : Nat} {th nw : Int} {td ak : Nat → Int} {L : Wts} {lv : Value} (h : RefAt w base rb th nw td ak L lv) {k : Nat} (hk : k < 8) (x : Int) : RefAt (w.setCell ⟨rb, 12 + (k + 1), none⟩ (.int .i64 (x + 1))) base rb th nw td (upd ak k x) L lv := by
  refine h.setb _ _ (fun cs hc => ⟨by simpa using hc.sz, ?_, ?_, ?_, ?_, ?_⟩) h.row
  · rw [Array.getElem?_setIfInBounds, if_neg (by omega)]; exact hc.c0
  · rw [Array.getElem?_setIfInBounds, if_neg (by omega)]; exact hc.c1
  · rw [Array.getElem?_setIfInBounds, if_neg (by omega)]; exact hc.c2
  · intro i hi; rw [Array.getElem?_setIfInBounds, if_neg (by omega)]; exact hc.ct i hi
  · intro i hi
    rw [Array.getElem?_setIfInBounds]
    by_cases e : i = k
    · rw [if_pos (by omega), if_pos (by have := hc.sz; omega)]; simp [upd, e]
    · rw [if_neg (by omega)]; simp only [upd, if_neg e]; exact hc.ca i hi
/-- the list's form, and its cells -/
theorem RefAt.list {w : World} {base rb : Nat} {th nw : Int} {td ak : Nat → Int} {L : Wts} {lv : Value} (h : RefAt w base rb th nw td ak L lv) (hl : L.length ≤ 1000) : ∃ a c, lv = .slice a L.length c ∧ WArg w a L.length L ∧ L.length ≤ c := by
  obtain ⟨a, cap, e, h1, _, h3, _⟩ := own_wts h.row (by omega)
  exact ⟨a, cap, e, h1, h3⟩

theorem track_calls (x : Int) (w : World) : Calls Tryd.prog 29 #[.int .i64 x] w fun e w' => e = .returned (.bool (decide (1 ≤ x) && decide (x ≤ 8))) ∧ w' = w := by
  by_cases h : 1 ≤ x
  · have d : decide (1 ≤ x) = true := by simpa using h
    go_enter Tryd.func29, Tryd.ntmps29
    go_wp2_with fail
    go_ret
    exact ⟨by simp [h], rfl⟩
  · have d : decide (1 ≤ x) = false := by simpa using h
    go_enter Tryd.func29, Tryd.ntmps29
    go_wp2_with fail
    go_ret
    exact ⟨by simp, rfl⟩
theorem time_calls (x : Int) (w : World) : Calls Tryd.prog 31 #[.int .i64 x] w fun e w' => e = .returned (.bool (decide (0 ≤ x) && decide (x ≤ 1000000))) ∧ w' = w := by
  by_cases h : 0 ≤ x
  · have d : decide (0 ≤ x) = true := by simpa using h
    go_enter Tryd.func31, Tryd.ntmps31
    go_wp2_with fail
    go_ret
    exact ⟨by simp [h], rfl⟩
  · have d : decide (0 ≤ x) = false := by simpa using h
    go_enter Tryd.func31, Tryd.ntmps31
    go_wp2_with fail
    go_ret
    exact ⟨by simp, rfl⟩
/-- where somebody who wants a track stands -/
def Where (L : Wts) (a t r : Int) : Prop := (r = -1 ∧ has L a t = false) ∨ ∃ k : Nat, r = (k : Int) ∧ k < L.length ∧ hit a t (L.getD k zz) = true
theorem has_take_succ {L : Wts} {a t : Int} {k : Nat} (hk : k < L.length) : has (L.take (k + 1)) a t = (has (L.take k) a t || hit a t (L.getD k zz)) := by
  rw [List.take_add_one, getD_some hk]
  simp [has]
set_option maxHeartbeats 1000000 in
set_option maxRecDepth 100000 in
theorem at_calls (base rb : Nat) (th nw a t : Int) (td ak : Nat → Int) (L : Wts) (lv : Value) (w : World) (h : RefAt w base rb th nw td ak L lv) (hl : L.length ≤ 1000) :
    Calls Tryd.prog 30 #[.pointer (some ⟨rb, 0, none⟩), .int .i64 a, .int .i64 t] w fun e w' => ∃ r, e = .returned (.int .i64 r) ∧ Where L a t r ∧ w' = w := by
  obtain ⟨la, lc, rfl, hA, _⟩ := h.list hl
  have c2 := h.cells.2.2
  have HA := hidden hA
  clear h hA
  go_enter Tryd.func30, Tryd.ntmps30
  go_wp2_with fail
  go_loopg [7] L.length (fun g y wr => ∃ k : Nat, k + g = L.length ∧ y = .int .i64 (k : Int) ∧ Hid (has (L.take k) a t = false) ∧ w = wr)
  case atStart => exact ⟨0, by omega, rfl, rfl, rfl⟩
  case round =>
    obtain ⟨k, hkg, rfl, HN, rfl⟩ := hrel
    by_cases hk : k < L.length
    · have hkz : (k : Int) < (L.length : Int) := by omega
      obtain ⟨lb, lo, rfl, hlb, hls⟩ := HA.out.at (by omega)
      obtain ⟨r0, r1, -⟩ := hls k hk
      clear hls
      have hH := has_take_succ (a := a) (t := t) hk
      rw [HN.out, Bool.false_or] at hH
      obtain ⟨y, hy⟩ : ∃ y, L.getD k zz = y := ⟨_, rfl⟩
      have HY := hidden hy
      rw [hy] at r0 r1 hH
      clear hy
      obtain ⟨ya, yt, yc⟩ := y
      simp only at r0 r1
      by_cases g1 : ya = a
      · subst g1
        by_cases g2 : yt = t
        · subst g2
          clear hH
          go_wp2_with fail
          go_ret
          exact ⟨_, rfl, .inr ⟨k, rfl, hk, by rw [HY.out]; exact hit_iff.2 ⟨rfl, rfl⟩⟩, rfl⟩
        · have d2 : (yt == t) = false := by simpa using g2
          have HH : Hid (has (L.take (k + 1)) ya t = false) := by rw [hH]; unfold Hid; simp [hit, g2]
          clear hH g2
          go_wp2_with fail
          go_roundg (L.length - (k + 1))
          case measure => omega
          case rel => exact ⟨k + 1, by omega, by go_num, HH, rfl⟩
      · have d1 : (ya == a) = false := by simpa using g1
        have HH : Hid (has (L.take (k + 1)) a t = false) := by rw [hH]; unfold Hid; simp [hit, g1]
        clear hH g1
        go_wp2_with fail
        go_roundg (L.length - (k + 1))
        case measure => omega
        case rel => exact ⟨k + 1, by omega, by go_num, HH, rfl⟩
    · have hkz : ¬ (k : Int) < (L.length : Int) := by omega
      obtain rfl : L.length = k := by omega
      have hh := HN.out
      rw [List.take_length] at hh
      have HH := hidden hh
      clear hh
      go_wp2_with fail
      go_ret
      exact ⟨_, rfl, .inl ⟨rfl, HH.out⟩, rfl⟩
/-- the greatest of the first k -/
theorem need_take_succ {L : Wts} {t : Int} {k : Nat} (hk : k < L.length) : need (L.take (k + 1)) t = if (L.getD k zz).b = t then max (need (L.take k) t) (L.getD k zz).c else need (L.take k) t := by
  unfold need of
  rw [List.take_add_one, getD_some hk]
  simp only [Option.toList_some, List.filter_append, List.foldl_append]
  by_cases e : (L.getD k zz).b = t
  · rw [if_pos e, List.filter_cons_of_pos (by simpa using e)]; rfl
  · rw [if_neg e, List.filter_cons_of_neg (by simpa using e)]; rfl
set_option maxHeartbeats 1000000 in
set_option maxRecDepth 100000 in
theorem rneed_calls (base rb : Nat) (th nw t : Int) (td ak : Nat → Int) (L : Wts) (lv : Value) (w : World) (h : RefAt w base rb th nw td ak L lv) (hl : L.length ≤ 1000) :
    Calls Tryd.prog 20 #[.pointer (some ⟨rb, 0, none⟩), .int .i64 t] w fun e w' => e = .returned (.int .i64 (need L t)) ∧ w' = w := by
  obtain ⟨la, lc, rfl, hA, _⟩ := h.list hl
  have c2 := h.cells.2.2
  have HA := hidden hA
  clear h hA
  go_enter Tryd.func20, Tryd.ntmps20
  go_wp2_with fail
  go_loopg [5, 6] L.length (fun g x y wr => ∃ (k : Nat) (m : Int), k + g = L.length ∧ x = .int .i64 m ∧ y = .int .i64 (k : Int) ∧ Hid (need (L.take k) t = m) ∧ w = wr)
  case atStart => exact ⟨0, -1, by omega, rfl, rfl, rfl, rfl⟩
  case round =>
    obtain ⟨k, m, hkg, rfl, rfl, HN, rfl⟩ := hrel
    by_cases hk : k < L.length
    · have hkz : (k : Int) < (L.length : Int) := by omega
      obtain ⟨lb, lo, rfl, hlb, hls⟩ := HA.out.at (by omega)
      obtain ⟨-, r1, r2⟩ := hls k hk
      clear hls
      have hH := need_take_succ (t := t) hk
      rw [HN.out] at hH
      obtain ⟨y, hy⟩ : ∃ y, L.getD k zz = y := ⟨_, rfl⟩
      rw [hy] at r1 r2 hH
      clear hy
      obtain ⟨ya, yt, yc⟩ := y
      simp only at r1 r2 hH
      by_cases g1 : yt = t
      · subst g1
        rw [if_pos rfl] at hH
        by_cases g2 : m < yc
        · have d2 : decide (m < yc) = true := decide_eq_true g2
          have HH : Hid (need (L.take (k + 1)) yt = yc) := by rw [hH]; unfold Hid; omega
          clear hH g2
          go_wp2_with fail
          go_roundg (L.length - (k + 1))
          case measure => omega
          case rel => exact ⟨k + 1, yc, by omega, rfl, by go_num, HH, rfl⟩
        · have d2 : decide (m < yc) = false := decide_eq_false g2
          have HH : Hid (need (L.take (k + 1)) yt = m) := by rw [hH]; unfold Hid; omega
          clear hH g2
          go_wp2_with fail
          go_roundg (L.length - (k + 1))
          case measure => omega
          case rel => exact ⟨k + 1, m, by omega, rfl, by go_num, HH, rfl⟩
      · have d1 : (yt == t) = false := by simpa using g1
        have HH : Hid (need (L.take (k + 1)) t = m) := by rw [hH, if_neg g1]; exact rfl
        clear hH g1
        go_wp2_with fail
        go_roundg (L.length - (k + 1))
        case measure => omega
        case rel => exact ⟨k + 1, m, by omega, rfl, by go_num, HH, rfl⟩
    · have hkz : ¬ (k : Int) < (L.length : Int) := by omega
      obtain rfl : L.length = k := by omega
      have hh := HN.out
      rw [List.take_length] at hh
      have HH := hidden hh
      clear hh
      go_wp2_with fail
      go_ret
      exact ⟨by rw [HH.out]; rfl, rfl⟩
end Go.Proofs.YtdnfliknljfkcagDoor.RPull
