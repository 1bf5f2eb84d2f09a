/-
  The reference's Voices in memory, and what is worked out on the way through its Hear, as numbers and lists. No walk.
-/
import Derived.Test.YtjhfjkacfnccdahDoorVoiceI
import Derived.Deep.CutRange
namespace Go.Proofs.YtjhfjkacfnccdahDoor.RVoice
open Go.ChangeShapes Go.WideShapes Go.ChangeAt Go.RowKit Go.Maps Go.Proofs.YtjhfjkacfnccdahDoor.Mem Go.Proofs.YtjhfjkacfnccdahDoor.VO Go.Proofs.YtjhfjkacfnccdahDoor.Voice
set_option linter.unusedVariables false

/-- the reference's Voices: rb its block, v its list -/
structure RAt (w : World) (rb : Nat) (v : Value) (many sp : Int) (f : Sc) : Prop where
  box : w.heap[rb]? = some (.cells #[.int .i64 many, .int .i64 sp, v] 32 (0, 0))
  row : ∃ base, w.ownsRow base 38 2 v (lst f).length (vc (lst f))
theorem RAt.cells {w : World} {rb : Nat} {v : Value} {many sp : Int} {f : Sc} (h : RAt w rb v many sp f) : w.cell? ⟨rb, 0, none⟩ = some (.int .i64 many) ∧ w.cell? ⟨rb, 1, none⟩ = some (.int .i64 sp) ∧ w.cell? ⟨rb, 2, none⟩ = some v := by
  have := h.box
  refine ⟨?_, ?_, ?_⟩ <;> simp [World.cell?, this]
theorem RAt.free {w : World} {rb : Nat} {v : Value} {many sp : Int} {f : Sc} (h : RAt w rb v many sp f) (j : Nat) : w.frozen? ⟨rb, j, none⟩ = false := by
  have := h.box
  simp [World.frozen?, this]
theorem RAt.lt {w : World} {rb : Nat} {v : Value} {many sp : Int} {f : Sc} (h : RAt w rb v many sp f) : rb < w.heap.size := lt_of_block h.box
/-- a row of voices lies in no block of another make -/
theorem row_ne {w : World} {base n b : Nat} {v : Value} {l : Vs} {cs : Array Value} {t : TypeId} (h : w.ownsRow base 38 2 v n (vc l)) (hb : w.heap[b]? = some (.cells cs t (0, 0))) (ht : t ≠ 38) : v.ownBlock ≠ some b := by
  intro e
  rcases h.2 with ⟨rfl, _⟩ | ⟨g, cap, cur, rfl, _, hg, _⟩
  · simp [Value.ownBlock] at e
  · simp [Value.ownBlock] at e
    subst e
    rw [hg] at hb
    simp at hb
    exact ht hb.2.symm
theorem row_only {w w' : World} {base n : Nat} {v : Value} {l : Vs} {bs : List Nat} (h : w.ownsRow base 38 2 v n (vc l)) (ho : Only bs w w') (hv : ∀ g, v.ownBlock = some g → g ∉ bs) : w'.ownsRow base 38 2 v n (vc l) := by
  refine ⟨h.1, ?_⟩
  rcases h.2 with hl | ⟨g, cap, cur, rfl, hg, hbl, rest⟩
  · exact .inl hl
  · exact .inr ⟨g, cap, cur, rfl, hg, ho.block hbl (hv g rfl), rest⟩
theorem RAt.only {w w' : World} {rb : Nat} {v : Value} {many sp : Int} {f : Sc} {bs : List Nat} (h : RAt w rb v many sp f) (ho : Only bs w w') (hb : rb ∉ bs) (hv : ∀ g, v.ownBlock = some g → g ∉ bs) : RAt w' rb v many sp f := by
  obtain ⟨base, h2⟩ := h.row
  exact ⟨ho.block h.box hb, base, row_only h2 ho hv⟩
theorem RAt.below {w w' : World} {rb : Nat} {v : Value} {many sp : Int} {f : Sc} (h : RAt w rb v many sp f) (hb : Below w.heap.size w w') : RAt w' rb v many sp f :=
  h.only (Only.of_below hb []) (by simp) (by simp)
theorem RAt.ne {w : World} {rb b : Nat} {v : Value} {many sp : Int} {f : Sc} {cs : Array Value} {t : TypeId} (h : RAt w rb v many sp f) (hb : w.heap[b]? = some (.cells cs t (0, 0))) (ht : t ≠ 38) : v.ownBlock ≠ some b := by
  obtain ⟨base, h2⟩ := h.row
  exact row_ne h2 hb ht
theorem RAt.setS {w : World} {rb : Nat} {v : Value} {many sp : Int} {f : Sc} (h : RAt w rb v many sp f) (x : Int) : RAt (w.setCell ⟨rb, 1, none⟩ (.int .i64 x)) rb v many x f := by
  have ho : Only [rb] w (w.setCell ⟨rb, 1, none⟩ (.int .i64 x)) := (Only.refl _ _).setCell (by simp) _
  obtain ⟨base, h2⟩ := h.row
  refine ⟨heap_setCell_same w rb 1 _ _ _ h.box, base, row_only h2 ho fun g hg => ?_⟩
  simp
  rintro rfl
  exact h.ne h.box (by decide) hg
theorem RAt.setL {w : World} {rb base : Nat} {v u : Value} {many sp : Int} {f g : Sc} (h : RAt w rb v many sp f) (hu : w.ownsRow base 38 2 u (lst g).length (vc (lst g))) : RAt (w.setCell ⟨rb, 2, none⟩ u) rb u many sp g := by
  have ho : Only [rb] w (w.setCell ⟨rb, 2, none⟩ u) := (Only.refl _ _).setCell (by simp) _
  refine ⟨heap_setCell_same w rb 2 _ _ _ h.box, base, row_only hu ho fun b hb => ?_⟩
  simp
  rintro rfl
  exact row_ne hu h.box (by decide) hb
/-- the list as a slice -/
theorem RAt.arg {w : World} {rb : Nat} {v : Value} {many sp : Int} {f : Sc} (h : RAt w rb v many sp f) : ∃ a cap, v = .slice a (lst f).length cap ∧ VArg w a (lst f).length (lst f) ∧ (lst f).length ≤ cap := by
  obtain ⟨base, h2⟩ := h.row
  have := lst_len f
  obtain ⟨a, cap, h3, h4, _, h5, _⟩ := own_vs h2 (by omega)
  exact ⟨a, cap, h3, h4, h5⟩

/-- scores of those below a number -/
def lstN (g : Sc) (j : Nat) : Vs := ((List.range j).filter fun i : Nat => decide (g (i : Int) ≠ 0)).map fun i : Nat => ((i : Int), g (i : Int))
theorem lstN_zero (g : Sc) : lstN g 0 = [] := rfl
theorem lstN_end (g : Sc) : lstN g 201 = lst g := rfl
theorem lstN_succ (g : Sc) (j : Nat) : lstN g (j + 1) = lstN g j ++ if g (j : Int) = 0 then [] else [((j : Int), g (j : Int))] := by
  unfold lstN
  rw [List.range_succ, List.filter_append, List.map_append]
  congr 1
  by_cases q : g (j : Int) = 0
  · simp [q]
  · simp [q]
theorem lstN_len (g : Sc) (j : Nat) : (lstN g j).length ≤ j := by
  unfold lstN
  rw [List.length_map]
  exact Nat.le_trans (List.length_filter_le _ _) (by simp)
theorem lst_ne (f : Sc) : (lst f).Pairwise fun p q => p.1 ≠ q.1 := (lst_rises f).imp fun h e => by omega
/-- what the list says of somebody -/
theorem lev_lst {f : Sc} (h : Ok f) (x : Int) : lev (lst f) x = f x := by
  by_cases q : f x = 0
  · rw [q]
    exact lev_out _ _ fun p hp e => by
      have := (mem_lst h p).1 hp
      rw [e, q] at this
      exact this.2 this.1.symm
  · exact lev_at (lst_ne f) (x, f x) ((mem_lst h _).2 ⟨rfl, q⟩)
theorem lev_step {l : Vs} {i : Nat} (hi : i < l.length) (x : Int) : lev (l.take (i + 1)) x = lev (l.take i) x + if (l.getD i (0, 0)).1 = x then (l.getD i (0, 0)).2 else 0 := by
  rw [take_succ' hi, lev_app, lev_one]
/-- of distinct ones, who comes now was not ahead -/
theorem lev_new {l : Vs} {i : Nat} (hi : i < l.length) (hp : l.Pairwise fun p q => p.1 ≠ q.1) {x : Int} (he : (l.getD i (0, 0)).1 = x) : lev (l.take i) x = 0 := by
  refine lev_out _ _ fun p hm e => ?_
  have h2 : l = l.take i ++ l.getD i (0, 0) :: l.drop (i + 1) := by
    rw [List.getD_eq_getElem?_getD, List.getElem?_eq_getElem hi, Option.getD_some, ← List.drop_eq_getElem_cons hi, List.take_append_drop]
  rw [h2, List.pairwise_append] at hp
  exact hp.2.2 p hm (l.getD i (0, 0)) (by simp) (by rw [e, he])
theorem lev_pos_le {l : Vs} (h : ∀ p ∈ l, 0 ≤ p.2) (x : Int) : 0 ≤ lev l x := by
  induction l with
  | nil => simp [lev]
  | cons p l ih =>
    have h1 := h p (by simp)
    have h2 := ih fun q hq => h q (by simp [hq])
    show 0 ≤ (if p.1 = x then p.2 else 0) + lev l x
    split <;> omega
/-- an eighth, rounded up -/
theorem eighth {s : Int} (h : 0 ≤ s) : dec s = s - (if 0 < s % 8 then s / 8 + 1 else s / 8) := by
  unfold dec
  split <;> omega
/-- the best of some -/
def BestOf (K : Vs) (p : Int × Int) : Prop := ∀ q ∈ K, q.2 < p.2 ∨ q.2 = p.2 ∧ p.1 ≤ q.1
/-- where the reference stands as it looks for the speaker and the best: i of them seen -/
structure BSt (N : Vs) (sp : Int) (i : Nat) (at_ best : Int) : Prop where
  a : (at_ = -1 ∧ ∀ p ∈ N.take i, p.1 ≠ sp) ∨ ∃ k : Nat, at_ = (k : Int) ∧ k < i ∧ (N.getD k (0, 0)).1 = sp
  b : (best = -1 ∧ i = 0) ∨ ∃ k : Nat, best = (k : Int) ∧ k < i ∧ BestOf (N.take i) (N.getD k (0, 0))
theorem BSt.start (N : Vs) (sp : Int) : BSt N sp 0 (-1) (-1) := ⟨.inl ⟨rfl, by simp⟩, .inl ⟨rfl, rfl⟩⟩
theorem mem_take_succ {l : Vs} {i : Nat} (hi : i < l.length) {q : Int × Int} : q ∈ l.take (i + 1) ↔ q ∈ l.take i ∨ q = l.getD i (0, 0) := by
  rw [take_succ' hi, List.mem_append, List.mem_singleton]
theorem rises_before {l : Vs} (h : l.Pairwise fun p q => p.1 < q.1) {i : Nat} (hi : i < l.length) {q : Int × Int} (hq : q ∈ l.take i) : q.1 < (l.getD i (0, 0)).1 := by
  have h2 : l = l.take i ++ l.getD i (0, 0) :: l.drop (i + 1) := by
    rw [List.getD_eq_getElem?_getD, List.getElem?_eq_getElem hi, Option.getD_some, ← List.drop_eq_getElem_cons hi, List.take_append_drop]
  rw [h2, List.pairwise_append] at h
  exact h.2.2 q hq _ (by simp)
theorem getD_take_mem {l : Vs} {i k : Nat} (hk : k < i) (hi : i ≤ l.length) : l.getD k (0, 0) ∈ l.take i := by
  rw [List.getD_eq_getElem?_getD, List.getElem?_eq_getElem (by omega), Option.getD_some]
  exact List.mem_iff_getElem.2 ⟨k, by rw [List.length_take]; omega, by rw [List.getElem_take]⟩
/-- one more seen: whether it speaks, whether it is better -/
theorem BSt.step {N : Vs} {sp : Int} {i : Nat} {at_ best : Int} (h : BSt N sp i at_ best) (hi : i < N.length) (hr : N.Pairwise fun p q => p.1 < q.1) (at2 best2 : Int)
    (ha : at2 = if (N.getD i (0, 0)).1 = sp then (i : Int) else at_) (hb : (best < 0 ∨ ∃ k : Nat, best = (k : Int) ∧ (N.getD k (0, 0)).2 < (N.getD i (0, 0)).2) ∧ best2 = (i : Int) ∨ ¬ (best < 0 ∨ ∃ k : Nat, best = (k : Int) ∧ (N.getD k (0, 0)).2 < (N.getD i (0, 0)).2) ∧ best2 = best) : BSt N sp (i + 1) at2 best2 := by
  constructor
  · by_cases q : (N.getD i (0, 0)).1 = sp
    · rw [ha, if_pos q]
      exact .inr ⟨i, rfl, by omega, q⟩
    · rw [ha, if_neg q]
      rcases h.a with ⟨h1, h2⟩ | ⟨k, h1, h2, h3⟩
      · refine .inl ⟨h1, fun p hp => ?_⟩
        rcases (mem_take_succ hi).1 hp with hp | rfl
        · exact h2 p hp
        · exact q
      · exact .inr ⟨k, h1, by omega, h3⟩
  · right
    rcases h.b with ⟨h1, h2⟩ | ⟨k, h1, h2, h3⟩
    · have hb2 : best2 = (i : Int) := by
        rcases hb with ⟨_, e⟩ | ⟨c, _⟩
        · exact e
        · exact absurd (.inl (by omega)) c
      rw [hb2]
      refine ⟨i, rfl, by omega, fun p hp => ?_⟩
      subst h2
      rcases (mem_take_succ hi).1 hp with hp | rfl
      · simp at hp
      · exact .inr ⟨rfl, Int.le_refl _⟩
    · by_cases q : (N.getD k (0, 0)).2 < (N.getD i (0, 0)).2
      · have hb2 : best2 = (i : Int) := by
          rcases hb with ⟨_, e⟩ | ⟨c, _⟩
          · exact e
          · exact absurd (.inr ⟨k, h1, q⟩) c
        rw [hb2]
        refine ⟨i, rfl, by omega, fun p hp => ?_⟩
        rcases (mem_take_succ hi).1 hp with hp | rfl
        · have := h3 p hp; left; omega
        · exact .inr ⟨rfl, Int.le_refl _⟩
      · have hb2 : best2 = best := by
          rcases hb with ⟨c | ⟨k', c1, c2⟩, _⟩ | ⟨_, e⟩
          · omega
          · obtain rfl : k' = k := by omega
            exact absurd c2 q
          · exact e
        rw [hb2]
        refine ⟨k, h1, by omega, fun p hp => ?_⟩
        rcases (mem_take_succ hi).1 hp with hp | rfl
        · exact h3 p hp
        · have := rises_before hr hi (getD_take_mem h2 (by omega))
          omega
theorem bestOf_best {g : Sc} (hk : Ok g) {p : Int × Int} (hp : p ∈ lst g) (hb : BestOf (lst g) p) : Best g p := by
  have h1 := (mem_lst hk p).1 hp
  refine ⟨h1.1, h1.2, fun x => ?_⟩
  by_cases q : g x = 0
  · have := hk.lo p.1
    rw [h1.1] at this
    have h2 := h1.2
    left; omega
  · exact hb (x, g x) ((mem_lst hk _).2 ⟨rfl, q⟩)
end Go.Proofs.YtjhfjkacfnccdahDoor.RVoice
