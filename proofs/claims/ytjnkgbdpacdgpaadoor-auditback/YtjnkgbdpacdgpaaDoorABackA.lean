/-
  What AuditBack asks: packets of one byte each, all of them and some of them, in memory; what Row, Check and Holes tell of them.
-/
import Derived.Test.YtjnkgbdpacdgpaaDoorAuditS
namespace Go.Proofs.YtjnkgbdpacdgpaaDoor.ABack
open Go.ChangeShapes Go.WideShapes Go.ChangeAt Go.RowKit Go.Proofs.YtjnkgbdpacdgpaaDoor.PM Go.Proofs.YtjnkgbdpacdgpaaDoor.Mem Go.Proofs.YtjnkgbdpacdgpaaDoor.Pack Go.Proofs.YtjnkgbdpacdgpaaDoor.AU Go.Proofs.YtjnkgbdpacdgpaaDoor.Audit
set_option linter.unusedVariables false

/-- packet i, its Body in block f i -/
def P (f : Nat → Nat) (i : Nat) : Pk := ⟨(i : Int), 0, 0, 0, false, some ⟨f i, 0, none⟩, 1, 1, [i]⟩
theorem like_P (f : Nat → Nat) (i j : Nat) : like (P f i) (P f j) = true ↔ i = j := by rw [like_iff]; simp [P]
/-- those that were kept, how many lie between, how many were left out since -/
structure Kept (i : Nat) (G : List Nat) (H : List Int) (bt : Int) : Prop where
  up : ∀ j, j + 1 < G.length → G.getD j 0 < G.getD (j + 1) 0
  lt : ∀ j, j < G.length → G.getD j 0 < i
  hl : H.length = G.length - 1
  he : ∀ j, j + 1 < G.length → H.getD j 0 = (G.getD (j + 1) 0 : Int) - (G.getD j 0 : Int) - 1
  b0 : 0 ≤ bt
  b1 : bt ≤ i
  bt : 0 < G.length → bt = (i : Int) - 1 - (G.getD (G.length - 1) 0 : Int)
  gl : G.length ≤ i
theorem kept_zero : Kept 0 [] [] 0 := ⟨fun j h => absurd h (by simp), fun j h => absurd h (by simp), rfl, fun j h => absurd h (by simp), by omega, by omega, fun h => absurd h (by simp), by simp⟩
theorem Kept.drop {i : Nat} {G : List Nat} {H : List Int} {bt : Int} (h : Kept i G H bt) : Kept (i + 1) G H (bt + 1) :=
  ⟨h.up, fun j hj => by have := h.lt j hj; omega, h.hl, h.he, by have := h.b0; omega, by have := h.b1; omega, fun hg => by have := h.bt hg; omega, by have := h.gl; omega⟩
theorem gd_l {α : Type} {d x : α} {G : List α} {j : Nat} (h : j < G.length) : (G ++ [x]).getD j d = G.getD j d := by simp [List.getD_eq_getElem?_getD, List.getElem?_append_left h]
theorem gd_r {α : Type} {d x : α} {G : List α} : (G ++ [x]).getD G.length d = x := by simp [List.getD_eq_getElem?_getD]
theorem Kept.first {i : Nat} {H : List Int} {bt : Int} (h : Kept i [] H bt) : Kept (i + 1) [i] H 0 := by
  refine ⟨fun j hj => by simp at hj, fun j hj => ?_, by simpa using h.hl, fun j hj => by simp at hj, by omega, by omega, fun _ => by simp, by simp⟩
  simp at hj
  subst hj
  simp
theorem Kept.keep {i : Nat} {G : List Nat} {H : List Int} {bt : Int} (h : Kept i G H bt) (hG : 0 < G.length) : Kept (i + 1) (G ++ [i]) (H ++ [bt]) 0 := by
  have hl := h.hl
  refine ⟨fun j hj => ?_, fun j hj => ?_, by simp; omega, fun j hj => ?_, by omega, by omega, fun _ => ?_, by have := h.gl; simp; omega⟩
  · rw [List.length_append, List.length_singleton] at hj
    by_cases hx : j + 1 < G.length
    · rw [gd_l hx, gd_l (by omega)]; exact h.up j hx
    · rw [gd_l (by omega), show j + 1 = G.length by omega, gd_r]; exact h.lt j (by omega)
  · rw [List.length_append, List.length_singleton] at hj
    by_cases hx : j < G.length
    · rw [gd_l hx]; have := h.lt j hx; omega
    · rw [show j = G.length by omega, gd_r]; omega
  · rw [List.length_append, List.length_singleton] at hj
    by_cases hx : j + 1 < G.length
    · rw [gd_l hx, gd_l (by omega), gd_l (by omega)]; exact h.he j hx
    · have hb := h.bt hG
      have e1 : (H ++ [bt]).getD j 0 = bt := by rw [show j = H.length by omega, gd_r]
      have e2 : (G ++ [i]).getD (j + 1) 0 = i := by rw [show j + 1 = G.length by omega, gd_r]
      have e3 : (G ++ [i]).getD j 0 = G.getD (G.length - 1) 0 := by rw [gd_l (by omega), show j = G.length - 1 by omega]
      rw [e1, e2, e3]
      omega
  · rw [List.length_append, List.length_singleton, show G.length + 1 - 1 = G.length by omega, gd_r]
    omega
theorem Kept.mono {i : Nat} {G : List Nat} {H : List Int} {bt : Int} (h : Kept i G H bt) : ∀ d j, j + d < G.length → 0 < d → G.getD j 0 < G.getD (j + d) 0 := by
  intro d
  induction d with
  | zero => intro j _ h0; omega
  | succ d ih =>
    intro j hj _
    have h1 := h.up (j + d) (by omega)
    rcases Nat.eq_zero_or_pos d with hd | hd
    · subst hd; exact h1
    · have := ih j (by omega) hd
      have e : j + (d + 1) = j + d + 1 := by omega
      rw [e]
      omega
/-- all packets -/
def All (f : Nat → Nat) (n : Nat) : List Pk := (List.range n).map (P f)
def Som (f : Nat → Nat) (G : List Nat) : List Pk := G.map (P f)
theorem all_len (f : Nat → Nat) (n : Nat) : (All f n).length = n := by simp [All]
theorem som_len (f : Nat → Nat) (G : List Nat) : (Som f G).length = G.length := by simp [Som]
theorem all_get {f : Nat → Nat} {n j : Nat} (h : j < n) : (All f n).getD j noPk = P f j := by simp [All, List.getD_eq_getElem?_getD, List.getElem?_map, List.getElem?_range h]
theorem som_get {f : Nat → Nat} {G : List Nat} {j : Nat} (h : j < G.length) : (Som f G).getD j noPk = P f (G.getD j 0) := by simp [Som, List.getD_eq_getElem?_getD, List.getElem?_map, List.getElem?_eq_getElem h]
theorem all_next (f : Nat → Nat) (n : Nat) : All f (n + 1) = All f n ++ [P f n] := by simp [All, List.range_succ]
theorem som_next (f : Nat → Nat) (G : List Nat) (i : Nat) : Som f (G ++ [i]) = Som f G ++ [P f i] := by simp [Som]
/-- the place of the one that was found is its own -/
theorem pl_own {f : Nat → Nat} {n : Nat} {X : List Pk} {i x : Nat} (hx : X.getD i noPk = P f x) (h : nxt (All f n) X (i + 1) ≤ n) : pl (All f n) X i = x := by
  have h1 := pl_nxt (All f n) X i
  have h2 := pl_eq (All f n) X i
  have hf : fi (like (X.getD i noPk)) ((All f n).drop (nxt (All f n) X i)) < ((All f n).drop (nxt (All f n) X i)).length := by rw [List.length_drop, all_len]; omega
  have h3 := fi_hit hf
  rw [drop_getD, ← h2, all_get (by omega), hx, like_P] at h3
  exact h3.symm
theorem Kept.stop {f : Nat → Nat} {n : Nat} {G : List Nat} {H : List Int} {bt : Int} (h : Kept n G H bt) : Stop (All f n) (Som f G) G.length := by
  have := stop_of (S := All f n) (G := Som f G) (c := fun i => G.getD i 0) (fun i hi => by
    rw [som_len] at hi
    have h1 := h.lt i hi
    rw [all_len, som_get hi, all_get h1]
    exact ⟨h1, (like_P f _ _).2 rfl⟩) (fun i hi => by rw [som_len] at hi; exact h.up i hi)
  rw [som_len] at this
  exact this
theorem Kept.pl {f : Nat → Nat} {n : Nat} {G : List Nat} {H : List Int} {bt : Int} (h : Kept n G H bt) {i : Nat} (hi : i < G.length) : pl (All f n) (Som f G) i = G.getD i 0 :=
  pl_own (som_get hi) (by have := (h.stop (f := f)).lt hi; rw [all_len] at this; exact this)
theorem Kept.holes {f : Nat → Nat} {n : Nat} {G : List Nat} {H : List Int} {bt : Int} (h : Kept n G H bt) : hls (All f n) (Som f G) (G.length - 1) = H := by
  apply List.ext_getElem?
  intro j
  by_cases hj : j < G.length - 1
  · have e1 : (hls (All f n) (Som f G) (G.length - 1))[j]? = some (AU.hl (All f n) (Som f G) j) := by simp [hls, List.getElem?_map, List.getElem?_range hj]
    have h2 := h.he j (by omega)
    rw [List.getD_eq_getElem?_getD, List.getElem?_eq_getElem (by have := h.hl; omega)] at h2
    rw [e1, List.getElem?_eq_getElem (by have := h.hl; omega)]
    unfold AU.hl
    rw [h.pl (by omega), h.pl (by omega)]
    simp at h2
    rw [h2]
    simp
  · rw [List.getElem?_eq_none (by rw [hls_len]; omega), List.getElem?_eq_none (by have := h.hl; omega)]
theorem all_row (f : Nat → Nat) (n : Nat) (hn : n ≤ 200) : RStop (All f n) (All f n).length := by
  refine rstop_all fun i hi => ?_
  rw [all_len] at hi
  have e : pf (P f i) = 0 := by
    unfold pf P fault
    simp only
    rw [if_pos (by omega), if_pos (by omega)]
  unfold rfa
  rw [all_get hi, e, if_neg (by omega)]
  refine if_neg ?_
  rintro ⟨h0, hne⟩
  apply hne
  rw [all_get (by omega)]
  simp only [P]
  omega
/-- two of them in another order -/
theorem back_stop {f : Nat → Nat} {n : Nat} {X : List Pk} {x y : Nat} (hX : 2 ≤ X.length) (h0 : X.getD 0 noPk = P f y) (h1 : X.getD 1 noPk = P f x) (hxy : x < y) (hy : y < n) : Stop (All f n) X 1 := by
  have a0 : nxt (All f n) X 0 = 0 := rfl
  have h2 : nxt (All f n) X 1 ≤ y + 1 := by
    rw [nxt_succ, a0, h0, List.drop_zero]
    have := fi_at (f := like (P f y)) (L := All f n) (j := y) (by rw [all_len]; exact hy) (by rw [all_get hy]; exact (like_P f y y).2 rfl)
    omega
  have h3 := pl_own (f := f) (n := n) h0 (by show nxt _ _ 1 ≤ n; omega)
  have h4 : pl (All f n) X 0 + 1 = nxt (All f n) X 1 := pl_nxt (All f n) X 0
  refine ⟨by omega, by rw [all_len]; omega, fun _ => ?_⟩
  rw [all_len]
  rcases Nat.lt_or_ge n (nxt (All f n) X (1 + 1)) with h | h
  · exact h
  · have h5 := pl_own (f := f) (n := n) h1 h
    have h6 := pl_nxt (All f n) X 1
    have h7 := nxt_lt (All f n) X 1
    omega
/-- the last one twice -/
theorem twice_stop {f : Nat → Nat} {n : Nat} {G : List Nat} {H : List Int} {bt : Int} (h : Kept n G H bt) (hG : 0 < G.length) : Stop (All f n) (Som f (G ++ [G.getD (G.length - 1) 0])) G.length := by
  have e : ∀ i, i ≤ G.length → nxt (All f n) (Som f (G ++ [G.getD (G.length - 1) 0])) i = nxt (All f n) (Som f G) i := by
    intro i
    induction i with
    | zero => intro _; rfl
    | succ i ih =>
      intro hi
      rw [nxt_succ, nxt_succ, ih (by omega), som_get (G := G ++ [G.getD (G.length - 1) 0]) (by simp; omega), gd_l (by omega), som_get (G := G) (by omega)]
  have hs := h.stop (f := f)
  refine ⟨by rw [som_len]; simp, by rw [e _ (Nat.le_refl _)]; exact hs.hn, fun _ => ?_⟩
  rw [all_len]
  rcases Nat.lt_or_ge n (nxt (All f n) (Som f (G ++ [G.getD (G.length - 1) 0])) (G.length + 1)) with h' | h'
  · exact h'
  · have h5 := pl_own (f := f) (n := n) (i := G.length) (x := G.getD (G.length - 1) 0) (by rw [som_get (by simp), gd_r]) h'
    have h6 := pl_nxt (All f n) (Som f (G ++ [G.getD (G.length - 1) 0])) G.length
    have h7 := h.pl (f := f) (i := G.length - 1) (by omega)
    have h8 := pl_nxt (All f n) (Som f G) (G.length - 1)
    rw [show G.length - 1 + 1 = G.length by omega] at h8
    have h9 := nxt_lt (All f n) (Som f (G ++ [G.getD (G.length - 1) 0])) G.length
    rw [e _ (Nat.le_refl _)] at h9
    omega

theorem own_type {W : World} {base e size n g : Nat} {v : Value} {xs : List Value} (h : W.ownsRow base e size v n xs) (hg : v.ownBlock = some g) : ∃ cs, W.heap[g]? = some (.cells cs e (0, 0)) := by
  rcases h.2 with ⟨rfl, _⟩ | ⟨g', cap, cur, rfl, _, hb, _⟩
  · simp [Value.ownBlock] at hg
  · simp [Value.ownBlock] at hg
    subst hg
    exact ⟨cur, hb⟩
/-- all that is made: what was got, what was sent, how many lie between, the Bodies -/
structure BSt (w W : World) (f : Nat → Nat) (gv sv hv : Value) (n : Nat) (G : List Nat) (H : List Int) : Prop where
  got : W.ownsRow w.heap.size 27 6 gv G.length (flat (Som f G))
  snt : W.ownsRow w.heap.size 27 6 sv n (flat (All f n))
  hol : W.ownsRow w.heap.size 3 1 hv H.length (ic H)
  bod : ∀ i, i < n → Row W (f i) [i]
  bel : Below w.heap.size w W
  n3 : ∀ g, gv.ownBlock = some g → sv.ownBlock ≠ some g
  lt : ∀ j, j < G.length → G.getD j 0 < n
/-- one block changes, that is neither of the rows' nor a Body's -/
theorem BSt.only {w W W' : World} {f : Nat → Nat} {gv sv hv : Value} {n : Nat} {G : List Nat} {H : List Int} {bs : List Nat} (h : BSt w W f gv sv hv n G H) (ho : Only bs W W') (hb : ∀ k ∈ bs, w.heap.size ≤ k) (h1 : ∀ k, gv.ownBlock = some k → k ∉ bs) (h2 : ∀ k, sv.ownBlock = some k → k ∉ bs) (h3 : ∀ k, hv.ownBlock = some k → k ∉ bs) (h4 : ∀ i, i < n → f i ∉ bs) : BSt w W' f gv sv hv n G H :=
  ⟨ho.owns h.got h1, ho.owns h.snt h2, ho.owns h.hol h3, fun i hi => (h.bod i hi).only ho (h4 i hi), h.bel.trans (ho.below h.bel.size hb), h.n3, h.lt⟩
theorem BSt.below {w W W' : World} {f : Nat → Nat} {gv sv hv : Value} {n : Nat} {G : List Nat} {H : List Int} (h : BSt w W f gv sv hv n G H) (hb : Below W.heap.size W W') : BSt w W' f gv sv hv n G H :=
  h.only (Only.of_below hb []) (by simp) (by simp) (by simp) (by simp) (by simp)
theorem row_ok {W : World} {f : Nat → Nat} {i : Nat} (h : Row W (f i) [i]) (hi : i < 200) : PkOk W (P f i) := ⟨h.bys (by simp; omega), rfl, by show (1 : Nat) ≤ _; omega⟩
theorem BSt.start {w W : World} (hb : Below w.heap.size w W) : BSt w W (fun _ => 0) (.slice none 0 0) (.slice none 0 0) (.slice none 0 0) 0 [] [] :=
  ⟨World.ownsRow_nil _ _ _ _, World.ownsRow_nil _ _ _ _, World.ownsRow_nil _ _ _ _, fun i hi => absurd hi (by omega), hb, by simp [Value.ownBlock], fun j hj => absurd hj (by simp)⟩
theorem BSt.gotA {w W : World} {f : Nat → Nat} {gv sv hv : Value} {n : Nat} {G : List Nat} {H : List Int} (h : BSt w W f gv sv hv n G H) (hn : n ≤ 200) (hg : G.length ≤ 200) : ∃ a cap, gv = .slice a G.length cap ∧ PArg W a G.length (Som f G) ∧ G.length ≤ cap ∧ (a = none → cap = 0) :=
  own_pks h.got (som_len f G) (by omega) (fun p hp => by
    simp only [Som, List.mem_map] at hp
    obtain ⟨i, hi, rfl⟩ := hp
    obtain ⟨j, hj, rfl⟩ := List.getElem_of_mem hi
    have := h.lt j hj
    rw [List.getD_eq_getElem?_getD, List.getElem?_eq_getElem hj] at this
    exact row_ok (h.bod _ this) (by have : G[j] < n := this; omega))
theorem BSt.sntA {w W : World} {f : Nat → Nat} {gv sv hv : Value} {n : Nat} {G : List Nat} {H : List Int} (h : BSt w W f gv sv hv n G H) (hn : n ≤ 200) : ∃ a cap, sv = .slice a n cap ∧ PArg W a n (All f n) ∧ n ≤ cap ∧ (a = none → cap = 0) :=
  own_pks h.snt (all_len f n) (by omega) (fun p hp => by
    simp only [All, List.mem_map, List.mem_range] at hp
    obtain ⟨i, hi, rfl⟩ := hp
    exact row_ok (h.bod _ hi) (by omega))
/-- one more Body -/
theorem BSt.body {w W : World} {f : Nat → Nat} {gv sv hv : Value} {n : Nat} {G : List Nat} {H : List Int} (h : BSt w W f gv sv hv n G H) (c : Int) :
    BSt w (W.alloc (.cells #[.int .u8 c] 5)) (fun j => if j = n then W.heap.size else f j) gv sv hv n G H := by
  have hb : Below W.heap.size W (W.alloc (.cells #[.int .u8 c] 5)) := (Below.refl _ _).alloc (Nat.le_refl _) _
  have h' := h.below hb
  have e1 : All (fun j => if j = n then W.heap.size else f j) n = All f n := by
    unfold All
    apply List.map_congr_left
    intro i hi
    rw [List.mem_range] at hi
    simp only [P]
    rw [if_neg (by omega)]
  have e2 : Som (fun j => if j = n then W.heap.size else f j) G = Som f G := by
    unfold Som
    apply List.map_congr_left
    intro i hi
    obtain ⟨j, hj, rfl⟩ := List.getElem_of_mem hi
    have := h.lt j hj
    rw [List.getD_eq_getElem?_getD, List.getElem?_eq_getElem hj] at this
    have : G[j] < n := this
    simp only [P]
    rw [if_neg (by omega)]
  refine ⟨by rw [e2]; exact h'.got, by rw [e1]; exact h'.snt, h'.hol, fun i hi => ?_, h'.bel, h'.n3, h'.lt⟩
  show Row _ (if i = n then W.heap.size else f i) [i]
  rw [if_neg (by omega)]
  exact h'.bod i hi
/-- one more that was sent -/
theorem BSt.addS {w W W1 : World} {f : Nat → Nat} {gv sv hv : Value} {n : Nat} {G : List Nat} {H : List Int} (h : BSt w W f gv sv hv n G H) (hbd : Row W (f n) [n]) {O : Obj} {g cap : Nat}
    (hown : W1.ownsRow w.heap.size 27 6 (.slice (some ⟨g, 0, none⟩) (n + 1) cap) (n + 1) (flat (All f n) ++ pc (P f n))) (hg : (W.alloc O).grownBy W1 sv.ownBlock) (hl : sv.ownBlock = some g ∨ g = W.heap.size + 1) (hlt : g < W1.heap.size) :
    BSt w W1 f gv (.slice (some ⟨g, 0, none⟩) (n + 1) cap) hv (n + 1) G H := by
  have ho : Only sv.ownBlock.toList W W1 := (((Only.refl _ W).alloc O).grown hg (fun k e => by simp [e]))
  have hne : ∀ k, k ∈ sv.ownBlock.toList → ∃ cs, W.heap[k]? = some (.cells cs 27 (0, 0)) := fun k hk => own_type h.snt (by simpa using hk)
  have hbn : ∀ i, Row W (f i) [i] → f i ∉ sv.ownBlock.toList := fun i hr hc => by
    obtain ⟨cs, e⟩ := hne _ hc
    unfold Row at hr
    rw [hr] at e
    simp at e
  refine ⟨ho.owns h.got (fun k e hc => h.n3 k e (by simpa using hc)), ?_, ho.owns h.hol (fun k e hc => ?_), fun i hi => ?_, h.bel.trans (ho.below h.bel.size (fun k hk => (h.snt.lt k (by simpa using hk)).1)), fun g' e1 e2 => ?_, fun j hj => by have := h.lt j hj; omega⟩
  · rw [all_next, flat_app, flat_one]; exact hown
  · obtain ⟨cs, e1⟩ := hne k hc
    obtain ⟨cs', e2⟩ := own_type h.hol e
    rw [e1] at e2
    simp at e2
  · rcases Nat.lt_succ_iff_lt_or_eq.1 hi with h1 | rfl
    · exact (h.bod i h1).only ho (hbn i (h.bod i h1))
    · exact hbd.only ho (hbn i hbd)
  · have e2' : some g = some g' := e2
    simp only [Option.some.injEq] at e2'
    subst e2'
    rcases hl with h1 | h1
    · exact h.n3 _ e1 h1
    · have := (h.got.lt _ e1).2; omega
/-- one more that was got -/
theorem BSt.addG {w W W1 : World} {f : Nat → Nat} {gv sv hv : Value} {n i : Nat} {G : List Nat} {H : List Int} (h : BSt w W f gv sv hv n G H) (hi : i < n) {O : Obj} {g cap : Nat}
    (hown : W1.ownsRow w.heap.size 27 6 (.slice (some ⟨g, 0, none⟩) (G.length + 1) cap) (G.length + 1) (flat (Som f G) ++ pc (P f i))) (hg : (W.alloc O).grownBy W1 gv.ownBlock) (hl : gv.ownBlock = some g ∨ g = W.heap.size + 1) (hlt : g < W1.heap.size) :
    BSt w W1 f (.slice (some ⟨g, 0, none⟩) (G.length + 1) cap) sv hv n (G ++ [i]) H := by
  have ho : Only gv.ownBlock.toList W W1 := (((Only.refl _ W).alloc O).grown hg (fun k e => by simp [e]))
  have hne : ∀ k, k ∈ gv.ownBlock.toList → ∃ cs, W.heap[k]? = some (.cells cs 27 (0, 0)) := fun k hk => own_type h.got (by simpa using hk)
  have hbn : ∀ i, Row W (f i) [i] → f i ∉ gv.ownBlock.toList := fun i hr hc => by
    obtain ⟨cs, e⟩ := hne _ hc
    unfold Row at hr
    rw [hr] at e
    simp at e
  refine ⟨?_, ho.owns h.snt (fun k e hc => h.n3 k (by simpa using hc) e), ho.owns h.hol (fun k e hc => ?_), fun i hi => (h.bod i hi).only ho (hbn i (h.bod i hi)), h.bel.trans (ho.below h.bel.size (fun k hk => (h.got.lt k (by simpa using hk)).1)), fun g' e1 e2 => ?_, fun j hj => ?_⟩
  · rw [som_next, flat_app, flat_one, List.length_append, List.length_singleton]; exact hown
  · obtain ⟨cs, e1⟩ := hne k hc
    obtain ⟨cs', e2⟩ := own_type h.hol e
    rw [e1] at e2
    simp at e2
  · have e1' : some g = some g' := e1
    simp only [Option.some.injEq] at e1'
    subst e1'
    rcases hl with h1 | h1
    · exact h.n3 _ h1 e2
    · have := (h.snt.lt _ e2).2; omega
  · rw [List.length_append, List.length_singleton] at hj
    by_cases hx : j < G.length
    · rw [gd_l hx]; exact h.lt j hx
    · rw [show j = G.length by omega, gd_r]; exact hi
/-- one more hole -/
theorem BSt.addH {w W W1 : World} {f : Nat → Nat} {gv sv hv : Value} {n : Nat} {G : List Nat} {H : List Int} (h : BSt w W f gv sv hv n G H) {O : Obj} {v' : Value} {x : Int}
    (hown : W1.ownsRow w.heap.size 3 1 v' (H.length + 1) (ic H ++ [.int .i64 x])) (hg : (W.alloc O).grownBy W1 hv.ownBlock) :
    BSt w W1 f gv sv v' n G (H ++ [x]) := by
  have ho : Only hv.ownBlock.toList W W1 := (((Only.refl _ W).alloc O).grown hg (fun k e => by simp [e]))
  have hne : ∀ k, k ∈ hv.ownBlock.toList → ∃ cs, W.heap[k]? = some (.cells cs 3 (0, 0)) := fun k hk => own_type h.hol (by simpa using hk)
  refine ⟨ho.owns h.got (fun k e hc => ?_), ho.owns h.snt (fun k e hc => ?_), ?_, fun i hi => (h.bod i hi).only ho (fun hc => ?_), h.bel.trans (ho.below h.bel.size (fun k hk => (h.hol.lt k (by simpa using hk)).1)), h.n3, h.lt⟩
  · obtain ⟨cs, e1⟩ := hne k hc
    obtain ⟨cs', e2⟩ := own_type h.got e
    rw [e1] at e2
    simp at e2
  · obtain ⟨cs, e1⟩ := hne k hc
    obtain ⟨cs', e2⟩ := own_type h.snt e
    rw [e1] at e2
    simp at e2
  · rw [List.length_append, List.length_singleton]
    have e : ic (H ++ [x]) = ic H ++ [.int .i64 x] := by simp [ic]
    rw [e]
    exact hown
  · obtain ⟨cs, e1⟩ := hne _ hc
    have hr := h.bod i hi
    unfold Row at hr
    rw [hr] at e1
    simp at e1
end Go.Proofs.YtjnkgbdpacdgpaaDoor.ABack

