/-
  What New of package mesh returns, and what it leaves in memory.
-/
import Derived.Test.YtpiamlgmadnepaaGreatMeshP
namespace Go.Proofs.YtpiamlgmadnepaaGreat.MS
open Go.ChangeShapes Go.WideShapes Go.ChangeAt Go.RowKit Go.Maps Go.Proofs.YtpiamlgmadnepaaGreat.Mem Go.Proofs.YtpiamlgmadnepaaGreat.NO Go.Proofs.YtpiamlgmadnepaaGreat.ND
set_option linter.unusedVariables false

theorem eds_cells {w : World} {a : Option Addr} {n : Nat} {L : List TM.Ed} (h : Tree.EArg w a n L) : ∀ ad, a = some ad → ∀ j u, (Tree.mc L)[j]? = some u → w.cell? (ad.add j) = some u := by
  intro ad e j u hu
  have hj : j < L.length * 3 := by
    rcases Nat.lt_or_ge j (Tree.mc L).length with hl | hl
    · rwa [Tree.mc_len] at hl
    · rw [List.getElem?_eq_none hl] at hu; cases hu
  obtain ⟨b, o, e', h0, h1, h2⟩ := h.1 (j / 3) (by omega)
  rw [e] at e'
  cases e'
  obtain ⟨g0, g1, g2⟩ := Tree.mc_get L (j / 3) (by omega)
  have hc : j = j / 3 * 3 ∨ j = j / 3 * 3 + 1 ∨ j = j / 3 * 3 + 2 := by omega
  have ea : (⟨b, o, none⟩ : Addr).add j = ⟨b, o + j, none⟩ := Addr.add_lit _ _ _
  rw [ea]
  obtain ⟨m, hm⟩ : ∃ m, j / 3 = m := ⟨_, rfl⟩
  rw [hm] at h0 h1 h2 g0 g1 g2 hc
  rcases hc with rfl | rfl | rfl
  · rw [g0] at hu; cases hu; exact h0
  · rw [g1] at hu; cases hu; exact h1
  · rw [g2] at hu; cases hu; exact h2
set_option maxHeartbeats 1000000 in
set_option maxRecDepth 100000 in
theorem clone_calls (a : Option Addr) (n cap : Nat) (L : List TM.Ed) (w : World) (h : Tree.EArg w a n L) (hn : a = none → n = 0 ∧ cap = 0) (hb : n ≤ 1000) :
    Calls Tryz.prog 35 #[.slice a n cap] w fun e w' => ∃ a' c', e = .returned (.slice a' n c') ∧ Tree.EArg w' a' n L ∧ n ≤ c' ∧ (∀ ad, a' = some ad → w.heap.size ≤ ad.block) ∧ Below w.heap.size w w' := by
  have q22 : ∀ (w : World) (a : Option Addr) (n c n' c' : Nat), (binOp .eql 28 (.slice a n c) (.slice none n' c')).run Tryz.prog w = .ok (.bool a.isNone) w := fun w a n c n' c' => Lib.run_eql_slice_nil w _ _ a n c n' c' Tryz.underlying28
  cases a with
  | none =>
    obtain ⟨rfl, rfl⟩ := hn rfl
    have HA := hidden h
    clear h hn
    go_enter Tryz.func35, Tryz.ntmps35
    go_wp2_with fail
    go_ret
    have := HA.out.2.1
    exact ⟨none, 0, rfl, HA.out, Nat.le_refl _, (fun ad e => by cases e), Below.refl _ _⟩
  | some ad =>
    obtain ⟨i0, hii, hz0, hz1, hz2⟩ : ∃ i0, Tryz.prog.info? 87 = some i0 ∧ i0.zero = some (.agg #[.int .i64 0, .int .i64 0, .int .i64 0]) ∧ i0.size = 3 ∧ i0.bytes = 24 := ⟨_, rfl, rfl, rfl, rfl⟩
    have hl := h.2.1
    have HC := hidden (eds_cells (h.below ((Below.refl _ _).alloc (Nat.le_refl _) (.cells #[] 87))))
    have HO : Hid ((w.alloc (.cells #[] 87)).ownsRow w.heap.size 87 3 (.slice (some ⟨w.heap.size, 0, none⟩) 0 0) 0 []) := hidden ⟨rfl, .inr ⟨w.heap.size, 0, #[], rfl, Nat.le_refl _, heap_alloc_new w _, by omega, by unfold maxLen; omega, rfl, by simp⟩⟩
    have HB : Hid (Below w.heap.size w (w.alloc (.cells #[] 87))) := hidden ((Below.refl _ _).alloc (Nat.le_refl _) _)
    clear h hn
    go_enter Tryz.func35, Tryz.ntmps35
    go_wp2_with (at_builtin; refine append_any rfl _ _ 28 rfl w.heap.size 87 i0 _ 3 24 Tryz.underlying28 hii hz0 hz1 hz2 rfl (by decide) (.slice (some ⟨w.heap.size, 0, none⟩) 0 0) 0 [] rfl HO.out (some ad) n cap (Tree.mc L) rfl (by rw [Tree.mc_len, hl]) (fun e => by cases e) HC.out (Tree.mc_cell L) (by unfold maxLen; omega) (by omega) (by simp) ?_)
    intro v' w' ho hg
    have ho : w'.ownsRow w.heap.size 87 3 v' n (Tree.mc L) := by first | exact ho | (rw [Nat.zero_add] at ho; exact ho)
    have HB' : Hid (Below w.heap.size w w') := HB.out.grown hg HB.out.size (fun j hj => by simp [Value.ownBlock] at hj; omega)
    obtain ⟨a', c', rfl, k1, k2, k3, k4⟩ := Tree.own_eds ho (by omega)
    have HK := hidden k1
    have HG : Hid (∀ ad, a' = some ad → w.heap.size ≤ ad.block) := hidden (fun ad e => by
      obtain ⟨g, rfl, q, _⟩ := k4 ad e
      exact q)
    have HN := hidden k3
    clear ho hg HB HO HC k1 k2 k3 k4
    go_wp2_with fail
    go_ret
    exact ⟨a', c', rfl, HK.out, HN.out, HG.out, HB'.out⟩
/-- lofts without a track -/
def mesh0 (n : Nat) (E : List TM.Ed) : Ms := ⟨0, n, fun i => nd0 (i : Int), E, fun _ => -1, [], []⟩
def mesh1 (j : Nat) (E : List TM.Ed) : Ms := ⟨0, 0, fun i => nd0 (i : Int), E, fun i => if i < j then -1 else 0, [], []⟩
def MMade (w w' : World) (o : Nat → Tg) (b : Nat) (M : Ms) : Prop := ∃ o' P, MAt w' o' b P M ∧ Ext w o o' ∧ Below w.heap.size w w' ∧ w.heap.size ≤ b
theorem made_start {w w1 : World} {o : Nat → Tg} {a : Option Addr} {n c : Nat} {L : List TM.Ed} (h : Tree.EArg w1 a n L) (hc : n ≤ c) (hg : ∀ ad, a = some ad → w.heap.size ≤ ad.block) (hb : Below w.heap.size w w1) :
    MMade w (w1.alloc (.cells #[.int .i64 0, .slice none 0 0, .slice a n c, .int .i64 0, .int .i64 0, .int .i64 0, .int .i64 0, .int .i64 0, .int .i64 0, .int .i64 0, .int .i64 0, .slice none 0 0, .slice none 0 0] 96)) o w1.heap.size (mesh1 0 L) := by
  obtain ⟨O, hO⟩ : ∃ O, Obj.cells #[.int .i64 0, .slice none 0 0, .slice a n c, .int .i64 0, .int .i64 0, .int .i64 0, .int .i64 0, .int .i64 0, .int .i64 0, .int .i64 0, .int .i64 0, .slice none 0 0, .slice none 0 0] 96 (0, 0) = O := ⟨_, rfl⟩
  have hs := hb.size
  have hbx := heap_alloc_new w1 O
  rw [hO]
  have hB : Below w1.heap.size w1 (w1.alloc O) := (Below.refl _ _).alloc (Nat.le_refl _) _
  have hl := h.2.1
  refine ⟨fun k => if k < w.heap.size then o k else if k = w1.heap.size then ⟨1000, 0, 0⟩ else ⟨1000, 2, 0⟩, ⟨fun _ => 0, fun _ => ⟨fun _ => ⟨0, none, 0, 0, 0, .slice none 0 0, 0, 0, 0⟩, 0, fun _ => ⟨0, 0, 0, 0, 0, .slice none 0 0⟩, 0, fun _ => 0, .slice none 0 0⟩, .slice none 0 0, a, c, .slice none 0 0, .slice none 0 0⟩, ?_, fun k hk => if_pos hk, hb.trans (hB.mono hs), hs⟩
  refine ⟨by show 0 ≤ 16; omega, ⟨_, hbx.trans (by rw [← hO]), ?_⟩, ?_, World.ownsRow_nil _ _ _ _, ?_, fun i hi => absurd hi (by show ¬ i < 0; omega), ?_, ?_, ?_, World.ownsRow_nil _ _ _ _, ?_, FlAt.nil _ _, ?_⟩
  · refine ⟨rfl, rfl, rfl, by show _ = some (Value.slice a L.length c); rw [hl]; rfl, ?_, rfl, rfl⟩
    intro i hi
    rcases upto8 hi with rfl | rfl | rfl | rfl | rfl | rfl | rfl | rfl <;> rfl
  · show (if w1.heap.size < w.heap.size then _ else if w1.heap.size = w1.heap.size then _ else _) = _
    rw [if_neg (by omega), if_pos rfl]
  · intro k hk; simp [Value.ownBlock] at hk
  · show Tree.EArg _ a L.length L
    rw [hl]
    exact h.below hB
  · show L.length ≤ c
    omega
  · intro ad e hm
    have hm : 0 < L.length := hm
    have q1 := hg ad e
    have q2 := earg_lt h e (by omega)
    show (if ad.block < w.heap.size then _ else if ad.block = w1.heap.size then _ else _) = _
    rw [if_neg (by omega), if_neg (by omega)]
  · intro k hk; simp [Value.ownBlock] at hk
  · intro k hk; simp [Value.ownBlock] at hk
theorem made_root {w W : World} {o : Nat → Tg} {b j : Nat} {L : List TM.Ed} (h : MMade w W o b (mesh1 j L)) (hj : j < 8) :
    W.cell? ⟨b, 3 + j, none⟩ = some (.int .i64 0) ∧ W.frozen? ⟨b, 3 + j, none⟩ = false ∧ MMade w (W.setCell ⟨b, 3 + j, none⟩ (.int .i64 (-1))) o b (mesh1 (j + 1) L) := by
  obtain ⟨o', P, h1, h2, h3, h4⟩ := h
  have c := h1.root hj
  have e : (mesh1 j L).rt j = 0 := if_neg (Nat.lt_irrefl j)
  rw [e] at c
  obtain ⟨g1, g2⟩ := h1.setBox (3 + j) (.int .i64 (-1)) (mesh1 (j + 1) L) (by
    intro cs h2
    have hs := h2.sz
    refine ⟨by simpa using hs, ?_, ?_, ?_, ?_, ?_, ?_⟩
    · rw [Array.getElem?_setIfInBounds_ne (by omega)]; exact h2.c0
    · rw [Array.getElem?_setIfInBounds_ne (by omega)]; exact h2.c1
    · rw [Array.getElem?_setIfInBounds_ne (by omega)]; exact h2.c2
    · intro i hi
      show _ = some (Value.int .i64 (if i < j + 1 then -1 else 0))
      by_cases q : i = j
      · subst q
        rw [Array.getElem?_setIfInBounds_self_of_lt (by omega), if_pos (by omega)]
      · rw [Array.getElem?_setIfInBounds_ne (by omega), h2.cr i hi]
        show some (Value.int .i64 (if i < j then -1 else 0)) = _
        by_cases q2 : i < j
        · rw [if_pos q2, if_pos (by omega)]
        · rw [if_neg q2, if_neg (by omega)]
    · rw [Array.getElem?_setIfInBounds_ne (by omega)]; exact h2.c11
    · rw [Array.getElem?_setIfInBounds_ne (by omega)]; exact h2.c12) rfl rfl rfl rfl rfl
  exact ⟨c, h1.free _, o', P, g1, h2, h3.setCell h4 _, h4⟩
theorem made_rest {w W : World} {o : Nat → Tg} {b : Nat} {L : List TM.Ed} (h : MMade w W o b (mesh1 8 L)) : MMade w W o b (mesh0 0 L) := by
  obtain ⟨o', P, h1, h2, h3, h4⟩ := h
  refine ⟨o', P, ⟨h1.n16, ?_, h1.tag, h1.nrow, h1.nrt, h1.nds, h1.edg, h1.edc, h1.edt, h1.srow, h1.srt, h1.fly, h1.flt⟩, h2, h3, h4⟩
  obtain ⟨cs, k1, k2⟩ := h1.box
  refine ⟨cs, k1, k2.sz, k2.c0, k2.c1, k2.c2, ?_, k2.c11, k2.c12⟩
  intro i hi
  have := k2.cr i hi
  rw [this]
  show some (Value.int .i64 (if i < 8 then -1 else 0)) = _
  rw [if_pos hi]
  rfl
def ntag (g : Tg) : Prop := g = ⟨1000, 0, 0⟩ ∨ g = ⟨1000, 1, 0⟩
theorem ntag_n {g : Tg} (h : ntag g) : g.n = 1000 := by rcases h with rfl | rfl <;> rfl
theorem MCells.setN {cs : Array Value} {P : MP} {M : Ms} (h : MCells cs P M) (v : Value) (nb : Nat → Nat) (np : Nat → NP) (n : Nat) (nd : Nat → Nd) : MCells (cs.setIfInBounds 1 v) { P with nv := v, nb := nb, np := np } { M with n := n, nd := nd } := by
  have hs := h.sz
  refine ⟨by simpa using h.sz, ?_, ?_, ?_, ?_, ?_, ?_⟩
  · rw [Array.getElem?_setIfInBounds_ne (by omega)]; exact h.c0
  · rw [Array.getElem?_setIfInBounds_self_of_lt (by omega)]
  · rw [Array.getElem?_setIfInBounds_ne (by omega)]; exact h.c2
  · intro i hi
    rw [Array.getElem?_setIfInBounds_ne (by omega)]
    exact h.cr i hi
  · rw [Array.getElem?_setIfInBounds_ne (by omega)]; exact h.c11
  · rw [Array.getElem?_setIfInBounds_ne (by omega)]; exact h.c12
theorem MAt.nne {w : World} {o : Nat → Tg} {b : Nat} {P : MP} {M : Ms} (h : MAt w o b P M) : ∀ k, P.nv.ownBlock = some k → k ≠ b := by
  intro k hk e
  have := h.nrt k (by simp [hk])
  rw [e, h.tag] at this
  cases this
theorem npt_succ (f : Nat → Nat) (n x : Nat) : npt (updN f n x) (n + 1) = npt f n ++ [.pointer (some ⟨x, 0, none⟩)] := by
  unfold npt
  rw [List.range_succ, List.map_append]
  congr 1
  · refine List.map_congr_left ?_
    intro i hi
    have : i < n := by simpa using hi
    rw [updN_ne _ _ (by omega)]
  · simp [updN_at]
/-- one more node: behind the append and the store -/
theorem node_store {W w1 w2 : World} {o : Nat → Tg} {b nb : Nat} {P : MP} {M : Ms} {Q : NP} {N : Nd} {g cap : Nat} (h : MAt W o b P M) (hN : NAt W o (M.n + 1) nb Q N) (h15 : M.n < 16) (hb : Below W.heap.size W w1) (hown : w2.ownsRow 0 97 1 (.slice (some ⟨g, 0, none⟩) (M.n + 1) cap) (M.n + 1) (npt P.nb M.n ++ [.pointer (some ⟨nb, 0, none⟩)])) (hgrow : w1.grownBy w2 P.nv.ownBlock) (hat : P.nv.ownBlock = some g ∨ W.heap.size ≤ g) :
    w2.cell? ⟨b, 1, none⟩ = some P.nv ∧ w2.frozen? ⟨b, 1, none⟩ = false ∧ ∃ o', MAt (w2.setCell ⟨b, 1, none⟩ (.slice (some ⟨g, 0, none⟩) (M.n + 1) cap)) o' b { P with nv := .slice (some ⟨g, 0, none⟩) (M.n + 1) cap, nb := updN P.nb M.n nb, np := updN P.np M.n Q } { M with n := M.n + 1, nd := updN M.nd M.n N } ∧ Ext W o o' := by
  obtain ⟨cs, h1, h2⟩ := h.box
  obtain ⟨v', hv'⟩ : ∃ v', Value.slice (some ⟨g, 0, none⟩) (M.n + 1) cap = v' := ⟨_, rfl⟩
  have hvo : v'.ownBlock = some g := by rw [← hv']; rfl
  rw [hv'] at hown ⊢
  have hne := h.nne
  have ho : Only P.nv.ownBlock.toList W w2 := (Only.of_below hb _).grown hgrow (by intro k hk; simp [hk])
  have hb2 : w2.heap[b]? = some (.cells cs 96 (0, 0)) := ho.block h1 (fun hm => hne b (by simpa using hm) rfl)
  have hO : Only (b :: P.nv.ownBlock.toList) W (w2.setCell ⟨b, 1, none⟩ v') := (ho.mono (fun k hk => List.mem_cons_of_mem _ hk)).setCell (by simp) _
  have hc : Chg o ntag W (w2.setCell ⟨b, 1, none⟩ v') := by
    refine Chg.of_only hO ?_ ?_
    · intro k hk
      rcases List.mem_cons.1 hk with rfl | hk
      · exact .inl h.tag
      · exact .inr (h.nrt k hk)
    · intro k hk
      rcases List.mem_cons.1 hk with rfl | hk
      · exact h.nobB
      · rcases h.nrow.2 with ⟨e, _⟩ | ⟨g', cap', cur, e, _, hg, _⟩
        · rw [e] at hk; simp [Value.ownBlock] at hk
        · rw [e] at hk
          simp [Value.ownBlock] at hk
          subst hk
          exact nobAt_cells hg (by decide)
  obtain ⟨o', ho'⟩ : ∃ o', grow o W ⟨1000, 1, 0⟩ = o' := ⟨_, rfl⟩
  have he : Ext W o o' := by rw [← ho']; exact grow_ext _ _ _
  have h0 : ∀ g, ntag g → g.n ≠ 0 := fun g hg => by rw [ntag_n hg]; decide
  have hbs : (w2.setCell ⟨b, 1, none⟩ v').heap[b]? = some (.cells (cs.setIfInBounds 1 v') 96 (0, 0)) := heap_setCell_same w2 b 1 cs _ v' hb2
  refine ⟨by simp [World.cell?, hb2, h2.c1], by simp [World.frozen?, hb2], o', ⟨by show M.n + 1 ≤ 16; omega, ⟨_, hbs, h2.setN v' _ _ _ _⟩, (he _ h.lt).trans h.tag, ?_, ?_, ?_, earg_chg h.edg hc h.edt (by simp [ntag]), h.edc, ?_, row_chg h.srow hc h.srt (by simp [ntag]), h.srt.ext he (fun k hk => own_lt h.srow (by simpa using hk)), h.fly.chg hc h.flt (by simp [ntag]) h0 he, h.flt.ext he h.fly.lt⟩, he⟩
  · show World.ownsRow _ 0 97 1 v' (M.n + 1) (npt (updN P.nb M.n nb) (M.n + 1))
    rw [npt_succ]
    refine (Only.setCell (bs := [b]) (Only.refl _ w2) (by simp) _).owns hown ?_
    intro k hk
    rw [hvo] at hk
    cases hk
    simp only [List.mem_singleton]
    rcases hat with e | e
    · exact hne g e
    · have := lt_of_block h1; omega
  · intro k hk
    have hk : k ∈ v'.ownBlock.toList := hk
    rw [hvo] at hk
    simp at hk
    subst hk
    rcases hat with e | e
    · exact (he _ (own_lt h.nrow e)).trans (h.nrt k (by simp [e]))
    · rw [← ho']; exact grow_new e
  · intro i hi
    have hi : i < M.n + 1 := hi
    show NAt _ o' (i + 1) (updN P.nb M.n nb i) (updN P.np M.n Q i) (updN M.nd M.n N i)
    by_cases q : i = M.n
    · subst q
      rw [updN_at, updN_at, updN_at]
      exact hN.chg hc (fun g hg => ⟨h0 g hg, by rw [ntag_n hg]; omega⟩) he
    · rw [updN_ne _ _ q, updN_ne _ _ q, updN_ne _ _ q]
      exact (h.nds i (by omega)).chg hc (fun g hg => ⟨h0 g hg, by rw [ntag_n hg]; omega⟩) he
  · intro ad e hm
    rw [he _ (earg_lt h.edg e hm)]
    exact h.edt ad e hm
set_option maxHeartbeats 1000000 in
theorem new_bad (N : Int) (a : Option Addr) (n cap : Nat) (L : List TM.Ed) (w : World) (h : Tree.EArg w a n L) (hnc : n ≤ cap) (hf : TM.ef N L ≠ 0) :
    Calls Tryz.prog 6 #[.int .i64 N, .slice a n cap] w fun e w' => e = .returned (.tuple #[.pointer none, errv (TM.ef N L)]) ∧ Below w.heap.size w w' := by
  have CC := hidden (Tree.check_calls N a n cap L w h hnc)
  rw [show Tree.errv (TM.ef N L) = errv (TM.ef N L) from rfl] at CC
  obtain ⟨f, hff⟩ : ∃ f, TM.ef N L = f := ⟨_, rfl⟩
  rw [hff] at CC hf ⊢
  have q1 := cmp_ne f
  have q2 := grd_ne f
  have d0 : decide (f = 0) = false := by simpa using hf
  clear h hnc hf hff
  go_enter Tryz.func6, Tryz.ntmps6
  go_wp2_with fail
  refine CC.out.mono ?_
  rintro e w1 ⟨rfl, hb⟩
  have HB := hidden hb
  clear hb CC
  go_wp2_with fail
  go_ret2
  exact ⟨rfl, HB.out⟩
theorem mesh0_succ (j : Nat) (E : List TM.Ed) : ({ mesh0 j E with n := j + 1, nd := updN (mesh0 j E).nd j (nd0 (j : Int)) } : Ms) = mesh0 (j + 1) E := by
  have e : updN (fun i : Nat => nd0 (i : Int)) j (nd0 (j : Int)) = fun i : Nat => nd0 (i : Int) := by
    funext i
    by_cases q : i = j
    · subst q; rw [updN_at]
    · rw [updN_ne _ _ q]
  show (⟨0, j + 1, updN (fun i : Nat => nd0 (i : Int)) j (nd0 (j : Int)), E, fun _ => -1, [], []⟩ : Ms) = _
  rw [e]
  rfl
set_option maxHeartbeats 2000000 in
set_option maxRecDepth 100000 in
theorem new_calls (o : Nat → Tg) (ho : ∀ k, (o k).n ≠ 1000) (nn : Nat) (a : Option Addr) (n cap : Nat) (L : List TM.Ed) (w : World) (h : Tree.EArg w a n L) (hn0 : a = none → n = 0 ∧ cap = 0) (hnc : n ≤ cap) (hf : TM.ef (nn : Int) L = 0) :
    Calls Tryz.prog 6 #[.int .i64 (nn : Int), .slice a n cap] w fun e w' => ∃ b, e = .returned (.tuple #[.pointer (some ⟨b, 0, none⟩), .nilIface]) ∧ MMade w w' o b (mesh0 nn L) := by
  obtain ⟨_, hfit⟩ := TM.ef_zero.1 hf
  have hnn1 := hfit.lo
  have hnn16 := hfit.hi
  have hlen := hfit.len
  have hl := h.2.1
  rw [Int.toNat_natCast] at hnn1 hnn16
  have CC := Tree.check_calls (nn : Int) a n cap L w h hnc
  rw [hf, show Tree.errv 0 = Value.nilIface from rfl] at CC
  have CC := hidden CC
  obtain ⟨D0, hD0⟩ : ∃ D0 : World → Nat → Nat → Prop, (fun W b j => MMade w W o b (mesh1 j L)) = D0 := ⟨_, rfl⟩
  have hD0e : ∀ W b j, D0 W b j ↔ MMade w W o b (mesh1 j L) := fun W b j => by rw [← hD0]
  obtain ⟨D, hD⟩ : ∃ D : World → Nat → Nat → Prop, (fun W b j => MMade w W o b (mesh0 j L)) = D := ⟨_, rfl⟩
  have hDe : ∀ W b j, D W b j ↔ MMade w W o b (mesh0 j L) := fun W b j => by rw [← hD]
  have HCl : Hid (∀ W, Below w.heap.size w W → Calls Tryz.prog 35 #[.slice a n cap] W fun e w' => ∃ a' c', e = .returned (.slice a' n c') ∧ Hid (D0 (w'.alloc (.cells #[.int .i64 0, .slice none 0 0, .slice a' n c', .int .i64 0, .int .i64 0, .int .i64 0, .int .i64 0, .int .i64 0, .int .i64 0, .int .i64 0, .int .i64 0, .slice none 0 0, .slice none 0 0] 96)) w'.heap.size 0)) := by
    refine hidden ?_
    intro W hB
    refine (clone_calls a n cap L W (h.below hB) hn0 (by omega)).mono ?_
    rintro e w' ⟨a', c', rfl, k1, k2, k3, k4⟩
    exact ⟨a', c', rfl, hidden ((hD0e _ _ _).2 (made_start k1 k2 (fun ad e => Nat.le_trans hB.size (k3 ad e)) (hB.trans (k4.mono hB.size))))⟩
  have HRt : Hid (∀ W b j, D0 W b j → j < 8 → W.cell? ⟨b, 3 + j, none⟩ = some (.int .i64 0) ∧ W.frozen? ⟨b, 3 + j, none⟩ = false ∧ Hid (D0 (W.setCell ⟨b, 3 + j, none⟩ (.int .i64 (-1))) b (j + 1))) := by
    refine hidden ?_
    intro W b j hA hj
    obtain ⟨g1, g2, g3⟩ := made_root ((hD0e _ _ _).1 hA) hj
    exact ⟨g1, g2, hidden ((hD0e _ _ _).2 g3)⟩
  have HMid : Hid (∀ W b, D0 W b 8 → D W b 0) := hidden (fun W b hA => (hDe _ _ _).2 (made_rest ((hD0e _ _ _).1 hA)))
  have HNew : Hid (∀ W b j, D W b j → j < nn → Calls Tryz.prog 36 #[.int .i64 (j : Int)] W fun e w' => ∃ nb na nc xs, e = .returned (.tuple #[.pointer (some ⟨nb, 0, none⟩), .nilIface]) ∧ w'.cell? ⟨b, 1, none⟩ = some (.slice na j nc) ∧ Hid (w'.ownsRow 0 97 1 (.slice na j nc) j xs) ∧ Hid (∀ g cap w2, w2.ownsRow 0 97 1 (.slice (some ⟨g, 0, none⟩) (j + 1) cap) (j + 1) (xs ++ [.pointer (some ⟨nb, 0, none⟩)]) → (w'.alloc (.cells #[.pointer (some ⟨nb, 0, none⟩)] 97)).grownBy w2 (Value.slice na j nc).ownBlock → ((Value.slice na j nc).ownBlock = some g ∨ g = w'.heap.size + 1) → w2.cell? ⟨b, 1, none⟩ = some (.slice na j nc) ∧ w2.frozen? ⟨b, 1, none⟩ = false ∧ Hid (D (w2.setCell ⟨b, 1, none⟩ (.slice (some ⟨g, 0, none⟩) (j + 1) cap)) b (j + 1)))) := by
    refine hidden ?_
    intro W b j hA hj
    obtain ⟨o1, P1, g1, g2, g3, g4⟩ := (hDe _ _ _).1 hA
    refine (ND.new_ok (j : Int) o1 (j + 1) W (by simp [okN]; omega)).mono ?_
    rintro e w' ⟨nb, rfl, o2, Q, k1, k2, k3⟩
    have hm : MAt w' o2 b P1 (mesh0 j L) := g1.chg (S := fun _ => False) (Chg.of_below k3 _ _) (fun g hg => hg.elim) k2
    obtain ⟨na, nc, hnv⟩ : ∃ na nc, P1.nv = .slice na j nc := by
      rcases hm.nrow.2 with ⟨e, h0⟩ | ⟨g, cap, cur, e, _⟩
      · exact ⟨none, 0, by rw [e]; show _ = Value.slice none (mesh0 j L).n 0; rw [h0]⟩
      · exact ⟨_, _, e⟩
    have c1 := hm.cells.2.1
    have row := hm.nrow
    rw [hnv] at c1 row
    refine ⟨nb, na, nc, npt P1.nb j, rfl, c1, hidden row, hidden ?_⟩
    intro g cap' w2 hown hgrow hat
    have hB : Below w.heap.size w w' := g3.trans (k3.mono g3.size)
    obtain ⟨s1, s2, o3, s3, s4⟩ := node_store hm (nb := nb) (Q := Q) (N := nd0 (j : Int)) k1 (show j < 16 by omega) ((Below.refl _ _).alloc (Nat.le_refl _) (.cells #[.pointer (some ⟨nb, 0, none⟩)] 97)) hown (by rw [hnv]; exact hgrow) (by
      rw [hnv]
      rcases hat with e | e
      · exact .inl e
      · exact .inr (by omega))
    rw [hnv] at s1
    have s3 : MAt _ o3 b _ _ := s3
    rw [show ({ mesh0 j L with n := (mesh0 j L).n + 1, nd := updN (mesh0 j L).nd (mesh0 j L).n (nd0 (j : Int)) } : Ms) = mesh0 (j + 1) L from mesh0_succ j L] at s3
    refine ⟨s1, s2, hidden ((hDe _ _ _).2 ⟨o3, _, s3, (g2.trans k2 g3.size).trans s4 hB.size, ?_, g4⟩)⟩
    refine Below.setCell ?_ g4 _
    refine (hB.alloc hB.size (.cells #[.pointer (some ⟨nb, 0, none⟩)] 97)).grown hgrow (by have := hB.size; simp; omega) ?_
    intro k hk
    have hkt := hm.nrt k (by rw [hnv]; simp [hk])
    rcases Nat.lt_or_ge k w.heap.size with hlt | hge
    · exfalso
      rw [(g2.trans k2 g3.size) k hlt] at hkt
      exact ho k (by rw [hkt])
    · exact hge
  have HFin : Hid (∀ W b, D W b nn → MMade w W o b (mesh0 nn L)) := hidden (fun W b hA => (hDe _ _ _).1 hA)
  obtain ⟨R, hR⟩ : ∃ R : World → Nat → Prop, (fun W b => MMade w W o b (mesh0 nn L)) = R := ⟨_, rfl⟩
  have hRe : ∀ W b, MMade w W o b (mesh0 nn L) = R W b := fun W b => by rw [← hR]
  simp only [hRe] at HFin ⊢
  obtain ⟨i0, hii, hz0, hz1, hz2⟩ : ∃ i0, Tryz.prog.info? 97 = some i0 ∧ i0.zero = some (.pointer none) ∧ i0.size = 1 ∧ i0.bytes = 8 := ⟨_, rfl, rfl, rfl, rfl⟩
  clear h hn0 hnc hf hfit hlen hl hD0 hD0e hD hDe hR hRe ho hnn1
  go_enter Tryz.func6, Tryz.ntmps6
  go_wp2_with fail
  refine CC.out.mono ?_
  rintro e w1 ⟨rfl, hb⟩
  have C2 := hidden (HCl.out w1 hb)
  clear hb CC HCl
  go_wp2_with fail
  refine C2.out.mono ?_
  rintro e w2 ⟨a', c', rfl, HD0⟩
  clear C2
  obtain ⟨b, hbw⟩ : ∃ b, w2.heap.size = b := ⟨_, rfl⟩
  obtain ⟨W3, hW3⟩ : ∃ W3, w2.alloc (.cells #[.int .i64 0, .slice none 0 0, .slice a' n c', .int .i64 0, .int .i64 0, .int .i64 0, .int .i64 0, .int .i64 0, .int .i64 0, .int .i64 0, .int .i64 0, .slice none 0 0, .slice none 0 0] 96) = W3 := ⟨_, rfl⟩
  rw [hW3, hbw] at HD0
  have HW3 := hidden hW3
  have HBW := hidden hbw
  clear hW3 hbw
  go_upto_region 5 with fail
  rw [HW3.out, HBW.out]
  clear HW3 HBW
  go_wp2_with fail
  go_loopg [22] 8 (fun g x wx => ∃ j : Nat, j + g = 8 ∧ x = .int .i64 (j : Int) ∧ Hid (D0 wx b j))
  case atStart => exact ⟨0, by omega, rfl, HD0⟩
  case round =>
    obtain ⟨j, hjg, rfl, HD⟩ := hrel
    by_cases hj : j < 8
    · have hjz : (j : Int) < 8 := by omega
      obtain ⟨k1, k2, HE⟩ := HRt.out wr b j HD.out hj
      clear HD
      go_wp2_with fail
      go_roundg (8 - (j + 1))
      case measure => omega
      case rel => exact ⟨j + 1, by omega, by go_num, HE⟩
    · obtain rfl : j = 8 := by omega
      have HE := hidden (HMid.out wr b HD.out)
      clear HD HRt HMid
      go_wp2_with fail
      go_loopg [32] nn (fun g x wx => ∃ j : Nat, j + g = nn ∧ x = .int .i64 (j : Int) ∧ Hid (D wx b j))
      case atStart => exact ⟨0, by omega, rfl, HE⟩
      case round =>
        obtain ⟨j, hjg2, rfl, HD⟩ := hrel
        by_cases hj2 : j < nn
        · have hjz : (j : Int) < (nn : Int) := by omega
          have CN := hidden (HNew.out wr b j HD.out hj2)
          clear HD
          go_wp2_with fail
          refine CN.out.mono ?_
          rintro e w5 ⟨nb, na, nc, xs, rfl, c1, HRow, HSt⟩
          clear CN
          go_wp2_with (at_builtin; refine wpList_append_lies _ rfl _ _ 90 rfl 0 97 i0 _ 1 8 Tryz.underlying90 hii hz0 hz1 hz2 rfl (by decide) _ j xs rfl (HRow.out.alloc _) ⟨w5.heap.size, 0, none⟩ 1 1 [.pointer (some ⟨nb, 0, none⟩)] rfl rfl (World.news_of_block (cs := #[.pointer (some ⟨nb, 0, none⟩)]) (t := 97) (fr := (0, 0)) (heap_alloc_new w5 _)) ?c2 (by omega) ?b1 ?b2 (Nat.zero_le _) (w5.heap.size + 1) (by simp) ?next)
          case c2 => intro u hu; simp at hu; rw [hu]; rfl
          case b1 => unfold maxLen; omega
          case b2 => omega
          case next =>
            intro g cap w6 hown hgrow hat _
            obtain ⟨k1, k2, HE6⟩ := HSt.out g cap w6 hown hgrow hat
            clear hown hgrow hat HSt HRow c1
            go_wp2_with fail
            go_roundg (nn - (j + 1))
            case measure => omega
            case rel => exact ⟨j + 1, by omega, by go_num, HE6⟩
        · have hjz : ¬ (j : Int) < (nn : Int) := by omega
          obtain rfl : nn = j := by omega
          have HR := hidden (HFin.out wr b HD.out)
          clear HD HFin HNew
          go_wp2_with fail
          go_ret2
          exact ⟨b, rfl, HR.out⟩
end Go.Proofs.YtpiamlgmadnepaaGreat.MS

