/-
  What New and the small functions of package order return, and what they leave in memory. Their condition: what is kept is such as it may be.
-/
import Derived.Test.YtijfocggdjjnjaiGreatDoorMathAll
import Derived.Test.YtijfocggdjjnjaiGreatDoorPackAll
import Derived.Maps.RangeWalk
import Derived.Outline
import Derived.RegionTactic
namespace Go.Proofs.YtijfocggdjjnjaiGreatDoor.Order
open Go.ChangeShapes Go.WideShapes Go.ChangeAt Go.RowKit Go.Maps Go.Proofs.YtijfocggdjjnjaiGreatDoor.PM Go.Proofs.YtijfocggdjjnjaiGreatDoor.Mem Go.Proofs.YtijfocggdjjnjaiGreatDoor.Pack Go.Proofs.YtijfocggdjjnjaiGreatDoor.OM
set_option linter.unusedVariables false

theorem law3 : Keyed Tryz.prog 3 := int_keyed Tryz.underlying3
theorem keyOf3 {y : Int} (h : (Lit.int .i64 y).wf = true) : keyOf Tryz.prog 3 (.int .i64 y) = some (key y) := keyOf_int_mk Tryz.underlying3 h
theorem zeroWT (w : World) : (zeroValue 232).run Tryz.prog w = .ok (.agg #[.int .i64 0, .bool false, .int .i64 0, .int .i64 0, .int .i64 0, .int .i64 0, .bool false, .slice none 0 0, .int .i64 0]) w := by kernel_rfl
theorem wf_of {y : Int} (h0 : -9223372036854775808 ≤ y) (h1 : y ≤ 9223372036854775807) : (Lit.int .i64 y).wf = true := WalkArith.wf_i64 (by omega)

/-- an Order in memory: b its block, mb its map -/
structure OrderAt (w : World) (b mb : Nat) (wt nw nx : Int) (M : Its) : Prop where
  box : w.heap[b]? = some (.cells #[.int .i64 nw, .int .i64 wt, .int .i64 nx, .map (some mb)] 178 (0, 0))
  map : ∃ D, w.ownsMap Tryz.prog 3 wtR mb M.length D ∧ Keys D M ∧ Elems D M
  bod : Bodies w M
theorem cells4 {w : World} {b : Nat} {v0 v1 v2 v3 : Value} {t : TypeId} (h : w.heap[b]? = some (.cells #[v0, v1, v2, v3] t (0, 0))) :
    w.cell? ⟨b, 0, none⟩ = some v0 ∧ w.cell? ⟨b, 1, none⟩ = some v1 ∧ w.cell? ⟨b, 2, none⟩ = some v2 ∧ w.cell? ⟨b, 3, none⟩ = some v3 := by
  refine ⟨?_, ?_, ?_, ?_⟩ <;> simp [World.cell?, h]
theorem setb {w : World} {b : Nat} {cs : Array Value} {t : TypeId} (h : w.heap[b]? = some (.cells cs t (0, 0))) (j : Nat) (u : Value) :
    (w.setCell ⟨b, j, none⟩ u).heap[b]? = some (.cells (cs.setIfInBounds j u) t (0, 0)) := by
  exact heap_setCell_same w b j cs t u h
theorem freeb {w : World} {b : Nat} {cs : Array Value} {t : TypeId} (h : w.heap[b]? = some (.cells cs t (0, 0))) (j : Nat) : w.frozen? ⟨b, j, none⟩ = false := by
  simp [World.frozen?, h]
theorem OrderAt.cells {w : World} {b mb : Nat} {wt nw nx : Int} {M : Its} (h : OrderAt w b mb wt nw nx M) :
    w.cell? ⟨b, 0, none⟩ = some (.int .i64 nw) ∧ w.cell? ⟨b, 1, none⟩ = some (.int .i64 wt) ∧ w.cell? ⟨b, 2, none⟩ = some (.int .i64 nx) ∧ w.cell? ⟨b, 3, none⟩ = some (.map (some mb)) := cells4 h.box
theorem OrderAt.ne {w : World} {b mb : Nat} {wt nw nx : Int} {M : Its} (h : OrderAt w b mb wt nw nx M) : b ≠ mb := by
  obtain ⟨h1, ⟨D, h2, _⟩, _⟩ := h
  obtain ⟨es, c, h3⟩ := map_block h2
  intro e
  rw [e, h3] at h1
  simp at h1
theorem OrderAt.lt {w : World} {b mb : Nat} {wt nw nx : Int} {M : Its} (h : OrderAt w b mb wt nw nx M) : b < w.heap.size ∧ mb < w.heap.size := by
  obtain ⟨h1, ⟨D, h2, _⟩, _⟩ := h
  exact ⟨lt_of_block h1, h2.lt⟩
/-- no byte lies in its blocks -/
theorem OrderAt.nob {w : World} {b mb : Nat} {wt nw nx : Int} {M : Its} (h : OrderAt w b mb wt nw nx M) : ∀ k ∈ [b, mb], ∀ cs fr, w.heap[k]? ≠ some (.cells cs 5 fr) := by
  obtain ⟨h1, ⟨D, h2, _⟩, _⟩ := h
  obtain ⟨es, c, h3⟩ := map_block h2
  intro k hk cs fr e
  simp only [List.mem_cons, List.not_mem_nil, or_false] at hk
  rcases hk with rfl | rfl
  · rw [h1] at e; simp at e
  · rw [h3] at e; simp at e
theorem OrderAt.only {w w' : World} {b mb : Nat} {wt nw nx : Int} {M : Its} {bs : List Nat} (h : OrderAt w b mb wt nw nx M) (ho : Only bs w w') (h1 : b ∉ bs) (h2 : mb ∉ bs) (hb : ∀ k ∈ bs, ∀ cs fr, w.heap[k]? ≠ some (.cells cs 5 fr)) : OrderAt w' b mb wt nw nx M := by
  obtain ⟨h3, ⟨D, ⟨es, clock, h4, h5⟩, h6, h7⟩, h8⟩ := h
  exact ⟨ho.block h3 h1, ⟨D, ⟨es, clock, ho.block h4 h2, h5⟩, h6, h7⟩, h8.only ho hb⟩
theorem OrderAt.below {w w' : World} {b mb : Nat} {wt nw nx : Int} {M : Its} (h : OrderAt w b mb wt nw nx M) (hb : Below w.heap.size w w') : OrderAt w' b mb wt nw nx M :=
  h.only (Only.of_below hb []) (by simp) (by simp) (by simp)
theorem OrderAt.alloc {w : World} {b mb : Nat} {wt nw nx : Int} {M : Its} (h : OrderAt w b mb wt nw nx M) (O : Obj) : OrderAt (w.alloc O) b mb wt nw nx M := h.below ((Below.refl _ _).alloc (Nat.le_refl _) O)
/-- a cell of its block is written -/
theorem OrderAt.set {w : World} {b mb : Nat} {wt nw nx nw' nx' : Int} {M : Its} (h : OrderAt w b mb wt nw nx M) (j : Nat) (u : Value) (he : (#[.int .i64 nw, .int .i64 wt, .int .i64 nx, .map (some mb)] : Array Value).setIfInBounds j u = #[.int .i64 nw', .int .i64 wt, .int .i64 nx', .map (some mb)]) : OrderAt (w.setCell ⟨b, j, none⟩ u) b mb wt nw' nx' M := by
  have hne := h.ne
  have hnb := h.nob
  have ho : Only [b] w (w.setCell ⟨b, j, none⟩ u) := (Only.refl _ _).setCell (by simp) _
  refine ⟨?_, ?_, h.bod.only ho (fun k hk => hnb k (by simp at hk; simp [hk]))⟩
  · have := setb h.box j u
    rw [he] at this
    exact this
  · obtain ⟨D, ⟨es, clock, h4, h5⟩, h6⟩ := h.map
    exact ⟨D, ⟨es, clock, ho.block h4 (by simp; exact fun e => hne e.symm), h5⟩, h6⟩
/-- the map alone has changed -/
theorem OrderAt.turned {w w' : World} {b mb : Nat} {wt nw nx : Int} {M M' : Its} (h : OrderAt w b mb wt nw nx M) (ho : Only [mb] w w') (hm : ∃ D, w'.ownsMap Tryz.prog 3 wtR mb M'.length D ∧ Keys D M' ∧ Elems D M') (hB : Bodies w M') : OrderAt w' b mb wt nw nx M' := by
  have hne := h.ne
  have hnb := h.nob
  exact ⟨ho.block h.box (by simp; exact hne), hm, hB.only ho (fun k hk => hnb k (by simp at hk; simp [hk]))⟩
theorem store_new {w : World} {b mb : Nat} {wt nw nx : Int} {M : Its} (h : OrderAt w b mb wt nw nx M) (x : Kp) (hx : has M x.n = false) (hw : (Lit.int .i64 x.n).wf = true) (hl : M.length ≤ 1000) (hb : Body w x.p) :
    ∃ w2, (Instr.mapUpdate 176 (.map (some mb)) (.int .i64 x.n) (lv x)).run Tryz.prog w = .ok () w2 ∧ OrderAt w2 b mb wt nw nx (M ++ [x]) ∧ Only [mb] w w2 := by
  obtain ⟨D, hown, hK, hE⟩ := h.map
  obtain ⟨a, m, c, e, hr⟩ := hb
  have hrd : wtR (lv x) = some (.held (lv x), []) := by unfold lv; rw [e]; rfl
  obtain ⟨w2, hrun, hown2, hturn⟩ := hown.store law3 Tryz.underlying176 (by unfold maxLen; omega) (keyOf3 hw) hrd
  have ho : Only [mb] w w2 := (Only.refl _ _).grown hturn.grown (by simp)
  refine ⟨w2, hrun, h.turned ho ⟨_, ?_, keys_put hown.isMap hK x _, elems_put hown.isMap hE (has_no hx)⟩ (h.bod.app ⟨a, m, c, e, hr⟩), ho⟩
  simpa using hown2
theorem del_any {w w2 : World} {b mb n : Nat} {wt nw nx y : Int} {M : Its} {D : DataW Value} (h : OrderAt w b mb wt nw nx M) (hK : Keys D M) (hE : Elems D M) (hr : Apart M) (hown : w2.ownsMap Tryz.prog 3 wtR mb n (D.del (key y))) (ho : Only [mb] w w2) : OrderAt w2 b mb wt nw nx (M.filter fun i => decide (i.n ≠ y)) := by
  have hK2 := keys_strike hK y
  refine h.turned ho ⟨_, ?_, hK2, elems_strike hE y⟩ (h.bod.sub fun i hi => (List.mem_filter.1 hi).1)
  have ht := OM.tight hown
  have hr2 : Apart (M.filter fun i => decide (i.n ≠ y)) := hr.filter _
  rw [hK2.size (hown.entries law3) hr2] at ht
  exact ht
/-- what a look-up gives -/
theorem look_ok {w : World} {b mb : Nat} {wt nw nx y : Int} {M : Its} (h : OrderAt w b mb wt nw nx M) (hw : (Lit.int .i64 y).wf = true) :
    ∃ v, (Instr.lookup 176 (.map (some mb)) (.int .i64 y) true).run Tryz.prog w = .ok (.tuple #[v, .bool (has M y)]) w ∧ ∃ n g s t l q st a m c z, v = .agg #[.int .i64 n, .bool g, .int .i64 s, .int .i64 t, .int .i64 l, .int .i64 q, .bool st, .slice a m c, .int .i64 z] := by
  obtain ⟨D, hown, hK, hE⟩ := h.map
  obtain ⟨v', ps, hrun, hr⟩ := hown.look_ok law3 Tryz.underlying176 (zeroWT w) (wtR_mk 0 false 0 0 0 0 false none 0 0 0) (keyOf3 hw)
  rw [hK.at] at hrun
  exact ⟨v', hrun, (wtR_inv hr).1⟩

theorem res_ck {fn : Func} {tmps : Array Value} {w : World} {g i j : Nat} {x : Int} (hf : fn.results = #[.cell i 64, .tmp j]) (hi : tmps.getD i undef = .pointer (some ⟨g, 0, none⟩)) (hb : w.cell? ⟨g, 0, none⟩ = some (.int .i64 x)) :
    (results fn tmps).run Tryz.prog w = .ok (.tuple #[.agg #[.int .i64 x], tmps.getD j undef]) w := by
  have hi' : tmps[i]?.getD undef = .pointer (some ⟨g, 0, none⟩) := by simpa using hi
  simp [results, hf, hi', go_sem, hb]
theorem ck_cell (w : World) (x : Int) (O : Obj) : ((w.alloc O).alloc (.cells #[.int .i64 x] 64)).cell? ⟨w.heap.size + 1, 0, none⟩ = some (.int .i64 x) := by
  have h := heap_alloc_new (w.alloc O) (.cells #[.int .i64 x] 64)
  simp only [World.size_alloc] at h
  unfold World.cell?
  simp only [h]
  simp
theorem ck_below (w : World) (O1 O2 : Obj) : Below w.heap.size w ((w.alloc O1).alloc O2) :=
  ((Below.refl _ _).alloc (Nat.le_refl _) _).alloc (by simp) _

theorem at_calls (nw now : Int) (w : World) :
    Calls Tryz.prog 22 #[.agg #[.int .i64 nw], .int .i64 now] w fun e w' => e = .returned (.tuple #[.agg #[.int .i64 (if tf nw now = 0 then now else 0)], errv (tf nw now)]) ∧ Below w.heap.size w w' := by
  by_cases c : now < 0
  · have e : tf nw now = 1 := by unfold tf; rw [if_pos (.inl c)]
    rw [e]
    clear e
    go_enter Tryz.func22, Tryz.ntmps22
    go_wp2_with fail
    refine bodyPost_ret (res_ck (g := w.heap.size + 1) rfl rfl (ck_cell w _ _)) rfl ?_
    exact ⟨rfl, ck_below w _ _⟩
  by_cases c1 : 1000000 < now
  · have e : tf nw now = 1 := by unfold tf; rw [if_pos (.inr c1)]
    rw [e]
    clear e
    go_enter Tryz.func22, Tryz.ntmps22
    go_wp2_with fail
    refine bodyPost_ret (res_ck (g := w.heap.size + 1) rfl rfl (ck_cell w _ _)) rfl ?_
    exact ⟨rfl, ck_below w _ _⟩
  by_cases c2 : now < nw
  · have e : tf nw now = 6 := by unfold tf; rw [if_neg (by omega), if_pos c2]
    rw [e]
    clear e
    go_enter Tryz.func22, Tryz.ntmps22
    go_wp2_with fail
    refine bodyPost_ret (res_ck (g := w.heap.size + 1) rfl rfl (ck_cell w _ _)) rfl ?_
    exact ⟨rfl, ck_below w _ _⟩
  · have e : tf nw now = 0 := by unfold tf; rw [if_neg (by omega), if_neg c2]
    rw [e]
    clear e
    go_enter Tryz.func22, Tryz.ntmps22
    go_wp2_with fail
    refine bodyPost_ret (res_ck (g := w.heap.size + 1) rfl rfl (ck_cell w _ _)) rfl ?_
    exact ⟨rfl, ck_below w _ _⟩

theorem at_bad (nw now : Int) (w : World) (h : tf nw now ≠ 0) :
    Calls Tryz.prog 22 #[.agg #[.int .i64 nw], .int .i64 now] w fun e w' => e = .returned (.tuple #[.agg #[.int .i64 0], errv (tf nw now)]) ∧ Below w.heap.size w w' := by
  have := at_calls nw now w
  rw [if_neg h] at this
  exact this
theorem at_ok (nw now : Int) (w : World) (h : tf nw now = 0) :
    Calls Tryz.prog 22 #[.agg #[.int .i64 nw], .int .i64 now] w fun e w' => e = .returned (.tuple #[.agg #[.int .i64 now], .nilIface]) ∧ Below w.heap.size w w' := by
  have := at_calls nw now w
  rw [if_pos h, h, errv_zero] at this
  exact this


theorem new_ok (wt : Int) (w : World) (h0 : 0 ≤ wt) (h1 : wt ≤ 1000000) :
    Calls Tryz.prog 52 #[.int .i64 wt] w fun e w' => ∃ b mb, e = .returned (.tuple #[.pointer (some ⟨b, 0, none⟩), .nilIface]) ∧ w.heap.size ≤ b ∧ w.heap.size ≤ mb ∧ OrderAt w' b mb wt 0 (-1) [] ∧ Below w.heap.size w w' := by
  have hmm := @run_makeMap Tryz.prog
  go_enter Tryz.func52, Tryz.ntmps52
  go_wp2_with fail
  go_ret2
  refine ⟨_, _, rfl, Nat.le_succ _, Nat.le_refl _, ⟨?_, ⟨.map [], ?_, keys_empty, fun i hi => by simp at hi⟩, fun i hi => by simp at hi⟩, ((Below.refl _ _).alloc (Nat.le_refl _) _).alloc (by simp) _⟩
  · have := heap_alloc_new (w.alloc (.map #[] 0)) (.cells #[.int .i64 0, .int .i64 wt, .int .i64 (-1), .map (some w.heap.size)] 178)
    simpa using this
  · exact (World.ownsMap_made w _ _ _).alloc _
theorem new_err (wt : Int) (w : World) (h : wt < 0 ∨ 1000000 < wt) :
    Calls Tryz.prog 52 #[.int .i64 wt] w fun e w' => e = .returned (.tuple #[.pointer none, errv 1]) ∧ w' = w := by
  by_cases c : wt < 0
  · clear h
    go_enter Tryz.func52, Tryz.ntmps52
    go_wp2_with fail
    go_ret2
    exact ⟨rfl, rfl⟩
  · have c' : 1000000 < wt := by omega
    clear h
    go_enter Tryz.func52, Tryz.ntmps52
    go_wp2_with fail
    go_ret2
    exact ⟨rfl, rfl⟩

theorem mayBe_calls (y : Int) (w : World) :
    Calls Tryz.prog 101 #[.int .i64 y] w fun e w' => e = .returned (.bool (decide (0 ≤ y ∧ y ≤ 1099511627776))) ∧ w' = w := by
  by_cases h : 0 ≤ y
  · have d : decide (0 ≤ y) = true := by simpa using h
    go_enter Tryz.func101, Tryz.ntmps101
    go_wp2_with fail
    go_ret
    exact ⟨by simp [h], rfl⟩
  · have d : decide (0 ≤ y) = false := by simpa using h
    go_enter Tryz.func101, Tryz.ntmps101
    go_wp2_with fail
    go_ret
    exact ⟨by simp, rfl⟩
theorem mayBe_yes (y : Int) (w : World) (h0 : 0 ≤ y) (h1 : y ≤ 1099511627776) :
    Calls Tryz.prog 101 #[.int .i64 y] w fun e w' => e = .returned (.bool true) ∧ w' = w := by
  have := mayBe_calls y w
  rw [show decide (0 ≤ y ∧ y ≤ 1099511627776) = true by simp [h0, h1]] at this
  exact this
theorem mayBe_no (y : Int) (w : World) (h : y < 0 ∨ 1099511627776 < y) :
    Calls Tryz.prog 101 #[.int .i64 y] w fun e w' => e = .returned (.bool false) ∧ w' = w := by
  have := mayBe_calls y w
  rw [show decide (0 ≤ y ∧ y ≤ 1099511627776) = false by simp; omega] at this
  exact this

theorem isTooFar_calls (b : Nat) (nx y : Int) (w : World) (h : w.cell? ⟨b, 2, none⟩ = some (.int .i64 nx)) (h0 : -1 ≤ nx) (h1 : nx ≤ 1099511627777) (h2 : 0 ≤ y) (h3 : y ≤ 1099511627776) :
    Calls Tryz.prog 102 #[.pointer (some ⟨b, 0, none⟩), .int .i64 y] w fun e w' => e = .returned (.bool (far nx y)) ∧ w' = w := by
  by_cases c : nx = -1
  · have e : far nx y = false := by simp [far, c]
    rw [e]
    subst c
    clear e
    go_enter Tryz.func102, Tryz.ntmps102
    go_wp2_with fail
    go_ret
    exact ⟨rfl, rfl⟩
  · have e : far nx y = decide (200 ≤ y - nx) := by simp [far, c]
    rw [e]
    clear e
    have d1 : (nx == -1) = false := by simpa using c
    have d2 : (nx != -1) = true := by simpa using c
    clear c
    go_enter Tryz.func102, Tryz.ntmps102
    go_wp2_with fail
    go_ret
    exact ⟨rfl, rfl⟩

theorem has_calls (b mb : Nat) (wt nw nx y : Int) (M : Its) (w : World) (h : OrderAt w b mb wt nw nx M) (hw : (Lit.int .i64 y).wf = true) :
    Calls Tryz.prog 120 #[.pointer (some ⟨b, 0, none⟩), .int .i64 y] w fun e w' => e = .returned (.bool (has M y)) ∧ Below w.heap.size w w' := by
  obtain ⟨v, hl, n, g, s, t, l, q, st, a, m, c, z, rfl⟩ := look_ok h hw
  obtain ⟨c0, c1, c2, c3⟩ := h.cells
  generalize has M y = hb at *
  clear h c0 c1 c2
  go_enter Tryz.func120, Tryz.ntmps120
  go_wp2_with fail
  go_ret
  exact ⟨rfl, (Below.refl _ _).alloc (Nat.le_refl _) _⟩

/-- an item, handed back -/
theorem res_it {fn : Func} {tmps : Array Value} {w : World} {g i : Nat} {n : Int} {gn : Bool} {s t l v : Int} {st : Bool} {a : Option Addr} {m cap : Nat} (hf : fn.results = #[.cell i 201]) (hi : tmps.getD i undef = .pointer (some ⟨g, 0, none⟩)) (hb : w.heap[g]? = some (.cells #[.int .i64 n, .bool gn, .int .i64 s, .int .i64 t, .int .i64 l, .int .i64 v, .bool st, .slice a m cap] 201 (0, 0))) :
    (results fn tmps).run Tryz.prog w = .ok (.agg #[.int .i64 n, .bool gn, .int .i64 s, .int .i64 t, .int .i64 l, .int .i64 v, .bool st, .slice a m cap]) w := by
  have c0 : w.cell? ⟨g, 0, none⟩ = some (.int .i64 n) := by simp [World.cell?, hb]
  have c1 : w.cell? ⟨g, 1, none⟩ = some (.bool gn) := by simp [World.cell?, hb]
  have c2 : w.cell? ⟨g, 2, none⟩ = some (.int .i64 s) := by simp [World.cell?, hb]
  have c3 : w.cell? ⟨g, 3, none⟩ = some (.int .i64 t) := by simp [World.cell?, hb]
  have c4 : w.cell? ⟨g, 4, none⟩ = some (.int .i64 l) := by simp [World.cell?, hb]
  have c5 : w.cell? ⟨g, 5, none⟩ = some (.int .i64 v) := by simp [World.cell?, hb]
  have c6 : w.cell? ⟨g, 6, none⟩ = some (.bool st) := by simp [World.cell?, hb]
  have c7 : w.cell? ⟨g, 7, none⟩ = some (.slice a m cap) := by simp [World.cell?, hb]
  have hi' : tmps[i]?.getD undef = .pointer (some ⟨g, 0, none⟩) := by simpa using hi
  simp [results, hf, hi', go_sem, c0, c1, c2, c3, c4, c5, c6, c7]
theorem gone_calls (y : Int) (w : World) :
    Calls Tryz.prog 138 #[.int .i64 y] w fun e w' => e = .returned (.agg #[.int .i64 y, .bool true, .int .i64 0, .int .i64 0, .int .i64 0, .int .i64 0, .bool false, .slice none 0 0]) ∧ Below w.heap.size w w' := by
  go_enter Tryz.func138, Tryz.ntmps138
  go_wp2_with fail
  refine bodyPost_ret (res_it (g := w.heap.size) rfl rfl (heap_alloc_new w _)) rfl ?_
  exact ⟨rfl, (Below.refl _ _).alloc (Nat.le_refl _) _⟩

/-- a variable of a packet, written whole -/
theorem box6 {W : World} {g : Nat} {z0 z1 z2 z3 z4 z5 : Value} (hh : W.heap[g]? = some (.cells #[z0, z1, z2, z3, z4, z5] 31 (0, 0))) (s t l v : Int) (st : Bool) (bv : Value) :
    Box ((((((W.setCell ⟨g, 0, none⟩ (.int .i64 s)).setCell ⟨g, 1, none⟩ (.int .i64 t)).setCell ⟨g, 2, none⟩ (.int .i64 l)).setCell ⟨g, 3, none⟩ (.int .i64 v)).setCell ⟨g, 4, none⟩ (.bool st)).setCell ⟨g, 5, none⟩ bv) g s t l v st bv := by
  have h0 := heap_setCell_same _ _ 0 _ _ (.int .i64 s) hh
  have h1 := heap_setCell_same _ _ 1 _ _ (.int .i64 t) h0
  have h2 := heap_setCell_same _ _ 2 _ _ (.int .i64 l) h1
  have h3 := heap_setCell_same _ _ 3 _ _ (.int .i64 v) h2
  have h4 := heap_setCell_same _ _ 4 _ _ (.bool st) h3
  have h5 := heap_setCell_same _ _ 5 _ _ bv h4
  exact h5
theorem only6 {w W : World} {bs : List Nat} {g : Nat} (h : Only bs w W) (hg : g ∈ bs) (v0 v1 v2 v3 v4 v5 : Value) :
    Only bs w ((((((W.setCell ⟨g, 0, none⟩ v0).setCell ⟨g, 1, none⟩ v1).setCell ⟨g, 2, none⟩ v2).setCell ⟨g, 3, none⟩ v3).setCell ⟨g, 4, none⟩ v4).setCell ⟨g, 5, none⟩ v5) :=
  (((((h.setCell hg _).setCell hg _).setCell hg _).setCell hg _).setCell hg _).setCell hg _
theorem open6 {W : World} {g : Nat} {z0 z1 z2 z3 z4 z5 : Value} (hh : W.heap[g]? = some (.cells #[z0, z1, z2, z3, z4, z5] 31 (0, 0))) : Pack.Open W g z0 z1 z2 z3 z4 z5 := by
  simp [Pack.Open, World.cell?, World.frozen?, hh]

set_option maxHeartbeats 1000000 in
set_option maxRecDepth 100000 in
theorem apart_calls (s t l q : Int) (st : Bool) (a : Option Addr) (m cap : Nat) (L : List Nat) (w : World) (h : Arg w a m L) (hn : a = none → m = 0 ∧ cap = 0) (hm : m ≤ 1000) :
    Calls Tryz.prog 104 #[.agg #[.int .i64 s, .int .i64 t, .int .i64 l, .int .i64 q, .bool st, .slice a m cap]] w fun e w' => ∃ a' c', e = .returned (.agg #[.int .i64 s, .int .i64 t, .int .i64 l, .int .i64 q, .bool st, .slice a' m c']) ∧
      w'.ownsRow 0 5 1 (.slice a' m c') m (cellsOf L) ∧ Below w.heap.size w w' := by
  obtain ⟨i0, hii, hz0, hz1, hz2⟩ := info_parts info5
  have hl : ∀ x ∈ L, x < 256 := h.1.1
  have HA := hidden h
  have HN := hidden hn
  have HL := hidden hl
  have hw : ∀ O1 O2, Below w.heap.size w ((w.alloc O1).alloc O2) := fun O1 O2 => ((Below.refl _ _).alloc (Nat.le_refl _) _).alloc (by simp) _
  have HW := hidden hw
  clear h hn hl hw
  go_enter Tryz.func104, Tryz.ntmps104
  go_wp2_with (at_builtin; refine append_any rfl _ _ 29 rfl (w.heap.size + 2) 5 i0 (.int .u8 0) 1 1 Tryz.underlying29 hii hz0 hz1 hz2 rfl (by decide) _ 0 [] rfl (World.ownsRow_nil _ _ _ _) a m cap (cellsOf L) rfl ?al HN.out ?ac (cells_one L) ?b1 ?b2 ?b3 ?next)
  case al => rw [cellsOf_len, HA.out.2.1]; omega
  case ac => exact bys_cells (HA.out.1.below (HW.out _ _))
  case b1 => unfold maxLen; omega
  case b2 => omega
  case b3 => simp
  case next =>
    intro v1 w1 hown hgrow
    have hx : w1.heap[w.heap.size]? = some (.cells #[.int .i64 s, .int .i64 t, .int .i64 l, .int .i64 q, .bool st, .slice a m cap] 31 (0, 0)) :=
      (hgrow.block _ (by simp; omega) (by simp [Value.ownBlock])).trans ((Below.heap_alloc _ _ _ (by simp)).trans (heap_alloc_new w _))
    have hy : w1.heap[w.heap.size + 1]? = some (.cells #[.int .i64 0, .int .i64 0, .int .i64 0, .int .i64 0, .bool false, .slice none 0 0] 31 (0, 0)) := by
      refine (hgrow.block _ (by simp) (by simp [Value.ownBlock])).trans ?_
      have := heap_alloc_new (w.alloc (.cells #[.int .i64 s, .int .i64 t, .int .i64 l, .int .i64 q, .bool st, .slice a m cap] 31)) (.cells #[.int .i64 0, .int .i64 0, .int .i64 0, .int .i64 0, .bool false, .slice none 0 0] 31)
      simpa using this
    have HB1 : Hid (Below w.heap.size w w1) := (HW.out _ _).grown hgrow (by simp; omega) (by simp [Value.ownBlock])
    obtain ⟨a', c', rfl, _, _, _, hfar⟩ := own_slice (L := L) hown HL.out (by omega)
    have HO : Hid (w1.ownsRow (w.heap.size + 2) 5 1 (.slice a' m c') m (cellsOf L)) := hown
    have HX := hidden hx
    have HY := hidden hy
    have HF := hidden hfar
    clear hown hgrow hfar hx hy
    obtain ⟨⟨c0, c1, c2, c3, c4, c5⟩, f0, f1, f2, f3, f4, f5⟩ := open6 HX.out
    obtain ⟨⟨d0, d1, d2, d3, d4, d5⟩, g0, g1, g2, g3, g4, g5⟩ := open6 HY.out
    go_wp2_with fail
    have hz : (w1.setCell ⟨w.heap.size, 5, none⟩ (.slice a' m c')).heap[w.heap.size + 1]? = some (.cells #[.int .i64 0, .int .i64 0, .int .i64 0, .int .i64 0, .bool false, .slice none 0 0] 31 (0, 0)) := (Below.heap_setCell _ _ _ _ (by simp)).trans HY.out
    have ho : Only [w.heap.size, w.heap.size + 1] w1 _ := only6 (g := w.heap.size + 1) ((Only.refl _ w1).setCell (p := ⟨w.heap.size, 5, none⟩) (by simp) (.slice a' m c')) (by simp) (.int .i64 s) (.int .i64 t) (.int .i64 l) (.int .i64 q) (.bool st) (.slice a' m c')
    refine bodyPost_ret (res_pk1 (g := w.heap.size + 1) rfl rfl (box6 hz s t l q st _)) rfl ?_
    refine ⟨a', c', rfl, own_base (ho.owns HO.out ?_) (Nat.zero_le _), HB1.out.trans (ho.below HB1.out.size (by simp))⟩
    intro k hk hc
    cases a' with
    | none => simp [Value.ownBlock] at hk
    | some ad =>
      obtain ⟨g, rfl, hg⟩ := HF.out ad rfl
      simp [Value.ownBlock] at hk
      simp at hc
      omega
end Go.Proofs.YtijfocggdjjnjaiGreatDoor.Order

