/-
  What New and the small methods of package ring return, and what they leave in memory. Their condition: the ring keeps packets that a ring may keep.
-/
import Derived.Test.YtijfocggdjjnjaiGreatDoorMathAll
import Derived.Test.YtijfocggdjjnjaiGreatDoorPackAll
import Derived.Maps.RangeWalk
import Derived.Outline
namespace Go.Proofs.YtijfocggdjjnjaiGreatDoor.Ring
open Go.ChangeShapes Go.WideShapes Go.ChangeAt Go.RowKit Go.Maps Go.Proofs.YtijfocggdjjnjaiGreatDoor.PM Go.Proofs.YtijfocggdjjnjaiGreatDoor.Mem Go.Proofs.YtijfocggdjjnjaiGreatDoor.Pack Go.Proofs.YtijfocggdjjnjaiGreatDoor.RM
set_option linter.unusedVariables false

theorem law3 : Keyed Tryz.prog 3 := int_keyed Tryz.underlying3
theorem keyOf3 {y : Int} (h : (Lit.int .i64 y).wf = true) : keyOf Tryz.prog 3 (.int .i64 y) = some (key y) := keyOf_int_mk Tryz.underlying3 h
theorem zeroPK (w : World) : (zeroValue 31).run Tryz.prog w = .ok (.agg #[.int .i64 0, .int .i64 0, .int .i64 0, .int .i64 0, .bool false, .slice none 0 0]) w := by kernel_rfl
theorem wf_of {y : Int} (h0 : -9223372036854775808 ≤ y) (h1 : y ≤ 9223372036854775807) : (Lit.int .i64 y).wf = true := WalkArith.wf_i64 (by omega)

/-- a ring in memory -/
def RingAt (w : World) (b mb : Nat) (n T : Int) (M : Its) : Prop :=
  w.heap[b]? = some (.cells #[.int .i64 n, .int .i64 T, .map (some mb)] 162 (0, 0)) ∧ ∃ D, w.ownsMap Tryz.prog 3 pkR mb M.length D ∧ Keys D M ∧ Elems w D M
theorem RingAt.cells {w : World} {b mb : Nat} {n T : Int} {M : Its} (h : RingAt w b mb n T M) :
    w.cell? ⟨b, 0, none⟩ = some (.int .i64 n) ∧ w.cell? ⟨b, 1, none⟩ = some (.int .i64 T) ∧ w.cell? ⟨b, 2, none⟩ = some (.map (some mb)) := by
  have := h.1
  refine ⟨?_, ?_, ?_⟩ <;> simp [World.cell?, this]
theorem RingAt.free {w : World} {b mb : Nat} {n T : Int} {M : Its} (h : RingAt w b mb n T M) (j : Nat) : w.frozen? ⟨b, j, none⟩ = false := by
  have := h.1
  simp [World.frozen?, this]
theorem RingAt.lt {w : World} {b mb : Nat} {n T : Int} {M : Its} (h : RingAt w b mb n T M) : b < w.heap.size ∧ mb < w.heap.size := by
  obtain ⟨h1, D, h2, _⟩ := h
  exact ⟨lt_of_block h1, h2.lt⟩
theorem RingAt.ne {w : World} {b mb : Nat} {n T : Int} {M : Its} (h : RingAt w b mb n T M) : b ≠ mb := by
  obtain ⟨h1, D, h2, _⟩ := h
  obtain ⟨es, c, h3⟩ := map_block h2
  intro e
  rw [e, h3] at h1
  simp at h1
/-- no byte lies in its blocks -/
theorem RingAt.nob {w : World} {b mb : Nat} {n T : Int} {M : Its} (h : RingAt w b mb n T M) : ∀ k ∈ [b, mb], ∀ cs fr, w.heap[k]? ≠ some (.cells cs 5 fr) := by
  obtain ⟨h1, D, h2, _⟩ := h
  obtain ⟨es, c, h3⟩ := map_block h2
  intro k hk cs fr e
  simp only [List.mem_cons, List.not_mem_nil, or_false] at hk
  rcases hk with rfl | rfl
  · rw [h1] at e; simp at e
  · rw [h3] at e; simp at e
theorem RingAt.only {w w' : World} {b mb : Nat} {n T : Int} {M : Its} {bs : List Nat} (h : RingAt w b mb n T M) (ho : Only bs w w') (h1 : b ∉ bs) (h2 : mb ∉ bs) (hb : ∀ k ∈ bs, ∀ cs fr, w.heap[k]? ≠ some (.cells cs 5 fr)) : RingAt w' b mb n T M := by
  obtain ⟨h3, D, ⟨es, clock, h4, h5⟩, h6, h7⟩ := h
  exact ⟨ho.block h3 h1, D, ⟨es, clock, ho.block h4 h2, h5⟩, h6, h7.only ho hb⟩
theorem RingAt.below {w w' : World} {b mb : Nat} {n T : Int} {M : Its} (h : RingAt w b mb n T M) (hb : Below w.heap.size w w') : RingAt w' b mb n T M :=
  h.only (Only.of_below hb []) (by simp) (by simp) (by simp)

theorem isGone_calls (b : Nat) (n T y : Int) (w : World) (h0 : w.cell? ⟨b, 0, none⟩ = some (.int .i64 n)) (h1 : w.cell? ⟨b, 1, none⟩ = some (.int .i64 T)) (hT0 : -1 ≤ T) (hT1 : T ≤ 1099511627776) (hy0 : 0 ≤ y) (hy1 : y ≤ 1099511627776) :
    Calls Tryz.prog 95 #[.pointer (some ⟨b, 0, none⟩), .int .i64 y] w fun e w' => e = .returned (.bool (decide (n ≤ T - y))) ∧ ∃ k, w' = w.drewN k := by
  go_enter Tryz.func95, Tryz.ntmps95
  go_wp2_with fail
  go_quiet (fail)
  go_wp2_with fail
  go_ret
  exact ⟨rfl, _, rfl⟩

theorem new_ok (n : Int) (w : World) (h0 : 1 ≤ n) (h1 : n ≤ 64) :
    Calls Tryz.prog 50 #[.int .i64 n] w fun e w' => ∃ b mb, e = .returned (.tuple #[.pointer (some ⟨b, 0, none⟩), .nilIface]) ∧ w.heap.size ≤ b ∧ w.heap.size ≤ mb ∧ RingAt w' b mb n (-1) [] ∧ Below w.heap.size w w' := by
  have hmm := @run_makeMap Tryz.prog
  go_enter Tryz.func50, Tryz.ntmps50
  go_wp2_with fail
  go_ret2
  refine ⟨_, _, rfl, Nat.le_succ _, Nat.le_refl _, ⟨?_, .map [], ?_, keys_empty, fun i hi => by simp at hi⟩, ((Below.refl _ _).alloc (Nat.le_refl _) _).alloc (by simp) _⟩
  · have := heap_alloc_new (w.alloc (.map #[] 0)) (.cells #[.int .i64 n, .int .i64 (-1), .map (some w.heap.size)] 162)
    simpa using this
  · exact (World.ownsMap_made w _ _ _).alloc _
theorem new_err (n : Int) (w : World) (h : n < 1 ∨ 64 < n) :
    Calls Tryz.prog 50 #[.int .i64 n] w fun e w' => e = .returned (.tuple #[.pointer none, .iface 58 (.int .i64 1)]) ∧ w' = w := by
  by_cases c : n < 1
  · clear h
    go_enter Tryz.func50, Tryz.ntmps50
    go_wp2_with fail
    go_ret2
    exact ⟨rfl, rfl⟩
  · have c' : 64 < n := by omega
    clear h
    go_enter Tryz.func50, Tryz.ntmps50
    go_wp2_with fail
    go_ret2
    exact ⟨rfl, rfl⟩

/-- a variable of a packet, written whole -/
theorem box6 {W : World} {g : Nat} {z0 z1 z2 z3 z4 z5 : Value} (hh : W.heap[g]? = some (.cells #[z0, z1, z2, z3, z4, z5] 31 (0, 0))) (s t l v : Int) (st : Bool) (bv : Value) :
    Box ((((((W.setCell ⟨g, 0, none⟩ (.int .i64 s)).setCell ⟨g, 1, none⟩ (.int .i64 t)).setCell ⟨g, 2, none⟩ (.int .i64 l)).setCell ⟨g, 3, none⟩ (.int .i64 v)).setCell ⟨g, 4, none⟩ (.bool st)).setCell ⟨g, 5, none⟩ bv) g s t l v st bv := by
  have h0 := heap_setCell_same _ _ 0 _ _ (.int .i64 s) hh
  have h1 := heap_setCell_same _ _ 1 _ _ (.int .i64 t) h0
  have h2 := heap_setCell_same _ _ 2 _ _ (.int .i64 l) h1
  have h3 := heap_setCell_same _ _ 3 _ _ (.int .i64 v) h2
  have h4 := heap_setCell_same _ _ 4 _ _ (.bool st) h3
  have h5 := heap_setCell_same _ _ 5 _ _ bv h4
  exact h5
theorem only6 {w W : World} {bs : List Nat} {g : Nat} (h : Only bs w W) (hg : g ∈ bs) (v0 v1 v2 v3 v4 v5 : Value) :
    Only bs w ((((((W.setCell ⟨g, 0, none⟩ v0).setCell ⟨g, 1, none⟩ v1).setCell ⟨g, 2, none⟩ v2).setCell ⟨g, 3, none⟩ v3).setCell ⟨g, 4, none⟩ v4).setCell ⟨g, 5, none⟩ v5) :=
  (((((h.setCell hg _).setCell hg _).setCell hg _).setCell hg _).setCell hg _).setCell hg _
theorem open6 {W : World} {g : Nat} {z0 z1 z2 z3 z4 z5 : Value} (hh : W.heap[g]? = some (.cells #[z0, z1, z2, z3, z4, z5] 31 (0, 0))) : Pack.Open W g z0 z1 z2 z3 z4 z5 := by
  simp [Pack.Open, World.cell?, World.frozen?, hh]

set_option maxHeartbeats 1000000 in
set_option maxRecDepth 100000 in
theorem apart_calls (s t l q : Int) (st : Bool) (a : Option Addr) (m cap : Nat) (L : List Nat) (w : World) (h : Arg w a m L) (hn : a = none → m = 0 ∧ cap = 0) (hm : m ≤ 1000) :
    Calls Tryz.prog 97 #[.agg #[.int .i64 s, .int .i64 t, .int .i64 l, .int .i64 q, .bool st, .slice a m cap]] w fun e w' => ∃ a' c', e = .returned (.agg #[.int .i64 s, .int .i64 t, .int .i64 l, .int .i64 q, .bool st, .slice a' m c']) ∧
      w'.ownsRow 0 5 1 (.slice a' m c') m (cellsOf L) ∧ Below w.heap.size w w' := by
  obtain ⟨i0, hii, hz0, hz1, hz2⟩ := info_parts info5
  have hl : ∀ x ∈ L, x < 256 := h.1.1
  have HA := hidden h
  have HN := hidden hn
  have HL := hidden hl
  have hw : ∀ O1 O2, Below w.heap.size w ((w.alloc O1).alloc O2) := fun O1 O2 => ((Below.refl _ _).alloc (Nat.le_refl _) _).alloc (by simp) _
  have HW := hidden hw
  clear h hn hl hw
  go_enter Tryz.func97, Tryz.ntmps97
  go_wp2_with (at_builtin; refine append_any rfl _ _ 29 rfl (w.heap.size + 2) 5 i0 (.int .u8 0) 1 1 Tryz.underlying29 hii hz0 hz1 hz2 rfl (by decide) _ 0 [] rfl (World.ownsRow_nil _ _ _ _) a m cap (cellsOf L) rfl ?al HN.out ?ac (cells_one L) ?b1 ?b2 ?b3 ?next)
  case al => rw [cellsOf_len, HA.out.2.1]; omega
  case ac => exact bys_cells (HA.out.1.below (HW.out _ _))
  case b1 => unfold maxLen; omega
  case b2 => omega
  case b3 => simp
  case next =>
    intro v1 w1 hown hgrow
    have hx : w1.heap[w.heap.size]? = some (.cells #[.int .i64 s, .int .i64 t, .int .i64 l, .int .i64 q, .bool st, .slice a m cap] 31 (0, 0)) :=
      (hgrow.block _ (by simp; omega) (by simp [Value.ownBlock])).trans ((Below.heap_alloc _ _ _ (by simp)).trans (heap_alloc_new w _))
    have hy : w1.heap[w.heap.size + 1]? = some (.cells #[.int .i64 0, .int .i64 0, .int .i64 0, .int .i64 0, .bool false, .slice none 0 0] 31 (0, 0)) := by
      refine (hgrow.block _ (by simp) (by simp [Value.ownBlock])).trans ?_
      have := heap_alloc_new (w.alloc (.cells #[.int .i64 s, .int .i64 t, .int .i64 l, .int .i64 q, .bool st, .slice a m cap] 31)) (.cells #[.int .i64 0, .int .i64 0, .int .i64 0, .int .i64 0, .bool false, .slice none 0 0] 31)
      simpa using this
    have HB1 : Hid (Below w.heap.size w w1) := (HW.out _ _).grown hgrow (by simp; omega) (by simp [Value.ownBlock])
    obtain ⟨a', c', rfl, _, _, _, hfar⟩ := own_slice (L := L) hown HL.out (by omega)
    have HO : Hid (w1.ownsRow (w.heap.size + 2) 5 1 (.slice a' m c') m (cellsOf L)) := hown
    have HX := hidden hx
    have HY := hidden hy
    have HF := hidden hfar
    clear hown hgrow hfar hx hy
    obtain ⟨⟨c0, c1, c2, c3, c4, c5⟩, f0, f1, f2, f3, f4, f5⟩ := open6 HX.out
    obtain ⟨⟨d0, d1, d2, d3, d4, d5⟩, g0, g1, g2, g3, g4, g5⟩ := open6 HY.out
    go_wp2_with fail
    have hz : (w1.setCell ⟨w.heap.size, 5, none⟩ (.slice a' m c')).heap[w.heap.size + 1]? = some (.cells #[.int .i64 0, .int .i64 0, .int .i64 0, .int .i64 0, .bool false, .slice none 0 0] 31 (0, 0)) := (Below.heap_setCell _ _ _ _ (by simp)).trans HY.out
    have ho : Only [w.heap.size, w.heap.size + 1] w1 _ := only6 (g := w.heap.size + 1) ((Only.refl _ w1).setCell (p := ⟨w.heap.size, 5, none⟩) (by simp) (.slice a' m c')) (by simp) (.int .i64 s) (.int .i64 t) (.int .i64 l) (.int .i64 q) (.bool st) (.slice a' m c')
    refine bodyPost_ret (res_pk1 (g := w.heap.size + 1) rfl rfl (box6 hz s t l q st _)) rfl ?_
    refine ⟨a', c', rfl, own_base (ho.owns HO.out ?_) (Nat.zero_le _), HB1.out.trans (ho.below HB1.out.size (by simp))⟩
    intro k hk hc
    cases a' with
    | none => simp [Value.ownBlock] at hk
    | some ad =>
      obtain ⟨g, rfl, hg⟩ := HF.out ad rfl
      simp [Value.ownBlock] at hk
      simp at hc
      omega
end Go.Proofs.YtijfocggdjjnjaiGreatDoor.Ring

