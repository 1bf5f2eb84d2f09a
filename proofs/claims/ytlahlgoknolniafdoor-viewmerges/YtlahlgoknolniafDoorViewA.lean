/-
  Rows of members and of numbers in memory; an error of a number held against nil; what the functions Check, over and copyOf of package view return. They change nothing that was there.
-/
import Derived.Test.YtlahlgoknolniafDoorViewMath
import Derived.Test.YtlahlgoknolniafDoorMem
import Derived.Test.YtlahlgoknolniafDoorRows
import Derived.WalkKit
import Derived.ProofKit
import Derived.OpenShut
import Derived.ChangeOld
import Derived.Below
import Derived.Deep.QuietTactic
import Derived.BigQuiet
import Derived.Laws.AppendOwnNone
import Derived.WalkSmall
import Derived.WalkSpells
import Derived.LoopTactic
import Derived.Deep.AppendLies
import Derived.Deep.LoopGhost
namespace Go.Proofs.YtlahlgoknolniafDoor.View
open Go.ChangeShapes Go.WideShapes Go.ChangeAt Go.RowKit Go.Proofs.YtlahlgoknolniafDoor.Mem Go.Proofs.YtlahlgoknolniafDoor.VM
set_option linter.unusedVariables false

/-- what is told as the error of number e -/
def errv (e : Nat) : Value := if e = 0 then .nilIface else .iface 60 (.int .i64 (e : Int))
theorem errv_zero : errv 0 = .nilIface := rfl
theorem errv_pos {e : Nat} (h : e ≠ 0) : errv e = .iface 60 (.int .i64 (e : Int)) := by simp [errv, h]
theorem cmp_eq (f : Nat) (w : World) : (binOp .eql 25 (errv f) .nilIface).run Tryd.prog w = .ok (.bool (decide (f = 0))) w := by
  by_cases p : f = 0
  · rw [p, errv_zero]; simp [go_sem]
  · rw [errv_pos p]; simp [go_sem, p]
theorem cmp_ne (f : Nat) (w : World) : (binOp .neq 25 (errv f) .nilIface).run Tryd.prog w = .ok (.bool (!decide (f = 0))) w := by
  by_cases p : f = 0
  · rw [p, errv_zero]; simp [go_sem]
  · rw [errv_pos p]; simp [go_sem, p]
theorem grd_eq (f : Nat) (o1 : Operand) (w : World) : (eqGuard .eql 25 o1 (.const .nilIface) (errv f) .nilIface).run Tryd.prog w = .ok () w := by
  by_cases p : f = 0
  · rw [p, errv_zero]; unfold eqGuard; simp
  · rw [errv_pos p]; simp [go_sem]
theorem grd_ne (f : Nat) (o1 : Operand) (w : World) : (eqGuard .neq 25 o1 (.const .nilIface) (errv f) .nilIface).run Tryd.prog w = .ok () w := by
  by_cases p : f = 0
  · rw [p, errv_zero]; unfold eqGuard; simp
  · rw [errv_pos p]; simp [go_sem]
theorem info3 : (Tryd.prog.info? 3).map (fun i => (i.zero, i.size, i.bytes)) = some (some (.int .i64 0), 1, 8) := by kernel_rfl
theorem infoMB : (Tryd.prog.info? 48).map (fun i => (i.zero, i.size, i.bytes)) = some (some (.agg #[.int .i64 0, .int .i64 0, .bool false]), 3, 24) := by kernel_rfl
theorem below_drewN' {w wr : World} (h : Below w.heap.size w wr) (q : Nat) : Below w.heap.size w (wr.drewN q) := ⟨h.os, h.tape, h.output, h.size, h.block⟩
theorem below_alloc {w wr : World} (h : Below w.heap.size w wr) (o : Obj) : Below w.heap.size w (wr.alloc o) := h.alloc h.size o
theorem own_base {w : World} {base base' e size n : Nat} {v : Value} {xs : List Value} (h : w.ownsRow base e size v n xs) (hb : base' ≤ base) : w.ownsRow base' e size v n xs := by
  refine ⟨h.1, ?_⟩
  rcases h.2 with h | ⟨g, cap, cur, e, hg, r⟩
  · exact .inl h
  · exact .inr ⟨g, cap, cur, e, Nat.le_trans hb hg, r⟩
theorem own_below {w w' : World} {base e sz n : Nat} {v : Value} {xs : List Value} (h : w.ownsRow base e sz v n xs) (hb : Below w.heap.size w w') : w'.ownsRow base e sz v n xs := by
  refine ⟨h.1, ?_⟩
  rcases h.2 with hl | ⟨g, cap, cur, rfl, hg, hbl, rest⟩
  · exact .inl hl
  · exact .inr ⟨g, cap, cur, rfl, hg, (hb.block g (lt_of_block hbl)).trans hbl, rest⟩

/-- the cells of numbers -/
def ic (L : List Int) : List Value := L.map (Value.int .i64)
theorem ic_len (L : List Int) : (ic L).length = L.length := by simp [ic]
theorem ic_app (L K : List Int) : ic (L ++ K) = ic L ++ ic K := by simp [ic]
theorem ic_get (L : List Int) (j : Nat) (h : j < L.length) : (ic L)[j]? = some (.int .i64 (L.getD j 0)) := by
  simp [ic, List.getD_eq_getElem?_getD, List.getElem?_eq_getElem h]
/-- the numbers L lie in w from the address on -/
def Ints (w : World) (a : Option Addr) (L : List Int) : Prop := ∀ j, j < L.length → ∃ b o, a = some ⟨b, o, none⟩ ∧ w.cell? ⟨b, o + j, none⟩ = some (.int .i64 (L.getD j 0))
def IArg (w : World) (a : Option Addr) (n : Nat) (L : List Int) : Prop := Ints w a L ∧ L.length = n ∧ n ≤ 9223372036854775807
theorem IArg.below {w w' : World} {a : Option Addr} {n : Nat} {L : List Int} (h : IArg w a n L) (hb : Below w.heap.size w w') : IArg w' a n L := by
  refine ⟨fun j hj => ?_, h.2⟩
  obtain ⟨b, o, e, hc⟩ := h.1 j hj
  exact ⟨b, o, e, (hb.cell (p := ⟨b, o + j, none⟩) (World.block_lt_of_cell? w ⟨b, o + j, none⟩ hc)).trans hc⟩
theorem IArg.nil (w : World) (a : Option Addr) : IArg w a 0 [] := ⟨fun j h => absurd h (by simp), rfl, by omega⟩
theorem IArg.at {w : World} {a : Option Addr} {n : Nat} {L : List Int} (h : IArg w a n L) (hn : 0 < n) : ∃ b o, a = some ⟨b, o, none⟩ ∧ ∀ j, j < n → w.cell? ⟨b, o + j, none⟩ = some (.int .i64 (L.getD j 0)) := by
  obtain ⟨b, o, e, _⟩ := h.1 0 (by have := h.2.1; omega)
  refine ⟨b, o, e, fun j hj => ?_⟩
  obtain ⟨b', o', e', hc⟩ := h.1 j (by have := h.2.1; omega)
  rw [e, Option.some.injEq, Addr.mk.injEq] at e'
  obtain ⟨rfl, rfl, _⟩ := e'
  exact hc
/-- what is owned is a slice of these numbers -/
theorem own_ints {w : World} {base n : Nat} {v : Value} {L : List Int} (h : w.ownsRow base 3 1 v n (ic L)) (hn : n ≤ 9223372036854775807) :
    ∃ a cap, v = .slice a n cap ∧ IArg w a n L ∧ (a = none → n = 0 ∧ cap = 0) ∧ n ≤ cap ∧ ∀ ad, a = some ad → ∃ g, ad = ⟨g, 0, none⟩ ∧ base ≤ g ∧ g < w.heap.size := by
  have hl : L.length = n := by have := h.1; rw [ic_len] at this; omega
  rcases h.2 with ⟨rfl, rfl⟩ | ⟨g, cap, cur, rfl, hg, hb, hc, hm, hs, ht⟩
  · have : L = [] := List.eq_nil_of_length_eq_zero hl
    subst this
    exact ⟨none, 0, rfl, IArg.nil _ _, fun _ => ⟨rfl, rfl⟩, Nat.le_refl _, fun ad e => by simp at e⟩
  · refine ⟨_, cap, rfl, ⟨fun j hj => ⟨g, 0, rfl, ?_⟩, hl, hn⟩, fun e => by simp at e, hc, fun ad e => ⟨g, by simpa using e.symm, hg, lt_of_block hb⟩⟩
    rw [Nat.zero_add, h.cellAt j (by omega), ic_get L j hj]

/-- a member's value -/
def mv (m : Mb) : Value := .agg #[.int .i64 m.n, .int .i64 m.v, .bool m.u]
/-- the cells of members -/
def mc (l : List Mb) : List Value := l.flatMap fun m => [.int .i64 m.n, .int .i64 m.v, .bool m.u]
theorem mc_len : ∀ l : List Mb, (mc l).length = l.length * 3
  | [] => rfl
  | p :: l => by have := mc_len l; simp [mc] at this ⊢; omega
theorem mc_app (l k : List Mb) : mc (l ++ k) = mc l ++ mc k := by simp [mc]
theorem mc_cons (m : Mb) (l : List Mb) : mc (m :: l) = [.int .i64 m.n, .int .i64 m.v, .bool m.u] ++ mc l := rfl
theorem mc_one (m : Mb) : mc [m] = [.int .i64 m.n, .int .i64 m.v, .bool m.u] := rfl
theorem mc_cell (l : List Mb) : ∀ u ∈ mc l, u.oneCell' = true := by
  intro u hu
  simp only [mc, List.mem_flatMap] at hu
  obtain ⟨m, _, hu⟩ := hu
  simp at hu
  rcases hu with rfl | rfl | rfl <;> rfl
theorem mc_take : ∀ (l : List Mb) (i : Nat), (mc l).take (i * 3) = mc (l.take i)
  | [], i => by simp [mc]
  | p :: l, 0 => by simp [mc]
  | p :: l, i + 1 => by
    rw [List.take_succ_cons, mc_cons, mc_cons, show (i + 1) * 3 = i * 3 + 1 + 1 + 1 by omega, ← mc_take l i]
    rfl
theorem mc_drop : ∀ (l : List Mb) (i : Nat), (mc l).drop (i * 3) = mc (l.drop i)
  | [], i => by simp [mc]
  | p :: l, 0 => by simp [mc]
  | p :: l, i + 1 => by
    rw [List.drop_succ_cons, mc_cons, show (i + 1) * 3 = i * 3 + 1 + 1 + 1 by omega, ← mc_drop l i]
    rfl
theorem mc_get : ∀ (l : List Mb) (j : Nat), j < l.length → (mc l)[j * 3]? = some (.int .i64 (l.getD j zz).n) ∧ (mc l)[j * 3 + 1]? = some (.int .i64 (l.getD j zz).v) ∧ (mc l)[j * 3 + 2]? = some (.bool (l.getD j zz).u)
  | [], j, h => absurd h (by simp)
  | p :: l, 0, _ => ⟨rfl, rfl, rfl⟩
  | p :: l, j + 1, h => by
    have := mc_get l j (by simpa using h)
    have e : mc (p :: l) = .int .i64 p.n :: .int .i64 p.v :: .bool p.u :: mc l := rfl
    rw [e, show (j + 1) * 3 = j * 3 + 1 + 1 + 1 by omega]
    simpa using this
/-- the members l lie in w from the address on -/
def Mbs (w : World) (a : Option Addr) (l : List Mb) : Prop := ∀ j, j < l.length → ∃ b o, a = some ⟨b, o, none⟩ ∧ w.cell? ⟨b, o + j * 3, none⟩ = some (.int .i64 (l.getD j zz).n) ∧ w.cell? ⟨b, o + j * 3 + 1, none⟩ = some (.int .i64 (l.getD j zz).v) ∧ w.cell? ⟨b, o + j * 3 + 2, none⟩ = some (.bool (l.getD j zz).u)
def MArg (w : World) (a : Option Addr) (n : Nat) (l : List Mb) : Prop := Mbs w a l ∧ l.length = n ∧ n ≤ 9223372036854775807
theorem MArg.below {w w' : World} {a : Option Addr} {n : Nat} {l : List Mb} (h : MArg w a n l) (hb : Below w.heap.size w w') : MArg w' a n l := by
  refine ⟨fun j hj => ?_, h.2⟩
  obtain ⟨b, o, e, hc, hd, he⟩ := h.1 j hj
  exact ⟨b, o, e, (hb.cell (p := ⟨b, o + j * 3, none⟩) (World.block_lt_of_cell? w _ hc)).trans hc, (hb.cell (p := ⟨b, o + j * 3 + 1, none⟩) (World.block_lt_of_cell? w _ hd)).trans hd, (hb.cell (p := ⟨b, o + j * 3 + 2, none⟩) (World.block_lt_of_cell? w _ he)).trans he⟩
theorem MArg.nil (w : World) (a : Option Addr) : MArg w a 0 [] := ⟨fun j h => absurd h (by simp), rfl, by omega⟩
theorem MArg.at {w : World} {a : Option Addr} {n : Nat} {l : List Mb} (h : MArg w a n l) (hn : 0 < n) : ∃ b o, a = some ⟨b, o, none⟩ ∧ b < w.heap.size ∧ ∀ j, j < n → w.cell? ⟨b, o + j * 3, none⟩ = some (.int .i64 (l.getD j zz).n) ∧ w.cell? ⟨b, o + j * 3 + 1, none⟩ = some (.int .i64 (l.getD j zz).v) ∧ w.cell? ⟨b, o + j * 3 + 2, none⟩ = some (.bool (l.getD j zz).u) := by
  obtain ⟨b, o, e, h0, _⟩ := h.1 0 (by have := h.2.1; omega)
  refine ⟨b, o, e, World.block_lt_of_cell? w _ h0, fun j hj => ?_⟩
  obtain ⟨b', o', e', hc⟩ := h.1 j (by have := h.2.1; omega)
  rw [e, Option.some.injEq, Addr.mk.injEq] at e'
  obtain ⟨rfl, rfl, _⟩ := e'
  exact hc
theorem own_mbs {w : World} {base n : Nat} {v : Value} {l : List Mb} (h : w.ownsRow base 48 3 v n (mc l)) (hn : n ≤ 9223372036854775807) :
    ∃ a cap, v = .slice a n cap ∧ MArg w a n l ∧ (a = none → n = 0 ∧ cap = 0) ∧ n ≤ cap ∧ ∀ ad, a = some ad → ∃ g, ad = ⟨g, 0, none⟩ ∧ base ≤ g ∧ g < w.heap.size := by
  have hl : l.length = n := by have := h.1; rw [mc_len] at this; omega
  rcases h.2 with ⟨rfl, rfl⟩ | ⟨g, cap, cur, rfl, hg, hb, hc, hm, hs, ht⟩
  · have : l = [] := List.eq_nil_of_length_eq_zero hl
    subst this
    exact ⟨none, 0, rfl, MArg.nil _ _, fun _ => ⟨rfl, rfl⟩, Nat.le_refl _, fun ad e => by simp at e⟩
  · refine ⟨_, cap, rfl, ⟨fun j hj => ⟨g, 0, rfl, ?_, ?_, ?_⟩, hl, hn⟩, fun e => by simp at e, hc, fun ad e => ⟨g, by simpa using e.symm, hg, lt_of_block hb⟩⟩
    · rw [Nat.zero_add, h.cellAt (j * 3) (by omega), (mc_get l j hj).1]
    · rw [Nat.zero_add, h.cellAt (j * 3 + 1) (by omega), (mc_get l j hj).2.1]
    · rw [Nat.zero_add, h.cellAt (j * 3 + 2) (by omega), (mc_get l j hj).2.2]
theorem own_len {w : World} {base n : Nat} {v : Value} {l : List Mb} (h : w.ownsRow base 48 3 v n (mc l)) : l.length = n := by have := h.1; rw [mc_len] at this; omega
theorem mbs_cells {w : World} {a : Option Addr} {n : Nat} {l : List Mb} (h : MArg w a n l) : ∀ ad, a = some ad → ∀ j u, (mc l)[j]? = some u → w.cell? (ad.add j) = some u := by
  intro ad he j u hu
  have hj : j < l.length * 3 := by
    rcases Nat.lt_or_ge j (l.length * 3) with h' | h'
    · exact h'
    · rw [List.getElem?_eq_none (by rw [mc_len]; exact h')] at hu; simp at hu
  obtain ⟨b, o, e, h0, h1, h2⟩ := h.1 (j / 3) (by omega)
  obtain ⟨g0, g1, g2⟩ := mc_get l (j / 3) (by omega)
  rw [he, Option.some.injEq] at e
  rw [e, add_plain]
  rcases (show j = j / 3 * 3 ∨ j = j / 3 * 3 + 1 ∨ j = j / 3 * 3 + 2 by omega) with q | q | q
  · rw [q, h0, ← g0, ← hu, ← q]
  · rw [q, ← Nat.add_assoc, h1, ← g1, ← hu, ← q]
  · rw [q, ← Nat.add_assoc, h2, ← g2, ← hu, ← q]
/-- a block that holds a member -/
def MBox (w : World) (B : Nat) (m : Mb) : Prop := w.heap[B]? = some (.cells #[.int .i64 m.n, .int .i64 m.v, .bool m.u] 48 (0, 0))
theorem MBox.new (w : World) (m : Mb) : MBox (w.alloc (.cells #[.int .i64 m.n, .int .i64 m.v, .bool m.u] 48)) w.heap.size m := heap_alloc_new w _
theorem MBox.lt {w : World} {B : Nat} {m : Mb} (h : MBox w B m) : B < w.heap.size := lt_of_block h
theorem MBox.cells {w : World} {B : Nat} {m : Mb} (h : MBox w B m) : w.cell? ⟨B, 0, none⟩ = some (.int .i64 m.n) ∧ w.cell? ⟨B, 1, none⟩ = some (.int .i64 m.v) ∧ w.cell? ⟨B, 2, none⟩ = some (.bool m.u) := by
  unfold MBox at h
  refine ⟨?_, ?_, ?_⟩ <;> simp [World.cell?, h]
theorem MBox.free {w : World} {B : Nat} {m : Mb} (h : MBox w B m) (j : Nat) : w.frozen? ⟨B, j, none⟩ = false := by
  unfold MBox at h
  simp [World.frozen?, h]
theorem MBox.below {w w' : World} {B C : Nat} {m : Mb} (h : MBox w B m) (hb : Below C w w') (hB : B < C) : MBox w' B m := (hb.block B hB).trans h
theorem MBox.alloc {w : World} {B : Nat} {m : Mb} (h : MBox w B m) (O : Obj) : MBox (w.alloc O) B m := (Below.heap_alloc _ _ _ h.lt).trans h

theorem drop_cons {L : List Mb} {j : Nat} (h : j < L.length) : L.drop j = L.getD j zz :: L.drop (j + 1) := by
  rw [List.drop_eq_getElem_cons h, List.getD_eq_getElem?_getD, List.getElem?_eq_getElem h]
  rfl

theorem isNode_calls (x : Int) (w : World) : Calls Tryd.prog 27 #[.int .i64 x] w fun e w' => e = .returned (.bool (decide (0 ≤ x ∧ x ≤ 15))) ∧ w' = w := by
  by_cases h : 0 ≤ x
  · have d : decide (0 ≤ x) = true := by simpa using h
    by_cases h2 : x < 16
    · have d2 : decide (x < 16) = true := by simpa using h2
      have HE : Hid (decide (0 ≤ x ∧ x ≤ 15) = true) := decide_eq_true (by omega)
      generalize decide (0 ≤ x ∧ x ≤ 15) = r at *
      go_enter Tryd.func27, Tryd.ntmps27
      go_wp2_with fail
      go_ret
      exact ⟨by rw [HE.out]; rfl, rfl⟩
    · have d2 : decide (x < 16) = false := by simpa using h2
      have HE : Hid (decide (0 ≤ x ∧ x ≤ 15) = false) := decide_eq_false (by omega)
      generalize decide (0 ≤ x ∧ x ≤ 15) = r at *
      go_enter Tryd.func27, Tryd.ntmps27
      go_wp2_with fail
      go_ret
      exact ⟨by rw [HE.out]; rfl, rfl⟩
  · have d : decide (0 ≤ x) = false := by simpa using h
    have HE : Hid (decide (0 ≤ x ∧ x ≤ 15) = false) := decide_eq_false (by omega)
    generalize decide (0 ≤ x ∧ x ≤ 15) = r at *
    go_enter Tryd.func27, Tryd.ntmps27
    go_wp2_with fail
    go_ret
    exact ⟨by rw [HE.out]; rfl, rfl⟩
set_option maxHeartbeats 1000000 in
set_option maxRecDepth 100000 in
theorem over_calls (m x : Mb) (w : World) : Calls Tryd.prog 31 #[mv m, mv x] w fun e w' => e = .returned (.bool (ov m x)) ∧ Below w.heap.size w w' := by
  obtain ⟨a, b, c⟩ := m
  obtain ⟨d, e, f⟩ := x
  have HB : Hid (∀ O1 O2, Below w.heap.size w ((w.alloc O1).alloc O2)) := fun O1 O2 => below_alloc (below_alloc (Below.refl _ _) _) _
  by_cases h : b = e
  · subst h
    cases f with
    | true =>
      have HE : Hid (ov ⟨a, b, c⟩ ⟨d, b, true⟩ = !c) := by unfold Hid; simp [ov]
      generalize ov ⟨a, b, c⟩ ⟨d, b, true⟩ = r at *
      unfold mv
      go_enter Tryd.func31, Tryd.ntmps31
      go_wp2_with fail
      go_ret
      exact ⟨by rw [HE.out]; rfl, HB.out _ _⟩
    | false =>
      have HE : Hid (ov ⟨a, b, c⟩ ⟨d, b, false⟩ = false) := by unfold Hid; simp [ov]
      generalize ov ⟨a, b, c⟩ ⟨d, b, false⟩ = r at *
      unfold mv
      go_enter Tryd.func31, Tryd.ntmps31
      go_wp2_with fail
      go_ret
      exact ⟨by rw [HE.out]; rfl, HB.out _ _⟩
  · have HE : Hid (ov ⟨a, b, c⟩ ⟨d, e, f⟩ = decide (e < b)) := by unfold Hid; simp [ov, h]
    generalize ov ⟨a, b, c⟩ ⟨d, e, f⟩ = r at *
    have hne : (b != e) = true := by simpa using h
    unfold mv
    go_enter Tryd.func31, Tryd.ntmps31
    go_wp2_with fail
    go_ret
    exact ⟨by rw [HE.out]; rfl, HB.out _ _⟩
set_option maxHeartbeats 1000000 in
set_option maxRecDepth 100000 in
theorem copyOf_calls (a : Option Addr) (n cap : Nat) (L : List Mb) (w : World) (h : MArg w a n L) (hn : a = none → n = 0 ∧ cap = 0) (hb : n ≤ 1000000) :
    Calls Tryd.prog 28 #[.slice a n cap] w fun e w' => ∃ v', e = .returned v' ∧ w'.ownsRow w.heap.size 48 3 v' n (mc L) ∧ Below w.heap.size w w' := by
  obtain ⟨i0, hii, hz0, hz1, hz2⟩ := info_parts infoMB
  have hl := h.2.1
  have HH := hidden h
  have HC := hidden (mbs_cells h)
  clear h
  go_enter Tryd.func28, Tryd.ntmps28
  go_wp2_with (at_builtin; refine append_any rfl _ _ 43 rfl w.heap.size 48 i0 _ 3 24 Tryd.underlying43 hii hz0 hz1 hz2 rfl (by decide) (.slice none 0 0) 0 [] rfl (World.ownsRow_nil _ _ _ _) a n cap (mc L) rfl (by rw [mc_len, hl]) hn HC.out (mc_cell L) (by unfold maxLen; omega) (by omega) (Nat.le_refl _) ?_)
  intro v' w' ho hg
  have HO : Hid (w'.ownsRow w.heap.size 48 3 v' n (mc L)) := by first | exact ho | (rw [Nat.zero_add] at ho; exact ho)
  have HB : Hid (Below w.heap.size w w') := (Below.refl _ _).grown hg (Nat.le_refl _) (fun j hj => by simp [Value.ownBlock] at hj)
  clear ho hg
  go_wp2_with fail
  go_ret
  exact ⟨v', rfl, HO.out, HB.out⟩

set_option maxHeartbeats 2000000 in
set_option maxRecDepth 100000 in
theorem check_calls (a : Option Addr) (n cap : Nat) (L : List Mb) (w : World) (h : MArg w a n L) :
    Calls Tryd.prog 14 #[.slice a n cap] w fun e w' => e = .returned (errv (vf L)) ∧ Below w.heap.size w w' := by
  have hl := h.2.1
  have hn := h.2.2
  have HA := hidden h
  clear h
  by_cases h16 : 16 < n
  · have HE : Hid (vf L = 4) := by unfold Hid vf; rw [if_pos (by omega)]
    generalize vf L = f at *
    have d : decide (16 < (n : Int)) = true := by simp; omega
    go_enter Tryd.func14, Tryd.ntmps14
    go_wp2_with fail
    go_ret
    exact ⟨by rw [HE.out]; rfl, Below.refl _ _⟩
  · have HE : Hid (ck (-1) (L.drop 0) = vf L) := by unfold Hid vf; rw [if_neg (by omega), List.drop_zero]
    generalize vf L = f at *
    have d : decide (16 < (n : Int)) = false := by simp; omega
    go_enter Tryd.func14, Tryd.ntmps14
    go_wp2_with fail
    go_loopg [3, 12] n (fun g x y wr => ∃ (j : Nat) (ah : Int), j + g = n ∧ x = .int .i64 ah ∧ y = .int .i64 (j : Int) ∧ Hid (ck ah (L.drop j) = f) ∧ Hid (Below w.heap.size w wr))
    case atStart => exact ⟨0, -1, by omega, rfl, rfl, HE, Below.refl _ _⟩
    case round =>
      obtain ⟨j, ah, hjg, rfl, rfl, HK, HW⟩ := hrel
      by_cases hj : j < n
      · have hjz : (j : Int) < (n : Int) := by omega
        obtain ⟨b, o, rfl, hbl, hcs⟩ := (HA.out.below HW.out).at (by omega)
        obtain ⟨c0, c1, c2⟩ := hcs j hj
        have hk := HK.out
        rw [drop_cons (by omega), ck] at hk
        obtain ⟨m, hm⟩ : ∃ m, L.getD j zz = m := ⟨_, rfl⟩
        rw [hm] at c0 c1 c2 hk
        clear hm hcs HK
        obtain ⟨x, y, u⟩ := m
        simp only at c0 c1 c2
        have HB : Hid (∀ O, Below w.heap.size w (wr.alloc O)) := fun O => below_alloc HW.out O
        have C := hidden (fun w => isNode_calls x w)
        by_cases h1 : 0 ≤ x ∧ x ≤ 15
        · rw [decide_eq_true h1] at C
          by_cases h2 : y < 1
          · rw [if_pos (by simp [okm]; omega)] at hk
            have HK := hidden hk
            clear hk
            have d2 : decide (y < 1) = true := by simpa using h2
            go_wp2_with fail
            refine (C.out _).mono ?_
            rintro e w1 ⟨rfl, rfl⟩
            go_wp2_with fail
            go_ret
            exact ⟨by rw [← HK.out]; rfl, HB.out _⟩
          · have d2 : decide (y < 1) = false := by simpa using h2
            by_cases h3 : 1000000 < y
            · rw [if_pos (by simp [okm]; omega)] at hk
              have HK := hidden hk
              clear hk
              have d3 : decide (1000000 < y) = true := by simpa using h3
              go_wp2_with fail
              refine (C.out _).mono ?_
              rintro e w1 ⟨rfl, rfl⟩
              go_wp2_with fail
              go_ret
              exact ⟨by rw [← HK.out]; rfl, HB.out _⟩
            · have d3 : decide (1000000 < y) = false := by simpa using h3
              rw [if_neg (by simp [okm]; omega)] at hk
              by_cases h4 : x ≤ ah
              · rw [if_pos h4] at hk
                have HK := hidden hk
                clear hk
                have d4 : decide (x ≤ ah) = true := by simpa using h4
                go_wp2_with fail
                refine (C.out _).mono ?_
                rintro e w1 ⟨rfl, rfl⟩
                go_wp2_with fail
                go_ret
                exact ⟨by rw [← HK.out]; rfl, HB.out _⟩
              · rw [if_neg h4] at hk
                have HK : Hid (ck x (L.drop (j + 1)) = f) := hk
                clear hk
                have d4 : decide (x ≤ ah) = false := by simpa using h4
                go_wp2_with fail
                refine (C.out _).mono ?_
                rintro e w1 ⟨rfl, rfl⟩
                go_wp2_with fail
                go_roundg (n - (j + 1))
                case measure => omega
                case rel => exact ⟨j + 1, x, by omega, rfl, by go_num, HK, hidden (HB.out _)⟩
        · rw [decide_eq_false h1] at C
          rw [if_pos (by simp [okm]; omega)] at hk
          have HK := hidden hk
          clear hk
          go_wp2_with fail
          refine (C.out _).mono ?_
          rintro e w1 ⟨rfl, rfl⟩
          go_wp2_with fail
          go_ret
          exact ⟨by rw [← HK.out]; rfl, HB.out _⟩
      · have hjz : ¬ (j : Int) < (n : Int) := by omega
        have hk := HK.out
        rw [List.drop_eq_nil_of_le (by omega), ck] at hk
        have HK := hidden hk
        clear hk
        go_wp2_with fail
        go_ret
        exact ⟨by rw [← HK.out]; rfl, HW.out⟩
end Go.Proofs.YtlahlgoknolniafDoor.View
