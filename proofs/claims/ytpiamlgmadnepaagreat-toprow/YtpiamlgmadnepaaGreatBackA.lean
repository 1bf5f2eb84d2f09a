/-
  Rows of numbers and of pairs in memory; what package back's inner functions and the library's ContainsFunc, Clone, Sort and Compact return of rows of numbers, and what they make. They change nothing that was there.
-/
import Derived.Test.YtpiamlgmadnepaaGreatBackMath
import Derived.Test.YtpiamlgmadnepaaGreatMem
import Derived.Test.YtpiamlgmadnepaaGreatShelfB
import Derived.Test.YtpiamlgmadnepaaGreatRows
import Derived.WalkKit
import Derived.ProofKit
import Derived.OpenShut
import Derived.ChangeOld
import Derived.Below
import Derived.Deep.QuietTactic
import Derived.BigQuiet
import Derived.Laws.AppendOwnNone
import Derived.Sort.OwnSortedInts
import Derived.WalkSmall
import Derived.WalkSpells
import Derived.LoopTactic
import Derived.Laws.BitsAllLaws
namespace Go.Proofs.YtpiamlgmadnepaaGreat.Back
open Go.ChangeShapes Go.WideShapes Go.ChangeAt Go.RowKit Go.Sort Go.Lib Go.Proofs.YtpiamlgmadnepaaGreat.BM Go.Proofs.YtpiamlgmadnepaaGreat.Mem
set_option linter.unusedVariables false

/-- what is told as the error of number e -/
def errv (e : Nat) : Value := if e = 0 then .nilIface else .iface 101 (.int .i64 (e : Int))
theorem errv_zero : errv 0 = .nilIface := rfl
theorem errv_pos {e : Nat} (h : e ≠ 0) : errv e = .iface 101 (.int .i64 (e : Int)) := by simp [errv, h]
theorem info3 : (Tryz.prog.info? 3).map (fun i => (i.zero, i.size, i.bytes)) = some (some (.int .i64 0), 1, 8) := by kernel_rfl
theorem infoPR : (Tryz.prog.info? 297).map (fun i => (i.zero, i.size, i.bytes)) = some (some (.agg #[.int .i64 0, .int .i64 0]), 2, 16) := by kernel_rfl

/-- the cells of numbers -/
def ic (L : List Int) : List Value := L.map (Value.int .i64)
theorem ic_len (L : List Int) : (ic L).length = L.length := by simp [ic]
theorem ic_get (L : List Int) (j : Nat) (h : j < L.length) : (ic L)[j]? = some (.int .i64 (L.getD j 0)) := by
  simp [ic, List.getD_eq_getElem?_getD, List.getElem?_eq_getElem h]
/-- the numbers L lie in w from the address on -/
def Ints (w : World) (a : Option Addr) (L : List Int) : Prop := ∀ j, j < L.length → ∃ b o, a = some ⟨b, o, none⟩ ∧ w.cell? ⟨b, o + j, none⟩ = some (.int .i64 (L.getD j 0))
def IArg (w : World) (a : Option Addr) (n : Nat) (L : List Int) : Prop := Ints w a L ∧ L.length = n ∧ n ≤ 9223372036854775807
theorem IArg.below {w w' : World} {a : Option Addr} {n : Nat} {L : List Int} (h : IArg w a n L) (hb : Below w.heap.size w w') : IArg w' a n L := by
  refine ⟨fun j hj => ?_, h.2⟩
  obtain ⟨b, o, e, hc⟩ := h.1 j hj
  exact ⟨b, o, e, (hb.cell (p := ⟨b, o + j, none⟩) (World.block_lt_of_cell? w ⟨b, o + j, none⟩ hc)).trans hc⟩
theorem IArg.nil (w : World) (a : Option Addr) : IArg w a 0 [] := ⟨fun j h => absurd h (by simp), rfl, by omega⟩
theorem IArg.at {w : World} {a : Option Addr} {n : Nat} {L : List Int} (h : IArg w a n L) (hn : 0 < n) : ∃ b o, a = some ⟨b, o, none⟩ ∧ ∀ j, j < n → w.cell? ⟨b, o + j, none⟩ = some (.int .i64 (L.getD j 0)) := by
  obtain ⟨b, o, e, _⟩ := h.1 0 (by have := h.2.1; omega)
  refine ⟨b, o, e, fun j hj => ?_⟩
  obtain ⟨b', o', e', hc⟩ := h.1 j (by have := h.2.1; omega)
  rw [e, Option.some.injEq, Addr.mk.injEq] at e'
  obtain ⟨rfl, rfl, _⟩ := e'
  exact hc
/-- what is owned is a slice of these numbers -/
theorem own_ints {w : World} {base n : Nat} {v : Value} {L : List Int} (h : w.ownsRow base 3 1 v n (ic L)) (hn : n ≤ 9223372036854775807) :
    ∃ a cap, v = .slice a n cap ∧ IArg w a n L ∧ (a = none → n = 0 ∧ cap = 0) ∧ n ≤ cap ∧ ∀ ad, a = some ad → ∃ g, ad = ⟨g, 0, none⟩ ∧ base ≤ g ∧ g < w.heap.size := by
  have hl : L.length = n := by have := h.1; rw [ic_len] at this; omega
  rcases h.2 with ⟨rfl, rfl⟩ | ⟨g, cap, cur, rfl, hg, hb, hc, hm, hs, ht⟩
  · have : L = [] := List.eq_nil_of_length_eq_zero hl
    subst this
    exact ⟨none, 0, rfl, IArg.nil _ _, fun _ => ⟨rfl, rfl⟩, Nat.le_refl _, fun ad e => by simp at e⟩
  · refine ⟨_, cap, rfl, ⟨fun j hj => ⟨g, 0, rfl, ?_⟩, hl, hn⟩, fun e => by simp at e, hc, fun ad e => ⟨g, by simpa using e.symm, hg, lt_of_block hb⟩⟩
    rw [Nat.zero_add, h.cellAt j (by omega), ic_get L j hj]

/-- the cells of pairs -/
def pc (l : List (Int × Int)) : List Value := l.flatMap fun p => [.int .i64 p.1, .int .i64 p.2]
theorem pc_len : ∀ l : List (Int × Int), (pc l).length = l.length * 2
  | [] => rfl
  | p :: l => by have := pc_len l; simp [pc] at this ⊢; omega
theorem pc_app (l k : List (Int × Int)) : pc (l ++ k) = pc l ++ pc k := by simp [pc]
theorem pc_one (p : Int × Int) : pc [p] = [.int .i64 p.1, .int .i64 p.2] := rfl
theorem pc_get : ∀ (l : List (Int × Int)) (j : Nat), j < l.length → (pc l)[j * 2]? = some (.int .i64 (l.getD j (0, 0)).1) ∧ (pc l)[j * 2 + 1]? = some (.int .i64 (l.getD j (0, 0)).2)
  | [], j, h => absurd h (by simp)
  | p :: l, 0, _ => ⟨rfl, rfl⟩
  | p :: l, j + 1, h => by
    have := pc_get l j (by simpa using h)
    have e : pc (p :: l) = .int .i64 p.1 :: .int .i64 p.2 :: pc l := rfl
    rw [e, show (j + 1) * 2 = j * 2 + 1 + 1 by omega]
    simpa using this
/-- the pairs l lie in w from the address on -/
def Prs (w : World) (a : Option Addr) (l : List (Int × Int)) : Prop := ∀ j, j < l.length → ∃ b o, a = some ⟨b, o, none⟩ ∧ w.cell? ⟨b, o + j * 2, none⟩ = some (.int .i64 (l.getD j (0, 0)).1) ∧ w.cell? ⟨b, o + j * 2 + 1, none⟩ = some (.int .i64 (l.getD j (0, 0)).2)
def PArg (w : World) (a : Option Addr) (n : Nat) (l : List (Int × Int)) : Prop := Prs w a l ∧ l.length = n ∧ n ≤ 9223372036854775807
theorem PArg.below {w w' : World} {a : Option Addr} {n : Nat} {l : List (Int × Int)} (h : PArg w a n l) (hb : Below w.heap.size w w') : PArg w' a n l := by
  refine ⟨fun j hj => ?_, h.2⟩
  obtain ⟨b, o, e, hc, hd⟩ := h.1 j hj
  exact ⟨b, o, e, (hb.cell (p := ⟨b, o + j * 2, none⟩) (World.block_lt_of_cell? w _ hc)).trans hc, (hb.cell (p := ⟨b, o + j * 2 + 1, none⟩) (World.block_lt_of_cell? w _ hd)).trans hd⟩
theorem PArg.nil (w : World) (a : Option Addr) : PArg w a 0 [] := ⟨fun j h => absurd h (by simp), rfl, by omega⟩
theorem PArg.at {w : World} {a : Option Addr} {n : Nat} {l : List (Int × Int)} (h : PArg w a n l) (hn : 0 < n) : ∃ b o, a = some ⟨b, o, none⟩ ∧ b < w.heap.size ∧ ∀ j, j < n → w.cell? ⟨b, o + j * 2, none⟩ = some (.int .i64 (l.getD j (0, 0)).1) ∧ w.cell? ⟨b, o + j * 2 + 1, none⟩ = some (.int .i64 (l.getD j (0, 0)).2) := by
  obtain ⟨b, o, e, h0, _⟩ := h.1 0 (by have := h.2.1; omega)
  refine ⟨b, o, e, World.block_lt_of_cell? w _ h0, fun j hj => ?_⟩
  obtain ⟨b', o', e', hc⟩ := h.1 j (by have := h.2.1; omega)
  rw [e, Option.some.injEq, Addr.mk.injEq] at e'
  obtain ⟨rfl, rfl, _⟩ := e'
  exact hc
theorem own_prs {w : World} {base n : Nat} {v : Value} {l : List (Int × Int)} (h : w.ownsRow base 297 2 v n (pc l)) (hn : n ≤ 9223372036854775807) :
    ∃ a cap, v = .slice a n cap ∧ PArg w a n l ∧ (a = none → n = 0 ∧ cap = 0) ∧ n ≤ cap ∧ ∀ ad, a = some ad → ∃ g, ad = ⟨g, 0, none⟩ ∧ base ≤ g ∧ g < w.heap.size := by
  have hl : l.length = n := by have := h.1; rw [pc_len] at this; omega
  rcases h.2 with ⟨rfl, rfl⟩ | ⟨g, cap, cur, rfl, hg, hb, hc, hm, hs, ht⟩
  · have : l = [] := List.eq_nil_of_length_eq_zero hl
    subst this
    exact ⟨none, 0, rfl, PArg.nil _ _, fun _ => ⟨rfl, rfl⟩, Nat.le_refl _, fun ad e => by simp at e⟩
  · refine ⟨_, cap, rfl, ⟨fun j hj => ⟨g, 0, rfl, ?_, ?_⟩, hl, hn⟩, fun e => by simp at e, hc, fun ad e => ⟨g, by simpa using e.symm, hg, lt_of_block hb⟩⟩
    · rw [Nat.zero_add, h.cellAt (j * 2) (by omega), (pc_get l j hj).1]
    · rw [Nat.zero_add, h.cellAt (j * 2 + 1) (by omega), (pc_get l j hj).2]

/-- may it be a number that goes round -/
def inR (x : Int) : Bool := decide (0 ≤ x ∧ x ≤ 65535)
theorem within_calls (x m : Int) (w : World) : Calls Tryz.prog 212 #[.int .i64 x, .int .i64 m] w fun e w' => e = .returned (.bool (decide (0 ≤ x ∧ x ≤ m))) ∧ w' = w := by
  by_cases h : 0 ≤ x
  · have d : decide (0 ≤ x) = true := by simpa using h
    go_enter Tryz.func212, Tryz.ntmps212
    go_wp2_with fail
    go_ret
    exact ⟨by simp [h], rfl⟩
  · have d : decide (0 ≤ x) = false := by simpa using h
    go_enter Tryz.func212, Tryz.ntmps212
    go_wp2_with fail
    go_ret
    exact ⟨by simp, rfl⟩
theorem outside_calls (x : Int) (w : World) : Calls Tryz.prog 215 #[.int .i64 x] w fun e w' => e = .returned (.bool (!inR x)) ∧ w' = w := by
  have C := hidden (fun w => within_calls x 65535 w)
  have hb : decide (0 ≤ x ∧ x ≤ 65535) = inR x := rfl
  rw [hb] at C
  clear hb
  generalize inR x = b at *
  go_enter Tryz.func215, Tryz.ntmps215
  go_wp2_with fail
  refine (C.out _).mono ?_
  rintro e w' ⟨rfl, rfl⟩
  go_wp2_with fail
  go_ret
  exact ⟨rfl, rfl⟩
theorem pred_outside (w : World) : PredAt Tryz.prog 215 #[] (Value.int .i64) (fun x => !inR x) w := fun W x _ => by
  unfold FnGives
  refine (outside_calls x W).mono ?_
  rintro e w' ⟨rfl, rfl⟩
  exact ⟨rfl, 0, rfl⟩
theorem cont_calls (a : Option Addr) (n cap : Nat) (L : List Int) (w : World) (h : IArg w a n L) :
    Calls Tryz.prog 144 #[.slice a n cap, .func (.func 215) #[] #[]] w fun e w' => e = .returned (.bool (L.any fun x => !inR x)) ∧ ∃ q, w' = w.drewN q := by
  rcases Nat.eq_zero_or_pos n with rfl | hn
  · have : L = [] := List.eq_nil_of_length_eq_zero h.2.1
    subst this
    refine (Tryz.slices_ContainsFunc_empty (α := Int) a cap _ w).mono ?_
    rintro e w' ⟨rfl, rfl⟩
    exact ⟨rfl, 0, rfl⟩
  · obtain ⟨b, o, rfl, hc⟩ := h.at hn
    have hl := h.2.1
    have := Tryz.slices_ContainsFunc (Value.int .i64) (fun x => !inR x) 215 #[] (enters_of Tryz.func215 (by kernel_rfl) rfl) b o n cap L w (pred_outside w) (by omega) h.2.2 (fun j hj => by
      rw [hc j (by omega)]
      congr 2
      rw [List.getD_eq_getElem?_getD, getElem!_pos L j hj, List.getElem?_eq_getElem hj]
      rfl)
    rw [List.take_of_length_le (by omega)] at this
    exact this
theorem clone_calls (a : Option Addr) (n cap : Nat) (L : List Int) (w : World) (h : IArg w a n L) (hn : a = none → n = 0 ∧ cap = 0) (hb : n ≤ 1000000) :
    Calls Tryz.prog 113 #[.slice a n cap] w fun e w' => ∃ v', e = .returned v' ∧ w'.ownsRow w.heap.size 3 1 v' n (ic L) ∧ Below w.heap.size w w' := by
  cases a with
  | none =>
    obtain ⟨rfl, rfl⟩ := hn rfl
    have : L = [] := List.eq_nil_of_length_eq_zero h.2.1
    subst this
    refine (Tryz.slices_Clone_int_nil 0 0 w).mono ?_
    rintro e w' ⟨rfl, rfl⟩
    exact ⟨_, rfl, World.ownsRow_nil _ _ _ _, Below.refl _ _⟩
  | some ad =>
    rcases Nat.eq_zero_or_pos n with rfl | h0
    · have : L = [] := List.eq_nil_of_length_eq_zero h.2.1
      subst this
      refine (Tryz.slices_Clone_int_zero ad cap w).mono ?_
      rintro e w' ⟨v', rfl, ho, _, hb⟩
      exact ⟨v', rfl, ho, hb⟩
    · obtain ⟨b, o, e, hc⟩ := h.at h0
      rw [Option.some.injEq] at e
      subst e
      have hl := h.2.1
      refine (Tryz.slices_Clone_int b o n cap L w (by omega) (by omega) (fun j hj => hc j (by omega))).mono ?_
      rintro e w' ⟨v', rfl, ho, _, hb⟩
      rw [List.take_of_length_le (by omega)] at ho
      exact ⟨v', rfl, ho, hb⟩
theorem sort_calls (v : Value) (base n : Nat) (L : List Int) (w : World) (h : w.ownsRow base 3 1 v n (ic L)) (hb : n ≤ 1000000) :
    Calls Tryz.prog 74 #[v] w fun e w' => e = .returned (.tuple #[]) ∧ w'.ownsRow base 3 1 v n (ic (L.mergeSort fun x y => decide (x ≤ y))) ∧ w.grownBy w' v.ownBlock := by
  have hl : L.length = n := by have := h.1; rw [ic_len] at this; omega
  rcases h.2 with ⟨rfl, rfl⟩ | ⟨g, cap, cur, rfl, hg, hbl, hc, hm, hs, ht⟩
  · have : L = [] := List.eq_nil_of_length_eq_zero hl
    subst this
    refine (Tryz.slices_Sort_int_none none 0 w).mono ?_
    rintro e w' ⟨rfl, rfl⟩
    exact ⟨rfl, by simpa [ic] using World.ownsRow_nil _ _ _ _, World.grownBy.refl _ _⟩
  · subst hl
    refine (Tryz.slices_Sort_int g 0 cap L w (holds_of_blockI hbl (by simpa [ic] using ht)) (lt_of_block hbl) (by omega)).mono ?_
    rintro e w' ⟨rfl, n, os, rfl⟩
    exact ⟨rfl, ownsRow_sortedI (by simp) hg hbl hc hm hs, grownBy_sortedI _⟩
theorem ic_take {cur : Array Value} {L K : List Int} (h : L.length ≤ cur.size) (hk : K.length ≤ L.length) (x : List Int) (hx : L = K ++ x) : ((putCells (Value.int .i64) 0 L.toArray cur).toList.take K.length) = ic K := by
  have := take_putCellsI cur L h
  have e : (putCells (Value.int .i64) 0 L.toArray cur).toList.take K.length = ((putCells (Value.int .i64) 0 L.toArray cur).toList.take L.length).take K.length := by rw [List.take_take, Nat.min_eq_left hk]
  rw [e, this, hx, ic, List.map_append, List.take_left' (by simp)]
theorem compact_calls (v : Value) (base n : Nat) (L : List Int) (w : World) (h : w.ownsRow base 3 1 v n (ic L)) (hb : n ≤ 1000000) :
    Calls Tryz.prog 187 #[v] w fun e w' => ∃ v', e = .returned v' ∧ v'.ownBlock = v.ownBlock ∧ w'.ownsRow base 3 1 v' (compact L).length (ic (compact L)) ∧ w.grownBy w' v.ownBlock := by
  have hl : L.length = n := by have := h.1; rw [ic_len] at this; omega
  rcases h.2 with ⟨rfl, rfl⟩ | ⟨g, cap, cur, rfl, hg, hbl, hc, hm, hs, ht⟩
  · have : L = [] := List.eq_nil_of_length_eq_zero hl
    subst this
    refine (Tryz.slices_Compact_int_empty none 0 w).mono ?_
    rintro e w' ⟨rfl, rfl⟩
    exact ⟨_, rfl, rfl, World.ownsRow_nil _ _ _ _, World.grownBy.refl _ _⟩
  · subst hl
    refine (Tryz.slices_Compact_int g 0 cap L w (holds_of_blockI hbl (by simpa [ic] using ht)) (by omega) (by omega)).mono ?_
    rintro e w' ⟨rfl, n, rfl⟩
    have hlen := compact_len L
    generalize compact L = K at *
    have hp : putRow (Value.int .i64) (Sort.ahead w n) g 0 (K ++ List.replicate (L.length - K.length) 0).toArray = grow (putRow (Value.int .i64) (Sort.ahead w n) g 0 (K ++ List.replicate (L.length - K.length) 0).toArray) #[] := by simp
    rw [hp]
    refine ⟨_, rfl, rfl, ⟨by rw [ic_len]; omega, .inr ⟨g, cap, _, rfl, hg, heap_sortedI _ hbl, by omega, hm, by simp [putCells, hs], ?_⟩⟩, grownBy_sortedI _⟩
    rw [Nat.mul_one]
    exact ic_take (by simp; omega) (by simp) _ rfl
end Go.Proofs.YtpiamlgmadnepaaGreat.Back

