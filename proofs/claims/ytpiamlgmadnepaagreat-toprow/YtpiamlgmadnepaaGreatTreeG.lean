/-
  What nearest and leastWays of package tree return: the least ways from a root. They change nothing that was there.
-/
import Derived.Test.YtpiamlgmadnepaaGreatTreeF
namespace Go.Proofs.YtpiamlgmadnepaaGreat.Tree
open Go.ChangeShapes Go.WideShapes Go.ChangeAt Go.RowKit Go.Proofs.YtpiamlgmadnepaaGreat.Mem Go.Proofs.YtpiamlgmadnepaaGreat.TM
set_option linter.unusedVariables false

/-- a block that holds sixteen bools -/
def ArrB (w : World) (g : Nat) (F : Nat → Bool) : Prop := ∃ cs : Array Value, w.heap[g]? = some (.cells cs 183 (0, 0)) ∧ cs.size = 16 ∧ ∀ j, j < 16 → cs[j]? = some (.bool (F j))
theorem ArrB.cell {w : World} {g : Nat} {F : Nat → Bool} (h : ArrB w g F) {j : Nat} (hj : j < 16) : w.cell? ⟨g, j, none⟩ = some (.bool (F j)) := by
  obtain ⟨cs, h1, _, h3⟩ := h
  simp [World.cell?, h1, h3 j hj]
theorem ArrB.free {w : World} {g : Nat} {F : Nat → Bool} (h : ArrB w g F) (j : Nat) : w.frozen? ⟨g, j, none⟩ = false := by
  obtain ⟨cs, h1, _⟩ := h
  simp [World.frozen?, h1]
theorem ArrB.only {w w' : World} {g : Nat} {F : Nat → Bool} {bs : List Nat} (h : ArrB w g F) (ho : Only bs w w') (hg : g ∉ bs) : ArrB w' g F := by
  obtain ⟨cs, h1, h2⟩ := h
  exact ⟨cs, ho.block h1 hg, h2⟩
theorem ArrB.lt {w : World} {g : Nat} {F : Nat → Bool} (h : ArrB w g F) : g < w.heap.size := by
  obtain ⟨cs, h1, _⟩ := h
  exact lt_of_block h1
theorem ArrB.set {w : World} {g : Nat} {F : Nat → Bool} (h : ArrB w g F) {y : Nat} (hy : y < 16) (v : Bool) : ArrB (w.setCell ⟨g, y, none⟩ (.bool v)) g (upd F y v) := by
  obtain ⟨cs, h1, h2, h3⟩ := h
  refine ⟨_, heap_setCell_same w g y cs 183 (.bool v) h1, by simpa using h2, fun j hj => ?_⟩
  rw [Array.getElem?_setIfInBounds]
  by_cases e : y = j
  · subst e
    rw [if_pos rfl, if_pos (by omega)]
    simp [upd]
  · rw [if_neg e, h3 j hj]
    have : ¬ j = y := fun q => e q.symm
    simp [upd, this]
def zb : Array Value := Array.replicate 16 (.bool false)
theorem ArrB.new (w : World) : ArrB (w.alloc (.cells zb 183)) w.heap.size (fun _ => false) := by
  refine ⟨_, heap_alloc_new w _, by simp [zb], fun j hj => ?_⟩
  unfold zb
  rw [Array.getElem?_replicate, if_pos hj]

set_option maxHeartbeats 2000000 in
theorem may_calls (g x : Nat) (F : Nat → Bool) (w : World) (h : ArrB w g F) (hx : x < 16) : Calls Tryz.prog 99 #[.int .i64 (x : Int), .pointer (some ⟨g, 0, none⟩)] w fun e w' => e = .returned (.bool (!F x)) ∧ w' = w := by
  have hc := h.cell hx
  have hx' : (x : Int) < 16 := by omega
  clear h
  generalize F x = b at *
  go_enter Tryz.func99, Tryz.ntmps99
  go_wp2_with fail
  go_ret
  exact ⟨rfl, rfl⟩
set_option maxHeartbeats 4000000 in
set_option maxRecDepth 100000 in
theorem nearest_calls (a : Option Addr) (n cap g : Nat) (d : List Int) (F : Nat → Bool) (w : World) (h : IArg w a n d) (hg : ArrB w g F) (hn : n ≤ 16) :
    Calls Tryz.prog 98 #[.slice a n cap, .func (.func 99) #[] #[.pointer (some ⟨g, 0, none⟩)]] w fun e w' => ∃ f, e = .returned (.int .i64 f) ∧ NearTo d F n f ∧ w' = w := by
  have hl := h.2.1
  have HA := hidden h
  have HG := hidden hg
  clear h hg
  go_enter Tryz.func98, Tryz.ntmps98
  go_wp2_with fail
  go_loopg [5, 10] n (fun k u v wr => ∃ (j : Nat) (f : Int), j + k = n ∧ u = .int .i64 f ∧ v = .int .i64 (j : Int) ∧ Hid (NearTo d F j f) ∧ w = wr)
  case atStart => exact ⟨0, -1, by omega, rfl, rfl, near_start _ _, rfl⟩
  case round =>
    obtain ⟨j, f, hjk, rfl, rfl, HN, rfl⟩ := hrel
    by_cases hj : j < n
    · have hjz : (j : Int) < (n : Int) := by omega
      obtain ⟨b, o, rfl, hcs⟩ := HA.out.at (by omega)
      have c0 := hcs j hj
      have C := hidden (may_calls g j F w HG.out (by omega))
      by_cases h1 : dg d j = -1
      · rw [h1] at c0
        have HN1 := hidden (near_skip HN.out (.inl h1))
        clear h1 hcs
        go_wp2_with fail
        go_roundg (n - (j + 1))
        case measure => omega
        case rel => exact ⟨j + 1, f, by omega, rfl, by go_num, HN1, rfl⟩
      · have d1 : (dg d j != -1) = true := bne_iff_ne.2 h1
        cases h2 : F j with
        | true =>
          rw [h2] at C
          have HN1 := hidden (near_skip HN.out (.inr h2))
          clear h2 hcs h1
          generalize dg d j = x at *
          go_wp2_with fail
          refine C.out.mono ?_
          rintro e w1 ⟨rfl, rfl⟩
          go_wp2_with fail
          go_roundg (n - (j + 1))
          case measure => omega
          case rel => exact ⟨j + 1, f, by omega, rfl, by go_num, HN1, rfl⟩
        | false =>
          rw [h2] at C
          rcases near_cases HN.out with rfl | ⟨k, rfl, hk⟩
          · have HN1 := hidden (near_first HN.out h1 h2)
            clear h2 hcs h1
            generalize dg d j = x at *
            go_wp2_with fail
            refine C.out.mono ?_
            rintro e w1 ⟨rfl, rfl⟩
            go_wp2_with fail
            go_roundg (n - (j + 1))
            case measure => omega
            case rel => exact ⟨j + 1, j, by omega, rfl, by go_num, HN1, rfl⟩
          · have c1 := hcs k (by omega)
            have hk1 : ((k : Int) == -1) = false := beq_eq_false_iff_ne.2 (by omega)
            have hkz : (k : Int) < (n : Int) := by omega
            by_cases h3 : dg d j < dg d k
            · have d3 : decide (dg d j < dg d k) = true := by simpa using h3
              have HN1 := hidden (near_less HN.out h1 h2 h3)
              clear h2 hcs h1 h3
              generalize dg d j = x at *
              generalize dg d k = y at *
              go_wp2_with fail
              refine C.out.mono ?_
              rintro e w1 ⟨rfl, rfl⟩
              go_wp2_with fail
              go_roundg (n - (j + 1))
              case measure => omega
              case rel => exact ⟨j + 1, j, by omega, rfl, by go_num, HN1, rfl⟩
            · have d3 : decide (dg d j < dg d k) = false := by simpa using h3
              have HN1 := hidden (near_stay HN.out h3)
              clear h2 hcs h1 h3
              generalize dg d j = x at *
              generalize dg d k = y at *
              go_wp2_with fail
              refine C.out.mono ?_
              rintro e w1 ⟨rfl, rfl⟩
              go_wp2_with fail
              go_roundg (n - (j + 1))
              case measure => omega
              case rel => exact ⟨j + 1, k, by omega, rfl, by go_num, HN1, rfl⟩
    · have hjz : ¬ (j : Int) < (n : Int) := by omega
      obtain rfl : j = n := by omega
      go_wp2_with fail
      go_ret
      exact ⟨f, rfl, HN.out, rfl⟩

/-- costs, how far each is, and who is done, in memory -/
structure LSt (w wr : World) (g1 gd gb n : Nat) (L : List Ed) (d : List Int) (S : Nat → Bool) : Prop where
  bel : Below w.heap.size w wr
  lo : w.heap.size ≤ gb
  mat : MB wr g1 (fc L)
  own : wr.ownsRow w.heap.size 3 1 (.slice (some ⟨gd, 0, none⟩) n n) n (ic d)
  don : ArrB wr gb S
theorem own_block {w : World} {base g n cap : Nat} {L : List Int} (h : w.ownsRow base 3 1 (.slice (some ⟨g, 0, none⟩) n cap) n (ic L)) : base ≤ g ∧ ∃ cur, w.heap[g]? = some (.cells cur 3 (0, 0)) := by
  rcases h.2 with ⟨h, _⟩ | ⟨g', cap', cur, e, hg, hb, _⟩
  · simp at h
  · simp only [Value.slice.injEq, Option.some.injEq, Addr.mk.injEq, and_true] at e
    obtain ⟨rfl, _⟩ := e
    exact ⟨hg, cur, hb⟩
theorem LSt.ne {w wr : World} {g1 gd gb n : Nat} {L : List Ed} {d : List Int} {S : Nat → Bool} (h : LSt w wr g1 gd gb n L d S) : gd ≠ g1 ∧ gd ≠ gb ∧ gb ≠ g1 := by
  obtain ⟨_, cur, h1⟩ := own_block h.own
  obtain ⟨C, h2, _⟩ := h.mat
  obtain ⟨cs, h3, _⟩ := h.don
  refine ⟨?_, ?_, ?_⟩
  · rintro rfl; rw [h1] at h2; simp at h2
  · rintro rfl; rw [h1] at h3; simp at h3
  · rintro rfl; rw [h2] at h3; simp at h3
theorem LSt.store {w wr : World} {g1 gd gb n : Nat} {L : List Ed} {d : List Int} {S : Nat → Bool} (h : LSt w wr g1 gd gb n L d S) (j : Nat) (v : Int) : LSt w (wr.setCell ⟨gd, j, none⟩ (.int .i64 v)) g1 gd gb n L (d.set j v) S := by
  obtain ⟨n1, n2, n3⟩ := h.ne
  have o : Only [gd] wr (wr.setCell ⟨gd, j, none⟩ (.int .i64 v)) := (Only.refl _ _).setCell (by simp) _
  exact ⟨h.bel.setCell (own_block h.own).1 _, h.lo, h.mat.only o (by simpa using fun e => n1 e.symm), own_set h.own j v, h.don.only o (by simpa using fun e => n2 e.symm)⟩
theorem LSt.mark {w wr : World} {g1 gd gb n k : Nat} {L : List Ed} {d : List Int} {S : Nat → Bool} (h : LSt w wr g1 gd gb n L d S) (hk : k < 16) : LSt w (wr.setCell ⟨gb, k, none⟩ (.bool true)) g1 gd gb n L d (upd S k true) := by
  obtain ⟨n1, n2, n3⟩ := h.ne
  have o : Only [gb] wr (wr.setCell ⟨gb, k, none⟩ (.bool true)) := (Only.refl _ _).setCell (by simp) _
  exact ⟨h.bel.setCell h.lo _, h.lo, h.mat.only o (by simpa using fun e => n3 e.symm), o.owns h.own (by intro q hq; simp [Value.ownBlock] at hq; subst hq; simpa using n2), h.don.set hk true⟩
theorem LSt.arg {w wr : World} {g1 gd gb n : Nat} {L : List Ed} {d : List Int} {S : Nat → Bool} (h : LSt w wr g1 gd gb n L d S) (hn : n ≤ 16) : IArg wr (some ⟨gd, 0, none⟩) n d := by
  obtain ⟨a, cap, e, h1, _⟩ := own_ints h.own (by omega)
  simp only [Value.slice.injEq] at e
  rw [e.1]; exact h1
/-- behind a look at the first j from k -/
def At (L : List Ed) (d c : List Int) (k n j : Nat) : Prop := ∀ x, x < n → dg c x = if x < j then nv L d k x else dg d x
theorem at_stay {L : List Ed} {d c : List Int} {k n j : Nat} (h : At L d c k n j) (hv : nv L d k j = dg d j) : At L d c k n (j + 1) := fun x hx => by
  rw [h x hx]
  by_cases e : x = j
  · subst e; rw [if_neg (by omega), if_pos (by omega), hv]
  · by_cases q : x < j
    · rw [if_pos q, if_pos (by omega)]
    · rw [if_neg q, if_neg (by omega)]
theorem at_set {L : List Ed} {d c : List Int} {k n j : Nat} {v : Int} (h : At L d c k n j) (hl : c.length = n) (hj : j < n) (hv : nv L d k j = v) : At L d (c.set j v) k n (j + 1) := fun x hx => by
  rw [dg_set (by omega)]
  by_cases e : x = j
  · rw [if_pos e, if_pos (by omega), e, hv]
  · rw [if_neg e, h x hx]
    by_cases q : x < j
    · rw [if_pos q, if_pos (by omega)]
    · rw [if_neg q, if_neg (by omega)]
theorem wrap_id {x : Int} (h1 : -9223372036854775808 ≤ x) (h2 : x ≤ 9223372036854775807) : IntKind.i64.wrap x = x := by rw [IntKind.wrap_i64]; omega
end Go.Proofs.YtpiamlgmadnepaaGreat.Tree

