/-
  What the functions Items and Error of package choirsame return of what is the same; package order's and the reference's side by side. Their condition: both keep the same, such as it may be.
-/
import Derived.Test.YtenjemcehhocoaeDoorOrderG
import Derived.Test.YtenjemcehhocoaeDoorOrderL
import Derived.Test.YtenjemcehhocoaeDoorROrderE
import Derived.Test.YtenjemcehhocoaeDoorSame
import Derived.Test.YtenjemcehhocoaeDoorTold
import Derived.Test.YtenjemcehhocoaeDoorOpenP
namespace Go.Proofs.YtenjemcehhocoaeDoor.OPlays
open Go.ChangeShapes Go.WideShapes Go.ChangeAt Go.RowKit Go.Maps Go.Proofs.YtenjemcehhocoaeDoor.PM Go.Proofs.YtenjemcehhocoaeDoor.Mem Go.Proofs.YtenjemcehhocoaeDoor.Pack Go.Proofs.YtenjemcehhocoaeDoor.OM Go.Proofs.YtenjemcehhocoaeDoor.Order Go.Proofs.YtenjemcehhocoaeDoor.ROrder
set_option linter.unusedVariables false

/-- an item lies from an address on -/
def At8 (w : World) (gb o : Nat) (n : Int) (g : Bool) (s t l q : Int) (st : Bool) (bv : Value) : Prop :=
  w.cell? ⟨gb, o, none⟩ = some (.int .i64 n) ∧ w.cell? ⟨gb, o + 1, none⟩ = some (.bool g) ∧ w.cell? ⟨gb, o + 2, none⟩ = some (.int .i64 s) ∧ w.cell? ⟨gb, o + 3, none⟩ = some (.int .i64 t) ∧ w.cell? ⟨gb, o + 4, none⟩ = some (.int .i64 l) ∧ w.cell? ⟨gb, o + 5, none⟩ = some (.int .i64 q) ∧ w.cell? ⟨gb, o + 6, none⟩ = some (.bool st) ∧ w.cell? ⟨gb, o + 7, none⟩ = some bv
theorem At8.below {w w' : World} {gb o : Nat} {n : Int} {g : Bool} {s t l q : Int} {st : Bool} {bv : Value} (h : At8 w gb o n g s t l q st bv) (hb : Below w.heap.size w w') : At8 w' gb o n g s t l q st bv := by
  have key : ∀ (p : Addr) u, w.cell? p = some u → w'.cell? p = some u := fun p u hc => (hb.cell (World.block_lt_of_cell? w p hc)).trans hc
  obtain ⟨h0, h1, h2, h3, h4, h5, h6, h7⟩ := h
  exact ⟨key _ _ h0, key _ _ h1, key _ _ h2, key _ _ h3, key _ _ h4, key _ _ h5, key _ _ h6, key _ _ h7⟩
/-- two items that are the same -/
def Twin (w : World) (g1 g2 j : Nat) : Prop :=
  ∃ (n : Int) (g : Bool) (s t l q : Int) (st : Bool) (L : List Nat) (a : Option Addr) (m c : Nat) (a' : Option Addr) (m' c' : Nat), At8 w g1 (j * 8) n g s t l q st (.slice a m c) ∧ At8 w g2 (j * 8) n g s t l q st (.slice a' m' c') ∧ Arg w a m L ∧ Arg w a' m' L
theorem Twin.below {w w' : World} {g1 g2 j : Nat} (h : Twin w g1 g2 j) (hb : Below w.heap.size w w') : Twin w' g1 g2 j := by
  obtain ⟨n, g, s, t, l, q, st, L, a, m, c, a', m', c', h1, h2, h3, h4⟩ := h
  exact ⟨n, g, s, t, l, q, st, L, a, m, c, a', m', c', h1.below hb, h2.below hb, h3.below hb, h4.below hb⟩

set_option maxHeartbeats 4000000 in
set_option maxRecDepth 100000 in
theorem items_same (a1 a2 : Option Addr) (g1 g2 K c1 c2 : Nat) (w : World) (hK : K ≤ 1000) (h1 : 0 < K → a1 = some ⟨g1, 0, none⟩) (h2 : 0 < K → a2 = some ⟨g2, 0, none⟩) (hT : ∀ j, j < K → Twin w g1 g2 j) :
    Calls Tryd.prog 12 #[.slice a1 K c1, .slice a2 K c2] w fun e w' => e = .returned (.bool true) ∧ Below w.heap.size w w' := by
  have H1 := hidden h1
  have H2 := hidden h2
  have HT := hidden hT
  clear h1 h2 hT
  go_enter Tryd.func12, Tryd.ntmps12
  go_wp2_with fail
  go_loopg [5] K (fun gh y wr => ∃ (j : Nat), j + gh = K ∧ y = .int .i64 (j : Int) ∧ Hid (Below w.heap.size w wr))
  case atStart => exact ⟨0, by omega, rfl, Below.refl _ _⟩
  case round =>
    obtain ⟨j, hjg, rfl, HW⟩ := hrel
    by_cases hj : j < K
    · have hjz : (j : Int) < (K : Int) := by omega
      obtain rfl := H1.out (by omega)
      obtain rfl := H2.out (by omega)
      obtain ⟨n, g, s, t, l, q, st, L, a, m, c, a', m', c', f1, f2, hA0, hB0⟩ := HT.out j hj
      have HF01 := hidden f1
      have HF02 := hidden f2
      have e1 := f1.below HW.out
      have e2 := f2.below HW.out
      have hA := hA0.below HW.out
      have hB := hB0.below HW.out
      clear f1 f2 hA0 hB0
      have HE1 := hidden e1
      have HE2 := hidden e2
      have HA := hidden hA
      have HB := hidden hB
      have hj0 : (0 : Int) ≤ (j : Int) := by omega
      have HF : Hid (∀ W, (W.cell? ⟨g1, j * 8 + 2, none⟩ = some (.int .i64 s) ∧ W.cell? ⟨g1, j * 8 + 3, none⟩ = some (.int .i64 t) ∧ W.cell? ⟨g1, j * 8 + 4, none⟩ = some (.int .i64 l) ∧ W.cell? ⟨g1, j * 8 + 5, none⟩ = some (.int .i64 q) ∧ W.cell? ⟨g1, j * 8 + 6, none⟩ = some (.bool st) ∧ W.cell? ⟨g1, j * 8 + 7, none⟩ = some (.slice a m c) ∧ W.cell? ⟨g2, j * 8 + 2, none⟩ = some (.int .i64 s) ∧ W.cell? ⟨g2, j * 8 + 3, none⟩ = some (.int .i64 t) ∧ W.cell? ⟨g2, j * 8 + 4, none⟩ = some (.int .i64 l) ∧ W.cell? ⟨g2, j * 8 + 5, none⟩ = some (.int .i64 q) ∧ W.cell? ⟨g2, j * 8 + 6, none⟩ = some (.bool st) ∧ W.cell? ⟨g2, j * 8 + 7, none⟩ = some (.slice a' m' c') ∧ Hid (Below w.heap.size w W)) → Below wr.heap.size wr W → Calls Tryd.prog 29 #[.agg #[.int .i64 s, .int .i64 t, .int .i64 l, .int .i64 q, .bool st, .slice a m c], .agg #[.int .i64 s, .int .i64 t, .int .i64 l, .int .i64 q, .bool st, .slice a' m' c']] W fun e w' => e = .returned (.bool true) ∧ (w'.cell? ⟨g1, j * 8 + 2, none⟩ = some (.int .i64 s) ∧ w'.cell? ⟨g1, j * 8 + 3, none⟩ = some (.int .i64 t) ∧ w'.cell? ⟨g1, j * 8 + 4, none⟩ = some (.int .i64 l) ∧ w'.cell? ⟨g1, j * 8 + 5, none⟩ = some (.int .i64 q) ∧ w'.cell? ⟨g1, j * 8 + 6, none⟩ = some (.bool st) ∧ w'.cell? ⟨g1, j * 8 + 7, none⟩ = some (.slice a m c) ∧ w'.cell? ⟨g2, j * 8 + 2, none⟩ = some (.int .i64 s) ∧ w'.cell? ⟨g2, j * 8 + 3, none⟩ = some (.int .i64 t) ∧ w'.cell? ⟨g2, j * 8 + 4, none⟩ = some (.int .i64 l) ∧ w'.cell? ⟨g2, j * 8 + 5, none⟩ = some (.int .i64 q) ∧ w'.cell? ⟨g2, j * 8 + 6, none⟩ = some (.bool st) ∧ w'.cell? ⟨g2, j * 8 + 7, none⟩ = some (.slice a' m' c') ∧ Hid (Below w.heap.size w w'))) := by
        refine hidden ?_
        intro W hS hbW
        refine (same_pk s t l q st a a' m m' c c' L W (HA.out.below hbW) (HB.out.below hbW)).mono ?_
        rintro e w' ⟨rfl, hb⟩
        have k1 := (HE1.out.below hbW).below hb
        have k2 := (HE2.out.below hbW).below hb
        obtain ⟨_, _, q2, q3, q4, q5, q6, q7⟩ := k1
        obtain ⟨_, _, p2, p3, p4, p5, p6, p7⟩ := k2
        exact ⟨rfl, q2, q3, q4, q5, q6, q7, p2, p3, p4, p5, p6, p7, hidden ((HW.out.trans (hbW.mono HW.out.size)).trans (hb.mono (Nat.le_trans HW.out.size hbW.size)))⟩
      have hS0 : (wr.drew.cell? ⟨g1, j * 8 + 2, none⟩ = some (.int .i64 s) ∧ wr.drew.cell? ⟨g1, j * 8 + 3, none⟩ = some (.int .i64 t) ∧ wr.drew.cell? ⟨g1, j * 8 + 4, none⟩ = some (.int .i64 l) ∧ wr.drew.cell? ⟨g1, j * 8 + 5, none⟩ = some (.int .i64 q) ∧ wr.drew.cell? ⟨g1, j * 8 + 6, none⟩ = some (.bool st) ∧ wr.drew.cell? ⟨g1, j * 8 + 7, none⟩ = some (.slice a m c) ∧ wr.drew.cell? ⟨g2, j * 8 + 2, none⟩ = some (.int .i64 s) ∧ wr.drew.cell? ⟨g2, j * 8 + 3, none⟩ = some (.int .i64 t) ∧ wr.drew.cell? ⟨g2, j * 8 + 4, none⟩ = some (.int .i64 l) ∧ wr.drew.cell? ⟨g2, j * 8 + 5, none⟩ = some (.int .i64 q) ∧ wr.drew.cell? ⟨g2, j * 8 + 6, none⟩ = some (.bool st) ∧ wr.drew.cell? ⟨g2, j * 8 + 7, none⟩ = some (.slice a' m' c') ∧ Hid (Below w.heap.size w wr.drew)) := by
        obtain ⟨_, _, q2, q3, q4, q5, q6, q7⟩ := e1
        obtain ⟨_, _, p2, p3, p4, p5, p6, p7⟩ := e2
        exact ⟨q2, q3, q4, q5, q6, q7, p2, p3, p4, p5, p6, p7, hidden (HW.out.drew)⟩
      have HF1 := hidden (HF.out wr.drew hS0 ((Below.refl _ _).drew))
      clear e1 e2 hA hB HF
      go_wp2_with fail
      go_region_held3 (fun w' => w'.cell? ⟨g1, j * 8 + 2, none⟩ = some (.int .i64 s) ∧ w'.cell? ⟨g1, j * 8 + 3, none⟩ = some (.int .i64 t) ∧ w'.cell? ⟨g1, j * 8 + 4, none⟩ = some (.int .i64 l) ∧ w'.cell? ⟨g1, j * 8 + 5, none⟩ = some (.int .i64 q) ∧ w'.cell? ⟨g1, j * 8 + 6, none⟩ = some (.bool st) ∧ w'.cell? ⟨g1, j * 8 + 7, none⟩ = some (.slice a m c) ∧ w'.cell? ⟨g2, j * 8 + 2, none⟩ = some (.int .i64 s) ∧ w'.cell? ⟨g2, j * 8 + 3, none⟩ = some (.int .i64 t) ∧ w'.cell? ⟨g2, j * 8 + 4, none⟩ = some (.int .i64 l) ∧ w'.cell? ⟨g2, j * 8 + 5, none⟩ = some (.int .i64 q) ∧ w'.cell? ⟨g2, j * 8 + 6, none⟩ = some (.bool st) ∧ w'.cell? ⟨g2, j * 8 + 7, none⟩ = some (.slice a' m' c') ∧ Hid (Below w.heap.size w w')) (with_reducible assumption) (first | (go_at_call 29; refine HF1.out.mono ?_; rintro e w4 ⟨rfl, hS4⟩))
      have HB4 := hS4.2.2.2.2.2.2.2.2.2.2.2.2
      clear hS4 hS0 HF1
      obtain ⟨q0, q1, _⟩ := HF01.out.below HB4.out
      obtain ⟨p0, p1, _⟩ := HF02.out.below HB4.out
      go_wp2_with fail
      go_quiet (fail)
      go_wp2_with fail
      go_roundg (K - (j + 1))
      case measure => omega
      case rel => exact ⟨j + 1, by omega, by go_num, hidden (below_drewN HB4.out _)⟩
    · have hjz : ¬ (j : Int) < (K : Int) := by omega
      go_wp2_with fail
      go_ret
      exact ⟨rfl, HW.out⟩
/-- an error of a number is the one told -/
theorem told_f (f : Nat) (W : World) (hf : f ≤ 100) (hg : W.cell? ⟨0, 0, none⟩ = some (.iface 95 (.agg #[.pointer (some ⟨1, 26, none⟩)]))) :
    Calls Tryd.prog 5 #[errv f, .int .i64 (f : Int)] W fun e w' => e = .returned (.bool true) ∧ Below W.heap.size W w' := by
  by_cases h0 : f = 0
  · subst h0
    refine (Told.same_nil 0 W).mono ?_
    rintro e w' ⟨rfl, rfl⟩
    exact ⟨rfl, Below.refl _ _⟩
  · rw [errv_pos h0]
    refine (Told.same_err f f W (by omega) (by omega) hg).mono ?_
    rintro e w' ⟨rfl, hb⟩
    exact ⟨by simp, hb⟩

/-! what both keep -/
/-- an item, but for where its Body lies -/
def strip (i : Kp) : Int × Bool × Int × Int × Int × Int × Bool × List Nat × Int := (i.n, i.g, i.p.s, i.p.t, i.p.l, i.p.q, i.p.st, i.p.L, i.a)
def Like (M N : Its) : Prop := M.map strip = N.map strip
theorem like_n {i k : Kp} (h : strip i = strip k) : i.n = k.n := by simp [strip] at h; exact h.1
theorem like_a {i k : Kp} (h : strip i = strip k) : i.a = k.a := by simp [strip] at h; exact h.2.2.2.2.2.2.2.2
theorem Like.symm {M N : Its} (h : Like M N) : Like N M := Eq.symm h
theorem Like.len {M N : Its} (h : Like M N) : M.length = N.length := by
  have := congrArg List.length h
  simpa using this
theorem Like.mem {M N : Its} (h : Like M N) {i : Kp} (hi : i ∈ M) : ∃ k ∈ N, strip k = strip i := by
  have : strip i ∈ M.map strip := List.mem_map.2 ⟨i, hi, rfl⟩
  rw [h] at this
  obtain ⟨k, hk, e⟩ := List.mem_map.1 this
  exact ⟨k, hk, e⟩
theorem Like.has {M N : Its} (h : Like M N) (y : Int) : OM.has M y = OM.has N y := by
  have key : ∀ {M N : Its}, Like M N → OM.has M y = true → OM.has N y = true := by
    intro M N h hh
    obtain ⟨i, hi, e⟩ := has_iff.1 hh
    obtain ⟨k, hk, e2⟩ := h.mem hi
    exact has_iff.2 ⟨k, hk, (like_n e2).trans e⟩
  rw [Bool.eq_iff_iff]
  exact ⟨key h, key h.symm⟩
theorem Like.kx {M N : Its} (h : Like M N) (nx y : Int) : OM.kx nx y M = OM.kx nx y N := by unfold OM.kx; rw [h.has]
theorem Like.px {M N : Its} (h : Like M N) (nw nx y now : Int) (f : Nat) : OM.px nw nx y now M f = OM.px nw nx y now N f := by unfold OM.px; rw [h.kx]
theorem Like.app {M N : Its} (h : Like M N) {i k : Kp} (hi : strip i = strip k) : Like (M ++ [i]) (N ++ [k]) := by
  unfold Like
  rw [List.map_append, List.map_append, h]
  simp [hi]
theorem Like.push {M N : Its} (h : Like M N) (nw nx y now : Int) (f : Nat) (s t l q : Int) (st : Bool) (L : List Nat) (bv bv' : Value) : Like (pM nw nx y now M f ⟨s, t, l, q, st, L, bv⟩) (pM nw nx y now N f ⟨s, t, l, q, st, L, bv'⟩) := by
  unfold pM
  rw [h.px]
  split
  · exact h.app rfl
  · exact h
theorem Like.gone {M N : Its} (h : Like M N) (nw nx y now : Int) : Like (gM nw nx y now M) (gM nw nx y now N) := by
  unfold gM gx
  rw [h.kx]
  split
  · exact h.app rfl
  · exact h
theorem Like.rest {M N : Its} (h : Like M N) (x : Int) : Like (OM.rest M x) (OM.rest N x) := by
  have key : ∀ M : Its, (OM.rest M x).map strip = (M.map strip).filter fun p => decide (x ≤ p.1) := by
    intro M
    unfold OM.rest
    rw [List.filter_map]
    rfl
  unfold Like
  rw [key, key, h]
theorem Like.itm {M N : Its} (h : Like M N) (y : Int) : strip (OM.itm M y) = strip (OM.itm N y) := by
  have key : ∀ M : Its, strip (OM.itm M y) = ((M.map strip).find? fun p => p.1 == y).getD (strip (OM.gone y 0)) := by
    intro M
    unfold OM.itm
    rw [List.find?_map]
    have e : ((fun p : Int × Bool × Int × Int × Int × Int × Bool × List Nat × Int => p.1 == y) ∘ strip) = fun i : Kp => i.n == y := rfl
    rw [e]
    cases M.find? (fun i => i.n == y) <;> rfl
  rw [key, key, h]
theorem Like.od {M N : Its} (h : Like M N) {wt now od : Int} (ho : Od wt now M od) : Od wt now N od := by
  have hl : ∀ {i k : Kp}, strip i = strip k → late wt now i = late wt now k := by
    intro i k e
    unfold late
    rw [like_a e]
  refine ⟨ho.low, fun i hi hli => ?_, ?_⟩
  · obtain ⟨k, hk, e⟩ := h.symm.mem hi
    have := ho.all k hk (by rw [hl e]; exact hli)
    rw [like_n e] at this
    exact this
  · rcases ho.one with e | ⟨i, hi, hli, e⟩
    · exact .inl e
    · obtain ⟨k, hk, e2⟩ := h.mem hi
      exact .inr ⟨k, hk, by rw [hl e2]; exact hli, by rw [e, like_n e2]⟩
theorem Like.many {M N : Its} (h : Like M N) {wt nw nx now : Int} {K : Nat} (hK : Many wt nw nx now M K) : Many wt nw nx now N K := by
  refine ⟨hK.le, fun ht => ?_, hK.no⟩
  obtain ⟨od, ho, hs⟩ := hK.yes ht
  refine ⟨od, h.od ho, ⟨fun j hj => ?_, ?_⟩⟩
  · have := hs.all j hj
    unfold goes at this ⊢
    rw [← h.has]
    exact this
  · have := hs.stop
    unfold goes at this ⊢
    rw [← h.has]
    exact this

/-- both in memory, each as it stands -/
structure BSt (w W : World) (b mb rb : Nat) (wt nw nx : Int) (M : Its) (nw' nx' : Int) (N : Its) (v : Value) : Prop where
  bel : Below w.heap.size w W
  b1 : w.heap.size ≤ b
  b2 : w.heap.size ≤ mb
  b3 : w.heap.size ≤ rb
  ord : OrderAt W b mb wt nw nx M
  ref : RefAt W w.heap.size rb wt nw' nx' N v
theorem BSt.below {w W W' : World} {b mb rb : Nat} {wt nw nx : Int} {M : Its} {nw' nx' : Int} {N : Its} {v : Value} (h : BSt w W b mb rb wt nw nx M nw' nx' N v) (hb : Below W.heap.size W W') : BSt w W' b mb rb wt nw nx M nw' nx' N v :=
  { h with bel := h.bel.trans (hb.mono h.bel.size), ord := h.ord.below hb, ref := h.ref.below hb }
/-- the blocks of the two are apart -/
theorem apart_ref {w : World} {b mb rb base : Nat} {wt nw nx wt' nw' nx' : Int} {M N : Its} {v : Value} (h : OrderAt w b mb wt nw nx M) (hr : RefAt w base rb wt' nw' nx' N v) : ∀ k ∈ rb :: v.ownBlock.toList, k ∉ [b, mb] ∧ ∀ cs fr, w.heap[k]? ≠ some (.cells cs 5 fr) := by
  obtain ⟨h1, ⟨D, h2, _⟩, _⟩ := h
  obtain ⟨es, c, h3⟩ := map_block h2
  have key : ∀ k cs t, t ≠ 58 → t ≠ 5 → w.heap[k]? = some (.cells cs t (0, 0)) → k ∉ [b, mb] ∧ ∀ cs fr, w.heap[k]? ≠ some (.cells cs 5 fr) := by
    intro k cs t ht ht5 hk
    refine ⟨?_, ?_⟩
    · intro hc
      simp only [List.mem_cons, List.not_mem_nil, or_false] at hc
      rcases hc with rfl | rfl
      · rw [h1] at hk
        simp only [Option.some.injEq, Obj.cells.injEq] at hk
        exact ht hk.2.1.symm
      · rw [h3] at hk; simp at hk
    · intro cs' fr e
      rw [hk] at e
      simp only [Option.some.injEq, Obj.cells.injEq] at e
      exact ht5 e.2.1
  intro k hk
  rcases List.mem_cons.1 hk with rfl | hk
  · exact key _ _ 33 (by decide) (by decide) hr.box
  · obtain ⟨cs, hc⟩ := row_block hr.row (by simpa using hk)
    exact key _ _ 66 (by decide) (by decide) hc
/-- a step of the reference's -/
theorem BSt.refs {w W W1 : World} {b mb rb : Nat} {wt nw nx : Int} {M : Its} {nw' nx' nw2 nx2 : Int} {N N2 : Its} {v v2 : Value} (h : BSt w W b mb rb wt nw nx M nw' nx' N v) (ho : Only (rb :: v.ownBlock.toList) W W1) (hr : RefAt W1 w.heap.size rb wt nw2 nx2 N2 v2) : BSt w W1 b mb rb wt nw nx M nw2 nx2 N2 v2 := by
  have ha := apart_ref h.ord h.ref
  refine ⟨h.bel.trans (ho.below h.bel.size ?_), h.b1, h.b2, h.b3, h.ord.only ho ?_ ?_ (fun k hk => (ha k hk).2), hr⟩
  · intro k hk
    rcases List.mem_cons.1 hk with rfl | hk
    · exact h.b3
    · exact (h.ref.row.lt k (by simpa using hk)).1
  · intro hc; exact (ha b hc).1 (by simp)
  · intro hc; exact (ha mb hc).1 (by simp)
/-- a step of package order's -/
theorem BSt.ords {w W W1 : World} {b mb rb : Nat} {wt nw nx nw2 nx2 : Int} {M M2 : Its} {nw' nx' : Int} {N : Its} {v : Value} (h : BSt w W b mb rb wt nw nx M nw' nx' N v) (ho : Only [b, mb] W W1) (hO : OrderAt W1 b mb wt nw2 nx2 M2) : BSt w W1 b mb rb wt nw2 nx2 M2 nw' nx' N v := by
  have ha := apart_ref h.ord h.ref
  have b1 := h.b1
  have b2 := h.b2
  exact ⟨h.bel.trans (ho.below h.bel.size (by simp; omega)), h.b1, h.b2, h.b3, hO, h.ref.only ho (ha rb (by simp)).1 (fun k hk => (ha k (by simp [hk])).1)⟩
/-- what both keep is the same -/
structure Rel (w : World) (nw nx : Int) (M N : Its) : Prop where
  i1 : OM.Inv nw nx M
  i2 : OM.Inv nw nx N
  like : Like M N
  ok : ∀ i ∈ N, Open.PkOk w i.p
theorem Rel.slices {w : World} {nw nx : Int} {M N : Its} (h : Rel w nw nx M N) : Slices N := by
  intro i hi
  obtain ⟨a, m, c, e, _⟩ := h.ok i hi
  exact ⟨a, m, c, e⟩
theorem rel_start (w : World) : Rel w 0 (-1) [] [] := ⟨inv_start, inv_start, rfl, by simp⟩
theorem Rel.push {w : World} {nw nx : Int} {M N : Its} (h : Rel w nw nx M N) (y now : Int) (f : Nat) (s t l q : Int) (st : Bool) (L : List Nat) (bv bv' : Value) (hok : Open.PkOk w ⟨s, t, l, q, st, L, bv'⟩) : Rel w (pW nw nx y now f) (pX nw nx y now f) (pM nw nx y now M f ⟨s, t, l, q, st, L, bv⟩) (pM nw nx y now N f ⟨s, t, l, q, st, L, bv'⟩) := by
  refine ⟨inv_push h.i1 f _, inv_push h.i2 f _, h.like.push _ _ _ _ _ _ _ _ _ _ _ _ _, ?_⟩
  intro i hi
  unfold pM at hi
  split at hi
  · rcases List.mem_append.1 hi with hi | hi
    · exact h.ok i hi
    · simp only [List.mem_singleton] at hi
      subst hi
      exact hok
  · exact h.ok i hi
theorem ok_z (w : World) : Open.PkOk w zpk := ⟨none, 0, 0, rfl, ⟨Bys.nil _ _, rfl, by omega⟩, fun _ => ⟨rfl, rfl⟩⟩
theorem Rel.gone {w : World} {nw nx : Int} {M N : Its} (h : Rel w nw nx M N) (y now : Int) : Rel w (gW nw nx y now) nx (gM nw nx y now M) (gM nw nx y now N) := by
  refine ⟨inv_gone h.i1, inv_gone h.i2, h.like.gone _ _ _ _, ?_⟩
  intro i hi
  unfold gM at hi
  split at hi
  · rcases List.mem_append.1 hi with hi | hi
    · exact h.ok i hi
    · simp only [List.mem_singleton] at hi
      subst hi
      exact ok_z w
  · exact h.ok i hi
theorem Rel.pop {w : World} {wt nw nx now : Int} {M N : Its} {K : Nat} (h : Rel w nw nx M N) (hK : Many wt nw nx now M K) : Rel w (qW nw now) (nx + (K : Int)) (rest M (nx + (K : Int))) (rest N (nx + (K : Int))) :=
  ⟨inv_many h.i1 hK, inv_many h.i2 (h.like.many hK), h.like.rest _, fun i hi => h.ok i (List.mem_filter.1 hi).1⟩
/-- what both hand out is the same -/
theorem twins {w W : World} {nw nx : Int} {M N : Its} {K B1 B2 : Nat} {a1 a2 : Option Addr} {c1 c2 : Nat} (h : Rel w nw nx M N) (hb : Below w.heap.size w W) (hB : Bodies W (takes M nx K)) (r1 : W.ownsRow B1 64 8 (.slice a1 K c1) K (flat c8 (takes M nx K))) (r2 : W.ownsRow B2 64 8 (.slice a2 K c2) K (flat c8 (takes N nx K))) :
    ∃ g1 g2, (0 < K → a1 = some ⟨g1, 0, none⟩) ∧ (0 < K → a2 = some ⟨g2, 0, none⟩) ∧ ∀ j, j < K → Twin W g1 g2 j := by
  have key : ∀ {X : Its} {a : Option Addr} {c B : Nat}, X.length = K → 0 < K → W.ownsRow B 64 8 (.slice a K c) K (flat c8 X) → ∃ g, a = some ⟨g, 0, none⟩ ∧ ∀ j i, X[j]? = some i → ∀ k, k < 8 → W.cell? ⟨g, j * 8 + k, none⟩ = (c8 i)[k]? := by
    intro X a c B hl hK hr
    subst hl
    rcases row_form hr with ⟨_, e⟩ | ⟨g, c', e, _⟩
    · rw [e] at hK; simp at hK
    · simp only [Value.slice.injEq, true_and] at e
      obtain ⟨rfl, rfl⟩ := e
      exact ⟨g, rfl, fun j i hj k hk => row_cell c8_len hr hj k hk⟩
  by_cases hK : 0 < K
  case neg => exact ⟨0, 0, fun h => absurd h hK, fun h => absurd h hK, fun j hj => absurd hj (by omega)⟩
  obtain ⟨g1, e1, q1⟩ := key (takes_len M nx K) hK r1
  obtain ⟨g2, e2, q2⟩ := key (takes_len N nx K) hK r2
  refine ⟨g1, g2, fun _ => e1, fun _ => e2, fun j hj => ?_⟩
  have t1 := q1 j _ (takes_get M nx K j hj)
  have t2 := q2 j _ (takes_get N nx K j hj)
  have hl := h.like.itm (nx + (j : Int))
  obtain ⟨a, m, c, eb, hrow, hL, hm⟩ := hB _ (List.mem_of_getElem? (takes_get M nx K j hj))
  obtain ⟨a', m', c', eb', hA', _⟩ : Open.PkOk w (itm N (nx + (j : Int))).p := by
    by_cases hh : has N (nx + (j : Int)) = true
    · exact h.ok _ (itm_has hh).1
    · rw [itm_no (by simpa using hh)]
      exact ok_z w
  obtain ⟨a0, k0, e0, hA, _⟩ := own_slice hrow hL (by omega)
  cases e0
  generalize itm M (nx + (j : Int)) = i at *
  generalize itm N (nx + (j : Int)) = k at *
  simp only [strip, Prod.mk.injEq] at hl
  obtain ⟨l1, l2, l3, l4, l5, l6, l7, l8, _⟩ := hl
  refine ⟨i.n, i.g, i.p.s, i.p.t, i.p.l, i.p.q, i.p.st, i.p.L, a, m, c, a', m', c', ?_, ?_, hA, by rw [l8]; exact hA'.below hb⟩
  · have u := fun n (hn : n < 8) => t1 n hn
    unfold c8 at u
    rw [eb] at u
    exact ⟨u 0 (by omega), u 1 (by omega), u 2 (by omega), u 3 (by omega), u 4 (by omega), u 5 (by omega), u 6 (by omega), u 7 (by omega)⟩
  · have u := fun n (hn : n < 8) => t2 n hn
    unfold c8 at u
    rw [eb', ← l1, ← l2, ← l3, ← l4, ← l5, ← l6, ← l7] at u
    exact ⟨u 0 (by omega), u 1 (by omega), u 2 (by omega), u 3 (by omega), u 4 (by omega), u 5 (by omega), u 6 (by omega), u 7 (by omega)⟩
end Go.Proofs.YtenjemcehhocoaeDoor.OPlays
